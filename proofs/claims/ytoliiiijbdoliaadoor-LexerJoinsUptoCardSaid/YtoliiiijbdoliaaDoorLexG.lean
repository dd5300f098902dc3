/- Contracts of the program's hexByte and character (lexer). -/
import Derived.Test.YtoliiiijbdoliaaDoorLexF
namespace Go.Proofs.YtoliiiijbdoliaaDoor
open Go.RowKit Go.Lib
set_option linter.unusedVariables false

theorem char_slice (s : ByteArray) (i : Nat) (h : i < s.size) (w : World) : (Instr.sliceAt 9 (.string s) (some (.int .i64 (i : Int))) (some (.int .i64 ((i : Int) + 1))) none).run Tryd.prog w = .ok (.string ⟨#[s[i]]⟩) w := by
  rw [run_sliceAt_string _ _ _ _ _ _ Tryd.underlying9, run_slice_string w _ s .i64 .i64 (i : Int) ((i : Int) + 1) Tryd.underlying9 (by omega) (by omega) (by omega)]
  congr 2
  rw [show ((i : Int) + 1).toNat = i + 1 by omega, Int.toNat_natCast]
  apply ByteArray.ext
  rw [ByteArray.data_extract]
  apply Array.ext'
  rw [Array.toList_extract, List.extract_eq_take_drop, show i + 1 - i = 1 by omega, List.drop_eq_getElem_cons (by rw [Array.length_toList]; exact h), List.take_succ_cons, List.take_zero]
  rfl
theorem slice_fromS (s : ByteArray) (i : Nat) (h : i ≤ s.size) (hm : s.size ≤ 9223372036854775807) (w : World) : (Instr.sliceAt 9 (.string s) (some (.int .i64 (i : Int))) none none).run Tryd.prog w = .ok (.string ⟨(s.data.toList.drop i).toArray⟩) w := by
  rw [run_sliceAt_string _ _ _ _ _ _ Tryd.underlying9, run_slice_string_from_if w 9 s .i64 (i : Int) Tryd.underlying9, if_pos (by omega)]
  congr 2
  apply ByteArray.ext
  rw [ByteArray.data_extract]
  apply Array.ext'
  rw [Array.toList_extract, List.extract_eq_take_drop, Int.toNat_natCast]
  rw [List.take_of_length_le (by rw [List.length_drop, Array.length_toList]; show s.size - i ≤ _; omega)]
/-- What is known of hexByte at a round. -/
def HRel (l : List UInt8) (i : Nat) (a : Int) : Prop := (i = 0 → a = 0) ∧ (i = 1 → ∃ c r v, l = c :: r ∧ hexV c = some v ∧ a = (v : Int) ∧ v ≤ 15) ∧ (i = 2 → ∃ c, escL l = (c, 0) ∧ a = (c.toNat : Int))
set_option maxHeartbeats 8000000 in
set_option maxRecDepth 100000 in
theorem hexByte_any (s : ByteArray) (hs : s.size ≤ 281474976710656) (w : World) (hT : TabL w) :
    Calls Tryd.prog 42 #[.string s] w fun e w' => e = .returned (.tuple #[.int .u8 ((escL s.data.toList).1.toNat : Int), .int .i64 ((escL s.data.toList).2 : Nat)]) ∧ Below w.heap.size w w' := by
  have HT := Lib.hid hT
  have PU := Lib.hid (fun c w h => parse8_one c w h)
  have hl := lenB s
  have hsI : (s.size : Int) ≤ 281474976710656 := by omega
  clear hT hs
  go_enter Tryd.func42, Tryd.ntmps42
  go_wp2_with fail
  go_loopw [4, 8] (fun s4 s8 wr => ∃ (i : Nat) (a : Int), i ≤ 2 ∧ i ≤ s.size ∧ s4 = .int .u8 a ∧ s8 = .int .i64 (i : Int) ∧ Hid (HRel s.data.toList i a) ∧ Hid (Below w.heap.size w wr)) (fun _ s8 _ => 2 - (RowKit.intOf s8).toNat)
  case atStart => exact ⟨0, 0, by omega, by omega, rfl, rfl, Lib.hid ⟨fun _ => rfl, fun h => by omega, fun h => by omega⟩, Lib.hid (Below.refl _ _)⟩
  case round =>
    obtain ⟨i, a, hi, his, rfl, rfl, HR, HB⟩ := hrel
    by_cases h2 : i = 2
    · subst h2
      obtain ⟨c, hc, hac⟩ := HR.out.2.2 rfl
      have HA := Lib.hid hac
      have HC := Lib.hid hc
      clear hc hac
      go_wp2_with fail
      go_ret2
      exact ⟨by rw [HC.out, HA.out]; rfl, HB.out⟩
    · have hi2 : (i : Int) < 2 := by omega
      have hi0 : (0 : Int) ≤ (i : Int) := by omega
      have hab : 0 ≤ a ∧ a ≤ 15 := by
        rcases (show i = 0 ∨ i = 1 by omega) with rfl | rfl
        · have := HR.out.1 rfl
          omega
        · obtain ⟨c, r, v, h1, h2, h3, h4⟩ := HR.out.2.1 rfl
          omega
      obtain ⟨ha0, ha1⟩ := hab
      by_cases hlt : i < s.size
      · have hq : (i == s.size) = false := by rw [beq_eq_false_iff_ne]; omega
        have hqI : ((i : Int) == (s.size : Int)) = false := by rw [beq_eq_false_iff_ne]; omega
        have st := char_slice s i hlt
        have hltI : (i : Int) < (s.size : Int) := by omega
        have hdrop := drop_consB s i hlt
        generalize s[i] = c0 at st hdrop
        have PU0 := Lib.hid (fun w h => PU.out c0 w h)
        generalize (⟨#[c0]⟩ : ByteArray) = sc at st PU0
        have HD := Lib.hid hdrop
        clear hdrop
        go_wp2_with fail
        go_fit (PU0.out _ (HT.out.below HB.out))
        rintro e w1 ⟨⟨x, er, rfl, hx⟩, hb⟩
        have HB1 := Lib.hid (HB.out.trans (hb.mono HB.out.size))
        clear hb
        rcases hx with ⟨rfl, hv, hx15⟩ | ⟨⟨te, pe, rfl⟩, hv⟩
        · have hxI : (x : Int) ≤ 15 := by omega
          have HR1 := Lib.hid (show HRel s.data.toList (i + 1) (16 * a + (x : Int)) from by
            refine ⟨fun h => by omega, fun h => ?_, fun h => ?_⟩
            · obtain rfl : i = 0 := by omega
              have ha := HR.out.1 rfl
              exact ⟨c0, s.data.toList.drop (0 + 1), x, HD.out, hv, by omega, hx15⟩
            · obtain rfl : i = 1 := by omega
              obtain ⟨c, r, v, h1, h2, h3, h4⟩ := HR.out.2.1 rfl
              have hd := HD.out
              rw [h1] at hd ⊢
              rw [List.drop_succ_cons, List.drop_zero] at hd
              refine ⟨UInt8.ofNat (16 * v + x), ?_, ?_⟩
              · rw [hd]
                simp only [escL, h2, hv]
              · rw [h3, UInt8.toNat_ofNat']
                omega)
          clear hv hx15
          go_wp2_with fail
          exact ⟨⟨i + 1, 16 * a + (x : Int), by omega, by omega, rfl, by go_num, HR1, HB1⟩, by simp [RowKit.intOf]; omega⟩
        · have HE := Lib.hid (show escL s.data.toList = (0, 5) from by
            rcases (show i = 0 ∨ i = 1 by omega) with rfl | rfl
            · have hd := HD.out
              rw [List.drop_zero] at hd
              rw [hd]
              simp only [escL, hv]
            · obtain ⟨c, r, v, h1, h2, h3, h4⟩ := HR.out.2.1 rfl
              have hd := HD.out
              rw [h1] at hd ⊢
              rw [List.drop_succ_cons, List.drop_zero] at hd
              rw [hd]
              simp only [escL, h2, hv])
          clear hv
          go_wp2_with fail
          go_ret2
          exact ⟨by rw [HE.out]; rfl, HB1.out⟩
      · obtain rfl : i = s.size := by omega
        have hq : (s.size == s.size) = true := beq_self_eq_true _
        have hqI : ((s.size : Int) == (s.size : Int)) = true := beq_self_eq_true _
        have HE := Lib.hid (show escL s.data.toList = (0, 4) from by
          rcases (show s.size = 0 ∨ s.size = 1 by omega) with h0 | h0
          · have : s.data.toList = [] := List.eq_nil_of_length_eq_zero (by omega)
            rw [this]
            rfl
          · obtain ⟨c, r, v, h1, h2, h3, h4⟩ := HR.out.2.1 h0
            have hr : r = [] := by
              rw [h1] at hl
              simp at hl
              exact List.eq_nil_of_length_eq_zero (by omega)
            rw [h1, hr]
            simp only [escL, h2])
        clear hlt
        go_wp2_with fail
        go_ret2
        exact ⟨by rw [HE.out]; rfl, HB.out⟩
theorem extract_drop (s : ByteArray) (i : Nat) : (s.extract i s.size).data.toList = s.data.toList.drop i := by
  rw [ByteArray.data_extract, Array.toList_extract, List.extract_eq_take_drop, List.take_of_length_le (by rw [List.length_drop, Array.length_toList]; show s.size - i ≤ _; omega)]
theorem ixS (s : ByteArray) (k : Int) (i : Nat) (hk : k = (i : Int)) (h : i < s.size) (w : World) : (Instr.index 9 (.string s) (.int .i64 k)).run Tryd.prog w = .ok (.int .u8 ((s[i]).toNat : Int)) w := by
  subst hk
  rw [run_index_string w _ _ _ _ Tryd.underlying9, dif_pos ⟨by omega, by omega⟩]
  rfl
theorem chrA_cons (c : UInt8) (r : List UInt8) : chrA (c :: r) = if c.toNat < 32 then (0, 0, 5) else if c ≠ 92 then (c, 1, 0) else match r with
      | [] => (0, 0, 4)
      | d :: q => if d = 34 ∨ d = 92 then (d, 2, 0) else if d = 110 then (10, 2, 0) else if d = 116 then (9, 2, 0) else if d = 120 then (if (escL q).2 = 0 then ((escL q).1, 4, 0) else (0, 0, (escL q).2)) else (0, 0, 5) := rfl
/-- What character answers. -/
def ChrPost (l : List UInt8) (w : World) (e : Ending) (w' : World) : Prop := ∃ c n : Int, e = .returned (.tuple #[.int .u8 c, .int .i64 n, .int .i64 ((chrA l).2.2 : Nat)]) ∧ ((chrA l).2.2 = 0 → c = ((chrA l).1.toNat : Int) ∧ n = ((chrA l).2.1 : Nat)) ∧ Below w.heap.size w w'
theorem ChrPost.of {l : List UInt8} {w w' : World} {x : UInt8 × Nat × Nat} (h : chrA l = x) {c n er : Int} (he : er = (x.2.2 : Nat)) (hc : x.2.2 = 0 → c = (x.1.toNat : Int) ∧ n = (x.2.1 : Nat)) (hb : Below w.heap.size w w') : ChrPost l w (.returned (.tuple #[.int .u8 c, .int .i64 n, .int .i64 er])) w' := by
  unfold ChrPost
  rw [h]
  exact ⟨c, n, by rw [he], hc, hb⟩
set_option maxHeartbeats 8000000 in
set_option maxRecDepth 100000 in
theorem character_any (s : ByteArray) (h0 : 0 < s.size) (hs : s.size ≤ 281474976710656) (w : World) (hT : TabL w) :
    Calls Tryd.prog 37 #[.string s] w (ChrPost s.data.toList w) := by
  have HT := Lib.hid hT
  have hl := lenB s
  have hcons : s.data.toList = s[0] :: s.data.toList.drop 1 := by
    have h := drop_consB s 0 h0
    rwa [List.drop_zero] at h
  have hch := chrA_cons s[0] (s.data.toList.drop 1)
  rw [← hcons] at hch
  have i0 := fun w => ixS s 0 0 rfl h0 w
  have h0I : (0 : Int) < (s.size : Int) := by omega
  obtain ⟨c, hc⟩ : ∃ c, c = s[0] := ⟨_, rfl⟩
  rw [← hc] at hch i0
  have hc9 := c.toNat_lt
  have hcI : (0 : Int) ≤ (c.toNat : Int) ∧ (c.toNat : Int) ≤ 255 := by omega
  clear hc hT
  by_cases k1 : c.toNat < 32
  · have q1 : (c.toNat : Int) < 32 := by omega
    rw [if_pos k1] at hch
    have HC := Lib.hid hch
    clear hch k1 hcons hc9
    generalize c.toNat = cn at *
    go_enter Tryd.func37, Tryd.ntmps37
    go_wp2_with fail
    go_ret3
    exact ChrPost.of HC.out rfl (fun h => absurd h (by decide)) (Below.refl _ _)
  have q1 : ¬ (c.toNat : Int) < 32 := by omega
  rw [if_neg k1] at hch
  by_cases k2 : c = 92
  · rw [if_neg (fun h => h k2)] at hch
    have q2 : ((c.toNat : Int) == 92) = true := by rw [k2]; rfl
    have q2n : ((c.toNat : Int) != 92) = false := by rw [k2]; rfl
    clear k1 k2 hc9
    by_cases k3 : s.size = 1
    · have hd : s.data.toList.drop 1 = [] := List.drop_eq_nil_of_le (by omega)
      rw [hd] at hch
      have q3 : ((s.size : Int) == 1) = true := by rw [k3]; rfl
      have HC := Lib.hid hch
      clear hch hcons hd k3
      generalize c.toNat = cn at *
      go_enter Tryd.func37, Tryd.ntmps37
      go_wp2_with fail
      go_ret3
      exact ChrPost.of HC.out rfl (fun h => absurd h (by decide)) (Below.refl _ _)
    · have h1 : 1 < s.size := by omega
      have q3 : ((s.size : Int) == 1) = false := by rw [beq_eq_false_iff_ne]; omega
      have hd : s.data.toList.drop 1 = s[1] :: s.data.toList.drop 2 := drop_consB s 1 h1
      rw [hd] at hch
      have i1 := fun w => ixS s 1 1 rfl h1 w
      have h1I : (1 : Int) < (s.size : Int) := by omega
      have HB := Lib.hid (fun w h => hexByte_any (s.extract 2 s.size) (by rw [← lenB, extract_drop, List.length_drop]; omega) w h)
      rw [extract_drop] at HB
      obtain ⟨d, hdd⟩ : ∃ d, d = s[1] := ⟨_, rfl⟩
      rw [← hdd] at hch i1
      have hd9 := d.toNat_lt
      have hdI : (0 : Int) ≤ (d.toNat : Int) ∧ (d.toNat : Int) ≤ 255 := by omega
      generalize s.data.toList.drop 2 = q at hch HB hd
      simp only at hch
      have inj : ∀ n : Nat, n < 256 → d ≠ UInt8.ofNat n → ((d.toNat : Int) == (n : Int)) = false := fun n hn h => by
        rw [beq_eq_false_iff_ne]
        intro e
        exact h (u8_of hn (by omega))
      clear k3 hd hdd hcons
      by_cases d1 : d = 34 ∨ d = 92
      · rw [if_pos d1] at hch
        have HC := Lib.hid hch
        have HI := Lib.hid hdI
        rcases d1 with rfl | rfl
        · clear hch inj
          go_enter Tryd.func37, Tryd.ntmps37
          go_wp2_with fail
          go_ret3
          exact ChrPost.of HC.out rfl (fun _ => ⟨rfl, rfl⟩) (Below.refl _ _)
        · clear hch inj
          go_enter Tryd.func37, Tryd.ntmps37
          go_wp2_with fail
          go_ret3
          exact ChrPost.of HC.out rfl (fun _ => ⟨rfl, rfl⟩) (Below.refl _ _)
      rw [if_neg d1] at hch
      have e34 := inj 34 (by decide) (fun h => d1 (.inl h))
      have e92 := inj 92 (by decide) (fun h => d1 (.inr h))
      by_cases d2 : d = 110
      · rw [if_pos d2] at hch
        have HC := Lib.hid hch
        subst d2
        clear hch inj e34 e92 d1
        go_enter Tryd.func37, Tryd.ntmps37
        go_wp2_with fail
        go_ret3
        exact ChrPost.of HC.out rfl (fun _ => ⟨rfl, rfl⟩) (Below.refl _ _)
      rw [if_neg d2] at hch
      have e110 := inj 110 (by decide) d2
      by_cases d3 : d = 116
      · rw [if_pos d3] at hch
        have HC := Lib.hid hch
        subst d3
        clear hch inj e34 e92 e110 d1 d2
        go_enter Tryd.func37, Tryd.ntmps37
        go_wp2_with fail
        go_ret3
        exact ChrPost.of HC.out rfl (fun _ => ⟨rfl, rfl⟩) (Below.refl _ _)
      rw [if_neg d3] at hch
      have e116 := inj 116 (by decide) d3
      by_cases d4 : d = 120
      · rw [if_pos d4] at hch
        have HC := Lib.hid hch
        subst d4
        generalize escL q = p at HB hch HC
        obtain ⟨px, pe⟩ := p
        have hpx := px.toNat_lt
        have hpI : (0 : Int) ≤ (px.toNat : Int) ∧ (px.toNat : Int) ≤ 255 := by omega
        clear hch inj e34 e92 e110 e116 d1 d2 d3 hpx
        go_enter Tryd.func37, Tryd.ntmps37
        go_wp2_with fail
        go_fit (HB.out _ HT.out)
        rintro e w1 ⟨rfl, hb⟩
        have B1 := Lib.hid hb
        clear hb
        go_wp2_with fail
        go_ret3
        by_cases hp : pe = 0
        · have h := HC.out
          rw [if_pos hp] at h
          exact ChrPost.of h (by rw [hp]) (fun _ => ⟨rfl, rfl⟩) B1.out
        · have h := HC.out
          rw [if_neg hp] at h
          exact ChrPost.of h rfl (fun h0 => absurd h0 hp) B1.out
      · rw [if_neg d4] at hch
        have e120 := inj 120 (by decide) d4
        have HC := Lib.hid hch
        clear hch inj d1 d2 d3 d4
        generalize d.toNat = dn at *
        go_enter Tryd.func37, Tryd.ntmps37
        go_wp2_with fail
        go_ret3
        exact ChrPost.of HC.out rfl (fun h => absurd h (by decide)) (Below.refl _ _)
  · rw [if_pos k2] at hch
    have q2n : ((c.toNat : Int) != 92) = true := by
      rw [bne_iff_ne]
      intro e
      exact k2 (u8_of (n := 92) (by decide) (by omega))
    have HC := Lib.hid hch
    clear hch k1 k2 hcons hc9
    go_enter Tryd.func37, Tryd.ntmps37
    go_wp2_with fail
    go_ret3
    exact ChrPost.of HC.out rfl (fun _ => ⟨rfl, rfl⟩) (Below.refl _ _)
end Go.Proofs.YtoliiiijbdoliaaDoor
