/- Contracts of functions of the program, and what they are made of (parser; Pk14). -/
import Derived.Test.YtjehhldboopocaaGreatDoorPk13
import Derived.Lib.AtoiAll
import Derived.Lib.SlTrimSet
import Derived.Shelf.Strings.SlTrimAscii
namespace Go.Proofs.YtjehhldboopocaaGreatDoor.Lx
open Go.RowKit Go.Lib
set_option linter.unusedVariables false
def dg : List UInt8 := [48, 49, 50, 51, 52, 53, 54, 55, 56, 57]
theorem dg_iff (c : UInt8) : dg.contains c = true ↔ 48 ≤ c.toNat ∧ c.toNat ≤ 57 := by
  constructor
  · intro h
    simp only [dg, List.contains_cons, List.contains_nil, Bool.or_false, Bool.or_eq_true, beq_iff_eq] at h
    rcases h with rfl | rfl | rfl | rfl | rfl | rfl | rfl | rfl | rfl | rfl <;> decide
  · rintro ⟨h1, h2⟩
    have : c = 48 ∨ c = 49 ∨ c = 50 ∨ c = 51 ∨ c = 52 ∨ c = 53 ∨ c = 54 ∨ c = 55 ∨ c = 56 ∨ c = 57 := by
      simp only [← UInt8.toNat_inj]
      simp only [UInt8.reduceToNat]
      omega
    rcases this with rfl | rfl | rfl | rfl | rfl | rfl | rfl | rfl | rfl | rfl <;> decide

/-- The number that digits spell. -/
def stepV (a : Nat) (c : UInt8) : Nat := 10 * a + (c.toNat - 48)
def valL (acc : Nat) (l : List UInt8) : Nat := l.foldl stepV acc
theorem valL_nil (acc : Nat) : valL acc [] = acc := rfl
theorem valL_cons (acc : Nat) (c : UInt8) (r : List UInt8) : valL acc (c :: r) = valL (10 * acc + (c.toNat - 48)) r := by
  unfold valL
  rw [List.foldl_cons, stepV]
theorem valL_ge : ∀ (l : List UInt8) (acc : Nat), acc ≤ valL acc l
  | [], acc => by rw [valL_nil]; exact Nat.le_refl _
  | c :: r, acc => by
    rw [valL_cons]
    have := valL_ge r (10 * acc + (c.toNat - 48))
    omega
theorem uint_digits : ∀ (l : List UInt8) (acc : Nat), (∀ c ∈ l, 48 ≤ c.toNat ∧ c.toNat ≤ 57) → acc < 18446744073709551616 →
    Lib.parseUint10 acc l = if valL acc l < 18446744073709551616 then .ok (valL acc l) else .range
  | [], acc, _, h => by rw [Lib.parseUint10, valL_nil, if_pos h]
  | c :: r, acc, hd, h => by
    have hc := hd c (List.mem_cons_self)
    have hge := valL_ge r (10 * acc + (c.toNat - 48))
    rw [Lib.parseUint10, if_pos hc, valL_cons]
    split
    · rw [if_neg (by omega)]
    · split
      · rw [if_neg (by omega)]
      · rw [show acc * 10 + (c.toNat - 48) = 10 * acc + (c.toNat - 48) by omega]
        exact uint_digits r _ (fun x hx => hd x (List.mem_cons_of_mem _ hx)) (by omega)
theorem atoi_digits {l : List UInt8} (h0 : l ≠ []) (hd : ∀ c ∈ l, 48 ≤ c.toNat ∧ c.toNat ≤ 57) :
    Lib.atoiAll l = (if valL 0 l < 9223372036854775808 then .ok ((valL 0 l : Nat) : Int) else .range) ∧ Lib.atoiSat l = 9223372036854775807 := by
  cases l with
  | nil => exact absurd rfl h0
  | cons c r =>
    have hc := hd c (List.mem_cons_self)
    constructor
    · unfold Lib.atoiAll
      simp only []
      rw [if_neg (by omega), Lib.parseMag, if_neg (by simp), uint_digits _ 0 hd (by omega)]
      by_cases h1 : valL 0 (c :: r) < 18446744073709551616
      · rw [if_pos h1]
        simp only []
        by_cases h2 : valL 0 (c :: r) < 9223372036854775808
        · rw [if_neg (by omega), if_neg (by omega), if_pos h2, if_neg (by omega)]
        · rw [if_pos (by omega), if_neg h2]
      · rw [if_neg h1, if_neg (by omega)]
    · unfold Lib.atoiSat
      rw [if_neg]
      simp
      omega

theorem dw_nil {p : UInt8 → Bool} : ∀ l : List UInt8, l.dropWhile p = [] ↔ l.all p = true
  | [] => by simp
  | a :: l => by
    rw [List.dropWhile_cons, List.all_cons]
    cases h : p a
    · simp
    · simp only [if_true, Bool.true_and]
      exact dw_nil l
theorem trim_all (l cs : List UInt8) : (Lib.trimS l cs).isEmpty = l.all (cs.contains ·) := by
  unfold Lib.trimS Lib.trimLeftS Lib.trimRightS
  cases h : l.all (cs.contains ·)
  · obtain ⟨x, hx1, hx2⟩ : ∃ x, x ∈ l ∧ cs.contains x = false := by
      rw [← Bool.not_eq_true, List.all_eq_true] at h
      apply Classical.byContradiction
      intro hn
      apply h
      intro x hx
      cases hc : cs.contains x
      · exact absurd ⟨x, hx, hc⟩ hn
      · rfl
    have h1 : l.reverse.dropWhile (cs.contains ·) ≠ [] := by
      intro e
      have := (dw_nil l.reverse).1 e
      rw [List.all_eq_true] at this
      have := this x (by simpa using hx1)
      rw [hx2] at this
      cases this
    have h2 : (l.reverse.dropWhile (cs.contains ·)).reverse.dropWhile (cs.contains ·) ≠ [] := by
      intro e
      have h3 := (dw_nil _).1 e
      rw [List.all_eq_true] at h3
      obtain ⟨y, r, hy⟩ := List.exists_cons_of_ne_nil h1
      have h4 := List.head_dropWhile_not (cs.contains ·) h1
      have h5 : cs.contains ((l.reverse.dropWhile (cs.contains ·)).head h1) = true := h3 _ (by rw [List.mem_reverse]; exact List.head_mem h1)
      rw [h4] at h5
      cases h5
    cases hh : (l.reverse.dropWhile (cs.contains ·)).reverse.dropWhile (cs.contains ·) with
    | nil => exact absurd hh h2
    | cons a b => rfl
  · have h1 : l.reverse.dropWhile (cs.contains ·) = [] := (dw_nil _).2 (by rw [List.all_reverse]; exact h)
    rw [h1]
    rfl
theorem dg_dgB (c : UInt8) : dg.contains c = dgB c := by
  cases h : dgB c
  · cases h2 : dg.contains c
    · rfl
    · have := (dg_iff c).1 h2
      unfold dgB at h
      simp at h
      omega
  · have : 48 ≤ c.toNat ∧ c.toNat ≤ 57 := by unfold dgB at h; simpa using h
    exact (dg_iff c).2 this
/-- The error of a number's text. -/
def numE (w : List UInt8) : Nat := if w.all dgB = false ∨ (1 < w.length ∧ w.head? = some 48) then 5 else if 9007199254740992 < undec w then 2 else 0
set_option maxHeartbeats 8000000 in
set_option maxRecDepth 100000 in
theorem validNumber_any (s : ByteArray) (h0 : 0 < s.size) (hs : s.size ≤ 1099511627776) (w : World) (hT : TabL w) :
    Calls Tryz.prog 120 #[.string s] w fun e w' => e = .returned (.int .i64 (numE s.data.toList : Nat)) ∧ Below w.heap.size w w' := by
  have HT := Lib.hid hT
  have hl := lenB s
  have TR := Lib.hid (fun w => Any.strings_Trim_laid Tryz.lays160 (by kernel_rfl) s ⟨#[48, 49, 50, 51, 52, 53, 54, 55, 56, 57]⟩ w (by omega) (by decide) (by intro j b h; match j, h with
    | 0, h => cases h; decide
    | 1, h => cases h; decide
    | 2, h => cases h; decide
    | 3, h => cases h; decide
    | 4, h => cases h; decide
    | 5, h => cases h; decide
    | 6, h => cases h; decide
    | 7, h => cases h; decide
    | 8, h => cases h; decide
    | 9, h => cases h; decide))
  have hta := trim_all s.data.toList dg
  rw [show (⟨#[48, 49, 50, 51, 52, 53, 54, 55, 56, 57]⟩ : ByteArray).data.toList = dg from rfl] at TR
  have hdd : (fun x => dg.contains x) = dgB := funext dg_dgB
  rw [hdd] at hta
  obtain ⟨x, hx⟩ : ∃ x : ByteArray, x = ⟨(Lib.trimS s.data.toList dg).toArray⟩ := ⟨_, rfl⟩
  rw [← hx] at TR
  have hxe : x.toList.isEmpty = s.data.toList.all dgB := by rw [Lib.toList_data, hx]; exact hta
  have hcons : s.data.toList = s[0] :: s.data.toList.drop 1 := by
    have h := drop_consB s 0 h0
    rwa [List.drop_zero] at h
  have hhd : s.data.toList.head? = some s[0] := by rw [hcons]; rfl
  have hne : s.data.toList ≠ [] := by rw [hcons]; simp
  have i0 := fun w => ixS s 0 0 rfl h0 w
  have h0I : (0 : Int) < (s.size : Int) := by omega
  have hc9 := (s[0]).toNat_lt
  have hcI : (0 : Int) ≤ ((s[0]).toNat : Int) ∧ ((s[0]).toNat : Int) ≤ 255 := by omega
  clear hx hta hdd hT hcons
  cases ha : s.data.toList.all dgB
  · have HE := Lib.hid (show numE s.data.toList = 5 from by unfold numE; rw [if_pos (.inl ha)])
    rw [ha] at hxe
    clear ha hhd hne hc9
    generalize (s[0]).toNat = cn at *
    go_enter Tryz.func120, Tryz.ntmps120
    go_wp2_with fail
    go_fit (TR.out _)
    rintro e w1 ⟨rfl, hb⟩
    have B1 := Lib.hid hb
    clear hb
    go_wp2_with fail
    go_ret
    exact ⟨by rw [HE.out]; rfl, B1.out⟩
  · rw [ha] at hxe
    by_cases hz : 1 < s.size ∧ s[0] = 48
    · have HE := Lib.hid (show numE s.data.toList = 5 from by unfold numE; rw [if_pos (.inr ⟨by omega, by rw [hhd, hz.2]⟩)])
      have q1 : (1 : Int) < (s.size : Int) := by omega
      have q2 : (((s[0]).toNat : Int) == 48) = true := by rw [hz.2]; rfl
      clear ha hhd hne hc9 hz
      generalize (s[0]).toNat = cn at *
      go_enter Tryz.func120, Tryz.ntmps120
      go_wp2_with fail
      go_fit (TR.out _)
      rintro e w1 ⟨rfl, hb⟩
      have B1 := Lib.hid hb
      clear hb
      go_wp2_with fail
      go_ret
      exact ⟨by rw [HE.out]; rfl, B1.out⟩
    · have hd : ∀ c ∈ s.data.toList, 48 ≤ c.toNat ∧ c.toNat ≤ 57 := by
        intro c hc
        have := List.all_eq_true.1 ha c hc
        unfold dgB at this
        simpa using this
      obtain ⟨hat, _⟩ := atoi_digits hne hd
      have hnn : ¬ (s.data.toList.all dgB = false ∨ (1 < s.data.toList.length ∧ s.data.toList.head? = some 48)) := by
        rintro (h | ⟨h1, h2⟩)
        · rw [ha] at h
          cases h
        · rw [hhd] at h2
          injection h2 with h2
          exact hz ⟨by omega, h2⟩
      have hE : numE s.data.toList = if 9007199254740992 < valL 0 s.data.toList then 2 else 0 := by unfold numE; rw [if_neg hnn]; rfl
      generalize valL 0 s.data.toList = n at hat hE
      have hzc : ((1 : Int) < (s.size : Int) ∧ (((s[0]).toNat : Int) == 48) = false) ∨ ¬ (1 : Int) < (s.size : Int) := by
        by_cases h : 1 < s.size
        · left
          refine ⟨by omega, ?_⟩
          rw [beq_eq_false_iff_ne]
          intro e
          exact hz ⟨h, u8_of (n := 48) (by decide) (by omega)⟩
        · right; omega
      clear ha hhd hne hc9 hz hd hnn
      generalize (s[0]).toNat = cn at *
      by_cases hn : n < 9223372036854775808
      · rw [if_pos hn] at hat
        have AT := Lib.hid (fun w => Tryz.strconv_Atoi_ok s (by omega) _ hat w)
        have hEn := Lib.hid hE
        obtain ⟨z, hzz⟩ : ∃ z : Int, z = (n : Int) := ⟨_, rfl⟩
        rw [← hzz] at AT
        have hz0 : 0 ≤ z ∧ z < 9223372036854775808 := by omega
        have HZ := Lib.hid hzz
        clear hat hE hn hzz
        rcases hzc with ⟨q1, q2⟩ | q1
        all_goals
          by_cases hbig : 9007199254740992 < z
          · go_enter Tryz.func120, Tryz.ntmps120
            go_wp2_with fail
            go_fit (TR.out _)
            rintro e w1 ⟨rfl, hb⟩
            have B1 := Lib.hid hb
            clear hb
            go_wp2_with fail
            go_fit (AT.out _)
            rintro e w2 ⟨rfl, hb⟩
            have B2 := Lib.hid (show Below w1.heap.size w1 w2 from by
              rcases hb with rfl | ⟨t, rfl⟩
              · exact Below.refl _ _
              · exact ⟨rfl, rfl, rfl, by rw [Lib.bytesWorld_size]; omega, fun j hj => Lib.bytesWorld_at_old w1 5 t j hj⟩)
            clear hb
            go_wp2_with fail
            go_ret
            exact ⟨by rw [hEn.out, if_pos (by have := HZ.out; omega)]; rfl, B1.out.trans (B2.out.mono B1.out.size)⟩
          · go_enter Tryz.func120, Tryz.ntmps120
            go_wp2_with fail
            go_fit (TR.out _)
            rintro e w1 ⟨rfl, hb⟩
            have B1 := Lib.hid hb
            clear hb
            go_wp2_with fail
            go_fit (AT.out _)
            rintro e w2 ⟨rfl, hb⟩
            have B2 := Lib.hid (show Below w1.heap.size w1 w2 from by
              rcases hb with rfl | ⟨t, rfl⟩
              · exact Below.refl _ _
              · exact ⟨rfl, rfl, rfl, by rw [Lib.bytesWorld_size]; omega, fun j hj => Lib.bytesWorld_at_old w1 5 t j hj⟩)
            clear hb
            go_wp2_with fail
            go_ret
            exact ⟨by rw [hEn.out, if_neg (by have := HZ.out; omega)]; rfl, B1.out.trans (B2.out.mono B1.out.size)⟩
      · rw [if_neg hn] at hat
        have AT := Lib.hid (fun (te : TypeId) (pe : Value) w h => Tryz.strconv_Atoi_range s (by omega) hat (.iface te pe) w h (.inr ⟨te, pe, rfl⟩))
        have HE := Lib.hid (show numE s.data.toList = 2 from by rw [hE, if_pos (by omega)])
        clear hat hE hn
        rcases hzc with ⟨q1, q2⟩ | q1
        all_goals
          go_enter Tryz.func120, Tryz.ntmps120
          go_wp2_with fail
          go_fit (TR.out _)
          rintro e w1 ⟨rfl, hb⟩
          have B1 := Lib.hid hb
          obtain ⟨te, pe, hte⟩ := (HT.out.below hb).2.2.1
          have AT1 := Lib.hid (AT.out te pe _ hte)
          clear hb hte
          go_wp2_with fail
          go_fit (AT1.out)
          rintro e w2 ⟨N, rfl, _, _, hb⟩
          have B2 := Lib.hid (B1.out.trans (hb.mono B1.out.size))
          clear hb
          go_wp2_with fail
          go_ret
          exact ⟨by rw [HE.out]; rfl, B2.out⟩
end Go.Proofs.YtjehhldboopocaaGreatDoor.Lx
