/- Contract of the program's unquoted (lexer): a literal's bytes and length. -/
import Derived.Test.YtoliiiijbdoliaaDoorLexG
import Derived.OwnWalk
namespace Go.Proofs.YtoliiiijbdoliaaDoor
open Go.RowKit Go.Lib
set_option linter.unusedVariables false

/-- A string's text and length without a limit. -/
def txtU : Nat → List UInt8 → List UInt8 → Nat → List UInt8 × Nat × Nat
  | 0, _, _, _ => ([], 0, 4)
  | _ + 1, [], _, _ => ([], 0, 4)
  | n + 1, c :: r, acc, k =>
    if c = 34 then (acc, k + 1, 0)
    else if (chrA (c :: r)).2.2 ≠ 0 then ([], 0, (chrA (c :: r)).2.2)
    else txtU n ((c :: r).drop (chrA (c :: r)).2.1) (acc ++ [(chrA (c :: r)).1]) (k + (chrA (c :: r)).2.1)
theorem txtU_cons (n : Nat) (c : UInt8) (r acc : List UInt8) (k : Nat) : txtU (n + 1) (c :: r) acc k = if c = 34 then (acc, k + 1, 0) else if (chrA (c :: r)).2.2 ≠ 0 then ([], 0, (chrA (c :: r)).2.2) else txtU n ((c :: r).drop (chrA (c :: r)).2.1) (acc ++ [(chrA (c :: r)).1]) (k + (chrA (c :: r)).2.1) := rfl
theorem txtN_U : ∀ (n : Nat) (l acc : List UInt8) (k : Nat), txtN n l acc k = if (txtU n l acc k).2.2 = 0 ∧ 4096 < (txtU n l acc k).1.length then ([], 0, 3) else txtU n l acc k
  | 0, l, acc, k => rfl
  | n + 1, [], acc, k => rfl
  | n + 1, c :: r, acc, k => by
    rw [txtU_cons]
    unfold txtN
    by_cases h1 : c = 34
    · rw [if_pos h1, if_pos h1]
      by_cases h2 : 4096 < acc.length
      · rw [if_pos h2, if_pos ⟨rfl, h2⟩]
      · rw [if_neg h2, if_neg (fun h => h2 h.2)]
    · rw [if_neg h1, if_neg h1]
      by_cases h2 : (chrA (c :: r)).2.2 ≠ 0
      · rw [if_pos h2, if_pos h2, if_neg (fun h => h2 h.1)]
      · rw [if_neg h2, if_neg h2]
        exact txtN_U n _ _ _
theorem drop_drop' (l : List UInt8) (i n : Nat) : (l.drop i).drop n = l.drop (i + n) := by rw [List.drop_drop]
set_option maxHeartbeats 8000000 in
set_option maxRecDepth 100000 in
theorem unquoted_any (s : ByteArray) (h0 : 0 < s.size) (hs : s.size ≤ 1099511627776) (w : World) (hT : TabL w) :
    Calls Tryd.prog 32 #[.string s] w fun e w' => e = .returned (.tuple #[.string ⟨(txtU (s.data.toList.tail.length + 1) s.data.toList.tail [] 1).1.toArray⟩, .int .i64 ((txtU (s.data.toList.tail.length + 1) s.data.toList.tail [] 1).2.1 : Nat), .int .i64 ((txtU (s.data.toList.tail.length + 1) s.data.toList.tail [] 1).2.2 : Nat)]) ∧ Below w.heap.size w w' := by
  obtain ⟨i0, hi, hz0, hz1, hz2⟩ := info_parts info8
  have HT := Lib.hid hT
  have hl := lenB s
  have ht : s.data.toList.tail = s.data.toList.drop 1 := by rw [List.drop_one]
  obtain ⟨R, hR⟩ : ∃ R, R = txtU (s.data.toList.tail.length + 1) s.data.toList.tail [] 1 := ⟨_, rfl⟩
  rw [← hR]
  have HS0 := Lib.hid (show ∃ m, (s.data.toList.drop 1).length < m ∧ R = txtU m (s.data.toList.drop 1) [] 1 from ⟨_, Nat.lt_succ_self _, by rw [hR, ht]⟩)
  have h0I : (1 : Int) ≤ (s.size : Int) := by omega
  have hsI : (s.size : Int) ≤ 1099511627776 := by omega
  have CH := Lib.hid (fun x (hx : 0 < x.size) (hx2 : x.size ≤ 281474976710656) w h => character_any x hx hx2 w h)
  clear hT hR ht
  go_enter Tryd.func32, Tryd.ntmps32
  go_wp2_with fail
  go_loopw [5, 6] (fun s4 s5 wr => ∃ (k n : Nat) (acc : List UInt8), k ≤ s.size ∧ 1 ≤ k ∧ n = acc.length ∧ n ≤ k ∧ s5 = .int .i64 (k : Int) ∧ Hid (∃ m, (s.data.toList.drop k).length < m ∧ R = txtU m (s.data.toList.drop k) acc k) ∧ Hid (wr.ownsRow w.heap.size 5 1 s4 n (Lib.byteCells acc)) ∧ Hid (Below w.heap.size w wr)) (fun _ s5 _ => s.size - (RowKit.intOf s5).toNat)
  case atStart => exact ⟨1, 0, [], by omega, by omega, rfl, by omega, rfl, HS0, Lib.hid (World.ownsRow_nil _ _ _ _), Lib.hid (Below.refl _ _)⟩
  case round =>
    obtain ⟨k, n, acc, hk, hk1, hn, hnk, rfl, HR, HO, HB⟩ := hrel
    have hkI : (k : Int) ≤ 1099511627776 := by omega
    have hk0 : (1 : Int) ≤ (k : Int) := by omega
    by_cases hlt : k < s.size
    · have hltI : (k : Int) < (s.size : Int) := by omega
      have hk00 : (0 : Int) ≤ (k : Int) := by omega
      have hcons := drop_consB s k hlt
      have ix := fun w => ixS s (k : Int) k rfl hlt w
      obtain ⟨c, hc⟩ : ∃ c, c = s[k] := ⟨_, rfl⟩
      rw [← hc] at hcons ix
      have hc9 := c.toNat_lt
      have hcI : (0 : Int) ≤ (c.toNat : Int) ∧ (c.toNat : Int) ≤ 255 := by omega
      have HRc := Lib.hid (show ∃ m, s.size - k ≤ m ∧ R = txtU (m + 1) (c :: s.data.toList.drop (k + 1)) acc k from by
        obtain ⟨m, h1, h2⟩ := HR.out
        rw [List.length_drop] at h1
        rw [hcons] at h2
        cases m with
        | zero => omega
        | succ m => exact ⟨m, by omega, h2⟩)
      by_cases h34 : c = 34
      · have HE := Lib.hid (show R = (acc, k + 1, 0) from by
          obtain ⟨m, h1, h2⟩ := HRc.out
          rw [h2, txtU_cons, if_pos h34])
        subst h34
        obtain ⟨a1, c1, hv, hn1, hn2, hr1⟩ := own_reads (l := acc) HO.out hn
        subst hv
        have cv := conv_str a1 acc wr hr1 c1
        clear hcons HRc HR hc hc9
        go_wp2_with fail
        go_ret3
        exact ⟨by rw [HE.out]; rfl, HB.out⟩
      · have q1 : ((c.toNat : Int) == 34) = false := by
          rw [beq_eq_false_iff_ne]
          intro e
          exact h34 (u8_of (n := 34) (by decide) (by omega))
        have hxl := extract_drop s k
        have CHx := Lib.hid (fun w h => CH.out (s.extract k s.size) (by rw [← lenB, hxl, List.length_drop]; omega) (by rw [← lenB, hxl, List.length_drop]; omega) w h)
        rw [hxl, hcons] at CHx
        have sf := fun w => slice_fromS s k hk (by omega) w
        rw [show (⟨(s.data.toList.drop k).toArray⟩ : ByteArray) = s.extract k s.size from by rw [← hxl]] at sf
        have hca := chrA_app (c :: s.data.toList.drop (k + 1)) []
        have HC2 := Lib.hid (fun (h : (chrA (c :: s.data.toList.drop (k + 1))).2.2 = 0) => (hca h).2)
        have HQ := Lib.hid (show ∃ m, s.size - k ≤ m ∧ R = (if (chrA (c :: s.data.toList.drop (k + 1))).2.2 ≠ 0 then ([], 0, (chrA (c :: s.data.toList.drop (k + 1))).2.2) else txtU m (s.data.toList.drop (k + (chrA (c :: s.data.toList.drop (k + 1))).2.1)) (acc ++ [(chrA (c :: s.data.toList.drop (k + 1))).1]) (k + (chrA (c :: s.data.toList.drop (k + 1))).2.1)) from by
          obtain ⟨m, h1, h2⟩ := HRc.out
          rw [txtU_cons, if_neg h34] at h2
          refine ⟨m, h1, ?_⟩
          rw [h2, ← hcons, List.drop_drop])
        have hlen : (c :: s.data.toList.drop (k + 1)).length = s.size - k := by rw [← hcons, List.length_drop]; omega
        rw [hlen] at HC2
        obtain ⟨ca, hca2⟩ : ∃ ca, ca = chrA (c :: s.data.toList.drop (k + 1)) := ⟨_, rfl⟩
        unfold ChrPost at CHx
        rw [← hca2] at CHx HC2 HQ
        obtain ⟨xc, xn, xe⟩ := ca
        simp only at CHx HC2 HQ
        generalize s.extract k s.size = sx at sf CHx
        clear hca2 hlen hca hxl hcons HRc hc h34 HR
        go_wp2_with fail
        go_fit (CHx.out _ (HT.out.below HB.out))
        rintro e w1 ⟨cc, nn, rfl, hcn, hb⟩
        have HB1 := Lib.hid (HB.out.trans (hb.mono HB.out.size))
        have HO1 := Lib.hid (own_below HO.out hb)
        clear hb
        by_cases he : xe = 0
        · subst he
          obtain ⟨rfl, rfl⟩ := hcn rfl
          obtain ⟨n1, n2⟩ := HC2.out rfl
          have hxI : (0 : Int) ≤ (xc.toNat : Int) ∧ (xc.toNat : Int) ≤ 255 := by have := xc.toNat_lt; omega
          have hnI : (1 : Int) ≤ (xn : Int) ∧ (xn : Int) ≤ 1099511627776 := by omega
          have HQ2 := Lib.hid (show ∃ m, (s.data.toList.drop (k + xn)).length < m ∧ R = txtU m (s.data.toList.drop (k + xn)) (acc ++ [xc]) (k + xn) from by
            obtain ⟨m, h1, h2⟩ := HQ.out
            rw [if_neg (fun h => h rfl)] at h2
            exact ⟨m, by rw [List.length_drop]; omega, h2⟩)
          have HOA := Lib.hid (HO1.out.alloc (Obj.cells #[.int .u8 (xc.toNat : Int)] 5))
          have HBA := Lib.hid (HB1.out.alloc HB1.out.size (Obj.cells #[.int .u8 (xc.toNat : Int)] 5))
          have hzz := HB1.out.size
          clear hcn HQ HC2
          go_wp2_with (at_builtin; refine wpList_append_own _ rfl _ _ 35 rfl w.heap.size 5 i0 (.int .u8 0) 1 1 Tryd.underlying35 hi hz0 hz1 hz2 rfl (by decide) _ _ _ rfl HOA.out ⟨w1.heap.size, 0, none⟩ 1 1 [Value.int .u8 (xc.toNat : Int)] rfl rfl ?c1 ?c2 ?c3 ?c4 ?c5 ?_)
          case c1 =>
            intro j u hj
            match j, hj with
            | 0, hj => simp at hj; subst hj; simp [Addr.add]
          case c2 => intro u hu; simp at hu; subst hu; rfl
          case c3 => unfold maxLen; omega
          case c4 => omega
          case c5 => simp; omega
          intro v' w2 hown' hgrow _
          have HO2 := Lib.hid (show w2.ownsRow w.heap.size 5 1 v' (n + 1) (Lib.byteCells (acc ++ [xc])) by rw [byteCells_one, hn]; exact hown')
          have HB2 := Lib.hid (HBA.out.grown hgrow (by simp; omega) (fun k hk => (HOA.out.lt k hk).1))
          clear hown' hgrow HOA HBA
          go_wp2_with fail
          exact ⟨⟨k + xn, n + 1, acc ++ [xc], by omega, by omega, by simp; omega, by omega, by go_num, HQ2, HO2, HB2⟩, by simp [RowKit.intOf]; omega⟩
        · have q2 : ((xe : Int) != 0) = true := by rw [bne_iff_ne]; omega
          have HE := Lib.hid (show R = ([], 0, xe) from by
            obtain ⟨m, h1, h2⟩ := HQ.out
            rw [if_pos he] at h2
            exact h2)
          clear hcn HQ HC2 he
          go_wp2_with fail
          go_ret3
          exact ⟨by rw [HE.out]; rfl, HB1.out⟩
    · obtain rfl : k = s.size := by omega
      have HE := Lib.hid (show R = ([], 0, 4) from by
        obtain ⟨m, h1, h2⟩ := HR.out
        rw [List.drop_eq_nil_of_le (by omega)] at h2
        rw [h2]
        cases m with
        | zero => rfl
        | succ m => rfl)
      clear hlt HR
      go_wp2_with fail
      go_ret3
      exact ⟨by rw [HE.out]; rfl, HB.out⟩
end Go.Proofs.YtoliiiijbdoliaaDoor
