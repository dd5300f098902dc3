/- The contract of the document's class (glob). -/
import Derived.Test.YtaalfnfikjmomaaGlbB
namespace Go.Proofs.Ytaalfnfikjmomaa
open Go.RowKit Go.Lib

/-- What class gives at an index of a text. -/
def ClassPost (s : ByteArray) (i : Nat) (w : World) (e : Ending) (w' : World) : Prop :=
  Below w.heap.size w w' ∧ match classL (s.data.toList.drop i) with
  | some (its, r) => ∃ (av : Option Addr) (c n : Nat), e = .returned (.tuple #[.agg #[.int .i64 4, .slice av its.length c], .int .i64 n, .bool (decide (0 < its.length))]) ∧ its.length ≤ c ∧ c ≤ maxLen ∧ n ≤ s.size ∧ i < n ∧ r = s.data.toList.drop n ∧ ReadsI (w.heap.size ≤ ·) w' av its
  | none => ∃ (av : Option Addr) (l c n : Nat), e = .returned (.tuple #[.agg #[.int .i64 4, .slice av l c], .int .i64 n, .bool false])
/-- What holds at each round's head: the items up to index a. -/
def CRel (s : ByteArray) (i : Nat) (w : World) (a : Nat) (acc : List (UInt8 × UInt8)) (sv : Value) (wr : World) : Prop :=
  i ≤ a ∧ a ≤ s.size ∧ acc.length + i ≤ a ∧ TwoAt wr w.heap.size 53 (.int .i64 0) (.slice none 0 0) ∧ TwoAt wr (w.heap.size + 1) 53 (.int .i64 4) sv ∧
    wr.ownsRow (w.heap.size + 2) 54 2 sv acc.length (itC acc) ∧ Below w.heap.size w wr ∧
    classL (s.data.toList.drop i) = (classL (s.data.toList.drop a)).map fun q => (acc ++ q.1, q.2)
theorem CRel.step {s : ByteArray} {i : Nat} {w wr w1 w6 : World} {a a' : Nat} {acc : List (UInt8 × UInt8)} {sv v6 : Value} {x : UInt8 × UInt8}
    (h : CRel s i w a acc sv wr) (hx : itemL (s.data.toList.drop a) = some (x, s.data.toList.drop a')) (h0 : (s.data.toList.drop a).head? ≠ some 93) (ha : a < a') (ha' : a' ≤ s.size)
    (hw1 : w1 = wr.alloc (.cells #[.int .u8 x.1.toNat, .int .u8 x.2.toNat] 54))
    (ho : w6.ownsRow (w.heap.size + 2) 54 2 v6 (acc.length + 1) (itC acc ++ [.int .u8 x.1.toNat, .int .u8 x.2.toNat])) (hg : w1.grownBy w6 sv.ownBlock) :
    CRel s i w a' (acc ++ [x]) v6 (w6.setCell ⟨w.heap.size + 1, 1, none⟩ v6) := by
  obtain ⟨h1, h2, h3, h4, h5, h6, h7, h8⟩ := h
  have g5 := h5.lt
  have n0 := own_ne h6 (b := w.heap.size) (by omega)
  have n1 := own_ne h6 (b := w.heap.size + 1) (by omega)
  have m0 := own_ne ho (b := w.heap.size + 1) (by omega)
  have hsz : w1.heap.size = wr.heap.size + 1 := by rw [hw1]; simp
  have b0 : w6.heap[w.heap.size]? = wr.heap[w.heap.size]? := by
    rw [hg.block _ (by omega) (fun e => n0 e.symm), hw1, Below.heap_alloc _ _ _ (by omega)]
  have b1 : w6.heap[w.heap.size + 1]? = wr.heap[w.heap.size + 1]? := by
    rw [hg.block _ (by omega) (fun e => n1 e.symm), hw1, Below.heap_alloc _ _ _ (by omega)]
  have k0 := h4.of_block b0
  have k1 := h5.of_block b1
  have B6 : Below w.heap.size w w6 := by
    refine ⟨?_, ?_, ?_, ?_, ?_⟩
    · rw [hg.os, hw1]; exact h7.os
    · rw [hg.tape, hw1]; exact h7.tape
    · rw [hg.output, hw1]; exact h7.output
    · have := hg.size; have := h7.size; omega
    · intro k hk
      rw [hg.block k (by omega) (fun e => by have := (h6.lt k e.symm).1; omega), hw1, Below.heap_alloc _ _ _ (by omega)]
      exact h7.block k hk
  refine ⟨by omega, ha', by rw [List.length_append, List.length_singleton]; omega, ?_, k1.set1 v6, ?_, B6.setCell (p := ⟨w.heap.size + 1, 1, none⟩) (by show w.heap.size ≤ w.heap.size + 1; omega) _, ?_⟩
  · exact k0.of_block (Below.heap_setCell _ _ _ _ (by show w.heap.size ≠ w.heap.size + 1; omega))
  · rw [List.length_append, List.length_singleton, itC_snoc]
    exact ho.kept (grown_set _ _ _ _) (.inr m0)
  · rw [h8, classL_eq (s.data.toList.drop a), if_neg h0, hx]
    dsimp only
    rw [Option.map_map]
    congr 1
    funext q
    simp
theorem classL_stop {l : List UInt8} (h : l.head? = some 93) : classL l = some ([], l.tail) := by rw [classL_eq, if_pos h]
theorem classL_bad {l : List UInt8} (h : l.head? ≠ some 93) (hi : itemL l = none) : classL l = none := by rw [classL_eq, if_neg h, hi]

set_option maxHeartbeats 8000000 in
set_option maxRecDepth 100000 in
theorem refClass_any (s : ByteArray) (i : Nat) (hs : s.size ≤ 4096) (hi : i ≤ s.size) (w : World) :
    Calls Try.prog 32 #[.string s, .int .i64 i] w (ClassPost s i w) := by
  have hrel0 : CRel s i w i [] (.slice none 0 0) ((w.alloc (Obj.cells #[.int .i64 0, .slice none 0 0] 53)).alloc (Obj.cells #[.int .i64 4, .slice none 0 0] 53)) := by
    refine ⟨Nat.le_refl _, hi, by simp, (TwoAt.new w _ _ _).alloc _, ?_, World.ownsRow_nil _ _ _ _, ((Below.refl _ w).alloc (Nat.le_refl _) _).alloc (by simp) _, ?_⟩
    · have := TwoAt.new (w.alloc (Obj.cells #[.int .i64 0, .slice none 0 0] 53)) 53 (.int .i64 4) (.slice none 0 0)
      simpa using this
    · cases classL (s.data.toList.drop i) with
      | none => rfl
      | some q => rfl
  have HR0 := Lib.hid hrel0
  clear hrel0
  go_enter Try.func32, Try.ntmps32
  go_wp2_with fail
  go_loopw [1] (fun s1 wr => ∃ (a : Nat) (acc : List (UInt8 × UInt8)) (sv : Value), s1 = .int .i64 (a : Int) ∧ CRel s i w a acc sv wr) (fun s1 _ => s.size - (RowKit.intOf s1).toNat)
  case atStart => exact ⟨i, [], _, rfl, HR0.out⟩
  case round =>
    obtain ⟨a, acc, sv, rfl, hrel⟩ := hrel
    obtain ⟨sa, sc, rfl⟩ := own_slice hrel.2.2.2.2.2.1
    have HR := Lib.hid hrel
    obtain ⟨r1, r2, r3, r4, r5, r6, r7, r8⟩ := hrel
    have x0 := r4.cell0
    have x1 := r4.cell1
    have xf0 := r4.frozen 0
    have xf1 := r4.frozen 1
    have y0 := r5.cell0
    have y1 := r5.cell1
    have yf0 := r5.frozen 0
    have yf1 := r5.frozen 1
    have hlt := r5.lt
    have B := Lib.hid r7
    have a0 : (0 : Int) ≤ a ∧ (a : Int) ≤ (s.size : Int) ∧ (s.size : Int) ≤ 4096 := by omega
    have L := Lib.hid (fun w => refLast_any s a w)
    have hhd := lastN_head s a 93 (by decide)
    have hbl := lastN_lt s a
    obtain ⟨b, hb⟩ : ∃ b, b = lastN s a := ⟨_, rfl⟩
    rw [← hb] at L hhd
    have R4 := Lib.hid r4
    have R5 := Lib.hid r5
    clear r3 r4 r5 r7
    by_cases c0 : b = 93
    · have hlt2 : a < s.size := by
        have := hhd.2 c0
        rw [List.head?_drop] at this
        have := (List.getElem?_eq_some_iff.1 this).1
        rwa [lenB] at this
      have h8 : classL (s.data.toList.drop i) = some (acc, s.data.toList.drop (a + 1)) := by
        rw [r8, classL_stop (hhd.2 c0), List.tail_drop]
        simp
      have b1 : ((b : Int) == 93) = true := by rw [beq_iff_eq]; omega
      have b2 : ((b : Int) != 93) = false := by rw [bne_eq_false_iff_eq]; omega
      have al : (a : Int) < (s.size : Int) := by omega
      have H8 := Lib.hid h8
      obtain ⟨av, c, hve, hlc, hcm, hri, hng⟩ := own_readsI r6 rfl
      injection hve with e1 _ e3
      subst e1 e3
      have R6 := Lib.hid (And.intro r6 hri)
      have G := Lib.hid (And.intro hlc hcm)
      have HI := Lib.hid (show i < a + 1 by omega)
      have HL := Lib.hid (show a + 1 ≤ s.size by omega)
      clear r8 h8 hhd hb c0 hri hng r6 hlc hcm r1 r2 hbl hs hi
      go_wp2_with fail
      go_fit (L.out _)
      rintro e w1 ⟨rfl, rfl⟩
      go_wp2_with fail
      have T1 := (R4.out.set0 (.int .i64 4)).set1 (.slice sa acc.length sc)
      have BX := (B.out.setCell (p := ⟨w.heap.size, 0, none⟩) (Nat.le_refl _) (.int .i64 4)).setCell (p := ⟨w.heap.size, 1, none⟩) (Nat.le_refl _) (.slice sa acc.length sc)
      have RX : ReadsI (w.heap.size ≤ ·) ((wr.setCell ⟨w.heap.size, 0, none⟩ (.int .i64 4)).setCell ⟨w.heap.size, 1, none⟩ (.slice sa acc.length sc)) sa acc := by
        refine R6.out.2.move (by simp [World.setCell]) (fun b hb hS => ?_)
        have := (R6.out.1.lt b hS).1
        exact ⟨by omega, by rw [Below.heap_setCell _ _ _ _ (by show b ≠ w.heap.size; omega), Below.heap_setCell _ _ _ _ (by show b ≠ w.heap.size; omega)]⟩
      go_region
      obtain ⟨W1, hW1⟩ : ∃ W1, W1 = ((wr.setCell ⟨w.heap.size, 0, none⟩ (.int .i64 4)).setCell ⟨w.heap.size, 1, none⟩ (.slice sa acc.length sc)).drew := ⟨_, rfl⟩
      have z0 : W1.cell? ⟨w.heap.size, 0, none⟩ = some (.int .i64 4) := by rw [hW1]; exact T1.cell0
      have z1 : W1.cell? ⟨w.heap.size, 1, none⟩ = some (.slice sa acc.length sc) := by rw [hW1]; exact T1.cell1
      have BW := Lib.hid (show Below w.heap.size w W1 by rw [hW1]; exact BX.drew)
      have RW := Lib.hid (show ReadsI (w.heap.size ≤ ·) W1 sa acc by rw [hW1]; exact RX.below (Below.refl _ _).drew)
      rw [← hW1]
      clear hW1 T1 BX RX x0 x1 xf0 xf1 y0 y1 yf0 yf1
      go_wp2_with fail
      refine bodyPost_ret (v := .tuple #[.agg #[.int .i64 4, .slice sa acc.length sc], .int .i64 ((a : Int) + 1), .bool (decide (0 < acc.length))]) (by simp [results, Try.results32, go_sem, z0, z1]) rfl ⟨BW.out, ?_⟩
      rw [H8.out]
      exact ⟨sa, sc, a + 1, rfl, G.out.1, G.out.2, HL.out, HI.out, rfl, RW.out⟩
    · have hne : (s.data.toList.drop a).head? ≠ some 93 := fun e => c0 (hhd.1 e)
      have b1 : ((b : Int) == 93) = false := by rw [beq_eq_false_iff_ne]; omega
      have b2 : ((b : Int) != 93) = true := by rw [bne_iff_ne]; omega
      have M := Lib.hid (fun w => refMember_any s a (by omega) (by omega) w)
      have HNE := Lib.hid hne
      have HC := Lib.hid r8
      have R6 := Lib.hid r6
      have C := Lib.hid (And.intro hs (And.intro r1 r2))
      cases hm : memberL (s.data.toList.drop a) with
      | none =>
        have HM := Lib.hid hm
        have H8 := Lib.hid (show classL (s.data.toList.drop i) = none by
          rw [r8, classL_bad hne (by unfold itemL; rw [hm])]; rfl)
        clear hne hm r8 r6 hhd hb c0 hbl hs hi r1 r2
        go_wp2_with fail
        go_fit (L.out _)
        rintro e w1 ⟨rfl, rfl⟩
        go_wp2_with fail
        go_fit (M.out _)
        rintro e w1 ⟨rfl, h2⟩
        rw [HM.out] at h2
        obtain ⟨mb, mn, rfl⟩ := h2
        go_wp2_with fail
        have T1 := (R4.out.set0 (.int .i64 4)).set1 (.slice sa acc.length sc)
        have BX := Lib.hid ((B.out.setCell (p := ⟨w.heap.size, 0, none⟩) (Nat.le_refl _) (.int .i64 4)).setCell (p := ⟨w.heap.size, 1, none⟩) (Nat.le_refl _) (.slice sa acc.length sc))
        refine bodyPost_ret (v := .tuple #[.agg #[.int .i64 4, .slice sa acc.length sc], .int .i64 a, .bool false]) (by simp [results, Try.results32, go_sem, T1.cell0, T1.cell1]) rfl ⟨BX.out, ?_⟩
        rw [H8.out]
        exact ⟨sa, acc.length, sc, a, rfl⟩
      | some q =>
        obtain ⟨lo, r⟩ := q
        have HM := Lib.hid hm
        clear hne r8 r6 hhd hb c0 hbl hi r1 r2 hs
        go_wp2_with fail
        go_fit (L.out _)
        rintro e w1 ⟨rfl, rfl⟩
        go_wp2_with fail
        go_fit (M.out _)
        rintro e w1 ⟨rfl, h2⟩
        rw [hm] at h2
        obtain ⟨n, hn1, hn2, hn3, rfl⟩ := h2
        have lo0 : (0 : Int) ≤ (lo.toNat : Int) ∧ (lo.toNat : Int) ≤ 255 := by have := lo.toNat_lt; omega
        have n0 : (0 : Int) ≤ n ∧ (n : Int) ≤ (s.size : Int) := by omega
        have L2 := Lib.hid (fun w => refLast_any s n w)
        have hh2 := lastN_head s n 45 (by decide)
        obtain ⟨b3, hb3⟩ : ∃ b3, b3 = lastN s n := ⟨_, rfl⟩
        rw [← hb3] at L2 hh2
        have HN := Lib.hid (And.intro hn1 (And.intro hn2 hn3))
        clear hm hn1 hn2 hn3 hb3
        by_cases c1 : b3 = 45
        · have b4 : ((b3 : Int) == 45) = true := by rw [beq_iff_eq]; omega
          have hnl : n < s.size := by
            have := hh2.2 c1
            rw [List.head?_drop] at this
            have := (List.getElem?_eq_some_iff.1 this).1
            rwa [lenB] at this
          have M2 := Lib.hid (fun w => refMember_any s (n + 1) (by omega) (by omega) w)
          have nl : (n : Int) + 1 ≤ (s.size : Int) := by omega
          cases hm2 : memberL (s.data.toList.drop (n + 1)) with
          | none =>
            have HM2 := Lib.hid hm2
            have hit : itemL (s.data.toList.drop a) = none := by
              unfold itemL
              rw [HM.out]
              dsimp only
              rw [if_pos (by rw [HN.out.2.1]; exact hh2.2 c1), HN.out.2.1, List.tail_drop, hm2]
            have H8 := Lib.hid (show classL (s.data.toList.drop i) = none by
              rw [HC.out, classL_bad HNE.out hit]; rfl)
            clear hit hm2 hh2 c1 hnl
            go_wp2_with fail
            go_fit (L2.out _)
            rintro e w1 ⟨rfl, rfl⟩
            go_wp2_with fail
            go_fit (M2.out _)
            rintro e w1 ⟨rfl, h2⟩
            rw [HM2.out] at h2
            obtain ⟨mb, mn, rfl⟩ := h2
            go_wp2_with fail
            have T1 := (R4.out.set0 (.int .i64 4)).set1 (.slice sa acc.length sc)
            have BX := Lib.hid ((B.out.setCell (p := ⟨w.heap.size, 0, none⟩) (Nat.le_refl _) (.int .i64 4)).setCell (p := ⟨w.heap.size, 1, none⟩) (Nat.le_refl _) (.slice sa acc.length sc))
            refine bodyPost_ret (v := .tuple #[.agg #[.int .i64 4, .slice sa acc.length sc], .int .i64 a, .bool false]) (by simp [results, Try.results32, go_sem, T1.cell0, T1.cell1]) rfl ⟨BX.out, ?_⟩
            rw [H8.out]
            exact ⟨sa, acc.length, sc, a, rfl⟩
          | some q2 =>
            obtain ⟨hi, r3⟩ := q2
            have HM2 := Lib.hid hm2
            have hit : itemL (s.data.toList.drop a) = if hi.toNat < lo.toNat then none else some ((lo, hi), r3) := by
              unfold itemL
              rw [HM.out]
              dsimp only
              rw [if_pos (by rw [HN.out.2.1]; exact hh2.2 c1), HN.out.2.1, List.tail_drop, hm2]
            have hi0 : (0 : Int) ≤ (hi.toNat : Int) ∧ (hi.toNat : Int) ≤ 255 := by have := hi.toNat_lt; omega
            by_cases c2 : hi.toNat < lo.toNat
            · have H8 := Lib.hid (show classL (s.data.toList.drop i) = none by
                rw [HC.out, classL_bad HNE.out (by rw [hit, if_pos c2])]; rfl)
              clear hit hh2 c1 hnl
              go_wp2_with fail
              go_fit (L2.out _)
              rintro e w1 ⟨rfl, rfl⟩
              go_wp2_with fail
              go_fit (M2.out _)
              rintro e w1 ⟨rfl, h2⟩
              rw [hm2] at h2
              obtain ⟨n2, hn1, hn2, hn3, rfl⟩ := h2
              clear hm2 hn1 hn2 hn3
              go_wp2_with fail
              have T1 := (R4.out.set0 (.int .i64 4)).set1 (.slice sa acc.length sc)
              have BX := Lib.hid ((B.out.setCell (p := ⟨w.heap.size, 0, none⟩) (Nat.le_refl _) (.int .i64 4)).setCell (p := ⟨w.heap.size, 1, none⟩) (Nat.le_refl _) (.slice sa acc.length sc))
              refine bodyPost_ret (v := .tuple #[.agg #[.int .i64 4, .slice sa acc.length sc], .int .i64 a, .bool false]) (by simp [results, Try.results32, go_sem, T1.cell0, T1.cell1]) rfl ⟨BX.out, ?_⟩
              rw [H8.out]
              exact ⟨sa, acc.length, sc, a, rfl⟩
            · rw [if_neg c2] at hit
              have HIT := Lib.hid hit
              clear hit hh2 c1 hnl
              go_wp2_with fail
              go_fit (L2.out _)
              rintro e w1 ⟨rfl, rfl⟩
              go_wp2_with fail
              go_fit (M2.out _)
              rintro e w1 ⟨rfl, h2⟩
              rw [hm2] at h2
              obtain ⟨n2, hn1, hn2, hn3, rfl⟩ := h2
              have n20 : (0 : Int) ≤ n2 ∧ (n2 : Int) ≤ (s.size : Int) := by omega
              have HX := Lib.hid (show itemL (s.data.toList.drop a) = some ((lo, hi), s.data.toList.drop n2) by rw [HIT.out, hn2])
              have HN2 := Lib.hid (And.intro hn1 hn3)
              clear hm2 hn1 hn2 hn3
              obtain ⟨i0, hi0, hz0, hz1, hzb⟩ := info_parts info54
              have HOA := Lib.hid (R6.out.alloc (Obj.cells #[.int .u8 lo.toNat, .int .u8 hi.toNat] 54))
              have hxs : (itC acc).length = acc.length * 2 := itC_len acc
              have hal : acc.length ≤ s.size := by have := HR.out; unfold CRel at this; omega
              go_wp2_with (at_builtin; refine wpList_append_own _ rfl _ _ 51 rfl (w.heap.size + 2) 54 i0 (.agg #[.int .u8 0, .int .u8 0]) 2 2 Try.underlying51 hi0 hz0 hz1 hzb rfl (by decide) _ _ _ rfl HOA.out ⟨wr.heap.size, 0, none⟩ 1 1 [.int .u8 lo.toNat, .int .u8 hi.toNat] rfl rfl two_cells ?c2 ?c3 ?c4 ?c5 ?_)
              case c2 => intro u hu; simp at hu; rcases hu with rfl | rfl <;> rfl
              case c3 => unfold maxLen; have := C.out.1; omega
              case c4 => have := C.out.1; omega
              case c5 => simp; omega
              intro v6 w6 ho6 hg6 _
              obtain ⟨a6, c6, rfl⟩ := own_slice ho6
              have k1 := R5.out.of_block (w' := w6) (by
                rw [hg6.block _ (by simp; omega) (fun e => own_ne R6.out (b := w.heap.size + 1) (by omega) e.symm), Below.heap_alloc _ _ _ hlt])
              have y0 := k1.cell0
              have y1 := k1.cell1
              have yf0 := k1.frozen 0
              have yf1 := k1.frozen 1
              have ST := Lib.hid (HR.out.step HX.out HNE.out (by have := HN.out.2.2; have := HN2.out.2; omega) (by have := HN2.out; omega) rfl ho6 hg6)
              clear ho6 hg6 k1
              go_wp2_with fail
              go_roundw
              case rel => exact ⟨n2, acc ++ [(lo, hi)], _, rfl, ST.out⟩
              case measure => have := ST.out.2.1; have := HN.out.2.2; have := HN2.out.2; simp [RowKit.intOf]; omega
        · have b4 : ((b3 : Int) == 45) = false := by rw [beq_eq_false_iff_ne]; omega
          have HX := Lib.hid (show itemL (s.data.toList.drop a) = some ((lo, lo), s.data.toList.drop n) by
            unfold itemL
            rw [HM.out]
            dsimp only
            rw [if_neg (by rw [HN.out.2.1]; exact fun e => c1 (hh2.1 e)), HN.out.2.1])
          clear hh2 c1
          go_wp2_with fail
          go_fit (L2.out _)
          rintro e w1 ⟨rfl, rfl⟩
          obtain ⟨i0, hi0, hz0, hz1, hzb⟩ := info_parts info54
          have HOA := Lib.hid (R6.out.alloc (Obj.cells #[.int .u8 lo.toNat, .int .u8 lo.toNat] 54))
          have hxs : (itC acc).length = acc.length * 2 := itC_len acc
          have hal : acc.length ≤ s.size := by have := HR.out; unfold CRel at this; omega
          go_wp2_with (at_builtin; refine wpList_append_own _ rfl _ _ 51 rfl (w.heap.size + 2) 54 i0 (.agg #[.int .u8 0, .int .u8 0]) 2 2 Try.underlying51 hi0 hz0 hz1 hzb rfl (by decide) _ _ _ rfl HOA.out ⟨wr.heap.size, 0, none⟩ 1 1 [.int .u8 lo.toNat, .int .u8 lo.toNat] rfl rfl two_cells ?c2 ?c3 ?c4 ?c5 ?_)
          case c2 => intro u hu; simp at hu; rcases hu with rfl | rfl <;> rfl
          case c3 => unfold maxLen; have := C.out.1; omega
          case c4 => have := C.out.1; omega
          case c5 => simp; omega
          intro v6 w6 ho6 hg6 _
          obtain ⟨a6, c6, rfl⟩ := own_slice ho6
          have k1 := R5.out.of_block (w' := w6) (by
            rw [hg6.block _ (by simp; omega) (fun e => own_ne R6.out (b := w.heap.size + 1) (by omega) e.symm), Below.heap_alloc _ _ _ hlt])
          have y0 := k1.cell0
          have y1 := k1.cell1
          have yf0 := k1.frozen 0
          have yf1 := k1.frozen 1
          have ST := Lib.hid (HR.out.step HX.out HNE.out (by have := HN.out.2.2; omega) (by have := HN.out.1; omega) rfl ho6 hg6)
          clear ho6 hg6 k1
          go_wp2_with fail
          go_roundw
          case rel => exact ⟨n, acc ++ [(lo, lo)], _, rfl, ST.out⟩
          case measure => have := ST.out.2.1; have := HN.out.2.2; simp [RowKit.intOf]; omega
end Go.Proofs.Ytaalfnfikjmomaa
