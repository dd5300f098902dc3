/- The contract of num.Scale. -/
import Derived.Test.YtmjikddceegloaaGreatDoorNumC
namespace Go.Proofs.YtmjikddceegloaaGreatDoor
open Go.RowKit Go.Lib Go.NumM

theorem multiply_raw (a b : Int) (ha : I64 a) (hb : I64 b) (w : World) :
    Calls Tryz.prog 73 #[.int .i64 a, .int .i64 b] w fun e w' => e = .returned (.agg #[.int .u64 (hiOf (a * b)), .int .u64 (loOf (a * b))]) ∧ Below w.heap.size w w' := multiply_any a b ha hb w
theorem negated_raw (z : Int) (w : World) :
    Calls Tryz.prog 74 #[.agg #[.int .u64 (hiOf z), .int .u64 (loOf z)]] w fun e w' => e = .returned (.agg #[.int .u64 (hiOf (-z)), .int .u64 (loOf (-z))]) ∧ Below w.heap.size w w' := negated_any z w
theorem negative_raw (z : Int) (h : Mid z) (w : World) :
    Calls Tryz.prog 75 #[.agg #[.int .u64 (hiOf z), .int .u64 (loOf z)]] w fun e w' => e = .returned (.bool (decide (z < 0))) ∧ Below w.heap.size w w' := negative_any z h w
theorem negative_yes (z : Int) (h : Mid z) (hz : z < 0) (w : World) :
    Calls Tryz.prog 75 #[.agg #[.int .u64 (hiOf z), .int .u64 (loOf z)]] w fun e w' => e = .returned (.bool true) ∧ Below w.heap.size w w' := by
  have := negative_raw z h w; rwa [decide_eq_true hz] at this
theorem negative_no (z : Int) (h : Mid z) (hz : ¬ z < 0) (w : World) :
    Calls Tryz.prog 75 #[.agg #[.int .u64 (hiOf z), .int .u64 (loOf z)]] w fun e w' => e = .returned (.bool false) ∧ Below w.heap.size w w' := by
  have := negative_raw z h w; rwa [decide_eq_false hz] at this
theorem quotient_raw (z d : Int) (h0 : 0 ≤ z) (h : Mid z) (hd0 : 0 < d) (hd : d ≤ 18446744073709551615) (w : World) :
    Calls Tryz.prog 78 #[.agg #[.int .u64 (hiOf z), .int .u64 (loOf z)], .int .u64 d] w fun e w' =>
      e = .returned (.tuple #[.int .i64 (flQ z d), .int .i64 (flE z d)]) ∧ Below w.heap.size w w' := by
  obtain ⟨hi, lo, e, ez, hlo⟩ := prod_nat z h0 h
  unfold prodV at e
  obtain ⟨n, rfl⟩ := Int.eq_ofNat_of_zero_le (Int.le_of_lt hd0)
  have := quotient_nat hi lo n hlo (by omega) (by omega) w
  rw [e, ez]
  exact this
theorem negQuotient_raw (z d : Int) (h0 : 0 ≤ z) (h : Mid z) (hd0 : 0 < d) (hd : d ≤ 18446744073709551615) (w : World) :
    Calls Tryz.prog 76 #[.agg #[.int .u64 (hiOf z), .int .u64 (loOf z)], .int .u64 d] w fun e w' =>
      e = .returned (.tuple #[.int .i64 (flQ (-z) d), .int .i64 (flE (-z) d)]) ∧ Below w.heap.size w w' := by
  obtain ⟨hi, lo, e, ez, hlo⟩ := prod_nat z h0 h
  unfold prodV at e
  obtain ⟨n, rfl⟩ := Int.eq_ofNat_of_zero_le (Int.le_of_lt hd0)
  have := negQuotient_nat hi lo n hlo (by omega) (by omega) w
  rw [e, ez]
  exact this

/-- The result of Scale, and its error's number. -/
def scZ (n m d : Int) : Int := if d < 0 then -(n * m) else n * m
def scQ (n m d : Int) : Int := if d = 0 then 0 else flQ (scZ n m d) d.natAbs
def scE (n m d : Int) : Int := if d = 0 then 2 else flE (scZ n m d) d.natAbs

theorem hold2_below {W w1 : World} {B : Nat} {x y : Value} (h : w1.cell? ⟨B, 0, none⟩ = some x ∧ w1.cell? ⟨B, 1, none⟩ = some y ∧ B < w1.heap.size ∧ W.heap.size ≤ w1.heap.size ∧ Below W.heap.size W w1) : Below W.heap.size W w1 := h.2.2.2.2
theorem hold2_stored {w w2 : World} {B : Nat} {u v x y : Value} (h1 : w2.cell? ⟨B, 0, none⟩ = some u) (h2 : w2.cell? ⟨B, 1, none⟩ = some v) (h3 : B < w2.heap.size) (h4 : w.heap.size ≤ w2.heap.size) (h5 : Below w.heap.size w w2) (hB : w.heap.size ≤ B) :
    ((w2.setCell ⟨B, 0, none⟩ x).setCell ⟨B, 1, none⟩ y).cell? ⟨B, 0, none⟩ = some x ∧ ((w2.setCell ⟨B, 0, none⟩ x).setCell ⟨B, 1, none⟩ y).cell? ⟨B, 1, none⟩ = some y ∧
      B < ((w2.setCell ⟨B, 0, none⟩ x).setCell ⟨B, 1, none⟩ y).heap.size ∧ w.heap.size ≤ ((w2.setCell ⟨B, 0, none⟩ x).setCell ⟨B, 1, none⟩ y).heap.size ∧ Below w.heap.size w ((w2.setCell ⟨B, 0, none⟩ x).setCell ⟨B, 1, none⟩ y) := by
  refine ⟨by simp [go_sem, h1], by simp [go_sem, h2], by simpa [World.setCell] using h3, by simpa [World.setCell] using h4, (h5.setCell hB _).setCell hB _⟩

def Hold2 (W : World) (B : Nat) (x y : Value) (w1 : World) : Prop :=
  w1.cell? ⟨B, 0, none⟩ = some x ∧ w1.cell? ⟨B, 1, none⟩ = some y ∧ B < w1.heap.size ∧ W.heap.size ≤ w1.heap.size ∧ Below W.heap.size W w1

set_option maxHeartbeats 1000000 in
theorem Scale_zero (n m : Int) (w : World) :
    Calls Tryz.prog 55 #[.int .i64 n, .int .i64 m, .int .i64 0] w fun e w' => e = .returned (.tuple #[.int .i64 0, .int .i64 2]) ∧ w = w' := by
  go_enter Tryz.func55, Tryz.ntmps55
  go_wp2_with fail
  go_ret2
  exact ⟨rfl, rfl⟩

set_option maxHeartbeats 1000000 in
theorem Scale_pos (n m d : Int) (hn : I64 n) (hm : I64 m) (hd : I64 d) (h0 : 0 < d) (w : World) :
    Calls Tryz.prog 55 #[.int .i64 n, .int .i64 m, .int .i64 d] w fun e w' => e = .returned (.tuple #[.int .i64 (flQ (n * m) d), .int .i64 (flE (n * m) d)]) ∧ Below w.heap.size w w' := by
  have HM := Lib.hid (mid_mul n m hn hm)
  have HA := Lib.hid hn; have HB := Lib.hid hm; have HD := Lib.hid hd
  have HD2 := Lib.hid hd.2
  clear hn hm hd
  have e0 : (d == 0) = false := by rw [beq_eq_false_iff_ne]; omega
  have eabs := Lib.hid (show (d.natAbs : Int) = d by omega)
  go_enter Tryz.func55, Tryz.ntmps55
  go_wp2_with fail
  go_fit (multiply_raw _ _ HA.out HB.out _)
  rintro e w1 ⟨rfl, hb1⟩
  have hz1 := hb1.size
  obtain ⟨z, hz⟩ : ∃ z, z = n * m := ⟨_, rfl⟩
  rw [← hz] at HM ⊢
  have HZ := Lib.hid hz
  clear hz
  go_wp2_with fail
  by_cases hs : z < 0
  · go_fit (negative_yes z HM.out hs _)
    rintro e w2 ⟨rfl, hb2⟩
    have hs0 := hold2 (hold2_new hb1 (.int .u64 (hiOf z)) (.int .u64 (loOf z)) 87) hb2
    obtain ⟨g1, g2, g3, g4, g5⟩ := hs0
    have G5 := Lib.hid g5
    clear g5 hb2 hb1
    go_wp2_with fail
    go_fit (negated_raw z _)
    rintro e w3 ⟨rfl, hb3⟩
    have G6 := Lib.hid (G5.out.trans (hb3.mono g4))
    have hz3 := hb3.size
    clear hb3
    go_wp2_with fail
    go_fit (magnitude_any d HD.out _)
    rintro e w4 ⟨rfl, rfl⟩
    rw [eabs.out]
    go_wp2_with fail
    go_fit (negQuotient_raw (-z) d (by omega) HM.out.neg h0 (by have := HD2.out; omega) _)
    rintro e w5 ⟨rfl, hb5⟩
    go_wp2_with fail
    go_ret2
    exact ⟨ret2_ie (by rw [HZ.out]) (by rw [HZ.out]), G6.out.trans (hb5.mono (by omega))⟩
  · go_fit (negative_no z HM.out hs _)
    rintro e w2 ⟨rfl, hb2⟩
    have hs0 := hold2 (hold2_new hb1 (.int .u64 (hiOf z)) (.int .u64 (loOf z)) 87) hb2
    clear hb2 hb1
    go_upto_region 8 with fail
    go_region_held3 (fun w' => w'.cell? ⟨w1.heap.size, 0, none⟩ = some (.int .u64 (hiOf z)) ∧ w'.cell? ⟨w1.heap.size, 1, none⟩ = some (.int .u64 (loOf z)) ∧ w1.heap.size < w'.heap.size ∧ w.heap.size ≤ w'.heap.size ∧ Below w.heap.size w w') (first | exact hold2_drew hs0 | assumption | exact hold2 (by assumption) (by assumption)) (first
          | (go_at_call 77; go_fit (magnitude_any d HD.out _); rintro e w4 ⟨rfl, rfl⟩; rw [eabs.out])
          | (go_at_call 78; go_fit (quotient_raw z d (by omega) HM.out h0 (by have := HD2.out; omega) _); rintro e w5 ⟨rfl, hb5⟩))
    go_wp2_with fail
    go_ret2
    refine ⟨ret2_ie (by rw [HZ.out]) (by rw [HZ.out]), ?_⟩
    exact hold2_below (B := w1.heap.size) (x := .int .u64 (hiOf z)) (y := .int .u64 (loOf z)) (by assumption)

set_option maxHeartbeats 1000000 in
theorem Scale_neg (n m d : Int) (hn : I64 n) (hm : I64 m) (hd : I64 d) (h0 : d < 0) (w : World) :
    Calls Tryz.prog 55 #[.int .i64 n, .int .i64 m, .int .i64 d] w fun e w' => e = .returned (.tuple #[.int .i64 (flQ (-(n * m)) (-d)), .int .i64 (flE (-(n * m)) (-d))]) ∧ Below w.heap.size w w' := by
  have HM := Lib.hid (mid_mul n m hn hm)
  have HA := Lib.hid hn; have HB := Lib.hid hm; have HD := Lib.hid hd
  have HD2 := Lib.hid hd.1
  clear hn hm hd
  have e0 : (d == 0) = false := by rw [beq_eq_false_iff_ne]; omega
  have eabs := Lib.hid (show (d.natAbs : Int) = -d by omega)
  have hnd := Lib.hid (show 0 < -d by omega)
  go_enter Tryz.func55, Tryz.ntmps55
  go_wp2_with fail
  go_fit (multiply_raw _ _ HA.out HB.out _)
  rintro e w1 ⟨rfl, hb1⟩
  have hz1 := hb1.size
  obtain ⟨z, hz⟩ : ∃ z, z = n * m := ⟨_, rfl⟩
  rw [← hz] at HM ⊢
  have HZ := Lib.hid hz
  clear hz
  go_wp2_with fail
  go_fit (negated_raw z _)
  rintro e w2 ⟨rfl, hb2⟩
  have hs0 := hold2 (hold2_new hb1 (.int .u64 (hiOf z)) (.int .u64 (loOf z)) 87) hb2
  have f0 := (hb2.frozen (p := ⟨w1.heap.size, 0, none⟩) (by simp)).trans (show (w1.alloc (.cells #[.int .u64 (hiOf z), .int .u64 (loOf z)] 87)).frozen? ⟨w1.heap.size, 0, none⟩ = false by simp [go_sem])
  have f1 := (hb2.frozen (p := ⟨w1.heap.size, 1, none⟩) (by simp)).trans (show (w1.alloc (.cells #[.int .u64 (hiOf z), .int .u64 (loOf z)] 87)).frozen? ⟨w1.heap.size, 1, none⟩ = false by simp [go_sem])
  obtain ⟨g1, g2, g3, g4, g5⟩ := hs0
  have G5 := Lib.hid g5
  clear g5 hb2 hb1
  go_upto_region 6 with fail
  have hs0 := hold2_stored (w := w) (B := w1.heap.size) (x := .int .u64 (hiOf (-z))) (y := .int .u64 (loOf (-z))) g1 g2 g3 g4 G5.out hz1
  obtain ⟨wn, hwn⟩ : ∃ wn, wn = (w2.setCell ⟨w1.heap.size, 0, none⟩ (.int .u64 (hiOf (-z)))).setCell ⟨w1.heap.size, 1, none⟩ (.int .u64 (loOf (-z))) := ⟨_, rfl⟩
  rw [← hwn] at hs0 ⊢
  have HM' := Lib.hid HM.out.neg
  clear hwn g1 g2 g3 g4 G5 f0 f1
  obtain ⟨y, hy⟩ : ∃ y, y = -z := ⟨_, rfl⟩
  rw [← hy] at hs0 HM' ⊢
  have HY := Lib.hid (show y = -(n * m) by rw [hy, HZ.out])
  clear hy HM HZ
  go_wp2_with fail
  by_cases hs : y < 0
  · obtain ⟨k1, k2, k3, k4, k5⟩ := hs0
    have K5 := Lib.hid k5
    clear k5
    go_wp2_with fail
    go_fit (negative_yes y HM'.out hs _)
    rintro e w3 ⟨rfl, hb3⟩
    have hs0 := hold2 (⟨k1, k2, k3, k4, K5.out⟩ : _ ∧ _ ∧ _ ∧ _ ∧ Below w.heap.size w wn) hb3
    obtain ⟨g1, g2, g3, g4, g5⟩ := hs0
    have G5 := Lib.hid g5
    clear g5 hb3 k1 k2 k3 k4 K5
    go_wp2_with fail
    go_fit (negated_raw y _)
    rintro e w4 ⟨rfl, hb4⟩
    have G6 := Lib.hid (G5.out.trans (hb4.mono g4))
    have hz3 := hb4.size
    clear hb4
    go_wp2_with fail
    go_fit (magnitude_any d HD.out _)
    rintro e w5 ⟨rfl, rfl⟩
    rw [eabs.out]
    go_wp2_with fail
    go_fit (negQuotient_raw (-y) (-d) (by omega) HM'.out.neg hnd.out (by have := HD2.out; omega) _)
    rintro e w5 ⟨rfl, hb5⟩
    go_wp2_with fail
    go_ret2
    exact ⟨ret2_ie (by rw [HY.out]) (by rw [HY.out]), G6.out.trans (hb5.mono (by omega))⟩
  · obtain ⟨k1, k2, k3, k4, k5⟩ := hs0
    have K5 := Lib.hid k5
    clear k5
    go_wp2_with fail
    go_fit (negative_no y HM'.out (by omega) _)
    rintro e w3 ⟨rfl, hb3⟩
    have hs0 := hold2 (⟨k1, k2, k3, k4, K5.out⟩ : _ ∧ _ ∧ _ ∧ _ ∧ Below w.heap.size w wn) hb3
    clear hb3 k1 k2 k3 k4 K5
    go_upto_region 8 with fail
    go_region_held3 (fun w' => w'.cell? ⟨w1.heap.size, 0, none⟩ = some (.int .u64 (hiOf y)) ∧ w'.cell? ⟨w1.heap.size, 1, none⟩ = some (.int .u64 (loOf y)) ∧ w1.heap.size < w'.heap.size ∧ w.heap.size ≤ w'.heap.size ∧ Below w.heap.size w w') (first | exact hold2_drew hs0 | assumption | exact hold2 (by assumption) (by assumption)) (first
          | (go_at_call 77; go_fit (magnitude_any d HD.out _); rintro e w4 ⟨rfl, rfl⟩; rw [eabs.out])
          | (go_at_call 78; go_fit (quotient_raw y (-d) (by omega) HM'.out hnd.out (by have := HD2.out; omega) _); rintro e w5 ⟨rfl, hb5⟩))
    go_wp2_with fail
    go_ret2
    refine ⟨ret2_ie (by rw [HY.out]) (by rw [HY.out]), ?_⟩
    exact hold2_below (B := w1.heap.size) (x := .int .u64 (hiOf y)) (y := .int .u64 (loOf y)) (by assumption)

theorem Scale_any (n m d : Int) (hn : I64 n) (hm : I64 m) (hd : I64 d) (w : World) :
    Calls Tryz.prog 55 #[.int .i64 n, .int .i64 m, .int .i64 d] w fun e w' => e = .returned (.tuple #[.int .i64 (scQ n m d), .int .i64 (scE n m d)]) ∧ Below w.heap.size w w' := by
  unfold scQ scE scZ
  by_cases h0 : d = 0
  · subst h0
    exact (Scale_zero n m w).mono fun e w' ⟨he, hw⟩ => ⟨he, hw ▸ Below.refl _ _⟩
  · rw [if_neg h0, if_neg h0]
    by_cases h1 : d < 0
    · rw [if_pos h1, show (d.natAbs : Int) = -d by omega]
      exact Scale_neg n m d hn hm hd h1 w
    · rw [if_neg h1, show (d.natAbs : Int) = d by omega]
      exact Scale_pos n m d hn hm hd (by omega) w

end Go.Proofs.YtmjikddceegloaaGreatDoor
