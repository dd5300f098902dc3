/- Contracts of package num: Mul and Scale. -/
import Derived.Test.YthggcagbanndgaaNumB
namespace Go.Proofs.Ythggcagbanndgaa
open Go.RowKit Go.Lib Go.NumM

theorem hold2_drew {W w1 : World} {B : Nat} {x y : Value} (h : w1.cell? ⟨B, 0, none⟩ = some x ∧ w1.cell? ⟨B, 1, none⟩ = some y ∧ B < w1.heap.size ∧ W.heap.size ≤ w1.heap.size ∧ Below W.heap.size W w1) :
    w1.drew.cell? ⟨B, 0, none⟩ = some x ∧ w1.drew.cell? ⟨B, 1, none⟩ = some y ∧ B < w1.drew.heap.size ∧ W.heap.size ≤ w1.drew.heap.size ∧ Below W.heap.size W w1.drew :=
  ⟨h.1, h.2.1, h.2.2.1, h.2.2.2.1, h.2.2.2.2.drew⟩

theorem less_any1 (z y : Int) (hz : Mid z) (hy : Mid y) (w : World) :
    Calls Try.prog 50 #[.agg #[.int .u64 (hiOf z), .int .u64 (loOf z)], prodV y] w fun e w' => e = .returned (.bool (decide (z < y))) ∧ Below w.heap.size w w' := less_any z y hz hy w
theorem less_any2 (z y : Int) (hz : Mid z) (hy : Mid y) (w : World) :
    Calls Try.prog 50 #[prodV z, .agg #[.int .u64 (hiOf y), .int .u64 (loOf y)]] w fun e w' => e = .returned (.bool (decide (z < y))) ∧ Below w.heap.size w w' := less_any z y hz hy w
theorem minI : I64 (-9223372036854775808) := by unfold I64; omega
theorem maxI : I64 9223372036854775807 := by unfold I64; omega
theorem oneI : I64 1 := by unfold I64; omega
theorem minM : Mid (-9223372036854775808) := by unfold Mid; omega
theorem maxM : Mid 9223372036854775807 := by unfold Mid; omega
theorem lo_wrap (z : Int) (h1 : ¬ z < -9223372036854775808) (h2 : ¬ 9223372036854775807 < z) : wrap64 (loOf z) = z := by unfold wrap64 loOf; omega

set_option maxHeartbeats 1000000 in
theorem Mul_any (a b : Int) (ha : I64 a) (hb : I64 b) (w : World) :
    Calls Try.prog 17 #[.int .i64 a, .int .i64 b] w fun e w' => e = .returned (.int .i64 (limit64 (a * b))) ∧ Below w.heap.size w w' := by
  have HA := Lib.hid ha; have HB := Lib.hid hb
  have HM := Lib.hid (mid_mul a b ha hb)
  clear ha hb
  go_enter Try.func17, Try.ntmps17
  go_wp2_with fail
  go_fit (multiply_any _ _ HA.out HB.out _)
  rintro e w1 ⟨rfl, hb1⟩
  unfold prodV
  go_upto_region 2 with fail
  have hs0 := hold2_new hb1 (.int .u64 (hiOf (a * b))) (.int .u64 (loOf (a * b))) 79
  obtain ⟨wn, hwn⟩ : ∃ wn, wn = w1.alloc (Obj.cells #[Value.int IntKind.u64 (hiOf (a * b)), Value.int IntKind.u64 (loOf (a * b))] 79) := ⟨_, rfl⟩
  rw [← hwn] at hs0 ⊢
  clear hwn
  obtain ⟨z, hz⟩ : ∃ z, z = a * b := ⟨_, rfl⟩
  rw [← hz] at hs0 HM ⊢
  have HZ := Lib.hid hz
  clear hz
  go_cut [9] (fun s9 wx => s9 = .bool (decide (z < -9223372036854775808)) ∧ (wx.cell? ⟨w1.heap.size, 0, none⟩ = some (.int .u64 (hiOf z)) ∧ wx.cell? ⟨w1.heap.size, 1, none⟩ = some (.int .u64 (loOf z)) ∧ w1.heap.size < wx.heap.size ∧ w.heap.size ≤ wx.heap.size ∧ Below w.heap.size w wx))
  case first =>
    go_region_held3 (fun w' => w'.cell? ⟨w1.heap.size, 0, none⟩ = some (.int .u64 (hiOf z)) ∧ w'.cell? ⟨w1.heap.size, 1, none⟩ = some (.int .u64 (loOf z)) ∧ w1.heap.size < w'.heap.size ∧ w.heap.size ≤ w'.heap.size ∧ Below w.heap.size w w') (first | exact hold2_drew hs0 | exact hold2 (by assumption) (by assumption)) (first
      | (go_at_call 49; go_fit (multiply_any (-9223372036854775808) 1 minI oneI _); rintro e w2 ⟨rfl, hb2⟩)
      | (go_at_call 50; go_fit (less_any1 z (-9223372036854775808) HM.out minM _); rintro e w3 ⟨rfl, hb3⟩))
    go_wp2_with fail
    go_meet
    refine ⟨rfl, ?_⟩
    assumption
  case rest =>
    obtain ⟨rfl, hs1⟩ := hcut
    clear hs0
    by_cases h1 : z < -9223372036854775808
    · have HS := Lib.hid hs1
      clear hs1
      go_wp2_with fail
      go_ret
      exact ⟨ret_int (by unfold limit64; rw [← HZ.out, if_pos h1]), HS.out.2.2.2.2⟩
    · have H1 := Lib.hid h1
      clear h1
      go_upto_region 4 with fail
      go_cut [13] (fun s9 wx => s9 = .bool (decide (9223372036854775807 < z)) ∧ (wx.cell? ⟨w1.heap.size, 0, none⟩ = some (.int .u64 (hiOf z)) ∧ wx.cell? ⟨w1.heap.size, 1, none⟩ = some (.int .u64 (loOf z)) ∧ w1.heap.size < wx.heap.size ∧ w.heap.size ≤ wx.heap.size ∧ Below w.heap.size w wx))
      case first =>
        go_region_held3 (fun w' => w'.cell? ⟨w1.heap.size, 0, none⟩ = some (.int .u64 (hiOf z)) ∧ w'.cell? ⟨w1.heap.size, 1, none⟩ = some (.int .u64 (loOf z)) ∧ w1.heap.size < w'.heap.size ∧ w.heap.size ≤ w'.heap.size ∧ Below w.heap.size w w') (first | exact hold2_drew hs1 | exact hold2 (by assumption) (by assumption)) (first
          | (go_at_call 49; go_fit (multiply_any 9223372036854775807 1 maxI oneI _); rintro e w2 ⟨rfl, hb2⟩)
          | (go_at_call 50; go_fit (less_any2 9223372036854775807 z maxM HM.out _); rintro e w3 ⟨rfl, hb3⟩))
        go_wp2_with fail
        go_meet
        refine ⟨rfl, ?_⟩
        assumption
      case rest =>
        obtain ⟨rfl, hs2⟩ := hcut
        clear hs1
        by_cases h2 : 9223372036854775807 < z
        · have HS := Lib.hid hs2
          clear hs2
          go_wp2_with fail
          go_ret
          exact ⟨ret_int (by have h4 := H1.out; unfold limit64; rw [← HZ.out, if_neg (by omega), if_pos h2]), HS.out.2.2.2.2⟩
        · have H2 := Lib.hid h2
          obtain ⟨g1, g2, g3, g4, g5⟩ := hs2
          have G5 := Lib.hid g5
          have h3 : decide (9223372036854775807 < z) = false := by simpa using h2
          clear g5 h2
          go_wp2_with fail
          go_ret
          exact ⟨ret_int (by have h4 := H1.out; have h5 := H2.out; unfold limit64; rw [← HZ.out, if_neg (by omega), if_neg (by omega)]; exact lo_wrap z (by omega) (by omega)), G5.out⟩
end Go.Proofs.Ythggcagbanndgaa
