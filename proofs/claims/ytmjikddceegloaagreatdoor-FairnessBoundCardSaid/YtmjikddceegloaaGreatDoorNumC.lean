/- Contracts of package num: Mul and Scale. -/
import Derived.Test.YtmjikddceegloaaGreatDoorNumB
namespace Go.Proofs.YtmjikddceegloaaGreatDoor
open Go.RowKit Go.Lib Go.NumM

theorem hold2_drew {W w1 : World} {B : Nat} {x y : Value} (h : w1.cell? ⟨B, 0, none⟩ = some x ∧ w1.cell? ⟨B, 1, none⟩ = some y ∧ B < w1.heap.size ∧ W.heap.size ≤ w1.heap.size ∧ Below W.heap.size W w1) :
    w1.drew.cell? ⟨B, 0, none⟩ = some x ∧ w1.drew.cell? ⟨B, 1, none⟩ = some y ∧ B < w1.drew.heap.size ∧ W.heap.size ≤ w1.drew.heap.size ∧ Below W.heap.size W w1.drew :=
  ⟨h.1, h.2.1, h.2.2.1, h.2.2.2.1, h.2.2.2.2.drew⟩

theorem less_any1 (z y : Int) (hz : Mid z) (hy : Mid y) (w : World) :
    Calls Tryz.prog 79 #[.agg #[.int .u64 (hiOf z), .int .u64 (loOf z)], prodV y] w fun e w' => e = .returned (.bool (decide (z < y))) ∧ Below w.heap.size w w' := less_any z y hz hy w
theorem less_any2 (z y : Int) (hz : Mid z) (hy : Mid y) (w : World) :
    Calls Tryz.prog 79 #[prodV z, .agg #[.int .u64 (hiOf y), .int .u64 (loOf y)]] w fun e w' => e = .returned (.bool (decide (z < y))) ∧ Below w.heap.size w w' := less_any z y hz hy w
theorem minI : I64 (-9223372036854775808) := by unfold I64; omega
theorem maxI : I64 9223372036854775807 := by unfold I64; omega
theorem oneI : I64 1 := by unfold I64; omega
theorem minM : Mid (-9223372036854775808) := by unfold Mid; omega
theorem maxM : Mid 9223372036854775807 := by unfold Mid; omega
theorem lo_wrap (z : Int) (h1 : ¬ z < -9223372036854775808) (h2 : ¬ 9223372036854775807 < z) : wrap64 (loOf z) = z := by unfold wrap64 loOf; omega

end Go.Proofs.YtmjikddceegloaaGreatDoor
