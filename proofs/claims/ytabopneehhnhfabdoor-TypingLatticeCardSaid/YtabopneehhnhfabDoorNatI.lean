/- Lists of strings in natural order, as plain functions. -/
import Derived.Test.YtabopneehhnhfabDoorNatH
namespace Go.Proofs.YtabopneehhnhfabDoor
open Go.RowKit Go.Lib

/- Lists of strings in natural order, as plain functions. -/
def ascB : List (List UInt8) → Bool
  | [] => true
  | [_] => true
  | x :: y :: r => decide (cmpL x y < 0) && ascB (y :: r)
theorem ascB_step {L : List (List UInt8)} {j : Nat} (h : j + 1 < L.length) : ascB (L.drop j) = (decide (cmpL (L[j]'(by omega)) L[j + 1] < 0) && ascB (L.drop (j + 1))) := by
  rw [List.drop_eq_getElem_cons (by omega), List.drop_eq_getElem_cons h, ascB, ← List.drop_eq_getElem_cons h]
theorem ascB_end {L : List (List UInt8)} {j : Nat} (h : L.length ≤ j + 1) : ascB (L.drop j) = true := by
  by_cases h2 : j < L.length
  · rw [List.drop_eq_getElem_cons h2, List.drop_eq_nil_of_le h, ascB]
  · rw [List.drop_eq_nil_of_le (by omega), ascB]

end Go.Proofs.YtabopneehhnhfabDoor
