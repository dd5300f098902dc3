/- What the program's class keeps from round to round (glob). -/
import Derived.Test.YtaalfnfikjmomaaGlbV
import Derived.Test.YtaalfnfikjmomaaGlbR
namespace Go.Proofs.Ytaalfnfikjmomaa
open Go.RowKit Go.Lib

/-- The rest of a class and the items that are read. -/
structure CInv (s t : ByteArray) (done : List (UInt8 × UInt8)) (k : Nat) : Prop where
  pos : 1 ≤ k
  rest : t.data.toList = s.data.toList.drop k
  size : k + t.size = s.size
  first : done = [] ↔ k = 1
  class_ : classL (s.data.toList.drop 1) = (classL t.data.toList).map fun q => (done ++ q.1, q.2)
theorem cinv_start (s : ByteArray) (h : 0 < s.size) : CInv s (s.extract 1 s.size) [] 1 := by
  refine ⟨Nat.le_refl _, ext_drop s 1, by rw [ext_size]; omega, by simp, ?_⟩
  rw [ext_drop]
  cases classL (s.data.toList.drop 1) <;> simp
theorem cinv_step {s t : ByteArray} {done : List (UInt8 × UInt8)} {k n : Nat} {x : UInt8 × UInt8} {r : List UInt8} (h : CInv s t done k) (hh : t.data.toList.head? ≠ some 93) (hi : itemL t.data.toList = some (x, r)) (hr : r = t.data.toList.drop n) (hn : 0 < n) (hl : n + r.length = t.size) : CInv s (t.extract n t.size) (done ++ [x]) (k + n) := by
  have hs := h.size
  have hp := h.pos
  refine ⟨by omega, by rw [ext_drop, h.rest, List.drop_drop], by rw [ext_size]; omega, ?_, ?_⟩
  · constructor
    · intro e
      simp at e
    · intro e
      omega
  · rw [h.class_, classL_eq t.data.toList, if_neg hh, hi, ext_drop, ← hr]
    cases hc : classL r <;> simp [hc]
theorem cinv_bad {s t : ByteArray} {done : List (UInt8 × UInt8)} {k : Nat} (h : CInv s t done k) (hh : t.data.toList.head? ≠ some 93) (hi : itemL t.data.toList = none) : classL (s.data.toList.drop 1) = none := by
  rw [h.class_, classL_eq t.data.toList, if_neg hh, hi]
  rfl
theorem cinv_end {s t : ByteArray} {done : List (UInt8 × UInt8)} {k : Nat} (h : CInv s t done k) (hh : t.size = 0) : classL (s.data.toList.drop 1) = none := by
  have e : t.data.toList = [] := List.eq_nil_of_length_eq_zero (by rw [lenB]; exact hh)
  exact cinv_bad h (by rw [e]; simp) (by rw [e]; rfl)
theorem cinv_stop {s t : ByteArray} {done : List (UInt8 × UInt8)} {k : Nat} (h : CInv s t done k) (hh : t.data.toList.head? = some 93) : classL (s.data.toList.drop 1) = some (done, s.data.toList.drop (k + 1)) := by
  rw [h.class_, classL_eq t.data.toList, if_pos hh, h.rest]
  simp
/-- What class gives. -/
def PClassPost (s : ByteArray) (n0 : Nat) (w : World) (e : Ending) (w' : World) : Prop :=
  Below n0 w w' ∧ match classL (s.data.toList.drop 1) with
  | none => e = .returned (.tuple #[.agg #[.int .u64 0, .int .u64 0, .int .u64 0, .int .u64 0, .bool false, .bool false, .int .u8 0], .int .i64 0, .bool false])
  | some (its, r) => if its = [] then e = .returned (.tuple #[.agg #[.int .u64 0, .int .u64 0, .int .u64 0, .int .u64 0, .bool false, .bool false, .int .u8 0], .int .i64 0, .bool false])
    else ∃ n : Nat, n + r.length = s.size ∧ r = s.data.toList.drop n ∧ 0 < n ∧ e = .returned (.tuple #[.agg (elC ⟨4, its⟩).toArray, .int .i64 n, .bool true])
end Go.Proofs.Ytaalfnfikjmomaa
