/- Contracts of the document's Split and Parts (ident), and the plain functions that they compute. -/
import Derived.Test.YtmjikddceegloaaGreatDoorIdnA
import Derived.Test.YtmjikddceegloaaGreatDoorBaseS
namespace Go.Proofs.YtmjikddceegloaaGreatDoor
open Go.RowKit Go.Lib

/-- What stands between the slashes, behind what stands before. -/
def splitOn (cur : List UInt8) : List UInt8 → List (List UInt8)
  | [] => [cur]
  | c :: r => if c.toNat = 47 then cur :: splitOn [] r else splitOn (cur ++ [c]) r
def partsR (l : List UInt8) : List (List UInt8) × Nat := if 512 < l.length then ([], 3) else if (splitOn [] l).all nameB = true then (splitOn [] l, 0) else ([], 1)
/-- A list of strings that the call made. -/
def OwnsS (B : Nat) (w : World) (l : List (List UInt8)) (e : Ending) (w' : World) : Prop :=
  ∃ v, e = .returned v ∧ w'.ownsRow B 9 1 v l.length (l.map strV) ∧ Below B w w'
theorem splitOn_len : ∀ (l cur : List UInt8), (splitOn cur l).length ≤ l.length + 1
  | [], cur => by simp [splitOn]
  | c :: r, cur => by
    unfold splitOn
    split
    · have := splitOn_len r []
      simp only [List.length_cons]; omega
    · have := splitOn_len r (cur ++ [c])
      simp only [List.length_cons]; omega
theorem splitOn_mem : ∀ (l cur : List UInt8) (x : List UInt8), x ∈ splitOn cur l → x.length ≤ cur.length + l.length
  | [], cur, x, h => by
    simp [splitOn] at h
    subst h
    simp
  | c :: r, cur, x, h => by
    unfold splitOn at h
    split at h
    · rcases List.mem_cons.1 h with rfl | h
      · simp
      · have := splitOn_mem r [] x h
        simp only [List.length_nil, List.length_cons] at this ⊢; omega
    · have := splitOn_mem r (cur ++ [c]) x h
      simp only [List.length_append, List.length_cons, List.length_nil] at this ⊢; omega

/-- What Parts and the document's Parts leave. -/
def PartsPost (w : World) (p : List (List UInt8) × Nat) (e : Ending) (w' : World) : Prop :=
  ∃ a c, e = .returned (.tuple #[.slice a p.1.length c, .int .i64 (p.2 : Nat)]) ∧ Below w.heap.size w w' ∧ ReadsStr w' a p.1 ∧ p.1.length ≤ c ∧ c ≤ 9223372036854775807
theorem all_drop (l : List (List UInt8)) (j : Nat) (h : j < l.length) : (l.drop j).all nameB = (nameB l[j] && (l.drop (j + 1)).all nameB) := by
  rw [List.drop_eq_getElem_cons h]; rfl
theorem mk_size (x : List UInt8) : (⟨x.toArray⟩ : ByteArray).size = x.length := by
  show x.toArray.size = _
  simp

end Go.Proofs.YtmjikddceegloaaGreatDoor
