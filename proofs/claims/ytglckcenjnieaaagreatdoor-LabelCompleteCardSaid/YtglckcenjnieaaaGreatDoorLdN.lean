/- How long the document's witness is (label). -/
import Derived.Test.YtglckcenjnieaaaGreatDoorLdM
namespace Go.Proofs.YtglckcenjnieaaaGreatDoor
open Go.RowKit Go.Lib

theorem wit_len (A B : List (List UInt8)) : (witD A B).length ≤ A.length + B.length := by
  unfold witD
  exact Nat.le_trans (List.length_filterMap_le _ _) (Nat.le_trans (sortR_len _) (namesD_len A B))
theorem dec16 {n : Int} (h : n ≤ 9007199254740992) : (Lib.decDigits n.toNat).length ≤ 16 := dec_len 15 n.toNat (by rw [show 10 ^ (15 + 1) = 10000000000000000 by decide]; omega)
theorem chosen_len (x : List UInt8) (a b : DCase) (h1 : a.lo ≤ 9007199254740992) (h2 : a.hi ≤ 9007199254740992) : (chosenD x a b).length ≤ x.length + 17 := by
  have e1 := dec16 h1
  have e2 := dec16 h2
  unfold chosenD
  repeat' split
  all_goals
    try simp only [List.length_append, List.length_cons, List.length_nil]
    omega
theorem wit_mem {A B : List (List UInt8)} (hA : ∀ x ∈ A, x.length ≤ 1000000) (hB : ∀ x ∈ B, x.length ≤ 1000000) {x : List UInt8} (h : x ∈ witD A B) : x.length ≤ 1000017 := by
  unfold witD at h
  obtain ⟨z, hz, hzl⟩ := List.mem_filterMap.1 h
  rw [sortR_mem] at hz
  have hn := names_len hA hB hz
  unfold pickD at hzl
  split at hzl
  · cases hzl
  · injection hzl with hzl
    rw [← hzl]
    have := chosen_len z (permD A z) (permD B z) (perm_lo A z) (perm_ok A z).2
    omega
end Go.Proofs.YtglckcenjnieaaaGreatDoor
