/- Slices of strings that come in. -/
import Derived.Test.YtbjodcjfaeclmaaGreatDoorBaseS
namespace Go.Proofs.YtbjodcjfaeclmaaGreatDoor
open Go.RowKit Go.Lib

theorem reads_ofS {w : World} {x : Addr} {l c m : Nat} {Sx : Nat → ByteArray} (hl : l ≤ c) (hm : c ≤ maxLen) (hlm : l ≤ m) (hcell : ∀ i, i < m → w.cell? (x.add i) = some (.string (Sx i)) ∧ (Sx i).size ≤ maxLen) :
    ∃ L : List (List UInt8), l = L.length ∧ L.length ≤ c ∧ c ≤ 9223372036854775807 ∧ (∀ z ∈ L, z.length ≤ 9223372036854775807) ∧ ReadsStr w (some x) L := by
  have hlen : ((List.range l).map fun i => (Sx i).data.toList).length = l := by rw [List.length_map, List.length_range]
  refine ⟨(List.range l).map fun i => (Sx i).data.toList, hlen.symm, by rw [hlen]; exact hl, by unfold maxLen at hm; omega, ?_, ?_⟩
  · intro z hz
    obtain ⟨i, hi, rfl⟩ := List.mem_map.1 hz
    have h := (hcell i (by have := List.mem_range.1 hi; omega)).2
    rw [Array.length_toList]
    show (Sx i).size ≤ _
    unfold maxLen at h
    omega
  · intro k hk
    rw [hlen] at hk
    have h0 := (hcell 0 (by omega)).1
    have hsp := World.cell?_spot h0
    have hlt := World.block_lt_of_cell? w _ h0
    have hk' := (hcell k (by omega)).1
    obtain ⟨b, off, spot⟩ := x
    simp only [Addr.add, if_true] at hsp hlt
    subst hsp
    refine ⟨b, off, rfl, hlt, ?_⟩
    have e : (⟨b, off, none⟩ : Addr).add k = ⟨b, off + k, none⟩ := by
      unfold Addr.add
      split
      · rename_i h; subst h; rfl
      · rfl
    rw [e] at hk'
    rw [hk']
    simp
end Go.Proofs.YtbjodcjfaeclmaaGreatDoor
