/- Slices of digests that come in. -/
import Derived.Test.YtoehpoodfbgdiaaDoorDigD
namespace Go.Proofs.YtoehpoodfbgdiaaDoor
open Go.RowKit Go.Lib

theorem reads_ofU {w : World} {x : Addr} {l c : Nat} {zs : List Int} (hl : l ≤ c) (hm : c ≤ maxLen) (hz : zs.length = c) (hcell : ∀ i, i < zs.length → w.cell? (x.add i) = some (.int .u64 (zs.getD i 0))) (hwz : ∀ n ∈ zs, (Lit.int .u64 n).wf = true) :
    ∃ L : List Nat, l = L.length ∧ L.length ≤ c ∧ c ≤ 9223372036854775807 ∧ ReadsU w (some x) L := by
  have hlen : ((zs.take l).map fun z => z.toNat).length = l := by rw [List.length_map, List.length_take]; omega
  refine ⟨(zs.take l).map fun z => z.toNat, hlen.symm, by rw [hlen]; exact hl, by unfold maxLen at hm; omega, ?_⟩
  intro k hk
  rw [hlen] at hk
  have h0 := hcell 0 (by omega)
  have hsp := World.cell?_spot h0
  have hlt := World.block_lt_of_cell? w _ h0
  have hk' := hcell k (by omega)
  obtain ⟨b, off, spot⟩ := x
  simp only [Addr.add, if_true] at hsp hlt
  subst hsp
  refine ⟨b, off, rfl, hlt, ?_⟩
  have e : (⟨b, off, none⟩ : Addr).add k = ⟨b, off + k, none⟩ := by
    unfold Addr.add
    split
    · rename_i h; subst h; rfl
    · rfl
  rw [e] at hk'
  have hkz : k < zs.length := by omega
  have hw : 0 ≤ zs[k] ∧ zs[k] ≤ 18446744073709551615 := by
    have := hwz zs[k] (List.getElem_mem hkz)
    simpa [Lit.wf, IntKind.signed, IntKind.min, IntKind.max, IntKind.bits] using this
  rw [hk', List.getD_eq_getElem?_getD, List.getElem?_eq_getElem hkz]
  simp only [Option.getD_some, List.getElem_map, List.getElem_take]
  exact ⟨by rw [Int.toNat_of_nonneg hw.1], by omega⟩
end Go.Proofs.YtoehpoodfbgdiaaDoor
