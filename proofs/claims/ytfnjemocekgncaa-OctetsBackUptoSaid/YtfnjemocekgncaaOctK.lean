/- A signed varint is taken back; the cells of bytes that are read. -/
import Derived.Test.YtfnjemocekgncaaOctJ
namespace Go.Proofs.Ytfnjemocekgncaa
open Go.RowKit Go.Lib

theorem unzig_zigzag (x : Int) : unzig (Lib.zigzag x) = x := by
  unfold unzig Lib.zigzag
  split <;> split <;> omega
theorem reads_cells {w : World} {ad : Addr} {l : List UInt8} (h : ReadsBytes w (some ad) l) : ∀ j u, (Lib.byteCells l)[j]? = some u → w.cell? (ad.add j) = some u := by
  intro j u hj
  unfold Lib.byteCells at hj
  rw [List.getElem?_map] at hj
  cases hl : l[j]? with
  | none => rw [hl] at hj; cases hj
  | some x =>
    rw [hl] at hj
    obtain rfl := Option.some.inj hj
    obtain ⟨hjl, rfl⟩ := List.getElem?_eq_some_iff.1 hl
    obtain ⟨blk, off', e, _, hcell⟩ := h j hjl
    cases e
    have ea : (⟨blk, off', none⟩ : Addr).add j = ⟨blk, off' + j, none⟩ := by
      unfold Addr.add
      split
      · rename_i h; subst h; rfl
      · rfl
    rw [ea]
    exact hcell
theorem byteCells_one' (l : List UInt8) : ∀ u ∈ Lib.byteCells l, u.oneCell' = true := by
  intro u hu
  unfold Lib.byteCells at hu
  obtain ⟨x, _, rfl⟩ := List.mem_map.1 hu
  rfl
theorem reads_some {w : World} {v : Option Addr} {l : List UInt8} (h : ReadsBytes w v l) (hl : 0 < l.length) : ∃ b off, v = some ⟨b, off, none⟩ := by
  obtain ⟨b, off, e, _⟩ := h 0 hl
  exact ⟨b, off, e⟩
end Go.Proofs.Ytfnjemocekgncaa
