/- How an array of ints that comes in is opened; and what stays there behind calls that only make memory. -/
import Derived.Test.YthggcagbanndgaaLives
import Derived.ProofKit
import Derived.OpenShut
namespace Go.Proofs.Ythggcagbanndgaa
open Go.ChangeShapes Go.WideShapes Go.ChangeAt Go.RowKit

theorem okWide_arr {P : Program} {w : World} {r : Reach} {base : Nat} {t : TypeId} {v : Value} {n : Nat} {e : TypeId} (ht : P.underlying t = some (.array n e)) (h : Value.okWide P w r base t v) : ∃ cs, v = .agg cs ∧ cs.size = P.cellsOf t := by
  simp only [Value.okWide, ht] at h
  obtain ⟨cs, h1, h2, _⟩ := h
  exact ⟨cs, h1, h2⟩

theorem arr_ints {H : Type} {enc : TypeId × Value → H} {P : Program} {w : World} {base : Nat} {spare : Nat → Bool} {held : Bool} {t e : TypeId} {n fuel : Nat} {cs : List Value} {x : DataW H × List MemPlace}
    (ht : P.underlying t = some (.array n e)) (he : P.underlying e = some (.int .i64)) (hce : P.cellsOf e = 1) (hct : P.cellsOf t = n)
    (h : DataW.trod enc P w base spare held fuel t cs = some x) : ∃ L : List Int, cs = L.map (Value.int .i64) ∧ L.length = n ∧ ∀ k ∈ L, (Lit.int .i64 k).wf = true := by
  obtain ⟨xs, m, _, _, hlen, hxs, hi⟩ := DataW.trod_array ht h
  rw [hct] at hlen
  rw [hce] at hi
  have key : ∀ i (hn : i < cs.length), ∃ k, cs[i] = .int .i64 k ∧ (Lit.int .i64 k).wf = true := by
    intro i hn
    have h1 := hi i (by omega)
    rw [List.getElem?_eq_getElem (by omega), Nat.mul_one] at h1
    obtain ⟨k, e1, _, e3⟩ := DataW.trod_int he h1
    rw [List.drop_eq_getElem_cons hn] at e1
    simp only [List.take_succ_cons, List.take_zero, List.cons.injEq, and_true] at e1
    exact ⟨k, e1, e3⟩
  refine ⟨cs.map intOf, ?_, by simpa using hlen, ?_⟩
  · apply List.ext_getElem (by simp)
    intro i h1 h2
    obtain ⟨k, e1, _⟩ := key i h1
    simp [e1, intOf]
  · intro k hk
    obtain ⟨i, hl, rfl⟩ := List.getElem_of_mem hk
    obtain ⟨k, e1, e2⟩ := key i (by simpa using hl)
    simpa [e1, intOf] using e2

theorem hold4 {W w1 w2 : World} {B : Nat} {x y z t : Value} (h : w1.cell? ⟨B, 0, none⟩ = some x ∧ w1.cell? ⟨B, 1, none⟩ = some y ∧ w1.cell? ⟨B, 2, none⟩ = some z ∧ w1.cell? ⟨B, 3, none⟩ = some t ∧ B < w1.heap.size ∧ W.heap.size ≤ w1.heap.size ∧ Below W.heap.size W w1) (hb : Below w1.heap.size w1 w2) :
    w2.cell? ⟨B, 0, none⟩ = some x ∧ w2.cell? ⟨B, 1, none⟩ = some y ∧ w2.cell? ⟨B, 2, none⟩ = some z ∧ w2.cell? ⟨B, 3, none⟩ = some t ∧ B < w2.heap.size ∧ W.heap.size ≤ w2.heap.size ∧ Below W.heap.size W w2 := by
  obtain ⟨h1, h2, h5, h6, h3, h4, h7⟩ := h
  have hz := hb.size
  exact ⟨(hb.cell (p := ⟨B, 0, none⟩) h3).trans h1, (hb.cell (p := ⟨B, 1, none⟩) h3).trans h2, (hb.cell (p := ⟨B, 2, none⟩) h3).trans h5, (hb.cell (p := ⟨B, 3, none⟩) h3).trans h6, by omega, by omega, h7.trans (hb.mono h4)⟩
theorem hold4_drew {W w1 : World} {B : Nat} {x y z t : Value} (h : w1.cell? ⟨B, 0, none⟩ = some x ∧ w1.cell? ⟨B, 1, none⟩ = some y ∧ w1.cell? ⟨B, 2, none⟩ = some z ∧ w1.cell? ⟨B, 3, none⟩ = some t ∧ B < w1.heap.size ∧ W.heap.size ≤ w1.heap.size ∧ Below W.heap.size W w1) :
    w1.drew.cell? ⟨B, 0, none⟩ = some x ∧ w1.drew.cell? ⟨B, 1, none⟩ = some y ∧ w1.drew.cell? ⟨B, 2, none⟩ = some z ∧ w1.drew.cell? ⟨B, 3, none⟩ = some t ∧ B < w1.drew.heap.size ∧ W.heap.size ≤ w1.drew.heap.size ∧ Below W.heap.size W w1.drew :=
  ⟨h.1, h.2.1, h.2.2.1, h.2.2.2.1, h.2.2.2.2.1, h.2.2.2.2.2.1, h.2.2.2.2.2.2.drew⟩
theorem hold4_new (W : World) (x y z t : Value) (T : TypeId) :
    (W.alloc (.cells #[x, y, z, t] T)).cell? ⟨W.heap.size, 0, none⟩ = some x ∧ (W.alloc (.cells #[x, y, z, t] T)).cell? ⟨W.heap.size, 1, none⟩ = some y ∧
    (W.alloc (.cells #[x, y, z, t] T)).cell? ⟨W.heap.size, 2, none⟩ = some z ∧ (W.alloc (.cells #[x, y, z, t] T)).cell? ⟨W.heap.size, 3, none⟩ = some t ∧
      W.heap.size < (W.alloc (.cells #[x, y, z, t] T)).heap.size ∧ W.heap.size ≤ (W.alloc (.cells #[x, y, z, t] T)).heap.size ∧ Below W.heap.size W (W.alloc (.cells #[x, y, z, t] T)) :=
  ⟨by simp [World.cell?_alloc_new], by simp [World.cell?_alloc_new], by simp [World.cell?_alloc_new], by simp [World.cell?_alloc_new], by simp, by simp, (Below.refl _ _).alloc (Nat.le_refl _) _⟩
theorem hold4_below {W w1 : World} {B : Nat} {x y z t : Value} (h : w1.cell? ⟨B, 0, none⟩ = some x ∧ w1.cell? ⟨B, 1, none⟩ = some y ∧ w1.cell? ⟨B, 2, none⟩ = some z ∧ w1.cell? ⟨B, 3, none⟩ = some t ∧ B < w1.heap.size ∧ W.heap.size ≤ w1.heap.size ∧ Below W.heap.size W w1) : Below W.heap.size W w1 := h.2.2.2.2.2.2

theorem len2 {α : Type} {L : List α} (h : L.length = 2) : ∃ a b, L = [a, b] := by
  match L, h with
  | [a, b], _ => exact ⟨a, b, rfl⟩
theorem len4 {α : Type} {L : List α} (h : L.length = 4) : ∃ a b c d, L = [a, b, c, d] := by
  match L, h with
  | [a, b, c, d], _ => exact ⟨a, b, c, d, rfl⟩
theorem len6 {α : Type} {L : List α} (h : L.length = 6) : ∃ a b c d e f, L = [a, b, c, d, e, f] := by
  match L, h with
  | [a, b, c, d, e, f], _ => exact ⟨a, b, c, d, e, f, rfl⟩

theorem reads_of {w : World} {x : Addr} {l c : Nat} {zs : List Int} (hl : l ≤ c) (hm : c ≤ maxLen) (hz : zs.length = c) (hcell : ∀ i, i < zs.length → w.cell? (x.add i) = some (.int .i64 (zs.getD i 0))) (hwz : ∀ n ∈ zs, (Lit.int .i64 n).wf = true) :
    ∃ L : List Int, l = L.length ∧ (∀ n ∈ L, I64 n) ∧ L.length ≤ 9223372036854775807 ∧ ReadsInts w (some x) L := by
  have hlen : (zs.take l).length = l := by rw [List.length_take]; omega
  refine ⟨zs.take l, hlen.symm, fun n hn => I64.mk (hwz n (List.mem_of_mem_take hn)), by unfold maxLen at hm; omega, ?_⟩
  intro k hk
  rw [hlen] at hk
  have h0 := hcell 0 (by omega)
  have hsp := World.cell?_spot h0
  have hlt := World.block_lt_of_cell? w _ h0
  have hk' := hcell k (by omega)
  obtain ⟨b, off, spot⟩ := x
  simp only [Addr.add, if_true] at hsp hlt
  subst hsp
  refine ⟨b, off, rfl, hlt, ?_⟩
  have e : (⟨b, off, none⟩ : Addr).add k = ⟨b, off + k, none⟩ := by
    unfold Addr.add
    split
    · rename_i h; subst h; rfl
    · rfl
  rw [e] at hk'
  rw [hk', List.getElem_take, List.getD_eq_getElem?_getD, List.getElem?_eq_getElem (by omega)]
  rfl
end Go.Proofs.Ythggcagbanndgaa
