/- How an array of numbers of any kind that comes in is opened. -/
import Derived.Test.YtaalfnfikjmomaaDoorRows
import Derived.Deep.RegionHeld3
import Derived.ProofKit
import Derived.OpenShut
namespace Go.Proofs.YtaalfnfikjmomaaDoor
open Go.ChangeShapes Go.WideShapes Go.ChangeAt Go.RowKit

theorem okWide_arrK {P : Program} {w : World} {r : Reach} {base : Nat} {t : TypeId} {v : Value} {n : Nat} {e : TypeId} (ht : P.underlying t = some (.array n e)) (h : Value.okWide P w r base t v) : ∃ cs, v = .agg cs ∧ cs.size = P.cellsOf t := by
  simp only [Value.okWide, ht] at h
  obtain ⟨cs, h1, h2, _⟩ := h
  exact ⟨cs, h1, h2⟩
theorem arr_intsK {H : Type} {enc : TypeId × Value → H} {P : Program} {w : World} {base : Nat} {spare : Nat → Bool} {held : Bool} {t e : TypeId} {n fuel : Nat} {cs : List Value} {x : DataW H × List MemPlace} {q : IntKind}
    (ht : P.underlying t = some (.array n e)) (he : P.underlying e = some (.int q)) (hce : P.cellsOf e = 1) (hct : P.cellsOf t = n)
    (h : DataW.trod enc P w base spare held fuel t cs = some x) : ∃ L : List Int, cs = L.map (Value.int q) ∧ L.length = n ∧ ∀ k ∈ L, (Lit.int q k).wf = true := by
  obtain ⟨xs, m, _, _, hlen, hxs, hi⟩ := DataW.trod_array ht h
  rw [hct] at hlen
  rw [hce] at hi
  have key : ∀ i (hn : i < cs.length), ∃ k, cs[i] = .int q k ∧ (Lit.int q k).wf = true := by
    intro i hn
    have h1 := hi i (by omega)
    rw [List.getElem?_eq_getElem (by omega), Nat.mul_one] at h1
    obtain ⟨k, e1, _, e3⟩ := DataW.trod_int he h1
    rw [List.drop_eq_getElem_cons hn] at e1
    simp only [List.take_succ_cons, List.take_zero, List.cons.injEq, and_true] at e1
    exact ⟨k, e1, e3⟩
  refine ⟨cs.map intOf, ?_, by simpa using hlen, ?_⟩
  · apply List.ext_getElem (by simp)
    intro i h1 h2
    obtain ⟨k, e1, _⟩ := key i h1
    simp [e1, intOf]
  · intro k hk
    obtain ⟨i, hl, rfl⟩ := List.getElem_of_mem hk
    obtain ⟨k, e1, e2⟩ := key i (by simpa using hl)
    simpa [e1, intOf] using e2
theorem lenA4 {α : Type} {L : List α} (h : L.length = 4) : ∃ a b c d, L = [a, b, c, d] := by
  match L, h with
  | [a, b, c, d], _ => exact ⟨a, b, c, d, rfl⟩
end Go.Proofs.YtaalfnfikjmomaaDoor
