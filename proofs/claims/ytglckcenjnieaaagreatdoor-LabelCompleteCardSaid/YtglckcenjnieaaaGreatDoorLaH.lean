/- Maps from names to spans, as label's functions hold them; the contracts of spans.of and permittedBy. -/
import Derived.Test.YtglckcenjnieaaaGreatDoorLaG
import Derived.Maps.Own
import Derived.Maps.OwnSet
import Derived.Maps.OwnOps
import Derived.Maps.Views
import Derived.Maps.Keyed
namespace Go.Proofs.YtglckcenjnieaaaGreatDoor
open Go.RowKit Go.Lib Go.Maps

/-- How a span in the map reads. -/
def spR (v : Value) : Option (DataW Unit × List MemPlace) := match v with
  | .agg c => match c.toList with
    | [.int .i64 a, .int .i64 b] => some (.agg [.lit (.int .i64 a), .lit (.int .i64 b)], [])
    | _ => none
  | _ => none
theorem spR_mk (a b : Int) : spR (.agg #[.int .i64 a, .int .i64 b]) = some (.agg [.lit (.int .i64 a), .lit (.int .i64 b)], []) := rfl
theorem spR_inv {v : Value} {a b : Int} {ps : List MemPlace} (h : spR v = some (.agg [.lit (.int .i64 a), .lit (.int .i64 b)], ps)) : v = .agg #[.int .i64 a, .int .i64 b] := by
  unfold spR at h
  split at h
  · rename_i c
    split at h
    · rename_i x y hc
      injection h with h
      injection h with h _
      injection h with h
      injection h with h1 h
      injection h with h2 _
      injection h1 with h1
      injection h1 with _ h1
      injection h2 with h2
      injection h2 with _ h2
      subst h1 h2
      rw [show c = #[.int .i64 x, .int .i64 y] by rw [← Array.toList_inj, hc]]
    · cases h
  · cases h
theorem keyS : Keyed Tryz.prog 9 := string_keyed Tryz.underlying9
theorem keyS_at (l : List UInt8) (h : l.length ≤ 140737488351232) : keyOf Tryz.prog 9 (.string ⟨l.toArray⟩) = some (.string l) :=
  (Go.WideMaps.keyOf_string_mk Tryz.underlying9 (by show l.toArray.size ≤ maxLen; unfold maxLen; simp; omega)).trans (by simp)
/-- A function, turned at one place. -/
def updF (F : List UInt8 → Option (Int × Int)) (l : List UInt8) (p : Int × Int) : List UInt8 → Option (Int × Int) := fun x => if x = l then some p else F x
/-- Block K is a map of at most n spans, by name. -/
def SpM (w : World) (K n : Nat) (F : List UInt8 → Option (Int × Int)) : Prop :=
  ∃ D : DataW Unit, w.ownsMap Tryz.prog 9 spR K n D ∧ IsMap D ∧ (∀ l, Maps.has D (.string l) = (F l).isSome) ∧ ∀ l a b, F l = some (a, b) → ∀ z, D.atKey (.string l) z = .agg [.lit (.int .i64 a), .lit (.int .i64 b)]
theorem SpM.lt {w : World} {K n : Nat} {F : List UInt8 → Option (Int × Int)} (h : SpM w K n F) : K < w.heap.size := by
  obtain ⟨D, h, _⟩ := h
  exact h.lt
theorem SpM.kept {w w' : World} {K n : Nat} {F : List UInt8 → Option (Int × Int)} (h : SpM w K n F) (hb : Below w.heap.size w w') : SpM w' K n F := by
  obtain ⟨D, h1, h2⟩ := h
  exact ⟨D, h1.kept (row := none) ⟨hb.os, hb.tape, hb.output, hb.size, fun k hk _ => hb.block k hk⟩ (by simp), h2⟩
theorem SpM.new (w : World) : SpM (w.alloc (.map #[] 0)) w.heap.size 0 (fun _ => none) :=
  ⟨.map [], World.ownsMap_made w _ _ _, ⟨[], rfl⟩, fun l => rfl, fun l a b h => by cases h⟩
theorem zero_span (w : World) : (zeroValue 40).run Tryz.prog w = .ok (.agg #[.int .i64 0, .int .i64 0]) w := by kernel_rfl
theorem SpM.get {w : World} {K n : Nat} {F : List UInt8 → Option (Int × Int)} (h : SpM w K n F) (l : List UInt8) (hl : l.length ≤ 140737488351232) :
    ∃ a b : Int, (Instr.lookup 51 (.map (some K)) (.string ⟨l.toArray⟩) true).run Tryz.prog w = .ok (.tuple #[.agg #[.int .i64 a, .int .i64 b], .bool (F l).isSome]) w ∧ ∀ p, F l = some p → (a, b) = p := by
  obtain ⟨D, h1, h2, h3, h4⟩ := h
  obtain ⟨v, ps, hrun, hv⟩ := h1.look_ok (t := 51) keyS Tryz.underlying51 (zero_span w) (spR_mk 0 0) (keyS_at l hl)
  rw [h3 l] at hrun
  cases hF : F l with
  | none =>
    have hn : Maps.has D (.string l) = false := by rw [h3, hF]; rfl
    rw [atKey_of_not_has hn] at hv
    obtain rfl := spR_inv hv
    exact ⟨0, 0, by rw [hrun, hF], fun p hp => by cases hp⟩
  | some p =>
    obtain ⟨a, b⟩ := p
    rw [h4 l a b hF] at hv
    obtain rfl := spR_inv hv
    exact ⟨a, b, by rw [hrun, hF], fun p hp => Option.some.inj hp⟩
theorem keyS_lit (l : List UInt8) : WideAt.IsKeyLit (.string l) := by trivial
theorem SpM.put {w : World} {K n : Nat} {F : List UInt8 → Option (Int × Int)} (h : SpM w K n F) (hn : n < 1048576) (l : List UInt8) (hl : l.length ≤ 140737488351232) (a b : Int) :
    ∃ w', (Instr.mapUpdate 51 (.map (some K)) (.string ⟨l.toArray⟩) (.agg #[.int .i64 a, .int .i64 b])).run Tryz.prog w = .ok () w' ∧ SpM w' K (n + 1) (updF F l (a, b)) ∧ w.grownBy w' (some K) := by
  obtain ⟨D, h1, h2, h3, h4⟩ := h
  obtain ⟨w', hrun, hm, hg⟩ := h1.update (t := 51) keyS Tryz.underlying51 (by unfold maxLen; omega) (keyS_at l hl) (spR_mk a b)
  refine ⟨w', hrun, ⟨_, hm, hm.isMap, fun x => ?_, fun x c d hx z => ?_⟩, hg⟩
  · unfold updF
    by_cases hx : x = l
    · subst hx
      rw [if_pos rfl, has_put_same h2 (keyS_lit x)]
      rfl
    · rw [if_neg hx, has_put_other (by intro e; injection e with e; exact hx e), h3]
  · unfold updF at hx
    by_cases hxl : x = l
    · subst hxl
      rw [if_pos rfl] at hx
      obtain ⟨rfl, rfl⟩ := Prod.mk.inj (Option.some.inj hx)
      exact atKey_put_same h2 (keyS_lit x) _ _
    · rw [if_neg hxl] at hx
      rw [atKey_put_other (by intro e; injection e with e; exact hxl e)]
      exact h4 x c d hx z
end Go.Proofs.YtglckcenjnieaaaGreatDoor
