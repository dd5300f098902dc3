/- What the walks of typing's laws hold in their regions. -/
import Derived.Test.YtabopneehhnhfabDoorTypLives
namespace Go.Proofs.YtabopneehhnhfabDoor
open Go.RowKit Go.Lib

/-- The box of a type. -/
def S2 (w : World) (k : Int) (sl : Value) (w' : World) : Prop := w'.cell? ⟨w.heap.size, 0, none⟩ = some (.int .i64 k) ∧ w'.cell? ⟨w.heap.size, 1, none⟩ = some sl ∧ Below w.heap.size w w'
theorem S2.below {w : World} {k : Int} {sl : Value} {w1 w2 : World} (h : S2 w k sl w1) (hb : Below w1.heap.size w1 w2) : S2 w k sl w2 := by
  obtain ⟨a1, a2, h1⟩ := h
  have z1 := World.block_lt_of_cell? w1 _ a1
  exact ⟨(hb.cell (p := ⟨w.heap.size, 0, none⟩) z1).trans a1, (hb.cell (p := ⟨w.heap.size, 1, none⟩) z1).trans a2, h1.trans (hb.mono h1.size)⟩
theorem S2.new (w : World) (k : Int) (sl : Value) : S2 w k sl (w.alloc (.cells #[.int .i64 k, sl] 24)) := ⟨(TwoAt.new w _ _ _).cell0, (TwoAt.new w _ _ _).cell1, (Below.refl _ _).alloc (Nat.le_refl _) _⟩
theorem S2.drew {w : World} {k : Int} {sl : Value} {w1 : World} (h : S2 w k sl w1) : S2 w k sl w1.drew := h.below (Below.refl _ _).drew
/-- The boxes of two types. -/
def S4 (w : World) (k : Int) (sl : Value) (k2 : Int) (sl2 : Value) (w' : World) : Prop := w'.cell? ⟨w.heap.size, 0, none⟩ = some (.int .i64 k) ∧ w'.cell? ⟨w.heap.size, 1, none⟩ = some sl ∧ w'.cell? ⟨w.heap.size + 1, 0, none⟩ = some (.int .i64 k2) ∧ w'.cell? ⟨w.heap.size + 1, 1, none⟩ = some sl2 ∧ Below w.heap.size w w'
theorem S4.below {w : World} {k : Int} {sl : Value} {k2 : Int} {sl2 : Value} {w1 w2 : World} (h : S4 w k sl k2 sl2 w1) (hb : Below w1.heap.size w1 w2) : S4 w k sl k2 sl2 w2 := by
  obtain ⟨a1, a2, a3, a4, h1⟩ := h
  have z1 := World.block_lt_of_cell? w1 _ a1
  have z3 := World.block_lt_of_cell? w1 _ a3
  exact ⟨(hb.cell (p := ⟨w.heap.size, 0, none⟩) z1).trans a1, (hb.cell (p := ⟨w.heap.size, 1, none⟩) z1).trans a2, (hb.cell (p := ⟨w.heap.size + 1, 0, none⟩) z3).trans a3, (hb.cell (p := ⟨w.heap.size + 1, 1, none⟩) z3).trans a4, h1.trans (hb.mono h1.size)⟩
theorem S4.new (w : World) (k : Int) (sl : Value) (k2 : Int) (sl2 : Value) : S4 w k sl k2 sl2 ((w.alloc (.cells #[.int .i64 k, sl] 24)).alloc (.cells #[.int .i64 k2, sl2] 24)) := by
  have h1 := (TwoAt.new w 24 (.int .i64 k) sl).alloc (.cells #[.int .i64 k2, sl2] 24)
  have h2 := TwoAt.new (w.alloc (.cells #[.int .i64 k, sl] 24)) 24 (.int .i64 k2) sl2
  simp only [World.size_alloc] at h2
  exact ⟨h1.cell0, h1.cell1, h2.cell0, h2.cell1, ((Below.refl _ _).alloc (Nat.le_refl _) _).alloc (by simp) _⟩
theorem S4.drew {w : World} {k : Int} {sl : Value} {k2 : Int} {sl2 : Value} {w1 : World} (h : S4 w k sl k2 sl2 w1) : S4 w k sl k2 sl2 w1.drew := h.below (Below.refl _ _).drew
end Go.Proofs.YtabopneehhnhfabDoor
