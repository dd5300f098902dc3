/- What the walks of value's laws hold in their regions. -/
import Derived.Test.YtabopneehhnhfaaGreatDoorVluAw
namespace Go.Proofs.YtabopneehhnhfaaGreatDoor
open Go.RowKit Go.Lib

/-- The cells of a value's box. -/
def Box6 (B : Nat) (k : Int) (t : Bool) (i : Int) (s : ByteArray) (sl kl : Value) (w' : World) : Prop := w'.cell? ⟨B, 0, none⟩ = some (.int .i64 k) ∧ w'.cell? ⟨B, 1, none⟩ = some (.bool t) ∧ w'.cell? ⟨B, 2, none⟩ = some (.int .i64 i) ∧ w'.cell? ⟨B, 3, none⟩ = some (.string s) ∧ w'.cell? ⟨B, 4, none⟩ = some sl ∧ w'.cell? ⟨B, 5, none⟩ = some kl
theorem Box6.below {B : Nat} {k : Int} {t : Bool} {i : Int} {s : ByteArray} {sl kl : Value} {w1 w2 : World} (h : Box6 B k t i s sl kl w1) (hb : Below w1.heap.size w1 w2) : Box6 B k t i s sl kl w2 := by
  obtain ⟨a0, a1, a2, a3, a4, a5⟩ := h
  have z0 := World.block_lt_of_cell? w1 _ a0
  exact ⟨(hb.cell (p := ⟨B, 0, none⟩) z0).trans a0, (hb.cell (p := ⟨B, 1, none⟩) z0).trans a1, (hb.cell (p := ⟨B, 2, none⟩) z0).trans a2, (hb.cell (p := ⟨B, 3, none⟩) z0).trans a3, (hb.cell (p := ⟨B, 4, none⟩) z0).trans a4, (hb.cell (p := ⟨B, 5, none⟩) z0).trans a5⟩
theorem Box6.of {w : World} {B : Nat} {t0 : TypeId} {k : Int} {t : Bool} {i : Int} {s : ByteArray} {sl kl : Value} (h : CellsAt w B t0 #[.int .i64 k, .bool t, .int .i64 i, .string s, sl, kl]) : Box6 B k t i s sl kl w := ⟨h.cell rfl, h.cell rfl, h.cell rfl, h.cell rfl, h.cell rfl, h.cell rfl⟩
/-- The box of a value. -/
def S6 (w : World) (k : Int) (t : Bool) (i : Int) (s : ByteArray) (sl kl : Value) (w' : World) : Prop := w'.cell? ⟨w.heap.size, 0, none⟩ = some (.int .i64 k) ∧ w'.cell? ⟨w.heap.size, 1, none⟩ = some (.bool t) ∧ w'.cell? ⟨w.heap.size, 2, none⟩ = some (.int .i64 i) ∧ w'.cell? ⟨w.heap.size, 3, none⟩ = some (.string s) ∧ w'.cell? ⟨w.heap.size, 4, none⟩ = some sl ∧ w'.cell? ⟨w.heap.size, 5, none⟩ = some kl ∧ Below w.heap.size w w'
theorem S6.box {w : World} {k : Int} {t : Bool} {i : Int} {s : ByteArray} {sl kl : Value} {w1 : World} (h : S6 w k t i s sl kl w1) : Box6 w.heap.size k t i s sl kl w1 ∧ Below w.heap.size w w1 := ⟨⟨h.1, h.2.1, h.2.2.1, h.2.2.2.1, h.2.2.2.2.1, h.2.2.2.2.2.1⟩, h.2.2.2.2.2.2⟩
theorem S6.mk' {w : World} {k : Int} {t : Bool} {i : Int} {s : ByteArray} {sl kl : Value} {w1 : World} (h : Box6 w.heap.size k t i s sl kl w1) (hb : Below w.heap.size w w1) : S6 w k t i s sl kl w1 := ⟨h.1, h.2.1, h.2.2.1, h.2.2.2.1, h.2.2.2.2.1, h.2.2.2.2.2, hb⟩
theorem S6.below {w : World} {k : Int} {t : Bool} {i : Int} {s : ByteArray} {sl kl : Value} {w1 w2 : World} (h : S6 w k t i s sl kl w1) (hb : Below w1.heap.size w1 w2) : S6 w k t i s sl kl w2 := S6.mk' (h.box.1.below hb) (h.box.2.trans (hb.mono h.box.2.size))
theorem S6.drew {w : World} {k : Int} {t : Bool} {i : Int} {s : ByteArray} {sl kl : Value} {w1 : World} (h : S6 w k t i s sl kl w1) : S6 w k t i s sl kl w1.drew := h.below (Below.refl _ _).drew
theorem S6.new (w : World) (k : Int) (t : Bool) (i : Int) (s : ByteArray) (sl kl : Value) : S6 w k t i s sl kl (w.alloc (.cells #[.int .i64 k, .bool t, .int .i64 i, .string s, sl, kl] 25)) :=
  S6.mk' (Box6.of (CellsAt.new w _ _)) ((Below.refl _ _).alloc (Nat.le_refl _) _)
end Go.Proofs.YtabopneehhnhfaaGreatDoor
