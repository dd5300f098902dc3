/- Contracts of functions of the program, and what they are made of (parser; Pk05). -/
import Derived.Test.YtjehhldboopocaaGreatDoorPk03
import Derived.Test.YtjehhldboopocaaGreatDoorPk04
import Derived.Deep.MidRow
import Derived.Lib.SmallJoins
import Derived.Lib.ConvBytes
import Derived.Lib.AtoiAllMem
import Derived.Laws.Closers25
import Derived.Laws.Closers25b
import Derived.BigCall
import Derived.BigGuard
namespace Go.Proofs.YtjehhldboopocaaGreatDoor.Lx
open Go.RowKit Go.Lib
set_option linter.unusedVariables false
def opsB : List (List UInt8) := dbl ++ sgl.map fun c => [c]
def opsV : Array Value := #[.string ⟨#[124, 124]⟩, .string ⟨#[38, 38]⟩, .string ⟨#[61, 61]⟩, .string ⟨#[33, 61]⟩, .string ⟨#[60, 61]⟩, .string ⟨#[62, 61]⟩, .string ⟨#[60]⟩, .string ⟨#[62]⟩, .string ⟨#[43]⟩, .string ⟨#[45]⟩, .string ⟨#[42]⟩, .string ⟨#[47]⟩, .string ⟨#[37]⟩, .string ⟨#[33]⟩, .string ⟨#[63]⟩, .string ⟨#[58]⟩, .string ⟨#[46]⟩, .string ⟨#[44]⟩, .string ⟨#[61]⟩, .string ⟨#[40]⟩, .string ⟨#[41]⟩, .string ⟨#[91]⟩, .string ⟨#[93]⟩, .string ⟨#[123]⟩, .string ⟨#[125]⟩]
/-- What the program's variables hold. -/
def TabO (w : World) : Prop := w.var? Tryz.prog "pipeline/lexer.operators" = some opsV
theorem TabO.below {w w' : World} (h : TabO w) (hb : Below w.heap.size w w') : TabO w' := Joins.var_stays (g := 0) (by kernel_rfl) h hb (Nat.le_refl _)
theorem ops_cell {w : World} (h : TabO w) (k : Nat) : w.cell? ⟨0, k, none⟩ = opsV[k]? := World.var?_cell (g := 0) (by kernel_rfl) h k
def opAt (i : Nat) : List UInt8 := opsB.getD i []
theorem ops_len : opsB.length = 25 := rfl
theorem ops_ix0 (w : World) : (Instr.index 122 (.agg #[.string ⟨#[124, 124]⟩, .string ⟨#[38, 38]⟩, .string ⟨#[61, 61]⟩, .string ⟨#[33, 61]⟩, .string ⟨#[60, 61]⟩, .string ⟨#[62, 61]⟩, .string ⟨#[60]⟩, .string ⟨#[62]⟩, .string ⟨#[43]⟩, .string ⟨#[45]⟩, .string ⟨#[42]⟩, .string ⟨#[47]⟩, .string ⟨#[37]⟩, .string ⟨#[33]⟩, .string ⟨#[63]⟩, .string ⟨#[58]⟩, .string ⟨#[46]⟩, .string ⟨#[44]⟩, .string ⟨#[61]⟩, .string ⟨#[40]⟩, .string ⟨#[41]⟩, .string ⟨#[91]⟩, .string ⟨#[93]⟩, .string ⟨#[123]⟩, .string ⟨#[125]⟩]) (.int .i64 0)).run Tryz.prog w = .ok (.string ⟨#[124, 124]⟩) w := by kernel_rfl
theorem ops_ix1 (w : World) : (Instr.index 122 (.agg #[.string ⟨#[124, 124]⟩, .string ⟨#[38, 38]⟩, .string ⟨#[61, 61]⟩, .string ⟨#[33, 61]⟩, .string ⟨#[60, 61]⟩, .string ⟨#[62, 61]⟩, .string ⟨#[60]⟩, .string ⟨#[62]⟩, .string ⟨#[43]⟩, .string ⟨#[45]⟩, .string ⟨#[42]⟩, .string ⟨#[47]⟩, .string ⟨#[37]⟩, .string ⟨#[33]⟩, .string ⟨#[63]⟩, .string ⟨#[58]⟩, .string ⟨#[46]⟩, .string ⟨#[44]⟩, .string ⟨#[61]⟩, .string ⟨#[40]⟩, .string ⟨#[41]⟩, .string ⟨#[91]⟩, .string ⟨#[93]⟩, .string ⟨#[123]⟩, .string ⟨#[125]⟩]) (.int .i64 1)).run Tryz.prog w = .ok (.string ⟨#[38, 38]⟩) w := by kernel_rfl
theorem ops_ix2 (w : World) : (Instr.index 122 (.agg #[.string ⟨#[124, 124]⟩, .string ⟨#[38, 38]⟩, .string ⟨#[61, 61]⟩, .string ⟨#[33, 61]⟩, .string ⟨#[60, 61]⟩, .string ⟨#[62, 61]⟩, .string ⟨#[60]⟩, .string ⟨#[62]⟩, .string ⟨#[43]⟩, .string ⟨#[45]⟩, .string ⟨#[42]⟩, .string ⟨#[47]⟩, .string ⟨#[37]⟩, .string ⟨#[33]⟩, .string ⟨#[63]⟩, .string ⟨#[58]⟩, .string ⟨#[46]⟩, .string ⟨#[44]⟩, .string ⟨#[61]⟩, .string ⟨#[40]⟩, .string ⟨#[41]⟩, .string ⟨#[91]⟩, .string ⟨#[93]⟩, .string ⟨#[123]⟩, .string ⟨#[125]⟩]) (.int .i64 2)).run Tryz.prog w = .ok (.string ⟨#[61, 61]⟩) w := by kernel_rfl
theorem ops_ix3 (w : World) : (Instr.index 122 (.agg #[.string ⟨#[124, 124]⟩, .string ⟨#[38, 38]⟩, .string ⟨#[61, 61]⟩, .string ⟨#[33, 61]⟩, .string ⟨#[60, 61]⟩, .string ⟨#[62, 61]⟩, .string ⟨#[60]⟩, .string ⟨#[62]⟩, .string ⟨#[43]⟩, .string ⟨#[45]⟩, .string ⟨#[42]⟩, .string ⟨#[47]⟩, .string ⟨#[37]⟩, .string ⟨#[33]⟩, .string ⟨#[63]⟩, .string ⟨#[58]⟩, .string ⟨#[46]⟩, .string ⟨#[44]⟩, .string ⟨#[61]⟩, .string ⟨#[40]⟩, .string ⟨#[41]⟩, .string ⟨#[91]⟩, .string ⟨#[93]⟩, .string ⟨#[123]⟩, .string ⟨#[125]⟩]) (.int .i64 3)).run Tryz.prog w = .ok (.string ⟨#[33, 61]⟩) w := by kernel_rfl
theorem ops_ix4 (w : World) : (Instr.index 122 (.agg #[.string ⟨#[124, 124]⟩, .string ⟨#[38, 38]⟩, .string ⟨#[61, 61]⟩, .string ⟨#[33, 61]⟩, .string ⟨#[60, 61]⟩, .string ⟨#[62, 61]⟩, .string ⟨#[60]⟩, .string ⟨#[62]⟩, .string ⟨#[43]⟩, .string ⟨#[45]⟩, .string ⟨#[42]⟩, .string ⟨#[47]⟩, .string ⟨#[37]⟩, .string ⟨#[33]⟩, .string ⟨#[63]⟩, .string ⟨#[58]⟩, .string ⟨#[46]⟩, .string ⟨#[44]⟩, .string ⟨#[61]⟩, .string ⟨#[40]⟩, .string ⟨#[41]⟩, .string ⟨#[91]⟩, .string ⟨#[93]⟩, .string ⟨#[123]⟩, .string ⟨#[125]⟩]) (.int .i64 4)).run Tryz.prog w = .ok (.string ⟨#[60, 61]⟩) w := by kernel_rfl
theorem ops_ix5 (w : World) : (Instr.index 122 (.agg #[.string ⟨#[124, 124]⟩, .string ⟨#[38, 38]⟩, .string ⟨#[61, 61]⟩, .string ⟨#[33, 61]⟩, .string ⟨#[60, 61]⟩, .string ⟨#[62, 61]⟩, .string ⟨#[60]⟩, .string ⟨#[62]⟩, .string ⟨#[43]⟩, .string ⟨#[45]⟩, .string ⟨#[42]⟩, .string ⟨#[47]⟩, .string ⟨#[37]⟩, .string ⟨#[33]⟩, .string ⟨#[63]⟩, .string ⟨#[58]⟩, .string ⟨#[46]⟩, .string ⟨#[44]⟩, .string ⟨#[61]⟩, .string ⟨#[40]⟩, .string ⟨#[41]⟩, .string ⟨#[91]⟩, .string ⟨#[93]⟩, .string ⟨#[123]⟩, .string ⟨#[125]⟩]) (.int .i64 5)).run Tryz.prog w = .ok (.string ⟨#[62, 61]⟩) w := by kernel_rfl
theorem ops_ix6 (w : World) : (Instr.index 122 (.agg #[.string ⟨#[124, 124]⟩, .string ⟨#[38, 38]⟩, .string ⟨#[61, 61]⟩, .string ⟨#[33, 61]⟩, .string ⟨#[60, 61]⟩, .string ⟨#[62, 61]⟩, .string ⟨#[60]⟩, .string ⟨#[62]⟩, .string ⟨#[43]⟩, .string ⟨#[45]⟩, .string ⟨#[42]⟩, .string ⟨#[47]⟩, .string ⟨#[37]⟩, .string ⟨#[33]⟩, .string ⟨#[63]⟩, .string ⟨#[58]⟩, .string ⟨#[46]⟩, .string ⟨#[44]⟩, .string ⟨#[61]⟩, .string ⟨#[40]⟩, .string ⟨#[41]⟩, .string ⟨#[91]⟩, .string ⟨#[93]⟩, .string ⟨#[123]⟩, .string ⟨#[125]⟩]) (.int .i64 6)).run Tryz.prog w = .ok (.string ⟨#[60]⟩) w := by kernel_rfl
theorem ops_ix7 (w : World) : (Instr.index 122 (.agg #[.string ⟨#[124, 124]⟩, .string ⟨#[38, 38]⟩, .string ⟨#[61, 61]⟩, .string ⟨#[33, 61]⟩, .string ⟨#[60, 61]⟩, .string ⟨#[62, 61]⟩, .string ⟨#[60]⟩, .string ⟨#[62]⟩, .string ⟨#[43]⟩, .string ⟨#[45]⟩, .string ⟨#[42]⟩, .string ⟨#[47]⟩, .string ⟨#[37]⟩, .string ⟨#[33]⟩, .string ⟨#[63]⟩, .string ⟨#[58]⟩, .string ⟨#[46]⟩, .string ⟨#[44]⟩, .string ⟨#[61]⟩, .string ⟨#[40]⟩, .string ⟨#[41]⟩, .string ⟨#[91]⟩, .string ⟨#[93]⟩, .string ⟨#[123]⟩, .string ⟨#[125]⟩]) (.int .i64 7)).run Tryz.prog w = .ok (.string ⟨#[62]⟩) w := by kernel_rfl
theorem ops_ix8 (w : World) : (Instr.index 122 (.agg #[.string ⟨#[124, 124]⟩, .string ⟨#[38, 38]⟩, .string ⟨#[61, 61]⟩, .string ⟨#[33, 61]⟩, .string ⟨#[60, 61]⟩, .string ⟨#[62, 61]⟩, .string ⟨#[60]⟩, .string ⟨#[62]⟩, .string ⟨#[43]⟩, .string ⟨#[45]⟩, .string ⟨#[42]⟩, .string ⟨#[47]⟩, .string ⟨#[37]⟩, .string ⟨#[33]⟩, .string ⟨#[63]⟩, .string ⟨#[58]⟩, .string ⟨#[46]⟩, .string ⟨#[44]⟩, .string ⟨#[61]⟩, .string ⟨#[40]⟩, .string ⟨#[41]⟩, .string ⟨#[91]⟩, .string ⟨#[93]⟩, .string ⟨#[123]⟩, .string ⟨#[125]⟩]) (.int .i64 8)).run Tryz.prog w = .ok (.string ⟨#[43]⟩) w := by kernel_rfl
theorem ops_ix9 (w : World) : (Instr.index 122 (.agg #[.string ⟨#[124, 124]⟩, .string ⟨#[38, 38]⟩, .string ⟨#[61, 61]⟩, .string ⟨#[33, 61]⟩, .string ⟨#[60, 61]⟩, .string ⟨#[62, 61]⟩, .string ⟨#[60]⟩, .string ⟨#[62]⟩, .string ⟨#[43]⟩, .string ⟨#[45]⟩, .string ⟨#[42]⟩, .string ⟨#[47]⟩, .string ⟨#[37]⟩, .string ⟨#[33]⟩, .string ⟨#[63]⟩, .string ⟨#[58]⟩, .string ⟨#[46]⟩, .string ⟨#[44]⟩, .string ⟨#[61]⟩, .string ⟨#[40]⟩, .string ⟨#[41]⟩, .string ⟨#[91]⟩, .string ⟨#[93]⟩, .string ⟨#[123]⟩, .string ⟨#[125]⟩]) (.int .i64 9)).run Tryz.prog w = .ok (.string ⟨#[45]⟩) w := by kernel_rfl
theorem ops_ix10 (w : World) : (Instr.index 122 (.agg #[.string ⟨#[124, 124]⟩, .string ⟨#[38, 38]⟩, .string ⟨#[61, 61]⟩, .string ⟨#[33, 61]⟩, .string ⟨#[60, 61]⟩, .string ⟨#[62, 61]⟩, .string ⟨#[60]⟩, .string ⟨#[62]⟩, .string ⟨#[43]⟩, .string ⟨#[45]⟩, .string ⟨#[42]⟩, .string ⟨#[47]⟩, .string ⟨#[37]⟩, .string ⟨#[33]⟩, .string ⟨#[63]⟩, .string ⟨#[58]⟩, .string ⟨#[46]⟩, .string ⟨#[44]⟩, .string ⟨#[61]⟩, .string ⟨#[40]⟩, .string ⟨#[41]⟩, .string ⟨#[91]⟩, .string ⟨#[93]⟩, .string ⟨#[123]⟩, .string ⟨#[125]⟩]) (.int .i64 10)).run Tryz.prog w = .ok (.string ⟨#[42]⟩) w := by kernel_rfl
theorem ops_ix11 (w : World) : (Instr.index 122 (.agg #[.string ⟨#[124, 124]⟩, .string ⟨#[38, 38]⟩, .string ⟨#[61, 61]⟩, .string ⟨#[33, 61]⟩, .string ⟨#[60, 61]⟩, .string ⟨#[62, 61]⟩, .string ⟨#[60]⟩, .string ⟨#[62]⟩, .string ⟨#[43]⟩, .string ⟨#[45]⟩, .string ⟨#[42]⟩, .string ⟨#[47]⟩, .string ⟨#[37]⟩, .string ⟨#[33]⟩, .string ⟨#[63]⟩, .string ⟨#[58]⟩, .string ⟨#[46]⟩, .string ⟨#[44]⟩, .string ⟨#[61]⟩, .string ⟨#[40]⟩, .string ⟨#[41]⟩, .string ⟨#[91]⟩, .string ⟨#[93]⟩, .string ⟨#[123]⟩, .string ⟨#[125]⟩]) (.int .i64 11)).run Tryz.prog w = .ok (.string ⟨#[47]⟩) w := by kernel_rfl
theorem ops_ix12 (w : World) : (Instr.index 122 (.agg #[.string ⟨#[124, 124]⟩, .string ⟨#[38, 38]⟩, .string ⟨#[61, 61]⟩, .string ⟨#[33, 61]⟩, .string ⟨#[60, 61]⟩, .string ⟨#[62, 61]⟩, .string ⟨#[60]⟩, .string ⟨#[62]⟩, .string ⟨#[43]⟩, .string ⟨#[45]⟩, .string ⟨#[42]⟩, .string ⟨#[47]⟩, .string ⟨#[37]⟩, .string ⟨#[33]⟩, .string ⟨#[63]⟩, .string ⟨#[58]⟩, .string ⟨#[46]⟩, .string ⟨#[44]⟩, .string ⟨#[61]⟩, .string ⟨#[40]⟩, .string ⟨#[41]⟩, .string ⟨#[91]⟩, .string ⟨#[93]⟩, .string ⟨#[123]⟩, .string ⟨#[125]⟩]) (.int .i64 12)).run Tryz.prog w = .ok (.string ⟨#[37]⟩) w := by kernel_rfl
theorem ops_ix13 (w : World) : (Instr.index 122 (.agg #[.string ⟨#[124, 124]⟩, .string ⟨#[38, 38]⟩, .string ⟨#[61, 61]⟩, .string ⟨#[33, 61]⟩, .string ⟨#[60, 61]⟩, .string ⟨#[62, 61]⟩, .string ⟨#[60]⟩, .string ⟨#[62]⟩, .string ⟨#[43]⟩, .string ⟨#[45]⟩, .string ⟨#[42]⟩, .string ⟨#[47]⟩, .string ⟨#[37]⟩, .string ⟨#[33]⟩, .string ⟨#[63]⟩, .string ⟨#[58]⟩, .string ⟨#[46]⟩, .string ⟨#[44]⟩, .string ⟨#[61]⟩, .string ⟨#[40]⟩, .string ⟨#[41]⟩, .string ⟨#[91]⟩, .string ⟨#[93]⟩, .string ⟨#[123]⟩, .string ⟨#[125]⟩]) (.int .i64 13)).run Tryz.prog w = .ok (.string ⟨#[33]⟩) w := by kernel_rfl
theorem ops_ix14 (w : World) : (Instr.index 122 (.agg #[.string ⟨#[124, 124]⟩, .string ⟨#[38, 38]⟩, .string ⟨#[61, 61]⟩, .string ⟨#[33, 61]⟩, .string ⟨#[60, 61]⟩, .string ⟨#[62, 61]⟩, .string ⟨#[60]⟩, .string ⟨#[62]⟩, .string ⟨#[43]⟩, .string ⟨#[45]⟩, .string ⟨#[42]⟩, .string ⟨#[47]⟩, .string ⟨#[37]⟩, .string ⟨#[33]⟩, .string ⟨#[63]⟩, .string ⟨#[58]⟩, .string ⟨#[46]⟩, .string ⟨#[44]⟩, .string ⟨#[61]⟩, .string ⟨#[40]⟩, .string ⟨#[41]⟩, .string ⟨#[91]⟩, .string ⟨#[93]⟩, .string ⟨#[123]⟩, .string ⟨#[125]⟩]) (.int .i64 14)).run Tryz.prog w = .ok (.string ⟨#[63]⟩) w := by kernel_rfl
theorem ops_ix15 (w : World) : (Instr.index 122 (.agg #[.string ⟨#[124, 124]⟩, .string ⟨#[38, 38]⟩, .string ⟨#[61, 61]⟩, .string ⟨#[33, 61]⟩, .string ⟨#[60, 61]⟩, .string ⟨#[62, 61]⟩, .string ⟨#[60]⟩, .string ⟨#[62]⟩, .string ⟨#[43]⟩, .string ⟨#[45]⟩, .string ⟨#[42]⟩, .string ⟨#[47]⟩, .string ⟨#[37]⟩, .string ⟨#[33]⟩, .string ⟨#[63]⟩, .string ⟨#[58]⟩, .string ⟨#[46]⟩, .string ⟨#[44]⟩, .string ⟨#[61]⟩, .string ⟨#[40]⟩, .string ⟨#[41]⟩, .string ⟨#[91]⟩, .string ⟨#[93]⟩, .string ⟨#[123]⟩, .string ⟨#[125]⟩]) (.int .i64 15)).run Tryz.prog w = .ok (.string ⟨#[58]⟩) w := by kernel_rfl
theorem ops_ix16 (w : World) : (Instr.index 122 (.agg #[.string ⟨#[124, 124]⟩, .string ⟨#[38, 38]⟩, .string ⟨#[61, 61]⟩, .string ⟨#[33, 61]⟩, .string ⟨#[60, 61]⟩, .string ⟨#[62, 61]⟩, .string ⟨#[60]⟩, .string ⟨#[62]⟩, .string ⟨#[43]⟩, .string ⟨#[45]⟩, .string ⟨#[42]⟩, .string ⟨#[47]⟩, .string ⟨#[37]⟩, .string ⟨#[33]⟩, .string ⟨#[63]⟩, .string ⟨#[58]⟩, .string ⟨#[46]⟩, .string ⟨#[44]⟩, .string ⟨#[61]⟩, .string ⟨#[40]⟩, .string ⟨#[41]⟩, .string ⟨#[91]⟩, .string ⟨#[93]⟩, .string ⟨#[123]⟩, .string ⟨#[125]⟩]) (.int .i64 16)).run Tryz.prog w = .ok (.string ⟨#[46]⟩) w := by kernel_rfl
theorem ops_ix17 (w : World) : (Instr.index 122 (.agg #[.string ⟨#[124, 124]⟩, .string ⟨#[38, 38]⟩, .string ⟨#[61, 61]⟩, .string ⟨#[33, 61]⟩, .string ⟨#[60, 61]⟩, .string ⟨#[62, 61]⟩, .string ⟨#[60]⟩, .string ⟨#[62]⟩, .string ⟨#[43]⟩, .string ⟨#[45]⟩, .string ⟨#[42]⟩, .string ⟨#[47]⟩, .string ⟨#[37]⟩, .string ⟨#[33]⟩, .string ⟨#[63]⟩, .string ⟨#[58]⟩, .string ⟨#[46]⟩, .string ⟨#[44]⟩, .string ⟨#[61]⟩, .string ⟨#[40]⟩, .string ⟨#[41]⟩, .string ⟨#[91]⟩, .string ⟨#[93]⟩, .string ⟨#[123]⟩, .string ⟨#[125]⟩]) (.int .i64 17)).run Tryz.prog w = .ok (.string ⟨#[44]⟩) w := by kernel_rfl
theorem ops_ix18 (w : World) : (Instr.index 122 (.agg #[.string ⟨#[124, 124]⟩, .string ⟨#[38, 38]⟩, .string ⟨#[61, 61]⟩, .string ⟨#[33, 61]⟩, .string ⟨#[60, 61]⟩, .string ⟨#[62, 61]⟩, .string ⟨#[60]⟩, .string ⟨#[62]⟩, .string ⟨#[43]⟩, .string ⟨#[45]⟩, .string ⟨#[42]⟩, .string ⟨#[47]⟩, .string ⟨#[37]⟩, .string ⟨#[33]⟩, .string ⟨#[63]⟩, .string ⟨#[58]⟩, .string ⟨#[46]⟩, .string ⟨#[44]⟩, .string ⟨#[61]⟩, .string ⟨#[40]⟩, .string ⟨#[41]⟩, .string ⟨#[91]⟩, .string ⟨#[93]⟩, .string ⟨#[123]⟩, .string ⟨#[125]⟩]) (.int .i64 18)).run Tryz.prog w = .ok (.string ⟨#[61]⟩) w := by kernel_rfl
theorem ops_ix19 (w : World) : (Instr.index 122 (.agg #[.string ⟨#[124, 124]⟩, .string ⟨#[38, 38]⟩, .string ⟨#[61, 61]⟩, .string ⟨#[33, 61]⟩, .string ⟨#[60, 61]⟩, .string ⟨#[62, 61]⟩, .string ⟨#[60]⟩, .string ⟨#[62]⟩, .string ⟨#[43]⟩, .string ⟨#[45]⟩, .string ⟨#[42]⟩, .string ⟨#[47]⟩, .string ⟨#[37]⟩, .string ⟨#[33]⟩, .string ⟨#[63]⟩, .string ⟨#[58]⟩, .string ⟨#[46]⟩, .string ⟨#[44]⟩, .string ⟨#[61]⟩, .string ⟨#[40]⟩, .string ⟨#[41]⟩, .string ⟨#[91]⟩, .string ⟨#[93]⟩, .string ⟨#[123]⟩, .string ⟨#[125]⟩]) (.int .i64 19)).run Tryz.prog w = .ok (.string ⟨#[40]⟩) w := by kernel_rfl
theorem ops_ix20 (w : World) : (Instr.index 122 (.agg #[.string ⟨#[124, 124]⟩, .string ⟨#[38, 38]⟩, .string ⟨#[61, 61]⟩, .string ⟨#[33, 61]⟩, .string ⟨#[60, 61]⟩, .string ⟨#[62, 61]⟩, .string ⟨#[60]⟩, .string ⟨#[62]⟩, .string ⟨#[43]⟩, .string ⟨#[45]⟩, .string ⟨#[42]⟩, .string ⟨#[47]⟩, .string ⟨#[37]⟩, .string ⟨#[33]⟩, .string ⟨#[63]⟩, .string ⟨#[58]⟩, .string ⟨#[46]⟩, .string ⟨#[44]⟩, .string ⟨#[61]⟩, .string ⟨#[40]⟩, .string ⟨#[41]⟩, .string ⟨#[91]⟩, .string ⟨#[93]⟩, .string ⟨#[123]⟩, .string ⟨#[125]⟩]) (.int .i64 20)).run Tryz.prog w = .ok (.string ⟨#[41]⟩) w := by kernel_rfl
theorem ops_ix21 (w : World) : (Instr.index 122 (.agg #[.string ⟨#[124, 124]⟩, .string ⟨#[38, 38]⟩, .string ⟨#[61, 61]⟩, .string ⟨#[33, 61]⟩, .string ⟨#[60, 61]⟩, .string ⟨#[62, 61]⟩, .string ⟨#[60]⟩, .string ⟨#[62]⟩, .string ⟨#[43]⟩, .string ⟨#[45]⟩, .string ⟨#[42]⟩, .string ⟨#[47]⟩, .string ⟨#[37]⟩, .string ⟨#[33]⟩, .string ⟨#[63]⟩, .string ⟨#[58]⟩, .string ⟨#[46]⟩, .string ⟨#[44]⟩, .string ⟨#[61]⟩, .string ⟨#[40]⟩, .string ⟨#[41]⟩, .string ⟨#[91]⟩, .string ⟨#[93]⟩, .string ⟨#[123]⟩, .string ⟨#[125]⟩]) (.int .i64 21)).run Tryz.prog w = .ok (.string ⟨#[91]⟩) w := by kernel_rfl
theorem ops_ix22 (w : World) : (Instr.index 122 (.agg #[.string ⟨#[124, 124]⟩, .string ⟨#[38, 38]⟩, .string ⟨#[61, 61]⟩, .string ⟨#[33, 61]⟩, .string ⟨#[60, 61]⟩, .string ⟨#[62, 61]⟩, .string ⟨#[60]⟩, .string ⟨#[62]⟩, .string ⟨#[43]⟩, .string ⟨#[45]⟩, .string ⟨#[42]⟩, .string ⟨#[47]⟩, .string ⟨#[37]⟩, .string ⟨#[33]⟩, .string ⟨#[63]⟩, .string ⟨#[58]⟩, .string ⟨#[46]⟩, .string ⟨#[44]⟩, .string ⟨#[61]⟩, .string ⟨#[40]⟩, .string ⟨#[41]⟩, .string ⟨#[91]⟩, .string ⟨#[93]⟩, .string ⟨#[123]⟩, .string ⟨#[125]⟩]) (.int .i64 22)).run Tryz.prog w = .ok (.string ⟨#[93]⟩) w := by kernel_rfl
theorem ops_ix23 (w : World) : (Instr.index 122 (.agg #[.string ⟨#[124, 124]⟩, .string ⟨#[38, 38]⟩, .string ⟨#[61, 61]⟩, .string ⟨#[33, 61]⟩, .string ⟨#[60, 61]⟩, .string ⟨#[62, 61]⟩, .string ⟨#[60]⟩, .string ⟨#[62]⟩, .string ⟨#[43]⟩, .string ⟨#[45]⟩, .string ⟨#[42]⟩, .string ⟨#[47]⟩, .string ⟨#[37]⟩, .string ⟨#[33]⟩, .string ⟨#[63]⟩, .string ⟨#[58]⟩, .string ⟨#[46]⟩, .string ⟨#[44]⟩, .string ⟨#[61]⟩, .string ⟨#[40]⟩, .string ⟨#[41]⟩, .string ⟨#[91]⟩, .string ⟨#[93]⟩, .string ⟨#[123]⟩, .string ⟨#[125]⟩]) (.int .i64 23)).run Tryz.prog w = .ok (.string ⟨#[123]⟩) w := by kernel_rfl
theorem ops_ix24 (w : World) : (Instr.index 122 (.agg #[.string ⟨#[124, 124]⟩, .string ⟨#[38, 38]⟩, .string ⟨#[61, 61]⟩, .string ⟨#[33, 61]⟩, .string ⟨#[60, 61]⟩, .string ⟨#[62, 61]⟩, .string ⟨#[60]⟩, .string ⟨#[62]⟩, .string ⟨#[43]⟩, .string ⟨#[45]⟩, .string ⟨#[42]⟩, .string ⟨#[47]⟩, .string ⟨#[37]⟩, .string ⟨#[33]⟩, .string ⟨#[63]⟩, .string ⟨#[58]⟩, .string ⟨#[46]⟩, .string ⟨#[44]⟩, .string ⟨#[61]⟩, .string ⟨#[40]⟩, .string ⟨#[41]⟩, .string ⟨#[91]⟩, .string ⟨#[93]⟩, .string ⟨#[123]⟩, .string ⟨#[125]⟩]) (.int .i64 24)).run Tryz.prog w = .ok (.string ⟨#[125]⟩) w := by kernel_rfl
theorem ops_ix (i : Nat) (h : i < 25) (w : World) : (Instr.index 122 (.agg #[.string ⟨#[124, 124]⟩, .string ⟨#[38, 38]⟩, .string ⟨#[61, 61]⟩, .string ⟨#[33, 61]⟩, .string ⟨#[60, 61]⟩, .string ⟨#[62, 61]⟩, .string ⟨#[60]⟩, .string ⟨#[62]⟩, .string ⟨#[43]⟩, .string ⟨#[45]⟩, .string ⟨#[42]⟩, .string ⟨#[47]⟩, .string ⟨#[37]⟩, .string ⟨#[33]⟩, .string ⟨#[63]⟩, .string ⟨#[58]⟩, .string ⟨#[46]⟩, .string ⟨#[44]⟩, .string ⟨#[61]⟩, .string ⟨#[40]⟩, .string ⟨#[41]⟩, .string ⟨#[91]⟩, .string ⟨#[93]⟩, .string ⟨#[123]⟩, .string ⟨#[125]⟩]) (.int .i64 (i : Int))).run Tryz.prog w = .ok (.string ⟨(opAt i).toArray⟩) w := by
  rcases (show i = 0 ∨ i = 1 ∨ i = 2 ∨ i = 3 ∨ i = 4 ∨ i = 5 ∨ i = 6 ∨ i = 7 ∨ i = 8 ∨ i = 9 ∨ i = 10 ∨ i = 11 ∨ i = 12 ∨ i = 13 ∨ i = 14 ∨ i = 15 ∨ i = 16 ∨ i = 17 ∨ i = 18 ∨ i = 19 ∨ i = 20 ∨ i = 21 ∨ i = 22 ∨ i = 23 ∨ i = 24 by omega) with rfl | rfl | rfl | rfl | rfl | rfl | rfl | rfl | rfl | rfl | rfl | rfl | rfl | rfl | rfl | rfl | rfl | rfl | rfl | rfl | rfl | rfl | rfl | rfl | rfl
  · exact ops_ix0 w
  · exact ops_ix1 w
  · exact ops_ix2 w
  · exact ops_ix3 w
  · exact ops_ix4 w
  · exact ops_ix5 w
  · exact ops_ix6 w
  · exact ops_ix7 w
  · exact ops_ix8 w
  · exact ops_ix9 w
  · exact ops_ix10 w
  · exact ops_ix11 w
  · exact ops_ix12 w
  · exact ops_ix13 w
  · exact ops_ix14 w
  · exact ops_ix15 w
  · exact ops_ix16 w
  · exact ops_ix17 w
  · exact ops_ix18 w
  · exact ops_ix19 w
  · exact ops_ix20 w
  · exact ops_ix21 w
  · exact ops_ix22 w
  · exact ops_ix23 w
  · exact ops_ix24 w
/-- The first operator that a text begins with. -/
def opsF (l : List UInt8) : List UInt8 := (opsB.find? fun o => o.isPrefixOf l).getD []
theorem find_at {l : List UInt8} (i : Nat) (hi : i < 25) (hn : ∀ j, j < i → (opAt j).isPrefixOf l = false) (h : (opAt i).isPrefixOf l = true) : opsF l = opAt i := by
  unfold opsF
  have e : opsB = opsB.take i ++ (opAt i :: opsB.drop (i + 1)) := by
    have h1 : opsB.drop i = opAt i :: opsB.drop (i + 1) := by
      rw [List.drop_eq_getElem_cons (by rw [ops_len]; exact hi)]
      unfold opAt
      rw [List.getD_eq_getElem?_getD, List.getElem?_eq_getElem (by rw [ops_len]; exact hi)]
      rfl
    rw [← h1, List.take_append_drop]
  rw [e, List.find?_append, List.find?_cons, h]
  have hnone : (opsB.take i).find? (fun o => o.isPrefixOf l) = none := by
    rw [List.find?_eq_none]
    intro o ho
    obtain ⟨j, hj, rfl⟩ := List.getElem_of_mem ho
    rw [List.length_take] at hj
    have := hn j (by omega)
    unfold opAt at this
    rw [List.getD_eq_getElem?_getD, List.getElem?_eq_getElem (by omega)] at this
    rw [List.getElem_take]
    have this : opsB[j].isPrefixOf l = false := this
    exact fun h => Bool.noConfusion (this.symm.trans h)
  rw [hnone]
  rfl
theorem find_no {l : List UInt8} (hn : ∀ j, j < 25 → (opAt j).isPrefixOf l = false) : opsF l = [] := by
  unfold opsF
  have hnone : opsB.find? (fun o => o.isPrefixOf l) = none := by
    rw [List.find?_eq_none]
    intro o ho
    obtain ⟨j, hj, rfl⟩ := List.getElem_of_mem ho
    rw [ops_len] at hj
    have := hn j hj
    unfold opAt at this
    rw [List.getD_eq_getElem?_getD, List.getElem?_eq_getElem (by rw [ops_len]; exact hj)] at this
    have this : opsB[j].isPrefixOf l = false := this
    exact fun h => Bool.noConfusion (this.symm.trans h)
  rw [hnone]
  rfl
theorem pre_one (c d : UInt8) (r : List UInt8) : [d].isPrefixOf (c :: r) = (d == c) := by simp [List.isPrefixOf]
theorem find_sgl (c : UInt8) (r : List UInt8) : ∀ l : List UInt8, (l.map fun d => [d]).find? (fun o => o.isPrefixOf (c :: r)) = if l.contains c then some [c] else none
  | [] => rfl
  | d :: l => by
    rw [List.map_cons, List.find?_cons, pre_one]
    by_cases h : d = c
    · subst h
      simp
    · have h1 : (d == c) = false := beq_eq_false_iff_ne.2 h
      have h2 : (c == d) = false := beq_eq_false_iff_ne.2 (Ne.symm h)
      rw [h1, find_sgl c r l, List.contains_cons, h2, Bool.false_or]
theorem find_dbl (l : List UInt8) : ∀ m : List (List UInt8), (∀ o, o ∈ m → o.length = 2) → m.find? (fun o => o.isPrefixOf l) = if m.contains (l.take 2) ∧ 2 ≤ l.length then some (l.take 2) else none
  | [], _ => by simp
  | o :: m, h => by
    have ho := h o (by simp)
    rw [List.find?_cons, find_dbl l m (fun o ho => h o (List.mem_cons_of_mem _ ho)), List.contains_cons]
    cases hp : o.isPrefixOf l
    · have hn : ¬ (l.take 2 = o ∧ 2 ≤ l.length) := by
        rintro ⟨h1, h2⟩
        have : o <+: l := by rw [← h1]; exact List.take_prefix 2 l
        rw [← List.isPrefixOf_iff_prefix, hp] at this
        cases this
      by_cases h2 : 2 ≤ l.length
      · have h3 : (l.take 2 == o) = false := beq_eq_false_iff_ne.2 (fun e => hn ⟨e, h2⟩)
        rw [h3, Bool.false_or]
      · rw [if_neg (fun e => h2 e.2), if_neg (fun e => h2 e.2)]
    · have hpre : o <+: l := List.isPrefixOf_iff_prefix.1 hp
      have e : l.take 2 = o := by
        obtain ⟨t, rfl⟩ := hpre
        rw [← ho, List.take_left]
      have h2 : 2 ≤ l.length := by have := hpre.length_le; omega
      show some o = _
      rw [e, beq_self_eq_true, Bool.true_or, if_pos ⟨rfl, h2⟩]
theorem opsF_opL (c : UInt8) (r : List UInt8) : opsF (c :: r) = (c :: r).take (opL (c :: r)) := by
  unfold opsF opsB
  rw [List.find?_append, find_dbl (c :: r) dbl (by intro o ho; simp [dbl] at ho; rcases ho with rfl | rfl | rfl | rfl | rfl | rfl <;> rfl), find_sgl]
  cases r with
  | nil =>
    rw [if_neg (by simp)]
    simp only [opL]
    by_cases h : sgl.contains c = true
    · rw [if_pos h, if_pos h]; rfl
    · rw [if_neg h, if_neg h]; rfl
  | cons d t =>
    simp only [opL]
    have e : (c :: d :: t).take 2 = [c, d] := rfl
    rw [e]
    by_cases h1 : dbl.contains [c, d] = true
    · rw [if_pos ⟨h1, by simp⟩, if_pos h1]
      rfl
    · rw [if_neg (fun x => h1 x.1), if_neg h1]
      by_cases h : sgl.contains c = true
      · rw [if_pos h, if_pos h]; rfl
      · rw [if_neg h, if_neg h]; rfl
theorem ops_range {w : World} (h : TabO w) : w.rangeAt 0 0 opsV.toList := by
  intro j v hv
  rw [Nat.zero_add, ops_cell h j]
  rw [← Array.getElem?_toList]
  exact hv
set_option maxHeartbeats 4000000 in
set_option maxRecDepth 100000 in
theorem operator_any (s : ByteArray) (w : World) (hT : TabO w) : Calls Tryz.prog 77 #[.string s] w fun e w' => e = .returned (.string ⟨(opsF s.data.toList).toArray⟩) ∧ w = w' := by
  have HR := Lib.hid (ops_range hT)
  have hi : (Tryz.prog.info? 122).map (·.size) = some opsV.toList.length := by kernel_rfl
  have ix : ∀ (i : Nat), i < 25 → ∀ w, (Instr.index 122 (.agg opsV.toList.toArray) (.int .i64 (i : Int))).run Tryz.prog w = .ok (.string ⟨(opAt i).toArray⟩) w := by
    rw [Array.toArray_toList]
    exact ops_ix
  have HP := Lib.hid (fun p w => Tryz.strings_HasPrefix s p w)
  generalize opsV.toList = V at hi HR ix
  have IX := Lib.hid ix
  have HI := Lib.hid hi
  clear hT hi ix
  go_enter Tryz.func77, Tryz.ntmps77
  go_wp2_with (refine wpList_load_mid rfl 122 (.global 0) rfl 0 0 rfl V _ HR.out Tryz.underlying122 rfl HI.out ?_)
  go_loopw [6] (fun s6 wr => ∃ i : Nat, i ≤ 25 ∧ s6 = .int .i64 (i : Int) ∧ w = wr ∧ Hid (∀ j, j < i → (opAt j).isPrefixOf s.data.toList = false)) (fun s6 _ => 25 - (RowKit.intOf s6).toNat)
  case atStart => exact ⟨0, by omega, rfl, rfl, Lib.hid (fun j hj => by omega)⟩
  case round =>
    obtain ⟨i, hi, rfl, rfl, HJ⟩ := hrel
    by_cases h25 : i = 25
    · subst h25
      have HF := Lib.hid (find_no HJ.out)
      go_wp2_with fail
      go_ret
      exact ⟨by rw [HF.out]; rfl, rfl⟩
    · have hlt : i < 25 := by omega
      have hiI : (i : Int) < 25 := by omega
      have hi0 : (0 : Int) ≤ (i : Int) := by omega
      have ixi := IX.out i hlt
      have HPi := Lib.hid (fun w => HP.out ⟨(opAt i).toArray⟩ w)
      rw [show (⟨(opAt i).toArray⟩ : ByteArray).data.toList = opAt i from rfl] at HPi
      cases hp : (opAt i).isPrefixOf s.data.toList
      · have HJ1 := Lib.hid (show ∀ j, j < i + 1 → (opAt j).isPrefixOf s.data.toList = false from fun j hj => by
          by_cases e : j = i
          · subst e
            exact hp
          · exact HJ.out j (by omega))
        rw [show hasPrefix s.data.toList (opAt i) = false from hp] at HPi
        generalize (⟨(opAt i).toArray⟩ : ByteArray) = oa at *
        clear hp h25 hlt
        go_wp2_with fail
        go_fit (HPi.out _)
        rintro e w1 ⟨rfl, rfl⟩
        go_wp2_with fail
        exact ⟨⟨i + 1, by omega, by go_num, by trivial, HJ1⟩, by simp [RowKit.intOf]; omega⟩
      · have HF := Lib.hid (show (⟨(opsF s.data.toList).toArray⟩ : ByteArray) = ⟨(opAt i).toArray⟩ by rw [find_at i hlt HJ.out hp])
        rw [show hasPrefix s.data.toList (opAt i) = true from hp] at HPi
        generalize (⟨(opAt i).toArray⟩ : ByteArray) = oa at *
        clear hp h25 hlt
        go_wp2_with fail
        go_fit (HPi.out _)
        rintro e w1 ⟨rfl, rfl⟩
        go_wp2_with fail
        go_ret
        exact ⟨by rw [HF.out]; rfl, rfl⟩
end Go.Proofs.YtjehhldboopocaaGreatDoor.Lx
namespace Go.Proofs.YtjehhldboopocaaGreatDoor.Lx
open Go.RowKit Go.Lib
set_option linter.unusedVariables false
/-- The value of a digit, capital or small, or 16. -/
def anyv (c : Nat) : Nat := if 48 ≤ c ∧ c ≤ 57 then c - 48 else if 97 ≤ c ||| 32 ∧ c ||| 32 ≤ 102 then (c ||| 32) - 87 else 16
def errV (k : Nat) : Value := if k = 0 then .nilIface else .iface 190 (.int .i64 (k : Int))
theorem or32_lt (c : Nat) (h : c < 256) : c ||| 32 < 256 := Nat.or_lt_two_pow (n := 8) h (by decide)
theorem bits_or32 (c : Nat) (h : c < 256) : bits .or .u8 (c : Int) 32 = ((c ||| 32 : Nat) : Int) := by
  have hx := or32_lt c h
  have h1 : (BitVec.ofInt 8 (c : Int)).toNat = c := by
    rw [BitVec.ofInt_natCast, BitVec.toNat_ofNat]; exact Nat.mod_eq_of_lt (by omega)
  show IntKind.u8.wrap ((BitVec.ofInt 8 (c : Int) ||| BitVec.ofInt 8 32).toNat : Int) = _
  rw [BitVec.toNat_or, h1, show (BitVec.ofInt 8 32).toNat = 32 by decide]
  simp [IntKind.wrap, IntKind.bits, IntKind.signed]
  omega
theorem anyv_le (c : Nat) : anyv c ≤ 16 := by unfold anyv; split <;> (try split) <;> omega
theorem anyv_hexV (c : UInt8) : hexV c = if anyv c.toNat = 16 then none else some (anyv c.toNat) := by
  have : ∀ n : Fin 256, hexV (UInt8.ofNat n.1) = if anyv n.1 = 16 then none else some (anyv n.1) := by decide +kernel
  have h := this ⟨c.toNat, c.toNat_lt⟩
  simpa using h
def pu1 (c : Nat) : Nat × Nat := if anyv c = 16 then (0, 2) else (anyv c, 0)
def PRel (pr : Nat × Nat) (k : Nat) (a : Int) : Prop := (k = 0 → a = 0) ∧ (k = 1 → 0 ≤ a ∧ a ≤ 15 ∧ pr = (a.toNat, 0))
set_option maxHeartbeats 32000000 in
set_option maxRecDepth 100000 in
theorem inner8_one (c0 : UInt8) (w : World) :
    Calls Tryz.prog 218 #[.string ⟨#[c0]⟩, .int .i64 16, .int .i64 8] w fun e w' => e = .returned (.tuple #[.int .u64 ((pu1 c0.toNat).1 : Nat), errV (pu1 c0.toNat).2]) ∧ Below w.heap.size w w' := by
  obtain ⟨t, ht⟩ : ∃ t : ByteArray, t = ⟨#[c0]⟩ := ⟨_, rfl⟩
  have hsz : t.size = 1 := by rw [ht]; rfl
  have hget : t.data.toList.getD 0 0 = c0 := by rw [ht]; rfl
  rw [← ht]
  have hemp : t.toList.isEmpty = false := by
    rw [← decide_eq_emptyBytes]
    exact decide_eq_false (fun h => by rw [h] at hsz; cases hsz)
  have hcv := Lib.run_convert_string_bytes (P := Tryz.prog) w 9 46 5 t (u := .string) Tryz.underlying9 Tryz.underlying46 Tryz.underlying5
  have hB : (Lib.bytesWorld w 5 t).cell? ⟨w.heap.size, 0, none⟩ = some (.int .u8 (t.data.toList.getD 0 0).toNat) := Lib.bytesWorld_cell w 5 t 0 (by omega)
  rw [hget] at hB
  have BW := Lib.hid (show Below w.heap.size w (Lib.bytesWorld w 5 t) from ⟨rfl, rfl, rfl, by rw [Lib.bytesWorld_size]; omega, fun j hj => Lib.bytesWorld_at_old w 5 t j hj⟩)
  obtain ⟨W1, hW1⟩ : ∃ W1, W1 = Lib.bytesWorld w 5 t := ⟨_, rfl⟩
  rw [← hW1] at hcv hB BW
  clear hW1 hget ht
  have HB := Lib.hid hB
  clear hB
  have hc256 : c0.toNat < 256 := c0.toNat_lt
  generalize c0.toNat = c at HB hc256 ⊢
  have hor := bits_or32 c hc256
  have hv256 := or32_lt c hc256
  have hav : anyv c = if 48 ≤ c ∧ c ≤ 57 then c - 48 else if 97 ≤ c ||| 32 ∧ c ||| 32 ≤ 102 then (c ||| 32) - 87 else 16 := rfl
  have h95 : c = 95 → c ||| 32 = 127 := fun h => by subst h; decide
  obtain ⟨pr, hpr⟩ : ∃ pr, pr = pu1 c := ⟨_, rfl⟩
  have hpu : pr = if anyv c = 16 then (0, 2) else (anyv c, 0) := hpr
  rw [← hpr]
  clear hpr
  generalize anyv c = av at hav hpu
  generalize c ||| 32 = v at hor hv256 hav h95
  have HP := Lib.hid (And.intro hc256 (And.intro hor (And.intro hv256 (And.intro hav (And.intro h95 hpu)))))
  clear hc256 hor hv256 hav h95 hpu
  go_enter Tryz.func218, Tryz.ntmps218
  go_wp2_with fail
  go_loop [12, 13, 101] (fun vu vn vi => ∃ (k : Nat) (a : Int), vu = .bool false ∧ vn = .int .u64 a ∧ vi = .int .i64 k ∧ k ≤ 1 ∧ Hid (PRel pr k a))
    (fun _ _ vi => 1 - (RowKit.intOf vi).toNat)
  case atStart => exact ⟨0, 0, rfl, rfl, rfl, by omega, fun _ => rfl, fun h => by omega⟩
  case round =>
    obtain ⟨k, a, rfl, rfl, rfl, hk, hh⟩ := hrel
    by_cases hk0 : k = 0
    · subst hk0
      have ha := hh.out.1 rfl
      have a0 : 0 ≤ a := by omega
      have a1 : a ≤ 0 := by omega
      have icut : a < 1152921504606846976 := by omega
      clear hh ha
      have hc := HB.out
      obtain ⟨hc256, hor, hv256, hav, h95, hpu⟩ := HP.out
      by_cases hdig : 48 ≤ c ∧ c ≤ 57
      · rw [if_pos hdig] at hav
        obtain ⟨hd0, hd1⟩ := hdig
        rw [if_neg (show ¬ av = 16 by omega)] at hpu
        have HN := Lib.hid (show PRel pr (0 + 1) (a * 16 + ((c : Int) - 48)) from ⟨fun h => by omega, fun _ => ⟨by omega, by omega, by rw [hpu]; congr 1; omega⟩⟩)
        clear hpu hav hor hv256 h95
        go_wp2_with fail
        exact ⟨⟨0 + 1, a * 16 + ((c : Int) - 48), rfl, rfl, by congr 1, by omega, HN⟩, by simp [RowKit.intOf]⟩
      · rw [if_neg hdig] at hav
        by_cases hlet : 97 ≤ v ∧ v ≤ 102
        · rw [if_pos hlet] at hav
          obtain ⟨hd0, hd1⟩ := hlet
          rw [if_neg (show ¬ av = 16 by omega)] at hpu
          have hc95 : ((c : Int) == 95) = false := by rw [beq_eq_false_iff_ne]; omega
          have hdg : (decide ((48 : Int) ≤ (c : Int)) = true ∧ ¬ (c : Int) ≤ 57) ∨ ¬ (48 : Int) ≤ (c : Int) := by
            by_cases h : 48 ≤ c
            · left; exact ⟨by simp; omega, by omega⟩
            · right; omega
          have HN := Lib.hid (show PRel pr (0 + 1) (a * 16 + ((v : Int) - 97 + 10)) from ⟨fun h => by omega, fun _ => ⟨by omega, by omega, by rw [hpu]; congr 1; omega⟩⟩)
          clear hpu hav h95 hdig
          rcases hdg with ⟨g1, g2⟩ | g1
          all_goals
            go_wp2_with (go_at_call 237; refine (Tryz.internal_strconv_lower _ _).mono ?_; rintro e w' ⟨rfl, rfl⟩)
            exact ⟨⟨0 + 1, a * 16 + ((v : Int) - 97 + 10), rfl, rfl, by congr 1, by omega, HN⟩, by simp [RowKit.intOf]⟩
        · rw [if_neg hlet] at hav
          rw [if_pos hav] at hpu
          have HD := Lib.hid hpu
          clear hpu hav
          have hu := bits_or32 95 (by decide)
          by_cases hz : 97 ≤ v ∧ v ≤ 122
          · have hc95 : ((c : Int) == 95) = false := by rw [beq_eq_false_iff_ne]; omega
            have hd2 : 103 ≤ v := by omega
            obtain ⟨hd0, hd1⟩ := hz
            clear hlet
            have hdg : (decide ((48 : Int) ≤ (c : Int)) = true ∧ ¬ (c : Int) ≤ 57) ∨ ¬ (48 : Int) ≤ (c : Int) := by
              by_cases h : 48 ≤ c
              · left; exact ⟨by simp; omega, by omega⟩
              · right; omega
            clear hdig h95
            rcases hdg with ⟨g1, g2⟩ | g1
            all_goals
              go_wp2_with (go_at_call 237; refine (Tryz.internal_strconv_lower _ _).mono ?_; rintro e w' ⟨rfl, rfl⟩)
              go_ret2
              exact ⟨by rw [HD.out]; rfl, BW.out⟩
          · clear hlet
            go_wp2_with (go_at_call 237; refine (Tryz.internal_strconv_lower _ _).mono ?_; rintro e w' ⟨rfl, rfl⟩)
            all_goals go_ret2
            all_goals exact ⟨by rw [HD.out]; rfl, BW.out⟩
    · obtain rfl : k = 1 := by omega
      have HD := Lib.hid (hh.out.2 rfl)
      clear hh hk0
      go_wp2_with fail
      go_ret2
      exact ⟨by rw [HD.out.2.2]; show Ending.returned (.tuple #[.int .u64 a, .nilIface]) = .returned (.tuple #[.int .u64 ((a.toNat : Nat) : Int), .nilIface]); rw [Int.toNat_of_nonneg HD.out.1], BW.out⟩

/-- What the variables hold. -/
def TabL (w : World) : Prop := TabO w ∧ (∃ te pe, w.cell? ⟨2, 0, none⟩ = some (.iface te pe)) ∧ (∃ te pe, w.cell? ⟨3, 0, none⟩ = some (.iface te pe)) ∧ ∃ m, w.cell? ⟨1, 0, none⟩ = some (.int .i64 m)
theorem TabL.below {w w' : World} (h : TabL w) (hb : Below w.heap.size w w') : TabL w' := by
  obtain ⟨h1, ⟨t2, p2, h2⟩, ⟨t3, p3, h3⟩, m, h4⟩ := h
  exact ⟨h1.below hb, ⟨t2, p2, (hb.cell (p := ⟨_, 0, none⟩) (World.block_lt_of_cell? w _ h2)).trans h2⟩, ⟨t3, p3, (hb.cell (p := ⟨_, 0, none⟩) (World.block_lt_of_cell? w _ h3)).trans h3⟩, m, (hb.cell (p := ⟨_, 0, none⟩) (World.block_lt_of_cell? w _ h4)).trans h4⟩
theorem toErr8 (s : ByteArray) (hs : s.size ≤ 281474976710656) (w : World) (hT : TabL w) :
    Calls Tryz.prog 200 #[.string ⟨#[80, 97, 114, 115, 101, 85, 105, 110, 116]⟩, .string s, .int .i64 16, .int .i64 8, .iface 190 (.int .i64 2)] w fun e w' => (∃ te pe, e = .returned (.iface te pe)) ∧ Below w.heap.size w w' := by
  obtain ⟨te, pe, h⟩ := hT.2.1
  refine (Tryz.strconv_toError_syntax _ s 16 8 _ w hs h (.inr ⟨te, pe, rfl⟩)).mono ?_
  rintro e w' ⟨N, rfl, _, _, hb⟩
  exact ⟨⟨_, _, rfl⟩, hb⟩
set_option maxHeartbeats 4000000 in
set_option maxRecDepth 100000 in
theorem parse8_one (c : UInt8) (w : World) (hT : TabL w) :
    Calls Tryz.prog 191 #[.string ⟨#[c]⟩, .int .i64 16, .int .i64 8] w fun e w' => (∃ (x : Nat) (er : Value), e = .returned (.tuple #[.int .u64 x, er]) ∧ ((er = .nilIface ∧ hexV c = some x ∧ x ≤ 15) ∨ ((∃ te pe, er = .iface te pe) ∧ hexV c = none))) ∧ Below w.heap.size w w' := by
  have HT := Lib.hid hT
  have H := Lib.hid (fun w => inner8_one c w)
  have E := Lib.hid (fun w h => toErr8 ⟨#[c]⟩ (by show 1 ≤ _; omega) w h)
  have hv := anyv_hexV c
  have ha := anyv_le c.toNat
  generalize (⟨#[c]⟩ : ByteArray) = s at *
  unfold pu1 at H
  by_cases h16 : anyv c.toNat = 16
  · rw [if_pos h16] at hv H
    have HV := Lib.hid hv
    clear hv ha h16 hT
    have ek : errV 2 = .iface 190 (.int .i64 2) := rfl
    simp only [ek] at H
    go_enter Tryz.func191, Tryz.ntmps191
    go_wp2_with fail
    go_fit (H.out _)
    rintro e w1 ⟨rfl, hb⟩
    have B := Lib.hid hb
    have T1 := Lib.hid (HT.out.below hb)
    clear hb
    go_wp2_with fail
    go_fit (E.out _ T1.out)
    rintro e w2 ⟨⟨te, pe, rfl⟩, hb⟩
    have B2 := Lib.hid (B.out.trans (hb.mono B.out.size))
    clear hb
    go_wp2_with fail
    go_ret2
    exact ⟨⟨0, _, rfl, .inr ⟨⟨_, _, rfl⟩, HV.out⟩⟩, B2.out⟩
  · rw [if_neg h16] at hv H
    have HV := Lib.hid (And.intro hv (show anyv c.toNat ≤ 15 by omega))
    clear hv ha h16 hT
    have ek : errV 0 = .nilIface := rfl
    simp only [ek] at H
    generalize anyv c.toNat = x at *
    go_enter Tryz.func191, Tryz.ntmps191
    go_wp2_with fail
    go_fit (H.out _)
    rintro e w1 ⟨rfl, hb⟩
    have B := Lib.hid hb
    clear hb
    go_wp2_with fail
    go_ret2
    exact ⟨⟨x, _, rfl, .inl ⟨rfl, HV.out.1, HV.out.2⟩⟩, B.out⟩
end Go.Proofs.YtjehhldboopocaaGreatDoor.Lx
