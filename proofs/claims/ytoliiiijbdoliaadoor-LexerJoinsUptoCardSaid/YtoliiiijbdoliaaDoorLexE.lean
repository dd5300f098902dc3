/- Contract of the program's operator (lexer). -/
import Derived.Test.YtoliiiijbdoliaaDoorLexD
import Derived.Test.YtoliiiijbdoliaaDoorShelf
import Derived.Deep.MidRow
import Derived.Lib.SmallJoins
namespace Go.Proofs.YtoliiiijbdoliaaDoor
open Go.RowKit Go.Lib
set_option linter.unusedVariables false

def opsB : List (List UInt8) := dbl ++ sgl.map fun c => [c]
def opsV : Array Value := #[.string ⟨#[124, 124]⟩, .string ⟨#[38, 38]⟩, .string ⟨#[61, 61]⟩, .string ⟨#[33, 61]⟩, .string ⟨#[60, 61]⟩, .string ⟨#[62, 61]⟩, .string ⟨#[60]⟩, .string ⟨#[62]⟩, .string ⟨#[43]⟩, .string ⟨#[45]⟩, .string ⟨#[42]⟩, .string ⟨#[47]⟩, .string ⟨#[37]⟩, .string ⟨#[33]⟩, .string ⟨#[63]⟩, .string ⟨#[58]⟩, .string ⟨#[46]⟩, .string ⟨#[44]⟩, .string ⟨#[61]⟩, .string ⟨#[40]⟩, .string ⟨#[41]⟩, .string ⟨#[91]⟩, .string ⟨#[93]⟩, .string ⟨#[123]⟩, .string ⟨#[125]⟩]
/-- What the program's variables hold. -/
def TabO (w : World) : Prop := w.var? Tryd.prog "pipeline/lexer.operators" = some opsV
theorem TabO.below {w w' : World} (h : TabO w) (hb : Below w.heap.size w w') : TabO w' := Joins.var_stays (g := 0) (by kernel_rfl) h hb (Nat.le_refl _)
theorem ops_cell {w : World} (h : TabO w) (k : Nat) : w.cell? ⟨0, k, none⟩ = opsV[k]? := World.var?_cell (g := 0) (by kernel_rfl) h k
def opAt (i : Nat) : List UInt8 := opsB.getD i []
theorem ops_len : opsB.length = 25 := rfl
theorem ops_ix0 (w : World) : (Instr.index 65 (.agg #[.string ⟨#[124, 124]⟩, .string ⟨#[38, 38]⟩, .string ⟨#[61, 61]⟩, .string ⟨#[33, 61]⟩, .string ⟨#[60, 61]⟩, .string ⟨#[62, 61]⟩, .string ⟨#[60]⟩, .string ⟨#[62]⟩, .string ⟨#[43]⟩, .string ⟨#[45]⟩, .string ⟨#[42]⟩, .string ⟨#[47]⟩, .string ⟨#[37]⟩, .string ⟨#[33]⟩, .string ⟨#[63]⟩, .string ⟨#[58]⟩, .string ⟨#[46]⟩, .string ⟨#[44]⟩, .string ⟨#[61]⟩, .string ⟨#[40]⟩, .string ⟨#[41]⟩, .string ⟨#[91]⟩, .string ⟨#[93]⟩, .string ⟨#[123]⟩, .string ⟨#[125]⟩]) (.int .i64 0)).run Tryd.prog w = .ok (.string ⟨#[124, 124]⟩) w := by kernel_rfl
theorem ops_ix1 (w : World) : (Instr.index 65 (.agg #[.string ⟨#[124, 124]⟩, .string ⟨#[38, 38]⟩, .string ⟨#[61, 61]⟩, .string ⟨#[33, 61]⟩, .string ⟨#[60, 61]⟩, .string ⟨#[62, 61]⟩, .string ⟨#[60]⟩, .string ⟨#[62]⟩, .string ⟨#[43]⟩, .string ⟨#[45]⟩, .string ⟨#[42]⟩, .string ⟨#[47]⟩, .string ⟨#[37]⟩, .string ⟨#[33]⟩, .string ⟨#[63]⟩, .string ⟨#[58]⟩, .string ⟨#[46]⟩, .string ⟨#[44]⟩, .string ⟨#[61]⟩, .string ⟨#[40]⟩, .string ⟨#[41]⟩, .string ⟨#[91]⟩, .string ⟨#[93]⟩, .string ⟨#[123]⟩, .string ⟨#[125]⟩]) (.int .i64 1)).run Tryd.prog w = .ok (.string ⟨#[38, 38]⟩) w := by kernel_rfl
theorem ops_ix2 (w : World) : (Instr.index 65 (.agg #[.string ⟨#[124, 124]⟩, .string ⟨#[38, 38]⟩, .string ⟨#[61, 61]⟩, .string ⟨#[33, 61]⟩, .string ⟨#[60, 61]⟩, .string ⟨#[62, 61]⟩, .string ⟨#[60]⟩, .string ⟨#[62]⟩, .string ⟨#[43]⟩, .string ⟨#[45]⟩, .string ⟨#[42]⟩, .string ⟨#[47]⟩, .string ⟨#[37]⟩, .string ⟨#[33]⟩, .string ⟨#[63]⟩, .string ⟨#[58]⟩, .string ⟨#[46]⟩, .string ⟨#[44]⟩, .string ⟨#[61]⟩, .string ⟨#[40]⟩, .string ⟨#[41]⟩, .string ⟨#[91]⟩, .string ⟨#[93]⟩, .string ⟨#[123]⟩, .string ⟨#[125]⟩]) (.int .i64 2)).run Tryd.prog w = .ok (.string ⟨#[61, 61]⟩) w := by kernel_rfl
theorem ops_ix3 (w : World) : (Instr.index 65 (.agg #[.string ⟨#[124, 124]⟩, .string ⟨#[38, 38]⟩, .string ⟨#[61, 61]⟩, .string ⟨#[33, 61]⟩, .string ⟨#[60, 61]⟩, .string ⟨#[62, 61]⟩, .string ⟨#[60]⟩, .string ⟨#[62]⟩, .string ⟨#[43]⟩, .string ⟨#[45]⟩, .string ⟨#[42]⟩, .string ⟨#[47]⟩, .string ⟨#[37]⟩, .string ⟨#[33]⟩, .string ⟨#[63]⟩, .string ⟨#[58]⟩, .string ⟨#[46]⟩, .string ⟨#[44]⟩, .string ⟨#[61]⟩, .string ⟨#[40]⟩, .string ⟨#[41]⟩, .string ⟨#[91]⟩, .string ⟨#[93]⟩, .string ⟨#[123]⟩, .string ⟨#[125]⟩]) (.int .i64 3)).run Tryd.prog w = .ok (.string ⟨#[33, 61]⟩) w := by kernel_rfl
theorem ops_ix4 (w : World) : (Instr.index 65 (.agg #[.string ⟨#[124, 124]⟩, .string ⟨#[38, 38]⟩, .string ⟨#[61, 61]⟩, .string ⟨#[33, 61]⟩, .string ⟨#[60, 61]⟩, .string ⟨#[62, 61]⟩, .string ⟨#[60]⟩, .string ⟨#[62]⟩, .string ⟨#[43]⟩, .string ⟨#[45]⟩, .string ⟨#[42]⟩, .string ⟨#[47]⟩, .string ⟨#[37]⟩, .string ⟨#[33]⟩, .string ⟨#[63]⟩, .string ⟨#[58]⟩, .string ⟨#[46]⟩, .string ⟨#[44]⟩, .string ⟨#[61]⟩, .string ⟨#[40]⟩, .string ⟨#[41]⟩, .string ⟨#[91]⟩, .string ⟨#[93]⟩, .string ⟨#[123]⟩, .string ⟨#[125]⟩]) (.int .i64 4)).run Tryd.prog w = .ok (.string ⟨#[60, 61]⟩) w := by kernel_rfl
theorem ops_ix5 (w : World) : (Instr.index 65 (.agg #[.string ⟨#[124, 124]⟩, .string ⟨#[38, 38]⟩, .string ⟨#[61, 61]⟩, .string ⟨#[33, 61]⟩, .string ⟨#[60, 61]⟩, .string ⟨#[62, 61]⟩, .string ⟨#[60]⟩, .string ⟨#[62]⟩, .string ⟨#[43]⟩, .string ⟨#[45]⟩, .string ⟨#[42]⟩, .string ⟨#[47]⟩, .string ⟨#[37]⟩, .string ⟨#[33]⟩, .string ⟨#[63]⟩, .string ⟨#[58]⟩, .string ⟨#[46]⟩, .string ⟨#[44]⟩, .string ⟨#[61]⟩, .string ⟨#[40]⟩, .string ⟨#[41]⟩, .string ⟨#[91]⟩, .string ⟨#[93]⟩, .string ⟨#[123]⟩, .string ⟨#[125]⟩]) (.int .i64 5)).run Tryd.prog w = .ok (.string ⟨#[62, 61]⟩) w := by kernel_rfl
theorem ops_ix6 (w : World) : (Instr.index 65 (.agg #[.string ⟨#[124, 124]⟩, .string ⟨#[38, 38]⟩, .string ⟨#[61, 61]⟩, .string ⟨#[33, 61]⟩, .string ⟨#[60, 61]⟩, .string ⟨#[62, 61]⟩, .string ⟨#[60]⟩, .string ⟨#[62]⟩, .string ⟨#[43]⟩, .string ⟨#[45]⟩, .string ⟨#[42]⟩, .string ⟨#[47]⟩, .string ⟨#[37]⟩, .string ⟨#[33]⟩, .string ⟨#[63]⟩, .string ⟨#[58]⟩, .string ⟨#[46]⟩, .string ⟨#[44]⟩, .string ⟨#[61]⟩, .string ⟨#[40]⟩, .string ⟨#[41]⟩, .string ⟨#[91]⟩, .string ⟨#[93]⟩, .string ⟨#[123]⟩, .string ⟨#[125]⟩]) (.int .i64 6)).run Tryd.prog w = .ok (.string ⟨#[60]⟩) w := by kernel_rfl
theorem ops_ix7 (w : World) : (Instr.index 65 (.agg #[.string ⟨#[124, 124]⟩, .string ⟨#[38, 38]⟩, .string ⟨#[61, 61]⟩, .string ⟨#[33, 61]⟩, .string ⟨#[60, 61]⟩, .string ⟨#[62, 61]⟩, .string ⟨#[60]⟩, .string ⟨#[62]⟩, .string ⟨#[43]⟩, .string ⟨#[45]⟩, .string ⟨#[42]⟩, .string ⟨#[47]⟩, .string ⟨#[37]⟩, .string ⟨#[33]⟩, .string ⟨#[63]⟩, .string ⟨#[58]⟩, .string ⟨#[46]⟩, .string ⟨#[44]⟩, .string ⟨#[61]⟩, .string ⟨#[40]⟩, .string ⟨#[41]⟩, .string ⟨#[91]⟩, .string ⟨#[93]⟩, .string ⟨#[123]⟩, .string ⟨#[125]⟩]) (.int .i64 7)).run Tryd.prog w = .ok (.string ⟨#[62]⟩) w := by kernel_rfl
theorem ops_ix8 (w : World) : (Instr.index 65 (.agg #[.string ⟨#[124, 124]⟩, .string ⟨#[38, 38]⟩, .string ⟨#[61, 61]⟩, .string ⟨#[33, 61]⟩, .string ⟨#[60, 61]⟩, .string ⟨#[62, 61]⟩, .string ⟨#[60]⟩, .string ⟨#[62]⟩, .string ⟨#[43]⟩, .string ⟨#[45]⟩, .string ⟨#[42]⟩, .string ⟨#[47]⟩, .string ⟨#[37]⟩, .string ⟨#[33]⟩, .string ⟨#[63]⟩, .string ⟨#[58]⟩, .string ⟨#[46]⟩, .string ⟨#[44]⟩, .string ⟨#[61]⟩, .string ⟨#[40]⟩, .string ⟨#[41]⟩, .string ⟨#[91]⟩, .string ⟨#[93]⟩, .string ⟨#[123]⟩, .string ⟨#[125]⟩]) (.int .i64 8)).run Tryd.prog w = .ok (.string ⟨#[43]⟩) w := by kernel_rfl
theorem ops_ix9 (w : World) : (Instr.index 65 (.agg #[.string ⟨#[124, 124]⟩, .string ⟨#[38, 38]⟩, .string ⟨#[61, 61]⟩, .string ⟨#[33, 61]⟩, .string ⟨#[60, 61]⟩, .string ⟨#[62, 61]⟩, .string ⟨#[60]⟩, .string ⟨#[62]⟩, .string ⟨#[43]⟩, .string ⟨#[45]⟩, .string ⟨#[42]⟩, .string ⟨#[47]⟩, .string ⟨#[37]⟩, .string ⟨#[33]⟩, .string ⟨#[63]⟩, .string ⟨#[58]⟩, .string ⟨#[46]⟩, .string ⟨#[44]⟩, .string ⟨#[61]⟩, .string ⟨#[40]⟩, .string ⟨#[41]⟩, .string ⟨#[91]⟩, .string ⟨#[93]⟩, .string ⟨#[123]⟩, .string ⟨#[125]⟩]) (.int .i64 9)).run Tryd.prog w = .ok (.string ⟨#[45]⟩) w := by kernel_rfl
theorem ops_ix10 (w : World) : (Instr.index 65 (.agg #[.string ⟨#[124, 124]⟩, .string ⟨#[38, 38]⟩, .string ⟨#[61, 61]⟩, .string ⟨#[33, 61]⟩, .string ⟨#[60, 61]⟩, .string ⟨#[62, 61]⟩, .string ⟨#[60]⟩, .string ⟨#[62]⟩, .string ⟨#[43]⟩, .string ⟨#[45]⟩, .string ⟨#[42]⟩, .string ⟨#[47]⟩, .string ⟨#[37]⟩, .string ⟨#[33]⟩, .string ⟨#[63]⟩, .string ⟨#[58]⟩, .string ⟨#[46]⟩, .string ⟨#[44]⟩, .string ⟨#[61]⟩, .string ⟨#[40]⟩, .string ⟨#[41]⟩, .string ⟨#[91]⟩, .string ⟨#[93]⟩, .string ⟨#[123]⟩, .string ⟨#[125]⟩]) (.int .i64 10)).run Tryd.prog w = .ok (.string ⟨#[42]⟩) w := by kernel_rfl
theorem ops_ix11 (w : World) : (Instr.index 65 (.agg #[.string ⟨#[124, 124]⟩, .string ⟨#[38, 38]⟩, .string ⟨#[61, 61]⟩, .string ⟨#[33, 61]⟩, .string ⟨#[60, 61]⟩, .string ⟨#[62, 61]⟩, .string ⟨#[60]⟩, .string ⟨#[62]⟩, .string ⟨#[43]⟩, .string ⟨#[45]⟩, .string ⟨#[42]⟩, .string ⟨#[47]⟩, .string ⟨#[37]⟩, .string ⟨#[33]⟩, .string ⟨#[63]⟩, .string ⟨#[58]⟩, .string ⟨#[46]⟩, .string ⟨#[44]⟩, .string ⟨#[61]⟩, .string ⟨#[40]⟩, .string ⟨#[41]⟩, .string ⟨#[91]⟩, .string ⟨#[93]⟩, .string ⟨#[123]⟩, .string ⟨#[125]⟩]) (.int .i64 11)).run Tryd.prog w = .ok (.string ⟨#[47]⟩) w := by kernel_rfl
theorem ops_ix12 (w : World) : (Instr.index 65 (.agg #[.string ⟨#[124, 124]⟩, .string ⟨#[38, 38]⟩, .string ⟨#[61, 61]⟩, .string ⟨#[33, 61]⟩, .string ⟨#[60, 61]⟩, .string ⟨#[62, 61]⟩, .string ⟨#[60]⟩, .string ⟨#[62]⟩, .string ⟨#[43]⟩, .string ⟨#[45]⟩, .string ⟨#[42]⟩, .string ⟨#[47]⟩, .string ⟨#[37]⟩, .string ⟨#[33]⟩, .string ⟨#[63]⟩, .string ⟨#[58]⟩, .string ⟨#[46]⟩, .string ⟨#[44]⟩, .string ⟨#[61]⟩, .string ⟨#[40]⟩, .string ⟨#[41]⟩, .string ⟨#[91]⟩, .string ⟨#[93]⟩, .string ⟨#[123]⟩, .string ⟨#[125]⟩]) (.int .i64 12)).run Tryd.prog w = .ok (.string ⟨#[37]⟩) w := by kernel_rfl
theorem ops_ix13 (w : World) : (Instr.index 65 (.agg #[.string ⟨#[124, 124]⟩, .string ⟨#[38, 38]⟩, .string ⟨#[61, 61]⟩, .string ⟨#[33, 61]⟩, .string ⟨#[60, 61]⟩, .string ⟨#[62, 61]⟩, .string ⟨#[60]⟩, .string ⟨#[62]⟩, .string ⟨#[43]⟩, .string ⟨#[45]⟩, .string ⟨#[42]⟩, .string ⟨#[47]⟩, .string ⟨#[37]⟩, .string ⟨#[33]⟩, .string ⟨#[63]⟩, .string ⟨#[58]⟩, .string ⟨#[46]⟩, .string ⟨#[44]⟩, .string ⟨#[61]⟩, .string ⟨#[40]⟩, .string ⟨#[41]⟩, .string ⟨#[91]⟩, .string ⟨#[93]⟩, .string ⟨#[123]⟩, .string ⟨#[125]⟩]) (.int .i64 13)).run Tryd.prog w = .ok (.string ⟨#[33]⟩) w := by kernel_rfl
theorem ops_ix14 (w : World) : (Instr.index 65 (.agg #[.string ⟨#[124, 124]⟩, .string ⟨#[38, 38]⟩, .string ⟨#[61, 61]⟩, .string ⟨#[33, 61]⟩, .string ⟨#[60, 61]⟩, .string ⟨#[62, 61]⟩, .string ⟨#[60]⟩, .string ⟨#[62]⟩, .string ⟨#[43]⟩, .string ⟨#[45]⟩, .string ⟨#[42]⟩, .string ⟨#[47]⟩, .string ⟨#[37]⟩, .string ⟨#[33]⟩, .string ⟨#[63]⟩, .string ⟨#[58]⟩, .string ⟨#[46]⟩, .string ⟨#[44]⟩, .string ⟨#[61]⟩, .string ⟨#[40]⟩, .string ⟨#[41]⟩, .string ⟨#[91]⟩, .string ⟨#[93]⟩, .string ⟨#[123]⟩, .string ⟨#[125]⟩]) (.int .i64 14)).run Tryd.prog w = .ok (.string ⟨#[63]⟩) w := by kernel_rfl
theorem ops_ix15 (w : World) : (Instr.index 65 (.agg #[.string ⟨#[124, 124]⟩, .string ⟨#[38, 38]⟩, .string ⟨#[61, 61]⟩, .string ⟨#[33, 61]⟩, .string ⟨#[60, 61]⟩, .string ⟨#[62, 61]⟩, .string ⟨#[60]⟩, .string ⟨#[62]⟩, .string ⟨#[43]⟩, .string ⟨#[45]⟩, .string ⟨#[42]⟩, .string ⟨#[47]⟩, .string ⟨#[37]⟩, .string ⟨#[33]⟩, .string ⟨#[63]⟩, .string ⟨#[58]⟩, .string ⟨#[46]⟩, .string ⟨#[44]⟩, .string ⟨#[61]⟩, .string ⟨#[40]⟩, .string ⟨#[41]⟩, .string ⟨#[91]⟩, .string ⟨#[93]⟩, .string ⟨#[123]⟩, .string ⟨#[125]⟩]) (.int .i64 15)).run Tryd.prog w = .ok (.string ⟨#[58]⟩) w := by kernel_rfl
theorem ops_ix16 (w : World) : (Instr.index 65 (.agg #[.string ⟨#[124, 124]⟩, .string ⟨#[38, 38]⟩, .string ⟨#[61, 61]⟩, .string ⟨#[33, 61]⟩, .string ⟨#[60, 61]⟩, .string ⟨#[62, 61]⟩, .string ⟨#[60]⟩, .string ⟨#[62]⟩, .string ⟨#[43]⟩, .string ⟨#[45]⟩, .string ⟨#[42]⟩, .string ⟨#[47]⟩, .string ⟨#[37]⟩, .string ⟨#[33]⟩, .string ⟨#[63]⟩, .string ⟨#[58]⟩, .string ⟨#[46]⟩, .string ⟨#[44]⟩, .string ⟨#[61]⟩, .string ⟨#[40]⟩, .string ⟨#[41]⟩, .string ⟨#[91]⟩, .string ⟨#[93]⟩, .string ⟨#[123]⟩, .string ⟨#[125]⟩]) (.int .i64 16)).run Tryd.prog w = .ok (.string ⟨#[46]⟩) w := by kernel_rfl
theorem ops_ix17 (w : World) : (Instr.index 65 (.agg #[.string ⟨#[124, 124]⟩, .string ⟨#[38, 38]⟩, .string ⟨#[61, 61]⟩, .string ⟨#[33, 61]⟩, .string ⟨#[60, 61]⟩, .string ⟨#[62, 61]⟩, .string ⟨#[60]⟩, .string ⟨#[62]⟩, .string ⟨#[43]⟩, .string ⟨#[45]⟩, .string ⟨#[42]⟩, .string ⟨#[47]⟩, .string ⟨#[37]⟩, .string ⟨#[33]⟩, .string ⟨#[63]⟩, .string ⟨#[58]⟩, .string ⟨#[46]⟩, .string ⟨#[44]⟩, .string ⟨#[61]⟩, .string ⟨#[40]⟩, .string ⟨#[41]⟩, .string ⟨#[91]⟩, .string ⟨#[93]⟩, .string ⟨#[123]⟩, .string ⟨#[125]⟩]) (.int .i64 17)).run Tryd.prog w = .ok (.string ⟨#[44]⟩) w := by kernel_rfl
theorem ops_ix18 (w : World) : (Instr.index 65 (.agg #[.string ⟨#[124, 124]⟩, .string ⟨#[38, 38]⟩, .string ⟨#[61, 61]⟩, .string ⟨#[33, 61]⟩, .string ⟨#[60, 61]⟩, .string ⟨#[62, 61]⟩, .string ⟨#[60]⟩, .string ⟨#[62]⟩, .string ⟨#[43]⟩, .string ⟨#[45]⟩, .string ⟨#[42]⟩, .string ⟨#[47]⟩, .string ⟨#[37]⟩, .string ⟨#[33]⟩, .string ⟨#[63]⟩, .string ⟨#[58]⟩, .string ⟨#[46]⟩, .string ⟨#[44]⟩, .string ⟨#[61]⟩, .string ⟨#[40]⟩, .string ⟨#[41]⟩, .string ⟨#[91]⟩, .string ⟨#[93]⟩, .string ⟨#[123]⟩, .string ⟨#[125]⟩]) (.int .i64 18)).run Tryd.prog w = .ok (.string ⟨#[61]⟩) w := by kernel_rfl
theorem ops_ix19 (w : World) : (Instr.index 65 (.agg #[.string ⟨#[124, 124]⟩, .string ⟨#[38, 38]⟩, .string ⟨#[61, 61]⟩, .string ⟨#[33, 61]⟩, .string ⟨#[60, 61]⟩, .string ⟨#[62, 61]⟩, .string ⟨#[60]⟩, .string ⟨#[62]⟩, .string ⟨#[43]⟩, .string ⟨#[45]⟩, .string ⟨#[42]⟩, .string ⟨#[47]⟩, .string ⟨#[37]⟩, .string ⟨#[33]⟩, .string ⟨#[63]⟩, .string ⟨#[58]⟩, .string ⟨#[46]⟩, .string ⟨#[44]⟩, .string ⟨#[61]⟩, .string ⟨#[40]⟩, .string ⟨#[41]⟩, .string ⟨#[91]⟩, .string ⟨#[93]⟩, .string ⟨#[123]⟩, .string ⟨#[125]⟩]) (.int .i64 19)).run Tryd.prog w = .ok (.string ⟨#[40]⟩) w := by kernel_rfl
theorem ops_ix20 (w : World) : (Instr.index 65 (.agg #[.string ⟨#[124, 124]⟩, .string ⟨#[38, 38]⟩, .string ⟨#[61, 61]⟩, .string ⟨#[33, 61]⟩, .string ⟨#[60, 61]⟩, .string ⟨#[62, 61]⟩, .string ⟨#[60]⟩, .string ⟨#[62]⟩, .string ⟨#[43]⟩, .string ⟨#[45]⟩, .string ⟨#[42]⟩, .string ⟨#[47]⟩, .string ⟨#[37]⟩, .string ⟨#[33]⟩, .string ⟨#[63]⟩, .string ⟨#[58]⟩, .string ⟨#[46]⟩, .string ⟨#[44]⟩, .string ⟨#[61]⟩, .string ⟨#[40]⟩, .string ⟨#[41]⟩, .string ⟨#[91]⟩, .string ⟨#[93]⟩, .string ⟨#[123]⟩, .string ⟨#[125]⟩]) (.int .i64 20)).run Tryd.prog w = .ok (.string ⟨#[41]⟩) w := by kernel_rfl
theorem ops_ix21 (w : World) : (Instr.index 65 (.agg #[.string ⟨#[124, 124]⟩, .string ⟨#[38, 38]⟩, .string ⟨#[61, 61]⟩, .string ⟨#[33, 61]⟩, .string ⟨#[60, 61]⟩, .string ⟨#[62, 61]⟩, .string ⟨#[60]⟩, .string ⟨#[62]⟩, .string ⟨#[43]⟩, .string ⟨#[45]⟩, .string ⟨#[42]⟩, .string ⟨#[47]⟩, .string ⟨#[37]⟩, .string ⟨#[33]⟩, .string ⟨#[63]⟩, .string ⟨#[58]⟩, .string ⟨#[46]⟩, .string ⟨#[44]⟩, .string ⟨#[61]⟩, .string ⟨#[40]⟩, .string ⟨#[41]⟩, .string ⟨#[91]⟩, .string ⟨#[93]⟩, .string ⟨#[123]⟩, .string ⟨#[125]⟩]) (.int .i64 21)).run Tryd.prog w = .ok (.string ⟨#[91]⟩) w := by kernel_rfl
theorem ops_ix22 (w : World) : (Instr.index 65 (.agg #[.string ⟨#[124, 124]⟩, .string ⟨#[38, 38]⟩, .string ⟨#[61, 61]⟩, .string ⟨#[33, 61]⟩, .string ⟨#[60, 61]⟩, .string ⟨#[62, 61]⟩, .string ⟨#[60]⟩, .string ⟨#[62]⟩, .string ⟨#[43]⟩, .string ⟨#[45]⟩, .string ⟨#[42]⟩, .string ⟨#[47]⟩, .string ⟨#[37]⟩, .string ⟨#[33]⟩, .string ⟨#[63]⟩, .string ⟨#[58]⟩, .string ⟨#[46]⟩, .string ⟨#[44]⟩, .string ⟨#[61]⟩, .string ⟨#[40]⟩, .string ⟨#[41]⟩, .string ⟨#[91]⟩, .string ⟨#[93]⟩, .string ⟨#[123]⟩, .string ⟨#[125]⟩]) (.int .i64 22)).run Tryd.prog w = .ok (.string ⟨#[93]⟩) w := by kernel_rfl
theorem ops_ix23 (w : World) : (Instr.index 65 (.agg #[.string ⟨#[124, 124]⟩, .string ⟨#[38, 38]⟩, .string ⟨#[61, 61]⟩, .string ⟨#[33, 61]⟩, .string ⟨#[60, 61]⟩, .string ⟨#[62, 61]⟩, .string ⟨#[60]⟩, .string ⟨#[62]⟩, .string ⟨#[43]⟩, .string ⟨#[45]⟩, .string ⟨#[42]⟩, .string ⟨#[47]⟩, .string ⟨#[37]⟩, .string ⟨#[33]⟩, .string ⟨#[63]⟩, .string ⟨#[58]⟩, .string ⟨#[46]⟩, .string ⟨#[44]⟩, .string ⟨#[61]⟩, .string ⟨#[40]⟩, .string ⟨#[41]⟩, .string ⟨#[91]⟩, .string ⟨#[93]⟩, .string ⟨#[123]⟩, .string ⟨#[125]⟩]) (.int .i64 23)).run Tryd.prog w = .ok (.string ⟨#[123]⟩) w := by kernel_rfl
theorem ops_ix24 (w : World) : (Instr.index 65 (.agg #[.string ⟨#[124, 124]⟩, .string ⟨#[38, 38]⟩, .string ⟨#[61, 61]⟩, .string ⟨#[33, 61]⟩, .string ⟨#[60, 61]⟩, .string ⟨#[62, 61]⟩, .string ⟨#[60]⟩, .string ⟨#[62]⟩, .string ⟨#[43]⟩, .string ⟨#[45]⟩, .string ⟨#[42]⟩, .string ⟨#[47]⟩, .string ⟨#[37]⟩, .string ⟨#[33]⟩, .string ⟨#[63]⟩, .string ⟨#[58]⟩, .string ⟨#[46]⟩, .string ⟨#[44]⟩, .string ⟨#[61]⟩, .string ⟨#[40]⟩, .string ⟨#[41]⟩, .string ⟨#[91]⟩, .string ⟨#[93]⟩, .string ⟨#[123]⟩, .string ⟨#[125]⟩]) (.int .i64 24)).run Tryd.prog w = .ok (.string ⟨#[125]⟩) w := by kernel_rfl
theorem ops_ix (i : Nat) (h : i < 25) (w : World) : (Instr.index 65 (.agg #[.string ⟨#[124, 124]⟩, .string ⟨#[38, 38]⟩, .string ⟨#[61, 61]⟩, .string ⟨#[33, 61]⟩, .string ⟨#[60, 61]⟩, .string ⟨#[62, 61]⟩, .string ⟨#[60]⟩, .string ⟨#[62]⟩, .string ⟨#[43]⟩, .string ⟨#[45]⟩, .string ⟨#[42]⟩, .string ⟨#[47]⟩, .string ⟨#[37]⟩, .string ⟨#[33]⟩, .string ⟨#[63]⟩, .string ⟨#[58]⟩, .string ⟨#[46]⟩, .string ⟨#[44]⟩, .string ⟨#[61]⟩, .string ⟨#[40]⟩, .string ⟨#[41]⟩, .string ⟨#[91]⟩, .string ⟨#[93]⟩, .string ⟨#[123]⟩, .string ⟨#[125]⟩]) (.int .i64 (i : Int))).run Tryd.prog w = .ok (.string ⟨(opAt i).toArray⟩) w := by
  rcases (show i = 0 ∨ i = 1 ∨ i = 2 ∨ i = 3 ∨ i = 4 ∨ i = 5 ∨ i = 6 ∨ i = 7 ∨ i = 8 ∨ i = 9 ∨ i = 10 ∨ i = 11 ∨ i = 12 ∨ i = 13 ∨ i = 14 ∨ i = 15 ∨ i = 16 ∨ i = 17 ∨ i = 18 ∨ i = 19 ∨ i = 20 ∨ i = 21 ∨ i = 22 ∨ i = 23 ∨ i = 24 by omega) with rfl | rfl | rfl | rfl | rfl | rfl | rfl | rfl | rfl | rfl | rfl | rfl | rfl | rfl | rfl | rfl | rfl | rfl | rfl | rfl | rfl | rfl | rfl | rfl | rfl
  · exact ops_ix0 w
  · exact ops_ix1 w
  · exact ops_ix2 w
  · exact ops_ix3 w
  · exact ops_ix4 w
  · exact ops_ix5 w
  · exact ops_ix6 w
  · exact ops_ix7 w
  · exact ops_ix8 w
  · exact ops_ix9 w
  · exact ops_ix10 w
  · exact ops_ix11 w
  · exact ops_ix12 w
  · exact ops_ix13 w
  · exact ops_ix14 w
  · exact ops_ix15 w
  · exact ops_ix16 w
  · exact ops_ix17 w
  · exact ops_ix18 w
  · exact ops_ix19 w
  · exact ops_ix20 w
  · exact ops_ix21 w
  · exact ops_ix22 w
  · exact ops_ix23 w
  · exact ops_ix24 w
/-- The first operator that a text begins with. -/
def opsF (l : List UInt8) : List UInt8 := (opsB.find? fun o => o.isPrefixOf l).getD []
theorem find_at {l : List UInt8} (i : Nat) (hi : i < 25) (hn : ∀ j, j < i → (opAt j).isPrefixOf l = false) (h : (opAt i).isPrefixOf l = true) : opsF l = opAt i := by
  unfold opsF
  have e : opsB = opsB.take i ++ (opAt i :: opsB.drop (i + 1)) := by
    have h1 : opsB.drop i = opAt i :: opsB.drop (i + 1) := by
      rw [List.drop_eq_getElem_cons (by rw [ops_len]; exact hi)]
      unfold opAt
      rw [List.getD_eq_getElem?_getD, List.getElem?_eq_getElem (by rw [ops_len]; exact hi)]
      rfl
    rw [← h1, List.take_append_drop]
  rw [e, List.find?_append, List.find?_cons, h]
  have hnone : (opsB.take i).find? (fun o => o.isPrefixOf l) = none := by
    rw [List.find?_eq_none]
    intro o ho
    obtain ⟨j, hj, rfl⟩ := List.getElem_of_mem ho
    rw [List.length_take] at hj
    have := hn j (by omega)
    unfold opAt at this
    rw [List.getD_eq_getElem?_getD, List.getElem?_eq_getElem (by omega)] at this
    rw [List.getElem_take]
    have this : opsB[j].isPrefixOf l = false := this
    exact fun h => Bool.noConfusion (this.symm.trans h)
  rw [hnone]
  rfl
theorem find_no {l : List UInt8} (hn : ∀ j, j < 25 → (opAt j).isPrefixOf l = false) : opsF l = [] := by
  unfold opsF
  have hnone : opsB.find? (fun o => o.isPrefixOf l) = none := by
    rw [List.find?_eq_none]
    intro o ho
    obtain ⟨j, hj, rfl⟩ := List.getElem_of_mem ho
    rw [ops_len] at hj
    have := hn j hj
    unfold opAt at this
    rw [List.getD_eq_getElem?_getD, List.getElem?_eq_getElem (by rw [ops_len]; exact hj)] at this
    have this : opsB[j].isPrefixOf l = false := this
    exact fun h => Bool.noConfusion (this.symm.trans h)
  rw [hnone]
  rfl
theorem pre_one (c d : UInt8) (r : List UInt8) : [d].isPrefixOf (c :: r) = (d == c) := by simp [List.isPrefixOf]
theorem find_sgl (c : UInt8) (r : List UInt8) : ∀ l : List UInt8, (l.map fun d => [d]).find? (fun o => o.isPrefixOf (c :: r)) = if l.contains c then some [c] else none
  | [] => rfl
  | d :: l => by
    rw [List.map_cons, List.find?_cons, pre_one]
    by_cases h : d = c
    · subst h
      simp
    · have h1 : (d == c) = false := beq_eq_false_iff_ne.2 h
      have h2 : (c == d) = false := beq_eq_false_iff_ne.2 (Ne.symm h)
      rw [h1, find_sgl c r l, List.contains_cons, h2, Bool.false_or]
theorem find_dbl (l : List UInt8) : ∀ m : List (List UInt8), (∀ o, o ∈ m → o.length = 2) → m.find? (fun o => o.isPrefixOf l) = if m.contains (l.take 2) ∧ 2 ≤ l.length then some (l.take 2) else none
  | [], _ => by simp
  | o :: m, h => by
    have ho := h o (by simp)
    rw [List.find?_cons, find_dbl l m (fun o ho => h o (List.mem_cons_of_mem _ ho)), List.contains_cons]
    cases hp : o.isPrefixOf l
    · have hn : ¬ (l.take 2 = o ∧ 2 ≤ l.length) := by
        rintro ⟨h1, h2⟩
        have : o <+: l := by rw [← h1]; exact List.take_prefix 2 l
        rw [← List.isPrefixOf_iff_prefix, hp] at this
        cases this
      by_cases h2 : 2 ≤ l.length
      · have h3 : (l.take 2 == o) = false := beq_eq_false_iff_ne.2 (fun e => hn ⟨e, h2⟩)
        rw [h3, Bool.false_or]
      · rw [if_neg (fun e => h2 e.2), if_neg (fun e => h2 e.2)]
    · have hpre : o <+: l := List.isPrefixOf_iff_prefix.1 hp
      have e : l.take 2 = o := by
        obtain ⟨t, rfl⟩ := hpre
        rw [← ho, List.take_left]
      have h2 : 2 ≤ l.length := by have := hpre.length_le; omega
      show some o = _
      rw [e, beq_self_eq_true, Bool.true_or, if_pos ⟨rfl, h2⟩]
theorem opsF_opL (c : UInt8) (r : List UInt8) : opsF (c :: r) = (c :: r).take (opL (c :: r)) := by
  unfold opsF opsB
  rw [List.find?_append, find_dbl (c :: r) dbl (by intro o ho; simp [dbl] at ho; rcases ho with rfl | rfl | rfl | rfl | rfl | rfl <;> rfl), find_sgl]
  cases r with
  | nil =>
    rw [if_neg (by simp)]
    simp only [opL]
    by_cases h : sgl.contains c = true
    · rw [if_pos h, if_pos h]; rfl
    · rw [if_neg h, if_neg h]; rfl
  | cons d t =>
    simp only [opL]
    have e : (c :: d :: t).take 2 = [c, d] := rfl
    rw [e]
    by_cases h1 : dbl.contains [c, d] = true
    · rw [if_pos ⟨h1, by simp⟩, if_pos h1]
      rfl
    · rw [if_neg (fun x => h1 x.1), if_neg h1]
      by_cases h : sgl.contains c = true
      · rw [if_pos h, if_pos h]; rfl
      · rw [if_neg h, if_neg h]; rfl
theorem ops_range {w : World} (h : TabO w) : w.rangeAt 0 0 opsV.toList := by
  intro j v hv
  rw [Nat.zero_add, ops_cell h j]
  rw [← Array.getElem?_toList]
  exact hv
set_option maxHeartbeats 4000000 in
set_option maxRecDepth 100000 in
theorem operator_any (s : ByteArray) (w : World) (hT : TabO w) : Calls Tryd.prog 31 #[.string s] w fun e w' => e = .returned (.string ⟨(opsF s.data.toList).toArray⟩) ∧ w = w' := by
  have HR := Lib.hid (ops_range hT)
  have hi : (Tryd.prog.info? 65).map (·.size) = some opsV.toList.length := by kernel_rfl
  have ix : ∀ (i : Nat), i < 25 → ∀ w, (Instr.index 65 (.agg opsV.toList.toArray) (.int .i64 (i : Int))).run Tryd.prog w = .ok (.string ⟨(opAt i).toArray⟩) w := by
    rw [Array.toArray_toList]
    exact ops_ix
  have HP := Lib.hid (fun p w => Tryd.strings_HasPrefix s p w)
  generalize opsV.toList = V at hi HR ix
  have IX := Lib.hid ix
  have HI := Lib.hid hi
  clear hT hi ix
  go_enter Tryd.func31, Tryd.ntmps31
  go_wp2_with (refine wpList_load_mid rfl 65 (.global 0) rfl 0 0 rfl V _ HR.out Tryd.underlying65 rfl HI.out ?_)
  go_loopw [6] (fun s6 wr => ∃ i : Nat, i ≤ 25 ∧ s6 = .int .i64 (i : Int) ∧ w = wr ∧ Hid (∀ j, j < i → (opAt j).isPrefixOf s.data.toList = false)) (fun s6 _ => 25 - (RowKit.intOf s6).toNat)
  case atStart => exact ⟨0, by omega, rfl, rfl, Lib.hid (fun j hj => by omega)⟩
  case round =>
    obtain ⟨i, hi, rfl, rfl, HJ⟩ := hrel
    by_cases h25 : i = 25
    · subst h25
      have HF := Lib.hid (find_no HJ.out)
      go_wp2_with fail
      go_ret
      exact ⟨by rw [HF.out]; rfl, rfl⟩
    · have hlt : i < 25 := by omega
      have hiI : (i : Int) < 25 := by omega
      have hi0 : (0 : Int) ≤ (i : Int) := by omega
      have ixi := IX.out i hlt
      have HPi := Lib.hid (fun w => HP.out ⟨(opAt i).toArray⟩ w)
      rw [show (⟨(opAt i).toArray⟩ : ByteArray).data.toList = opAt i from rfl] at HPi
      cases hp : (opAt i).isPrefixOf s.data.toList
      · have HJ1 := Lib.hid (show ∀ j, j < i + 1 → (opAt j).isPrefixOf s.data.toList = false from fun j hj => by
          by_cases e : j = i
          · subst e
            exact hp
          · exact HJ.out j (by omega))
        rw [show hasPrefix s.data.toList (opAt i) = false from hp] at HPi
        generalize (⟨(opAt i).toArray⟩ : ByteArray) = oa at *
        clear hp h25 hlt
        go_wp2_with fail
        go_fit (HPi.out _)
        rintro e w1 ⟨rfl, rfl⟩
        go_wp2_with fail
        exact ⟨⟨i + 1, by omega, by go_num, by trivial, HJ1⟩, by simp [RowKit.intOf]; omega⟩
      · have HF := Lib.hid (show (⟨(opsF s.data.toList).toArray⟩ : ByteArray) = ⟨(opAt i).toArray⟩ by rw [find_at i hlt HJ.out hp])
        rw [show hasPrefix s.data.toList (opAt i) = true from hp] at HPi
        generalize (⟨(opAt i).toArray⟩ : ByteArray) = oa at *
        clear hp h25 hlt
        go_wp2_with fail
        go_fit (HPi.out _)
        rintro e w1 ⟨rfl, rfl⟩
        go_wp2_with fail
        go_ret
        exact ⟨by rw [HF.out]; rfl, rfl⟩
end Go.Proofs.YtoliiiijbdoliaaDoor
