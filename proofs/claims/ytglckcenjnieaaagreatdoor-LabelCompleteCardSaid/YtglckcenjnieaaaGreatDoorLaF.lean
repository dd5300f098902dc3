/- The contract of the program's parseNeed (label). -/
import Derived.Test.YtglckcenjnieaaaGreatDoorLaD
import Derived.Test.YtglckcenjnieaaaGreatDoorLaE
namespace Go.Proofs.YtglckcenjnieaaaGreatDoor
open Go.RowKit Go.Lib

def numF (a b : List UInt8) (lo hi : Bool) : Option (List UInt8 × Int × Int) :=
  match numL b with
  | some n => if nameB a = true then some (a, if lo then 0 else (n : Int), if hi then 9007199254740992 else (n : Int)) else none
  | none => none
def needC (l : List UInt8) (c1 c2 c3 : List UInt8 × List UInt8 × Bool) : Option (List UInt8 × Int × Int) :=
  if c1.2.2 = true then numF c1.1 c1.2.1 false true
  else if c2.2.2 = true then numF c2.1 c2.2.1 true false
  else if c3.2.2 = true then numF c3.1 c3.2.1 false false
  else if nameB l = true then some (l, -1, 9007199254740992) else none
/-- A requirement's name and the states that it permits, if it is one. -/
def needP (l : List UInt8) : Option (List UInt8 × Int × Int) :=
  if Lib.hasPrefix l [33] = true then (if nameB (l.drop 1) = true then some (l.drop 1, -2, -2) else none)
  else needC l (Lib.cut l [62, 61]) (Lib.cut l [60, 61]) (Lib.cut l [61])
def NeedR (o : Option (List UInt8 × Int × Int)) (x : ByteArray) (lo hi : Int) (ok : Bool) : Prop :=
  match o with
  | none => ok = false
  | some (a, b, c) => ok = true ∧ x = ⟨a.toArray⟩ ∧ lo = b ∧ hi = c
def NeedPost (s : ByteArray) (w : World) (e : Ending) (w' : World) : Prop :=
  ∃ (x : ByteArray) (lo hi : Int) (ok : Bool), e = .returned (.tuple #[.string x, .agg #[.int .i64 lo, .int .i64 hi], .bool ok]) ∧ NeedR (needP s.data.toList) x lo hi ok ∧ Below w.heap.size w w'
theorem comp_cells {w : World} (h : TabK w) : w.cell? ⟨0, 0, none⟩ = some (.string ⟨#[62, 61]⟩) ∧ w.cell? ⟨0, 1, none⟩ = some (.bool false) ∧ w.cell? ⟨0, 2, none⟩ = some (.bool true) ∧
    w.cell? ⟨0, 3, none⟩ = some (.string ⟨#[60, 61]⟩) ∧ w.cell? ⟨0, 4, none⟩ = some (.bool true) ∧ w.cell? ⟨0, 5, none⟩ = some (.bool false) ∧
    w.cell? ⟨0, 6, none⟩ = some (.string ⟨#[61]⟩) ∧ w.cell? ⟨0, 7, none⟩ = some (.bool false) ∧ w.cell? ⟨0, 8, none⟩ = some (.bool false) := by
  have hg : Tryz.prog.globalNamed "pipeline/label.comparisons" = some 0 := by kernel_rfl
  have h0 := fun k => World.var?_cell hg h.2.2 k
  exact ⟨h0 0, h0 1, h0 2, h0 3, h0 4, h0 5, h0 6, h0 7, h0 8⟩
theorem comp_ix (w : World) :
    (Instr.index 74 (.agg #[.string ⟨#[62, 61]⟩, .bool false, .bool true, .string ⟨#[60, 61]⟩, .bool true, .bool false, .string ⟨#[61]⟩, .bool false, .bool false]) (.int .i64 0)).run Tryz.prog w = .ok (.agg #[.string ⟨#[62, 61]⟩, .bool false, .bool true]) w ∧
    (Instr.index 74 (.agg #[.string ⟨#[62, 61]⟩, .bool false, .bool true, .string ⟨#[60, 61]⟩, .bool true, .bool false, .string ⟨#[61]⟩, .bool false, .bool false]) (.int .i64 1)).run Tryz.prog w = .ok (.agg #[.string ⟨#[60, 61]⟩, .bool true, .bool false]) w ∧
    (Instr.index 74 (.agg #[.string ⟨#[62, 61]⟩, .bool false, .bool true, .string ⟨#[60, 61]⟩, .bool true, .bool false, .string ⟨#[61]⟩, .bool false, .bool false]) (.int .i64 2)).run Tryz.prog w = .ok (.agg #[.string ⟨#[61]⟩, .bool false, .bool false]) w := ⟨by kernel_rfl, by kernel_rfl, by kernel_rfl⟩
end Go.Proofs.YtglckcenjnieaaaGreatDoor
