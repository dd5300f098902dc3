/- The walk of the law: Of two operators the stronger one, or of two equally strong ones the first, binds its operands; two comparisons in a row are a syntax error. -/
import Derived.Test.YtjehhldboopocaaGreatDoorPk40
import Derived.Test.YtjehhldboopocaaGreatDoorPmSa
import Derived.Test.YtjehhldboopocaaGreatDoorPmSb
import Derived.Test.YtjehhldboopocaaGreatDoorPmSc
import Derived.ProofKit
import Derived.OpenShut
import Derived.LaidMore
import Derived.Stop.Joined
import Derived.SevenTiedAt
import Derived.SizedLaws
namespace Go.Proofs.YtjehhldboopocaaGreatDoor.parserStrengths
open Go.ChangeShapes Go.WideShapes Go.ChangeAt Go.RowKit Go.Proofs.YtjehhldboopocaaGreatDoor.Lx
set_option linter.unusedVariables false
theorem own : ownKnob Tryz.prog.godebug = none := by kernel_rfl
theorem laidOut : laidOutB Tryz.prog = true := by kernel_rfl

theorem walk (i0 j0 : Int) (u : Bool) (hi : (Lit.int .u8 i0).wf = true) (hj : (Lit.int .u8 j0).wf = true) (w : World) (hT : TabX w) :
    Calls Tryz.prog 8 #[.int .u8 i0, .int .u8 j0, .bool u] w fun e w' => e = .returned (.bool true) ∧ Below w.heap.size w w' := by
  have hib : 0 ≤ i0 ∧ i0 ≤ 255 := by simpa [Lit.wf, IntKind.signed, IntKind.min, IntKind.max, IntKind.bits] using hi
  have hjb : 0 ≤ j0 ∧ j0 ≤ 255 := by simpa [Lit.wf, IntKind.signed, IntKind.min, IntKind.max, IntKind.bits] using hj
  obtain ⟨a, ha, hra⟩ : ∃ a : Nat, a < 13 ∧ i0.tmod 13 = (a : Int) := ⟨(i0 % 13).toNat, by omega, by rw [Int.tmod_eq_emod_of_nonneg hib.1]; omega⟩
  obtain ⟨b, hb, hrb⟩ : ∃ b : Nat, b < 13 ∧ j0.tmod 13 = (b : Int) := ⟨(j0 % 13).toNat, by omega, by rw [Int.tmod_eq_emod_of_nonneg hjb.1]; omega⟩
  by_cases h4 : strB (opsL.getD a []) = 4 ∧ strB (opsL.getD b []) = 4
  · exact walkA i0 j0 u hib hjb a b ha hb hra hrb h4 w hT
  · by_cases hle : strB (opsL.getD b []) ≤ strB (opsL.getD a [])
    · exact walkB i0 j0 u hib hjb a b ha hb hra hrb ⟨h4, hle⟩ w hT
    · exact walkC i0 j0 u hib hjb a b ha hb hra hrb ⟨h4, hle⟩ w hT

end Go.Proofs.YtjehhldboopocaaGreatDoor.parserStrengths
