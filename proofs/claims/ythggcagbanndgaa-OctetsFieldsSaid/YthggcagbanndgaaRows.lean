/-
  NARROWER THAN 'FOR EVERY INPUT', by the rows' own cells (each row's printed sentence says how): OctetsRecords: loops.
  DERIVED. THE GIVEN ROWS OF THIS SEAT. 12 by the template 'for every input the law returns true; each argument reads behind the call as it read before'; 0 by the template 'total and deterministic' (their statements: YthggcagbanndgaaTotals.lean).
  GIVEN WITH THE SEED: the statements are not yours to turn. If you find one false, say at which input.
  Laid BY PROGRAM, IN A SANDBOX (cutbox-rows.mjs): the forced cells as the released guide's own fill.sh prints them over the translation 221ca3bb5d7f62de… (all of the seat's roots in one cut). By AI agents, Wed Nov 11 2026. No macro, syntax, notation, axiom, sorry.
-/
import Derived.Test.YthggcagbanndgaaChecked
import GoSem.Claim
import GoSem.ClaimJoined
import GoSem.ClaimMapViews
import Derived.JoinedTies
import Derived.KernelRfl
namespace Go.Proofs.Ythggcagbanndgaa
/- THE CELL 'sum', in the pinned program and in every row, IS THE sha256 OF THE DUMP (.gsa) THAT YthggcagbanndgaaProg.lean LOADS. Nothing in Lean hashes anything: it is a label: what it is worth is what the hold of that sum in a sandbox is worth. -/
noncomputable def Try.pinned : Pinned := { name := "ythggcagbanndgaa", sum := "221ca3bb5d7f62de3dfa1375eed2991a8fab8074b899d029ef750935e3aa9984", checked := Try.checked }
namespace Rows
def none {H : Type} : Left H := { results := [], args := [] }

/-- 'pipelinelaw01.NumSums': WHATEVER THE INPUT: true; the input reads as it did. -/
def numSumsSpec : ChangeSpec := { name := "numSums", fn := fun _ => fun
  | [d1, d2] => { results := [.lit (.bool true)], args := [d1, d2] }
  | _ => none }
def numSumsRow : OpenClaim := { program := "ythggcagbanndgaa", sum := "221ca3bb5d7f62de3dfa1375eed2991a8fab8074b899d029ef750935e3aa9984", func := "pipeline/pipelinelaw01.NumSums", spec := "numSums", inPlace := ["math/bits.Sub64"], named := ["math/bits.divideError", "math/bits.overflowError"], apart := false }
def NumSumsSaid : Prop := numSumsRow.holds Try.pinned (OpenSpec.ofChange numSumsSpec)

/-- ITS FALSE NEIGHBOUR: 'it returns false'. Refute it at one input. -/
def numSumsWrong : ChangeSpec := { name := "numSums", fn := fun _ => fun
  | [d1, d2] => { results := [.lit (.bool false)], args := [d1, d2] }
  | _ => none }
def NumSumsWrongFalsely : Prop := numSumsRow.holds Try.pinned (OpenSpec.ofChange numSumsWrong)

/-- 'pipelinelaw01.NumLess': WHATEVER THE INPUT: true; the input reads as it did. -/
def numLessSpec : ChangeSpec := { name := "numLess", fn := fun _ => fun
  | [d] => { results := [.lit (.bool true)], args := [d] }
  | _ => none }
def numLessRow : OpenClaim := { program := "ythggcagbanndgaa", sum := "221ca3bb5d7f62de3dfa1375eed2991a8fab8074b899d029ef750935e3aa9984", func := "pipeline/pipelinelaw01.NumLess", spec := "numLess", inPlace := ["math/bits.Sub64"], named := ["math/bits.divideError", "math/bits.overflowError"], apart := false }
def NumLessSaid : Prop := numLessRow.holds Try.pinned (OpenSpec.ofChange numLessSpec)

/-- ITS FALSE NEIGHBOUR: 'it returns false'. Refute it at one input. -/
def numLessWrong : ChangeSpec := { name := "numLess", fn := fun _ => fun
  | [d] => { results := [.lit (.bool false)], args := [d] }
  | _ => none }
def NumLessWrongFalsely : Prop := numLessRow.holds Try.pinned (OpenSpec.ofChange numLessWrong)

/-- 'pipelinelaw01.NumOrder': WHATEVER THE INPUT: true; the input reads as it did. -/
def numOrderSpec : ChangeSpec := { name := "numOrder", fn := fun _ => fun
  | [d] => { results := [.lit (.bool true)], args := [d] }
  | _ => none }
def numOrderRow : OpenClaim := { program := "ythggcagbanndgaa", sum := "221ca3bb5d7f62de3dfa1375eed2991a8fab8074b899d029ef750935e3aa9984", func := "pipeline/pipelinelaw01.NumOrder", spec := "numOrder", inPlace := ["math/bits.Sub64"], named := ["math/bits.divideError", "math/bits.overflowError"], apart := false }
def NumOrderSaid : Prop := numOrderRow.holds Try.pinned (OpenSpec.ofChange numOrderSpec)

/-- ITS FALSE NEIGHBOUR: 'it returns false'. Refute it at one input. -/
def numOrderWrong : ChangeSpec := { name := "numOrder", fn := fun _ => fun
  | [d] => { results := [.lit (.bool false)], args := [d] }
  | _ => none }
def NumOrderWrongFalsely : Prop := numOrderRow.holds Try.pinned (OpenSpec.ofChange numOrderWrong)

/-- 'pipelinelaw01.NumScale': WHATEVER THE INPUT: true; the input reads as it did. -/
def numScaleSpec : ChangeSpec := { name := "numScale", fn := fun _ => fun
  | [d1, d2, d3] => { results := [.lit (.bool true)], args := [d1, d2, d3] }
  | _ => none }
def numScaleRow : OpenClaim := { program := "ythggcagbanndgaa", sum := "221ca3bb5d7f62de3dfa1375eed2991a8fab8074b899d029ef750935e3aa9984", func := "pipeline/pipelinelaw01.NumScale", spec := "numScale", inPlace := ["math/bits.Sub64"], named := ["math/bits.divideError", "math/bits.overflowError"], apart := false }
def NumScaleSaid : Prop := numScaleRow.holds Try.pinned (OpenSpec.ofChange numScaleSpec)

/-- ITS FALSE NEIGHBOUR: 'it returns false'. Refute it at one input. -/
def numScaleWrong : ChangeSpec := { name := "numScale", fn := fun _ => fun
  | [d1, d2, d3] => { results := [.lit (.bool false)], args := [d1, d2, d3] }
  | _ => none }
def NumScaleWrongFalsely : Prop := numScaleRow.holds Try.pinned (OpenSpec.ofChange numScaleWrong)

/-- 'pipelinelaw01.NumFloor': WHATEVER THE INPUT: true; the input reads as it did. -/
def numFloorSpec : ChangeSpec := { name := "numFloor", fn := fun _ => fun
  | [d1, d2, d3] => { results := [.lit (.bool true)], args := [d1, d2, d3] }
  | _ => none }
def numFloorRow : OpenClaim := { program := "ythggcagbanndgaa", sum := "221ca3bb5d7f62de3dfa1375eed2991a8fab8074b899d029ef750935e3aa9984", func := "pipeline/pipelinelaw01.NumFloor", spec := "numFloor", inPlace := ["math/bits.Sub64"], named := ["math/bits.divideError", "math/bits.overflowError"], apart := false }
def NumFloorSaid : Prop := numFloorRow.holds Try.pinned (OpenSpec.ofChange numFloorSpec)

/-- ITS FALSE NEIGHBOUR: 'it returns false'. Refute it at one input. -/
def numFloorWrong : ChangeSpec := { name := "numFloor", fn := fun _ => fun
  | [d1, d2, d3] => { results := [.lit (.bool false)], args := [d1, d2, d3] }
  | _ => none }
def NumFloorWrongFalsely : Prop := numFloorRow.holds Try.pinned (OpenSpec.ofChange numFloorWrong)

/-- 'pipelinelaw01.NumLimits': WHATEVER THE INPUT: true; the input reads as it did. -/
def numLimitsSpec : ChangeSpec := { name := "numLimits", fn := fun _ => fun
  | [d1, d2, d3] => { results := [.lit (.bool true)], args := [d1, d2, d3] }
  | _ => none }
def numLimitsRow : OpenClaim := { program := "ythggcagbanndgaa", sum := "221ca3bb5d7f62de3dfa1375eed2991a8fab8074b899d029ef750935e3aa9984", func := "pipeline/pipelinelaw01.NumLimits", spec := "numLimits", inPlace := ["math/bits.Sub64"], named := ["math/bits.divideError", "math/bits.overflowError"], apart := false }
def NumLimitsSaid : Prop := numLimitsRow.holds Try.pinned (OpenSpec.ofChange numLimitsSpec)

/-- ITS FALSE NEIGHBOUR: 'it returns false'. Refute it at one input. -/
def numLimitsWrong : ChangeSpec := { name := "numLimits", fn := fun _ => fun
  | [d1, d2, d3] => { results := [.lit (.bool false)], args := [d1, d2, d3] }
  | _ => none }
def NumLimitsWrongFalsely : Prop := numLimitsRow.holds Try.pinned (OpenSpec.ofChange numLimitsWrong)

/-- 'pipelinelaw01.NumDivides': WHATEVER THE INPUT: true; the input reads as it did. -/
def numDividesSpec : ChangeSpec := { name := "numDivides", fn := fun _ => fun
  | [d1, d2, d3] => { results := [.lit (.bool true)], args := [d1, d2, d3] }
  | _ => none }
def numDividesRow : OpenClaim := { program := "ythggcagbanndgaa", sum := "221ca3bb5d7f62de3dfa1375eed2991a8fab8074b899d029ef750935e3aa9984", func := "pipeline/pipelinelaw01.NumDivides", spec := "numDivides", inPlace := ["math/bits.Sub64"], named := ["math/bits.divideError", "math/bits.overflowError"], apart := false }
def NumDividesSaid : Prop := numDividesRow.holds Try.pinned (OpenSpec.ofChange numDividesSpec)

/-- ITS FALSE NEIGHBOUR: 'it returns false'. Refute it at one input. -/
def numDividesWrong : ChangeSpec := { name := "numDivides", fn := fun _ => fun
  | [d1, d2, d3] => { results := [.lit (.bool false)], args := [d1, d2, d3] }
  | _ => none }
def NumDividesWrongFalsely : Prop := numDividesRow.holds Try.pinned (OpenSpec.ofChange numDividesWrong)

/-- 'pipelinelaw02.OctetsNumbers': WHATEVER THE INPUT: true; the input reads as it did. -/
def octetsNumbersSpec : ChangeSpec := { name := "octetsNumbers", fn := fun _ => fun
  | [d1, d2, d3] => { results := [.lit (.bool true)], args := [d1, d2, d3] }
  | _ => none }
def octetsNumbersRow : OpenClaim := { program := "ythggcagbanndgaa", sum := "221ca3bb5d7f62de3dfa1375eed2991a8fab8074b899d029ef750935e3aa9984", func := "pipeline/pipelinelaw02.OctetsNumbers", spec := "octetsNumbers", recurses := true, apart := false }
def OctetsNumbersSaid : Prop := octetsNumbersRow.holds Try.pinned (OpenSpec.ofChange octetsNumbersSpec)

/-- ITS FALSE NEIGHBOUR: 'it returns false'. Refute it at one input. -/
def octetsNumbersWrong : ChangeSpec := { name := "octetsNumbers", fn := fun _ => fun
  | [d1, d2, d3] => { results := [.lit (.bool false)], args := [d1, d2, d3] }
  | _ => none }
def OctetsNumbersWrongFalsely : Prop := octetsNumbersRow.holds Try.pinned (OpenSpec.ofChange octetsNumbersWrong)

/-- 'pipelinelaw02.OctetsTakes': WHATEVER THE INPUT: true; the input reads as it did. -/
def octetsTakesSpec : ChangeSpec := { name := "octetsTakes", fn := fun _ => fun
  | [d] => { results := [.lit (.bool true)], args := [d] }
  | _ => none }
def octetsTakesRow : OpenClaim := { program := "ythggcagbanndgaa", sum := "221ca3bb5d7f62de3dfa1375eed2991a8fab8074b899d029ef750935e3aa9984", func := "pipeline/pipelinelaw02.OctetsTakes", spec := "octetsTakes", recurses := true, apart := false }
def OctetsTakesSaid : Prop := octetsTakesRow.holds Try.pinned (OpenSpec.ofChange octetsTakesSpec)

/-- ITS FALSE NEIGHBOUR: 'it returns false'. Refute it at one input. -/
def octetsTakesWrong : ChangeSpec := { name := "octetsTakes", fn := fun _ => fun
  | [d] => { results := [.lit (.bool false)], args := [d] }
  | _ => none }
def OctetsTakesWrongFalsely : Prop := octetsTakesRow.holds Try.pinned (OpenSpec.ofChange octetsTakesWrong)

/-- 'pipelinelaw02.OctetsStrings': WHATEVER THE INPUT: true; the input reads as it did. -/
def octetsStringsSpec : ChangeSpec := { name := "octetsStrings", fn := fun _ => fun
  | [d] => { results := [.lit (.bool true)], args := [d] }
  | _ => none }
def octetsStringsRow : OpenClaim := { program := "ythggcagbanndgaa", sum := "221ca3bb5d7f62de3dfa1375eed2991a8fab8074b899d029ef750935e3aa9984", func := "pipeline/pipelinelaw02.OctetsStrings", spec := "octetsStrings", recurses := true, apart := false }
def OctetsStringsSaid : Prop := octetsStringsRow.holds Try.pinned (OpenSpec.ofChange octetsStringsSpec)

/-- ITS FALSE NEIGHBOUR: 'it returns false'. Refute it at one input. -/
def octetsStringsWrong : ChangeSpec := { name := "octetsStrings", fn := fun _ => fun
  | [d] => { results := [.lit (.bool false)], args := [d] }
  | _ => none }
def OctetsStringsWrongFalsely : Prop := octetsStringsRow.holds Try.pinned (OpenSpec.ofChange octetsStringsWrong)

/-- 'pipelinelaw02.OctetsRecords': WHATEVER THE INPUT: true; the input reads as it did. -/
def octetsRecordsSpec : ChangeSpec := { name := "octetsRecords", fn := fun _ => fun
  | [d] => { results := [.lit (.bool true)], args := [d] }
  | _ => none }
def octetsRecordsRow : OpenClaim := { program := "ythggcagbanndgaa", sum := "221ca3bb5d7f62de3dfa1375eed2991a8fab8074b899d029ef750935e3aa9984", func := "pipeline/pipelinelaw02.OctetsRecords", spec := "octetsRecords", recurses := true, loops := true, apart := false }
def OctetsRecordsSaid : Prop := octetsRecordsRow.holds Try.pinned (OpenSpec.ofChange octetsRecordsSpec)

/-- ITS FALSE NEIGHBOUR: 'it returns false'. Refute it at one input. -/
def octetsRecordsWrong : ChangeSpec := { name := "octetsRecords", fn := fun _ => fun
  | [d] => { results := [.lit (.bool false)], args := [d] }
  | _ => none }
def OctetsRecordsWrongFalsely : Prop := octetsRecordsRow.holds Try.pinned (OpenSpec.ofChange octetsRecordsWrong)

/-- 'pipelinelaw02.OctetsFields': WHATEVER THE INPUT: true; the input reads as it did. -/
def octetsFieldsSpec : ChangeSpec := { name := "octetsFields", fn := fun _ => fun
  | [d] => { results := [.lit (.bool true)], args := [d] }
  | _ => none }
def octetsFieldsRow : OpenClaim := { program := "ythggcagbanndgaa", sum := "221ca3bb5d7f62de3dfa1375eed2991a8fab8074b899d029ef750935e3aa9984", func := "pipeline/pipelinelaw02.OctetsFields", spec := "octetsFields", recurses := true, apart := false }
def OctetsFieldsSaid : Prop := octetsFieldsRow.holds Try.pinned (OpenSpec.ofChange octetsFieldsSpec)

/-- ITS FALSE NEIGHBOUR: 'it returns false'. Refute it at one input. -/
def octetsFieldsWrong : ChangeSpec := { name := "octetsFields", fn := fun _ => fun
  | [d] => { results := [.lit (.bool false)], args := [d] }
  | _ => none }
def OctetsFieldsWrongFalsely : Prop := octetsFieldsRow.holds Try.pinned (OpenSpec.ofChange octetsFieldsWrong)

/- THE SECOND FORM. 'bulk': how many values and letters a reading holds, each counted each time it is reached (what is shared counts as often as it is met; a slice's spare places count too). A statement '..UptoSaid' is the law's where the arguments, and the package variables that the reading takes, are together of bulk at most 1048576: NARROWER than '..Said'. Prove '..Said' where nothing that the law and all that it calls make is longer than what came in: it says more and counts as full. Else prove '..UptoSaid'. A law counts once. -/
mutual
def uptoBulk {H : Type} : DataW H → Nat
  | .lit (.string bytes) => bytes.length + 1
  | .lit _ => 1
  | .nil => 1
  | .ptr d => uptoBulk d + 1
  | .slice elems spare => uptoBulkAll elems + uptoBulkAll spare + 1
  | .agg parts => uptoBulkAll parts + 1
  | .iface _ d => uptoBulk d + 1
  | .map entries => uptoBulkEntries entries + 1
  | .held _ => 1
def uptoBulkAll {H : Type} : List (DataW H) → Nat
  | [] => 0
  | d :: r => uptoBulk d + uptoBulkAll r
def uptoBulkEntries {H : Type} : List (Lit × DataW H) → Nat
  | [] => 0
  | x :: r => uptoBulkEntry x + uptoBulkEntries r
def uptoBulkEntry {H : Type} : Lit × DataW H → Nat
  | (.string bytes, d) => bytes.length + uptoBulk d + 1
  | (_, d) => uptoBulk d + 1
 end
def uptoSmall : (H : Type) → List (DataW H) → Bool := fun _ ds => decide (uptoBulkAll ds ≤ 1048576)
def OpenSpec.upto (s : _root_.Go.ChangeSpec) : _root_.Go.OpenSpec := { _root_.Go.OpenSpec.ofChange s with cond := some uptoSmall }

/-- 'pipelinelaw01.NumSums', WHERE WHAT IT READS IS OF BULK AT MOST 1048576: true; the input reads as it did. -/
def numSumsUptoRow : OpenClaim := { program := "ythggcagbanndgaa", sum := "221ca3bb5d7f62de3dfa1375eed2991a8fab8074b899d029ef750935e3aa9984", func := "pipeline/pipelinelaw01.NumSums", spec := "numSums", inPlace := ["math/bits.Sub64"], named := ["math/bits.divideError", "math/bits.overflowError"], apart := false, narrowed := true }
def NumSumsUptoSaid : Prop := numSumsUptoRow.holds Try.pinned (OpenSpec.upto numSumsSpec)

/-- 'pipelinelaw01.NumLess', WHERE WHAT IT READS IS OF BULK AT MOST 1048576: true; the input reads as it did. -/
def numLessUptoRow : OpenClaim := { program := "ythggcagbanndgaa", sum := "221ca3bb5d7f62de3dfa1375eed2991a8fab8074b899d029ef750935e3aa9984", func := "pipeline/pipelinelaw01.NumLess", spec := "numLess", inPlace := ["math/bits.Sub64"], named := ["math/bits.divideError", "math/bits.overflowError"], apart := false, narrowed := true }
def NumLessUptoSaid : Prop := numLessUptoRow.holds Try.pinned (OpenSpec.upto numLessSpec)

/-- 'pipelinelaw01.NumOrder', WHERE WHAT IT READS IS OF BULK AT MOST 1048576: true; the input reads as it did. -/
def numOrderUptoRow : OpenClaim := { program := "ythggcagbanndgaa", sum := "221ca3bb5d7f62de3dfa1375eed2991a8fab8074b899d029ef750935e3aa9984", func := "pipeline/pipelinelaw01.NumOrder", spec := "numOrder", inPlace := ["math/bits.Sub64"], named := ["math/bits.divideError", "math/bits.overflowError"], apart := false, narrowed := true }
def NumOrderUptoSaid : Prop := numOrderUptoRow.holds Try.pinned (OpenSpec.upto numOrderSpec)

/-- 'pipelinelaw01.NumScale', WHERE WHAT IT READS IS OF BULK AT MOST 1048576: true; the input reads as it did. -/
def numScaleUptoRow : OpenClaim := { program := "ythggcagbanndgaa", sum := "221ca3bb5d7f62de3dfa1375eed2991a8fab8074b899d029ef750935e3aa9984", func := "pipeline/pipelinelaw01.NumScale", spec := "numScale", inPlace := ["math/bits.Sub64"], named := ["math/bits.divideError", "math/bits.overflowError"], apart := false, narrowed := true }
def NumScaleUptoSaid : Prop := numScaleUptoRow.holds Try.pinned (OpenSpec.upto numScaleSpec)

/-- 'pipelinelaw01.NumFloor', WHERE WHAT IT READS IS OF BULK AT MOST 1048576: true; the input reads as it did. -/
def numFloorUptoRow : OpenClaim := { program := "ythggcagbanndgaa", sum := "221ca3bb5d7f62de3dfa1375eed2991a8fab8074b899d029ef750935e3aa9984", func := "pipeline/pipelinelaw01.NumFloor", spec := "numFloor", inPlace := ["math/bits.Sub64"], named := ["math/bits.divideError", "math/bits.overflowError"], apart := false, narrowed := true }
def NumFloorUptoSaid : Prop := numFloorUptoRow.holds Try.pinned (OpenSpec.upto numFloorSpec)

/-- 'pipelinelaw01.NumLimits', WHERE WHAT IT READS IS OF BULK AT MOST 1048576: true; the input reads as it did. -/
def numLimitsUptoRow : OpenClaim := { program := "ythggcagbanndgaa", sum := "221ca3bb5d7f62de3dfa1375eed2991a8fab8074b899d029ef750935e3aa9984", func := "pipeline/pipelinelaw01.NumLimits", spec := "numLimits", inPlace := ["math/bits.Sub64"], named := ["math/bits.divideError", "math/bits.overflowError"], apart := false, narrowed := true }
def NumLimitsUptoSaid : Prop := numLimitsUptoRow.holds Try.pinned (OpenSpec.upto numLimitsSpec)

/-- 'pipelinelaw01.NumDivides', WHERE WHAT IT READS IS OF BULK AT MOST 1048576: true; the input reads as it did. -/
def numDividesUptoRow : OpenClaim := { program := "ythggcagbanndgaa", sum := "221ca3bb5d7f62de3dfa1375eed2991a8fab8074b899d029ef750935e3aa9984", func := "pipeline/pipelinelaw01.NumDivides", spec := "numDivides", inPlace := ["math/bits.Sub64"], named := ["math/bits.divideError", "math/bits.overflowError"], apart := false, narrowed := true }
def NumDividesUptoSaid : Prop := numDividesUptoRow.holds Try.pinned (OpenSpec.upto numDividesSpec)

/-- 'pipelinelaw02.OctetsNumbers', WHERE WHAT IT READS IS OF BULK AT MOST 1048576: true; the input reads as it did. -/
def octetsNumbersUptoRow : OpenClaim := { program := "ythggcagbanndgaa", sum := "221ca3bb5d7f62de3dfa1375eed2991a8fab8074b899d029ef750935e3aa9984", func := "pipeline/pipelinelaw02.OctetsNumbers", spec := "octetsNumbers", recurses := true, apart := false, narrowed := true }
def OctetsNumbersUptoSaid : Prop := octetsNumbersUptoRow.holds Try.pinned (OpenSpec.upto octetsNumbersSpec)

/-- 'pipelinelaw02.OctetsTakes', WHERE WHAT IT READS IS OF BULK AT MOST 1048576: true; the input reads as it did. -/
def octetsTakesUptoRow : OpenClaim := { program := "ythggcagbanndgaa", sum := "221ca3bb5d7f62de3dfa1375eed2991a8fab8074b899d029ef750935e3aa9984", func := "pipeline/pipelinelaw02.OctetsTakes", spec := "octetsTakes", recurses := true, apart := false, narrowed := true }
def OctetsTakesUptoSaid : Prop := octetsTakesUptoRow.holds Try.pinned (OpenSpec.upto octetsTakesSpec)

/-- 'pipelinelaw02.OctetsStrings', WHERE WHAT IT READS IS OF BULK AT MOST 1048576: true; the input reads as it did. -/
def octetsStringsUptoRow : OpenClaim := { program := "ythggcagbanndgaa", sum := "221ca3bb5d7f62de3dfa1375eed2991a8fab8074b899d029ef750935e3aa9984", func := "pipeline/pipelinelaw02.OctetsStrings", spec := "octetsStrings", recurses := true, apart := false, narrowed := true }
def OctetsStringsUptoSaid : Prop := octetsStringsUptoRow.holds Try.pinned (OpenSpec.upto octetsStringsSpec)

/-- 'pipelinelaw02.OctetsRecords', WHERE WHAT IT READS IS OF BULK AT MOST 1048576: true; the input reads as it did. -/
def octetsRecordsUptoRow : OpenClaim := { program := "ythggcagbanndgaa", sum := "221ca3bb5d7f62de3dfa1375eed2991a8fab8074b899d029ef750935e3aa9984", func := "pipeline/pipelinelaw02.OctetsRecords", spec := "octetsRecords", recurses := true, loops := true, apart := false, narrowed := true }
def OctetsRecordsUptoSaid : Prop := octetsRecordsUptoRow.holds Try.pinned (OpenSpec.upto octetsRecordsSpec)

/-- 'pipelinelaw02.OctetsFields', WHERE WHAT IT READS IS OF BULK AT MOST 1048576: true; the input reads as it did. -/
def octetsFieldsUptoRow : OpenClaim := { program := "ythggcagbanndgaa", sum := "221ca3bb5d7f62de3dfa1375eed2991a8fab8074b899d029ef750935e3aa9984", func := "pipeline/pipelinelaw02.OctetsFields", spec := "octetsFields", recurses := true, apart := false, narrowed := true }
def OctetsFieldsUptoSaid : Prop := octetsFieldsUptoRow.holds Try.pinned (OpenSpec.upto octetsFieldsSpec)

end Rows
end Go.Proofs.Ythggcagbanndgaa
