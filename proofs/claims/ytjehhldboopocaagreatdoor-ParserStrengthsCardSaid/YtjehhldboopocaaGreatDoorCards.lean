/-
  DERIVED. GIVEN WITH THE SEED: THE CARDS: each row of YtjehhldboopocaaGreatDoorRows.lean that lists a variable, with what it lists TIED to the program's text (the seventh form; the later family's looks); each row that meets fmt, with fmt's text TOLD by the authors' own Lean function (tested against real Go, not proved from fmt's source: count such statements apart). THE CARD IS WHAT COUNTS. Prove the row's statement (the work); the ties are given (YtjehhldboopocaaGreatDoorTie.lean); close each card by the builder's one call (the guide's Derived/Test/ToyasCard.lean, 'card_holds'). Laid BY PROGRAM, IN A SANDBOX (cutbox-door.mjs). By AI agents, Wed Nov 11 2026. No macro, syntax, notation, axiom, sorry.
-/
import Derived.Test.YtjehhldboopocaaGreatDoorRows
import GoSem.ClaimSeven
namespace Go.Proofs.YtjehhldboopocaaGreatDoor
namespace Rows

/-- THE TIED CARD OF 'pipelinelaw10.ParserParses'. -/
def parserParsesCard : Claim7 := { stood := { row := parserParsesRow, standIns := [], harness := (true, "83ff7926ad9dbcdc90d5c71ee2892f9842ce4a85c4f484d9a0d993e8eb43a63b"), looks := true }, kinds := [], alts := [], laidByText := true, laidKinds := [.data, .data, .data, .data, .sentinel, .sentinel, .data, .pinned], laidTests := true, laidLooks := .later }
def ParserParsesCardSaid : Prop := Claim7.holds Tryz.pinned (.plain (OpenSpec.ofChange parserParsesSpec)) parserParsesCard

/-- THE TIED CARD OF 'pipelinelaw10.ParserTakes'. -/
def parserTakesCard : Claim7 := { stood := { row := parserTakesRow, standIns := [], harness := (true, "83ff7926ad9dbcdc90d5c71ee2892f9842ce4a85c4f484d9a0d993e8eb43a63b"), looks := true }, kinds := [], alts := [], laidByText := true, laidKinds := [.data, .data, .data, .data, .sentinel, .sentinel, .data, .pinned], laidTests := true, laidLooks := .later }
def ParserTakesCardSaid : Prop := Claim7.holds Tryz.pinned (.plain (OpenSpec.ofChange parserTakesSpec)) parserTakesCard

/-- THE TIED CARD OF 'pipelinelaw10.ParserShows'. -/
def parserShowsCard : Claim7 := { stood := { row := parserShowsRow, standIns := [], harness := (true, "83ff7926ad9dbcdc90d5c71ee2892f9842ce4a85c4f484d9a0d993e8eb43a63b"), looks := true }, kinds := [], alts := [], laidByText := true, laidKinds := [.data, .data, .data, .data, .sentinel, .sentinel, .data, .pinned], laidTests := true, laidLooks := .later }
def ParserShowsCardSaid : Prop := Claim7.holds Tryz.pinned (.plain (OpenSpec.ofChange parserShowsSpec)) parserShowsCard

/-- THE TIED CARD OF 'pipelinelaw10.ParserBack'. -/
def parserBackCard : Claim7 := { stood := { row := parserBackRow, standIns := [], harness := (true, "83ff7926ad9dbcdc90d5c71ee2892f9842ce4a85c4f484d9a0d993e8eb43a63b"), looks := true }, kinds := [], alts := [], laidByText := true, laidKinds := [.data, .data, .data, .data, .sentinel, .sentinel, .data, .pinned], laidTests := true, laidLooks := .later }
def ParserBackCardSaid : Prop := Claim7.holds Tryz.pinned (.plain (OpenSpec.ofChange parserBackSpec)) parserBackCard

/-- THE TIED CARD OF 'pipelinelaw10.ParserEnclosed'. -/
def parserEnclosedCard : Claim7 := { stood := { row := parserEnclosedRow, standIns := [], harness := (true, "83ff7926ad9dbcdc90d5c71ee2892f9842ce4a85c4f484d9a0d993e8eb43a63b"), looks := true }, kinds := [], alts := [], laidByText := true, laidKinds := [.data, .data, .data, .data, .sentinel, .sentinel, .data, .pinned], laidTests := true, laidLooks := .later }
def ParserEnclosedCardSaid : Prop := Claim7.holds Tryz.pinned (.plain (OpenSpec.ofChange parserEnclosedSpec)) parserEnclosedCard

/-- THE TIED CARD OF 'pipelinelaw10.ParserStrengths'. -/
def parserStrengthsCard : Claim7 := { stood := { row := parserStrengthsRow, standIns := [], harness := (true, "83ff7926ad9dbcdc90d5c71ee2892f9842ce4a85c4f484d9a0d993e8eb43a63b"), looks := true }, kinds := [], alts := [], laidByText := true, laidKinds := [.data, .data, .data, .data, .sentinel, .sentinel, .data, .pinned], laidTests := true, laidLooks := .later }
def ParserStrengthsCardSaid : Prop := Claim7.holds Tryz.pinned (.plain (OpenSpec.ofChange parserStrengthsSpec)) parserStrengthsCard

/-- THE TIED CARD OF 'pipelinelaw10.ParserRests'. -/
def parserRestsCard : Claim7 := { stood := { row := parserRestsRow, standIns := [], harness := (true, "83ff7926ad9dbcdc90d5c71ee2892f9842ce4a85c4f484d9a0d993e8eb43a63b"), looks := true }, kinds := [], alts := [], laidByText := true, laidKinds := [.data, .data, .data, .data, .sentinel, .sentinel, .data, .pinned], laidTests := true, laidLooks := .later }
def ParserRestsCardSaid : Prop := Claim7.holds Tryz.pinned (.plain (OpenSpec.ofChange parserRestsSpec)) parserRestsCard

/-- THE SECOND FORM's CARD OF 'pipelinelaw10.ParserParses'. -/
def parserParsesUptoCard : Claim7 := { stood := { row := parserParsesUptoRow, standIns := [], harness := (true, "83ff7926ad9dbcdc90d5c71ee2892f9842ce4a85c4f484d9a0d993e8eb43a63b"), looks := true }, kinds := [], alts := [], laidByText := true, laidKinds := [.data, .data, .data, .data, .sentinel, .sentinel, .data, .pinned], laidTests := true, laidLooks := .later }
def ParserParsesUptoCardSaid : Prop := Claim7.holds Tryz.pinned (.plain (OpenSpec.upto parserParsesSpec)) parserParsesUptoCard

/-- THE SECOND FORM's CARD OF 'pipelinelaw10.ParserTakes'. -/
def parserTakesUptoCard : Claim7 := { stood := { row := parserTakesUptoRow, standIns := [], harness := (true, "83ff7926ad9dbcdc90d5c71ee2892f9842ce4a85c4f484d9a0d993e8eb43a63b"), looks := true }, kinds := [], alts := [], laidByText := true, laidKinds := [.data, .data, .data, .data, .sentinel, .sentinel, .data, .pinned], laidTests := true, laidLooks := .later }
def ParserTakesUptoCardSaid : Prop := Claim7.holds Tryz.pinned (.plain (OpenSpec.upto parserTakesSpec)) parserTakesUptoCard

/-- THE SECOND FORM's CARD OF 'pipelinelaw10.ParserShows'. -/
def parserShowsUptoCard : Claim7 := { stood := { row := parserShowsUptoRow, standIns := [], harness := (true, "83ff7926ad9dbcdc90d5c71ee2892f9842ce4a85c4f484d9a0d993e8eb43a63b"), looks := true }, kinds := [], alts := [], laidByText := true, laidKinds := [.data, .data, .data, .data, .sentinel, .sentinel, .data, .pinned], laidTests := true, laidLooks := .later }
def ParserShowsUptoCardSaid : Prop := Claim7.holds Tryz.pinned (.plain (OpenSpec.upto parserShowsSpec)) parserShowsUptoCard

/-- THE SECOND FORM's CARD OF 'pipelinelaw10.ParserBack'. -/
def parserBackUptoCard : Claim7 := { stood := { row := parserBackUptoRow, standIns := [], harness := (true, "83ff7926ad9dbcdc90d5c71ee2892f9842ce4a85c4f484d9a0d993e8eb43a63b"), looks := true }, kinds := [], alts := [], laidByText := true, laidKinds := [.data, .data, .data, .data, .sentinel, .sentinel, .data, .pinned], laidTests := true, laidLooks := .later }
def ParserBackUptoCardSaid : Prop := Claim7.holds Tryz.pinned (.plain (OpenSpec.upto parserBackSpec)) parserBackUptoCard

/-- THE SECOND FORM's CARD OF 'pipelinelaw10.ParserEnclosed'. -/
def parserEnclosedUptoCard : Claim7 := { stood := { row := parserEnclosedUptoRow, standIns := [], harness := (true, "83ff7926ad9dbcdc90d5c71ee2892f9842ce4a85c4f484d9a0d993e8eb43a63b"), looks := true }, kinds := [], alts := [], laidByText := true, laidKinds := [.data, .data, .data, .data, .sentinel, .sentinel, .data, .pinned], laidTests := true, laidLooks := .later }
def ParserEnclosedUptoCardSaid : Prop := Claim7.holds Tryz.pinned (.plain (OpenSpec.upto parserEnclosedSpec)) parserEnclosedUptoCard

/-- THE SECOND FORM's CARD OF 'pipelinelaw10.ParserStrengths'. -/
def parserStrengthsUptoCard : Claim7 := { stood := { row := parserStrengthsUptoRow, standIns := [], harness := (true, "83ff7926ad9dbcdc90d5c71ee2892f9842ce4a85c4f484d9a0d993e8eb43a63b"), looks := true }, kinds := [], alts := [], laidByText := true, laidKinds := [.data, .data, .data, .data, .sentinel, .sentinel, .data, .pinned], laidTests := true, laidLooks := .later }
def ParserStrengthsUptoCardSaid : Prop := Claim7.holds Tryz.pinned (.plain (OpenSpec.upto parserStrengthsSpec)) parserStrengthsUptoCard

/-- THE SECOND FORM's CARD OF 'pipelinelaw10.ParserRests'. -/
def parserRestsUptoCard : Claim7 := { stood := { row := parserRestsUptoRow, standIns := [], harness := (true, "83ff7926ad9dbcdc90d5c71ee2892f9842ce4a85c4f484d9a0d993e8eb43a63b"), looks := true }, kinds := [], alts := [], laidByText := true, laidKinds := [.data, .data, .data, .data, .sentinel, .sentinel, .data, .pinned], laidTests := true, laidLooks := .later }
def ParserRestsUptoCardSaid : Prop := Claim7.holds Tryz.pinned (.plain (OpenSpec.upto parserRestsSpec)) parserRestsUptoCard
end Rows
end Go.Proofs.YtjehhldboopocaaGreatDoor
