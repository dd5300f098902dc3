/-
  DERIVED. GIVEN WITH THE SEED: THE CARDS: each row of YtoliiiijbdoliaaDoorRows.lean that lists a variable, with what it lists TIED to the program's text (the seventh form; the later family's looks); each row that meets fmt, with fmt's text TOLD by the authors' own Lean function (tested against real Go, not proved from fmt's source: count such statements apart). THE CARD IS WHAT COUNTS. Prove the row's statement (the work); the ties are given (YtoliiiijbdoliaaDoorTie.lean); close each card by the builder's one call (the guide's Derived/Test/ToyasCard.lean, 'card_holds'). Laid BY PROGRAM, IN A SANDBOX (cutbox-door.mjs). By AI agents, Wed Nov 11 2026. No macro, syntax, notation, axiom, sorry.
-/
import Derived.Test.YtoliiiijbdoliaaDoorRows
import GoSem.ClaimSeven
namespace Go.Proofs.YtoliiiijbdoliaaDoor
namespace Rows

/-- THE TIED CARD OF 'pipelinelaw09.LexerJoins'. -/
def lexerJoinsCard : Claim7 := { stood := { row := lexerJoinsRow, standIns := [], harness := (true, "b0386403c18b2e4dec6e28cbb69fe2df1b5336c9d98449c235c378ace37efc24"), looks := true }, kinds := [], alts := [], laidByText := true, laidKinds := [.data, .data, .data, .data, .sentinel, .sentinel, .data, .pinned], laidTests := true, laidLooks := .later }
def LexerJoinsCardSaid : Prop := Claim7.holds Tryd.pinned (.plain (OpenSpec.ofChange lexerJoinsSpec)) lexerJoinsCard

/-- THE TIED CARD OF 'pipelinelaw09.LexerBack'. -/
def lexerBackCard : Claim7 := { stood := { row := lexerBackRow, standIns := [], harness := (true, "b0386403c18b2e4dec6e28cbb69fe2df1b5336c9d98449c235c378ace37efc24"), looks := true }, kinds := [], alts := [], laidByText := true, laidKinds := [.data, .data, .data, .data, .sentinel, .sentinel, .data, .pinned], laidTests := true, laidLooks := .later }
def LexerBackCardSaid : Prop := Claim7.holds Tryd.pinned (.plain (OpenSpec.ofChange lexerBackSpec)) lexerBackCard

/-- THE TIED CARD OF 'pipelinelaw09.LexerStrings'. -/
def lexerStringsCard : Claim7 := { stood := { row := lexerStringsRow, standIns := [], harness := (true, "b0386403c18b2e4dec6e28cbb69fe2df1b5336c9d98449c235c378ace37efc24"), looks := true }, kinds := [], alts := [], laidByText := true, laidKinds := [.data, .data, .data, .data, .sentinel, .sentinel, .data, .pinned], laidTests := true, laidLooks := .later }
def LexerStringsCardSaid : Prop := Claim7.holds Tryd.pinned (.plain (OpenSpec.ofChange lexerStringsSpec)) lexerStringsCard

/-- THE TIED CARD OF 'pipelinelaw09.LexerEnds'. -/
def lexerEndsCard : Claim7 := { stood := { row := lexerEndsRow, standIns := [], harness := (true, "b0386403c18b2e4dec6e28cbb69fe2df1b5336c9d98449c235c378ace37efc24"), looks := true }, kinds := [], alts := [], laidByText := true, laidKinds := [.data, .data, .data, .data, .sentinel, .sentinel, .data, .pinned], laidTests := true, laidLooks := .later }
def LexerEndsCardSaid : Prop := Claim7.holds Tryd.pinned (.plain (OpenSpec.ofChange lexerEndsSpec)) lexerEndsCard

/-- THE TIED CARD OF 'pipelinelaw09.LexerLines'. -/
def lexerLinesCard : Claim7 := { stood := { row := lexerLinesRow, standIns := [], harness := (true, "b0386403c18b2e4dec6e28cbb69fe2df1b5336c9d98449c235c378ace37efc24"), looks := true }, kinds := [], alts := [], laidByText := true, laidKinds := [.data, .data, .data, .data, .sentinel, .sentinel, .data, .pinned], laidTests := true, laidLooks := .later }
def LexerLinesCardSaid : Prop := Claim7.holds Tryd.pinned (.plain (OpenSpec.ofChange lexerLinesSpec)) lexerLinesCard

/-- THE SECOND FORM's CARD OF 'pipelinelaw09.LexerJoins'. -/
def lexerJoinsUptoCard : Claim7 := { stood := { row := lexerJoinsUptoRow, standIns := [], harness := (true, "b0386403c18b2e4dec6e28cbb69fe2df1b5336c9d98449c235c378ace37efc24"), looks := true }, kinds := [], alts := [], laidByText := true, laidKinds := [.data, .data, .data, .data, .sentinel, .sentinel, .data, .pinned], laidTests := true, laidLooks := .later }
def LexerJoinsUptoCardSaid : Prop := Claim7.holds Tryd.pinned (.plain (OpenSpec.upto lexerJoinsSpec)) lexerJoinsUptoCard

/-- THE SECOND FORM's CARD OF 'pipelinelaw09.LexerBack'. -/
def lexerBackUptoCard : Claim7 := { stood := { row := lexerBackUptoRow, standIns := [], harness := (true, "b0386403c18b2e4dec6e28cbb69fe2df1b5336c9d98449c235c378ace37efc24"), looks := true }, kinds := [], alts := [], laidByText := true, laidKinds := [.data, .data, .data, .data, .sentinel, .sentinel, .data, .pinned], laidTests := true, laidLooks := .later }
def LexerBackUptoCardSaid : Prop := Claim7.holds Tryd.pinned (.plain (OpenSpec.upto lexerBackSpec)) lexerBackUptoCard

/-- THE SECOND FORM's CARD OF 'pipelinelaw09.LexerStrings'. -/
def lexerStringsUptoCard : Claim7 := { stood := { row := lexerStringsUptoRow, standIns := [], harness := (true, "b0386403c18b2e4dec6e28cbb69fe2df1b5336c9d98449c235c378ace37efc24"), looks := true }, kinds := [], alts := [], laidByText := true, laidKinds := [.data, .data, .data, .data, .sentinel, .sentinel, .data, .pinned], laidTests := true, laidLooks := .later }
def LexerStringsUptoCardSaid : Prop := Claim7.holds Tryd.pinned (.plain (OpenSpec.upto lexerStringsSpec)) lexerStringsUptoCard

/-- THE SECOND FORM's CARD OF 'pipelinelaw09.LexerEnds'. -/
def lexerEndsUptoCard : Claim7 := { stood := { row := lexerEndsUptoRow, standIns := [], harness := (true, "b0386403c18b2e4dec6e28cbb69fe2df1b5336c9d98449c235c378ace37efc24"), looks := true }, kinds := [], alts := [], laidByText := true, laidKinds := [.data, .data, .data, .data, .sentinel, .sentinel, .data, .pinned], laidTests := true, laidLooks := .later }
def LexerEndsUptoCardSaid : Prop := Claim7.holds Tryd.pinned (.plain (OpenSpec.upto lexerEndsSpec)) lexerEndsUptoCard

/-- THE SECOND FORM's CARD OF 'pipelinelaw09.LexerLines'. -/
def lexerLinesUptoCard : Claim7 := { stood := { row := lexerLinesUptoRow, standIns := [], harness := (true, "b0386403c18b2e4dec6e28cbb69fe2df1b5336c9d98449c235c378ace37efc24"), looks := true }, kinds := [], alts := [], laidByText := true, laidKinds := [.data, .data, .data, .data, .sentinel, .sentinel, .data, .pinned], laidTests := true, laidLooks := .later }
def LexerLinesUptoCardSaid : Prop := Claim7.holds Tryd.pinned (.plain (OpenSpec.upto lexerLinesSpec)) lexerLinesUptoCard
end Rows
end Go.Proofs.YtoliiiijbdoliaaDoor
