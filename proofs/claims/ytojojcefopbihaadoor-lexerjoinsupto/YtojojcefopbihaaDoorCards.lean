/-
  DERIVED. GIVEN WITH THE SEED: THE CARDS: each row of YtojojcefopbihaaDoorRows.lean that lists a variable, with what it lists TIED to the program's text (the seventh form; the later family's looks); each row that meets fmt, with fmt's text TOLD by the authors' own Lean function (tested against real Go, not proved from fmt's source: count such statements apart). THE CARD IS WHAT COUNTS. Prove the row's statement (the work); the ties are given (YtojojcefopbihaaDoorTie.lean); close each card by the builder's one call (the guide's Derived/Test/ToyasCard.lean, 'card_holds'). Laid BY PROGRAM, IN A SANDBOX (cutbox-door.mjs). By AI agents, Wed Nov 11 2026. No macro, syntax, notation, axiom, sorry.
-/
import Derived.Test.YtojojcefopbihaaDoorRows
import GoSem.ClaimSeven
namespace Go.Proofs.YtojojcefopbihaaDoor
namespace Rows

/-- THE TIED CARD OF 'horizonlaw3.LexerMarks'. -/
def lexerMarksCard : Claim7 := { stood := { row := lexerMarksRow, standIns := [], harness := (true, "54ae46bb2e97cda18206c27a24d4873f4d1616b85abaca9cf6a03c32e6a9965b"), looks := true }, kinds := [], alts := [], laidByText := true, laidKinds := [.data], laidTests := true, laidLooks := .later }
def LexerMarksCardSaid : Prop := Claim7.holds Tryd.pinned (.plain (OpenSpec.ofChange lexerMarksSpec)) lexerMarksCard

/-- THE TIED CARD OF 'horizonlaw3.LexerWords'. -/
def lexerWordsCard : Claim7 := { stood := { row := lexerWordsRow, standIns := [], harness := (true, "54ae46bb2e97cda18206c27a24d4873f4d1616b85abaca9cf6a03c32e6a9965b"), looks := true }, kinds := [], alts := [], laidByText := true, laidKinds := [.data], laidTests := true, laidLooks := .later }
def LexerWordsCardSaid : Prop := Claim7.holds Tryd.pinned (.plain (OpenSpec.ofChange lexerWordsSpec)) lexerWordsCard

/-- THE TIED CARD OF 'horizonlaw3.LexerTable'. -/
def lexerTableCard : Claim7 := { stood := { row := lexerTableRow, standIns := [], harness := (true, "54ae46bb2e97cda18206c27a24d4873f4d1616b85abaca9cf6a03c32e6a9965b"), looks := true }, kinds := [], alts := [], laidByText := true, laidKinds := [.data, .data, .data, .sentinel, .sentinel, .data], laidTests := true, laidLooks := .later }
def LexerTableCardSaid : Prop := Claim7.holds Tryd.pinned (.plain (OpenSpec.ofChange lexerTableSpec)) lexerTableCard

/-- THE TIED CARD OF 'horizonlaw3.LexerFresh'. -/
def lexerFreshCard : Claim7 := { stood := { row := lexerFreshRow, standIns := [], harness := (true, "54ae46bb2e97cda18206c27a24d4873f4d1616b85abaca9cf6a03c32e6a9965b"), looks := true }, kinds := [], alts := [], laidByText := true, laidKinds := [.data, .data, .data, .sentinel, .sentinel, .data], laidTests := true, laidLooks := .later }
def LexerFreshCardSaid : Prop := Claim7.holds Tryd.pinned (.plain (OpenSpec.ofChange lexerFreshSpec)) lexerFreshCard

/-- THE TIED CARD OF 'horizonlaw3.LexerMade'. -/
def lexerMadeCard : Claim7 := { stood := { row := lexerMadeRow, standIns := [], harness := (true, "54ae46bb2e97cda18206c27a24d4873f4d1616b85abaca9cf6a03c32e6a9965b"), looks := true }, kinds := [], alts := [], laidByText := true, laidKinds := [.data, .data, .data, .sentinel, .sentinel, .data], laidTests := true, laidLooks := .later }
def LexerMadeCardSaid : Prop := Claim7.holds Tryd.pinned (.plain (OpenSpec.ofChange lexerMadeSpec)) lexerMadeCard

/-- THE TIED CARD OF 'horizonlaw3.LexerJoins'. -/
def lexerJoinsCard : Claim7 := { stood := { row := lexerJoinsRow, standIns := [], harness := (true, "54ae46bb2e97cda18206c27a24d4873f4d1616b85abaca9cf6a03c32e6a9965b"), looks := true }, kinds := [], alts := [], laidByText := true, laidKinds := [.data, .data, .data, .sentinel, .sentinel, .data], laidTests := true, laidLooks := .later }
def LexerJoinsCardSaid : Prop := Claim7.holds Tryd.pinned (.plain (OpenSpec.ofChange lexerJoinsSpec)) lexerJoinsCard

/-- THE SECOND FORM's CARD OF 'horizonlaw3.LexerMarks'. -/
def lexerMarksUptoCard : Claim7 := { stood := { row := lexerMarksUptoRow, standIns := [], harness := (true, "54ae46bb2e97cda18206c27a24d4873f4d1616b85abaca9cf6a03c32e6a9965b"), looks := true }, kinds := [], alts := [], laidByText := true, laidKinds := [.data], laidTests := true, laidLooks := .later }
def LexerMarksUptoCardSaid : Prop := Claim7.holds Tryd.pinned (.plain (OpenSpec.upto lexerMarksSpec)) lexerMarksUptoCard

/-- THE SECOND FORM's CARD OF 'horizonlaw3.LexerWords'. -/
def lexerWordsUptoCard : Claim7 := { stood := { row := lexerWordsUptoRow, standIns := [], harness := (true, "54ae46bb2e97cda18206c27a24d4873f4d1616b85abaca9cf6a03c32e6a9965b"), looks := true }, kinds := [], alts := [], laidByText := true, laidKinds := [.data], laidTests := true, laidLooks := .later }
def LexerWordsUptoCardSaid : Prop := Claim7.holds Tryd.pinned (.plain (OpenSpec.upto lexerWordsSpec)) lexerWordsUptoCard

/-- THE SECOND FORM's CARD OF 'horizonlaw3.LexerTable'. -/
def lexerTableUptoCard : Claim7 := { stood := { row := lexerTableUptoRow, standIns := [], harness := (true, "54ae46bb2e97cda18206c27a24d4873f4d1616b85abaca9cf6a03c32e6a9965b"), looks := true }, kinds := [], alts := [], laidByText := true, laidKinds := [.data, .data, .data, .sentinel, .sentinel, .data], laidTests := true, laidLooks := .later }
def LexerTableUptoCardSaid : Prop := Claim7.holds Tryd.pinned (.plain (OpenSpec.upto lexerTableSpec)) lexerTableUptoCard

/-- THE SECOND FORM's CARD OF 'horizonlaw3.LexerFresh'. -/
def lexerFreshUptoCard : Claim7 := { stood := { row := lexerFreshUptoRow, standIns := [], harness := (true, "54ae46bb2e97cda18206c27a24d4873f4d1616b85abaca9cf6a03c32e6a9965b"), looks := true }, kinds := [], alts := [], laidByText := true, laidKinds := [.data, .data, .data, .sentinel, .sentinel, .data], laidTests := true, laidLooks := .later }
def LexerFreshUptoCardSaid : Prop := Claim7.holds Tryd.pinned (.plain (OpenSpec.upto lexerFreshSpec)) lexerFreshUptoCard

/-- THE SECOND FORM's CARD OF 'horizonlaw3.LexerMade'. -/
def lexerMadeUptoCard : Claim7 := { stood := { row := lexerMadeUptoRow, standIns := [], harness := (true, "54ae46bb2e97cda18206c27a24d4873f4d1616b85abaca9cf6a03c32e6a9965b"), looks := true }, kinds := [], alts := [], laidByText := true, laidKinds := [.data, .data, .data, .sentinel, .sentinel, .data], laidTests := true, laidLooks := .later }
def LexerMadeUptoCardSaid : Prop := Claim7.holds Tryd.pinned (.plain (OpenSpec.upto lexerMadeSpec)) lexerMadeUptoCard

/-- THE SECOND FORM's CARD OF 'horizonlaw3.LexerJoins'. -/
def lexerJoinsUptoCard : Claim7 := { stood := { row := lexerJoinsUptoRow, standIns := [], harness := (true, "54ae46bb2e97cda18206c27a24d4873f4d1616b85abaca9cf6a03c32e6a9965b"), looks := true }, kinds := [], alts := [], laidByText := true, laidKinds := [.data, .data, .data, .sentinel, .sentinel, .data], laidTests := true, laidLooks := .later }
def LexerJoinsUptoCardSaid : Prop := Claim7.holds Tryd.pinned (.plain (OpenSpec.upto lexerJoinsSpec)) lexerJoinsUptoCard
end Rows
end Go.Proofs.YtojojcefopbihaaDoor
