/-
  DERIVED. GIVEN WITH THE SEED: THE CARDS: each row of YtidffddmlaedcaaDoorRows.lean that lists a variable, with what it lists TIED to the program's text (the seventh form; the later family's looks); each row that meets fmt, with fmt's text TOLD by the authors' own Lean function (tested against real Go, not proved from fmt's source: count such statements apart). THE CARD IS WHAT COUNTS. Prove the row's statement (the work); the ties are given (YtidffddmlaedcaaDoorTie.lean); close each card by the builder's one call (the guide's Derived/Test/ToyasCard.lean, 'card_holds'). Laid BY PROGRAM, IN A SANDBOX (cutbox-door.mjs). By AI agents, Wed Nov 11 2026. No macro, syntax, notation, axiom, sorry.
-/
import Derived.Test.YtidffddmlaedcaaDoorRows
import GoSem.ClaimSeven
namespace Go.Proofs.YtidffddmlaedcaaDoor
namespace Rows

/-- THE TIED CARD OF 'horizonlaw3.LexerFresh'. -/
def lexerFreshCard : Claim7 := { stood := { row := lexerFreshRow, standIns := [], harness := (true, "7ee63cbfe1fa6f0d71932bf84f4e209010844813a66989c4e9c9ee4b20d541d4"), looks := true }, kinds := [], alts := [], laidByText := true, laidKinds := [.data, .data, .data, .sentinel, .sentinel, .data], laidTests := true, laidLooks := .later }
def LexerFreshCardSaid : Prop := Claim7.holds Tryd.pinned (.plain (OpenSpec.ofChange lexerFreshSpec)) lexerFreshCard

/-- THE TIED CARD OF 'horizonlaw3.LexerMade'. -/
def lexerMadeCard : Claim7 := { stood := { row := lexerMadeRow, standIns := [], harness := (true, "7ee63cbfe1fa6f0d71932bf84f4e209010844813a66989c4e9c9ee4b20d541d4"), looks := true }, kinds := [], alts := [], laidByText := true, laidKinds := [.data, .data, .data, .sentinel, .sentinel, .data], laidTests := true, laidLooks := .later }
def LexerMadeCardSaid : Prop := Claim7.holds Tryd.pinned (.plain (OpenSpec.ofChange lexerMadeSpec)) lexerMadeCard

/-- THE TIED CARD OF 'horizonlaw3.LexerPlaces'. -/
def lexerPlacesCard : Claim7 := { stood := { row := lexerPlacesRow, standIns := [], harness := (true, "7ee63cbfe1fa6f0d71932bf84f4e209010844813a66989c4e9c9ee4b20d541d4"), looks := true }, kinds := [], alts := [], laidByText := true, laidKinds := [.data, .data, .data, .sentinel, .sentinel, .data], laidTests := true, laidLooks := .later }
def LexerPlacesCardSaid : Prop := Claim7.holds Tryd.pinned (.plain (OpenSpec.ofChange lexerPlacesSpec)) lexerPlacesCard

/-- THE TIED CARD OF 'horizonlaw3.LexerTail'. -/
def lexerTailCard : Claim7 := { stood := { row := lexerTailRow, standIns := [], harness := (true, "7ee63cbfe1fa6f0d71932bf84f4e209010844813a66989c4e9c9ee4b20d541d4"), looks := true }, kinds := [], alts := [], laidByText := true, laidKinds := [.data, .data, .data, .sentinel, .sentinel, .data], laidTests := true, laidLooks := .later }
def LexerTailCardSaid : Prop := Claim7.holds Tryd.pinned (.plain (OpenSpec.ofChange lexerTailSpec)) lexerTailCard

/-- THE TIED CARD OF 'horizonlaw3.LexerAgain'. -/
def lexerAgainCard : Claim7 := { stood := { row := lexerAgainRow, standIns := [], harness := (true, "7ee63cbfe1fa6f0d71932bf84f4e209010844813a66989c4e9c9ee4b20d541d4"), looks := true }, kinds := [], alts := [], laidByText := true, laidKinds := [.data, .data, .data, .sentinel, .sentinel, .data], laidTests := true, laidLooks := .later }
def LexerAgainCardSaid : Prop := Claim7.holds Tryd.pinned (.plain (OpenSpec.ofChange lexerAgainSpec)) lexerAgainCard

/-- THE TIED CARD OF 'horizonlaw3.LexerEaches'. -/
def lexerEachesCard : Claim7 := { stood := { row := lexerEachesRow, standIns := [], harness := (true, "7ee63cbfe1fa6f0d71932bf84f4e209010844813a66989c4e9c9ee4b20d541d4"), looks := true }, kinds := [], alts := [], laidByText := true, laidKinds := [.data, .data, .data, .sentinel, .sentinel, .data], laidTests := true, laidLooks := .later }
def LexerEachesCardSaid : Prop := Claim7.holds Tryd.pinned (.plain (OpenSpec.ofChange lexerEachesSpec)) lexerEachesCard

/-- THE SECOND FORM's CARD OF 'horizonlaw3.LexerFresh'. -/
def lexerFreshUptoCard : Claim7 := { stood := { row := lexerFreshUptoRow, standIns := [], harness := (true, "7ee63cbfe1fa6f0d71932bf84f4e209010844813a66989c4e9c9ee4b20d541d4"), looks := true }, kinds := [], alts := [], laidByText := true, laidKinds := [.data, .data, .data, .sentinel, .sentinel, .data], laidTests := true, laidLooks := .later }
def LexerFreshUptoCardSaid : Prop := Claim7.holds Tryd.pinned (.plain (OpenSpec.upto lexerFreshSpec)) lexerFreshUptoCard

/-- THE SECOND FORM's CARD OF 'horizonlaw3.LexerMade'. -/
def lexerMadeUptoCard : Claim7 := { stood := { row := lexerMadeUptoRow, standIns := [], harness := (true, "7ee63cbfe1fa6f0d71932bf84f4e209010844813a66989c4e9c9ee4b20d541d4"), looks := true }, kinds := [], alts := [], laidByText := true, laidKinds := [.data, .data, .data, .sentinel, .sentinel, .data], laidTests := true, laidLooks := .later }
def LexerMadeUptoCardSaid : Prop := Claim7.holds Tryd.pinned (.plain (OpenSpec.upto lexerMadeSpec)) lexerMadeUptoCard

/-- THE SECOND FORM's CARD OF 'horizonlaw3.LexerPlaces'. -/
def lexerPlacesUptoCard : Claim7 := { stood := { row := lexerPlacesUptoRow, standIns := [], harness := (true, "7ee63cbfe1fa6f0d71932bf84f4e209010844813a66989c4e9c9ee4b20d541d4"), looks := true }, kinds := [], alts := [], laidByText := true, laidKinds := [.data, .data, .data, .sentinel, .sentinel, .data], laidTests := true, laidLooks := .later }
def LexerPlacesUptoCardSaid : Prop := Claim7.holds Tryd.pinned (.plain (OpenSpec.upto lexerPlacesSpec)) lexerPlacesUptoCard

/-- THE SECOND FORM's CARD OF 'horizonlaw3.LexerTail'. -/
def lexerTailUptoCard : Claim7 := { stood := { row := lexerTailUptoRow, standIns := [], harness := (true, "7ee63cbfe1fa6f0d71932bf84f4e209010844813a66989c4e9c9ee4b20d541d4"), looks := true }, kinds := [], alts := [], laidByText := true, laidKinds := [.data, .data, .data, .sentinel, .sentinel, .data], laidTests := true, laidLooks := .later }
def LexerTailUptoCardSaid : Prop := Claim7.holds Tryd.pinned (.plain (OpenSpec.upto lexerTailSpec)) lexerTailUptoCard

/-- THE SECOND FORM's CARD OF 'horizonlaw3.LexerAgain'. -/
def lexerAgainUptoCard : Claim7 := { stood := { row := lexerAgainUptoRow, standIns := [], harness := (true, "7ee63cbfe1fa6f0d71932bf84f4e209010844813a66989c4e9c9ee4b20d541d4"), looks := true }, kinds := [], alts := [], laidByText := true, laidKinds := [.data, .data, .data, .sentinel, .sentinel, .data], laidTests := true, laidLooks := .later }
def LexerAgainUptoCardSaid : Prop := Claim7.holds Tryd.pinned (.plain (OpenSpec.upto lexerAgainSpec)) lexerAgainUptoCard

/-- THE SECOND FORM's CARD OF 'horizonlaw3.LexerEaches'. -/
def lexerEachesUptoCard : Claim7 := { stood := { row := lexerEachesUptoRow, standIns := [], harness := (true, "7ee63cbfe1fa6f0d71932bf84f4e209010844813a66989c4e9c9ee4b20d541d4"), looks := true }, kinds := [], alts := [], laidByText := true, laidKinds := [.data, .data, .data, .sentinel, .sentinel, .data], laidTests := true, laidLooks := .later }
def LexerEachesUptoCardSaid : Prop := Claim7.holds Tryd.pinned (.plain (OpenSpec.upto lexerEachesSpec)) lexerEachesUptoCard
end Rows
end Go.Proofs.YtidffddmlaedcaaDoor
