/-
  DERIVED. GIVEN WITH THE SEED: THE CARDS: each row of YtojojcefopbihabDoorRows.lean that lists a variable, with what it lists TIED to the program's text (the seventh form; the later family's looks); each row that meets fmt, with fmt's text TOLD by the authors' own Lean function (tested against real Go, not proved from fmt's source: count such statements apart). THE CARD IS WHAT COUNTS. Prove the row's statement (the work); the ties are given (YtojojcefopbihabDoorTie.lean); close each card by the builder's one call (the guide's Derived/Test/ToyasCard.lean, 'card_holds'). Laid BY PROGRAM, IN A SANDBOX (cutbox-door.mjs). By AI agents, Wed Nov 11 2026. No macro, syntax, notation, axiom, sorry.
-/
import Derived.Test.YtojojcefopbihabDoorRows
import GoSem.ClaimSeven
namespace Go.Proofs.YtojojcefopbihabDoor
namespace Rows

/-- THE TIED CARD OF 'horizonlaw3.LexerPlaces'. -/
def lexerPlacesCard : Claim7 := { stood := { row := lexerPlacesRow, standIns := [], harness := (true, "ca726b976f293f6205ca61a19ed6cd5aa228e8e1fb185197680d7a0b9ab9994d"), looks := true }, kinds := [], alts := [], laidByText := true, laidKinds := [.data, .data, .data, .sentinel, .sentinel, .data], laidTests := true, laidLooks := .later }
def LexerPlacesCardSaid : Prop := Claim7.holds Tryd.pinned (.plain (OpenSpec.ofChange lexerPlacesSpec)) lexerPlacesCard

/-- THE TIED CARD OF 'horizonlaw3.LexerTail'. -/
def lexerTailCard : Claim7 := { stood := { row := lexerTailRow, standIns := [], harness := (true, "ca726b976f293f6205ca61a19ed6cd5aa228e8e1fb185197680d7a0b9ab9994d"), looks := true }, kinds := [], alts := [], laidByText := true, laidKinds := [.data, .data, .data, .sentinel, .sentinel, .data], laidTests := true, laidLooks := .later }
def LexerTailCardSaid : Prop := Claim7.holds Tryd.pinned (.plain (OpenSpec.ofChange lexerTailSpec)) lexerTailCard

/-- THE TIED CARD OF 'horizonlaw3.LexerAgain'. -/
def lexerAgainCard : Claim7 := { stood := { row := lexerAgainRow, standIns := [], harness := (true, "ca726b976f293f6205ca61a19ed6cd5aa228e8e1fb185197680d7a0b9ab9994d"), looks := true }, kinds := [], alts := [], laidByText := true, laidKinds := [.data, .data, .data, .sentinel, .sentinel, .data], laidTests := true, laidLooks := .later }
def LexerAgainCardSaid : Prop := Claim7.holds Tryd.pinned (.plain (OpenSpec.ofChange lexerAgainSpec)) lexerAgainCard

/-- THE TIED CARD OF 'horizonlaw3.LexerEaches'. -/
def lexerEachesCard : Claim7 := { stood := { row := lexerEachesRow, standIns := [], harness := (true, "ca726b976f293f6205ca61a19ed6cd5aa228e8e1fb185197680d7a0b9ab9994d"), looks := true }, kinds := [], alts := [], laidByText := true, laidKinds := [.data, .data, .data, .sentinel, .sentinel, .data], laidTests := true, laidLooks := .later }
def LexerEachesCardSaid : Prop := Claim7.holds Tryd.pinned (.plain (OpenSpec.ofChange lexerEachesSpec)) lexerEachesCard

/-- THE TIED CARD OF 'horizonlaw3.LexerScans'. -/
def lexerScansCard : Claim7 := { stood := { row := lexerScansRow, standIns := [], harness := (true, "ca726b976f293f6205ca61a19ed6cd5aa228e8e1fb185197680d7a0b9ab9994d"), looks := true }, kinds := [], alts := [], laidByText := true, laidKinds := [.data, .data, .data, .sentinel, .sentinel, .data], laidTests := true, laidLooks := .later }
def LexerScansCardSaid : Prop := Claim7.holds Tryd.pinned (.plain (OpenSpec.ofChange lexerScansSpec)) lexerScansCard

/-- THE TIED CARD OF 'horizonlaw3.LexerBack'. -/
def lexerBackCard : Claim7 := { stood := { row := lexerBackRow, standIns := [], harness := (true, "ca726b976f293f6205ca61a19ed6cd5aa228e8e1fb185197680d7a0b9ab9994d"), looks := true }, kinds := [], alts := [], laidByText := true, laidKinds := [.data, .data, .data, .sentinel, .sentinel, .data], laidTests := true, laidLooks := .later }
def LexerBackCardSaid : Prop := Claim7.holds Tryd.pinned (.plain (OpenSpec.ofChange lexerBackSpec)) lexerBackCard

/-- THE SECOND FORM's CARD OF 'horizonlaw3.LexerPlaces'. -/
def lexerPlacesUptoCard : Claim7 := { stood := { row := lexerPlacesUptoRow, standIns := [], harness := (true, "ca726b976f293f6205ca61a19ed6cd5aa228e8e1fb185197680d7a0b9ab9994d"), looks := true }, kinds := [], alts := [], laidByText := true, laidKinds := [.data, .data, .data, .sentinel, .sentinel, .data], laidTests := true, laidLooks := .later }
def LexerPlacesUptoCardSaid : Prop := Claim7.holds Tryd.pinned (.plain (OpenSpec.upto lexerPlacesSpec)) lexerPlacesUptoCard

/-- THE SECOND FORM's CARD OF 'horizonlaw3.LexerTail'. -/
def lexerTailUptoCard : Claim7 := { stood := { row := lexerTailUptoRow, standIns := [], harness := (true, "ca726b976f293f6205ca61a19ed6cd5aa228e8e1fb185197680d7a0b9ab9994d"), looks := true }, kinds := [], alts := [], laidByText := true, laidKinds := [.data, .data, .data, .sentinel, .sentinel, .data], laidTests := true, laidLooks := .later }
def LexerTailUptoCardSaid : Prop := Claim7.holds Tryd.pinned (.plain (OpenSpec.upto lexerTailSpec)) lexerTailUptoCard

/-- THE SECOND FORM's CARD OF 'horizonlaw3.LexerAgain'. -/
def lexerAgainUptoCard : Claim7 := { stood := { row := lexerAgainUptoRow, standIns := [], harness := (true, "ca726b976f293f6205ca61a19ed6cd5aa228e8e1fb185197680d7a0b9ab9994d"), looks := true }, kinds := [], alts := [], laidByText := true, laidKinds := [.data, .data, .data, .sentinel, .sentinel, .data], laidTests := true, laidLooks := .later }
def LexerAgainUptoCardSaid : Prop := Claim7.holds Tryd.pinned (.plain (OpenSpec.upto lexerAgainSpec)) lexerAgainUptoCard

/-- THE SECOND FORM's CARD OF 'horizonlaw3.LexerEaches'. -/
def lexerEachesUptoCard : Claim7 := { stood := { row := lexerEachesUptoRow, standIns := [], harness := (true, "ca726b976f293f6205ca61a19ed6cd5aa228e8e1fb185197680d7a0b9ab9994d"), looks := true }, kinds := [], alts := [], laidByText := true, laidKinds := [.data, .data, .data, .sentinel, .sentinel, .data], laidTests := true, laidLooks := .later }
def LexerEachesUptoCardSaid : Prop := Claim7.holds Tryd.pinned (.plain (OpenSpec.upto lexerEachesSpec)) lexerEachesUptoCard

/-- THE SECOND FORM's CARD OF 'horizonlaw3.LexerScans'. -/
def lexerScansUptoCard : Claim7 := { stood := { row := lexerScansUptoRow, standIns := [], harness := (true, "ca726b976f293f6205ca61a19ed6cd5aa228e8e1fb185197680d7a0b9ab9994d"), looks := true }, kinds := [], alts := [], laidByText := true, laidKinds := [.data, .data, .data, .sentinel, .sentinel, .data], laidTests := true, laidLooks := .later }
def LexerScansUptoCardSaid : Prop := Claim7.holds Tryd.pinned (.plain (OpenSpec.upto lexerScansSpec)) lexerScansUptoCard

/-- THE SECOND FORM's CARD OF 'horizonlaw3.LexerBack'. -/
def lexerBackUptoCard : Claim7 := { stood := { row := lexerBackUptoRow, standIns := [], harness := (true, "ca726b976f293f6205ca61a19ed6cd5aa228e8e1fb185197680d7a0b9ab9994d"), looks := true }, kinds := [], alts := [], laidByText := true, laidKinds := [.data, .data, .data, .sentinel, .sentinel, .data], laidTests := true, laidLooks := .later }
def LexerBackUptoCardSaid : Prop := Claim7.holds Tryd.pinned (.plain (OpenSpec.upto lexerBackSpec)) lexerBackUptoCard
end Rows
end Go.Proofs.YtojojcefopbihabDoor
