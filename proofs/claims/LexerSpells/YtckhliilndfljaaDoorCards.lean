/-
  DERIVED. GIVEN WITH THE SEED: THE CARDS: each row of YtckhliilndfljaaDoorRows.lean that lists a variable, with what it lists TIED to the program's text (the seventh form; the later family's looks); each row that meets fmt, with fmt's text TOLD by the authors' own Lean function (tested against real Go, not proved from fmt's source: count such statements apart). THE CARD IS WHAT COUNTS. Prove the row's statement (the work); the ties are given (YtckhliilndfljaaDoorTie.lean); close each card by the builder's one call (the guide's Derived/Test/ToyasCard.lean, 'card_holds'). Laid BY PROGRAM, IN A SANDBOX (cutbox-door.mjs). By AI agents, Wed Nov 11 2026. No macro, syntax, notation, axiom, sorry.
-/
import Derived.Test.YtckhliilndfljaaDoorRows
import GoSem.ClaimSeven
namespace Go.Proofs.YtckhliilndfljaaDoor
namespace Rows

/-- THE TIED CARD OF 'horizonlaw3.LexerFresh'. -/
def lexerFreshCard : Claim7 := { stood := { row := lexerFreshRow, standIns := [], harness := (true, "ff186ecda9cbcf3b8524fc6e965b3b3d6df6af8bfcad305d930d89e881cd5e55"), looks := true }, kinds := [], alts := [], laidByText := true, laidKinds := [.data, .data, .data, .sentinel, .sentinel, .data], laidTests := true, laidLooks := .later }
def LexerFreshCardSaid : Prop := Claim7.holds Tryd.pinned (.plain (OpenSpec.ofChange lexerFreshSpec)) lexerFreshCard

/-- THE TIED CARD OF 'horizonlaw3.LexerBack'. -/
def lexerBackCard : Claim7 := { stood := { row := lexerBackRow, standIns := [], harness := (true, "ff186ecda9cbcf3b8524fc6e965b3b3d6df6af8bfcad305d930d89e881cd5e55"), looks := true }, kinds := [], alts := [], laidByText := true, laidKinds := [.data, .data, .data, .sentinel, .sentinel, .data], laidTests := true, laidLooks := .later }
def LexerBackCardSaid : Prop := Claim7.holds Tryd.pinned (.plain (OpenSpec.ofChange lexerBackSpec)) lexerBackCard

/-- THE TIED CARD OF 'horizonlaw3.LexerSpells'. -/
def lexerSpellsCard : Claim7 := { stood := { row := lexerSpellsRow, standIns := [], harness := (true, "ff186ecda9cbcf3b8524fc6e965b3b3d6df6af8bfcad305d930d89e881cd5e55"), looks := true }, kinds := [], alts := [], laidByText := true, laidKinds := [.data, .data, .data, .sentinel, .sentinel, .data], laidTests := true, laidLooks := .later }
def LexerSpellsCardSaid : Prop := Claim7.holds Tryd.pinned (.plain (OpenSpec.ofChange lexerSpellsSpec)) lexerSpellsCard

/-- THE SECOND FORM's CARD OF 'horizonlaw3.LexerFresh'. -/
def lexerFreshUptoCard : Claim7 := { stood := { row := lexerFreshUptoRow, standIns := [], harness := (true, "ff186ecda9cbcf3b8524fc6e965b3b3d6df6af8bfcad305d930d89e881cd5e55"), looks := true }, kinds := [], alts := [], laidByText := true, laidKinds := [.data, .data, .data, .sentinel, .sentinel, .data], laidTests := true, laidLooks := .later }
def LexerFreshUptoCardSaid : Prop := Claim7.holds Tryd.pinned (.plain (OpenSpec.upto lexerFreshSpec)) lexerFreshUptoCard

/-- THE SECOND FORM's CARD OF 'horizonlaw3.LexerBack'. -/
def lexerBackUptoCard : Claim7 := { stood := { row := lexerBackUptoRow, standIns := [], harness := (true, "ff186ecda9cbcf3b8524fc6e965b3b3d6df6af8bfcad305d930d89e881cd5e55"), looks := true }, kinds := [], alts := [], laidByText := true, laidKinds := [.data, .data, .data, .sentinel, .sentinel, .data], laidTests := true, laidLooks := .later }
def LexerBackUptoCardSaid : Prop := Claim7.holds Tryd.pinned (.plain (OpenSpec.upto lexerBackSpec)) lexerBackUptoCard

/-- THE SECOND FORM's CARD OF 'horizonlaw3.LexerSpells'. -/
def lexerSpellsUptoCard : Claim7 := { stood := { row := lexerSpellsUptoRow, standIns := [], harness := (true, "ff186ecda9cbcf3b8524fc6e965b3b3d6df6af8bfcad305d930d89e881cd5e55"), looks := true }, kinds := [], alts := [], laidByText := true, laidKinds := [.data, .data, .data, .sentinel, .sentinel, .data], laidTests := true, laidLooks := .later }
def LexerSpellsUptoCardSaid : Prop := Claim7.holds Tryd.pinned (.plain (OpenSpec.upto lexerSpellsSpec)) lexerSpellsUptoCard
end Rows
end Go.Proofs.YtckhliilndfljaaDoor
