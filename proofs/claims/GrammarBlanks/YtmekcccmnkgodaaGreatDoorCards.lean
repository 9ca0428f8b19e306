/-
  DERIVED. GIVEN WITH THE SEED: THE CARDS: each row of YtmekcccmnkgodaaGreatDoorRows.lean that lists a variable, with what it lists TIED to the program's text (the seventh form; the later family's looks); each row that meets fmt, with fmt's text TOLD by the authors' own Lean function (tested against real Go, not proved from fmt's source: count such statements apart). THE CARD IS WHAT COUNTS. Prove the row's statement (the work); the ties are given (YtmekcccmnkgodaaGreatDoorTie.lean); close each card by the builder's one call (the guide's Derived/Test/ToyasCard.lean, 'card_holds'). Laid BY PROGRAM, IN A SANDBOX (cutbox-door.mjs). By AI agents, Wed Nov 11 2026. No macro, syntax, notation, axiom, sorry.
-/
import Derived.Test.YtmekcccmnkgodaaGreatDoorRows
import GoSem.ClaimSeven
namespace Go.Proofs.YtmekcccmnkgodaaGreatDoor
namespace Rows

/-- THE TIED CARD OF 'horizonlaw4.GrammarFits'. -/
def grammarFitsCard : Claim7 := { stood := { row := grammarFitsRow, standIns := [], harness := (true, "0626e74dd16f87748e9eee9c96e0434867221da7e872173ee61681ef4529dda1"), looks := true }, kinds := [], alts := [], laidByText := true, laidKinds := [.data, .data, .data, .handle, .sentinel, .sentinel, .data], laidTests := true, laidLooks := .later }
def GrammarFitsCardSaid : Prop := Claim7.holds Tryz.pinned (.plain (OpenSpec.ofChange grammarFitsSpec)) grammarFitsCard

/-- THE TIED CARD OF 'horizonlaw4.GrammarBrackets'. -/
def grammarBracketsCard : Claim7 := { stood := { row := grammarBracketsRow, standIns := [], harness := (true, "0626e74dd16f87748e9eee9c96e0434867221da7e872173ee61681ef4529dda1"), looks := true }, kinds := [], alts := [], laidByText := true, laidKinds := [.data, .data, .data, .handle, .sentinel, .sentinel, .data], laidTests := true, laidLooks := .later }
def GrammarBracketsCardSaid : Prop := Claim7.holds Tryz.pinned (.plain (OpenSpec.ofChange grammarBracketsSpec)) grammarBracketsCard

/-- THE TIED CARD OF 'horizonlaw4.GrammarBinds'. -/
def grammarBindsCard : Claim7 := { stood := { row := grammarBindsRow, standIns := [], harness := (true, "0626e74dd16f87748e9eee9c96e0434867221da7e872173ee61681ef4529dda1"), looks := true }, kinds := [], alts := [], laidByText := true, laidKinds := [.data, .data, .data, .handle, .sentinel, .sentinel, .data, .data], laidTests := true, laidLooks := .later }
def GrammarBindsCardSaid : Prop := Claim7.holds Tryz.pinned (.plain (OpenSpec.ofChange grammarBindsSpec)) grammarBindsCard

/-- THE TIED CARD OF 'horizonlaw4.GrammarBlanks'. -/
def grammarBlanksCard : Claim7 := { stood := { row := grammarBlanksRow, standIns := [], harness := (true, "0626e74dd16f87748e9eee9c96e0434867221da7e872173ee61681ef4529dda1"), looks := true }, kinds := [], alts := [], laidByText := true, laidKinds := [.data, .data, .data, .handle, .sentinel, .sentinel, .data], laidTests := true, laidLooks := .later }
def GrammarBlanksCardSaid : Prop := Claim7.holds Tryz.pinned (.plain (OpenSpec.ofChange grammarBlanksSpec)) grammarBlanksCard

/-- THE SECOND FORM's CARD OF 'horizonlaw4.GrammarFits'. -/
def grammarFitsUptoCard : Claim7 := { stood := { row := grammarFitsUptoRow, standIns := [], harness := (true, "0626e74dd16f87748e9eee9c96e0434867221da7e872173ee61681ef4529dda1"), looks := true }, kinds := [], alts := [], laidByText := true, laidKinds := [.data, .data, .data, .handle, .sentinel, .sentinel, .data], laidTests := true, laidLooks := .later }
def GrammarFitsUptoCardSaid : Prop := Claim7.holds Tryz.pinned (.plain (OpenSpec.upto grammarFitsSpec)) grammarFitsUptoCard

/-- THE SECOND FORM's CARD OF 'horizonlaw4.GrammarBrackets'. -/
def grammarBracketsUptoCard : Claim7 := { stood := { row := grammarBracketsUptoRow, standIns := [], harness := (true, "0626e74dd16f87748e9eee9c96e0434867221da7e872173ee61681ef4529dda1"), looks := true }, kinds := [], alts := [], laidByText := true, laidKinds := [.data, .data, .data, .handle, .sentinel, .sentinel, .data], laidTests := true, laidLooks := .later }
def GrammarBracketsUptoCardSaid : Prop := Claim7.holds Tryz.pinned (.plain (OpenSpec.upto grammarBracketsSpec)) grammarBracketsUptoCard

/-- THE SECOND FORM's CARD OF 'horizonlaw4.GrammarBinds'. -/
def grammarBindsUptoCard : Claim7 := { stood := { row := grammarBindsUptoRow, standIns := [], harness := (true, "0626e74dd16f87748e9eee9c96e0434867221da7e872173ee61681ef4529dda1"), looks := true }, kinds := [], alts := [], laidByText := true, laidKinds := [.data, .data, .data, .handle, .sentinel, .sentinel, .data, .data], laidTests := true, laidLooks := .later }
def GrammarBindsUptoCardSaid : Prop := Claim7.holds Tryz.pinned (.plain (OpenSpec.upto grammarBindsSpec)) grammarBindsUptoCard

/-- THE SECOND FORM's CARD OF 'horizonlaw4.GrammarBlanks'. -/
def grammarBlanksUptoCard : Claim7 := { stood := { row := grammarBlanksUptoRow, standIns := [], harness := (true, "0626e74dd16f87748e9eee9c96e0434867221da7e872173ee61681ef4529dda1"), looks := true }, kinds := [], alts := [], laidByText := true, laidKinds := [.data, .data, .data, .handle, .sentinel, .sentinel, .data], laidTests := true, laidLooks := .later }
def GrammarBlanksUptoCardSaid : Prop := Claim7.holds Tryz.pinned (.plain (OpenSpec.upto grammarBlanksSpec)) grammarBlanksUptoCard
end Rows
end Go.Proofs.YtmekcccmnkgodaaGreatDoor
