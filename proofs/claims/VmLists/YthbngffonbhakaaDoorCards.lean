/-
  DERIVED. GIVEN WITH THE SEED: THE CARDS: each row of YthbngffonbhakaaDoorRows.lean that lists a variable, with what it lists TIED to the program's text (the seventh form; the later family's looks); each row that meets fmt, with fmt's text TOLD by the authors' own Lean function (tested against real Go, not proved from fmt's source: count such statements apart). THE CARD IS WHAT COUNTS. Prove the row's statement (the work); the ties are given (YthbngffonbhakaaDoorTie.lean); close each card by the builder's one call (the guide's Derived/Test/ToyasCard.lean, 'card_holds'). Laid BY PROGRAM, IN A SANDBOX (cutbox-door.mjs). By AI agents, Wed Nov 11 2026. No macro, syntax, notation, axiom, sorry.
-/
import Derived.Test.YthbngffonbhakaaDoorRows
import GoSem.ClaimSeven
namespace Go.Proofs.YthbngffonbhakaaDoor
namespace Rows

/-- THE TIED CARD OF 'horizonlaw6.VmLists'. -/
def vmListsCard : Claim7 := { stood := { row := vmListsRow, standIns := [], harness := (true, "616d15c1a04f6d2af118fe510959b0eed4499951f38ee8a8367cfa0ad0f2902c"), looks := false }, kinds := [], alts := [], laidByText := true, laidKinds := [.data, .data, .data, .data], laidTests := true, laidLooks := .later }
def VmListsCardSaid : Prop := Claim7.holds Tryd.pinned (.plain (OpenSpec.ofChange vmListsSpec)) vmListsCard

/-- THE SECOND FORM's CARD OF 'horizonlaw6.VmLists'. -/
def vmListsUptoCard : Claim7 := { stood := { row := vmListsUptoRow, standIns := [], harness := (true, "616d15c1a04f6d2af118fe510959b0eed4499951f38ee8a8367cfa0ad0f2902c"), looks := false }, kinds := [], alts := [], laidByText := true, laidKinds := [.data, .data, .data, .data], laidTests := true, laidLooks := .later }
def VmListsUptoCardSaid : Prop := Claim7.holds Tryd.pinned (.plain (OpenSpec.upto vmListsSpec)) vmListsUptoCard
end Rows
end Go.Proofs.YthbngffonbhakaaDoor
