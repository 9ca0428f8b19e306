/-
  DERIVED. GIVEN WITH THE SEED: THE CARDS: each row of YtcifdlncbekohaaDoorRows.lean that lists a variable, with what it lists TIED to the program's text (the seventh form; the later family's looks); each row that meets fmt, with fmt's text TOLD by the authors' own Lean function (tested against real Go, not proved from fmt's source: count such statements apart). THE CARD IS WHAT COUNTS. Prove the row's statement (the work); the ties are given (YtcifdlncbekohaaDoorTie.lean); close each card by the builder's one call (the guide's Derived/Test/ToyasCard.lean, 'card_holds'). Laid BY PROGRAM, IN A SANDBOX (cutbox-door.mjs). By AI agents, Wed Nov 11 2026. No macro, syntax, notation, axiom, sorry.
-/
import Derived.Test.YtcifdlncbekohaaDoorRows
import GoSem.ClaimSeven
namespace Go.Proofs.YtcifdlncbekohaaDoor
namespace Rows

/-- THE TIED CARD OF 'horizonlaw1.StampCarries'. -/
def stampCarriesCard : Claim7 := { stood := { row := stampCarriesRow, standIns := [], harness := (true, "e88e43d84219c7ffef1e8007987db2b27033b4d653838f4fc5b88c08d9f09261"), looks := true }, kinds := [], alts := [], laidByText := true, laidKinds := [.data, .data, .data, .sentinel, .sentinel], laidTests := true, laidLooks := .later }
def StampCarriesCardSaid : Prop := Claim7.holds Tryd.pinned (.plain (OpenSpec.ofChange stampCarriesSpec)) stampCarriesCard

/-- THE SECOND FORM's CARD OF 'horizonlaw1.StampCarries'. -/
def stampCarriesUptoCard : Claim7 := { stood := { row := stampCarriesUptoRow, standIns := [], harness := (true, "e88e43d84219c7ffef1e8007987db2b27033b4d653838f4fc5b88c08d9f09261"), looks := true }, kinds := [], alts := [], laidByText := true, laidKinds := [.data, .data, .data, .sentinel, .sentinel], laidTests := true, laidLooks := .later }
def StampCarriesUptoCardSaid : Prop := Claim7.holds Tryd.pinned (.plain (OpenSpec.upto stampCarriesSpec)) stampCarriesUptoCard
end Rows
end Go.Proofs.YtcifdlncbekohaaDoor
