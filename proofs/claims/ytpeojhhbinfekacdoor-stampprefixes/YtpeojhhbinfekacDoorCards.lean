/-
  DERIVED. GIVEN WITH THE SEED: THE CARDS: each row of YtpeojhhbinfekacDoorRows.lean that lists a variable, with what it lists TIED to the program's text (the seventh form; the later family's looks); each row that meets fmt, with fmt's text TOLD by the authors' own Lean function (tested against real Go, not proved from fmt's source: count such statements apart). THE CARD IS WHAT COUNTS. Prove the row's statement (the work); the ties are given (YtpeojhhbinfekacDoorTie.lean); close each card by the builder's one call (the guide's Derived/Test/ToyasCard.lean, 'card_holds'). Laid BY PROGRAM, IN A SANDBOX (cutbox-door.mjs). By AI agents, Wed Nov 11 2026. No macro, syntax, notation, axiom, sorry.
-/
import Derived.Test.YtpeojhhbinfekacDoorRows
import GoSem.ClaimSeven
namespace Go.Proofs.YtpeojhhbinfekacDoor
namespace Rows

/-- THE TIED CARD OF 'horizonlaw1.StampPrefixes'. -/
def stampPrefixesCard : Claim7 := { stood := { row := stampPrefixesRow, standIns := [], harness := (true, "8f661e540fa4fc727f93037360bab0e86d65ade446715cb6441ddf14f9c10ad1"), looks := true }, kinds := [], alts := [], laidByText := true, laidKinds := [.data, .data, .data], laidTests := true, laidLooks := .later }
def StampPrefixesCardSaid : Prop := Claim7.holds Tryd.pinned (.plain (OpenSpec.ofChange stampPrefixesSpec)) stampPrefixesCard

/-- THE TIED CARD OF 'horizonlaw1.StampParses'. -/
def stampParsesCard : Claim7 := { stood := { row := stampParsesRow, standIns := [], harness := (true, "8f661e540fa4fc727f93037360bab0e86d65ade446715cb6441ddf14f9c10ad1"), looks := true }, kinds := [], alts := [], laidByText := true, laidKinds := [.data, .data, .data, .sentinel, .sentinel], laidTests := true, laidLooks := .later }
def StampParsesCardSaid : Prop := Claim7.holds Tryd.pinned (.plain (OpenSpec.ofChange stampParsesSpec)) stampParsesCard

/-- THE TIED CARD OF 'horizonlaw1.StampCarries'. -/
def stampCarriesCard : Claim7 := { stood := { row := stampCarriesRow, standIns := [], harness := (true, "8f661e540fa4fc727f93037360bab0e86d65ade446715cb6441ddf14f9c10ad1"), looks := true }, kinds := [], alts := [], laidByText := true, laidKinds := [.data, .data, .data, .sentinel, .sentinel], laidTests := true, laidLooks := .later }
def StampCarriesCardSaid : Prop := Claim7.holds Tryd.pinned (.plain (OpenSpec.ofChange stampCarriesSpec)) stampCarriesCard

/-- THE SECOND FORM's CARD OF 'horizonlaw1.StampPrefixes'. -/
def stampPrefixesUptoCard : Claim7 := { stood := { row := stampPrefixesUptoRow, standIns := [], harness := (true, "8f661e540fa4fc727f93037360bab0e86d65ade446715cb6441ddf14f9c10ad1"), looks := true }, kinds := [], alts := [], laidByText := true, laidKinds := [.data, .data, .data], laidTests := true, laidLooks := .later }
def StampPrefixesUptoCardSaid : Prop := Claim7.holds Tryd.pinned (.plain (OpenSpec.upto stampPrefixesSpec)) stampPrefixesUptoCard

/-- THE SECOND FORM's CARD OF 'horizonlaw1.StampParses'. -/
def stampParsesUptoCard : Claim7 := { stood := { row := stampParsesUptoRow, standIns := [], harness := (true, "8f661e540fa4fc727f93037360bab0e86d65ade446715cb6441ddf14f9c10ad1"), looks := true }, kinds := [], alts := [], laidByText := true, laidKinds := [.data, .data, .data, .sentinel, .sentinel], laidTests := true, laidLooks := .later }
def StampParsesUptoCardSaid : Prop := Claim7.holds Tryd.pinned (.plain (OpenSpec.upto stampParsesSpec)) stampParsesUptoCard

/-- THE SECOND FORM's CARD OF 'horizonlaw1.StampCarries'. -/
def stampCarriesUptoCard : Claim7 := { stood := { row := stampCarriesUptoRow, standIns := [], harness := (true, "8f661e540fa4fc727f93037360bab0e86d65ade446715cb6441ddf14f9c10ad1"), looks := true }, kinds := [], alts := [], laidByText := true, laidKinds := [.data, .data, .data, .sentinel, .sentinel], laidTests := true, laidLooks := .later }
def StampCarriesUptoCardSaid : Prop := Claim7.holds Tryd.pinned (.plain (OpenSpec.upto stampCarriesSpec)) stampCarriesUptoCard
end Rows
end Go.Proofs.YtpeojhhbinfekacDoor
