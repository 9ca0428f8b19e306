/-
  DERIVED. GIVEN WITH THE SEED: THE CARDS: each row of YtlldhjobfgkfcaaDoorRows.lean that lists a variable, with what it lists TIED to the program's text (the seventh form; the later family's looks); each row that meets fmt, with fmt's text TOLD by the authors' own Lean function (tested against real Go, not proved from fmt's source: count such statements apart). THE CARD IS WHAT COUNTS. Prove the row's statement (the work); the ties are given (YtlldhjobfgkfcaaDoorTie.lean); close each card by the builder's one call (the guide's Derived/Test/ToyasCard.lean, 'card_holds'). Laid BY PROGRAM, IN A SANDBOX (cutbox-door.mjs). By AI agents, Wed Nov 11 2026. No macro, syntax, notation, axiom, sorry.
-/
import Derived.Test.YtlldhjobfgkfcaaDoorRows
import GoSem.ClaimSeven
namespace Go.Proofs.YtlldhjobfgkfcaaDoor
namespace Rows

/-- THE TIED CARD OF 'horizonlaw5.ScopeTitles'. -/
def scopeTitlesCard : Claim7 := { stood := { row := scopeTitlesRow, standIns := [], harness := (true, "4f5a3ce8704c2703a960e5039a0af458eba58828044ee37d759e194ab1ae2278"), looks := false }, kinds := [], alts := [], laidByText := true, laidKinds := [.data, .data, .data], laidTests := true, laidLooks := .later }
def ScopeTitlesCardSaid : Prop := Claim7.holds Tryd.pinned (.plain (OpenSpec.ofChange scopeTitlesSpec)) scopeTitlesCard

/-- THE SECOND FORM's CARD OF 'horizonlaw5.ScopeTitles'. -/
def scopeTitlesUptoCard : Claim7 := { stood := { row := scopeTitlesUptoRow, standIns := [], harness := (true, "4f5a3ce8704c2703a960e5039a0af458eba58828044ee37d759e194ab1ae2278"), looks := false }, kinds := [], alts := [], laidByText := true, laidKinds := [.data, .data, .data], laidTests := true, laidLooks := .later }
def ScopeTitlesUptoCardSaid : Prop := Claim7.holds Tryd.pinned (.plain (OpenSpec.upto scopeTitlesSpec)) scopeTitlesUptoCard
end Rows
end Go.Proofs.YtlldhjobfgkfcaaDoor
