/-
  No cell of these rows narrows 'for every input' (looked for: loops, veiled, ifaces, maps, wideKeys, modest, calm, conditions, laid).
  DERIVED. THE GIVEN ROWS OF THIS SEAT. 6 by the template 'for every input the law returns true; each argument reads behind the call as it read before'; 0 by the template 'total and deterministic' (their statements: YtkncalocpnkegaaTotals.lean).
  GIVEN WITH THE SEED: the statements are not yours to turn. If you find one false, say at which input.
  Laid BY PROGRAM, IN A SANDBOX (cutbox-rows.mjs): the forced cells as the released guide's own fill.sh prints them over the translation 582be7036ecf0dee… (all of the seat's roots in one cut). By AI agents, Wed Nov 11 2026. No macro, syntax, notation, axiom, sorry.
-/
import Derived.Test.YtkncalocpnkegaaChecked
import GoSem.Claim
import GoSem.ClaimJoined
import GoSem.ClaimMapViews
import Derived.JoinedTies
import Derived.KernelRfl
namespace Go.Proofs.Ytkncalocpnkegaa
/- THE CELL 'sum', in the pinned program and in every row, IS THE sha256 OF THE DUMP (.gsa) THAT YtkncalocpnkegaaProg.lean LOADS. Nothing in Lean hashes anything: it is a label: what it is worth is what the hold of that sum in a sandbox is worth. -/
noncomputable def Try.pinned : Pinned := { name := "ytkncalocpnkegaa", sum := "582be7036ecf0deec0a2aa51e743636a5ba96d2a3d1539e70ae192e256a5784d", checked := Try.checked }
namespace Rows
def none {H : Type} : Left H := { results := [], args := [] }

/-- 'horizonlaw8.SplayNews': WHATEVER THE INPUT: true; the input reads as it did. -/
def splayNewsSpec : ChangeSpec := { name := "splayNews", fn := fun _ => fun
  | [d] => { results := [.lit (.bool true)], args := [d] }
  | _ => none }
def splayNewsRow : OpenClaim := { program := "ytkncalocpnkegaa", sum := "582be7036ecf0deec0a2aa51e743636a5ba96d2a3d1539e70ae192e256a5784d", func := "horizon/horizonlaw8.SplayNews", spec := "splayNews", unfollowed := true, recurses := true, apart := false }
def SplayNewsSaid : Prop := splayNewsRow.holds Try.pinned (OpenSpec.ofChange splayNewsSpec)

/-- ITS FALSE NEIGHBOUR: 'it returns false'. Refute it at one input. -/
def splayNewsWrong : ChangeSpec := { name := "splayNews", fn := fun _ => fun
  | [d] => { results := [.lit (.bool false)], args := [d] }
  | _ => none }
def SplayNewsWrongFalsely : Prop := splayNewsRow.holds Try.pinned (OpenSpec.ofChange splayNewsWrong)

/-- 'horizonlaw8.SplaySplits': WHATEVER THE INPUT: true; the input reads as it did. -/
def splaySplitsSpec : ChangeSpec := { name := "splaySplits", fn := fun _ => fun
  | [d1, d2] => { results := [.lit (.bool true)], args := [d1, d2] }
  | _ => none }
def splaySplitsRow : OpenClaim := { program := "ytkncalocpnkegaa", sum := "582be7036ecf0deec0a2aa51e743636a5ba96d2a3d1539e70ae192e256a5784d", func := "horizon/horizonlaw8.SplaySplits", spec := "splaySplits", unfollowed := true, recurses := true, apart := false }
def SplaySplitsSaid : Prop := splaySplitsRow.holds Try.pinned (OpenSpec.ofChange splaySplitsSpec)

/-- ITS FALSE NEIGHBOUR: 'it returns false'. Refute it at one input. -/
def splaySplitsWrong : ChangeSpec := { name := "splaySplits", fn := fun _ => fun
  | [d1, d2] => { results := [.lit (.bool false)], args := [d1, d2] }
  | _ => none }
def SplaySplitsWrongFalsely : Prop := splaySplitsRow.holds Try.pinned (OpenSpec.ofChange splaySplitsWrong)

/-- 'horizonlaw8.SplayRooms': WHATEVER THE INPUT: true; the input reads as it did. -/
def splayRoomsSpec : ChangeSpec := { name := "splayRooms", fn := fun _ => fun
  | [d1, d2] => { results := [.lit (.bool true)], args := [d1, d2] }
  | _ => none }
def splayRoomsRow : OpenClaim := { program := "ytkncalocpnkegaa", sum := "582be7036ecf0deec0a2aa51e743636a5ba96d2a3d1539e70ae192e256a5784d", func := "horizon/horizonlaw8.SplayRooms", spec := "splayRooms", unfollowed := true, recurses := true, apart := false }
def SplayRoomsSaid : Prop := splayRoomsRow.holds Try.pinned (OpenSpec.ofChange splayRoomsSpec)

/-- ITS FALSE NEIGHBOUR: 'it returns false'. Refute it at one input. -/
def splayRoomsWrong : ChangeSpec := { name := "splayRooms", fn := fun _ => fun
  | [d1, d2] => { results := [.lit (.bool false)], args := [d1, d2] }
  | _ => none }
def SplayRoomsWrongFalsely : Prop := splayRoomsRow.holds Try.pinned (OpenSpec.ofChange splayRoomsWrong)

/-- 'horizonlaw8.SplayEachs': WHATEVER THE INPUT: true; the input reads as it did. -/
def splayEachsSpec : ChangeSpec := { name := "splayEachs", fn := fun _ => fun
  | [d1, d2, d3, d4] => { results := [.lit (.bool true)], args := [d1, d2, d3, d4] }
  | _ => none }
def splayEachsRow : OpenClaim := { program := "ytkncalocpnkegaa", sum := "582be7036ecf0deec0a2aa51e743636a5ba96d2a3d1539e70ae192e256a5784d", func := "horizon/horizonlaw8.SplayEachs", spec := "splayEachs", unfollowed := true, recurses := true, apart := false }
def SplayEachsSaid : Prop := splayEachsRow.holds Try.pinned (OpenSpec.ofChange splayEachsSpec)

/-- ITS FALSE NEIGHBOUR: 'it returns false'. Refute it at one input. -/
def splayEachsWrong : ChangeSpec := { name := "splayEachs", fn := fun _ => fun
  | [d1, d2, d3, d4] => { results := [.lit (.bool false)], args := [d1, d2, d3, d4] }
  | _ => none }
def SplayEachsWrongFalsely : Prop := splayEachsRow.holds Try.pinned (OpenSpec.ofChange splayEachsWrong)

/-- 'horizonlaw8.SplayRoots': WHATEVER THE INPUT: true; the input reads as it did. -/
def splayRootsSpec : ChangeSpec := { name := "splayRoots", fn := fun _ => fun
  | [d1, d2, d3] => { results := [.lit (.bool true)], args := [d1, d2, d3] }
  | _ => none }
def splayRootsRow : OpenClaim := { program := "ytkncalocpnkegaa", sum := "582be7036ecf0deec0a2aa51e743636a5ba96d2a3d1539e70ae192e256a5784d", func := "horizon/horizonlaw8.SplayRoots", spec := "splayRoots", unfollowed := true, recurses := true, apart := false }
def SplayRootsSaid : Prop := splayRootsRow.holds Try.pinned (OpenSpec.ofChange splayRootsSpec)

/-- ITS FALSE NEIGHBOUR: 'it returns false'. Refute it at one input. -/
def splayRootsWrong : ChangeSpec := { name := "splayRoots", fn := fun _ => fun
  | [d1, d2, d3] => { results := [.lit (.bool false)], args := [d1, d2, d3] }
  | _ => none }
def SplayRootsWrongFalsely : Prop := splayRootsRow.holds Try.pinned (OpenSpec.ofChange splayRootsWrong)

/-- 'horizonlaw8.SplaySorts': WHATEVER THE INPUT: true; the input reads as it did. -/
def splaySortsSpec : ChangeSpec := { name := "splaySorts", fn := fun _ => fun
  | [d] => { results := [.lit (.bool true)], args := [d] }
  | _ => none }
def splaySortsRow : OpenClaim := { program := "ytkncalocpnkegaa", sum := "582be7036ecf0deec0a2aa51e743636a5ba96d2a3d1539e70ae192e256a5784d", func := "horizon/horizonlaw8.SplaySorts", spec := "splaySorts", unfollowed := true, recurses := true, apart := false }
def SplaySortsSaid : Prop := splaySortsRow.holds Try.pinned (OpenSpec.ofChange splaySortsSpec)

/-- ITS FALSE NEIGHBOUR: 'it returns false'. Refute it at one input. -/
def splaySortsWrong : ChangeSpec := { name := "splaySorts", fn := fun _ => fun
  | [d] => { results := [.lit (.bool false)], args := [d] }
  | _ => none }
def SplaySortsWrongFalsely : Prop := splaySortsRow.holds Try.pinned (OpenSpec.ofChange splaySortsWrong)

/- THE SECOND FORM. 'bulk': how many values and letters a reading holds, each counted each time it is reached (what is shared counts as often as it is met; a slice's spare places count too). A statement '..UptoSaid' is the law's where the arguments, and the package variables that the reading takes, are together of bulk at most 1048576: NARROWER than '..Said'. Prove '..Said' where nothing that the law and all that it calls make is longer than what came in: it says more and counts as full. Else prove '..UptoSaid'. A law counts once. -/
mutual
def uptoBulk {H : Type} : DataW H → Nat
  | .lit (.string bytes) => bytes.length + 1
  | .lit _ => 1
  | .nil => 1
  | .ptr d => uptoBulk d + 1
  | .slice elems spare => uptoBulkAll elems + uptoBulkAll spare + 1
  | .agg parts => uptoBulkAll parts + 1
  | .iface _ d => uptoBulk d + 1
  | .map entries => uptoBulkEntries entries + 1
  | .held _ => 1
def uptoBulkAll {H : Type} : List (DataW H) → Nat
  | [] => 0
  | d :: r => uptoBulk d + uptoBulkAll r
def uptoBulkEntries {H : Type} : List (Lit × DataW H) → Nat
  | [] => 0
  | x :: r => uptoBulkEntry x + uptoBulkEntries r
def uptoBulkEntry {H : Type} : Lit × DataW H → Nat
  | (.string bytes, d) => bytes.length + uptoBulk d + 1
  | (_, d) => uptoBulk d + 1
 end
def uptoSmall : (H : Type) → List (DataW H) → Bool := fun _ ds => decide (uptoBulkAll ds ≤ 1048576)
def OpenSpec.upto (s : _root_.Go.ChangeSpec) : _root_.Go.OpenSpec := { _root_.Go.OpenSpec.ofChange s with cond := some uptoSmall }

/-- 'horizonlaw8.SplayNews', WHERE WHAT IT READS IS OF BULK AT MOST 1048576: true; the input reads as it did. -/
def splayNewsUptoRow : OpenClaim := { program := "ytkncalocpnkegaa", sum := "582be7036ecf0deec0a2aa51e743636a5ba96d2a3d1539e70ae192e256a5784d", func := "horizon/horizonlaw8.SplayNews", spec := "splayNews", unfollowed := true, recurses := true, apart := false, narrowed := true }
def SplayNewsUptoSaid : Prop := splayNewsUptoRow.holds Try.pinned (OpenSpec.upto splayNewsSpec)

/-- 'horizonlaw8.SplaySplits', WHERE WHAT IT READS IS OF BULK AT MOST 1048576: true; the input reads as it did. -/
def splaySplitsUptoRow : OpenClaim := { program := "ytkncalocpnkegaa", sum := "582be7036ecf0deec0a2aa51e743636a5ba96d2a3d1539e70ae192e256a5784d", func := "horizon/horizonlaw8.SplaySplits", spec := "splaySplits", unfollowed := true, recurses := true, apart := false, narrowed := true }
def SplaySplitsUptoSaid : Prop := splaySplitsUptoRow.holds Try.pinned (OpenSpec.upto splaySplitsSpec)

/-- 'horizonlaw8.SplayRooms', WHERE WHAT IT READS IS OF BULK AT MOST 1048576: true; the input reads as it did. -/
def splayRoomsUptoRow : OpenClaim := { program := "ytkncalocpnkegaa", sum := "582be7036ecf0deec0a2aa51e743636a5ba96d2a3d1539e70ae192e256a5784d", func := "horizon/horizonlaw8.SplayRooms", spec := "splayRooms", unfollowed := true, recurses := true, apart := false, narrowed := true }
def SplayRoomsUptoSaid : Prop := splayRoomsUptoRow.holds Try.pinned (OpenSpec.upto splayRoomsSpec)

/-- 'horizonlaw8.SplayEachs', WHERE WHAT IT READS IS OF BULK AT MOST 1048576: true; the input reads as it did. -/
def splayEachsUptoRow : OpenClaim := { program := "ytkncalocpnkegaa", sum := "582be7036ecf0deec0a2aa51e743636a5ba96d2a3d1539e70ae192e256a5784d", func := "horizon/horizonlaw8.SplayEachs", spec := "splayEachs", unfollowed := true, recurses := true, apart := false, narrowed := true }
def SplayEachsUptoSaid : Prop := splayEachsUptoRow.holds Try.pinned (OpenSpec.upto splayEachsSpec)

/-- 'horizonlaw8.SplayRoots', WHERE WHAT IT READS IS OF BULK AT MOST 1048576: true; the input reads as it did. -/
def splayRootsUptoRow : OpenClaim := { program := "ytkncalocpnkegaa", sum := "582be7036ecf0deec0a2aa51e743636a5ba96d2a3d1539e70ae192e256a5784d", func := "horizon/horizonlaw8.SplayRoots", spec := "splayRoots", unfollowed := true, recurses := true, apart := false, narrowed := true }
def SplayRootsUptoSaid : Prop := splayRootsUptoRow.holds Try.pinned (OpenSpec.upto splayRootsSpec)

/-- 'horizonlaw8.SplaySorts', WHERE WHAT IT READS IS OF BULK AT MOST 1048576: true; the input reads as it did. -/
def splaySortsUptoRow : OpenClaim := { program := "ytkncalocpnkegaa", sum := "582be7036ecf0deec0a2aa51e743636a5ba96d2a3d1539e70ae192e256a5784d", func := "horizon/horizonlaw8.SplaySorts", spec := "splaySorts", unfollowed := true, recurses := true, apart := false, narrowed := true }
def SplaySortsUptoSaid : Prop := splaySortsUptoRow.holds Try.pinned (OpenSpec.upto splaySortsSpec)

end Rows
end Go.Proofs.Ytkncalocpnkegaa
