/-
  No cell of these rows narrows 'for every input' (looked for: loops, veiled, ifaces, maps, wideKeys, modest, calm, conditions, laid).
  DERIVED. THE GIVEN ROWS OF THIS SEAT. 5 by the template 'for every input the law returns true; each argument reads behind the call as it read before'; 0 by the template 'total and deterministic' (their statements: YtbnpjcpakgafoaaTotals.lean).
  GIVEN WITH THE SEED: the statements are not yours to turn. If you find one false, say at which input.
  Laid BY PROGRAM, IN A SANDBOX (cutbox-rows.mjs): the forced cells as the released guide's own fill.sh prints them over the translation 63177a87dce4bb3d… (all of the seat's roots in one cut). By AI agents, Wed Nov 11 2026. No macro, syntax, notation, axiom, sorry.
-/
import Derived.Test.YtbnpjcpakgafoaaChecked
import GoSem.Claim
import GoSem.ClaimJoined
import GoSem.ClaimMapViews
import Derived.JoinedTies
import Derived.KernelRfl
namespace Go.Proofs.Ytbnpjcpakgafoaa
/- THE CELL 'sum', in the pinned program and in every row, IS THE sha256 OF THE DUMP (.gsa) THAT YtbnpjcpakgafoaaProg.lean LOADS. Nothing in Lean hashes anything: it is a label: what it is worth is what the hold of that sum in a sandbox is worth. -/
noncomputable def Try.pinned : Pinned := { name := "ytbnpjcpakgafoaa", sum := "63177a87dce4bb3dd85587a54c5dc629e72f7e71e2d77257398ac8d56f49d187", checked := Try.checked }
namespace Rows
def none {H : Type} : Left H := { results := [], args := [] }

/-- 'horizonlaw8.SplaySplits': WHATEVER THE INPUT: true; the input reads as it did. -/
def splaySplitsSpec : ChangeSpec := { name := "splaySplits", fn := fun _ => fun
  | [d1, d2] => { results := [.lit (.bool true)], args := [d1, d2] }
  | _ => none }
def splaySplitsRow : OpenClaim := { program := "ytbnpjcpakgafoaa", sum := "63177a87dce4bb3dd85587a54c5dc629e72f7e71e2d77257398ac8d56f49d187", func := "horizon/horizonlaw8.SplaySplits", spec := "splaySplits", unfollowed := true, recurses := true, apart := false }
def SplaySplitsSaid : Prop := splaySplitsRow.holds Try.pinned (OpenSpec.ofChange splaySplitsSpec)

/-- ITS FALSE NEIGHBOUR: 'it returns false'. Refute it at one input. -/
def splaySplitsWrong : ChangeSpec := { name := "splaySplits", fn := fun _ => fun
  | [d1, d2] => { results := [.lit (.bool false)], args := [d1, d2] }
  | _ => none }
def SplaySplitsWrongFalsely : Prop := splaySplitsRow.holds Try.pinned (OpenSpec.ofChange splaySplitsWrong)

/-- 'horizonlaw8.SplayEachs': WHATEVER THE INPUT: true; the input reads as it did. -/
def splayEachsSpec : ChangeSpec := { name := "splayEachs", fn := fun _ => fun
  | [d1, d2, d3, d4] => { results := [.lit (.bool true)], args := [d1, d2, d3, d4] }
  | _ => none }
def splayEachsRow : OpenClaim := { program := "ytbnpjcpakgafoaa", sum := "63177a87dce4bb3dd85587a54c5dc629e72f7e71e2d77257398ac8d56f49d187", func := "horizon/horizonlaw8.SplayEachs", spec := "splayEachs", unfollowed := true, recurses := true, apart := false }
def SplayEachsSaid : Prop := splayEachsRow.holds Try.pinned (OpenSpec.ofChange splayEachsSpec)

/-- ITS FALSE NEIGHBOUR: 'it returns false'. Refute it at one input. -/
def splayEachsWrong : ChangeSpec := { name := "splayEachs", fn := fun _ => fun
  | [d1, d2, d3, d4] => { results := [.lit (.bool false)], args := [d1, d2, d3, d4] }
  | _ => none }
def SplayEachsWrongFalsely : Prop := splayEachsRow.holds Try.pinned (OpenSpec.ofChange splayEachsWrong)

/-- 'horizonlaw8.SplayRoots': WHATEVER THE INPUT: true; the input reads as it did. -/
def splayRootsSpec : ChangeSpec := { name := "splayRoots", fn := fun _ => fun
  | [d1, d2, d3] => { results := [.lit (.bool true)], args := [d1, d2, d3] }
  | _ => none }
def splayRootsRow : OpenClaim := { program := "ytbnpjcpakgafoaa", sum := "63177a87dce4bb3dd85587a54c5dc629e72f7e71e2d77257398ac8d56f49d187", func := "horizon/horizonlaw8.SplayRoots", spec := "splayRoots", unfollowed := true, recurses := true, apart := false }
def SplayRootsSaid : Prop := splayRootsRow.holds Try.pinned (OpenSpec.ofChange splayRootsSpec)

/-- ITS FALSE NEIGHBOUR: 'it returns false'. Refute it at one input. -/
def splayRootsWrong : ChangeSpec := { name := "splayRoots", fn := fun _ => fun
  | [d1, d2, d3] => { results := [.lit (.bool false)], args := [d1, d2, d3] }
  | _ => none }
def SplayRootsWrongFalsely : Prop := splayRootsRow.holds Try.pinned (OpenSpec.ofChange splayRootsWrong)

/-- 'horizonlaw8.SplayHolds': WHATEVER THE INPUT: true; the input reads as it did. -/
def splayHoldsSpec : ChangeSpec := { name := "splayHolds", fn := fun _ => fun
  | [d1, d2] => { results := [.lit (.bool true)], args := [d1, d2] }
  | _ => none }
def splayHoldsRow : OpenClaim := { program := "ytbnpjcpakgafoaa", sum := "63177a87dce4bb3dd85587a54c5dc629e72f7e71e2d77257398ac8d56f49d187", func := "horizon/horizonlaw8.SplayHolds", spec := "splayHolds", unfollowed := true, recurses := true, apart := false }
def SplayHoldsSaid : Prop := splayHoldsRow.holds Try.pinned (OpenSpec.ofChange splayHoldsSpec)

/-- ITS FALSE NEIGHBOUR: 'it returns false'. Refute it at one input. -/
def splayHoldsWrong : ChangeSpec := { name := "splayHolds", fn := fun _ => fun
  | [d1, d2] => { results := [.lit (.bool false)], args := [d1, d2] }
  | _ => none }
def SplayHoldsWrongFalsely : Prop := splayHoldsRow.holds Try.pinned (OpenSpec.ofChange splayHoldsWrong)

/-- 'horizonlaw9.MailNews': WHATEVER THE INPUT: true; the input reads as it did. -/
def mailNewsSpec : ChangeSpec := { name := "mailNews", fn := fun _ => fun
  | [d1, d2] => { results := [.lit (.bool true)], args := [d1, d2] }
  | _ => none }
def mailNewsRow : OpenClaim := { program := "ytbnpjcpakgafoaa", sum := "63177a87dce4bb3dd85587a54c5dc629e72f7e71e2d77257398ac8d56f49d187", func := "horizon/horizonlaw9.MailNews", spec := "mailNews", apart := false }
def MailNewsSaid : Prop := mailNewsRow.holds Try.pinned (OpenSpec.ofChange mailNewsSpec)

/-- ITS FALSE NEIGHBOUR: 'it returns false'. Refute it at one input. -/
def mailNewsWrong : ChangeSpec := { name := "mailNews", fn := fun _ => fun
  | [d1, d2] => { results := [.lit (.bool false)], args := [d1, d2] }
  | _ => none }
def MailNewsWrongFalsely : Prop := mailNewsRow.holds Try.pinned (OpenSpec.ofChange mailNewsWrong)

/- THE SECOND FORM. 'bulk': how many values and letters a reading holds, each counted each time it is reached (what is shared counts as often as it is met; a slice's spare places count too). A statement '..UptoSaid' is the law's where the arguments, and the package variables that the reading takes, are together of bulk at most 1048576: NARROWER than '..Said'. Prove '..Said' where nothing that the law and all that it calls make is longer than what came in: it says more and counts as full. Else prove '..UptoSaid'. A law counts once. -/
mutual
def uptoBulk {H : Type} : DataW H → Nat
  | .lit (.string bytes) => bytes.length + 1
  | .lit _ => 1
  | .nil => 1
  | .ptr d => uptoBulk d + 1
  | .slice elems spare => uptoBulkAll elems + uptoBulkAll spare + 1
  | .agg parts => uptoBulkAll parts + 1
  | .iface _ d => uptoBulk d + 1
  | .map entries => uptoBulkEntries entries + 1
  | .held _ => 1
def uptoBulkAll {H : Type} : List (DataW H) → Nat
  | [] => 0
  | d :: r => uptoBulk d + uptoBulkAll r
def uptoBulkEntries {H : Type} : List (Lit × DataW H) → Nat
  | [] => 0
  | x :: r => uptoBulkEntry x + uptoBulkEntries r
def uptoBulkEntry {H : Type} : Lit × DataW H → Nat
  | (.string bytes, d) => bytes.length + uptoBulk d + 1
  | (_, d) => uptoBulk d + 1
 end
def uptoSmall : (H : Type) → List (DataW H) → Bool := fun _ ds => decide (uptoBulkAll ds ≤ 1048576)
def OpenSpec.upto (s : _root_.Go.ChangeSpec) : _root_.Go.OpenSpec := { _root_.Go.OpenSpec.ofChange s with cond := some uptoSmall }

/-- 'horizonlaw8.SplaySplits', WHERE WHAT IT READS IS OF BULK AT MOST 1048576: true; the input reads as it did. -/
def splaySplitsUptoRow : OpenClaim := { program := "ytbnpjcpakgafoaa", sum := "63177a87dce4bb3dd85587a54c5dc629e72f7e71e2d77257398ac8d56f49d187", func := "horizon/horizonlaw8.SplaySplits", spec := "splaySplits", unfollowed := true, recurses := true, apart := false, narrowed := true }
def SplaySplitsUptoSaid : Prop := splaySplitsUptoRow.holds Try.pinned (OpenSpec.upto splaySplitsSpec)

/-- 'horizonlaw8.SplayEachs', WHERE WHAT IT READS IS OF BULK AT MOST 1048576: true; the input reads as it did. -/
def splayEachsUptoRow : OpenClaim := { program := "ytbnpjcpakgafoaa", sum := "63177a87dce4bb3dd85587a54c5dc629e72f7e71e2d77257398ac8d56f49d187", func := "horizon/horizonlaw8.SplayEachs", spec := "splayEachs", unfollowed := true, recurses := true, apart := false, narrowed := true }
def SplayEachsUptoSaid : Prop := splayEachsUptoRow.holds Try.pinned (OpenSpec.upto splayEachsSpec)

/-- 'horizonlaw8.SplayRoots', WHERE WHAT IT READS IS OF BULK AT MOST 1048576: true; the input reads as it did. -/
def splayRootsUptoRow : OpenClaim := { program := "ytbnpjcpakgafoaa", sum := "63177a87dce4bb3dd85587a54c5dc629e72f7e71e2d77257398ac8d56f49d187", func := "horizon/horizonlaw8.SplayRoots", spec := "splayRoots", unfollowed := true, recurses := true, apart := false, narrowed := true }
def SplayRootsUptoSaid : Prop := splayRootsUptoRow.holds Try.pinned (OpenSpec.upto splayRootsSpec)

/-- 'horizonlaw8.SplayHolds', WHERE WHAT IT READS IS OF BULK AT MOST 1048576: true; the input reads as it did. -/
def splayHoldsUptoRow : OpenClaim := { program := "ytbnpjcpakgafoaa", sum := "63177a87dce4bb3dd85587a54c5dc629e72f7e71e2d77257398ac8d56f49d187", func := "horizon/horizonlaw8.SplayHolds", spec := "splayHolds", unfollowed := true, recurses := true, apart := false, narrowed := true }
def SplayHoldsUptoSaid : Prop := splayHoldsUptoRow.holds Try.pinned (OpenSpec.upto splayHoldsSpec)

/-- 'horizonlaw9.MailNews', WHERE WHAT IT READS IS OF BULK AT MOST 1048576: true; the input reads as it did. -/
def mailNewsUptoRow : OpenClaim := { program := "ytbnpjcpakgafoaa", sum := "63177a87dce4bb3dd85587a54c5dc629e72f7e71e2d77257398ac8d56f49d187", func := "horizon/horizonlaw9.MailNews", spec := "mailNews", apart := false, narrowed := true }
def MailNewsUptoSaid : Prop := mailNewsUptoRow.holds Try.pinned (OpenSpec.upto mailNewsSpec)

end Rows
end Go.Proofs.Ytbnpjcpakgafoaa
