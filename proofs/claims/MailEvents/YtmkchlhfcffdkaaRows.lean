/-
  No cell of these rows narrows 'for every input' (looked for: loops, veiled, ifaces, maps, wideKeys, modest, calm, conditions, laid).
  DERIVED. THE GIVEN ROWS OF THIS SEAT. 2 by the template 'for every input the law returns true; each argument reads behind the call as it read before'; 0 by the template 'total and deterministic' (their statements: YtmkchlhfcffdkaaTotals.lean).
  GIVEN WITH THE SEED: the statements are not yours to turn. If you find one false, say at which input.
  Laid BY PROGRAM, IN A SANDBOX (cutbox-rows.mjs): the forced cells as the released guide's own fill.sh prints them over the translation 1288f3da72487601… (all of the seat's roots in one cut). By AI agents, Wed Nov 11 2026. No macro, syntax, notation, axiom, sorry.
-/
import Derived.Test.YtmkchlhfcffdkaaChecked
import GoSem.Claim
import GoSem.ClaimJoined
import GoSem.ClaimMapViews
import Derived.JoinedTies
import Derived.KernelRfl
namespace Go.Proofs.Ytmkchlhfcffdkaa
/- THE CELL 'sum', in the pinned program and in every row, IS THE sha256 OF THE DUMP (.gsa) THAT YtmkchlhfcffdkaaProg.lean LOADS. Nothing in Lean hashes anything: it is a label: what it is worth is what the hold of that sum in a sandbox is worth. -/
noncomputable def Try.pinned : Pinned := { name := "ytmkchlhfcffdkaa", sum := "1288f3da724876018f8fb7fe9d78aa4c83f84eb81fb8bcd3657e6b923ae8dbaa", checked := Try.checked }
namespace Rows
def none {H : Type} : Left H := { results := [], args := [] }

/-- 'horizonlaw9.MailTexts': WHATEVER THE INPUT: true; the input reads as it did. -/
def mailTextsSpec : ChangeSpec := { name := "mailTexts", fn := fun _ => fun
  | [d1, d2] => { results := [.lit (.bool true)], args := [d1, d2] }
  | _ => none }
def mailTextsRow : OpenClaim := { program := "ytmkchlhfcffdkaa", sum := "1288f3da724876018f8fb7fe9d78aa4c83f84eb81fb8bcd3657e6b923ae8dbaa", func := "horizon/horizonlaw9.MailTexts", spec := "mailTexts", unfollowed := true, recurses := true, apart := false }
def MailTextsSaid : Prop := mailTextsRow.holds Try.pinned (OpenSpec.ofChange mailTextsSpec)

/-- ITS FALSE NEIGHBOUR: 'it returns false'. Refute it at one input. -/
def mailTextsWrong : ChangeSpec := { name := "mailTexts", fn := fun _ => fun
  | [d1, d2] => { results := [.lit (.bool false)], args := [d1, d2] }
  | _ => none }
def MailTextsWrongFalsely : Prop := mailTextsRow.holds Try.pinned (OpenSpec.ofChange mailTextsWrong)

/-- 'horizonlaw9.MailEvents': WHATEVER THE INPUT: true; the input reads as it did. -/
def mailEventsSpec : ChangeSpec := { name := "mailEvents", fn := fun _ => fun
  | [d] => { results := [.lit (.bool true)], args := [d] }
  | _ => none }
def mailEventsRow : OpenClaim := { program := "ytmkchlhfcffdkaa", sum := "1288f3da724876018f8fb7fe9d78aa4c83f84eb81fb8bcd3657e6b923ae8dbaa", func := "horizon/horizonlaw9.MailEvents", spec := "mailEvents", unfollowed := true, recurses := true, apart := false }
def MailEventsSaid : Prop := mailEventsRow.holds Try.pinned (OpenSpec.ofChange mailEventsSpec)

/-- ITS FALSE NEIGHBOUR: 'it returns false'. Refute it at one input. -/
def mailEventsWrong : ChangeSpec := { name := "mailEvents", fn := fun _ => fun
  | [d] => { results := [.lit (.bool false)], args := [d] }
  | _ => none }
def MailEventsWrongFalsely : Prop := mailEventsRow.holds Try.pinned (OpenSpec.ofChange mailEventsWrong)

/- THE SECOND FORM. 'bulk': how many values and letters a reading holds, each counted each time it is reached (what is shared counts as often as it is met; a slice's spare places count too). A statement '..UptoSaid' is the law's where the arguments, and the package variables that the reading takes, are together of bulk at most 1048576: NARROWER than '..Said'. Prove '..Said' where nothing that the law and all that it calls make is longer than what came in: it says more and counts as full. Else prove '..UptoSaid'. A law counts once. -/
mutual
def uptoBulk {H : Type} : DataW H → Nat
  | .lit (.string bytes) => bytes.length + 1
  | .lit _ => 1
  | .nil => 1
  | .ptr d => uptoBulk d + 1
  | .slice elems spare => uptoBulkAll elems + uptoBulkAll spare + 1
  | .agg parts => uptoBulkAll parts + 1
  | .iface _ d => uptoBulk d + 1
  | .map entries => uptoBulkEntries entries + 1
  | .held _ => 1
def uptoBulkAll {H : Type} : List (DataW H) → Nat
  | [] => 0
  | d :: r => uptoBulk d + uptoBulkAll r
def uptoBulkEntries {H : Type} : List (Lit × DataW H) → Nat
  | [] => 0
  | x :: r => uptoBulkEntry x + uptoBulkEntries r
def uptoBulkEntry {H : Type} : Lit × DataW H → Nat
  | (.string bytes, d) => bytes.length + uptoBulk d + 1
  | (_, d) => uptoBulk d + 1
 end
def uptoSmall : (H : Type) → List (DataW H) → Bool := fun _ ds => decide (uptoBulkAll ds ≤ 1048576)
def OpenSpec.upto (s : _root_.Go.ChangeSpec) : _root_.Go.OpenSpec := { _root_.Go.OpenSpec.ofChange s with cond := some uptoSmall }

/-- 'horizonlaw9.MailTexts', WHERE WHAT IT READS IS OF BULK AT MOST 1048576: true; the input reads as it did. -/
def mailTextsUptoRow : OpenClaim := { program := "ytmkchlhfcffdkaa", sum := "1288f3da724876018f8fb7fe9d78aa4c83f84eb81fb8bcd3657e6b923ae8dbaa", func := "horizon/horizonlaw9.MailTexts", spec := "mailTexts", unfollowed := true, recurses := true, apart := false, narrowed := true }
def MailTextsUptoSaid : Prop := mailTextsUptoRow.holds Try.pinned (OpenSpec.upto mailTextsSpec)

/-- 'horizonlaw9.MailEvents', WHERE WHAT IT READS IS OF BULK AT MOST 1048576: true; the input reads as it did. -/
def mailEventsUptoRow : OpenClaim := { program := "ytmkchlhfcffdkaa", sum := "1288f3da724876018f8fb7fe9d78aa4c83f84eb81fb8bcd3657e6b923ae8dbaa", func := "horizon/horizonlaw9.MailEvents", spec := "mailEvents", unfollowed := true, recurses := true, apart := false, narrowed := true }
def MailEventsUptoSaid : Prop := mailEventsUptoRow.holds Try.pinned (OpenSpec.upto mailEventsSpec)

end Rows
end Go.Proofs.Ytmkchlhfcffdkaa
