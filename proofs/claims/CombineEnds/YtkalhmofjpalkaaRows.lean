/-
  No cell of these rows narrows 'for every input' (looked for: loops, veiled, ifaces, maps, wideKeys, modest, calm, conditions, laid).
  DERIVED. THE GIVEN ROWS OF THIS SEAT. 6 by the template 'for every input the law returns true; each argument reads behind the call as it read before'; 0 by the template 'total and deterministic' (their statements: YtkalhmofjpalkaaTotals.lean).
  GIVEN WITH THE SEED: the statements are not yours to turn. If you find one false, say at which input.
  Laid BY PROGRAM, IN A SANDBOX (cutbox-rows.mjs): the forced cells as the released guide's own fill.sh prints them over the translation d5e6229290b0766b… (all of the seat's roots in one cut). By AI agents, Wed Nov 11 2026. No macro, syntax, notation, axiom, sorry.
-/
import Derived.Test.YtkalhmofjpalkaaChecked
import GoSem.Claim
import GoSem.ClaimJoined
import GoSem.ClaimMapViews
import Derived.JoinedTies
import Derived.KernelRfl
namespace Go.Proofs.Ytkalhmofjpalkaa
/- THE CELL 'sum', in the pinned program and in every row, IS THE sha256 OF THE DUMP (.gsa) THAT YtkalhmofjpalkaaProg.lean LOADS. Nothing in Lean hashes anything: it is a label: what it is worth is what the hold of that sum in a sandbox is worth. -/
noncomputable def Try.pinned : Pinned := { name := "ytkalhmofjpalkaa", sum := "d5e6229290b0766b3dfada1834e1f1afc631593708b95f665699dbaffa21781d", checked := Try.checked }
namespace Rows
def none {H : Type} : Left H := { results := [], args := [] }

/-- 'horizonlaw10.CombineVotesJoin': WHATEVER THE INPUT: true; the input reads as it did. -/
def combineVotesJoinSpec : ChangeSpec := { name := "combineVotesJoin", fn := fun _ => fun
  | [d1, d2, d3] => { results := [.lit (.bool true)], args := [d1, d2, d3] }
  | _ => none }
def combineVotesJoinRow : OpenClaim := { program := "ytkalhmofjpalkaa", sum := "d5e6229290b0766b3dfada1834e1f1afc631593708b95f665699dbaffa21781d", func := "horizon/horizonlaw10.CombineVotesJoin", spec := "combineVotesJoin", apart := false }
def CombineVotesJoinSaid : Prop := combineVotesJoinRow.holds Try.pinned (OpenSpec.ofChange combineVotesJoinSpec)

/-- ITS FALSE NEIGHBOUR: 'it returns false'. Refute it at one input. -/
def combineVotesJoinWrong : ChangeSpec := { name := "combineVotesJoin", fn := fun _ => fun
  | [d1, d2, d3] => { results := [.lit (.bool false)], args := [d1, d2, d3] }
  | _ => none }
def CombineVotesJoinWrongFalsely : Prop := combineVotesJoinRow.holds Try.pinned (OpenSpec.ofChange combineVotesJoinWrong)

/-- 'horizonlaw10.CombineVotes': WHATEVER THE INPUT: true; the input reads as it did. -/
def combineVotesSpec : ChangeSpec := { name := "combineVotes", fn := fun _ => fun
  | [d1, d2] => { results := [.lit (.bool true)], args := [d1, d2] }
  | _ => none }
def combineVotesRow : OpenClaim := { program := "ytkalhmofjpalkaa", sum := "d5e6229290b0766b3dfada1834e1f1afc631593708b95f665699dbaffa21781d", func := "horizon/horizonlaw10.CombineVotes", spec := "combineVotes", apart := false }
def CombineVotesSaid : Prop := combineVotesRow.holds Try.pinned (OpenSpec.ofChange combineVotesSpec)

/-- ITS FALSE NEIGHBOUR: 'it returns false'. Refute it at one input. -/
def combineVotesWrong : ChangeSpec := { name := "combineVotes", fn := fun _ => fun
  | [d1, d2] => { results := [.lit (.bool false)], args := [d1, d2] }
  | _ => none }
def CombineVotesWrongFalsely : Prop := combineVotesRow.holds Try.pinned (OpenSpec.ofChange combineVotesWrong)

/-- 'horizonlaw10.CombineEnds': WHATEVER THE INPUT: true; the input reads as it did. -/
def combineEndsSpec : ChangeSpec := { name := "combineEnds", fn := fun _ => fun
  | [d1, d2, d3] => { results := [.lit (.bool true)], args := [d1, d2, d3] }
  | _ => none }
def combineEndsRow : OpenClaim := { program := "ytkalhmofjpalkaa", sum := "d5e6229290b0766b3dfada1834e1f1afc631593708b95f665699dbaffa21781d", func := "horizon/horizonlaw10.CombineEnds", spec := "combineEnds", unfollowed := true, recurses := true, apart := false }
def CombineEndsSaid : Prop := combineEndsRow.holds Try.pinned (OpenSpec.ofChange combineEndsSpec)

/-- ITS FALSE NEIGHBOUR: 'it returns false'. Refute it at one input. -/
def combineEndsWrong : ChangeSpec := { name := "combineEnds", fn := fun _ => fun
  | [d1, d2, d3] => { results := [.lit (.bool false)], args := [d1, d2, d3] }
  | _ => none }
def CombineEndsWrongFalsely : Prop := combineEndsRow.holds Try.pinned (OpenSpec.ofChange combineEndsWrong)

/-- 'horizonlaw10.CombineAgrees': WHATEVER THE INPUT: true; the input reads as it did. -/
def combineAgreesSpec : ChangeSpec := { name := "combineAgrees", fn := fun _ => fun
  | [d1, d2, d3, d4] => { results := [.lit (.bool true)], args := [d1, d2, d3, d4] }
  | _ => none }
def combineAgreesRow : OpenClaim := { program := "ytkalhmofjpalkaa", sum := "d5e6229290b0766b3dfada1834e1f1afc631593708b95f665699dbaffa21781d", func := "horizon/horizonlaw10.CombineAgrees", spec := "combineAgrees", unfollowed := true, recurses := true, apart := false }
def CombineAgreesSaid : Prop := combineAgreesRow.holds Try.pinned (OpenSpec.ofChange combineAgreesSpec)

/-- ITS FALSE NEIGHBOUR: 'it returns false'. Refute it at one input. -/
def combineAgreesWrong : ChangeSpec := { name := "combineAgrees", fn := fun _ => fun
  | [d1, d2, d3, d4] => { results := [.lit (.bool false)], args := [d1, d2, d3, d4] }
  | _ => none }
def CombineAgreesWrongFalsely : Prop := combineAgreesRow.holds Try.pinned (OpenSpec.ofChange combineAgreesWrong)

/-- 'horizonlaw10.CombineQuiet': WHATEVER THE INPUT: true; the input reads as it did. -/
def combineQuietSpec : ChangeSpec := { name := "combineQuiet", fn := fun _ => fun
  | [d1, d2] => { results := [.lit (.bool true)], args := [d1, d2] }
  | _ => none }
def combineQuietRow : OpenClaim := { program := "ytkalhmofjpalkaa", sum := "d5e6229290b0766b3dfada1834e1f1afc631593708b95f665699dbaffa21781d", func := "horizon/horizonlaw10.CombineQuiet", spec := "combineQuiet", unfollowed := true, recurses := true, apart := false }
def CombineQuietSaid : Prop := combineQuietRow.holds Try.pinned (OpenSpec.ofChange combineQuietSpec)

/-- ITS FALSE NEIGHBOUR: 'it returns false'. Refute it at one input. -/
def combineQuietWrong : ChangeSpec := { name := "combineQuiet", fn := fun _ => fun
  | [d1, d2] => { results := [.lit (.bool false)], args := [d1, d2] }
  | _ => none }
def CombineQuietWrongFalsely : Prop := combineQuietRow.holds Try.pinned (OpenSpec.ofChange combineQuietWrong)

/-- 'horizonlaw10.CombineIdle': WHATEVER THE INPUT: true; the input reads as it did. -/
def combineIdleSpec : ChangeSpec := { name := "combineIdle", fn := fun _ => fun
  | [d1, d2] => { results := [.lit (.bool true)], args := [d1, d2] }
  | _ => none }
def combineIdleRow : OpenClaim := { program := "ytkalhmofjpalkaa", sum := "d5e6229290b0766b3dfada1834e1f1afc631593708b95f665699dbaffa21781d", func := "horizon/horizonlaw10.CombineIdle", spec := "combineIdle", unfollowed := true, recurses := true, apart := false }
def CombineIdleSaid : Prop := combineIdleRow.holds Try.pinned (OpenSpec.ofChange combineIdleSpec)

/-- ITS FALSE NEIGHBOUR: 'it returns false'. Refute it at one input. -/
def combineIdleWrong : ChangeSpec := { name := "combineIdle", fn := fun _ => fun
  | [d1, d2] => { results := [.lit (.bool false)], args := [d1, d2] }
  | _ => none }
def CombineIdleWrongFalsely : Prop := combineIdleRow.holds Try.pinned (OpenSpec.ofChange combineIdleWrong)

/- THE SECOND FORM. 'bulk': how many values and letters a reading holds, each counted each time it is reached (what is shared counts as often as it is met; a slice's spare places count too). A statement '..UptoSaid' is the law's where the arguments, and the package variables that the reading takes, are together of bulk at most 1048576: NARROWER than '..Said'. Prove '..Said' where nothing that the law and all that it calls make is longer than what came in: it says more and counts as full. Else prove '..UptoSaid'. A law counts once. -/
mutual
def uptoBulk {H : Type} : DataW H → Nat
  | .lit (.string bytes) => bytes.length + 1
  | .lit _ => 1
  | .nil => 1
  | .ptr d => uptoBulk d + 1
  | .slice elems spare => uptoBulkAll elems + uptoBulkAll spare + 1
  | .agg parts => uptoBulkAll parts + 1
  | .iface _ d => uptoBulk d + 1
  | .map entries => uptoBulkEntries entries + 1
  | .held _ => 1
def uptoBulkAll {H : Type} : List (DataW H) → Nat
  | [] => 0
  | d :: r => uptoBulk d + uptoBulkAll r
def uptoBulkEntries {H : Type} : List (Lit × DataW H) → Nat
  | [] => 0
  | x :: r => uptoBulkEntry x + uptoBulkEntries r
def uptoBulkEntry {H : Type} : Lit × DataW H → Nat
  | (.string bytes, d) => bytes.length + uptoBulk d + 1
  | (_, d) => uptoBulk d + 1
 end
def uptoSmall : (H : Type) → List (DataW H) → Bool := fun _ ds => decide (uptoBulkAll ds ≤ 1048576)
def OpenSpec.upto (s : _root_.Go.ChangeSpec) : _root_.Go.OpenSpec := { _root_.Go.OpenSpec.ofChange s with cond := some uptoSmall }

/-- 'horizonlaw10.CombineVotesJoin', WHERE WHAT IT READS IS OF BULK AT MOST 1048576: true; the input reads as it did. -/
def combineVotesJoinUptoRow : OpenClaim := { program := "ytkalhmofjpalkaa", sum := "d5e6229290b0766b3dfada1834e1f1afc631593708b95f665699dbaffa21781d", func := "horizon/horizonlaw10.CombineVotesJoin", spec := "combineVotesJoin", apart := false, narrowed := true }
def CombineVotesJoinUptoSaid : Prop := combineVotesJoinUptoRow.holds Try.pinned (OpenSpec.upto combineVotesJoinSpec)

/-- 'horizonlaw10.CombineVotes', WHERE WHAT IT READS IS OF BULK AT MOST 1048576: true; the input reads as it did. -/
def combineVotesUptoRow : OpenClaim := { program := "ytkalhmofjpalkaa", sum := "d5e6229290b0766b3dfada1834e1f1afc631593708b95f665699dbaffa21781d", func := "horizon/horizonlaw10.CombineVotes", spec := "combineVotes", apart := false, narrowed := true }
def CombineVotesUptoSaid : Prop := combineVotesUptoRow.holds Try.pinned (OpenSpec.upto combineVotesSpec)

/-- 'horizonlaw10.CombineEnds', WHERE WHAT IT READS IS OF BULK AT MOST 1048576: true; the input reads as it did. -/
def combineEndsUptoRow : OpenClaim := { program := "ytkalhmofjpalkaa", sum := "d5e6229290b0766b3dfada1834e1f1afc631593708b95f665699dbaffa21781d", func := "horizon/horizonlaw10.CombineEnds", spec := "combineEnds", unfollowed := true, recurses := true, apart := false, narrowed := true }
def CombineEndsUptoSaid : Prop := combineEndsUptoRow.holds Try.pinned (OpenSpec.upto combineEndsSpec)

/-- 'horizonlaw10.CombineAgrees', WHERE WHAT IT READS IS OF BULK AT MOST 1048576: true; the input reads as it did. -/
def combineAgreesUptoRow : OpenClaim := { program := "ytkalhmofjpalkaa", sum := "d5e6229290b0766b3dfada1834e1f1afc631593708b95f665699dbaffa21781d", func := "horizon/horizonlaw10.CombineAgrees", spec := "combineAgrees", unfollowed := true, recurses := true, apart := false, narrowed := true }
def CombineAgreesUptoSaid : Prop := combineAgreesUptoRow.holds Try.pinned (OpenSpec.upto combineAgreesSpec)

/-- 'horizonlaw10.CombineQuiet', WHERE WHAT IT READS IS OF BULK AT MOST 1048576: true; the input reads as it did. -/
def combineQuietUptoRow : OpenClaim := { program := "ytkalhmofjpalkaa", sum := "d5e6229290b0766b3dfada1834e1f1afc631593708b95f665699dbaffa21781d", func := "horizon/horizonlaw10.CombineQuiet", spec := "combineQuiet", unfollowed := true, recurses := true, apart := false, narrowed := true }
def CombineQuietUptoSaid : Prop := combineQuietUptoRow.holds Try.pinned (OpenSpec.upto combineQuietSpec)

/-- 'horizonlaw10.CombineIdle', WHERE WHAT IT READS IS OF BULK AT MOST 1048576: true; the input reads as it did. -/
def combineIdleUptoRow : OpenClaim := { program := "ytkalhmofjpalkaa", sum := "d5e6229290b0766b3dfada1834e1f1afc631593708b95f665699dbaffa21781d", func := "horizon/horizonlaw10.CombineIdle", spec := "combineIdle", unfollowed := true, recurses := true, apart := false, narrowed := true }
def CombineIdleUptoSaid : Prop := combineIdleUptoRow.holds Try.pinned (OpenSpec.upto combineIdleSpec)

end Rows
end Go.Proofs.Ytkalhmofjpalkaa
