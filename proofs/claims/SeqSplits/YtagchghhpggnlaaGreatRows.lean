/-
  No cell of these rows narrows 'for every input' (looked for: loops, veiled, ifaces, maps, wideKeys, modest, calm, conditions, laid).
  DERIVED. THE GIVEN ROWS OF THIS SEAT. 10 by the template 'for every input the law returns true; each argument reads behind the call as it read before'; 0 by the template 'total and deterministic' (their statements: YtagchghhpggnlaaGreatTotals.lean).
  GIVEN WITH THE SEED: the statements are not yours to turn. If you find one false, say at which input.
  Laid BY PROGRAM, IN A SANDBOX (cutbox-rows.mjs): the forced cells as the released guide's own fill.sh prints them over the translation da41e0511b88b82d… (all of the seat's roots in one cut). By AI agents, Wed Nov 11 2026. No macro, syntax, notation, axiom, sorry.
-/
import Derived.Test.YtagchghhpggnlaaGreatChecked
import GoSem.Claim
import GoSem.ClaimJoined
import GoSem.ClaimMapViews
import Derived.JoinedTies
import Derived.KernelRfl
namespace Go.Proofs.YtagchghhpggnlaaGreat
/- THE CELL 'sum', in the pinned program and in every row, IS THE sha256 OF THE DUMP (.gsa) THAT YtagchghhpggnlaaGreatProg.lean LOADS. Nothing in Lean hashes anything: it is a label: what it is worth is what the hold of that sum in a sandbox is worth. -/
noncomputable def Tryz.pinned : Pinned := { name := "ytagchghhpggnlaagreat", sum := "da41e0511b88b82d59cfedb2238d6cb2e15a625988fafcfa1b093f2b4284f943", checked := Tryz.checked }
namespace Rows
def none {H : Type} : Left H := { results := [], args := [] }

/-- 'horizonlaw12.SeqEnds': WHATEVER THE INPUT: true; the input reads as it did. -/
def seqEndsSpec : ChangeSpec := { name := "seqEnds", fn := fun _ => fun
  | [d1, d2] => { results := [.lit (.bool true)], args := [d1, d2] }
  | _ => none }
def seqEndsRow : OpenClaim := { program := "ytagchghhpggnlaagreat", sum := "da41e0511b88b82d59cfedb2238d6cb2e15a625988fafcfa1b093f2b4284f943", func := "horizon/horizonlaw12.SeqEnds", spec := "seqEnds", unfollowed := true, recurses := true, apart := false }
def SeqEndsSaid : Prop := seqEndsRow.holds Tryz.pinned (OpenSpec.ofChange seqEndsSpec)

/-- ITS FALSE NEIGHBOUR: 'it returns false'. Refute it at one input. -/
def seqEndsWrong : ChangeSpec := { name := "seqEnds", fn := fun _ => fun
  | [d1, d2] => { results := [.lit (.bool false)], args := [d1, d2] }
  | _ => none }
def SeqEndsWrongFalsely : Prop := seqEndsRow.holds Tryz.pinned (OpenSpec.ofChange seqEndsWrong)

/-- 'horizonlaw12.SeqLocal': WHATEVER THE INPUT: true; the input reads as it did. -/
def seqLocalSpec : ChangeSpec := { name := "seqLocal", fn := fun _ => fun
  | [d] => { results := [.lit (.bool true)], args := [d] }
  | _ => none }
def seqLocalRow : OpenClaim := { program := "ytagchghhpggnlaagreat", sum := "da41e0511b88b82d59cfedb2238d6cb2e15a625988fafcfa1b093f2b4284f943", func := "horizon/horizonlaw12.SeqLocal", spec := "seqLocal", unfollowed := true, recurses := true, apart := false }
def SeqLocalSaid : Prop := seqLocalRow.holds Tryz.pinned (OpenSpec.ofChange seqLocalSpec)

/-- ITS FALSE NEIGHBOUR: 'it returns false'. Refute it at one input. -/
def seqLocalWrong : ChangeSpec := { name := "seqLocal", fn := fun _ => fun
  | [d] => { results := [.lit (.bool false)], args := [d] }
  | _ => none }
def SeqLocalWrongFalsely : Prop := seqLocalRow.holds Tryz.pinned (OpenSpec.ofChange seqLocalWrong)

/-- 'horizonlaw12.SeqCauses': WHATEVER THE INPUT: true; the input reads as it did. -/
def seqCausesSpec : ChangeSpec := { name := "seqCauses", fn := fun _ => fun
  | [d] => { results := [.lit (.bool true)], args := [d] }
  | _ => none }
def seqCausesRow : OpenClaim := { program := "ytagchghhpggnlaagreat", sum := "da41e0511b88b82d59cfedb2238d6cb2e15a625988fafcfa1b093f2b4284f943", func := "horizon/horizonlaw12.SeqCauses", spec := "seqCauses", unfollowed := true, recurses := true, apart := false }
def SeqCausesSaid : Prop := seqCausesRow.holds Tryz.pinned (OpenSpec.ofChange seqCausesSpec)

/-- ITS FALSE NEIGHBOUR: 'it returns false'. Refute it at one input. -/
def seqCausesWrong : ChangeSpec := { name := "seqCauses", fn := fun _ => fun
  | [d] => { results := [.lit (.bool false)], args := [d] }
  | _ => none }
def SeqCausesWrongFalsely : Prop := seqCausesRow.holds Tryz.pinned (OpenSpec.ofChange seqCausesWrong)

/-- 'horizonlaw12.SeqSplits': WHATEVER THE INPUT: true; the input reads as it did. -/
def seqSplitsSpec : ChangeSpec := { name := "seqSplits", fn := fun _ => fun
  | [d1, d2] => { results := [.lit (.bool true)], args := [d1, d2] }
  | _ => none }
def seqSplitsRow : OpenClaim := { program := "ytagchghhpggnlaagreat", sum := "da41e0511b88b82d59cfedb2238d6cb2e15a625988fafcfa1b093f2b4284f943", func := "horizon/horizonlaw12.SeqSplits", spec := "seqSplits", unfollowed := true, recurses := true, apart := false }
def SeqSplitsSaid : Prop := seqSplitsRow.holds Tryz.pinned (OpenSpec.ofChange seqSplitsSpec)

/-- ITS FALSE NEIGHBOUR: 'it returns false'. Refute it at one input. -/
def seqSplitsWrong : ChangeSpec := { name := "seqSplits", fn := fun _ => fun
  | [d1, d2] => { results := [.lit (.bool false)], args := [d1, d2] }
  | _ => none }
def SeqSplitsWrongFalsely : Prop := seqSplitsRow.holds Tryz.pinned (OpenSpec.ofChange seqSplitsWrong)

/-- 'horizonlaw12.SeqReplays': WHATEVER THE INPUT: true; the input reads as it did. -/
def seqReplaysSpec : ChangeSpec := { name := "seqReplays", fn := fun _ => fun
  | [d] => { results := [.lit (.bool true)], args := [d] }
  | _ => none }
def seqReplaysRow : OpenClaim := { program := "ytagchghhpggnlaagreat", sum := "da41e0511b88b82d59cfedb2238d6cb2e15a625988fafcfa1b093f2b4284f943", func := "horizon/horizonlaw12.SeqReplays", spec := "seqReplays", unfollowed := true, recurses := true, apart := false }
def SeqReplaysSaid : Prop := seqReplaysRow.holds Tryz.pinned (OpenSpec.ofChange seqReplaysSpec)

/-- ITS FALSE NEIGHBOUR: 'it returns false'. Refute it at one input. -/
def seqReplaysWrong : ChangeSpec := { name := "seqReplays", fn := fun _ => fun
  | [d] => { results := [.lit (.bool false)], args := [d] }
  | _ => none }
def SeqReplaysWrongFalsely : Prop := seqReplaysRow.holds Tryz.pinned (OpenSpec.ofChange seqReplaysWrong)

/-- 'horizonlaw12.SeqTurns': WHATEVER THE INPUT: true; the input reads as it did. -/
def seqTurnsSpec : ChangeSpec := { name := "seqTurns", fn := fun _ => fun
  | [d1, d2, d3] => { results := [.lit (.bool true)], args := [d1, d2, d3] }
  | _ => none }
def seqTurnsRow : OpenClaim := { program := "ytagchghhpggnlaagreat", sum := "da41e0511b88b82d59cfedb2238d6cb2e15a625988fafcfa1b093f2b4284f943", func := "horizon/horizonlaw12.SeqTurns", spec := "seqTurns", unfollowed := true, recurses := true, apart := false }
def SeqTurnsSaid : Prop := seqTurnsRow.holds Tryz.pinned (OpenSpec.ofChange seqTurnsSpec)

/-- ITS FALSE NEIGHBOUR: 'it returns false'. Refute it at one input. -/
def seqTurnsWrong : ChangeSpec := { name := "seqTurns", fn := fun _ => fun
  | [d1, d2, d3] => { results := [.lit (.bool false)], args := [d1, d2, d3] }
  | _ => none }
def SeqTurnsWrongFalsely : Prop := seqTurnsRow.holds Tryz.pinned (OpenSpec.ofChange seqTurnsWrong)

/-- 'horizonlaw12.SeqCounts': WHATEVER THE INPUT: true; the input reads as it did. -/
def seqCountsSpec : ChangeSpec := { name := "seqCounts", fn := fun _ => fun
  | [d] => { results := [.lit (.bool true)], args := [d] }
  | _ => none }
def seqCountsRow : OpenClaim := { program := "ytagchghhpggnlaagreat", sum := "da41e0511b88b82d59cfedb2238d6cb2e15a625988fafcfa1b093f2b4284f943", func := "horizon/horizonlaw12.SeqCounts", spec := "seqCounts", unfollowed := true, recurses := true, apart := false }
def SeqCountsSaid : Prop := seqCountsRow.holds Tryz.pinned (OpenSpec.ofChange seqCountsSpec)

/-- ITS FALSE NEIGHBOUR: 'it returns false'. Refute it at one input. -/
def seqCountsWrong : ChangeSpec := { name := "seqCounts", fn := fun _ => fun
  | [d] => { results := [.lit (.bool false)], args := [d] }
  | _ => none }
def SeqCountsWrongFalsely : Prop := seqCountsRow.holds Tryz.pinned (OpenSpec.ofChange seqCountsWrong)

/-- 'horizonlaw12.SeqRuns': WHATEVER THE INPUT: true; the input reads as it did. -/
def seqRunsSpec : ChangeSpec := { name := "seqRuns", fn := fun _ => fun
  | [d] => { results := [.lit (.bool true)], args := [d] }
  | _ => none }
def seqRunsRow : OpenClaim := { program := "ytagchghhpggnlaagreat", sum := "da41e0511b88b82d59cfedb2238d6cb2e15a625988fafcfa1b093f2b4284f943", func := "horizon/horizonlaw12.SeqRuns", spec := "seqRuns", unfollowed := true, recurses := true, apart := false }
def SeqRunsSaid : Prop := seqRunsRow.holds Tryz.pinned (OpenSpec.ofChange seqRunsSpec)

/-- ITS FALSE NEIGHBOUR: 'it returns false'. Refute it at one input. -/
def seqRunsWrong : ChangeSpec := { name := "seqRuns", fn := fun _ => fun
  | [d] => { results := [.lit (.bool false)], args := [d] }
  | _ => none }
def SeqRunsWrongFalsely : Prop := seqRunsRow.holds Tryz.pinned (OpenSpec.ofChange seqRunsWrong)

/-- 'horizonlaw12.SeqPrefixes': WHATEVER THE INPUT: true; the input reads as it did. -/
def seqPrefixesSpec : ChangeSpec := { name := "seqPrefixes", fn := fun _ => fun
  | [d1, d2] => { results := [.lit (.bool true)], args := [d1, d2] }
  | _ => none }
def seqPrefixesRow : OpenClaim := { program := "ytagchghhpggnlaagreat", sum := "da41e0511b88b82d59cfedb2238d6cb2e15a625988fafcfa1b093f2b4284f943", func := "horizon/horizonlaw12.SeqPrefixes", spec := "seqPrefixes", unfollowed := true, recurses := true, apart := false }
def SeqPrefixesSaid : Prop := seqPrefixesRow.holds Tryz.pinned (OpenSpec.ofChange seqPrefixesSpec)

/-- ITS FALSE NEIGHBOUR: 'it returns false'. Refute it at one input. -/
def seqPrefixesWrong : ChangeSpec := { name := "seqPrefixes", fn := fun _ => fun
  | [d1, d2] => { results := [.lit (.bool false)], args := [d1, d2] }
  | _ => none }
def SeqPrefixesWrongFalsely : Prop := seqPrefixesRow.holds Tryz.pinned (OpenSpec.ofChange seqPrefixesWrong)

/-- 'horizonlaw12.SeqBudgets': WHATEVER THE INPUT: true; the input reads as it did. -/
def seqBudgetsSpec : ChangeSpec := { name := "seqBudgets", fn := fun _ => fun
  | [d1, d2] => { results := [.lit (.bool true)], args := [d1, d2] }
  | _ => none }
def seqBudgetsRow : OpenClaim := { program := "ytagchghhpggnlaagreat", sum := "da41e0511b88b82d59cfedb2238d6cb2e15a625988fafcfa1b093f2b4284f943", func := "horizon/horizonlaw12.SeqBudgets", spec := "seqBudgets", unfollowed := true, recurses := true, apart := false }
def SeqBudgetsSaid : Prop := seqBudgetsRow.holds Tryz.pinned (OpenSpec.ofChange seqBudgetsSpec)

/-- ITS FALSE NEIGHBOUR: 'it returns false'. Refute it at one input. -/
def seqBudgetsWrong : ChangeSpec := { name := "seqBudgets", fn := fun _ => fun
  | [d1, d2] => { results := [.lit (.bool false)], args := [d1, d2] }
  | _ => none }
def SeqBudgetsWrongFalsely : Prop := seqBudgetsRow.holds Tryz.pinned (OpenSpec.ofChange seqBudgetsWrong)

/- THE SECOND FORM. 'bulk': how many values and letters a reading holds, each counted each time it is reached (what is shared counts as often as it is met; a slice's spare places count too). A statement '..UptoSaid' is the law's where the arguments, and the package variables that the reading takes, are together of bulk at most 1048576: NARROWER than '..Said'. Prove '..Said' where nothing that the law and all that it calls make is longer than what came in: it says more and counts as full. Else prove '..UptoSaid'. A law counts once. -/
mutual
def uptoBulk {H : Type} : DataW H → Nat
  | .lit (.string bytes) => bytes.length + 1
  | .lit _ => 1
  | .nil => 1
  | .ptr d => uptoBulk d + 1
  | .slice elems spare => uptoBulkAll elems + uptoBulkAll spare + 1
  | .agg parts => uptoBulkAll parts + 1
  | .iface _ d => uptoBulk d + 1
  | .map entries => uptoBulkEntries entries + 1
  | .held _ => 1
def uptoBulkAll {H : Type} : List (DataW H) → Nat
  | [] => 0
  | d :: r => uptoBulk d + uptoBulkAll r
def uptoBulkEntries {H : Type} : List (Lit × DataW H) → Nat
  | [] => 0
  | x :: r => uptoBulkEntry x + uptoBulkEntries r
def uptoBulkEntry {H : Type} : Lit × DataW H → Nat
  | (.string bytes, d) => bytes.length + uptoBulk d + 1
  | (_, d) => uptoBulk d + 1
 end
def uptoSmall : (H : Type) → List (DataW H) → Bool := fun _ ds => decide (uptoBulkAll ds ≤ 1048576)
def OpenSpec.upto (s : _root_.Go.ChangeSpec) : _root_.Go.OpenSpec := { _root_.Go.OpenSpec.ofChange s with cond := some uptoSmall }

/-- 'horizonlaw12.SeqEnds', WHERE WHAT IT READS IS OF BULK AT MOST 1048576: true; the input reads as it did. -/
def seqEndsUptoRow : OpenClaim := { program := "ytagchghhpggnlaagreat", sum := "da41e0511b88b82d59cfedb2238d6cb2e15a625988fafcfa1b093f2b4284f943", func := "horizon/horizonlaw12.SeqEnds", spec := "seqEnds", unfollowed := true, recurses := true, apart := false, narrowed := true }
def SeqEndsUptoSaid : Prop := seqEndsUptoRow.holds Tryz.pinned (OpenSpec.upto seqEndsSpec)

/-- 'horizonlaw12.SeqLocal', WHERE WHAT IT READS IS OF BULK AT MOST 1048576: true; the input reads as it did. -/
def seqLocalUptoRow : OpenClaim := { program := "ytagchghhpggnlaagreat", sum := "da41e0511b88b82d59cfedb2238d6cb2e15a625988fafcfa1b093f2b4284f943", func := "horizon/horizonlaw12.SeqLocal", spec := "seqLocal", unfollowed := true, recurses := true, apart := false, narrowed := true }
def SeqLocalUptoSaid : Prop := seqLocalUptoRow.holds Tryz.pinned (OpenSpec.upto seqLocalSpec)

/-- 'horizonlaw12.SeqCauses', WHERE WHAT IT READS IS OF BULK AT MOST 1048576: true; the input reads as it did. -/
def seqCausesUptoRow : OpenClaim := { program := "ytagchghhpggnlaagreat", sum := "da41e0511b88b82d59cfedb2238d6cb2e15a625988fafcfa1b093f2b4284f943", func := "horizon/horizonlaw12.SeqCauses", spec := "seqCauses", unfollowed := true, recurses := true, apart := false, narrowed := true }
def SeqCausesUptoSaid : Prop := seqCausesUptoRow.holds Tryz.pinned (OpenSpec.upto seqCausesSpec)

/-- 'horizonlaw12.SeqSplits', WHERE WHAT IT READS IS OF BULK AT MOST 1048576: true; the input reads as it did. -/
def seqSplitsUptoRow : OpenClaim := { program := "ytagchghhpggnlaagreat", sum := "da41e0511b88b82d59cfedb2238d6cb2e15a625988fafcfa1b093f2b4284f943", func := "horizon/horizonlaw12.SeqSplits", spec := "seqSplits", unfollowed := true, recurses := true, apart := false, narrowed := true }
def SeqSplitsUptoSaid : Prop := seqSplitsUptoRow.holds Tryz.pinned (OpenSpec.upto seqSplitsSpec)

/-- 'horizonlaw12.SeqReplays', WHERE WHAT IT READS IS OF BULK AT MOST 1048576: true; the input reads as it did. -/
def seqReplaysUptoRow : OpenClaim := { program := "ytagchghhpggnlaagreat", sum := "da41e0511b88b82d59cfedb2238d6cb2e15a625988fafcfa1b093f2b4284f943", func := "horizon/horizonlaw12.SeqReplays", spec := "seqReplays", unfollowed := true, recurses := true, apart := false, narrowed := true }
def SeqReplaysUptoSaid : Prop := seqReplaysUptoRow.holds Tryz.pinned (OpenSpec.upto seqReplaysSpec)

/-- 'horizonlaw12.SeqTurns', WHERE WHAT IT READS IS OF BULK AT MOST 1048576: true; the input reads as it did. -/
def seqTurnsUptoRow : OpenClaim := { program := "ytagchghhpggnlaagreat", sum := "da41e0511b88b82d59cfedb2238d6cb2e15a625988fafcfa1b093f2b4284f943", func := "horizon/horizonlaw12.SeqTurns", spec := "seqTurns", unfollowed := true, recurses := true, apart := false, narrowed := true }
def SeqTurnsUptoSaid : Prop := seqTurnsUptoRow.holds Tryz.pinned (OpenSpec.upto seqTurnsSpec)

/-- 'horizonlaw12.SeqCounts', WHERE WHAT IT READS IS OF BULK AT MOST 1048576: true; the input reads as it did. -/
def seqCountsUptoRow : OpenClaim := { program := "ytagchghhpggnlaagreat", sum := "da41e0511b88b82d59cfedb2238d6cb2e15a625988fafcfa1b093f2b4284f943", func := "horizon/horizonlaw12.SeqCounts", spec := "seqCounts", unfollowed := true, recurses := true, apart := false, narrowed := true }
def SeqCountsUptoSaid : Prop := seqCountsUptoRow.holds Tryz.pinned (OpenSpec.upto seqCountsSpec)

/-- 'horizonlaw12.SeqRuns', WHERE WHAT IT READS IS OF BULK AT MOST 1048576: true; the input reads as it did. -/
def seqRunsUptoRow : OpenClaim := { program := "ytagchghhpggnlaagreat", sum := "da41e0511b88b82d59cfedb2238d6cb2e15a625988fafcfa1b093f2b4284f943", func := "horizon/horizonlaw12.SeqRuns", spec := "seqRuns", unfollowed := true, recurses := true, apart := false, narrowed := true }
def SeqRunsUptoSaid : Prop := seqRunsUptoRow.holds Tryz.pinned (OpenSpec.upto seqRunsSpec)

/-- 'horizonlaw12.SeqPrefixes', WHERE WHAT IT READS IS OF BULK AT MOST 1048576: true; the input reads as it did. -/
def seqPrefixesUptoRow : OpenClaim := { program := "ytagchghhpggnlaagreat", sum := "da41e0511b88b82d59cfedb2238d6cb2e15a625988fafcfa1b093f2b4284f943", func := "horizon/horizonlaw12.SeqPrefixes", spec := "seqPrefixes", unfollowed := true, recurses := true, apart := false, narrowed := true }
def SeqPrefixesUptoSaid : Prop := seqPrefixesUptoRow.holds Tryz.pinned (OpenSpec.upto seqPrefixesSpec)

/-- 'horizonlaw12.SeqBudgets', WHERE WHAT IT READS IS OF BULK AT MOST 1048576: true; the input reads as it did. -/
def seqBudgetsUptoRow : OpenClaim := { program := "ytagchghhpggnlaagreat", sum := "da41e0511b88b82d59cfedb2238d6cb2e15a625988fafcfa1b093f2b4284f943", func := "horizon/horizonlaw12.SeqBudgets", spec := "seqBudgets", unfollowed := true, recurses := true, apart := false, narrowed := true }
def SeqBudgetsUptoSaid : Prop := seqBudgetsUptoRow.holds Tryz.pinned (OpenSpec.upto seqBudgetsSpec)

end Rows
end Go.Proofs.YtagchghhpggnlaaGreat
