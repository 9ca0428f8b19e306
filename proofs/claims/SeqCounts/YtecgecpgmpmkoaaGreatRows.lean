/-
  No cell of these rows narrows 'for every input' (looked for: loops, veiled, ifaces, maps, wideKeys, modest, calm, conditions, laid).
  DERIVED. THE GIVEN ROWS OF THIS SEAT. 8 by the template 'for every input the law returns true; each argument reads behind the call as it read before'; 0 by the template 'total and deterministic' (their statements: YtecgecpgmpmkoaaGreatTotals.lean).
  GIVEN WITH THE SEED: the statements are not yours to turn. If you find one false, say at which input.
  Laid BY PROGRAM, IN A SANDBOX (cutbox-rows.mjs): the forced cells as the released guide's own fill.sh prints them over the translation 0e79399d5f880d75… (all of the seat's roots in one cut). By AI agents, Wed Nov 11 2026. No macro, syntax, notation, axiom, sorry.
-/
import Derived.Test.YtecgecpgmpmkoaaGreatChecked
import GoSem.Claim
import GoSem.ClaimJoined
import GoSem.ClaimMapViews
import Derived.JoinedTies
import Derived.KernelRfl
namespace Go.Proofs.YtecgecpgmpmkoaaGreat
/- THE CELL 'sum', in the pinned program and in every row, IS THE sha256 OF THE DUMP (.gsa) THAT YtecgecpgmpmkoaaGreatProg.lean LOADS. Nothing in Lean hashes anything: it is a label: what it is worth is what the hold of that sum in a sandbox is worth. -/
noncomputable def Tryz.pinned : Pinned := { name := "ytecgecpgmpmkoaagreat", sum := "0e79399d5f880d75d08bd50620aa0c1e30b71189e8ca3da0aa7938ddb7d8a2cb", checked := Tryz.checked }
namespace Rows
def none {H : Type} : Left H := { results := [], args := [] }

/-- 'horizonlaw12.SeqRuns': WHATEVER THE INPUT: true; the input reads as it did. -/
def seqRunsSpec : ChangeSpec := { name := "seqRuns", fn := fun _ => fun
  | [d] => { results := [.lit (.bool true)], args := [d] }
  | _ => none }
def seqRunsRow : OpenClaim := { program := "ytecgecpgmpmkoaagreat", sum := "0e79399d5f880d75d08bd50620aa0c1e30b71189e8ca3da0aa7938ddb7d8a2cb", func := "horizon/horizonlaw12.SeqRuns", spec := "seqRuns", unfollowed := true, recurses := true, apart := false }
def SeqRunsSaid : Prop := seqRunsRow.holds Tryz.pinned (OpenSpec.ofChange seqRunsSpec)

/-- ITS FALSE NEIGHBOUR: 'it returns false'. Refute it at one input. -/
def seqRunsWrong : ChangeSpec := { name := "seqRuns", fn := fun _ => fun
  | [d] => { results := [.lit (.bool false)], args := [d] }
  | _ => none }
def SeqRunsWrongFalsely : Prop := seqRunsRow.holds Tryz.pinned (OpenSpec.ofChange seqRunsWrong)

/-- 'horizonlaw12.SeqPrefixes': WHATEVER THE INPUT: true; the input reads as it did. -/
def seqPrefixesSpec : ChangeSpec := { name := "seqPrefixes", fn := fun _ => fun
  | [d1, d2] => { results := [.lit (.bool true)], args := [d1, d2] }
  | _ => none }
def seqPrefixesRow : OpenClaim := { program := "ytecgecpgmpmkoaagreat", sum := "0e79399d5f880d75d08bd50620aa0c1e30b71189e8ca3da0aa7938ddb7d8a2cb", func := "horizon/horizonlaw12.SeqPrefixes", spec := "seqPrefixes", unfollowed := true, recurses := true, apart := false }
def SeqPrefixesSaid : Prop := seqPrefixesRow.holds Tryz.pinned (OpenSpec.ofChange seqPrefixesSpec)

/-- ITS FALSE NEIGHBOUR: 'it returns false'. Refute it at one input. -/
def seqPrefixesWrong : ChangeSpec := { name := "seqPrefixes", fn := fun _ => fun
  | [d1, d2] => { results := [.lit (.bool false)], args := [d1, d2] }
  | _ => none }
def SeqPrefixesWrongFalsely : Prop := seqPrefixesRow.holds Tryz.pinned (OpenSpec.ofChange seqPrefixesWrong)

/-- 'horizonlaw12.SeqCounts': WHATEVER THE INPUT: true; the input reads as it did. -/
def seqCountsSpec : ChangeSpec := { name := "seqCounts", fn := fun _ => fun
  | [d] => { results := [.lit (.bool true)], args := [d] }
  | _ => none }
def seqCountsRow : OpenClaim := { program := "ytecgecpgmpmkoaagreat", sum := "0e79399d5f880d75d08bd50620aa0c1e30b71189e8ca3da0aa7938ddb7d8a2cb", func := "horizon/horizonlaw12.SeqCounts", spec := "seqCounts", unfollowed := true, recurses := true, apart := false }
def SeqCountsSaid : Prop := seqCountsRow.holds Tryz.pinned (OpenSpec.ofChange seqCountsSpec)

/-- ITS FALSE NEIGHBOUR: 'it returns false'. Refute it at one input. -/
def seqCountsWrong : ChangeSpec := { name := "seqCounts", fn := fun _ => fun
  | [d] => { results := [.lit (.bool false)], args := [d] }
  | _ => none }
def SeqCountsWrongFalsely : Prop := seqCountsRow.holds Tryz.pinned (OpenSpec.ofChange seqCountsWrong)

/-- 'horizonlaw12.SeqSpans': WHATEVER THE INPUT: true; the input reads as it did. -/
def seqSpansSpec : ChangeSpec := { name := "seqSpans", fn := fun _ => fun
  | [d] => { results := [.lit (.bool true)], args := [d] }
  | _ => none }
def seqSpansRow : OpenClaim := { program := "ytecgecpgmpmkoaagreat", sum := "0e79399d5f880d75d08bd50620aa0c1e30b71189e8ca3da0aa7938ddb7d8a2cb", func := "horizon/horizonlaw12.SeqSpans", spec := "seqSpans", unfollowed := true, recurses := true, apart := false }
def SeqSpansSaid : Prop := seqSpansRow.holds Tryz.pinned (OpenSpec.ofChange seqSpansSpec)

/-- ITS FALSE NEIGHBOUR: 'it returns false'. Refute it at one input. -/
def seqSpansWrong : ChangeSpec := { name := "seqSpans", fn := fun _ => fun
  | [d] => { results := [.lit (.bool false)], args := [d] }
  | _ => none }
def SeqSpansWrongFalsely : Prop := seqSpansRow.holds Tryz.pinned (OpenSpec.ofChange seqSpansWrong)

/-- 'horizonlaw12.SeqEaches': WHATEVER THE INPUT: true; the input reads as it did. -/
def seqEachesSpec : ChangeSpec := { name := "seqEaches", fn := fun _ => fun
  | [d1, d2] => { results := [.lit (.bool true)], args := [d1, d2] }
  | _ => none }
def seqEachesRow : OpenClaim := { program := "ytecgecpgmpmkoaagreat", sum := "0e79399d5f880d75d08bd50620aa0c1e30b71189e8ca3da0aa7938ddb7d8a2cb", func := "horizon/horizonlaw12.SeqEaches", spec := "seqEaches", unfollowed := true, recurses := true, apart := false }
def SeqEachesSaid : Prop := seqEachesRow.holds Tryz.pinned (OpenSpec.ofChange seqEachesSpec)

/-- ITS FALSE NEIGHBOUR: 'it returns false'. Refute it at one input. -/
def seqEachesWrong : ChangeSpec := { name := "seqEaches", fn := fun _ => fun
  | [d1, d2] => { results := [.lit (.bool false)], args := [d1, d2] }
  | _ => none }
def SeqEachesWrongFalsely : Prop := seqEachesRow.holds Tryz.pinned (OpenSpec.ofChange seqEachesWrong)

/-- 'horizonlaw12.SeqWindows': WHATEVER THE INPUT: true; the input reads as it did. -/
def seqWindowsSpec : ChangeSpec := { name := "seqWindows", fn := fun _ => fun
  | [d] => { results := [.lit (.bool true)], args := [d] }
  | _ => none }
def seqWindowsRow : OpenClaim := { program := "ytecgecpgmpmkoaagreat", sum := "0e79399d5f880d75d08bd50620aa0c1e30b71189e8ca3da0aa7938ddb7d8a2cb", func := "horizon/horizonlaw12.SeqWindows", spec := "seqWindows", unfollowed := true, recurses := true, apart := false }
def SeqWindowsSaid : Prop := seqWindowsRow.holds Tryz.pinned (OpenSpec.ofChange seqWindowsSpec)

/-- ITS FALSE NEIGHBOUR: 'it returns false'. Refute it at one input. -/
def seqWindowsWrong : ChangeSpec := { name := "seqWindows", fn := fun _ => fun
  | [d] => { results := [.lit (.bool false)], args := [d] }
  | _ => none }
def SeqWindowsWrongFalsely : Prop := seqWindowsRow.holds Tryz.pinned (OpenSpec.ofChange seqWindowsWrong)

/-- 'horizonlaw12.SeqFresh': WHATEVER THE INPUT: true; the input reads as it did. -/
def seqFreshSpec : ChangeSpec := { name := "seqFresh", fn := fun _ => fun
  | [d] => { results := [.lit (.bool true)], args := [d] }
  | _ => none }
def seqFreshRow : OpenClaim := { program := "ytecgecpgmpmkoaagreat", sum := "0e79399d5f880d75d08bd50620aa0c1e30b71189e8ca3da0aa7938ddb7d8a2cb", func := "horizon/horizonlaw12.SeqFresh", spec := "seqFresh", unfollowed := true, recurses := true, apart := false }
def SeqFreshSaid : Prop := seqFreshRow.holds Tryz.pinned (OpenSpec.ofChange seqFreshSpec)

/-- ITS FALSE NEIGHBOUR: 'it returns false'. Refute it at one input. -/
def seqFreshWrong : ChangeSpec := { name := "seqFresh", fn := fun _ => fun
  | [d] => { results := [.lit (.bool false)], args := [d] }
  | _ => none }
def SeqFreshWrongFalsely : Prop := seqFreshRow.holds Tryz.pinned (OpenSpec.ofChange seqFreshWrong)

/-- 'horizonlaw12.SeqAll': WHATEVER THE INPUT: true; the input reads as it did. -/
def seqAllSpec : ChangeSpec := { name := "seqAll", fn := fun _ => fun
  | [d1, d2] => { results := [.lit (.bool true)], args := [d1, d2] }
  | _ => none }
def seqAllRow : OpenClaim := { program := "ytecgecpgmpmkoaagreat", sum := "0e79399d5f880d75d08bd50620aa0c1e30b71189e8ca3da0aa7938ddb7d8a2cb", func := "horizon/horizonlaw12.SeqAll", spec := "seqAll", unfollowed := true, recurses := true, apart := false }
def SeqAllSaid : Prop := seqAllRow.holds Tryz.pinned (OpenSpec.ofChange seqAllSpec)

/-- ITS FALSE NEIGHBOUR: 'it returns false'. Refute it at one input. -/
def seqAllWrong : ChangeSpec := { name := "seqAll", fn := fun _ => fun
  | [d1, d2] => { results := [.lit (.bool false)], args := [d1, d2] }
  | _ => none }
def SeqAllWrongFalsely : Prop := seqAllRow.holds Tryz.pinned (OpenSpec.ofChange seqAllWrong)

/- THE SECOND FORM. 'bulk': how many values and letters a reading holds, each counted each time it is reached (what is shared counts as often as it is met; a slice's spare places count too). A statement '..UptoSaid' is the law's where the arguments, and the package variables that the reading takes, are together of bulk at most 1048576: NARROWER than '..Said'. Prove '..Said' where nothing that the law and all that it calls make is longer than what came in: it says more and counts as full. Else prove '..UptoSaid'. A law counts once. -/
mutual
def uptoBulk {H : Type} : DataW H → Nat
  | .lit (.string bytes) => bytes.length + 1
  | .lit _ => 1
  | .nil => 1
  | .ptr d => uptoBulk d + 1
  | .slice elems spare => uptoBulkAll elems + uptoBulkAll spare + 1
  | .agg parts => uptoBulkAll parts + 1
  | .iface _ d => uptoBulk d + 1
  | .map entries => uptoBulkEntries entries + 1
  | .held _ => 1
def uptoBulkAll {H : Type} : List (DataW H) → Nat
  | [] => 0
  | d :: r => uptoBulk d + uptoBulkAll r
def uptoBulkEntries {H : Type} : List (Lit × DataW H) → Nat
  | [] => 0
  | x :: r => uptoBulkEntry x + uptoBulkEntries r
def uptoBulkEntry {H : Type} : Lit × DataW H → Nat
  | (.string bytes, d) => bytes.length + uptoBulk d + 1
  | (_, d) => uptoBulk d + 1
 end
def uptoSmall : (H : Type) → List (DataW H) → Bool := fun _ ds => decide (uptoBulkAll ds ≤ 1048576)
def OpenSpec.upto (s : _root_.Go.ChangeSpec) : _root_.Go.OpenSpec := { _root_.Go.OpenSpec.ofChange s with cond := some uptoSmall }

/-- 'horizonlaw12.SeqRuns', WHERE WHAT IT READS IS OF BULK AT MOST 1048576: true; the input reads as it did. -/
def seqRunsUptoRow : OpenClaim := { program := "ytecgecpgmpmkoaagreat", sum := "0e79399d5f880d75d08bd50620aa0c1e30b71189e8ca3da0aa7938ddb7d8a2cb", func := "horizon/horizonlaw12.SeqRuns", spec := "seqRuns", unfollowed := true, recurses := true, apart := false, narrowed := true }
def SeqRunsUptoSaid : Prop := seqRunsUptoRow.holds Tryz.pinned (OpenSpec.upto seqRunsSpec)

/-- 'horizonlaw12.SeqPrefixes', WHERE WHAT IT READS IS OF BULK AT MOST 1048576: true; the input reads as it did. -/
def seqPrefixesUptoRow : OpenClaim := { program := "ytecgecpgmpmkoaagreat", sum := "0e79399d5f880d75d08bd50620aa0c1e30b71189e8ca3da0aa7938ddb7d8a2cb", func := "horizon/horizonlaw12.SeqPrefixes", spec := "seqPrefixes", unfollowed := true, recurses := true, apart := false, narrowed := true }
def SeqPrefixesUptoSaid : Prop := seqPrefixesUptoRow.holds Tryz.pinned (OpenSpec.upto seqPrefixesSpec)

/-- 'horizonlaw12.SeqCounts', WHERE WHAT IT READS IS OF BULK AT MOST 1048576: true; the input reads as it did. -/
def seqCountsUptoRow : OpenClaim := { program := "ytecgecpgmpmkoaagreat", sum := "0e79399d5f880d75d08bd50620aa0c1e30b71189e8ca3da0aa7938ddb7d8a2cb", func := "horizon/horizonlaw12.SeqCounts", spec := "seqCounts", unfollowed := true, recurses := true, apart := false, narrowed := true }
def SeqCountsUptoSaid : Prop := seqCountsUptoRow.holds Tryz.pinned (OpenSpec.upto seqCountsSpec)

/-- 'horizonlaw12.SeqSpans', WHERE WHAT IT READS IS OF BULK AT MOST 1048576: true; the input reads as it did. -/
def seqSpansUptoRow : OpenClaim := { program := "ytecgecpgmpmkoaagreat", sum := "0e79399d5f880d75d08bd50620aa0c1e30b71189e8ca3da0aa7938ddb7d8a2cb", func := "horizon/horizonlaw12.SeqSpans", spec := "seqSpans", unfollowed := true, recurses := true, apart := false, narrowed := true }
def SeqSpansUptoSaid : Prop := seqSpansUptoRow.holds Tryz.pinned (OpenSpec.upto seqSpansSpec)

/-- 'horizonlaw12.SeqEaches', WHERE WHAT IT READS IS OF BULK AT MOST 1048576: true; the input reads as it did. -/
def seqEachesUptoRow : OpenClaim := { program := "ytecgecpgmpmkoaagreat", sum := "0e79399d5f880d75d08bd50620aa0c1e30b71189e8ca3da0aa7938ddb7d8a2cb", func := "horizon/horizonlaw12.SeqEaches", spec := "seqEaches", unfollowed := true, recurses := true, apart := false, narrowed := true }
def SeqEachesUptoSaid : Prop := seqEachesUptoRow.holds Tryz.pinned (OpenSpec.upto seqEachesSpec)

/-- 'horizonlaw12.SeqWindows', WHERE WHAT IT READS IS OF BULK AT MOST 1048576: true; the input reads as it did. -/
def seqWindowsUptoRow : OpenClaim := { program := "ytecgecpgmpmkoaagreat", sum := "0e79399d5f880d75d08bd50620aa0c1e30b71189e8ca3da0aa7938ddb7d8a2cb", func := "horizon/horizonlaw12.SeqWindows", spec := "seqWindows", unfollowed := true, recurses := true, apart := false, narrowed := true }
def SeqWindowsUptoSaid : Prop := seqWindowsUptoRow.holds Tryz.pinned (OpenSpec.upto seqWindowsSpec)

/-- 'horizonlaw12.SeqFresh', WHERE WHAT IT READS IS OF BULK AT MOST 1048576: true; the input reads as it did. -/
def seqFreshUptoRow : OpenClaim := { program := "ytecgecpgmpmkoaagreat", sum := "0e79399d5f880d75d08bd50620aa0c1e30b71189e8ca3da0aa7938ddb7d8a2cb", func := "horizon/horizonlaw12.SeqFresh", spec := "seqFresh", unfollowed := true, recurses := true, apart := false, narrowed := true }
def SeqFreshUptoSaid : Prop := seqFreshUptoRow.holds Tryz.pinned (OpenSpec.upto seqFreshSpec)

/-- 'horizonlaw12.SeqAll', WHERE WHAT IT READS IS OF BULK AT MOST 1048576: true; the input reads as it did. -/
def seqAllUptoRow : OpenClaim := { program := "ytecgecpgmpmkoaagreat", sum := "0e79399d5f880d75d08bd50620aa0c1e30b71189e8ca3da0aa7938ddb7d8a2cb", func := "horizon/horizonlaw12.SeqAll", spec := "seqAll", unfollowed := true, recurses := true, apart := false, narrowed := true }
def SeqAllUptoSaid : Prop := seqAllUptoRow.holds Tryz.pinned (OpenSpec.upto seqAllSpec)

end Rows
end Go.Proofs.YtecgecpgmpmkoaaGreat
