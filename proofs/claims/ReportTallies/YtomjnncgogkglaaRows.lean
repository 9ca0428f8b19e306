/-
  No cell of these rows narrows 'for every input' (looked for: loops, veiled, ifaces, maps, wideKeys, modest, calm, conditions, laid).
  DERIVED. THE GIVEN ROWS OF THIS SEAT. 6 by the template 'for every input the law returns true; each argument reads behind the call as it read before'; 0 by the template 'total and deterministic' (their statements: YtomjnncgogkglaaTotals.lean).
  GIVEN WITH THE SEED: the statements are not yours to turn. If you find one false, say at which input.
  Laid BY PROGRAM, IN A SANDBOX (cutbox-rows.mjs): the forced cells as the released guide's own fill.sh prints them over the translation a42f8b99bc8cf2d7… (all of the seat's roots in one cut). By AI agents, Wed Nov 11 2026. No macro, syntax, notation, axiom, sorry.
-/
import Derived.Test.YtomjnncgogkglaaChecked
import GoSem.Claim
import GoSem.ClaimJoined
import GoSem.ClaimMapViews
import Derived.JoinedTies
import Derived.KernelRfl
namespace Go.Proofs.Ytomjnncgogkglaa
/- THE CELL 'sum', in the pinned program and in every row, IS THE sha256 OF THE DUMP (.gsa) THAT YtomjnncgogkglaaProg.lean LOADS. Nothing in Lean hashes anything: it is a label: what it is worth is what the hold of that sum in a sandbox is worth. -/
noncomputable def Try.pinned : Pinned := { name := "ytomjnncgogkglaa", sum := "a42f8b99bc8cf2d7b2cf9d85ef35fe01e33a7b96ebbd23f3cd636025312ed36b", checked := Try.checked }
namespace Rows
def none {H : Type} : Left H := { results := [], args := [] }

/-- 'horizonlaw17.ReportDiffs': WHATEVER THE INPUT: true; the input reads as it did. -/
def reportDiffsSpec : ChangeSpec := { name := "reportDiffs", fn := fun _ => fun
  | [d1, d2] => { results := [.lit (.bool true)], args := [d1, d2] }
  | _ => none }
def reportDiffsRow : OpenClaim := { program := "ytomjnncgogkglaa", sum := "a42f8b99bc8cf2d7b2cf9d85ef35fe01e33a7b96ebbd23f3cd636025312ed36b", func := "horizon/horizonlaw17.ReportDiffs", spec := "reportDiffs", apart := false }
def ReportDiffsSaid : Prop := reportDiffsRow.holds Try.pinned (OpenSpec.ofChange reportDiffsSpec)

/-- ITS FALSE NEIGHBOUR: 'it returns false'. Refute it at one input. -/
def reportDiffsWrong : ChangeSpec := { name := "reportDiffs", fn := fun _ => fun
  | [d1, d2] => { results := [.lit (.bool false)], args := [d1, d2] }
  | _ => none }
def ReportDiffsWrongFalsely : Prop := reportDiffsRow.holds Try.pinned (OpenSpec.ofChange reportDiffsWrong)

/-- 'horizonlaw17.ReportKinds': WHATEVER THE INPUT: true; the input reads as it did. -/
def reportKindsSpec : ChangeSpec := { name := "reportKinds", fn := fun _ => fun
  | [d] => { results := [.lit (.bool true)], args := [d] }
  | _ => none }
def reportKindsRow : OpenClaim := { program := "ytomjnncgogkglaa", sum := "a42f8b99bc8cf2d7b2cf9d85ef35fe01e33a7b96ebbd23f3cd636025312ed36b", func := "horizon/horizonlaw17.ReportKinds", spec := "reportKinds", unfollowed := true, recurses := true, apart := false }
def ReportKindsSaid : Prop := reportKindsRow.holds Try.pinned (OpenSpec.ofChange reportKindsSpec)

/-- ITS FALSE NEIGHBOUR: 'it returns false'. Refute it at one input. -/
def reportKindsWrong : ChangeSpec := { name := "reportKinds", fn := fun _ => fun
  | [d] => { results := [.lit (.bool false)], args := [d] }
  | _ => none }
def ReportKindsWrongFalsely : Prop := reportKindsRow.holds Try.pinned (OpenSpec.ofChange reportKindsWrong)

/-- 'horizonlaw17.ReportMeans': WHATEVER THE INPUT: true; the input reads as it did. -/
def reportMeansSpec : ChangeSpec := { name := "reportMeans", fn := fun _ => fun
  | [d1, d2] => { results := [.lit (.bool true)], args := [d1, d2] }
  | _ => none }
def reportMeansRow : OpenClaim := { program := "ytomjnncgogkglaa", sum := "a42f8b99bc8cf2d7b2cf9d85ef35fe01e33a7b96ebbd23f3cd636025312ed36b", func := "horizon/horizonlaw17.ReportMeans", spec := "reportMeans", apart := false }
def ReportMeansSaid : Prop := reportMeansRow.holds Try.pinned (OpenSpec.ofChange reportMeansSpec)

/-- ITS FALSE NEIGHBOUR: 'it returns false'. Refute it at one input. -/
def reportMeansWrong : ChangeSpec := { name := "reportMeans", fn := fun _ => fun
  | [d1, d2] => { results := [.lit (.bool false)], args := [d1, d2] }
  | _ => none }
def ReportMeansWrongFalsely : Prop := reportMeansRow.holds Try.pinned (OpenSpec.ofChange reportMeansWrong)

/-- 'horizonlaw17.ReportBalances': WHATEVER THE INPUT: true; the input reads as it did. -/
def reportBalancesSpec : ChangeSpec := { name := "reportBalances", fn := fun _ => fun
  | [d1, d2] => { results := [.lit (.bool true)], args := [d1, d2] }
  | _ => none }
def reportBalancesRow : OpenClaim := { program := "ytomjnncgogkglaa", sum := "a42f8b99bc8cf2d7b2cf9d85ef35fe01e33a7b96ebbd23f3cd636025312ed36b", func := "horizon/horizonlaw17.ReportBalances", spec := "reportBalances", apart := false }
def ReportBalancesSaid : Prop := reportBalancesRow.holds Try.pinned (OpenSpec.ofChange reportBalancesSpec)

/-- ITS FALSE NEIGHBOUR: 'it returns false'. Refute it at one input. -/
def reportBalancesWrong : ChangeSpec := { name := "reportBalances", fn := fun _ => fun
  | [d1, d2] => { results := [.lit (.bool false)], args := [d1, d2] }
  | _ => none }
def ReportBalancesWrongFalsely : Prop := reportBalancesRow.holds Try.pinned (OpenSpec.ofChange reportBalancesWrong)

/-- 'horizonlaw17.ReportHistograms': WHATEVER THE INPUT: true; the input reads as it did. -/
def reportHistogramsSpec : ChangeSpec := { name := "reportHistograms", fn := fun _ => fun
  | [d1, d2] => { results := [.lit (.bool true)], args := [d1, d2] }
  | _ => none }
def reportHistogramsRow : OpenClaim := { program := "ytomjnncgogkglaa", sum := "a42f8b99bc8cf2d7b2cf9d85ef35fe01e33a7b96ebbd23f3cd636025312ed36b", func := "horizon/horizonlaw17.ReportHistograms", spec := "reportHistograms", unfollowed := true, recurses := true, apart := false }
def ReportHistogramsSaid : Prop := reportHistogramsRow.holds Try.pinned (OpenSpec.ofChange reportHistogramsSpec)

/-- ITS FALSE NEIGHBOUR: 'it returns false'. Refute it at one input. -/
def reportHistogramsWrong : ChangeSpec := { name := "reportHistograms", fn := fun _ => fun
  | [d1, d2] => { results := [.lit (.bool false)], args := [d1, d2] }
  | _ => none }
def ReportHistogramsWrongFalsely : Prop := reportHistogramsRow.holds Try.pinned (OpenSpec.ofChange reportHistogramsWrong)

/-- 'horizonlaw17.ReportTallies': WHATEVER THE INPUT: true; the input reads as it did. -/
def reportTalliesSpec : ChangeSpec := { name := "reportTallies", fn := fun _ => fun
  | [d] => { results := [.lit (.bool true)], args := [d] }
  | _ => none }
def reportTalliesRow : OpenClaim := { program := "ytomjnncgogkglaa", sum := "a42f8b99bc8cf2d7b2cf9d85ef35fe01e33a7b96ebbd23f3cd636025312ed36b", func := "horizon/horizonlaw17.ReportTallies", spec := "reportTallies", unfollowed := true, recurses := true, apart := false }
def ReportTalliesSaid : Prop := reportTalliesRow.holds Try.pinned (OpenSpec.ofChange reportTalliesSpec)

/-- ITS FALSE NEIGHBOUR: 'it returns false'. Refute it at one input. -/
def reportTalliesWrong : ChangeSpec := { name := "reportTallies", fn := fun _ => fun
  | [d] => { results := [.lit (.bool false)], args := [d] }
  | _ => none }
def ReportTalliesWrongFalsely : Prop := reportTalliesRow.holds Try.pinned (OpenSpec.ofChange reportTalliesWrong)

/- THE SECOND FORM. 'bulk': how many values and letters a reading holds, each counted each time it is reached (what is shared counts as often as it is met; a slice's spare places count too). A statement '..UptoSaid' is the law's where the arguments, and the package variables that the reading takes, are together of bulk at most 1048576: NARROWER than '..Said'. Prove '..Said' where nothing that the law and all that it calls make is longer than what came in: it says more and counts as full. Else prove '..UptoSaid'. A law counts once. -/
mutual
def uptoBulk {H : Type} : DataW H → Nat
  | .lit (.string bytes) => bytes.length + 1
  | .lit _ => 1
  | .nil => 1
  | .ptr d => uptoBulk d + 1
  | .slice elems spare => uptoBulkAll elems + uptoBulkAll spare + 1
  | .agg parts => uptoBulkAll parts + 1
  | .iface _ d => uptoBulk d + 1
  | .map entries => uptoBulkEntries entries + 1
  | .held _ => 1
def uptoBulkAll {H : Type} : List (DataW H) → Nat
  | [] => 0
  | d :: r => uptoBulk d + uptoBulkAll r
def uptoBulkEntries {H : Type} : List (Lit × DataW H) → Nat
  | [] => 0
  | x :: r => uptoBulkEntry x + uptoBulkEntries r
def uptoBulkEntry {H : Type} : Lit × DataW H → Nat
  | (.string bytes, d) => bytes.length + uptoBulk d + 1
  | (_, d) => uptoBulk d + 1
 end
def uptoSmall : (H : Type) → List (DataW H) → Bool := fun _ ds => decide (uptoBulkAll ds ≤ 1048576)
def OpenSpec.upto (s : _root_.Go.ChangeSpec) : _root_.Go.OpenSpec := { _root_.Go.OpenSpec.ofChange s with cond := some uptoSmall }

/-- 'horizonlaw17.ReportDiffs', WHERE WHAT IT READS IS OF BULK AT MOST 1048576: true; the input reads as it did. -/
def reportDiffsUptoRow : OpenClaim := { program := "ytomjnncgogkglaa", sum := "a42f8b99bc8cf2d7b2cf9d85ef35fe01e33a7b96ebbd23f3cd636025312ed36b", func := "horizon/horizonlaw17.ReportDiffs", spec := "reportDiffs", apart := false, narrowed := true }
def ReportDiffsUptoSaid : Prop := reportDiffsUptoRow.holds Try.pinned (OpenSpec.upto reportDiffsSpec)

/-- 'horizonlaw17.ReportKinds', WHERE WHAT IT READS IS OF BULK AT MOST 1048576: true; the input reads as it did. -/
def reportKindsUptoRow : OpenClaim := { program := "ytomjnncgogkglaa", sum := "a42f8b99bc8cf2d7b2cf9d85ef35fe01e33a7b96ebbd23f3cd636025312ed36b", func := "horizon/horizonlaw17.ReportKinds", spec := "reportKinds", unfollowed := true, recurses := true, apart := false, narrowed := true }
def ReportKindsUptoSaid : Prop := reportKindsUptoRow.holds Try.pinned (OpenSpec.upto reportKindsSpec)

/-- 'horizonlaw17.ReportMeans', WHERE WHAT IT READS IS OF BULK AT MOST 1048576: true; the input reads as it did. -/
def reportMeansUptoRow : OpenClaim := { program := "ytomjnncgogkglaa", sum := "a42f8b99bc8cf2d7b2cf9d85ef35fe01e33a7b96ebbd23f3cd636025312ed36b", func := "horizon/horizonlaw17.ReportMeans", spec := "reportMeans", apart := false, narrowed := true }
def ReportMeansUptoSaid : Prop := reportMeansUptoRow.holds Try.pinned (OpenSpec.upto reportMeansSpec)

/-- 'horizonlaw17.ReportBalances', WHERE WHAT IT READS IS OF BULK AT MOST 1048576: true; the input reads as it did. -/
def reportBalancesUptoRow : OpenClaim := { program := "ytomjnncgogkglaa", sum := "a42f8b99bc8cf2d7b2cf9d85ef35fe01e33a7b96ebbd23f3cd636025312ed36b", func := "horizon/horizonlaw17.ReportBalances", spec := "reportBalances", apart := false, narrowed := true }
def ReportBalancesUptoSaid : Prop := reportBalancesUptoRow.holds Try.pinned (OpenSpec.upto reportBalancesSpec)

/-- 'horizonlaw17.ReportHistograms', WHERE WHAT IT READS IS OF BULK AT MOST 1048576: true; the input reads as it did. -/
def reportHistogramsUptoRow : OpenClaim := { program := "ytomjnncgogkglaa", sum := "a42f8b99bc8cf2d7b2cf9d85ef35fe01e33a7b96ebbd23f3cd636025312ed36b", func := "horizon/horizonlaw17.ReportHistograms", spec := "reportHistograms", unfollowed := true, recurses := true, apart := false, narrowed := true }
def ReportHistogramsUptoSaid : Prop := reportHistogramsUptoRow.holds Try.pinned (OpenSpec.upto reportHistogramsSpec)

/-- 'horizonlaw17.ReportTallies', WHERE WHAT IT READS IS OF BULK AT MOST 1048576: true; the input reads as it did. -/
def reportTalliesUptoRow : OpenClaim := { program := "ytomjnncgogkglaa", sum := "a42f8b99bc8cf2d7b2cf9d85ef35fe01e33a7b96ebbd23f3cd636025312ed36b", func := "horizon/horizonlaw17.ReportTallies", spec := "reportTallies", unfollowed := true, recurses := true, apart := false, narrowed := true }
def ReportTalliesUptoSaid : Prop := reportTalliesUptoRow.holds Try.pinned (OpenSpec.upto reportTalliesSpec)

end Rows
end Go.Proofs.Ytomjnncgogkglaa
