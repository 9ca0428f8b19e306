/-
  No cell of these rows narrows 'for every input' (looked for: loops, veiled, ifaces, maps, wideKeys, modest, calm, conditions, laid).
  DERIVED. THE GIVEN ROWS OF THIS SEAT. 2 by the template 'for every input the law returns true; each argument reads behind the call as it read before'; 0 by the template 'total and deterministic' (their statements: YtkgifanlodlilaaTotals.lean).
  GIVEN WITH THE SEED: the statements are not yours to turn. If you find one false, say at which input.
  Laid BY PROGRAM, IN A SANDBOX (cutbox-rows.mjs): the forced cells as the released guide's own fill.sh prints them over the translation c406fc6e6726bebc… (all of the seat's roots in one cut). By AI agents, Wed Nov 11 2026. No macro, syntax, notation, axiom, sorry.
-/
import Derived.Test.YtkgifanlodlilaaChecked
import GoSem.Claim
import GoSem.ClaimJoined
import GoSem.ClaimMapViews
import Derived.JoinedTies
import Derived.KernelRfl
namespace Go.Proofs.Ytkgifanlodlilaa
/- THE CELL 'sum', in the pinned program and in every row, IS THE sha256 OF THE DUMP (.gsa) THAT YtkgifanlodlilaaProg.lean LOADS. Nothing in Lean hashes anything: it is a label: what it is worth is what the hold of that sum in a sandbox is worth. -/
noncomputable def Try.pinned : Pinned := { name := "ytkgifanlodlilaa", sum := "c406fc6e6726bebca12a63a2c4015f7052642b559679dcd545383a334d54d512", checked := Try.checked }
namespace Rows
def none {H : Type} : Left H := { results := [], args := [] }

/-- 'horizonlaw14.KernelGraham': WHATEVER THE INPUT: true; the input reads as it did. -/
def kernelGrahamSpec : ChangeSpec := { name := "kernelGraham", fn := fun _ => fun
  | [d1, d2] => { results := [.lit (.bool true)], args := [d1, d2] }
  | _ => none }
def kernelGrahamRow : OpenClaim := { program := "ytkgifanlodlilaa", sum := "c406fc6e6726bebca12a63a2c4015f7052642b559679dcd545383a334d54d512", func := "horizon/horizonlaw14.KernelGraham", spec := "kernelGraham", unfollowed := true, recurses := true, apart := false }
def KernelGrahamSaid : Prop := kernelGrahamRow.holds Try.pinned (OpenSpec.ofChange kernelGrahamSpec)

/-- ITS FALSE NEIGHBOUR: 'it returns false'. Refute it at one input. -/
def kernelGrahamWrong : ChangeSpec := { name := "kernelGraham", fn := fun _ => fun
  | [d1, d2] => { results := [.lit (.bool false)], args := [d1, d2] }
  | _ => none }
def KernelGrahamWrongFalsely : Prop := kernelGrahamRow.holds Try.pinned (OpenSpec.ofChange kernelGrahamWrong)

/-- 'horizonlaw14.KernelSpreads': WHATEVER THE INPUT: true; the input reads as it did. -/
def kernelSpreadsSpec : ChangeSpec := { name := "kernelSpreads", fn := fun _ => fun
  | [d1, d2, d3] => { results := [.lit (.bool true)], args := [d1, d2, d3] }
  | _ => none }
def kernelSpreadsRow : OpenClaim := { program := "ytkgifanlodlilaa", sum := "c406fc6e6726bebca12a63a2c4015f7052642b559679dcd545383a334d54d512", func := "horizon/horizonlaw14.KernelSpreads", spec := "kernelSpreads", unfollowed := true, recurses := true, apart := false }
def KernelSpreadsSaid : Prop := kernelSpreadsRow.holds Try.pinned (OpenSpec.ofChange kernelSpreadsSpec)

/-- ITS FALSE NEIGHBOUR: 'it returns false'. Refute it at one input. -/
def kernelSpreadsWrong : ChangeSpec := { name := "kernelSpreads", fn := fun _ => fun
  | [d1, d2, d3] => { results := [.lit (.bool false)], args := [d1, d2, d3] }
  | _ => none }
def KernelSpreadsWrongFalsely : Prop := kernelSpreadsRow.holds Try.pinned (OpenSpec.ofChange kernelSpreadsWrong)

/- THE SECOND FORM. 'bulk': how many values and letters a reading holds, each counted each time it is reached (what is shared counts as often as it is met; a slice's spare places count too). A statement '..UptoSaid' is the law's where the arguments, and the package variables that the reading takes, are together of bulk at most 1048576: NARROWER than '..Said'. Prove '..Said' where nothing that the law and all that it calls make is longer than what came in: it says more and counts as full. Else prove '..UptoSaid'. A law counts once. -/
mutual
def uptoBulk {H : Type} : DataW H → Nat
  | .lit (.string bytes) => bytes.length + 1
  | .lit _ => 1
  | .nil => 1
  | .ptr d => uptoBulk d + 1
  | .slice elems spare => uptoBulkAll elems + uptoBulkAll spare + 1
  | .agg parts => uptoBulkAll parts + 1
  | .iface _ d => uptoBulk d + 1
  | .map entries => uptoBulkEntries entries + 1
  | .held _ => 1
def uptoBulkAll {H : Type} : List (DataW H) → Nat
  | [] => 0
  | d :: r => uptoBulk d + uptoBulkAll r
def uptoBulkEntries {H : Type} : List (Lit × DataW H) → Nat
  | [] => 0
  | x :: r => uptoBulkEntry x + uptoBulkEntries r
def uptoBulkEntry {H : Type} : Lit × DataW H → Nat
  | (.string bytes, d) => bytes.length + uptoBulk d + 1
  | (_, d) => uptoBulk d + 1
 end
def uptoSmall : (H : Type) → List (DataW H) → Bool := fun _ ds => decide (uptoBulkAll ds ≤ 1048576)
def OpenSpec.upto (s : _root_.Go.ChangeSpec) : _root_.Go.OpenSpec := { _root_.Go.OpenSpec.ofChange s with cond := some uptoSmall }

/-- 'horizonlaw14.KernelGraham', WHERE WHAT IT READS IS OF BULK AT MOST 1048576: true; the input reads as it did. -/
def kernelGrahamUptoRow : OpenClaim := { program := "ytkgifanlodlilaa", sum := "c406fc6e6726bebca12a63a2c4015f7052642b559679dcd545383a334d54d512", func := "horizon/horizonlaw14.KernelGraham", spec := "kernelGraham", unfollowed := true, recurses := true, apart := false, narrowed := true }
def KernelGrahamUptoSaid : Prop := kernelGrahamUptoRow.holds Try.pinned (OpenSpec.upto kernelGrahamSpec)

/-- 'horizonlaw14.KernelSpreads', WHERE WHAT IT READS IS OF BULK AT MOST 1048576: true; the input reads as it did. -/
def kernelSpreadsUptoRow : OpenClaim := { program := "ytkgifanlodlilaa", sum := "c406fc6e6726bebca12a63a2c4015f7052642b559679dcd545383a334d54d512", func := "horizon/horizonlaw14.KernelSpreads", spec := "kernelSpreads", unfollowed := true, recurses := true, apart := false, narrowed := true }
def KernelSpreadsUptoSaid : Prop := kernelSpreadsUptoRow.holds Try.pinned (OpenSpec.upto kernelSpreadsSpec)

end Rows
end Go.Proofs.Ytkgifanlodlilaa
