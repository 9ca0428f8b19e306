/-
  No cell of these rows narrows 'for every input' (looked for: loops, veiled, ifaces, maps, wideKeys, modest, calm, conditions, laid).
  DERIVED. THE GIVEN ROWS OF THIS SEAT. 6 by the template 'for every input the law returns true; each argument reads behind the call as it read before'; 0 by the template 'total and deterministic' (their statements: YtieanhmkcbcdkaaTotals.lean).
  GIVEN WITH THE SEED: the statements are not yours to turn. If you find one false, say at which input.
  Laid BY PROGRAM, IN A SANDBOX (cutbox-rows.mjs): the forced cells as the released guide's own fill.sh prints them over the translation ca710485291d6e21… (all of the seat's roots in one cut). By AI agents, Wed Nov 11 2026. No macro, syntax, notation, axiom, sorry.
-/
import Derived.Test.YtieanhmkcbcdkaaChecked
import GoSem.Claim
import GoSem.ClaimJoined
import GoSem.ClaimMapViews
import Derived.JoinedTies
import Derived.KernelRfl
namespace Go.Proofs.Ytieanhmkcbcdkaa
/- THE CELL 'sum', in the pinned program and in every row, IS THE sha256 OF THE DUMP (.gsa) THAT YtieanhmkcbcdkaaProg.lean LOADS. Nothing in Lean hashes anything: it is a label: what it is worth is what the hold of that sum in a sandbox is worth. -/
noncomputable def Try.pinned : Pinned := { name := "ytieanhmkcbcdkaa", sum := "ca710485291d6e21f32ccbe68f7cdb42efeb85d167e6da9d838dc40d502e0686", checked := Try.checked }
namespace Rows
def none {H : Type} : Left H := { results := [], args := [] }

/-- 'horizonlaw6.VmSafe': WHATEVER THE INPUT: true; the input reads as it did. -/
def vmSafeSpec : ChangeSpec := { name := "vmSafe", fn := fun _ => fun
  | [d1, d2] => { results := [.lit (.bool true)], args := [d1, d2] }
  | _ => none }
def vmSafeRow : OpenClaim := { program := "ytieanhmkcbcdkaa", sum := "ca710485291d6e21f32ccbe68f7cdb42efeb85d167e6da9d838dc40d502e0686", func := "horizon/horizonlaw6.VmSafe", spec := "vmSafe", unfollowed := true, recurses := true, apart := false }
def VmSafeSaid : Prop := vmSafeRow.holds Try.pinned (OpenSpec.ofChange vmSafeSpec)

/-- ITS FALSE NEIGHBOUR: 'it returns false'. Refute it at one input. -/
def vmSafeWrong : ChangeSpec := { name := "vmSafe", fn := fun _ => fun
  | [d1, d2] => { results := [.lit (.bool false)], args := [d1, d2] }
  | _ => none }
def VmSafeWrongFalsely : Prop := vmSafeRow.holds Try.pinned (OpenSpec.ofChange vmSafeWrong)

/-- 'horizonlaw6.VmSends': WHATEVER THE INPUT: true; the input reads as it did. -/
def vmSendsSpec : ChangeSpec := { name := "vmSends", fn := fun _ => fun
  | [d1, d2] => { results := [.lit (.bool true)], args := [d1, d2] }
  | _ => none }
def vmSendsRow : OpenClaim := { program := "ytieanhmkcbcdkaa", sum := "ca710485291d6e21f32ccbe68f7cdb42efeb85d167e6da9d838dc40d502e0686", func := "horizon/horizonlaw6.VmSends", spec := "vmSends", unfollowed := true, recurses := true, apart := false }
def VmSendsSaid : Prop := vmSendsRow.holds Try.pinned (OpenSpec.ofChange vmSendsSpec)

/-- ITS FALSE NEIGHBOUR: 'it returns false'. Refute it at one input. -/
def vmSendsWrong : ChangeSpec := { name := "vmSends", fn := fun _ => fun
  | [d1, d2] => { results := [.lit (.bool false)], args := [d1, d2] }
  | _ => none }
def VmSendsWrongFalsely : Prop := vmSendsRow.holds Try.pinned (OpenSpec.ofChange vmSendsWrong)

/-- 'horizonlaw6.VmMoves': WHATEVER THE INPUT: true; the input reads as it did. -/
def vmMovesSpec : ChangeSpec := { name := "vmMoves", fn := fun _ => fun
  | [d1, d2, d3] => { results := [.lit (.bool true)], args := [d1, d2, d3] }
  | _ => none }
def vmMovesRow : OpenClaim := { program := "ytieanhmkcbcdkaa", sum := "ca710485291d6e21f32ccbe68f7cdb42efeb85d167e6da9d838dc40d502e0686", func := "horizon/horizonlaw6.VmMoves", spec := "vmMoves", unfollowed := true, recurses := true, apart := false }
def VmMovesSaid : Prop := vmMovesRow.holds Try.pinned (OpenSpec.ofChange vmMovesSpec)

/-- ITS FALSE NEIGHBOUR: 'it returns false'. Refute it at one input. -/
def vmMovesWrong : ChangeSpec := { name := "vmMoves", fn := fun _ => fun
  | [d1, d2, d3] => { results := [.lit (.bool false)], args := [d1, d2, d3] }
  | _ => none }
def VmMovesWrongFalsely : Prop := vmMovesRow.holds Try.pinned (OpenSpec.ofChange vmMovesWrong)

/-- 'horizonlaw6.VmDice': WHATEVER THE INPUT: true; the input reads as it did. -/
def vmDiceSpec : ChangeSpec := { name := "vmDice", fn := fun _ => fun
  | [d1, d2] => { results := [.lit (.bool true)], args := [d1, d2] }
  | _ => none }
def vmDiceRow : OpenClaim := { program := "ytieanhmkcbcdkaa", sum := "ca710485291d6e21f32ccbe68f7cdb42efeb85d167e6da9d838dc40d502e0686", func := "horizon/horizonlaw6.VmDice", spec := "vmDice", unfollowed := true, recurses := true, apart := false }
def VmDiceSaid : Prop := vmDiceRow.holds Try.pinned (OpenSpec.ofChange vmDiceSpec)

/-- ITS FALSE NEIGHBOUR: 'it returns false'. Refute it at one input. -/
def vmDiceWrong : ChangeSpec := { name := "vmDice", fn := fun _ => fun
  | [d1, d2] => { results := [.lit (.bool false)], args := [d1, d2] }
  | _ => none }
def VmDiceWrongFalsely : Prop := vmDiceRow.holds Try.pinned (OpenSpec.ofChange vmDiceWrong)

/-- 'horizonlaw6.VmArith': WHATEVER THE INPUT: true; the input reads as it did. -/
def vmArithSpec : ChangeSpec := { name := "vmArith", fn := fun _ => fun
  | [d1, d2, d3] => { results := [.lit (.bool true)], args := [d1, d2, d3] }
  | _ => none }
def vmArithRow : OpenClaim := { program := "ytieanhmkcbcdkaa", sum := "ca710485291d6e21f32ccbe68f7cdb42efeb85d167e6da9d838dc40d502e0686", func := "horizon/horizonlaw6.VmArith", spec := "vmArith", unfollowed := true, recurses := true, apart := false }
def VmArithSaid : Prop := vmArithRow.holds Try.pinned (OpenSpec.ofChange vmArithSpec)

/-- ITS FALSE NEIGHBOUR: 'it returns false'. Refute it at one input. -/
def vmArithWrong : ChangeSpec := { name := "vmArith", fn := fun _ => fun
  | [d1, d2, d3] => { results := [.lit (.bool false)], args := [d1, d2, d3] }
  | _ => none }
def VmArithWrongFalsely : Prop := vmArithRow.holds Try.pinned (OpenSpec.ofChange vmArithWrong)

/-- 'horizonlaw6.VmFuel': WHATEVER THE INPUT: true; the input reads as it did. -/
def vmFuelSpec : ChangeSpec := { name := "vmFuel", fn := fun _ => fun
  | [d1, d2, d3] => { results := [.lit (.bool true)], args := [d1, d2, d3] }
  | _ => none }
def vmFuelRow : OpenClaim := { program := "ytieanhmkcbcdkaa", sum := "ca710485291d6e21f32ccbe68f7cdb42efeb85d167e6da9d838dc40d502e0686", func := "horizon/horizonlaw6.VmFuel", spec := "vmFuel", unfollowed := true, recurses := true, apart := false }
def VmFuelSaid : Prop := vmFuelRow.holds Try.pinned (OpenSpec.ofChange vmFuelSpec)

/-- ITS FALSE NEIGHBOUR: 'it returns false'. Refute it at one input. -/
def vmFuelWrong : ChangeSpec := { name := "vmFuel", fn := fun _ => fun
  | [d1, d2, d3] => { results := [.lit (.bool false)], args := [d1, d2, d3] }
  | _ => none }
def VmFuelWrongFalsely : Prop := vmFuelRow.holds Try.pinned (OpenSpec.ofChange vmFuelWrong)

/- THE SECOND FORM. 'bulk': how many values and letters a reading holds, each counted each time it is reached (what is shared counts as often as it is met; a slice's spare places count too). A statement '..UptoSaid' is the law's where the arguments, and the package variables that the reading takes, are together of bulk at most 1048576: NARROWER than '..Said'. Prove '..Said' where nothing that the law and all that it calls make is longer than what came in: it says more and counts as full. Else prove '..UptoSaid'. A law counts once. -/
mutual
def uptoBulk {H : Type} : DataW H → Nat
  | .lit (.string bytes) => bytes.length + 1
  | .lit _ => 1
  | .nil => 1
  | .ptr d => uptoBulk d + 1
  | .slice elems spare => uptoBulkAll elems + uptoBulkAll spare + 1
  | .agg parts => uptoBulkAll parts + 1
  | .iface _ d => uptoBulk d + 1
  | .map entries => uptoBulkEntries entries + 1
  | .held _ => 1
def uptoBulkAll {H : Type} : List (DataW H) → Nat
  | [] => 0
  | d :: r => uptoBulk d + uptoBulkAll r
def uptoBulkEntries {H : Type} : List (Lit × DataW H) → Nat
  | [] => 0
  | x :: r => uptoBulkEntry x + uptoBulkEntries r
def uptoBulkEntry {H : Type} : Lit × DataW H → Nat
  | (.string bytes, d) => bytes.length + uptoBulk d + 1
  | (_, d) => uptoBulk d + 1
 end
def uptoSmall : (H : Type) → List (DataW H) → Bool := fun _ ds => decide (uptoBulkAll ds ≤ 1048576)
def OpenSpec.upto (s : _root_.Go.ChangeSpec) : _root_.Go.OpenSpec := { _root_.Go.OpenSpec.ofChange s with cond := some uptoSmall }

/-- 'horizonlaw6.VmSafe', WHERE WHAT IT READS IS OF BULK AT MOST 1048576: true; the input reads as it did. -/
def vmSafeUptoRow : OpenClaim := { program := "ytieanhmkcbcdkaa", sum := "ca710485291d6e21f32ccbe68f7cdb42efeb85d167e6da9d838dc40d502e0686", func := "horizon/horizonlaw6.VmSafe", spec := "vmSafe", unfollowed := true, recurses := true, apart := false, narrowed := true }
def VmSafeUptoSaid : Prop := vmSafeUptoRow.holds Try.pinned (OpenSpec.upto vmSafeSpec)

/-- 'horizonlaw6.VmSends', WHERE WHAT IT READS IS OF BULK AT MOST 1048576: true; the input reads as it did. -/
def vmSendsUptoRow : OpenClaim := { program := "ytieanhmkcbcdkaa", sum := "ca710485291d6e21f32ccbe68f7cdb42efeb85d167e6da9d838dc40d502e0686", func := "horizon/horizonlaw6.VmSends", spec := "vmSends", unfollowed := true, recurses := true, apart := false, narrowed := true }
def VmSendsUptoSaid : Prop := vmSendsUptoRow.holds Try.pinned (OpenSpec.upto vmSendsSpec)

/-- 'horizonlaw6.VmMoves', WHERE WHAT IT READS IS OF BULK AT MOST 1048576: true; the input reads as it did. -/
def vmMovesUptoRow : OpenClaim := { program := "ytieanhmkcbcdkaa", sum := "ca710485291d6e21f32ccbe68f7cdb42efeb85d167e6da9d838dc40d502e0686", func := "horizon/horizonlaw6.VmMoves", spec := "vmMoves", unfollowed := true, recurses := true, apart := false, narrowed := true }
def VmMovesUptoSaid : Prop := vmMovesUptoRow.holds Try.pinned (OpenSpec.upto vmMovesSpec)

/-- 'horizonlaw6.VmDice', WHERE WHAT IT READS IS OF BULK AT MOST 1048576: true; the input reads as it did. -/
def vmDiceUptoRow : OpenClaim := { program := "ytieanhmkcbcdkaa", sum := "ca710485291d6e21f32ccbe68f7cdb42efeb85d167e6da9d838dc40d502e0686", func := "horizon/horizonlaw6.VmDice", spec := "vmDice", unfollowed := true, recurses := true, apart := false, narrowed := true }
def VmDiceUptoSaid : Prop := vmDiceUptoRow.holds Try.pinned (OpenSpec.upto vmDiceSpec)

/-- 'horizonlaw6.VmArith', WHERE WHAT IT READS IS OF BULK AT MOST 1048576: true; the input reads as it did. -/
def vmArithUptoRow : OpenClaim := { program := "ytieanhmkcbcdkaa", sum := "ca710485291d6e21f32ccbe68f7cdb42efeb85d167e6da9d838dc40d502e0686", func := "horizon/horizonlaw6.VmArith", spec := "vmArith", unfollowed := true, recurses := true, apart := false, narrowed := true }
def VmArithUptoSaid : Prop := vmArithUptoRow.holds Try.pinned (OpenSpec.upto vmArithSpec)

/-- 'horizonlaw6.VmFuel', WHERE WHAT IT READS IS OF BULK AT MOST 1048576: true; the input reads as it did. -/
def vmFuelUptoRow : OpenClaim := { program := "ytieanhmkcbcdkaa", sum := "ca710485291d6e21f32ccbe68f7cdb42efeb85d167e6da9d838dc40d502e0686", func := "horizon/horizonlaw6.VmFuel", spec := "vmFuel", unfollowed := true, recurses := true, apart := false, narrowed := true }
def VmFuelUptoSaid : Prop := vmFuelUptoRow.holds Try.pinned (OpenSpec.upto vmFuelSpec)

end Rows
end Go.Proofs.Ytieanhmkcbcdkaa
