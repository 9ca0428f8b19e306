/-
  No cell of these rows narrows 'for every input' (looked for: loops, veiled, ifaces, maps, wideKeys, modest, calm, conditions, laid).
  DERIVED. THE GIVEN ROWS OF THIS SEAT. 5 by the template 'for every input the law returns true; each argument reads behind the call as it read before'; 0 by the template 'total and deterministic' (their statements: YtllhbggipbefmabTotals.lean).
  GIVEN WITH THE SEED: the statements are not yours to turn. If you find one false, say at which input.
  Laid BY PROGRAM, IN A SANDBOX (cutbox-rows.mjs): the forced cells as the released guide's own fill.sh prints them over the translation 74407e50fe45c934… (all of the seat's roots in one cut). By AI agents, Wed Nov 11 2026. No macro, syntax, notation, axiom, sorry.
-/
import Derived.Test.YtllhbggipbefmabChecked
import GoSem.Claim
import GoSem.ClaimJoined
import GoSem.ClaimMapViews
import Derived.JoinedTies
import Derived.KernelRfl
namespace Go.Proofs.Ytllhbggipbefmab
/- THE CELL 'sum', in the pinned program and in every row, IS THE sha256 OF THE DUMP (.gsa) THAT YtllhbggipbefmabProg.lean LOADS. Nothing in Lean hashes anything: it is a label: what it is worth is what the hold of that sum in a sandbox is worth. -/
noncomputable def Try.pinned : Pinned := { name := "ytllhbggipbefmab", sum := "74407e50fe45c9341a26f097bdc612c805afb4fe898668a5bb589d6e23436655", checked := Try.checked }
namespace Rows
def none {H : Type} : Left H := { results := [], args := [] }

/-- 'horizonlaw2.DiceOrders': WHATEVER THE INPUT: true; the input reads as it did. -/
def diceOrdersSpec : ChangeSpec := { name := "diceOrders", fn := fun _ => fun
  | [d1, d2] => { results := [.lit (.bool true)], args := [d1, d2] }
  | _ => none }
def diceOrdersRow : OpenClaim := { program := "ytllhbggipbefmab", sum := "74407e50fe45c9341a26f097bdc612c805afb4fe898668a5bb589d6e23436655", func := "horizon/horizonlaw2.DiceOrders", spec := "diceOrders", apart := false }
def DiceOrdersSaid : Prop := diceOrdersRow.holds Try.pinned (OpenSpec.ofChange diceOrdersSpec)

/-- ITS FALSE NEIGHBOUR: 'it returns false'. Refute it at one input. -/
def diceOrdersWrong : ChangeSpec := { name := "diceOrders", fn := fun _ => fun
  | [d1, d2] => { results := [.lit (.bool false)], args := [d1, d2] }
  | _ => none }
def DiceOrdersWrongFalsely : Prop := diceOrdersRow.holds Try.pinned (OpenSpec.ofChange diceOrdersWrong)

/-- 'horizonlaw2.DiceSteps': WHATEVER THE INPUT: true; the input reads as it did. -/
def diceStepsSpec : ChangeSpec := { name := "diceSteps", fn := fun _ => fun
  | [d] => { results := [.lit (.bool true)], args := [d] }
  | _ => none }
def diceStepsRow : OpenClaim := { program := "ytllhbggipbefmab", sum := "74407e50fe45c9341a26f097bdc612c805afb4fe898668a5bb589d6e23436655", func := "horizon/horizonlaw2.DiceSteps", spec := "diceSteps", apart := false }
def DiceStepsSaid : Prop := diceStepsRow.holds Try.pinned (OpenSpec.ofChange diceStepsSpec)

/-- ITS FALSE NEIGHBOUR: 'it returns false'. Refute it at one input. -/
def diceStepsWrong : ChangeSpec := { name := "diceSteps", fn := fun _ => fun
  | [d] => { results := [.lit (.bool false)], args := [d] }
  | _ => none }
def DiceStepsWrongFalsely : Prop := diceStepsRow.holds Try.pinned (OpenSpec.ofChange diceStepsWrong)

/-- 'horizonlaw2.DiceBelows': WHATEVER THE INPUT: true; the input reads as it did. -/
def diceBelowsSpec : ChangeSpec := { name := "diceBelows", fn := fun _ => fun
  | [d1, d2] => { results := [.lit (.bool true)], args := [d1, d2] }
  | _ => none }
def diceBelowsRow : OpenClaim := { program := "ytllhbggipbefmab", sum := "74407e50fe45c9341a26f097bdc612c805afb4fe898668a5bb589d6e23436655", func := "horizon/horizonlaw2.DiceBelows", spec := "diceBelows", apart := false }
def DiceBelowsSaid : Prop := diceBelowsRow.holds Try.pinned (OpenSpec.ofChange diceBelowsSpec)

/-- ITS FALSE NEIGHBOUR: 'it returns false'. Refute it at one input. -/
def diceBelowsWrong : ChangeSpec := { name := "diceBelows", fn := fun _ => fun
  | [d1, d2] => { results := [.lit (.bool false)], args := [d1, d2] }
  | _ => none }
def DiceBelowsWrongFalsely : Prop := diceBelowsRow.holds Try.pinned (OpenSpec.ofChange diceBelowsWrong)

/-- 'horizonlaw2.DiceLongs': WHATEVER THE INPUT: true; the input reads as it did. -/
def diceLongsSpec : ChangeSpec := { name := "diceLongs", fn := fun _ => fun
  | [d1, d2, d3, d4] => { results := [.lit (.bool true)], args := [d1, d2, d3, d4] }
  | _ => none }
def diceLongsRow : OpenClaim := { program := "ytllhbggipbefmab", sum := "74407e50fe45c9341a26f097bdc612c805afb4fe898668a5bb589d6e23436655", func := "horizon/horizonlaw2.DiceLongs", spec := "diceLongs", apart := false }
def DiceLongsSaid : Prop := diceLongsRow.holds Try.pinned (OpenSpec.ofChange diceLongsSpec)

/-- ITS FALSE NEIGHBOUR: 'it returns false'. Refute it at one input. -/
def diceLongsWrong : ChangeSpec := { name := "diceLongs", fn := fun _ => fun
  | [d1, d2, d3, d4] => { results := [.lit (.bool false)], args := [d1, d2, d3, d4] }
  | _ => none }
def DiceLongsWrongFalsely : Prop := diceLongsRow.holds Try.pinned (OpenSpec.ofChange diceLongsWrong)

/-- 'horizonlaw2.DiceSpans': WHATEVER THE INPUT: true; the input reads as it did. -/
def diceSpansSpec : ChangeSpec := { name := "diceSpans", fn := fun _ => fun
  | [d1, d2, d3] => { results := [.lit (.bool true)], args := [d1, d2, d3] }
  | _ => none }
def diceSpansRow : OpenClaim := { program := "ytllhbggipbefmab", sum := "74407e50fe45c9341a26f097bdc612c805afb4fe898668a5bb589d6e23436655", func := "horizon/horizonlaw2.DiceSpans", spec := "diceSpans", apart := false }
def DiceSpansSaid : Prop := diceSpansRow.holds Try.pinned (OpenSpec.ofChange diceSpansSpec)

/-- ITS FALSE NEIGHBOUR: 'it returns false'. Refute it at one input. -/
def diceSpansWrong : ChangeSpec := { name := "diceSpans", fn := fun _ => fun
  | [d1, d2, d3] => { results := [.lit (.bool false)], args := [d1, d2, d3] }
  | _ => none }
def DiceSpansWrongFalsely : Prop := diceSpansRow.holds Try.pinned (OpenSpec.ofChange diceSpansWrong)

/- THE SECOND FORM. 'bulk': how many values and letters a reading holds, each counted each time it is reached (what is shared counts as often as it is met; a slice's spare places count too). A statement '..UptoSaid' is the law's where the arguments, and the package variables that the reading takes, are together of bulk at most 1048576: NARROWER than '..Said'. Prove '..Said' where nothing that the law and all that it calls make is longer than what came in: it says more and counts as full. Else prove '..UptoSaid'. A law counts once. -/
mutual
def uptoBulk {H : Type} : DataW H → Nat
  | .lit (.string bytes) => bytes.length + 1
  | .lit _ => 1
  | .nil => 1
  | .ptr d => uptoBulk d + 1
  | .slice elems spare => uptoBulkAll elems + uptoBulkAll spare + 1
  | .agg parts => uptoBulkAll parts + 1
  | .iface _ d => uptoBulk d + 1
  | .map entries => uptoBulkEntries entries + 1
  | .held _ => 1
def uptoBulkAll {H : Type} : List (DataW H) → Nat
  | [] => 0
  | d :: r => uptoBulk d + uptoBulkAll r
def uptoBulkEntries {H : Type} : List (Lit × DataW H) → Nat
  | [] => 0
  | x :: r => uptoBulkEntry x + uptoBulkEntries r
def uptoBulkEntry {H : Type} : Lit × DataW H → Nat
  | (.string bytes, d) => bytes.length + uptoBulk d + 1
  | (_, d) => uptoBulk d + 1
 end
def uptoSmall : (H : Type) → List (DataW H) → Bool := fun _ ds => decide (uptoBulkAll ds ≤ 1048576)
def OpenSpec.upto (s : _root_.Go.ChangeSpec) : _root_.Go.OpenSpec := { _root_.Go.OpenSpec.ofChange s with cond := some uptoSmall }

/-- 'horizonlaw2.DiceOrders', WHERE WHAT IT READS IS OF BULK AT MOST 1048576: true; the input reads as it did. -/
def diceOrdersUptoRow : OpenClaim := { program := "ytllhbggipbefmab", sum := "74407e50fe45c9341a26f097bdc612c805afb4fe898668a5bb589d6e23436655", func := "horizon/horizonlaw2.DiceOrders", spec := "diceOrders", apart := false, narrowed := true }
def DiceOrdersUptoSaid : Prop := diceOrdersUptoRow.holds Try.pinned (OpenSpec.upto diceOrdersSpec)

/-- 'horizonlaw2.DiceSteps', WHERE WHAT IT READS IS OF BULK AT MOST 1048576: true; the input reads as it did. -/
def diceStepsUptoRow : OpenClaim := { program := "ytllhbggipbefmab", sum := "74407e50fe45c9341a26f097bdc612c805afb4fe898668a5bb589d6e23436655", func := "horizon/horizonlaw2.DiceSteps", spec := "diceSteps", apart := false, narrowed := true }
def DiceStepsUptoSaid : Prop := diceStepsUptoRow.holds Try.pinned (OpenSpec.upto diceStepsSpec)

/-- 'horizonlaw2.DiceBelows', WHERE WHAT IT READS IS OF BULK AT MOST 1048576: true; the input reads as it did. -/
def diceBelowsUptoRow : OpenClaim := { program := "ytllhbggipbefmab", sum := "74407e50fe45c9341a26f097bdc612c805afb4fe898668a5bb589d6e23436655", func := "horizon/horizonlaw2.DiceBelows", spec := "diceBelows", apart := false, narrowed := true }
def DiceBelowsUptoSaid : Prop := diceBelowsUptoRow.holds Try.pinned (OpenSpec.upto diceBelowsSpec)

/-- 'horizonlaw2.DiceLongs', WHERE WHAT IT READS IS OF BULK AT MOST 1048576: true; the input reads as it did. -/
def diceLongsUptoRow : OpenClaim := { program := "ytllhbggipbefmab", sum := "74407e50fe45c9341a26f097bdc612c805afb4fe898668a5bb589d6e23436655", func := "horizon/horizonlaw2.DiceLongs", spec := "diceLongs", apart := false, narrowed := true }
def DiceLongsUptoSaid : Prop := diceLongsUptoRow.holds Try.pinned (OpenSpec.upto diceLongsSpec)

/-- 'horizonlaw2.DiceSpans', WHERE WHAT IT READS IS OF BULK AT MOST 1048576: true; the input reads as it did. -/
def diceSpansUptoRow : OpenClaim := { program := "ytllhbggipbefmab", sum := "74407e50fe45c9341a26f097bdc612c805afb4fe898668a5bb589d6e23436655", func := "horizon/horizonlaw2.DiceSpans", spec := "diceSpans", apart := false, narrowed := true }
def DiceSpansUptoSaid : Prop := diceSpansUptoRow.holds Try.pinned (OpenSpec.upto diceSpansSpec)

end Rows
end Go.Proofs.Ytllhbggipbefmab
