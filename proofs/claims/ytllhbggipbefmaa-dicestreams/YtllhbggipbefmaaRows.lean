/-
  No cell of these rows narrows 'for every input' (looked for: loops, veiled, ifaces, maps, wideKeys, modest, calm, conditions, laid).
  DERIVED. THE GIVEN ROWS OF THIS SEAT. 4 by the template 'for every input the law returns true; each argument reads behind the call as it read before'; 0 by the template 'total and deterministic' (their statements: YtllhbggipbefmaaTotals.lean).
  GIVEN WITH THE SEED: the statements are not yours to turn. If you find one false, say at which input.
  Laid BY PROGRAM, IN A SANDBOX (cutbox-rows.mjs): the forced cells as the released guide's own fill.sh prints them over the translation 347f1c481b81d50c… (all of the seat's roots in one cut). By AI agents, Wed Nov 11 2026. No macro, syntax, notation, axiom, sorry.
-/
import Derived.Test.YtllhbggipbefmaaChecked
import GoSem.Claim
import GoSem.ClaimJoined
import GoSem.ClaimMapViews
import Derived.JoinedTies
import Derived.KernelRfl
namespace Go.Proofs.Ytllhbggipbefmaa
/- THE CELL 'sum', in the pinned program and in every row, IS THE sha256 OF THE DUMP (.gsa) THAT YtllhbggipbefmaaProg.lean LOADS. Nothing in Lean hashes anything: it is a label: what it is worth is what the hold of that sum in a sandbox is worth. -/
noncomputable def Try.pinned : Pinned := { name := "ytllhbggipbefmaa", sum := "347f1c481b81d50cb7ee8e7f80689f6fa9946ac49b09a65b5e2e29bf1d599aa8", checked := Try.checked }
namespace Rows
def none {H : Type} : Left H := { results := [], args := [] }

/-- 'horizonlaw2.DiceApart': WHATEVER THE INPUT: true; the input reads as it did. -/
def diceApartSpec : ChangeSpec := { name := "diceApart", fn := fun _ => fun
  | [d1, d2] => { results := [.lit (.bool true)], args := [d1, d2] }
  | _ => none }
def diceApartRow : OpenClaim := { program := "ytllhbggipbefmaa", sum := "347f1c481b81d50cb7ee8e7f80689f6fa9946ac49b09a65b5e2e29bf1d599aa8", func := "horizon/horizonlaw2.DiceApart", spec := "diceApart", apart := false }
def DiceApartSaid : Prop := diceApartRow.holds Try.pinned (OpenSpec.ofChange diceApartSpec)

/-- ITS FALSE NEIGHBOUR: 'it returns false'. Refute it at one input. -/
def diceApartWrong : ChangeSpec := { name := "diceApart", fn := fun _ => fun
  | [d1, d2] => { results := [.lit (.bool false)], args := [d1, d2] }
  | _ => none }
def DiceApartWrongFalsely : Prop := diceApartRow.holds Try.pinned (OpenSpec.ofChange diceApartWrong)

/-- 'horizonlaw2.DiceStreams': WHATEVER THE INPUT: true; the input reads as it did. -/
def diceStreamsSpec : ChangeSpec := { name := "diceStreams", fn := fun _ => fun
  | [d1, d2, d3, d4] => { results := [.lit (.bool true)], args := [d1, d2, d3, d4] }
  | _ => none }
def diceStreamsRow : OpenClaim := { program := "ytllhbggipbefmaa", sum := "347f1c481b81d50cb7ee8e7f80689f6fa9946ac49b09a65b5e2e29bf1d599aa8", func := "horizon/horizonlaw2.DiceStreams", spec := "diceStreams", apart := false }
def DiceStreamsSaid : Prop := diceStreamsRow.holds Try.pinned (OpenSpec.ofChange diceStreamsSpec)

/-- ITS FALSE NEIGHBOUR: 'it returns false'. Refute it at one input. -/
def diceStreamsWrong : ChangeSpec := { name := "diceStreams", fn := fun _ => fun
  | [d1, d2, d3, d4] => { results := [.lit (.bool false)], args := [d1, d2, d3, d4] }
  | _ => none }
def DiceStreamsWrongFalsely : Prop := diceStreamsRow.holds Try.pinned (OpenSpec.ofChange diceStreamsWrong)

/-- 'horizonlaw2.DiceReturns': WHATEVER THE INPUT: true; the input reads as it did. -/
def diceReturnsSpec : ChangeSpec := { name := "diceReturns", fn := fun _ => fun
  | [d] => { results := [.lit (.bool true)], args := [d] }
  | _ => none }
def diceReturnsRow : OpenClaim := { program := "ytllhbggipbefmaa", sum := "347f1c481b81d50cb7ee8e7f80689f6fa9946ac49b09a65b5e2e29bf1d599aa8", func := "horizon/horizonlaw2.DiceReturns", spec := "diceReturns", apart := false }
def DiceReturnsSaid : Prop := diceReturnsRow.holds Try.pinned (OpenSpec.ofChange diceReturnsSpec)

/-- ITS FALSE NEIGHBOUR: 'it returns false'. Refute it at one input. -/
def diceReturnsWrong : ChangeSpec := { name := "diceReturns", fn := fun _ => fun
  | [d] => { results := [.lit (.bool false)], args := [d] }
  | _ => none }
def DiceReturnsWrongFalsely : Prop := diceReturnsRow.holds Try.pinned (OpenSpec.ofChange diceReturnsWrong)

/-- 'horizonlaw2.DiceSeeds': WHATEVER THE INPUT: true; the input reads as it did. -/
def diceSeedsSpec : ChangeSpec := { name := "diceSeeds", fn := fun _ => fun
  | [d1, d2] => { results := [.lit (.bool true)], args := [d1, d2] }
  | _ => none }
def diceSeedsRow : OpenClaim := { program := "ytllhbggipbefmaa", sum := "347f1c481b81d50cb7ee8e7f80689f6fa9946ac49b09a65b5e2e29bf1d599aa8", func := "horizon/horizonlaw2.DiceSeeds", spec := "diceSeeds", apart := false }
def DiceSeedsSaid : Prop := diceSeedsRow.holds Try.pinned (OpenSpec.ofChange diceSeedsSpec)

/-- ITS FALSE NEIGHBOUR: 'it returns false'. Refute it at one input. -/
def diceSeedsWrong : ChangeSpec := { name := "diceSeeds", fn := fun _ => fun
  | [d1, d2] => { results := [.lit (.bool false)], args := [d1, d2] }
  | _ => none }
def DiceSeedsWrongFalsely : Prop := diceSeedsRow.holds Try.pinned (OpenSpec.ofChange diceSeedsWrong)

/- THE SECOND FORM. 'bulk': how many values and letters a reading holds, each counted each time it is reached (what is shared counts as often as it is met; a slice's spare places count too). A statement '..UptoSaid' is the law's where the arguments, and the package variables that the reading takes, are together of bulk at most 1048576: NARROWER than '..Said'. Prove '..Said' where nothing that the law and all that it calls make is longer than what came in: it says more and counts as full. Else prove '..UptoSaid'. A law counts once. -/
mutual
def uptoBulk {H : Type} : DataW H → Nat
  | .lit (.string bytes) => bytes.length + 1
  | .lit _ => 1
  | .nil => 1
  | .ptr d => uptoBulk d + 1
  | .slice elems spare => uptoBulkAll elems + uptoBulkAll spare + 1
  | .agg parts => uptoBulkAll parts + 1
  | .iface _ d => uptoBulk d + 1
  | .map entries => uptoBulkEntries entries + 1
  | .held _ => 1
def uptoBulkAll {H : Type} : List (DataW H) → Nat
  | [] => 0
  | d :: r => uptoBulk d + uptoBulkAll r
def uptoBulkEntries {H : Type} : List (Lit × DataW H) → Nat
  | [] => 0
  | x :: r => uptoBulkEntry x + uptoBulkEntries r
def uptoBulkEntry {H : Type} : Lit × DataW H → Nat
  | (.string bytes, d) => bytes.length + uptoBulk d + 1
  | (_, d) => uptoBulk d + 1
 end
def uptoSmall : (H : Type) → List (DataW H) → Bool := fun _ ds => decide (uptoBulkAll ds ≤ 1048576)
def OpenSpec.upto (s : _root_.Go.ChangeSpec) : _root_.Go.OpenSpec := { _root_.Go.OpenSpec.ofChange s with cond := some uptoSmall }

/-- 'horizonlaw2.DiceApart', WHERE WHAT IT READS IS OF BULK AT MOST 1048576: true; the input reads as it did. -/
def diceApartUptoRow : OpenClaim := { program := "ytllhbggipbefmaa", sum := "347f1c481b81d50cb7ee8e7f80689f6fa9946ac49b09a65b5e2e29bf1d599aa8", func := "horizon/horizonlaw2.DiceApart", spec := "diceApart", apart := false, narrowed := true }
def DiceApartUptoSaid : Prop := diceApartUptoRow.holds Try.pinned (OpenSpec.upto diceApartSpec)

/-- 'horizonlaw2.DiceStreams', WHERE WHAT IT READS IS OF BULK AT MOST 1048576: true; the input reads as it did. -/
def diceStreamsUptoRow : OpenClaim := { program := "ytllhbggipbefmaa", sum := "347f1c481b81d50cb7ee8e7f80689f6fa9946ac49b09a65b5e2e29bf1d599aa8", func := "horizon/horizonlaw2.DiceStreams", spec := "diceStreams", apart := false, narrowed := true }
def DiceStreamsUptoSaid : Prop := diceStreamsUptoRow.holds Try.pinned (OpenSpec.upto diceStreamsSpec)

/-- 'horizonlaw2.DiceReturns', WHERE WHAT IT READS IS OF BULK AT MOST 1048576: true; the input reads as it did. -/
def diceReturnsUptoRow : OpenClaim := { program := "ytllhbggipbefmaa", sum := "347f1c481b81d50cb7ee8e7f80689f6fa9946ac49b09a65b5e2e29bf1d599aa8", func := "horizon/horizonlaw2.DiceReturns", spec := "diceReturns", apart := false, narrowed := true }
def DiceReturnsUptoSaid : Prop := diceReturnsUptoRow.holds Try.pinned (OpenSpec.upto diceReturnsSpec)

/-- 'horizonlaw2.DiceSeeds', WHERE WHAT IT READS IS OF BULK AT MOST 1048576: true; the input reads as it did. -/
def diceSeedsUptoRow : OpenClaim := { program := "ytllhbggipbefmaa", sum := "347f1c481b81d50cb7ee8e7f80689f6fa9946ac49b09a65b5e2e29bf1d599aa8", func := "horizon/horizonlaw2.DiceSeeds", spec := "diceSeeds", apart := false, narrowed := true }
def DiceSeedsUptoSaid : Prop := diceSeedsUptoRow.holds Try.pinned (OpenSpec.upto diceSeedsSpec)

end Rows
end Go.Proofs.Ytllhbggipbefmaa
