/-
  No cell of these rows narrows 'for every input' (looked for: loops, veiled, ifaces, maps, wideKeys, modest, calm, conditions, laid).
  DERIVED. THE GIVEN ROWS OF THIS SEAT. 6 by the template 'for every input the law returns true; each argument reads behind the call as it read before'; 0 by the template 'total and deterministic' (their statements: YtfgkmijaimfkjaaTotals.lean).
  GIVEN WITH THE SEED: the statements are not yours to turn. If you find one false, say at which input.
  Laid BY PROGRAM, IN A SANDBOX (cutbox-rows.mjs): the forced cells as the released guide's own fill.sh prints them over the translation 871dc745c546d800… (all of the seat's roots in one cut). By AI agents, Wed Nov 11 2026. No macro, syntax, notation, axiom, sorry.
-/
import Derived.Test.YtfgkmijaimfkjaaChecked
import GoSem.Claim
import GoSem.ClaimJoined
import GoSem.ClaimMapViews
import Derived.JoinedTies
import Derived.KernelRfl
namespace Go.Proofs.Ytfgkmijaimfkjaa
/- THE CELL 'sum', in the pinned program and in every row, IS THE sha256 OF THE DUMP (.gsa) THAT YtfgkmijaimfkjaaProg.lean LOADS. Nothing in Lean hashes anything: it is a label: what it is worth is what the hold of that sum in a sandbox is worth. -/
noncomputable def Try.pinned : Pinned := { name := "ytfgkmijaimfkjaa", sum := "871dc745c546d800f8e66f13ccc0472368aade6e6c85b491e6bc9e5d4d0d72bc", checked := Try.checked }
namespace Rows
def none {H : Type} : Left H := { results := [], args := [] }

/-- 'horizonlaw10.CombineQuiet': WHATEVER THE INPUT: true; the input reads as it did. -/
def combineQuietSpec : ChangeSpec := { name := "combineQuiet", fn := fun _ => fun
  | [d1, d2] => { results := [.lit (.bool true)], args := [d1, d2] }
  | _ => none }
def combineQuietRow : OpenClaim := { program := "ytfgkmijaimfkjaa", sum := "871dc745c546d800f8e66f13ccc0472368aade6e6c85b491e6bc9e5d4d0d72bc", func := "horizon/horizonlaw10.CombineQuiet", spec := "combineQuiet", unfollowed := true, recurses := true, apart := false }
def CombineQuietSaid : Prop := combineQuietRow.holds Try.pinned (OpenSpec.ofChange combineQuietSpec)

/-- ITS FALSE NEIGHBOUR: 'it returns false'. Refute it at one input. -/
def combineQuietWrong : ChangeSpec := { name := "combineQuiet", fn := fun _ => fun
  | [d1, d2] => { results := [.lit (.bool false)], args := [d1, d2] }
  | _ => none }
def CombineQuietWrongFalsely : Prop := combineQuietRow.holds Try.pinned (OpenSpec.ofChange combineQuietWrong)

/-- 'horizonlaw10.CombineIdle': WHATEVER THE INPUT: true; the input reads as it did. -/
def combineIdleSpec : ChangeSpec := { name := "combineIdle", fn := fun _ => fun
  | [d1, d2] => { results := [.lit (.bool true)], args := [d1, d2] }
  | _ => none }
def combineIdleRow : OpenClaim := { program := "ytfgkmijaimfkjaa", sum := "871dc745c546d800f8e66f13ccc0472368aade6e6c85b491e6bc9e5d4d0d72bc", func := "horizon/horizonlaw10.CombineIdle", spec := "combineIdle", unfollowed := true, recurses := true, apart := false }
def CombineIdleSaid : Prop := combineIdleRow.holds Try.pinned (OpenSpec.ofChange combineIdleSpec)

/-- ITS FALSE NEIGHBOUR: 'it returns false'. Refute it at one input. -/
def combineIdleWrong : ChangeSpec := { name := "combineIdle", fn := fun _ => fun
  | [d1, d2] => { results := [.lit (.bool false)], args := [d1, d2] }
  | _ => none }
def CombineIdleWrongFalsely : Prop := combineIdleRow.holds Try.pinned (OpenSpec.ofChange combineIdleWrong)

/-- 'horizonlaw10.CombineNets': WHATEVER THE INPUT: true; the input reads as it did. -/
def combineNetsSpec : ChangeSpec := { name := "combineNets", fn := fun _ => fun
  | [d1, d2, d3, d4] => { results := [.lit (.bool true)], args := [d1, d2, d3, d4] }
  | _ => none }
def combineNetsRow : OpenClaim := { program := "ytfgkmijaimfkjaa", sum := "871dc745c546d800f8e66f13ccc0472368aade6e6c85b491e6bc9e5d4d0d72bc", func := "horizon/horizonlaw10.CombineNets", spec := "combineNets", unfollowed := true, recurses := true, apart := false }
def CombineNetsSaid : Prop := combineNetsRow.holds Try.pinned (OpenSpec.ofChange combineNetsSpec)

/-- ITS FALSE NEIGHBOUR: 'it returns false'. Refute it at one input. -/
def combineNetsWrong : ChangeSpec := { name := "combineNets", fn := fun _ => fun
  | [d1, d2, d3, d4] => { results := [.lit (.bool false)], args := [d1, d2, d3, d4] }
  | _ => none }
def CombineNetsWrongFalsely : Prop := combineNetsRow.holds Try.pinned (OpenSpec.ofChange combineNetsWrong)

/-- 'horizonlaw10.CombineBarriers': WHATEVER THE INPUT: true; the input reads as it did. -/
def combineBarriersSpec : ChangeSpec := { name := "combineBarriers", fn := fun _ => fun
  | [d1, d2] => { results := [.lit (.bool true)], args := [d1, d2] }
  | _ => none }
def combineBarriersRow : OpenClaim := { program := "ytfgkmijaimfkjaa", sum := "871dc745c546d800f8e66f13ccc0472368aade6e6c85b491e6bc9e5d4d0d72bc", func := "horizon/horizonlaw10.CombineBarriers", spec := "combineBarriers", unfollowed := true, recurses := true, apart := false }
def CombineBarriersSaid : Prop := combineBarriersRow.holds Try.pinned (OpenSpec.ofChange combineBarriersSpec)

/-- ITS FALSE NEIGHBOUR: 'it returns false'. Refute it at one input. -/
def combineBarriersWrong : ChangeSpec := { name := "combineBarriers", fn := fun _ => fun
  | [d1, d2] => { results := [.lit (.bool false)], args := [d1, d2] }
  | _ => none }
def CombineBarriersWrongFalsely : Prop := combineBarriersRow.holds Try.pinned (OpenSpec.ofChange combineBarriersWrong)

/-- 'horizonlaw11.StoreSettles': WHATEVER THE INPUT: true; the input reads as it did. -/
def storeSettlesSpec : ChangeSpec := { name := "storeSettles", fn := fun _ => fun
  | [d1, d2, d3, d4] => { results := [.lit (.bool true)], args := [d1, d2, d3, d4] }
  | _ => none }
def storeSettlesRow : OpenClaim := { program := "ytfgkmijaimfkjaa", sum := "871dc745c546d800f8e66f13ccc0472368aade6e6c85b491e6bc9e5d4d0d72bc", func := "horizon/horizonlaw11.StoreSettles", spec := "storeSettles", apart := false }
def StoreSettlesSaid : Prop := storeSettlesRow.holds Try.pinned (OpenSpec.ofChange storeSettlesSpec)

/-- ITS FALSE NEIGHBOUR: 'it returns false'. Refute it at one input. -/
def storeSettlesWrong : ChangeSpec := { name := "storeSettles", fn := fun _ => fun
  | [d1, d2, d3, d4] => { results := [.lit (.bool false)], args := [d1, d2, d3, d4] }
  | _ => none }
def StoreSettlesWrongFalsely : Prop := storeSettlesRow.holds Try.pinned (OpenSpec.ofChange storeSettlesWrong)

/-- 'horizonlaw8.SplayEachs': WHATEVER THE INPUT: true; the input reads as it did. -/
def splayEachsSpec : ChangeSpec := { name := "splayEachs", fn := fun _ => fun
  | [d1, d2, d3, d4] => { results := [.lit (.bool true)], args := [d1, d2, d3, d4] }
  | _ => none }
def splayEachsRow : OpenClaim := { program := "ytfgkmijaimfkjaa", sum := "871dc745c546d800f8e66f13ccc0472368aade6e6c85b491e6bc9e5d4d0d72bc", func := "horizon/horizonlaw8.SplayEachs", spec := "splayEachs", unfollowed := true, recurses := true, apart := false }
def SplayEachsSaid : Prop := splayEachsRow.holds Try.pinned (OpenSpec.ofChange splayEachsSpec)

/-- ITS FALSE NEIGHBOUR: 'it returns false'. Refute it at one input. -/
def splayEachsWrong : ChangeSpec := { name := "splayEachs", fn := fun _ => fun
  | [d1, d2, d3, d4] => { results := [.lit (.bool false)], args := [d1, d2, d3, d4] }
  | _ => none }
def SplayEachsWrongFalsely : Prop := splayEachsRow.holds Try.pinned (OpenSpec.ofChange splayEachsWrong)

/- THE SECOND FORM. 'bulk': how many values and letters a reading holds, each counted each time it is reached (what is shared counts as often as it is met; a slice's spare places count too). A statement '..UptoSaid' is the law's where the arguments, and the package variables that the reading takes, are together of bulk at most 1048576: NARROWER than '..Said'. Prove '..Said' where nothing that the law and all that it calls make is longer than what came in: it says more and counts as full. Else prove '..UptoSaid'. A law counts once. -/
mutual
def uptoBulk {H : Type} : DataW H → Nat
  | .lit (.string bytes) => bytes.length + 1
  | .lit _ => 1
  | .nil => 1
  | .ptr d => uptoBulk d + 1
  | .slice elems spare => uptoBulkAll elems + uptoBulkAll spare + 1
  | .agg parts => uptoBulkAll parts + 1
  | .iface _ d => uptoBulk d + 1
  | .map entries => uptoBulkEntries entries + 1
  | .held _ => 1
def uptoBulkAll {H : Type} : List (DataW H) → Nat
  | [] => 0
  | d :: r => uptoBulk d + uptoBulkAll r
def uptoBulkEntries {H : Type} : List (Lit × DataW H) → Nat
  | [] => 0
  | x :: r => uptoBulkEntry x + uptoBulkEntries r
def uptoBulkEntry {H : Type} : Lit × DataW H → Nat
  | (.string bytes, d) => bytes.length + uptoBulk d + 1
  | (_, d) => uptoBulk d + 1
 end
def uptoSmall : (H : Type) → List (DataW H) → Bool := fun _ ds => decide (uptoBulkAll ds ≤ 1048576)
def OpenSpec.upto (s : _root_.Go.ChangeSpec) : _root_.Go.OpenSpec := { _root_.Go.OpenSpec.ofChange s with cond := some uptoSmall }

/-- 'horizonlaw10.CombineQuiet', WHERE WHAT IT READS IS OF BULK AT MOST 1048576: true; the input reads as it did. -/
def combineQuietUptoRow : OpenClaim := { program := "ytfgkmijaimfkjaa", sum := "871dc745c546d800f8e66f13ccc0472368aade6e6c85b491e6bc9e5d4d0d72bc", func := "horizon/horizonlaw10.CombineQuiet", spec := "combineQuiet", unfollowed := true, recurses := true, apart := false, narrowed := true }
def CombineQuietUptoSaid : Prop := combineQuietUptoRow.holds Try.pinned (OpenSpec.upto combineQuietSpec)

/-- 'horizonlaw10.CombineIdle', WHERE WHAT IT READS IS OF BULK AT MOST 1048576: true; the input reads as it did. -/
def combineIdleUptoRow : OpenClaim := { program := "ytfgkmijaimfkjaa", sum := "871dc745c546d800f8e66f13ccc0472368aade6e6c85b491e6bc9e5d4d0d72bc", func := "horizon/horizonlaw10.CombineIdle", spec := "combineIdle", unfollowed := true, recurses := true, apart := false, narrowed := true }
def CombineIdleUptoSaid : Prop := combineIdleUptoRow.holds Try.pinned (OpenSpec.upto combineIdleSpec)

/-- 'horizonlaw10.CombineNets', WHERE WHAT IT READS IS OF BULK AT MOST 1048576: true; the input reads as it did. -/
def combineNetsUptoRow : OpenClaim := { program := "ytfgkmijaimfkjaa", sum := "871dc745c546d800f8e66f13ccc0472368aade6e6c85b491e6bc9e5d4d0d72bc", func := "horizon/horizonlaw10.CombineNets", spec := "combineNets", unfollowed := true, recurses := true, apart := false, narrowed := true }
def CombineNetsUptoSaid : Prop := combineNetsUptoRow.holds Try.pinned (OpenSpec.upto combineNetsSpec)

/-- 'horizonlaw10.CombineBarriers', WHERE WHAT IT READS IS OF BULK AT MOST 1048576: true; the input reads as it did. -/
def combineBarriersUptoRow : OpenClaim := { program := "ytfgkmijaimfkjaa", sum := "871dc745c546d800f8e66f13ccc0472368aade6e6c85b491e6bc9e5d4d0d72bc", func := "horizon/horizonlaw10.CombineBarriers", spec := "combineBarriers", unfollowed := true, recurses := true, apart := false, narrowed := true }
def CombineBarriersUptoSaid : Prop := combineBarriersUptoRow.holds Try.pinned (OpenSpec.upto combineBarriersSpec)

/-- 'horizonlaw11.StoreSettles', WHERE WHAT IT READS IS OF BULK AT MOST 1048576: true; the input reads as it did. -/
def storeSettlesUptoRow : OpenClaim := { program := "ytfgkmijaimfkjaa", sum := "871dc745c546d800f8e66f13ccc0472368aade6e6c85b491e6bc9e5d4d0d72bc", func := "horizon/horizonlaw11.StoreSettles", spec := "storeSettles", apart := false, narrowed := true }
def StoreSettlesUptoSaid : Prop := storeSettlesUptoRow.holds Try.pinned (OpenSpec.upto storeSettlesSpec)

/-- 'horizonlaw8.SplayEachs', WHERE WHAT IT READS IS OF BULK AT MOST 1048576: true; the input reads as it did. -/
def splayEachsUptoRow : OpenClaim := { program := "ytfgkmijaimfkjaa", sum := "871dc745c546d800f8e66f13ccc0472368aade6e6c85b491e6bc9e5d4d0d72bc", func := "horizon/horizonlaw8.SplayEachs", spec := "splayEachs", unfollowed := true, recurses := true, apart := false, narrowed := true }
def SplayEachsUptoSaid : Prop := splayEachsUptoRow.holds Try.pinned (OpenSpec.upto splayEachsSpec)

end Rows
end Go.Proofs.Ytfgkmijaimfkjaa
