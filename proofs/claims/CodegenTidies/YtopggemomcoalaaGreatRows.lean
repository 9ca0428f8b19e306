/-
  No cell of these rows narrows 'for every input' (looked for: loops, veiled, ifaces, maps, wideKeys, modest, calm, conditions, laid).
  DERIVED. THE GIVEN ROWS OF THIS SEAT. 3 by the template 'for every input the law returns true; each argument reads behind the call as it read before'; 0 by the template 'total and deterministic' (their statements: YtopggemomcoalaaGreatTotals.lean).
  GIVEN WITH THE SEED: the statements are not yours to turn. If you find one false, say at which input.
  Laid BY PROGRAM, IN A SANDBOX (cutbox-rows.mjs): the forced cells as the released guide's own fill.sh prints them over the translation 8824cc28b4968ae1… (all of the seat's roots in one cut). By AI agents, Wed Nov 11 2026. No macro, syntax, notation, axiom, sorry.
-/
import Derived.Test.YtopggemomcoalaaGreatChecked
import GoSem.Claim
import GoSem.ClaimJoined
import GoSem.ClaimMapViews
import Derived.JoinedTies
import Derived.KernelRfl
namespace Go.Proofs.YtopggemomcoalaaGreat
/- THE CELL 'sum', in the pinned program and in every row, IS THE sha256 OF THE DUMP (.gsa) THAT YtopggemomcoalaaGreatProg.lean LOADS. Nothing in Lean hashes anything: it is a label: what it is worth is what the hold of that sum in a sandbox is worth. -/
noncomputable def Tryz.pinned : Pinned := { name := "ytopggemomcoalaagreat", sum := "8824cc28b4968ae158cc82b3a2067aca5c7bb5bb1754257b9158b06110943081", checked := Tryz.checked }
namespace Rows
def none {H : Type} : Left H := { results := [], args := [] }

/-- 'horizonlaw7.CodegenTidyDone': WHATEVER THE INPUT: true; the input reads as it did. -/
def codegenTidyDoneSpec : ChangeSpec := { name := "codegenTidyDone", fn := fun _ => fun
  | [d1, d2] => { results := [.lit (.bool true)], args := [d1, d2] }
  | _ => none }
def codegenTidyDoneRow : OpenClaim := { program := "ytopggemomcoalaagreat", sum := "8824cc28b4968ae158cc82b3a2067aca5c7bb5bb1754257b9158b06110943081", func := "horizon/horizonlaw7.CodegenTidyDone", spec := "codegenTidyDone", unfollowed := true, recurses := true, apart := false }
def CodegenTidyDoneSaid : Prop := codegenTidyDoneRow.holds Tryz.pinned (OpenSpec.ofChange codegenTidyDoneSpec)

/-- ITS FALSE NEIGHBOUR: 'it returns false'. Refute it at one input. -/
def codegenTidyDoneWrong : ChangeSpec := { name := "codegenTidyDone", fn := fun _ => fun
  | [d1, d2] => { results := [.lit (.bool false)], args := [d1, d2] }
  | _ => none }
def CodegenTidyDoneWrongFalsely : Prop := codegenTidyDoneRow.holds Tryz.pinned (OpenSpec.ofChange codegenTidyDoneWrong)

/-- 'horizonlaw7.CodegenTidies': WHATEVER THE INPUT: true; the input reads as it did. -/
def codegenTidiesSpec : ChangeSpec := { name := "codegenTidies", fn := fun _ => fun
  | [d1, d2] => { results := [.lit (.bool true)], args := [d1, d2] }
  | _ => none }
def codegenTidiesRow : OpenClaim := { program := "ytopggemomcoalaagreat", sum := "8824cc28b4968ae158cc82b3a2067aca5c7bb5bb1754257b9158b06110943081", func := "horizon/horizonlaw7.CodegenTidies", spec := "codegenTidies", unfollowed := true, recurses := true, apart := false }
def CodegenTidiesSaid : Prop := codegenTidiesRow.holds Tryz.pinned (OpenSpec.ofChange codegenTidiesSpec)

/-- ITS FALSE NEIGHBOUR: 'it returns false'. Refute it at one input. -/
def codegenTidiesWrong : ChangeSpec := { name := "codegenTidies", fn := fun _ => fun
  | [d1, d2] => { results := [.lit (.bool false)], args := [d1, d2] }
  | _ => none }
def CodegenTidiesWrongFalsely : Prop := codegenTidiesRow.holds Tryz.pinned (OpenSpec.ofChange codegenTidiesWrong)

/-- 'horizonlaw7.CodegenTidyMeans': WHATEVER THE INPUT: true; the input reads as it did. -/
def codegenTidyMeansSpec : ChangeSpec := { name := "codegenTidyMeans", fn := fun _ => fun
  | [d1, d2, d3] => { results := [.lit (.bool true)], args := [d1, d2, d3] }
  | _ => none }
def codegenTidyMeansRow : OpenClaim := { program := "ytopggemomcoalaagreat", sum := "8824cc28b4968ae158cc82b3a2067aca5c7bb5bb1754257b9158b06110943081", func := "horizon/horizonlaw7.CodegenTidyMeans", spec := "codegenTidyMeans", unfollowed := true, recurses := true, apart := false }
def CodegenTidyMeansSaid : Prop := codegenTidyMeansRow.holds Tryz.pinned (OpenSpec.ofChange codegenTidyMeansSpec)

/-- ITS FALSE NEIGHBOUR: 'it returns false'. Refute it at one input. -/
def codegenTidyMeansWrong : ChangeSpec := { name := "codegenTidyMeans", fn := fun _ => fun
  | [d1, d2, d3] => { results := [.lit (.bool false)], args := [d1, d2, d3] }
  | _ => none }
def CodegenTidyMeansWrongFalsely : Prop := codegenTidyMeansRow.holds Tryz.pinned (OpenSpec.ofChange codegenTidyMeansWrong)

/- THE SECOND FORM. 'bulk': how many values and letters a reading holds, each counted each time it is reached (what is shared counts as often as it is met; a slice's spare places count too). A statement '..UptoSaid' is the law's where the arguments, and the package variables that the reading takes, are together of bulk at most 1048576: NARROWER than '..Said'. Prove '..Said' where nothing that the law and all that it calls make is longer than what came in: it says more and counts as full. Else prove '..UptoSaid'. A law counts once. -/
mutual
def uptoBulk {H : Type} : DataW H → Nat
  | .lit (.string bytes) => bytes.length + 1
  | .lit _ => 1
  | .nil => 1
  | .ptr d => uptoBulk d + 1
  | .slice elems spare => uptoBulkAll elems + uptoBulkAll spare + 1
  | .agg parts => uptoBulkAll parts + 1
  | .iface _ d => uptoBulk d + 1
  | .map entries => uptoBulkEntries entries + 1
  | .held _ => 1
def uptoBulkAll {H : Type} : List (DataW H) → Nat
  | [] => 0
  | d :: r => uptoBulk d + uptoBulkAll r
def uptoBulkEntries {H : Type} : List (Lit × DataW H) → Nat
  | [] => 0
  | x :: r => uptoBulkEntry x + uptoBulkEntries r
def uptoBulkEntry {H : Type} : Lit × DataW H → Nat
  | (.string bytes, d) => bytes.length + uptoBulk d + 1
  | (_, d) => uptoBulk d + 1
 end
def uptoSmall : (H : Type) → List (DataW H) → Bool := fun _ ds => decide (uptoBulkAll ds ≤ 1048576)
def OpenSpec.upto (s : _root_.Go.ChangeSpec) : _root_.Go.OpenSpec := { _root_.Go.OpenSpec.ofChange s with cond := some uptoSmall }

/-- 'horizonlaw7.CodegenTidyDone', WHERE WHAT IT READS IS OF BULK AT MOST 1048576: true; the input reads as it did. -/
def codegenTidyDoneUptoRow : OpenClaim := { program := "ytopggemomcoalaagreat", sum := "8824cc28b4968ae158cc82b3a2067aca5c7bb5bb1754257b9158b06110943081", func := "horizon/horizonlaw7.CodegenTidyDone", spec := "codegenTidyDone", unfollowed := true, recurses := true, apart := false, narrowed := true }
def CodegenTidyDoneUptoSaid : Prop := codegenTidyDoneUptoRow.holds Tryz.pinned (OpenSpec.upto codegenTidyDoneSpec)

/-- 'horizonlaw7.CodegenTidies', WHERE WHAT IT READS IS OF BULK AT MOST 1048576: true; the input reads as it did. -/
def codegenTidiesUptoRow : OpenClaim := { program := "ytopggemomcoalaagreat", sum := "8824cc28b4968ae158cc82b3a2067aca5c7bb5bb1754257b9158b06110943081", func := "horizon/horizonlaw7.CodegenTidies", spec := "codegenTidies", unfollowed := true, recurses := true, apart := false, narrowed := true }
def CodegenTidiesUptoSaid : Prop := codegenTidiesUptoRow.holds Tryz.pinned (OpenSpec.upto codegenTidiesSpec)

/-- 'horizonlaw7.CodegenTidyMeans', WHERE WHAT IT READS IS OF BULK AT MOST 1048576: true; the input reads as it did. -/
def codegenTidyMeansUptoRow : OpenClaim := { program := "ytopggemomcoalaagreat", sum := "8824cc28b4968ae158cc82b3a2067aca5c7bb5bb1754257b9158b06110943081", func := "horizon/horizonlaw7.CodegenTidyMeans", spec := "codegenTidyMeans", unfollowed := true, recurses := true, apart := false, narrowed := true }
def CodegenTidyMeansUptoSaid : Prop := codegenTidyMeansUptoRow.holds Tryz.pinned (OpenSpec.upto codegenTidyMeansSpec)

end Rows
end Go.Proofs.YtopggemomcoalaaGreat
