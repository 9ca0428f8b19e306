import Derived.Test.YtijkokckdbhkcaaDoorW0
import Derived.Test.YtijkokckdbhkcaaDoorChecked
import Derived.WalkKit
import Derived.ProofKit
import Derived.OpenShut
import Derived.BigRegion
import Derived.BigQuiet
import Derived.Deep.AppendLies
import Derived.Laws.CopyOwn
import Derived.RangeFuncBox
import Derived.Maps.AppendAt
namespace Go.Proofs.YtijkokckdbhkcaaDoor
open Go.ChangeShapes Go.WideShapes Go.ChangeAt Go.RowKit
set_option linter.unusedVariables false

/-! ### lists of ints, wherever they lie -/
/-- n ints lie at p -/
def KAt (W : World) (p : Option Addr) (n : Nat) (K : Nat → Int) : Prop :=
  n = 0 ∨ ∃ b o, p = some ⟨b, o, none⟩ ∧ b < W.heap.size ∧ ∀ j, j < n → W.cell? ⟨b, o + j, none⟩ = some (.int .i64 (K j))
theorem KAt.below {W W' : World} {p : Option Addr} {n : Nat} {K : Nat → Int} (h : KAt W p n K) (hb : Below W.heap.size W W') : KAt W' p n K := by
  rcases h with h | ⟨b, o, rfl, hl, hc⟩
  · exact .inl h
  · exact .inr ⟨b, o, rfl, Nat.lt_of_lt_of_le hl hb.size, fun j hj => (cell_below (a := ⟨b, o + j, none⟩) hb hl).trans (hc j hj)⟩

/-- are they the same? -/
def sameF (n : Nat) (K L : Nat → Int) : Bool := (List.range n).all fun j => K j == L j
theorem sameF_yes {n : Nat} {K L : Nat → Int} (h : ∀ j, j < n → K j = L j) : sameF n K L = true := by
  unfold sameF
  rw [List.all_eq_true]
  intro j hj
  simpa using h j (List.mem_range.1 hj)
theorem sameF_no {n : Nat} {K L : Nat → Int} {j : Nat} (hj : j < n) (h : K j ≠ L j) : sameF n K L = false := by
  unfold sameF
  rw [List.all_eq_false]
  exact ⟨j, List.mem_range.2 hj, by simpa using h⟩

/-! ### CopyInts -/
def intsL (K : Nat → Int) (L : Nat) : List Value := (List.range L).map fun i => Value.int .i64 (K i)
theorem intsL_len (K : Nat → Int) (L : Nat) : (intsL K L).length = L := by simp [intsL]
theorem intsL_get {K : Nat → Int} {L i : Nat} (h : i < L) : (intsL K L)[i]? = some (.int .i64 (K i)) := by simp [intsL, h]
theorem intsL_one (K : Nat → Int) (L : Nat) : ∀ u ∈ intsL K L, u.oneCell' = true := by
  intro u hu
  simp [intsL] at hu
  obtain ⟨i, _, rfl⟩ := hu
  rfl
theorem infoInt : (Tryd.prog.info? 3).map (fun i => (i.zero, i.size, i.bytes)) = some (some (.int .i64 0), 1, 8) := by kernel_rfl

end Go.Proofs.YtijkokckdbhkcaaDoor
