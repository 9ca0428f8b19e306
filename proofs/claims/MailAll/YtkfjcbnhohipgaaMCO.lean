import Derived.Test.YtkfjcbnhohipgaaMC4
import Derived.BigQuiet
import Derived.Deep.RegionLaw
import Derived.Deep.RegionHeld3
import Derived.Deep.Cut
import Derived.Deep.DeepCutAuto
import Derived.Deep.CutBlock
import Derived.Deep.CutRange
import Derived.Deep.AppendLies
import Derived.Handy
import Derived.Lib.RabinKarpLaws
namespace Go.Proofs.Ytkfjcbnhohipgaa
open Go.ChangeShapes Go.WideShapes Go.ChangeAt Go.RowKit
set_option linter.unusedVariables false
set_option linter.unusedSimpArgs false


structure OpV where
  p : Int
  kd : Int
  a : Int
  b : Int
  k : Int
/-- a script's calls, where they lie -/
def OpIn (W : World) (p : Option Addr) (N : Nat) (X : Nat → OpV) : Prop := N = 0 ∨ ∃ b off, p = some ⟨b, off, none⟩ ∧ b < W.heap.size ∧ ∀ i, i < N → W.cell? ⟨b, off + i * 5, none⟩ = some (.int .i64 (X i).p) ∧ W.cell? ⟨b, off + i * 5 + 1, none⟩ = some (.int .i64 (X i).kd) ∧ W.cell? ⟨b, off + i * 5 + 2, none⟩ = some (.int .i64 (X i).a) ∧ W.cell? ⟨b, off + i * 5 + 3, none⟩ = some (.int .i64 (X i).b) ∧ W.cell? ⟨b, off + i * 5 + 4, none⟩ = some (.int .i64 (X i).k)
theorem OpIn.later {W W' : World} {p : Option Addr} {N : Nat} {X : Nat → OpV} (h : OpIn W p N X) (hb : Below W.heap.size W W') : OpIn W' p N X := by
  rcases h with h | ⟨b, off, h1, h2, h3⟩
  · exact .inl h
  · refine .inr ⟨b, off, h1, Nat.lt_of_lt_of_le h2 hb.size, fun i hi => ?_⟩
    obtain ⟨k0, k1, k2, k3, k4⟩ := h3 i hi
    exact ⟨(hb.cell (p := ⟨b, off + i * 5, none⟩) h2).trans k0, (hb.cell (p := ⟨b, off + i * 5 + 1, none⟩) h2).trans k1, (hb.cell (p := ⟨b, off + i * 5 + 2, none⟩) h2).trans k2, (hb.cell (p := ⟨b, off + i * 5 + 3, none⟩) h2).trans k3, (hb.cell (p := ⟨b, off + i * 5 + 4, none⟩) h2).trans k4⟩
/-- a script in a box -/
def ScAt (W : World) (b : Nat) (w0 w1 r0 r1 : Int) (p : Option Addr) (N c : Nat) : Prop := W.heap[b]? = some (.cells #[.int .i64 w0, .int .i64 w1, .int .i64 r0, .int .i64 r1, .slice p N c] 25 (0, 0))
theorem ScAt.cells {W : World} {b : Nat} {w0 w1 r0 r1 : Int} {p : Option Addr} {N c : Nat} (h : ScAt W b w0 w1 r0 r1 p N c) : W.cell? ⟨b, 0, none⟩ = some (.int .i64 w0) ∧ W.cell? ⟨b, 1, none⟩ = some (.int .i64 w1) ∧ W.cell? ⟨b, 2, none⟩ = some (.int .i64 r0) ∧ W.cell? ⟨b, 3, none⟩ = some (.int .i64 r1) ∧ W.cell? ⟨b, 4, none⟩ = some (.slice p N c) := by
  unfold ScAt at h
  refine ⟨?_, ?_, ?_, ?_, ?_⟩
  all_goals (unfold World.cell?; rw [h]; rfl)
end Go.Proofs.Ytkfjcbnhohipgaa
