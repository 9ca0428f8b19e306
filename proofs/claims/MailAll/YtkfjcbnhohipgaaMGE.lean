import Derived.Test.YtkfjcbnhohipgaaMGW
import Derived.BigQuiet
import Derived.Deep.RegionLaw
import Derived.Deep.RegionHeld3
import Derived.Deep.Cut
import Derived.Deep.DeepCutAuto
import Derived.Deep.CutBlock
import Derived.Deep.CutRange
import Derived.Deep.AppendLies
import Derived.Handy
import Derived.Lib.RabinKarpLaws
namespace Go.Proofs.Ytkfjcbnhohipgaa
open Go.ChangeShapes Go.WideShapes Go.ChangeAt Go.RowKit
set_option linter.unusedVariables false
set_option linter.unusedSimpArgs false


def pk (k : Nat → Int × Int) (p : Nat) (a b : Int) : Nat → Int × Int := fun q => if q = p then (a, b) else k q
/-- a kept list and its copy get the same thing at the same place -/
theorem SC.write {W : World} {base : Nat} {V : Nat → Value} {n : Nat → Nat} {F : Nat → Nat → Value} {T : Nat} {xl xw : Nat → Nat} (h : SC W base V n F T xl xw) {j : Nat} (hj : j < n 2) {g g2 mm c c2 : Nat} (h1 : V (xl j) = .slice (some ⟨g, 0, none⟩) mm c) (h2 : V (xw j) = .slice (some ⟨g2, 0, none⟩) mm c2) (p : Nat) (a b : Int) : SC ((((W.setCell ⟨g, p * 2, none⟩ (.int .i64 a)).setCell ⟨g, p * 2 + 1, none⟩ (.int .i64 b)).setCell ⟨g2, p * 2, none⟩ (.int .i64 a)).setCell ⟨g2, p * 2 + 1, none⟩ (.int .i64 b)) base V n F T xl xw := by
  obtain ⟨l1, l2, l3, l4, m0, k0, l5, l6, l7⟩ := h.lt j hj
  have hne := (h.ne j j hj hj).1
  have hgg : g ≠ g2 := fun e => by
    refine (h.ex j hj (xw j) g2 l2.1 (by rw [h2]; rfl)).1 (Ne.symm hne) ?_
    rw [h1, e]; rfl
  have other : ∀ i, 4 ≤ i → i ≠ xl j → i ≠ xw j → ∀ {m : Nat} {k : Nat → Int × Int}, Own W base 31 2 (V i) m (thF k) → Own ((((W.setCell ⟨g, p * 2, none⟩ (.int .i64 a)).setCell ⟨g, p * 2 + 1, none⟩ (.int .i64 b)).setCell ⟨g2, p * 2, none⟩ (.int .i64 a)).setCell ⟨g2, p * 2 + 1, none⟩ (.int .i64 b)) base 31 2 (V i) m (thF k) := fun i hi n1 n2 m k ho => ho.far fun b' hb' => by
    have e1 : b' ≠ g := fun e => (h.ex j hj i b' hi hb').1 n1 (by rw [h1, e]; rfl)
    have e2 : b' ≠ g2 := fun e => (h.ex j hj i b' hi hb').2 n2 (by rw [h2, e]; rfl)
    exact (Below.heap_setCell _ _ _ _ e2).trans ((Below.heap_setCell _ _ _ _ e2).trans ((Below.heap_setCell _ _ _ _ e1).trans (Below.heap_setCell _ _ _ _ e1)))
  have atL : ∀ {m : Nat} {k : Nat → Int × Int}, Own W base 31 2 (V (xl j)) m (thF k) → Own ((((W.setCell ⟨g, p * 2, none⟩ (.int .i64 a)).setCell ⟨g, p * 2 + 1, none⟩ (.int .i64 b)).setCell ⟨g2, p * 2, none⟩ (.int .i64 a)).setCell ⟨g2, p * 2 + 1, none⟩ (.int .i64 b)) base 31 2 (V (xl j)) m (thF (pk k p a b)) := fun {m k} ho => by
    rw [h1] at ho ⊢
    obtain rfl : m = mm := by
      rcases ho.form with ⟨e, _⟩ | ⟨g', c', e, _⟩
      · cases e
      · injection e with _ e _; exact e.symm
    refine (own_setT ho p a b).far fun b' hb' => ?_
    simp [Value.ownBlock] at hb'
    subst hb'
    exact (Below.heap_setCell _ _ _ _ hgg).trans (Below.heap_setCell _ _ _ _ hgg)
  have atW : ∀ {m : Nat} {k : Nat → Int × Int}, Own W base 31 2 (V (xw j)) m (thF k) → Own ((((W.setCell ⟨g, p * 2, none⟩ (.int .i64 a)).setCell ⟨g, p * 2 + 1, none⟩ (.int .i64 b)).setCell ⟨g2, p * 2, none⟩ (.int .i64 a)).setCell ⟨g2, p * 2 + 1, none⟩ (.int .i64 b)) base 31 2 (V (xw j)) m (thF (pk k p a b)) := fun {m k} ho => by
    rw [h2] at ho ⊢
    obtain rfl : m = mm := by
      rcases ho.form with ⟨e, _⟩ | ⟨g', c', e, _⟩
      · cases e
      · injection e with _ e _; exact e.symm
    have ho2 := ho.far (W' := (W.setCell ⟨g, p * 2, none⟩ (.int .i64 a)).setCell ⟨g, p * 2 + 1, none⟩ (.int .i64 b)) fun b' hb' => by
      simp [Value.ownBlock] at hb'
      subst hb'
      exact (Below.heap_setCell _ _ _ _ (Ne.symm hgg)).trans (Below.heap_setCell _ _ _ _ (Ne.symm hgg))
    exact own_setT ho2 p a b
  refine ⟨h.e1, h.e2, h.t4, h.top, fun i hi => ?_, fun i hi => ?_, h.ex, h.ne, fun i hi => ?_⟩
  · obtain ⟨x, y, m, k, q1, q2, q3, q4, q5, q6, q7, q8⟩ := h.pr i hi
    obtain ⟨⟨x1, x2⟩, y1, y2⟩ := q3 j hj
    exact ⟨x, y, m, k, q1, q2, q3, q4, q5, q6, other x q1.1 x1 x2 q7, other y q2.1 y1 y2 q8⟩
  · obtain ⟨q1, q2, q3, q4, m, k, q5, q6, q7⟩ := h.lt i hi
    by_cases e : i = j
    · subst e
      exact ⟨q1, q2, q3, q4, m, _, q5, atL q6, atW q7⟩
    · have r1 := (h.ne i j hi hj).2 e
      have r2 := (h.ne i j hi hj).1
      have r3 := (h.ne j i hj hi).1
      exact ⟨q1, q2, q3, q4, m, k, q5, other _ q1.1 r1.1 r2 q6, other _ q2.1 (Ne.symm r3) r1.2 q7⟩
  · obtain ⟨m, k, q⟩ := h.en i hi
    by_cases e1 : i = xl j
    · subst e1; exact ⟨m, _, atL q⟩
    · by_cases e2 : i = xw j
      · subst e2; exact ⟨m, _, atW q⟩
      · exact ⟨m, k, other i hi e1 e2 q⟩
end Go.Proofs.Ytkfjcbnhohipgaa
