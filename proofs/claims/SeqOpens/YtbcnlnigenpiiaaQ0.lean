import Derived.Test.YtbcnlnigenpiiaaW0
import Derived.Test.YtbcnlnigenpiiaaA1
import Derived.Test.YtbcnlnigenpiiaaKC
import Derived.WalkMore
import Derived.Deep.RegionHeld3
import Derived.BigQuiet
namespace Go.Proofs.Ytbcnlnigenpiiaa
open Go.ChangeShapes Go.WideShapes Go.ChangeAt Go.RowKit
set_option linter.unusedVariables false

/-- are they the same? -/


theorem own_of_row {W : World} {base : Nat} {t : TypeId} {s m : Nat} {v : Value} {xs : List Value} (h : W.ownsRow base t s v m xs) : Own W base t s v m (fun j => xs.getD j undef) := by
  unfold Own
  rw [← h.1, ← cellsF_of xs]
  exact h
theorem Own.lower {W : World} {base base' : Nat} {t : TypeId} {s m : Nat} {v : Value} {F : Nat → Value} (h : Own W base t s v m F) (hb : base' ≤ base) : Own W base' t s v m F := by
  rcases h with ⟨h1, h2 | ⟨g, c, cur, h3, h4, h5⟩⟩
  · exact ⟨h1, .inl h2⟩
  · exact ⟨h1, .inr ⟨g, c, cur, h3, Nat.le_trans hb h4, h5⟩⟩
theorem Own.later {w w' : World} {base : Nat} {t : TypeId} {s m : Nat} {v : Value} {F : Nat → Value} (ho : Own w base t s v m F) (hb : Below w.heap.size w w') : Own w' base t s v m F := ho.far fun k hk => by
  rcases ho.form with ⟨h7, _⟩ | ⟨g, c, h7, h8, h9⟩
  · rw [h7] at hk; cases hk
  · rw [h7] at hk; cases hk; exact hb.block _ h9
/-- a row that is none of those that were written -/
theorem Own.keptBy {W W' : World} {base : Nat} {t : TypeId} {s m : Nat} {v : Value} {F : Nat → Value} {r : Option Nat} (h : Own W base t s v m F) (hg : W.grownBy W' r) (hne : ∀ k, v.ownBlock = some k → r ≠ some k) : Own W' base t s v m F := h.far fun k hk => hg.block k (h.lt k hk).2 (fun e => hne k hk e.symm)
theorem own_slice {W : World} {base : Nat} {t : TypeId} {s m : Nat} {v : Value} {F : Nat → Value} (h : Own W base t s v m F) : ∃ op oc, v = .slice op m oc := by
  rcases h.form with ⟨h1, h2⟩ | ⟨g, c, h1, _⟩
  · exact ⟨none, 0, by rw [h1, h2]⟩
  · exact ⟨_, _, h1⟩
theorem Own.lt {w : World} {base : Nat} {t : TypeId} {s m : Nat} {v : Value} {F : Nat → Value} (ho : Own w base t s v m F) : ∀ k, v.ownBlock = some k → base ≤ k ∧ k < w.heap.size := fun k hk => by
  rcases ho.form with ⟨h7, _⟩ | ⟨g, c, h7, h8, h9⟩
  · rw [h7] at hk; cases hk
  · rw [h7] at hk; cases hk; exact ⟨h8, h9⟩
end Go.Proofs.Ytbcnlnigenpiiaa
