import Derived.Test.YtlojkcodndjfbaaW0
import Derived.Test.YtlojkcodndjfbaaA1
import Derived.Test.YtlojkcodndjfbaaKC
import Derived.WalkMore
import Derived.Deep.RegionHeld3
import Derived.BigQuiet
namespace Go.Proofs.Ytlojkcodndjfbaa
open Go.ChangeShapes Go.WideShapes Go.ChangeAt Go.RowKit
set_option linter.unusedVariables false

/-- are they the same? -/


theorem own_of_row {W : World} {base : Nat} {t : TypeId} {s m : Nat} {v : Value} {xs : List Value} (h : W.ownsRow base t s v m xs) : Own W base t s v m (fun j => xs.getD j undef) := by
  unfold Own
  rw [← h.1, ← cellsF_of xs]
  exact h
/-- a row that is none of those that were written -/
theorem Own.keptBy {W W' : World} {base : Nat} {t : TypeId} {s m : Nat} {v : Value} {F : Nat → Value} {r : Option Nat} (h : Own W base t s v m F) (hg : W.grownBy W' r) (hne : ∀ k, v.ownBlock = some k → r ≠ some k) : Own W' base t s v m F := h.far fun k hk => hg.block k (h.lt k hk).2 (fun e => hne k hk e.symm)
end Go.Proofs.Ytlojkcodndjfbaa
