import Derived.Test.YtkalhmofjpalkaaC2ff
import Derived.Test.YtkalhmofjpalkaaC2tf
import Derived.Test.YtkalhmofjpalkaaC2ft
import Derived.Test.YtkalhmofjpalkaaC2tt
namespace Go.Proofs.Ytkalhmofjpalkaa
open Go.ChangeShapes Go.WideShapes Go.ChangeAt Go.RowKit
set_option linter.unusedVariables false

theorem least_any (a b : Vt) (w : World) :
    Calls Try.prog 9 #[vtA a, vtA b] w fun e w' => e = .returned (vtA (leastV a b)) ∧ Below w.heap.size w w' := by
  obtain ⟨alo, aan, aba, afa, ax, ay, az, aco, act⟩ := a
  obtain ⟨blo, ban, bba, bfa, bx, by', bz, bco, bct⟩ := b
  cases afa <;> cases bfa
  · exact least_ff _ _ _ _ _ _ _ _ _ _ _ _ _ _ _ _ _
  · exact least_ft _ _ _ _ _ _ _ _ _ _ _ _ _ _ _ _ _
  · exact least_tf _ _ _ _ _ _ _ _ _ _ _ _ _ _ _ _ _
  · exact least_tt _ _ _ _ _ _ _ _ _ _ _ _ _ _ _ _ _
end Go.Proofs.Ytkalhmofjpalkaa
