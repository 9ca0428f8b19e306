import Derived.Test.YtkalhmofjpalkaaC10ff
import Derived.Test.YtkalhmofjpalkaaC10tf
import Derived.Test.YtkalhmofjpalkaaC10ft
import Derived.Test.YtkalhmofjpalkaaC10tt
namespace Go.Proofs.Ytkalhmofjpalkaa
open Go.ChangeShapes Go.WideShapes Go.ChangeAt Go.RowKit
set_option linter.unusedVariables false

theorem votes_any (a b : Vt) (w : World) :
    Calls Try.prog 11 #[vtA a, vtA b] w fun e w' => e = .returned (vtA (leastV a b)) ∧ Below w.heap.size w w' := by
  obtain ⟨alo, aan, aba, afa, ax, ay, az, aco, act⟩ := a
  obtain ⟨blo, ban, bba, bfa, bx, by', bz, bco, bct⟩ := b
  cases afa <;> cases bfa
  · exact votes_ff _ _ _ _ _ _ _ _ _ _ _ _ _ _ _ _ _
  · exact votes_ft _ _ _ _ _ _ _ _ _ _ _ _ _ _ _ _ _
  · exact votes_tf _ _ _ _ _ _ _ _ _ _ _ _ _ _ _ _ _
  · exact votes_tt _ _ _ _ _ _ _ _ _ _ _ _ _ _ _ _ _
end Go.Proofs.Ytkalhmofjpalkaa
