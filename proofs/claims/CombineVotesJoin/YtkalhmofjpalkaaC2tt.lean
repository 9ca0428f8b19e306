import Derived.Test.YtkalhmofjpalkaaC2
namespace Go.Proofs.Ytkalhmofjpalkaa
open Go.ChangeShapes Go.WideShapes Go.ChangeAt Go.RowKit
set_option linter.unusedVariables false
set_option linter.unusedSimpArgs false

set_option maxRecDepth 100000 in
set_option maxHeartbeats 8000000 in
theorem least_tt (alo : Int) (aan aba : Bool) (ax ay az aco act blo : Int) (ban bba : Bool) (bx by' bz bco bct : Int) (w : World) :
    Calls Try.prog 9 #[vtA ⟨alo, aan, aba, true, ax, ay, az, aco, act⟩, vtA ⟨blo, ban, bba, true, bx, by', bz, bco, bct⟩] w fun e w' => e = .returned (vtA (leastV ⟨alo, aan, aba, true, ax, ay, az, aco, act⟩ ⟨blo, ban, bba, true, bx, by', bz, bco, bct⟩)) ∧ Below w.heap.size w w' := by
  have HA := fun w => ahead_any bx by' bz ax ay az w
  unfold vtA leastV
  dsimp only
  generalize keyCmp bx by' bz ax ay az = c at HA ⊢
  obtain ⟨d, hd⟩ : ∃ d, decide (c < 0) = d := ⟨_, rfl⟩
  simp only [aheadP, hd]
  simp only [hd] at HA
  clear hd
  have hmin : aan = true → ban = true → (blo < alo ∨ alo ≤ blo) := fun _ _ => by omega
  cases aan <;> cases ban <;> cases aba <;> cases d
  all_goals (simp only [lowP, Bool.true_and, Bool.false_and, Bool.and_true, Bool.and_false, Bool.not_false, Bool.not_true, Bool.true_or, Bool.false_or, Bool.or_false, Bool.or_true, if_true, if_false, Bool.false_eq_true, reduceIte])
  all_goals (clear hmin)
  all_goals (
    go_enter Try.func9, Try.ntmps9
    go_wp2_with (go_at_call 34; (with_reducible refine (HA _).mono ?_); rintro e w1 ⟨rfl, rfl⟩)
    all_goals (go_region)
    all_goals (go_wp2)
    all_goals (
      go_returns
      exact ⟨rfl, by repeat (first | exact Below.refl _ _ | apply Below.drew | refine Below.setCell ?_ (by simp <;> omega) _ | refine Below.alloc ?_ (by simp <;> omega) _)⟩))
end Go.Proofs.Ytkalhmofjpalkaa
