import Derived.Test.YtkalhmofjpalkaaC1b
namespace Go.Proofs.Ytkalhmofjpalkaa
open Go.ChangeShapes Go.WideShapes Go.ChangeAt Go.RowKit
set_option linter.unusedVariables false
set_option linter.unusedSimpArgs false

set_option maxRecDepth 100000 in
set_option maxHeartbeats 16000000 in
theorem votes_tt (alo : Int) (aan aba : Bool) (ax ay az aco act blo : Int) (ban bba : Bool) (bx by' bz bco bct : Int) (w : World) :
    Calls Try.prog 11 #[vtA ⟨alo, aan, aba, true, ax, ay, az, aco, act⟩, vtA ⟨blo, ban, bba, true, bx, by', bz, bco, bct⟩] w fun e w' => e = .returned (vtA (leastV ⟨alo, aan, aba, true, ax, ay, az, aco, act⟩ ⟨blo, ban, bba, true, bx, by', bz, bco, bct⟩)) ∧ Below w.heap.size w w' := by
  have HA := fun w => refCompare_ex bx by' bz ax ay az w
  unfold vtA leastV
  dsimp only
  generalize keyCmp bx by' bz ax ay az = c at HA ⊢
  obtain ⟨d, hd⟩ : ∃ d, decide (c < 0) = d := ⟨_, rfl⟩
  simp only [aheadP, hd]
  have HD : decide (c < 0) = d := hd
  obtain ⟨m, hm⟩ : ∃ m, decide (blo < alo) = m := ⟨_, rfl⟩
  have hmin : lowP true true alo blo = if m = true then blo else alo := by rw [← hm]; simp [lowP]
  cases aan <;> cases ban <;> cases aba <;> cases m <;> cases d
  all_goals (simp only [hmin, Bool.true_and, Bool.false_and, Bool.and_true, Bool.and_false, Bool.not_false, Bool.not_true, Bool.true_or, Bool.false_or, Bool.or_false, Bool.or_true, if_true, if_false, Bool.false_eq_true, reduceIte])
  all_goals (try simp only [lowP])
  all_goals (clear hmin)
  all_goals (clear hd)
  all_goals (
    go_enter Try.func11, Try.ntmps11
    go_wp2_with (go_at_call 38; (with_reducible refine (HA _).mono ?_); rintro e w1 ⟨rfl, rfl⟩)
    refine wp_loop_rounds 4 ?_
    rw [rounds_succ]
    go_wp2_with (go_at_call 38; (with_reducible refine (HA _).mono ?_); rintro e w1 ⟨rfl, rfl⟩)
    rw [rounds_succ]
    go_wp2_with (go_at_call 38; (with_reducible refine (HA _).mono ?_); rintro e w1 ⟨rfl, rfl⟩)
    rw [rounds_succ]
    go_wp2_with (go_at_call 38; (with_reducible refine (HA _).mono ?_); rintro e w1 ⟨rfl, rfl⟩)
    go_returns
    exact ⟨rfl, by repeat (first | exact Below.refl _ _ | apply Below.drew | refine Below.setCell ?_ (by simp <;> omega) _ | refine Below.alloc ?_ (by simp <;> omega) _)⟩)
end Go.Proofs.Ytkalhmofjpalkaa
