import Derived.Test.YtllhbggipbefmabDSolve
import Derived.ChangeOld
namespace Go.Proofs.Ytllhbggipbefmab
open Go.ChangeShapes Go.WideShapes Go.ChangeAt Go.RowKit

theorem ret_boolD {b : Bool} (h : b = true) : Ending.returned (.bool b) = .returned (.bool true) := by rw [h]
theorem rmix_any (x : Int) (h : 0 ≤ x ∧ x ≤ 18446744073709551615) (w : World) :
    Calls Try.prog 20 #[.int .u64 x] w fun e w' => e = .returned (.int .u64 (U (mx (B x)))) ∧ w' = w := by
  go_enter Try.func20, Try.ntmps20
  go_wp2
  rw [mix_val x h]
  go_ret
  exact ⟨rfl, rfl⟩
theorem rnext_any (s : Int) (w : World) :
    Calls Try.prog 11 #[.int .u64 s] w fun e w' => e = .returned (.tuple #[.int .u64 (U (nx (B s))), .int .u64 (U (mx (nx (B s))))]) ∧ w' = w := by
  go_enter Try.func11, Try.ntmps11
  go_wp2_with fail
  rw [nx_val]
  refine (rmix_any _ (U_rng _) _).mono ?_
  rintro e w' ⟨rfl, rfl⟩
  rw [B_U]
  go_wp2
  go_ret2
  exact ⟨rfl, rfl⟩
theorem rback_any (s : Int) (hs : 0 ≤ s ∧ s ≤ 18446744073709551615) (w : World) :
    Calls Try.prog 13 #[.int .u64 s] w fun e w' => e = .returned (.int .u64 (U (bk (B s)))) ∧ Below w.heap.size w w' := by
  go_enter Try.func13, Try.ntmps13
  go_wp2_with fail
  refine (solve_any _ _ _ 13877824140714322085#64 (by decide) (by decide) hs _).mono ?_
  rintro e w' ⟨rfl, hb⟩
  go_wp2
  go_ret
  exact ⟨rfl, hb⟩
theorem law_steps (s : Int) (hs : 0 ≤ s ∧ s ≤ 18446744073709551615) (w : World) :
    Calls Try.prog 4 #[.int .u64 s] w fun e w' => e = .returned (.bool true) ∧ Below w.heap.size w w' := by
  go_enter Try.func4, Try.ntmps4
  go_wp2_with (first | (go_at_call 10; refine (next_any _ _).mono ?_; rintro e w' ⟨rfl, rfl⟩) | (go_at_call 11; refine (rnext_any _ _).mono ?_; rintro e w' ⟨rfl, rfl⟩) | (go_at_call 12; refine (back_any _ _).mono ?_; rintro e w' ⟨rfl, rfl⟩) | (go_at_call 13; refine (rback_any _ hs _).mono ?_; rintro e w' ⟨rfl, hb⟩))
  all_goals
    go_ret
    exact ⟨ret_boolD (by first | rfl | simp), by first | exact hb | exact hb.drew⟩
end Go.Proofs.Ytllhbggipbefmab
