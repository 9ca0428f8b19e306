import Derived.Test.YtllhbggipbefmacDSolve
import Derived.ChangeOld
namespace Go.Proofs.Ytllhbggipbefmac
open Go.ChangeShapes Go.WideShapes Go.ChangeAt Go.RowKit

theorem ret_boolD {b : Bool} (h : b = true) : Ending.returned (.bool b) = .returned (.bool true) := by rw [h]
theorem rmix_any (x : Int) (h : 0 ≤ x ∧ x ≤ 18446744073709551615) (w : World) :
    Calls Try.prog 35 #[.int .u64 x] w fun e w' => e = .returned (.int .u64 (U (mx (B x)))) ∧ w' = w := by
  go_enter Try.func35, Try.ntmps35
  go_wp2
  rw [mix_val x h]
  go_ret
  exact ⟨rfl, rfl⟩
theorem rnext_any (s : Int) (w : World) :
    Calls Try.prog 30 #[.int .u64 s] w fun e w' => e = .returned (.tuple #[.int .u64 (U (nx (B s))), .int .u64 (U (mx (nx (B s))))]) ∧ w' = w := by
  go_enter Try.func30, Try.ntmps30
  go_wp2_with fail
  rw [nx_val]
  refine (rmix_any _ (U_rng _) _).mono ?_
  rintro e w' ⟨rfl, rfl⟩
  rw [B_U]
  go_wp2
  go_ret2
  exact ⟨rfl, rfl⟩
end Go.Proofs.Ytllhbggipbefmac
