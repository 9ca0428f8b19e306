import Derived.Test.YtllhbggipbefmacDLog
import Derived.Test.YtllhbggipbefmacDHalv
namespace Go.Proofs.Ytllhbggipbefmac
open Go.ChangeShapes Go.WideShapes Go.ChangeAt Go.RowKit
set_option linter.unusedVariables false

def xN (s : Int) : Nat := (mx (nx (B s))).toNat
theorem xN_lt (s : Int) : xN s < 18446744073709551616 := (mx (nx (B s))).isLt
/-- what Wait answers -/
def wV (s mean : Int) : Value :=
  if wq (xN s) mean.toNat < 79228162514264337593543950336 then .tuple #[.int .u64 ((wq (xN s) mean.toNat / 4294967296 : Nat) : Int), .int .u64 (U (nx (B s))), .int .i64 0]
  else .tuple #[.int .u64 0, .int .u64 s, .int .i64 10]

theorem val_split (q : Nat) : ((q / 18446744073709551616 : Nat) : Int) * 4294967296 + ((q % 18446744073709551616 : Nat) : Int) / 4294967296 = ((q / 4294967296 : Nat) : Int) := by omega
theorem arg_eq (x : Nat) (hx : x < 18446744073709551616) : (4194304 - ((lg (max x 1) : Nat) : Int)) * 45426 = ((hv x * 45426 : Nat) : Int) := by
  have := lg_lt (x := max x 1) (by omega) (by omega)
  unfold hv
  omega
theorem hv_small (x : Nat) : hv x * 45426 < 18446744073709551616 := by have := hv_le x; omega
theorem wait_any (s mean : Int) (hm : 0 ≤ mean ∧ mean ≤ 18446744073709551615) (w : World) :
    Calls Try.prog 15 #[.int .u64 s, .int .u64 mean] w fun r w' => r = .returned (wV s mean) ∧ Below w.heap.size w w' := by
  obtain ⟨m, rfl⟩ := Int.eq_ofNat_of_zero_le hm.1
  have hx := xN_lt s
  have hlg := lg_lt (x := max (xN s) 1) (by omega) (by omega)
  have hN : ∀ w : World, Calls Try.prog 11 #[.int .u64 s] w fun e w' => e = .returned (.tuple #[.int .u64 (U (nx (B s))), .int .u64 (xN s : Nat)]) ∧ w' = w := fun w => next_any s w
  have hL : ∀ w : World, Calls Try.prog 28 #[.int .u64 ((max (xN s) 1 : Nat) : Int)] w fun r w' => r = .returned (.int .u64 (lg (max (xN s) 1) : Nat)) ∧ Below w.heap.size w w' := fun w => log_any (max (xN s) 1) (by omega) (by omega) w
  have hM : ∀ w : World, Calls Try.prog 29 #[.int .u64 m, .int .u64 ((4194304 - ((lg (max (xN s) 1) : Nat) : Int)) * 45426)] w fun e w' => e = .returned (.tuple #[.int .u64 ((wq (xN s) m / 18446744073709551616 : Nat) : Int), .int .u64 ((wq (xN s) m % 18446744073709551616 : Nat) : Int)]) ∧ w' = w := fun w => by
    rw [arg_eq _ hx]
    exact mul_any m _ (by omega) (hv_small _) w
  have hmax : max ((xN s : Nat) : Int) 1 = ((max (xN s) 1 : Nat) : Int) := by omega
  unfold wV
  rw [Int.toNat_natCast]
  by_cases c : wq (xN s) m < 79228162514264337593543950336
  · rw [if_pos c, ← val_split]
    exact wait_ok s m _ _ _ _ _ _ hL hmax (by omega) (by omega) (by omega) hN hM (by omega) w
  · rw [if_neg c]
    exact wait_err s m _ _ _ _ _ _ hL hmax (by omega) (by omega) (by omega) hN hM (by simp; omega) w

theorem rwait_err (s mean t x h H L : Int)
    (hl : 0 ≤ h ∧ h ≤ 4194304) (hH0 : 0 ≤ H) (hL0 : 0 ≤ L ∧ L ≤ 18446744073709551615)
    (HN : Hid (∀ w : World, Calls Try.prog 30 #[.int .u64 s] w fun e w' => e = .returned (.tuple #[.int .u64 t, .int .u64 x]) ∧ w' = w))
    (HH : Hid (∀ w : World, Calls Try.prog 31 #[.int .u64 x] w fun r w' => r = .returned (.int .u64 h) ∧ Below w.heap.size w w'))
    (HM : Hid (∀ w : World, Calls Try.prog 32 #[.int .u64 mean, .int .u64 (h * 45426)] w fun e w' => e = .returned (.tuple #[.int .u64 H, .int .u64 L]) ∧ w' = w)) (hh : (H / 4294967296 == 0) = false) (w : World) :
    Calls Try.prog 16 #[.int .u64 s, .int .u64 mean] w fun r w' => r = .returned (.tuple #[.int .u64 0, .int .u64 s, .int .i64 10]) ∧ Below w.heap.size w w' := by
  go_enter Try.func16, Try.ntmps16
  go_wp2_with (first | (go_at_call 30; with_reducible refine (HN.out _).mono ?_; rintro e w' ⟨rfl, hw⟩; subst w') | (go_at_call 31; with_reducible refine (HH.out _).mono ?_; rintro e w1 ⟨rfl, hb1⟩) | (go_at_call 32; with_reducible refine (HM.out _).mono ?_; rintro e w' ⟨rfl, hw⟩; subst w'))
  go_returns
  exact ⟨rfl, hb1⟩
theorem rwait_ok (s mean t x h H L : Int)
    (hl : 0 ≤ h ∧ h ≤ 4194304) (hH0 : 0 ≤ H) (hL0 : 0 ≤ L ∧ L ≤ 18446744073709551615)
    (HN : Hid (∀ w : World, Calls Try.prog 30 #[.int .u64 s] w fun e w' => e = .returned (.tuple #[.int .u64 t, .int .u64 x]) ∧ w' = w))
    (HH : Hid (∀ w : World, Calls Try.prog 31 #[.int .u64 x] w fun r w' => r = .returned (.int .u64 h) ∧ Below w.heap.size w w'))
    (HM : Hid (∀ w : World, Calls Try.prog 32 #[.int .u64 mean, .int .u64 (h * 45426)] w fun e w' => e = .returned (.tuple #[.int .u64 H, .int .u64 L]) ∧ w' = w)) (hh : H / 4294967296 = 0) (w : World) :
    Calls Try.prog 16 #[.int .u64 s, .int .u64 mean] w fun r w' => r = .returned (.tuple #[.int .u64 (H * 4294967296 + L / 4294967296), .int .u64 t, .int .i64 0]) ∧ Below w.heap.size w w' := by
  have HO : Hid (bits .or .u64 (H * 4294967296) (L / 4294967296) = H * 4294967296 + L / 4294967296) := or_hi (by omega) (by omega)
  go_enter Try.func16, Try.ntmps16
  go_wp2_with (first | (go_at_call 30; with_reducible refine (HN.out _).mono ?_; rintro e w' ⟨rfl, hw⟩; subst w') | (go_at_call 31; with_reducible refine (HH.out _).mono ?_; rintro e w1 ⟨rfl, hb1⟩) | (go_at_call 32; with_reducible refine (HM.out _).mono ?_; rintro e w' ⟨rfl, hw⟩; subst w'))
  go_returns
  exact ⟨by rw [← HO.out]; rfl, hb1⟩
theorem rwait_any (s mean : Int) (hm : 0 ≤ mean ∧ mean ≤ 18446744073709551615) (w : World) :
    Calls Try.prog 16 #[.int .u64 s, .int .u64 mean] w fun r w' => r = .returned (wV s mean) ∧ Below w.heap.size w w' := by
  obtain ⟨m, rfl⟩ := Int.eq_ofNat_of_zero_le hm.1
  have hx := xN_lt s
  have hN : ∀ w : World, Calls Try.prog 30 #[.int .u64 s] w fun e w' => e = .returned (.tuple #[.int .u64 (U (nx (B s))), .int .u64 (xN s : Nat)]) ∧ w' = w := fun w => rnext_any s w
  have hL : ∀ w : World, Calls Try.prog 31 #[.int .u64 (xN s : Nat)] w fun r w' => r = .returned (.int .u64 (hv (xN s) : Nat)) ∧ Below w.heap.size w w' := fun w => halv_any (xN s) hx w
  have hM : ∀ w : World, Calls Try.prog 32 #[.int .u64 m, .int .u64 ((hv (xN s) : Nat) * 45426)] w fun e w' => e = .returned (.tuple #[.int .u64 ((wq (xN s) m / 18446744073709551616 : Nat) : Int), .int .u64 ((wq (xN s) m % 18446744073709551616 : Nat) : Int)]) ∧ w' = w := fun w => times_any m _ (by omega) (hv_small _) w
  have hle := hv_le (xN s)
  unfold wV
  rw [Int.toNat_natCast]
  by_cases c : wq (xN s) m < 79228162514264337593543950336
  · rw [if_pos c, ← val_split]
    exact rwait_ok s m _ _ _ _ _ (by omega) (by omega) (by omega) hN hL hM (by omega) w
  · rw [if_neg c]
    exact rwait_err s m _ _ _ _ _ (by omega) (by omega) (by omega) hN hL hM (by simp; omega) w
theorem waits_core (s mean x t e : Int) (H1 : Hid (∀ w : World, Calls Try.prog 15 #[.int .u64 s, .int .u64 mean] w fun r w' => r = .returned (.tuple #[.int .u64 x, .int .u64 t, .int .i64 e]) ∧ Below w.heap.size w w'))
    (H2 : Hid (∀ w : World, Calls Try.prog 16 #[.int .u64 s, .int .u64 mean] w fun r w' => r = .returned (.tuple #[.int .u64 x, .int .u64 t, .int .i64 e]) ∧ Below w.heap.size w w')) (w : World) :
    Calls Try.prog 5 #[.int .u64 s, .int .u64 mean] w fun e w' => e = .returned (.bool true) ∧ Below w.heap.size w w' := by
  go_enter Try.func5, Try.ntmps5
  go_wp2_with (first | (go_at_call 15; with_reducible refine (H1.out _).mono ?_; rintro e w1 ⟨rfl, hb1⟩) | (go_at_call 16; with_reducible refine (H2.out _).mono ?_; rintro e w2 ⟨rfl, hb2⟩))
  all_goals
    go_ret
    exact ⟨ret_boolD (by first | rfl | simp), by first | exact hb1.trans (hb2.mono hb1.size) | exact (hb1.trans (hb2.mono hb1.size)).drew⟩
theorem law_waits (s mean : Int) (hm : 0 ≤ mean ∧ mean ≤ 18446744073709551615) (w : World) :
    Calls Try.prog 5 #[.int .u64 s, .int .u64 mean] w fun e w' => e = .returned (.bool true) ∧ Below w.heap.size w w' := by
  have h1 := wait_any s mean hm
  have h2 := rwait_any s mean hm
  unfold wV at h1 h2
  by_cases c : wq (xN s) mean.toNat < 79228162514264337593543950336
  · rw [if_pos c] at h1 h2
    exact waits_core s mean _ _ _ h1 h2 w
  · rw [if_neg c] at h1 h2
    exact waits_core s mean _ _ _ h1 h2 w
end Go.Proofs.Ytllhbggipbefmac
