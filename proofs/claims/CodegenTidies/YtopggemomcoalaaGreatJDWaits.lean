import Derived.Test.YtopggemomcoalaaGreatJDWPure
import Derived.Test.YtopggemomcoalaaGreatJDShelf
namespace Go.Proofs.YtopggemomcoalaaGreat
open Go.ChangeShapes Go.WideShapes Go.ChangeAt Go.RowKit
set_option linter.unusedVariables false

theorem len_any (x : Int) (h : 0 ≤ x ∧ x ≤ 18446744073709551615) (w : World) :
    Calls Tryz.prog 124 #[.int .u64 x] w fun e w' => e = .returned (.int .i64 (Lib.bitLen x.toNat)) ∧ w' = w := Any.bits_Len64 laysLen x w h.1 h.2
theorem mul_any (x y : Nat) (hx : x < 18446744073709551616) (hy : y < 18446744073709551616) (w : World) :
    Calls Tryz.prog 120 #[.int .u64 x, .int .u64 y] w fun e w' => e = .returned (.tuple #[.int .u64 ((x * y / 18446744073709551616 : Nat) : Int), .int .u64 ((x * y % 18446744073709551616 : Nat) : Int)]) ∧ w' = w := Any.bits_Mul64 laysMul x y hx hy w

theorem or_low {a b : Int} (ha : 0 ≤ a ∧ a < 9223372036854775808) (hb : 0 ≤ b ∧ b ≤ 1) : bits .or .u64 (IntKind.u64.wrap (a * 2)) b = a * 2 + b := by
  rw [wrap_U, U_B ⟨by omega, by omega⟩, u64_or (a * 2) b (by omega) (by omega) (by omega) (by omega), nat_join 1 _ _ (by omega) (by omega)]
  omega
theorem or_low' {a b : Int} (ha : 0 ≤ a ∧ a < 9223372036854775808) (hb : 0 ≤ b ∧ b ≤ 1) : bits .or .u64 (a * 2) b = a * 2 + b := by
  rw [← or_low ha hb, wrap_U, U_B ⟨by omega, by omega⟩]
theorem low0 {m : Nat} (hm : inM m) (c : ¬ 170141183460469231731687303715884105728 ≤ m * m) : (((m * m / 18446744073709551616 : Nat)) : Int) * 2 + ((m * m % 18446744073709551616 : Nat) : Int) / 9223372036854775808 = ((m * m / 9223372036854775808 : Nat) : Int) := by
  generalize m * m = p at *
  omega

set_option maxRecDepth 100000 in
theorem log_core (x e M : Nat) (he : e ≤ 63) (hx : x < 18446744073709551616) (hM : inM M) (hMw : Hid (IntKind.u64.wrap ((x : Int) * 2 ^ (63 - e)) = (M : Int)))
    (HL : Hid (∀ w : World, Calls Tryz.prog 124 #[.int .u64 x] w fun r w' => r = .returned (.int .i64 ((e : Int) + 1)) ∧ w' = w)) (w : World) :
    Calls Tryz.prog 119 #[.int .u64 x] w fun r w' => r = .returned (.int .u64 ((e * 65536 + dg 16 M 0 : Nat) : Int)) ∧ Below w.heap.size w w' := by
  go_enter Tryz.func119, Tryz.ntmps119
  go_wp2_with (go_at_call 124; with_reducible refine (HL.out _).mono ?_; rintro e w' ⟨rfl, hw⟩; subst w')
  rw [hMw.out]
  clear HL hMw
  go_loopw [4, 5, 17] (fun vm vf vi wr => ∃ (k m f : Nat), k ≤ 16 ∧ inM m ∧ vm = .int .u64 m ∧ vf = .int .u64 f ∧ vi = .int .i64 k ∧ f < 2 ^ k ∧ dg 16 M 0 = dg (16 - k) m f ∧ Below w.heap.size w wr) (fun _ _ vi _ => 16 - (intOf vi).toNat)
  case atStart => exact ⟨0, M, 0, by omega, hM, rfl, rfl, rfl, by omega, rfl, Below.refl _ _⟩
  case round =>
    obtain ⟨k, m, f, hk, hm, rfl, rfl, rfl, hf, hd, hb⟩ := hrel
    have HD : Hid (dg 16 M 0 = dg (16 - k) m f) := hd
    have HF : Hid (f < 2 ^ k) := hf
    have HI : Hid (inM m) := hm
    clear hd hf hm hM
    by_cases hlt : k < 16
    · have hf2 : f < 65536 := Nat.lt_of_lt_of_le HF.out (show 2 ^ k ≤ 2 ^ 16 from Nat.pow_le_pow_right (by omega) (by omega))
      have HM : Hid (∀ w : World, Calls Tryz.prog 120 #[.int .u64 m, .int .u64 m] w fun e w' => e = .returned (.tuple #[.int .u64 ((m * m / 18446744073709551616 : Nat) : Int), .int .u64 ((m * m % 18446744073709551616 : Nat) : Int)]) ∧ w' = w) := fun w => mul_any m m HI.out.2 HI.out.2 w
      by_cases c : 170141183460469231731687303715884105728 ≤ m * m
      · have HC : Hid (170141183460469231731687303715884105728 ≤ m * m) := c
        obtain ⟨H, hH⟩ : ∃ H : Nat, m * m / 18446744073709551616 = H := ⟨_, rfl⟩
        obtain ⟨L, hL⟩ : ∃ L : Nat, m * m % 18446744073709551616 = L := ⟨_, rfl⟩
        have hsq := sq_hi HI.out
        have h1 : (H : Int) / 9223372036854775808 = 1 := by omega
        rw [hH, hL] at HM
        have HH : Hid (m * m / 18446744073709551616 = H) := hH
        clear hH hL c hsq
        have HO1 : Hid (bits .or .u64 ((f : Int) * 2) 1 = (f : Int) * 2 + 1) := or_low' (by omega) (by omega)
        go_wp2_with (go_at_call 120; with_reducible refine (HM.out _).mono ?_; rintro e w' ⟨rfl, hw⟩; subst w')
        go_roundw
        case rel => exact ⟨k + 1, H, 2 * f + 1, by omega, HH.out ▸ inM_one HI.out HC.out, rfl, by first | (rw [HO1.out]; congr 1; omega) | (congr 1; omega), by go_num, by have := HF.out; rw [Nat.pow_succ]; omega, by rw [HD.out, show 16 - k = (16 - (k + 1)) + 1 by omega, dg_one HC.out, HH.out], hb⟩
        case measure => simp [intOf]; omega
      · have HC : Hid (m * m < 170141183460469231731687303715884105728) := Nat.lt_of_not_le c
        have HLO : Hid ((((m * m / 18446744073709551616 : Nat)) : Int) * 2 + ((m * m % 18446744073709551616 : Nat) : Int) / 9223372036854775808 = ((m * m / 9223372036854775808 : Nat) : Int)) := low0 HI.out c
        obtain ⟨H, hH⟩ : ∃ H : Nat, m * m / 18446744073709551616 = H := ⟨_, rfl⟩
        obtain ⟨L, hL⟩ : ∃ L : Nat, m * m % 18446744073709551616 = L := ⟨_, rfl⟩
        have h1 : (H : Int) / 9223372036854775808 = 0 := by omega
        have h2 : (H : Int) < 9223372036854775808 := by omega
        have h3 : (L : Int) / 9223372036854775808 ≤ 1 := by omega
        rw [hH, hL] at HM HLO
        clear hH hL c
        have HO1 : Hid (bits .or .u64 ((f : Int) * 2) 0 = (f : Int) * 2 + 0) := or_low' (by omega) (by omega)
        have HO : Hid (bits .or .u64 ((H : Int) * 2) ((L : Int) / 9223372036854775808) = (H : Int) * 2 + (L : Int) / 9223372036854775808) := or_low' (by omega) (by omega)
        clear h3
        clear h2
        go_wp2_with (go_at_call 120; with_reducible refine (HM.out _).mono ?_; rintro e w' ⟨rfl, hw⟩; subst w')
        go_roundw
        case rel => exact ⟨k + 1, m * m / 9223372036854775808, 2 * f, by omega, inM_two HI.out (Nat.not_le.2 HC.out), by first | (rw [HO.out, HLO.out]) | (rw [← HLO.out, ← HO.out]), by first | (rw [HO1.out]; congr 1; omega) | (congr 1; omega), by go_num, by have := HF.out; rw [Nat.pow_succ]; omega, by rw [HD.out, show 16 - k = (16 - (k + 1)) + 1 by omega, dg_two (Nat.not_le.2 HC.out)], hb⟩
        case measure => simp [intOf]; omega
    · obtain rfl : k = 16 := by omega
      have hd : dg 16 M 0 = f := HD.out
      have hf := HF.out
      clear HD HF HI
      go_wp2
      go_ret
      refine ⟨congrArg (fun z => Ending.returned (.int .u64 z)) ?_, hb⟩
      rw [hd]
      omega
theorem log_any (x : Nat) (h0 : 0 < x) (hx : x < 18446744073709551616) (w : World) :
    Calls Tryz.prog 119 #[.int .u64 x] w fun r w' => r = .returned (.int .u64 (lg x : Nat)) ∧ Below w.heap.size w w' := by
  obtain ⟨b1, b2, b3⟩ := bitLen_at h0 hx
  obtain ⟨e, he⟩ : ∃ e, Lib.bitLen x = e + 1 := ⟨Lib.bitLen x - 1, by omega⟩
  rw [he, show e + 1 - 1 = e by omega] at b3
  have h1 := lg_eq hx b3
  have h2 := top_in h1.2 b3
  rw [h1.1]
  refine log_core x e (x * 2 ^ (63 - e)) h1.2 hx h2 ?_ (fun w => ?_) w
  · have e1 : (x : Int) * 2 ^ (63 - e) = ((x * 2 ^ (63 - e) : Nat) : Int) := by simp
    have h3 := h2.2
    rw [e1]
    show IntKind.u64.wrap _ = _
    rw [wrap_U, U_B ⟨by omega, by omega⟩]
  · have := len_any (x : Int) ⟨by omega, by omega⟩ w
    rw [Int.toNat_natCast, he] at this
    exact this

theorem or_hi {a b : Int} (ha : 0 ≤ a ∧ a < 4294967296) (hb : 0 ≤ b ∧ b < 4294967296) : bits .or .u64 (a * 4294967296) b = a * 4294967296 + b := by
  rw [u64_or (a * 4294967296) b (by omega) (by omega) (by omega) (by omega), nat_join 32 _ _ (by omega) (by omega)]
  omega
theorem wait_err (s mean t x mx1 lgx H L : Int) (hmx : Hid (∀ w : World, Calls Tryz.prog 119 #[.int .u64 mx1] w fun r w' => r = .returned (.int .u64 lgx) ∧ Below w.heap.size w w'))
    (hx : max x 1 = mx1) (hl : 0 ≤ lgx ∧ lgx < 4194304) (hH0 : 0 ≤ H) (hL0 : 0 ≤ L ∧ L ≤ 18446744073709551615)
    (HN : Hid (∀ w : World, Calls Tryz.prog 118 #[.int .u64 s] w fun e w' => e = .returned (.tuple #[.int .u64 t, .int .u64 x]) ∧ w' = w))
    (HM : Hid (∀ w : World, Calls Tryz.prog 120 #[.int .u64 mean, .int .u64 ((4194304 - lgx) * 45426)] w fun e w' => e = .returned (.tuple #[.int .u64 H, .int .u64 L]) ∧ w' = w)) (hh : (H / 4294967296 == 0) = false) (w : World) :
    Calls Tryz.prog 114 #[.int .u64 s, .int .u64 mean] w fun r w' => r = .returned (.tuple #[.int .u64 0, .int .u64 s, .int .i64 10]) ∧ Below w.heap.size w w' := by
  go_enter Tryz.func114, Tryz.ntmps114
  go_wp2_with (first | (go_at_call 118; with_reducible refine (HN.out _).mono ?_; rintro e w' ⟨rfl, hw⟩; subst w') | (go_at_call 119; with_reducible refine (hmx.out _).mono ?_; rintro e w1 ⟨rfl, hb1⟩) | (go_at_call 120; with_reducible refine (HM.out _).mono ?_; rintro e w' ⟨rfl, hw⟩; subst w'))
  go_returns
  exact ⟨rfl, hb1⟩
theorem wait_ok (s mean t x mx1 lgx H L : Int) (hmx : Hid (∀ w : World, Calls Tryz.prog 119 #[.int .u64 mx1] w fun r w' => r = .returned (.int .u64 lgx) ∧ Below w.heap.size w w'))
    (hx : max x 1 = mx1) (hl : 0 ≤ lgx ∧ lgx < 4194304) (hH0 : 0 ≤ H) (hL0 : 0 ≤ L ∧ L ≤ 18446744073709551615)
    (HN : Hid (∀ w : World, Calls Tryz.prog 118 #[.int .u64 s] w fun e w' => e = .returned (.tuple #[.int .u64 t, .int .u64 x]) ∧ w' = w))
    (HM : Hid (∀ w : World, Calls Tryz.prog 120 #[.int .u64 mean, .int .u64 ((4194304 - lgx) * 45426)] w fun e w' => e = .returned (.tuple #[.int .u64 H, .int .u64 L]) ∧ w' = w)) (hh : H / 4294967296 = 0) (w : World) :
    Calls Tryz.prog 114 #[.int .u64 s, .int .u64 mean] w fun r w' => r = .returned (.tuple #[.int .u64 (H * 4294967296 + L / 4294967296), .int .u64 t, .int .i64 0]) ∧ Below w.heap.size w w' := by
  have HO : Hid (bits .or .u64 (H * 4294967296) (L / 4294967296) = H * 4294967296 + L / 4294967296) := or_hi (by omega) (by omega)
  go_enter Tryz.func114, Tryz.ntmps114
  go_wp2_with (first | (go_at_call 118; with_reducible refine (HN.out _).mono ?_; rintro e w' ⟨rfl, hw⟩; subst w') | (go_at_call 119; with_reducible refine (hmx.out _).mono ?_; rintro e w1 ⟨rfl, hb1⟩) | (go_at_call 120; with_reducible refine (HM.out _).mono ?_; rintro e w' ⟨rfl, hw⟩; subst w'))
  go_returns
  exact ⟨by rw [← HO.out]; rfl, hb1⟩
end Go.Proofs.YtopggemomcoalaaGreat
namespace Go.Proofs.YtopggemomcoalaaGreat
open Go.ChangeShapes Go.WideShapes Go.ChangeAt Go.RowKit
set_option linter.unusedVariables false

def xN (s : Int) : Nat := (mx (nx (B s))).toNat
theorem xN_lt (s : Int) : xN s < 18446744073709551616 := (mx (nx (B s))).isLt
/-- what Wait answers -/
def wV (s mean : Int) : Value :=
  if wq (xN s) mean.toNat < 79228162514264337593543950336 then .tuple #[.int .u64 ((wq (xN s) mean.toNat / 4294967296 : Nat) : Int), .int .u64 (U (nx (B s))), .int .i64 0]
  else .tuple #[.int .u64 0, .int .u64 s, .int .i64 10]

theorem val_split (q : Nat) : ((q / 18446744073709551616 : Nat) : Int) * 4294967296 + ((q % 18446744073709551616 : Nat) : Int) / 4294967296 = ((q / 4294967296 : Nat) : Int) := by omega
theorem arg_eq (x : Nat) (hx : x < 18446744073709551616) : (4194304 - ((lg (max x 1) : Nat) : Int)) * 45426 = ((hv x * 45426 : Nat) : Int) := by
  have := lg_lt (x := max x 1) (by omega) (by omega)
  unfold hv
  omega
theorem hv_small (x : Nat) : hv x * 45426 < 18446744073709551616 := by have := hv_le x; omega
theorem wait_any (s mean : Int) (hm : 0 ≤ mean ∧ mean ≤ 18446744073709551615) (w : World) :
    Calls Tryz.prog 114 #[.int .u64 s, .int .u64 mean] w fun r w' => r = .returned (wV s mean) ∧ Below w.heap.size w w' := by
  obtain ⟨m, rfl⟩ := Int.eq_ofNat_of_zero_le hm.1
  have hx := xN_lt s
  have hlg := lg_lt (x := max (xN s) 1) (by omega) (by omega)
  have hN : ∀ w : World, Calls Tryz.prog 118 #[.int .u64 s] w fun e w' => e = .returned (.tuple #[.int .u64 (U (nx (B s))), .int .u64 (xN s : Nat)]) ∧ w' = w := fun w => next_any s w
  have hL : ∀ w : World, Calls Tryz.prog 119 #[.int .u64 ((max (xN s) 1 : Nat) : Int)] w fun r w' => r = .returned (.int .u64 (lg (max (xN s) 1) : Nat)) ∧ Below w.heap.size w w' := fun w => log_any (max (xN s) 1) (by omega) (by omega) w
  have hM : ∀ w : World, Calls Tryz.prog 120 #[.int .u64 m, .int .u64 ((4194304 - ((lg (max (xN s) 1) : Nat) : Int)) * 45426)] w fun e w' => e = .returned (.tuple #[.int .u64 ((wq (xN s) m / 18446744073709551616 : Nat) : Int), .int .u64 ((wq (xN s) m % 18446744073709551616 : Nat) : Int)]) ∧ w' = w := fun w => by
    rw [arg_eq _ hx]
    exact mul_any m _ (by omega) (hv_small _) w
  have hmax : max ((xN s : Nat) : Int) 1 = ((max (xN s) 1 : Nat) : Int) := by omega
  unfold wV
  rw [Int.toNat_natCast]
  by_cases c : wq (xN s) m < 79228162514264337593543950336
  · rw [if_pos c, ← val_split]
    exact wait_ok s m _ _ _ _ _ _ hL hmax (by omega) (by omega) (by omega) hN hM (by omega) w
  · rw [if_neg c]
    exact wait_err s m _ _ _ _ _ _ hL hmax (by omega) (by omega) (by omega) hN hM (by simp; omega) w

end Go.Proofs.YtopggemomcoalaaGreat
