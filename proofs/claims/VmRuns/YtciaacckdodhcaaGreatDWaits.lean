import Derived.Test.YtciaacckdodhcaaGreatDLog
import Derived.Deep.DeepCutAuto
namespace Go.Proofs.YtciaacckdodhcaaGreat
open Go.ChangeShapes Go.WideShapes Go.ChangeAt Go.RowKit
set_option linter.unusedVariables false

theorem times_lo (x y : Nat) (hx : x < 18446744073709551616) (hy : y < 18446744073709551616) :
    (x % 4294967296 * (y / 4294967296) + (x / 4294967296 * (y % 4294967296) + x % 4294967296 * (y % 4294967296) / 4294967296) % 4294967296) % 4294967296 * 4294967296 + x % 4294967296 * (y % 4294967296) % 4294967296 = x * y % 18446744073709551616 := by
  have e : x * y = (x / 4294967296) * (y / 4294967296) * (4294967296 * 4294967296) + ((x / 4294967296) * (y % 4294967296) + (x % 4294967296) * (y / 4294967296)) * 4294967296 + (x % 4294967296) * (y % 4294967296) := by
    rw [← Lib.split_mul, Nat.div_add_mod' x 4294967296, Nat.div_add_mod' y 4294967296]
  rw [e]
  generalize (x / 4294967296) * (y / 4294967296) = a at *
  generalize (x / 4294967296) * (y % 4294967296) = b at *
  generalize (x % 4294967296) * (y / 4294967296) = c at *
  generalize (x % 4294967296) * (y % 4294967296) = d at *
  omega
theorem or_times (m l : Nat) (hm : m < 18446744073709551616) (hl : l < 18446744073709551616) : bits .or .u64 (IntKind.u64.wrap ((m : Int) * 4294967296)) (bits .and .u64 (l : Int) 4294967295) = ((m % 4294967296 * 4294967296 + l % 4294967296 : Nat) : Int) := by
  have e1 : IntKind.u64.wrap ((m : Int) * 4294967296) = ((m % 4294967296 * 4294967296 : Nat) : Int) := by rw [IntKind.wrap_u64]; omega
  rw [e1, Mul64.maskN l hl, u64_or_nat _ _ (by omega) (by omega), nat_join 32 _ _ (by omega) (by omega)]

theorem times_any (x y : Nat) (hx : x < 18446744073709551616) (hy : y < 18446744073709551616) (w : World) :
    Calls Tryz.prog 100 #[.int .u64 x, .int .u64 y] w fun e w' => e = .returned (.tuple #[.int .u64 ((x * y / 18446744073709551616 : Nat) : Int), .int .u64 ((x * y % 18446744073709551616 : Nat) : Int)]) ∧ w' = w := by
  obtain ⟨bd, bt, bw, hhi⟩ := Lib.mul64_hi x y hx hy
  have ba := Lib.half_mul_le (a := x / 4294967296) (b := y / 4294967296) (by omega) (by omega)
  have bb := Lib.half_mul_le (a := x / 4294967296) (b := y % 4294967296) (by omega) (by omega)
  have bc := Lib.half_mul_le (a := x % 4294967296) (b := y / 4294967296) (by omega) (by omega)
  have ba' : x / 4294967296 * (y / 4294967296) < 18446744073709551616 := by omega
  have bb' : x / 4294967296 * (y % 4294967296) < 18446744073709551616 := by omega
  have bc' : x % 4294967296 * (y / 4294967296) < 18446744073709551616 := by omega
  have bh1 : x / 4294967296 * (y / 4294967296) + (x / 4294967296 * (y % 4294967296) + x % 4294967296 * (y % 4294967296) / 4294967296) / 4294967296 < 18446744073709551616 := by omega
  rw [Nat.add_comm ((x / 4294967296 * (y % 4294967296) + x % 4294967296 * (y % 4294967296) / 4294967296) % 4294967296)] at bw hhi
  have bh : x / 4294967296 * (y / 4294967296) + (x / 4294967296 * (y % 4294967296) + x % 4294967296 * (y % 4294967296) / 4294967296) / 4294967296 + (x % 4294967296 * (y / 4294967296) + (x / 4294967296 * (y % 4294967296) + x % 4294967296 * (y % 4294967296) / 4294967296) % 4294967296) / 4294967296 < 18446744073709551616 := by
    have h1 : x * y < 18446744073709551616 * 18446744073709551616 := Nat.mul_lt_mul_of_lt_of_lt hx hy
    rw [hhi]
    generalize x * y = p at *
    omega
  have hlo := times_lo x y hx hy
  clear ba bb bc
  go_enter Tryz.func100, Tryz.ntmps100
  go_wp2
  simp only [Mul64.maskN x hx, Mul64.maskN y hy, Mul64.divN, Mul64.mulN, Mul64.addN, Mul64.wrapN _ bd, Mul64.wrapN _ bb', Mul64.wrapN _ bt, Mul64.maskN _ bt, Mul64.wrapN _ bc', Mul64.wrapN _ bw, Mul64.wrapN _ ba', Mul64.wrapN _ bh1, Mul64.wrapN _ bh, or_times _ _ bw bd]
  rw [hhi, hlo]
  go_returns
  exact ⟨rfl, rfl⟩
end Go.Proofs.YtciaacckdodhcaaGreat
namespace Go.Proofs.YtciaacckdodhcaaGreat
open Go.ChangeShapes Go.WideShapes Go.ChangeAt Go.RowKit
set_option linter.unusedVariables false

theorem top_step {X e j : Nat} (h : atBit X e) (hj : e + j < 63) : X * 2 ^ j < 9223372036854775808 := by
  have e2 : 2 ^ (e + 1) * 2 ^ j ≤ 9223372036854775808 := by
    rw [← Nat.pow_add]
    exact (show 2 ^ (e + 1 + j) ≤ 2 ^ 63 from Nat.pow_le_pow_right (by omega) (by omega))
  have h2 := Nat.mul_lt_mul_of_pos_right h.2 (Nat.pow_pos (n := j) (show 0 < 2 by omega))
  omega
set_option maxRecDepth 100000 in
theorem halv_core (x X e M : Nat) (hX : Hid (X = max x 1)) (hMe : Hid (X * 2 ^ (63 - e) = M)) (HM0 : Hid (inM M)) (he : e ≤ 63) (hx : x < 18446744073709551616) (hat : Hid (atBit X e)) (w : World) :
    Calls Tryz.prog 99 #[.int .u64 x] w fun r w' => r = .returned (.int .u64 ((4194304 - (e * 65536 + dg 16 M 0) : Nat) : Int)) ∧ Below w.heap.size w w' := by
  go_enter Tryz.func99, Tryz.ntmps99
  go_upto_if 9 with fail
  go_cut [0] (fun c wx => c = .int .u64 X ∧ wx = w)
  case first =>
    by_cases h0 : x = 0
    · subst h0
      go_wp2
      go_meet
      exact ⟨by rw [hX.out]; rfl, rfl⟩
    · have h0' : ((x : Int) == 0) = false := by simp; omega
      go_wp2
      go_meet
      exact ⟨by rw [hX.out, show max x 1 = x by omega], rfl⟩
  case rest =>
    obtain ⟨rfl, rfl⟩ := hcut
    clear hX hx
    go_wp2
    go_loop [0, 3] (fun vx vk => ∃ j : Nat, e + j ≤ 63 ∧ vx = .int .u64 ((X * 2 ^ j : Nat) : Int) ∧ vk = .int .u64 (63 - (j : Int))) (fun _ vk => (intOf vk).toNat)
    case atStart => exact ⟨0, by omega, by simp, rfl⟩
    case round =>
      obtain ⟨j, hj, rfl, rfl⟩ := hrel
      by_cases hlt : e + j < 63
      · obtain ⟨Y, hY⟩ : ∃ Y, X * 2 ^ j = Y := ⟨_, rfl⟩
        have hY2 := top_step hat.out hlt
        have HY : Hid (X * 2 ^ j = Y) := hY
        rw [hY] at hY2 ⊢
        clear hY
        have h1 : (Y : Int) / 9223372036854775808 = 0 := by omega
        clear hY2
        go_wp2
        go_round
        case rel => exact ⟨j + 1, by omega, by rw [Nat.pow_succ, ← Nat.mul_assoc, HY.out]; congr 1 <;> omega, by go_num⟩
        case measure => simp [intOf] <;> omega
      · have hje : X * 2 ^ j = M := by rw [← hMe.out, show j = 63 - e by omega]
        rw [hje]
        have h1 : (M : Int) / 9223372036854775808 = 1 := by have := HM0.out; unfold inM at this; omega
        have hk : (63 : Int) - (j : Int) = (e : Int) := by omega
        rw [hk]
        clear hMe hk hje hlt hat hj
        go_wp2
        clear h1
        go_loop [0, 4, 5] (fun vm vf vi => ∃ (k m f : Nat), k ≤ 16 ∧ inM m ∧ vm = .int .u64 m ∧ vf = .int .u64 f ∧ vi = .int .i64 k ∧ f < 2 ^ k ∧ dg 16 M 0 = dg (16 - k) m f) (fun _ _ vi => 16 - (intOf vi).toNat)
        case atStart => exact ⟨0, M, 0, by omega, HM0.out, rfl, rfl, rfl, by omega, rfl⟩
        case round =>
          obtain ⟨k, m, f, hk, hm, rfl, rfl, rfl, hf, hd⟩ := hrel
          have HD : Hid (dg 16 M 0 = dg (16 - k) m f) := hd
          have HF : Hid (f < 2 ^ k) := hf
          have HI : Hid (inM m) := hm
          clear hd hf hm HM0
          by_cases hlt : k < 16
          · have hf2 : f < 65536 := Nat.lt_of_lt_of_le HF.out (show 2 ^ k ≤ 2 ^ 16 from Nat.pow_le_pow_right (by omega) (by omega))
            have HM : Hid (∀ w : World, Calls Tryz.prog 100 #[.int .u64 m, .int .u64 m] w fun e w' => e = .returned (.tuple #[.int .u64 ((m * m / 18446744073709551616 : Nat) : Int), .int .u64 ((m * m % 18446744073709551616 : Nat) : Int)]) ∧ w' = w) := fun w => times_any m m HI.out.2 HI.out.2 w
            by_cases c : 170141183460469231731687303715884105728 ≤ m * m
            · have HC : Hid (170141183460469231731687303715884105728 ≤ m * m) := c
              obtain ⟨H, hH⟩ : ∃ H : Nat, m * m / 18446744073709551616 = H := ⟨_, rfl⟩
              obtain ⟨L, hL⟩ : ∃ L : Nat, m * m % 18446744073709551616 = L := ⟨_, rfl⟩
              have hsq := sq_hi HI.out
              have h1 : (H : Int) / 9223372036854775808 = 1 := by omega
              rw [hH, hL] at HM
              have HH : Hid (m * m / 18446744073709551616 = H) := hH
              clear hH hL c hsq
              go_wp2_with (go_at_call 100; with_reducible refine (HM.out _).mono ?_; rintro e w' ⟨rfl, hw⟩; subst w')
              go_round
              case rel => exact ⟨k + 1, H, 2 * f + 1, by omega, HH.out ▸ inM_one HI.out HC.out, rfl, by first | rfl | (congr 1; omega), by go_num, by have := HF.out; rw [Nat.pow_succ]; omega, by rw [HD.out, show 16 - k = (16 - (k + 1)) + 1 by omega, dg_one HC.out, HH.out]⟩
              case measure => simp [intOf] <;> omega
            · have HC : Hid (m * m < 170141183460469231731687303715884105728) := Nat.lt_of_not_le c
              have HLO : Hid ((((m * m / 18446744073709551616 : Nat)) : Int) * 2 + ((m * m % 18446744073709551616 : Nat) : Int) / 9223372036854775808 = ((m * m / 9223372036854775808 : Nat) : Int)) := low0 HI.out c
              obtain ⟨H, hH⟩ : ∃ H : Nat, m * m / 18446744073709551616 = H := ⟨_, rfl⟩
              obtain ⟨L, hL⟩ : ∃ L : Nat, m * m % 18446744073709551616 = L := ⟨_, rfl⟩
              have h1 : (H : Int) / 9223372036854775808 = 0 := by omega
              have h3 : (L : Int) / 9223372036854775808 ≤ 1 := by omega
              rw [hH, hL] at HM HLO
              clear hH hL c
              have HO : Hid (bits .or .u64 ((H : Int) * 2) ((L : Int) / 9223372036854775808) = (H : Int) * 2 + (L : Int) / 9223372036854775808) := or_low' (by omega) (by omega)
              clear h3
              go_wp2_with (go_at_call 100; with_reducible refine (HM.out _).mono ?_; rintro e w' ⟨rfl, hw⟩; subst w')
              go_round
              case rel => exact ⟨k + 1, m * m / 9223372036854775808, 2 * f, by omega, inM_two HI.out (Nat.not_le.2 HC.out), by first | (rw [HO.out, HLO.out]) | (rw [← HLO.out, ← HO.out]), by first | rfl | (congr 1; omega), by go_num, by have := HF.out; rw [Nat.pow_succ]; omega, by rw [HD.out, show 16 - k = (16 - (k + 1)) + 1 by omega, dg_two (Nat.not_le.2 HC.out)]⟩
              case measure => simp [intOf] <;> omega
          · obtain rfl : k = 16 := by omega
            have hd : dg 16 M 0 = f := HD.out
            have hf := HF.out
            clear HD HF HI
            go_wp2
            go_ret
            refine ⟨congrArg (fun z => Ending.returned (.int .u64 z)) ?_, Below.refl _ _⟩
            try rw [hd]
            omega
theorem halv_any (x : Nat) (hx : x < 18446744073709551616) (w : World) :
    Calls Tryz.prog 99 #[.int .u64 x] w fun r w' => r = .returned (.int .u64 (hv x : Nat)) ∧ Below w.heap.size w w' := by
  obtain ⟨b1, b2, b3⟩ := bitLen_at (x := max x 1) (by omega) (by omega)
  have h1 := lg_eq (x := max x 1) (by omega) b3
  have h2 := top_in h1.2 b3
  unfold hv
  rw [h1.1]
  exact halv_core x (max x 1) _ _ rfl rfl h2 h1.2 hx b3 w
end Go.Proofs.YtciaacckdodhcaaGreat
namespace Go.Proofs.YtciaacckdodhcaaGreat
open Go.ChangeShapes Go.WideShapes Go.ChangeAt Go.RowKit
set_option linter.unusedVariables false

def xN (s : Int) : Nat := (mx (nx (B s))).toNat
theorem xN_lt (s : Int) : xN s < 18446744073709551616 := (mx (nx (B s))).isLt
/-- what Wait answers -/
def wV (s mean : Int) : Value :=
  if wq (xN s) mean.toNat < 79228162514264337593543950336 then .tuple #[.int .u64 ((wq (xN s) mean.toNat / 4294967296 : Nat) : Int), .int .u64 (U (nx (B s))), .int .i64 0]
  else .tuple #[.int .u64 0, .int .u64 s, .int .i64 10]

theorem val_split (q : Nat) : ((q / 18446744073709551616 : Nat) : Int) * 4294967296 + ((q % 18446744073709551616 : Nat) : Int) / 4294967296 = ((q / 4294967296 : Nat) : Int) := by omega
theorem arg_eq (x : Nat) (hx : x < 18446744073709551616) : (4194304 - ((lg (max x 1) : Nat) : Int)) * 45426 = ((hv x * 45426 : Nat) : Int) := by
  have := lg_lt (x := max x 1) (by omega) (by omega)
  unfold hv
  omega
theorem hv_small (x : Nat) : hv x * 45426 < 18446744073709551616 := by have := hv_le x; omega
theorem wait_any (s mean : Int) (hm : 0 ≤ mean ∧ mean ≤ 18446744073709551615) (w : World) :
    Calls Tryz.prog 79 #[.int .u64 s, .int .u64 mean] w fun r w' => r = .returned (wV s mean) ∧ Below w.heap.size w w' := by
  obtain ⟨m, rfl⟩ := Int.eq_ofNat_of_zero_le hm.1
  have hx := xN_lt s
  have hlg := lg_lt (x := max (xN s) 1) (by omega) (by omega)
  have hN : ∀ w : World, Calls Tryz.prog 94 #[.int .u64 s] w fun e w' => e = .returned (.tuple #[.int .u64 (U (nx (B s))), .int .u64 (xN s : Nat)]) ∧ w' = w := fun w => next_any s w
  have hL : ∀ w : World, Calls Tryz.prog 95 #[.int .u64 ((max (xN s) 1 : Nat) : Int)] w fun r w' => r = .returned (.int .u64 (lg (max (xN s) 1) : Nat)) ∧ Below w.heap.size w w' := fun w => log_any (max (xN s) 1) (by omega) (by omega) w
  have hM : ∀ w : World, Calls Tryz.prog 96 #[.int .u64 m, .int .u64 ((4194304 - ((lg (max (xN s) 1) : Nat) : Int)) * 45426)] w fun e w' => e = .returned (.tuple #[.int .u64 ((wq (xN s) m / 18446744073709551616 : Nat) : Int), .int .u64 ((wq (xN s) m % 18446744073709551616 : Nat) : Int)]) ∧ w' = w := fun w => by
    rw [arg_eq _ hx]
    exact mul_any m _ (by omega) (hv_small _) w
  have hmax : max ((xN s : Nat) : Int) 1 = ((max (xN s) 1 : Nat) : Int) := by omega
  unfold wV
  rw [Int.toNat_natCast]
  by_cases c : wq (xN s) m < 79228162514264337593543950336
  · rw [if_pos c, ← val_split]
    exact wait_ok s m _ _ _ _ _ _ hL hmax (by omega) (by omega) (by omega) hN hM (by omega) w
  · rw [if_neg c]
    exact wait_err s m _ _ _ _ _ _ hL hmax (by omega) (by omega) (by omega) hN hM (by simp; omega) w

theorem rwait_err (s mean t x h H L : Int)
    (hl : 0 ≤ h ∧ h ≤ 4194304) (hH0 : 0 ≤ H) (hL0 : 0 ≤ L ∧ L ≤ 18446744073709551615)
    (HN : Hid (∀ w : World, Calls Tryz.prog 98 #[.int .u64 s] w fun e w' => e = .returned (.tuple #[.int .u64 t, .int .u64 x]) ∧ w' = w))
    (HH : Hid (∀ w : World, Calls Tryz.prog 99 #[.int .u64 x] w fun r w' => r = .returned (.int .u64 h) ∧ Below w.heap.size w w'))
    (HM : Hid (∀ w : World, Calls Tryz.prog 100 #[.int .u64 mean, .int .u64 (h * 45426)] w fun e w' => e = .returned (.tuple #[.int .u64 H, .int .u64 L]) ∧ w' = w)) (hh : (H / 4294967296 == 0) = false) (w : World) :
    Calls Tryz.prog 91 #[.int .u64 s, .int .u64 mean] w fun r w' => r = .returned (.tuple #[.int .u64 0, .int .u64 s, .int .i64 10]) ∧ Below w.heap.size w w' := by
  go_enter Tryz.func91, Tryz.ntmps91
  go_wp2_with (first | (go_at_call 98; with_reducible refine (HN.out _).mono ?_; rintro e w' ⟨rfl, hw⟩; subst w') | (go_at_call 99; with_reducible refine (HH.out _).mono ?_; rintro e w1 ⟨rfl, hb1⟩) | (go_at_call 100; with_reducible refine (HM.out _).mono ?_; rintro e w' ⟨rfl, hw⟩; subst w'))
  go_returns
  exact ⟨rfl, hb1⟩
theorem rwait_ok (s mean t x h H L : Int)
    (hl : 0 ≤ h ∧ h ≤ 4194304) (hH0 : 0 ≤ H) (hL0 : 0 ≤ L ∧ L ≤ 18446744073709551615)
    (HN : Hid (∀ w : World, Calls Tryz.prog 98 #[.int .u64 s] w fun e w' => e = .returned (.tuple #[.int .u64 t, .int .u64 x]) ∧ w' = w))
    (HH : Hid (∀ w : World, Calls Tryz.prog 99 #[.int .u64 x] w fun r w' => r = .returned (.int .u64 h) ∧ Below w.heap.size w w'))
    (HM : Hid (∀ w : World, Calls Tryz.prog 100 #[.int .u64 mean, .int .u64 (h * 45426)] w fun e w' => e = .returned (.tuple #[.int .u64 H, .int .u64 L]) ∧ w' = w)) (hh : H / 4294967296 = 0) (w : World) :
    Calls Tryz.prog 91 #[.int .u64 s, .int .u64 mean] w fun r w' => r = .returned (.tuple #[.int .u64 (H * 4294967296 + L / 4294967296), .int .u64 t, .int .i64 0]) ∧ Below w.heap.size w w' := by
  have HO : Hid (bits .or .u64 (H * 4294967296) (L / 4294967296) = H * 4294967296 + L / 4294967296) := or_hi (by omega) (by omega)
  go_enter Tryz.func91, Tryz.ntmps91
  go_wp2_with (first | (go_at_call 98; with_reducible refine (HN.out _).mono ?_; rintro e w' ⟨rfl, hw⟩; subst w') | (go_at_call 99; with_reducible refine (HH.out _).mono ?_; rintro e w1 ⟨rfl, hb1⟩) | (go_at_call 100; with_reducible refine (HM.out _).mono ?_; rintro e w' ⟨rfl, hw⟩; subst w'))
  go_returns
  exact ⟨by rw [← HO.out]; rfl, hb1⟩
theorem rwait_any (s mean : Int) (hm : 0 ≤ mean ∧ mean ≤ 18446744073709551615) (w : World) :
    Calls Tryz.prog 91 #[.int .u64 s, .int .u64 mean] w fun r w' => r = .returned (wV s mean) ∧ Below w.heap.size w w' := by
  obtain ⟨m, rfl⟩ := Int.eq_ofNat_of_zero_le hm.1
  have hx := xN_lt s
  have hN : ∀ w : World, Calls Tryz.prog 98 #[.int .u64 s] w fun e w' => e = .returned (.tuple #[.int .u64 (U (nx (B s))), .int .u64 (xN s : Nat)]) ∧ w' = w := fun w => rnext_any s w
  have hL : ∀ w : World, Calls Tryz.prog 99 #[.int .u64 (xN s : Nat)] w fun r w' => r = .returned (.int .u64 (hv (xN s) : Nat)) ∧ Below w.heap.size w w' := fun w => halv_any (xN s) hx w
  have hM : ∀ w : World, Calls Tryz.prog 100 #[.int .u64 m, .int .u64 ((hv (xN s) : Nat) * 45426)] w fun e w' => e = .returned (.tuple #[.int .u64 ((wq (xN s) m / 18446744073709551616 : Nat) : Int), .int .u64 ((wq (xN s) m % 18446744073709551616 : Nat) : Int)]) ∧ w' = w := fun w => times_any m _ (by omega) (hv_small _) w
  have hle := hv_le (xN s)
  unfold wV
  rw [Int.toNat_natCast]
  by_cases c : wq (xN s) m < 79228162514264337593543950336
  · rw [if_pos c, ← val_split]
    exact rwait_ok s m _ _ _ _ _ (by omega) (by omega) (by omega) hN hL hM (by omega) w
  · rw [if_neg c]
    exact rwait_err s m _ _ _ _ _ (by omega) (by omega) (by omega) hN hL hM (by simp; omega) w
end Go.Proofs.YtciaacckdodhcaaGreat
