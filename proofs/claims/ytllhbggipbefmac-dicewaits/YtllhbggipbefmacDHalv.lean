import Derived.Test.YtllhbggipbefmacDRefW
import Derived.Deep.DeepCutAuto
namespace Go.Proofs.Ytllhbggipbefmac
open Go.ChangeShapes Go.WideShapes Go.ChangeAt Go.RowKit
set_option linter.unusedVariables false

theorem top_step {X e j : Nat} (h : atBit X e) (hj : e + j < 63) : X * 2 ^ j < 9223372036854775808 := by
  have e2 : 2 ^ (e + 1) * 2 ^ j ≤ 9223372036854775808 := by
    rw [← Nat.pow_add]
    exact (show 2 ^ (e + 1 + j) ≤ 2 ^ 63 from Nat.pow_le_pow_right (by omega) (by omega))
  have h2 := Nat.mul_lt_mul_of_pos_right h.2 (Nat.pow_pos (n := j) (show 0 < 2 by omega))
  omega
set_option maxRecDepth 100000 in
theorem halv_core (x X e M : Nat) (hX : Hid (X = max x 1)) (hMe : Hid (X * 2 ^ (63 - e) = M)) (HM0 : Hid (inM M)) (he : e ≤ 63) (hx : x < 18446744073709551616) (hat : Hid (atBit X e)) (w : World) :
    Calls Try.prog 31 #[.int .u64 x] w fun r w' => r = .returned (.int .u64 ((4194304 - (e * 65536 + dg 16 M 0) : Nat) : Int)) ∧ Below w.heap.size w w' := by
  go_enter Try.func31, Try.ntmps31
  go_upto_if 9 with fail
  go_cut [0] (fun c wx => c = .int .u64 X ∧ wx = w)
  case first =>
    by_cases h0 : x = 0
    · subst h0
      go_wp2
      go_meet
      exact ⟨by rw [hX.out]; rfl, rfl⟩
    · have h0' : ((x : Int) == 0) = false := by simp; omega
      go_wp2
      go_meet
      exact ⟨by rw [hX.out, show max x 1 = x by omega], rfl⟩
  case rest =>
    obtain ⟨rfl, rfl⟩ := hcut
    clear hX hx
    go_wp2
    go_loop [0, 3] (fun vx vk => ∃ j : Nat, e + j ≤ 63 ∧ vx = .int .u64 ((X * 2 ^ j : Nat) : Int) ∧ vk = .int .u64 (63 - (j : Int))) (fun _ vk => (intOf vk).toNat)
    case atStart => exact ⟨0, by omega, by simp, rfl⟩
    case round =>
      obtain ⟨j, hj, rfl, rfl⟩ := hrel
      by_cases hlt : e + j < 63
      · obtain ⟨Y, hY⟩ : ∃ Y, X * 2 ^ j = Y := ⟨_, rfl⟩
        have hY2 := top_step hat.out hlt
        have HY : Hid (X * 2 ^ j = Y) := hY
        rw [hY] at hY2 ⊢
        clear hY
        have h1 : (Y : Int) / 9223372036854775808 = 0 := by omega
        clear hY2
        go_wp2
        go_round
        case rel => exact ⟨j + 1, by omega, by rw [Nat.pow_succ, ← Nat.mul_assoc, HY.out]; congr 1 <;> omega, by go_num⟩
        case measure => simp [intOf] <;> omega
      · have hje : X * 2 ^ j = M := by rw [← hMe.out, show j = 63 - e by omega]
        rw [hje]
        have h1 : (M : Int) / 9223372036854775808 = 1 := by have := HM0.out; unfold inM at this; omega
        have hk : (63 : Int) - (j : Int) = (e : Int) := by omega
        rw [hk]
        clear hMe hk hje hlt hat hj
        go_wp2
        clear h1
        go_loop [0, 4, 5] (fun vm vf vi => ∃ (k m f : Nat), k ≤ 16 ∧ inM m ∧ vm = .int .u64 m ∧ vf = .int .u64 f ∧ vi = .int .i64 k ∧ f < 2 ^ k ∧ dg 16 M 0 = dg (16 - k) m f) (fun _ _ vi => 16 - (intOf vi).toNat)
        case atStart => exact ⟨0, M, 0, by omega, HM0.out, rfl, rfl, rfl, by omega, rfl⟩
        case round =>
          obtain ⟨k, m, f, hk, hm, rfl, rfl, rfl, hf, hd⟩ := hrel
          have HD : Hid (dg 16 M 0 = dg (16 - k) m f) := hd
          have HF : Hid (f < 2 ^ k) := hf
          have HI : Hid (inM m) := hm
          clear hd hf hm HM0
          by_cases hlt : k < 16
          · have hf2 : f < 65536 := Nat.lt_of_lt_of_le HF.out (show 2 ^ k ≤ 2 ^ 16 from Nat.pow_le_pow_right (by omega) (by omega))
            have HM : Hid (∀ w : World, Calls Try.prog 32 #[.int .u64 m, .int .u64 m] w fun e w' => e = .returned (.tuple #[.int .u64 ((m * m / 18446744073709551616 : Nat) : Int), .int .u64 ((m * m % 18446744073709551616 : Nat) : Int)]) ∧ w' = w) := fun w => times_any m m HI.out.2 HI.out.2 w
            by_cases c : 170141183460469231731687303715884105728 ≤ m * m
            · have HC : Hid (170141183460469231731687303715884105728 ≤ m * m) := c
              obtain ⟨H, hH⟩ : ∃ H : Nat, m * m / 18446744073709551616 = H := ⟨_, rfl⟩
              obtain ⟨L, hL⟩ : ∃ L : Nat, m * m % 18446744073709551616 = L := ⟨_, rfl⟩
              have hsq := sq_hi HI.out
              have h1 : (H : Int) / 9223372036854775808 = 1 := by omega
              rw [hH, hL] at HM
              have HH : Hid (m * m / 18446744073709551616 = H) := hH
              clear hH hL c hsq
              go_wp2_with (go_at_call 32; with_reducible refine (HM.out _).mono ?_; rintro e w' ⟨rfl, hw⟩; subst w')
              go_round
              case rel => exact ⟨k + 1, H, 2 * f + 1, by omega, HH.out ▸ inM_one HI.out HC.out, rfl, by first | rfl | (congr 1; omega), by go_num, by have := HF.out; rw [Nat.pow_succ]; omega, by rw [HD.out, show 16 - k = (16 - (k + 1)) + 1 by omega, dg_one HC.out, HH.out]⟩
              case measure => simp [intOf] <;> omega
            · have HC : Hid (m * m < 170141183460469231731687303715884105728) := Nat.lt_of_not_le c
              have HLO : Hid ((((m * m / 18446744073709551616 : Nat)) : Int) * 2 + ((m * m % 18446744073709551616 : Nat) : Int) / 9223372036854775808 = ((m * m / 9223372036854775808 : Nat) : Int)) := low0 HI.out c
              obtain ⟨H, hH⟩ : ∃ H : Nat, m * m / 18446744073709551616 = H := ⟨_, rfl⟩
              obtain ⟨L, hL⟩ : ∃ L : Nat, m * m % 18446744073709551616 = L := ⟨_, rfl⟩
              have h1 : (H : Int) / 9223372036854775808 = 0 := by omega
              have h3 : (L : Int) / 9223372036854775808 ≤ 1 := by omega
              rw [hH, hL] at HM HLO
              clear hH hL c
              have HO : Hid (bits .or .u64 ((H : Int) * 2) ((L : Int) / 9223372036854775808) = (H : Int) * 2 + (L : Int) / 9223372036854775808) := or_low' (by omega) (by omega)
              clear h3
              go_wp2_with (go_at_call 32; with_reducible refine (HM.out _).mono ?_; rintro e w' ⟨rfl, hw⟩; subst w')
              go_round
              case rel => exact ⟨k + 1, m * m / 9223372036854775808, 2 * f, by omega, inM_two HI.out (Nat.not_le.2 HC.out), by first | (rw [HO.out, HLO.out]) | (rw [← HLO.out, ← HO.out]), by first | rfl | (congr 1; omega), by go_num, by have := HF.out; rw [Nat.pow_succ]; omega, by rw [HD.out, show 16 - k = (16 - (k + 1)) + 1 by omega, dg_two (Nat.not_le.2 HC.out)]⟩
              case measure => simp [intOf] <;> omega
          · obtain rfl : k = 16 := by omega
            have hd : dg 16 M 0 = f := HD.out
            have hf := HF.out
            clear HD HF HI
            go_wp2
            go_ret
            refine ⟨congrArg (fun z => Ending.returned (.int .u64 z)) ?_, Below.refl _ _⟩
            try rw [hd]
            omega
theorem halv_any (x : Nat) (hx : x < 18446744073709551616) (w : World) :
    Calls Try.prog 31 #[.int .u64 x] w fun r w' => r = .returned (.int .u64 (hv x : Nat)) ∧ Below w.heap.size w w' := by
  obtain ⟨b1, b2, b3⟩ := bitLen_at (x := max x 1) (by omega) (by omega)
  have h1 := lg_eq (x := max x 1) (by omega) b3
  have h2 := top_in h1.2 b3
  unfold hv
  rw [h1.1]
  exact halv_core x (max x 1) _ _ rfl rfl h2 h1.2 hx b3 w
end Go.Proofs.Ytllhbggipbefmac
