import Derived.Test.YtllhbggipbefmacDPick
namespace Go.Proofs.Ytllhbggipbefmac
open Go.ChangeShapes Go.WideShapes Go.ChangeAt Go.RowKit
set_option linter.unusedVariables false

theorem pick_many (s : Int) (sl : Option Addr) (L cap : Nat) (w : World) (h : 4096 < L) :
    Calls Try.prog 13 #[.int .u64 s, .slice sl L cap] w fun r w' => r = .returned (.tuple #[.int .i64 0, .int .u64 s, .int .i64 22]) ∧ w' = w := by
  have h1 : (4096 : Int) < (L : Int) := by omega
  clear h
  go_enter Try.func13, Try.ntmps13
  go_wp2
  go_returns
  exact ⟨rfl, rfl⟩
theorem pick_none (s : Int) (sl : Option Addr) (L cap : Nat) (W : Nat → Int) (w : World) (hL : L ≤ 4096) (h : WAt w sl L W) (ht : tot W L = 0) :
    Calls Try.prog 13 #[.int .u64 s, .slice sl L cap] w fun r w' => r = .returned (.tuple #[.int .i64 0, .int .u64 s, .int .i64 21]) ∧ w' = w := by
  have HT := total_any sl L cap W w hL h
  rw [ht] at HT
  have HT2 : Hid (Calls Try.prog 25 #[.slice sl L cap] w fun r w' => r = .returned (.int .u64 0) ∧ w' = w) := HT
  clear HT ht h
  go_enter Try.func13, Try.ntmps13
  go_wp2_with (go_at_call 25; with_reducible refine (HT2.out).mono ?_; rintro e w' ⟨rfl, hw⟩; subst w')
  go_returns
  exact ⟨rfl, rfl⟩
theorem pick_ok (s S x t : Int) (sl : Option Addr) (L cap i : Nat) (W : Nat → Int) (w : World) (hL : L ≤ 4096) (h : WAt w sl L W) (ht : tot W L = S) (hS : ¬ S = 0) (hi : i < L) (hp : Hid (isPl W x i)) (hx : x ≤ 18446744073709551615)
    (HB : Hid (∀ w : World, Calls Try.prog 7 #[.int .u64 s, .int .u64 S] w fun r w' => r = .returned (.tuple #[.int .u64 x, .int .u64 t, .int .i64 0]) ∧ w' = w)) :
    Calls Try.prog 13 #[.int .u64 s, .slice sl L cap] w fun r w' => r = .returned (.tuple #[.int .i64 i, .int .u64 t, .int .i64 0]) ∧ w' = w := by
  have HT := total_any sl L cap W w hL h
  rw [ht] at HT
  have HT2 : Hid (Calls Try.prog 25 #[.slice sl L cap] w fun r w' => r = .returned (.int .u64 S) ∧ w' = w) := HT
  have HP : Hid (Calls Try.prog 26 #[.int .u64 x, .slice sl L cap] w fun r w' => r = .returned (.int .i64 i) ∧ w' = w) := place_any sl L cap i W x w hL h hi hp hx
  clear HT ht h hp
  have hS2 : (S == 0) = false := by simp [hS]
  go_enter Try.func13, Try.ntmps13
  go_wp2_with (first | (go_at_call 25; with_reducible refine (HT2.out).mono ?_; rintro e w' ⟨rfl, hw⟩; subst w') | (go_at_call 7; with_reducible refine (HB.out _).mono ?_; rintro e w' ⟨rfl, hw⟩; subst w') | (go_at_call 26; with_reducible refine (HP.out).mono ?_; rintro e w' ⟨rfl, hw⟩; subst w'))
  go_returns
  exact ⟨rfl, rfl⟩
theorem rpick_many (s : Int) (sl : Option Addr) (L cap : Nat) (w : World) (h : 4096 < L) :
    Calls Try.prog 14 #[.int .u64 s, .slice sl L cap] w fun r w' => r = .returned (.tuple #[.int .i64 0, .int .u64 s, .int .i64 22]) ∧ w' = w := by
  have h1 : (4096 : Int) < (L : Int) := by omega
  clear h
  go_enter Try.func14, Try.ntmps14
  go_wp2
  go_returns
  exact ⟨rfl, rfl⟩
def rpV (z s i t : Int) : Value := if z = 0 then .tuple #[.int .i64 0, .int .u64 s, .int .i64 21] else .tuple #[.int .i64 i, .int .u64 t, .int .i64 0]
theorem rpV_0 {z s i t : Int} (h : z = 0) : rpV z s i t = .tuple #[.int .i64 0, .int .u64 s, .int .i64 21] := by rw [rpV, if_pos h]
theorem rpV_1 {z s i t : Int} (h : ¬ z = 0) : rpV z s i t = .tuple #[.int .i64 i, .int .u64 t, .int .i64 0] := by rw [rpV, if_neg h]
theorem rpick_rest (s x t : Int) (sl : Option Addr) (L cap i : Nat) (W : Nat → Int) (w : World) (hL : L ≤ 4096) (h : WAt w sl L W) (hi : ¬ tot W L = 0 → i < L) (hp : Hid (¬ tot W L = 0 → isPl W x i)) (hx : x ≤ 18446744073709551615)
    (HB : Hid (¬ tot W L = 0 → ∀ w : World, Calls Try.prog 27 #[.int .u64 s, .int .u64 (tot W L)] w fun r w' => r = .returned (.tuple #[.int .u64 x, .int .u64 t, .int .i64 0]) ∧ w' = w)) :
    Calls Try.prog 14 #[.int .u64 s, .slice sl L cap] w fun r w' => r = .returned (rpV (tot W L) s i t) ∧ w' = w := by
  have d1 : decide ((4096 : Int) < (L : Int)) = false := by simp; omega
  go_enter Try.func14, Try.ntmps14
  go_wp2
  clear d1
  go_loop [7, 8] (fun vs vi => ∃ k : Nat, k ≤ L ∧ vi = .int .i64 k ∧ vs = .int .u64 (sumW W k) ∧ sumW W k ≤ 18446744073709551615) (fun _ vi => L - (intOf vi).toNat)
  case atStart => exact ⟨0, by omega, rfl, rfl, by rw [sumW]; omega⟩
  case round =>
    obtain ⟨k, hk, rfl, rfl, hs⟩ := hrel
    by_cases hlt : k < L
    · obtain ⟨b, off, rfl, hb, hc⟩ := h.at hlt
      have hw := h.2 k hlt
      have hn := sumW_nn h.2 (show k ≤ L by omega)
      have hst : sumW W (k + 1) = sumW W k + W k := rfl
      have hmono := sumW_le h.2 (show k + 1 ≤ L by omega) (Nat.le_refl L)
      obtain ⟨X, hX⟩ : ∃ X, sumW W k = X := ⟨_, rfl⟩
      obtain ⟨Y, hY⟩ : ∃ Y, W k = Y := ⟨_, rfl⟩
      rw [hX, hY] at hst
      rw [hX] at hn hs ⊢
      rw [hY] at hc hw
      have i0 : (0 : Int) ≤ (k : Int) := by omega
      have i1 : (k : Int) < (L : Int) := by omega
      have HM : Hid (sumW W (k + 1) ≤ sumW W L) := hmono
      have HS : Hid (sumW W (k + 1) = X + Y) := hst
      clear h hmono hst hX hY HB hp hi
      by_cases c : X + Y ≤ 18446744073709551615
      · have c1 : decide (18446744073709551615 - X < Y) = false := by simp; omega
        go_wp2
        go_round
        case rel => exact ⟨k + 1, by omega, by go_num, by rw [HS.out], by rw [HS.out]; exact c⟩
        case measure => simp [intOf]; omega
      · have c1 : 18446744073709551615 - X < Y := by omega
        have HT : Hid (tot W L = 0) := by
          have := HM.out
          have := HS.out
          show tot W L = 0
          unfold tot
          rw [if_neg (by omega)]
        clear c
        go_wp2
        go_returns
        exact ⟨by rw [rpV_0 HT.out]; rfl, rfl⟩
    · obtain rfl : k = L := by omega
      have htot : tot W k = sumW W k := by unfold tot; rw [if_pos hs]
      have hnn := sumW_nn h.2 (Nat.le_refl k)
      rw [htot] at hi hp HB
      have HT : Hid (tot W k = sumW W k) := htot
      clear htot
      by_cases hz : sumW W k = 0
      · have HZ : Hid (sumW W k = 0) := hz
        rw [hz]
        clear HB hp hi hz hs hnn
        go_wp2
        go_returns
        exact ⟨by rw [rpV_0 (HT.out.trans HZ.out)]; rfl, rfl⟩
      · have hi2 := hi hz
        have HP : Hid (isPl W x i) := hp.out hz
        have HB2 := HB.out hz
        have HNZ : Hid (¬ tot W k = 0) := by show ¬ tot W k = 0; rw [HT.out]; exact hz
        obtain ⟨S, hS⟩ : ∃ S, sumW W k = S := ⟨_, rfl⟩
        rw [hS] at HB2 hz ⊢
        have HB3 : Hid (∀ w : World, Calls Try.prog 27 #[.int .u64 s, .int .u64 S] w fun r w' => r = .returned (.tuple #[.int .u64 x, .int .u64 t, .int .i64 0]) ∧ w' = w) := HB2
        have hz2 : (S == 0) = false := by simp [hz]
        clear HB HB2 hp hi hS HT hs hnn hz
        go_wp2_with (go_at_call 27; with_reducible refine (HB3.out _).mono ?_; rintro e w' ⟨rfl, hw⟩; subst w')
        clear HB3
        go_loop [9, 12] (fun vx vi => ∃ j : Nat, j ≤ i ∧ vi = .int .i64 j ∧ vx = .int .u64 (x - sumW W j)) (fun _ vi => i - (intOf vi).toNat)
        case atStart => exact ⟨0, by omega, rfl, by simp [sumW]⟩
        case round =>
          obtain ⟨j, hj, rfl, rfl⟩ := hrel
          obtain ⟨b, off, rfl, hb, hc⟩ := h.at (show j < k by omega)
          have hw := h.2 j (by omega)
          have hn := sumW_nn h.2 (show j ≤ k by omega)
          have hm := sumW_le h.2 (show j ≤ i by omega) (show i ≤ k by omega)
          have hst : sumW W (j + 1) = sumW W j + W j := rfl
          have i0 : (0 : Int) ≤ (j : Int) := by omega
          have i1 : (j : Int) < (k : Int) := by omega
          by_cases c : j < i
          · have hm2 := sumW_le h.2 (show j + 1 ≤ i by omega) (show i ≤ k by omega)
            have hp1 := HP.out.1
            obtain ⟨X, hX⟩ : ∃ X, x - sumW W j = X := ⟨_, rfl⟩
            obtain ⟨Y, hY⟩ : ∃ Y, W j = Y := ⟨_, rfl⟩
            have HN : Hid (x - sumW W (j + 1) = X - Y) := by show x - sumW W (j + 1) = X - Y; omega
            have hXY : Y ≤ X := by omega
            have hX1 : X ≤ 18446744073709551615 := by omega
            rw [hX]
            rw [hY] at hc hw
            clear hX hY hst hm hm2 hn hp1 h
            go_wp2
            go_round
            case rel => exact ⟨j + 1, by omega, by go_num, by rw [HN.out]⟩
            case measure => simp [intOf]; omega
          · obtain rfl : j = i := by omega
            have hp1 := HP.out.1
            have hp2 := HP.out.2
            obtain ⟨X, hX⟩ : ∃ X, x - sumW W j = X := ⟨_, rfl⟩
            obtain ⟨Y, hY⟩ : ∃ Y, W j = Y := ⟨_, rfl⟩
            have hXY : X < Y := by omega
            rw [hX]
            rw [hY] at hc hw
            clear hX hY hst hm hn hp1 hp2 h HP
            go_wp2
            go_returns
            exact ⟨by rw [rpV_1 HNZ.out]; rfl, rfl⟩
end Go.Proofs.Ytllhbggipbefmac
