import Derived.Test.YtllhbggipbefmacDBelow
import Derived.Test.YtllhbggipbefmacDShelf
import Derived.BigRegion
namespace Go.Proofs.Ytllhbggipbefmac
open Go.ChangeShapes Go.WideShapes Go.ChangeAt Go.RowKit
set_option linter.unusedVariables false

theorem add64_0 (x y : Int) (hx : 0 ≤ x) (hy : 0 ≤ y) (w : World) : (callFunc 33 #[.int .u64 x, .int .u64 y, .int .u64 0]).run Try.prog w =
    .ok (.value (.tuple #[.int .u64 ((x + y) % 18446744073709551616), .int .u64 ((x + y) / 18446744073709551616)])) w := by
  obtain ⟨x, rfl⟩ := Int.eq_ofNat_of_zero_le hx
  obtain ⟨y, rfl⟩ := Int.eq_ofNat_of_zero_le hy
  refine (Any7.bits_Add64 laysAdd x y 0 (by omega) w).trans ?_
  congr 5 <;> omega

def WAt (w : World) (sl : Option Addr) (L : Nat) (W : Nat → Int) : Prop :=
  (L = 0 ∨ ∃ b off, sl = some ⟨b, off, none⟩ ∧ b < w.heap.size ∧ ∀ i, i < L → w.cell? ⟨b, off + i, none⟩ = some (.int .u64 (W i))) ∧ ∀ i, i < L → 0 ≤ W i ∧ W i ≤ 18446744073709551615
theorem WAt.below {w w' : World} {sl : Option Addr} {L : Nat} {W : Nat → Int} (h : WAt w sl L W) (hb : Below w.heap.size w w') : WAt w' sl L W := by
  obtain ⟨h1, h2⟩ := h
  refine ⟨?_, h2⟩
  rcases h1 with h | ⟨b, off, e, hlt, hc⟩
  · exact Or.inl h
  · exact Or.inr ⟨b, off, e, Nat.lt_of_lt_of_le hlt hb.size, fun i hi => by rw [hb.cell (by show b < _; exact hlt)]; exact hc i hi⟩
theorem WAt.at {w : World} {sl : Option Addr} {L i : Nat} {W : Nat → Int} (h : WAt w sl L W) (hi : i < L) : ∃ b off, sl = some ⟨b, off, none⟩ ∧ b < w.heap.size ∧ w.cell? ⟨b, off + i, none⟩ = some (.int .u64 (W i)) := by
  rcases h.1 with e | ⟨b, off, e, hlt, hc⟩
  · omega
  · exact ⟨b, off, e, hlt, hc i hi⟩

def sumW (W : Nat → Int) : Nat → Int
  | 0 => 0
  | k + 1 => sumW W k + W k
theorem sumW_step {W : Nat → Int} {L k : Nat} (h : ∀ i, i < L → 0 ≤ W i ∧ W i ≤ 18446744073709551615) (hk : k < L) : sumW W k ≤ sumW W (k + 1) := by
  have := (h k hk).1
  rw [sumW]
  omega
theorem sumW_mono {W : Nat → Int} {L : Nat} (h : ∀ i, i < L → 0 ≤ W i ∧ W i ≤ 18446744073709551615) : ∀ d k, k + d ≤ L → sumW W k ≤ sumW W (k + d) := by
  intro d
  induction d with
  | zero => intro k _; exact Int.le_refl _
  | succ d ih =>
    intro k hk
    have h1 := ih k (by omega)
    have h2 := sumW_step h (k := k + d) (by omega)
    exact Int.le_trans h1 h2
theorem sumW_le {W : Nat → Int} {L k m : Nat} (h : ∀ i, i < L → 0 ≤ W i ∧ W i ≤ 18446744073709551615) (hk : k ≤ m) (hm : m ≤ L) : sumW W k ≤ sumW W m := by
  have := sumW_mono h (m - k) k (by omega)
  rwa [show k + (m - k) = m by omega] at this
theorem sumW_nn {W : Nat → Int} {L k : Nat} (h : ∀ i, i < L → 0 ≤ W i ∧ W i ≤ 18446744073709551615) (hk : k ≤ L) : 0 ≤ sumW W k := sumW_le (k := 0) h (by omega) hk
def tot (W : Nat → Int) (L : Nat) : Int := if sumW W L ≤ 18446744073709551615 then sumW W L else 0
def isPl (W : Nat → Int) (x : Int) (i : Nat) : Prop := sumW W i ≤ x ∧ x < sumW W (i + 1)
theorem pl_ex {W : Nat → Int} {x : Int} (h0 : 0 ≤ x) : ∀ L, x < sumW W L → ∃ i, i < L ∧ isPl W x i := by
  intro L
  induction L with
  | zero => intro h; simp [sumW] at h; omega
  | succ L ih =>
    intro h
    by_cases c : x < sumW W L
    · obtain ⟨i, h1, h2⟩ := ih c
      exact ⟨i, by omega, h2⟩
    · exact ⟨L, by omega, by omega, h⟩

theorem total_any (sl : Option Addr) (L cap : Nat) (W : Nat → Int) (w : World) (hL : L ≤ 4096) (h : WAt w sl L W) :
    Calls Try.prog 25 #[.slice sl L cap] w fun r w' => r = .returned (.int .u64 (tot W L)) ∧ w' = w := by
  go_enter Try.func25, Try.ntmps25
  go_wp2
  go_loop [3, 9] (fun vs vi => ∃ k : Nat, k ≤ L ∧ vi = .int .i64 k ∧ vs = .int .u64 (sumW W k) ∧ sumW W k ≤ 18446744073709551615) (fun _ vi => L - (intOf vi).toNat)
  case atStart => exact ⟨0, by omega, rfl, rfl, by rw [sumW]; omega⟩
  case round =>
    obtain ⟨k, hk, rfl, rfl, hs⟩ := hrel
    by_cases hlt : k < L
    · obtain ⟨b, off, rfl, hb, hc⟩ := h.at hlt
      have hw := h.2 k hlt
      have hn := sumW_nn h.2 (show k ≤ L by omega)
      have hst : sumW W (k + 1) = sumW W k + W k := rfl
      have hmono := sumW_le h.2 (show k + 1 ≤ L by omega) (Nat.le_refl L)
      obtain ⟨X, hX⟩ : ∃ X, sumW W k = X := ⟨_, rfl⟩
      obtain ⟨Y, hY⟩ : ∃ Y, W k = Y := ⟨_, rfl⟩
      rw [hX, hY] at hst
      rw [hX] at hn hs ⊢
      rw [hY] at hc hw
      have i0 : (0 : Int) ≤ (k : Int) := by omega
      have i1 : (k : Int) < (L : Int) := by omega
      have HM : Hid (sumW W (k + 1) ≤ sumW W L) := hmono
      have HS : Hid (sumW W (k + 1) = X + Y) := hst
      clear h hmono hst hX hY
      by_cases c : X + Y ≤ 18446744073709551615
      · have q0 : (X + Y) / 18446744073709551616 = 0 := by omega
        have q1 : (X + Y) % 18446744073709551616 = X + Y := by omega
        go_wp2_with (simp only [add64_0 X Y hn hw.1])
        go_round
        case rel => exact ⟨k + 1, by omega, by go_num, by rw [HS.out], by rw [HS.out]; exact c⟩
        case measure => simp [intOf]; omega
      · have q0 : (X + Y) / 18446744073709551616 = 1 := by omega
        have HT : Hid (tot W L = 0) := by
          have := HM.out
          have := HS.out
          show tot W L = 0
          unfold tot
          rw [if_neg (by omega)]
        go_wp2_with (simp only [add64_0 X Y hn hw.1])
        rw [HT.out]
        go_ret
        exact ⟨rfl, rfl⟩
    · obtain rfl : k = L := by omega
      have HT : Hid (tot W k = sumW W k) := by
        show tot W k = _
        unfold tot
        rw [if_pos hs]
      go_wp2
      rw [HT.out]
      go_ret
      exact ⟨rfl, rfl⟩

theorem place_any (sl : Option Addr) (L cap i : Nat) (W : Nat → Int) (x0 : Int) (w : World) (hL : L ≤ 4096) (h : WAt w sl L W) (hi : i < L) (hp : Hid (isPl W x0 i)) (hx0 : x0 ≤ 18446744073709551615) :
    Calls Try.prog 26 #[.int .u64 x0, .slice sl L cap] w fun r w' => r = .returned (.int .i64 i) ∧ w' = w := by
  go_enter Try.func26, Try.ntmps26
  go_wp2
  go_loop [0, 5] (fun vx vi => ∃ j : Nat, j ≤ i ∧ vi = .int .i64 j ∧ vx = .int .u64 (x0 - sumW W j)) (fun _ vi => i - (intOf vi).toNat)
  case atStart => exact ⟨0, by omega, rfl, by simp [sumW]⟩
  case round =>
    obtain ⟨j, hj, rfl, rfl⟩ := hrel
    obtain ⟨b, off, rfl, hb, hc⟩ := h.at (show j < L by omega)
    have hw := h.2 j (by omega)
    have hn := sumW_nn h.2 (show j ≤ L by omega)
    have hm := sumW_le h.2 (show j ≤ i by omega) (show i ≤ L by omega)
    have hst : sumW W (j + 1) = sumW W j + W j := rfl
    have i0 : (0 : Int) ≤ (j : Int) := by omega
    have i1 : (j : Int) < (L : Int) := by omega
    by_cases c : j < i
    · have hm2 := sumW_le h.2 (show j + 1 ≤ i by omega) (show i ≤ L by omega)
      have hp1 := hp.out.1
      obtain ⟨X, hX⟩ : ∃ X, x0 - sumW W j = X := ⟨_, rfl⟩
      obtain ⟨Y, hY⟩ : ∃ Y, W j = Y := ⟨_, rfl⟩
      have HN : Hid (x0 - sumW W (j + 1) = X - Y) := by show x0 - sumW W (j + 1) = X - Y; omega
      have hXY : Y ≤ X := by omega
      have hX1 : X ≤ 18446744073709551615 := by omega
      rw [hX]
      rw [hY] at hc hw
      clear hX hY hst hm hm2 hn hp1 h
      go_wp2
      go_round
      case rel => exact ⟨j + 1, by omega, by go_num, by rw [HN.out]⟩
      case measure => simp [intOf]; omega
    · obtain rfl : j = i := by omega
      have hp1 := hp.out.1
      have hp2 := hp.out.2
      obtain ⟨X, hX⟩ : ∃ X, x0 - sumW W j = X := ⟨_, rfl⟩
      obtain ⟨Y, hY⟩ : ∃ Y, W j = Y := ⟨_, rfl⟩
      have hXY : X < Y := by omega
      rw [hX]
      rw [hY] at hc hw
      clear hX hY hst hm hn hp1 hp2 h hp
      go_wp2
      go_ret
      exact ⟨rfl, rfl⟩
end Go.Proofs.Ytllhbggipbefmac
