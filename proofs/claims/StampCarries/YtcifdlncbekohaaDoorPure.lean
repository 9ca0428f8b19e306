import Derived.Test.YtcifdlncbekohaaDoorRows
import Derived.WalkKit
import Derived.ProofKit
import Derived.OpenShut
import Derived.Below
import Derived.Laws.BitsAllLaws
namespace Go.Proofs.YtcifdlncbekohaaDoor
open Go.ChangeShapes Go.WideShapes Go.ChangeAt Go.RowKit

def p7 (k : Nat) : Int := 2 ^ (7 * k)

def rdGo (B : Nat → Int) (L : Nat) : Nat → Nat → Nat → Int → Int × Nat × Int
  | 0, _, a, _ => (0, a, 12)
  | f + 1, k, a, n =>
    if L ≤ a then (0, a, 11)
    else if (k = 9 ∧ 1 < B a) ∨ (0 < k ∧ B a = 0) then (0, a, 12)
    else if B a < 128 then (n + p7 k * (B a % 128), a + 1, 0)
    else rdGo B L f (k + 1) (a + 1) (n + p7 k * (B a % 128))
def rdNum (B : Nat → Int) (L a : Nat) : Int × Nat × Int := rdGo B L 10 0 a 0
def rdSt (B : Nat → Int) (L a : Nat) (e : Int) : Int × Nat × Int := if e = 0 then rdNum B L a else (0, a, e)

theorem rd_short {B : Nat → Int} {L f k a : Nat} {n : Int} (h : L ≤ a) : rdGo B L (f + 1) k a n = (0, a, 11) := by simp [rdGo, h]
theorem rd_form {B : Nat → Int} {L f k a : Nat} {n : Int} (h : ¬ L ≤ a) (h2 : (k = 9 ∧ 1 < B a) ∨ (0 < k ∧ B a = 0)) : rdGo B L (f + 1) k a n = (0, a, 12) := by rw [rdGo, if_neg h, if_pos h2]
theorem rd_last {B : Nat → Int} {L f k a : Nat} {n : Int} (h : ¬ L ≤ a) (h2 : ¬ ((k = 9 ∧ 1 < B a) ∨ (0 < k ∧ B a = 0))) (h3 : B a < 128) : rdGo B L (f + 1) k a n = (n + p7 k * (B a % 128), a + 1, 0) := by rw [rdGo, if_neg h, if_neg h2, if_pos h3]
theorem rd_more {B : Nat → Int} {L f k a : Nat} {n : Int} (h : ¬ L ≤ a) (h2 : ¬ ((k = 9 ∧ 1 < B a) ∨ (0 < k ∧ B a = 0))) (h3 : ¬ B a < 128) : rdGo B L (f + 1) k a n = rdGo B L f (k + 1) (a + 1) (n + p7 k * (B a % 128)) := by rw [rdGo, if_neg h, if_neg h2, if_neg h3]

theorem p7_pos (k : Nat) : 0 < p7 k := by unfold p7; exact Int.pow_pos (by omega)
theorem p7_succ (k : Nat) : p7 (k + 1) = 128 * p7 k := by
  unfold p7
  rw [show 7 * (k + 1) = 7 * k + 7 by omega, Int.pow_add]
  omega
theorem p7_nat (k : Nat) : p7 k = ((2 ^ (7 * k) : Nat) : Int) := by unfold p7; simp
theorem p7_0 : p7 0 = 1 := rfl
theorem p7_9 : p7 9 = 9223372036854775808 := by decide
theorem p7_le {k : Nat} (h : k ≤ 8) : p7 k ≤ 72057594037927936 := by
  have : ∀ j, j ≤ 8 → p7 j ≤ 72057594037927936 := by decide
  exact this k h

/-- one step's sum stays below the next power -/
theorem acc_lt {k : Nat} {n c : Int} (h0 : 0 ≤ n) (h1 : n < p7 k) (hc : 0 ≤ c ∧ c < 128) : 0 ≤ n + p7 k * c ∧ n + p7 k * c < p7 (k + 1) := by
  have hp := p7_pos k
  rw [p7_succ]
  have h2 : 0 ≤ p7 k * c := Int.mul_nonneg (by omega) hc.1
  have h3 : p7 k * c ≤ p7 k * 127 := Int.mul_le_mul_of_nonneg_left (by omega) (by omega)
  omega

theorem acc_u64 {k : Nat} {n c : Int} (hk : k ≤ 9) (h0 : 0 ≤ n) (h1 : n < p7 k) (hc : 0 ≤ c ∧ c < 128) (h9 : k = 9 → c ≤ 1) : n + p7 k * c ≤ 18446744073709551615 ∧ p7 k * c ≤ 18446744073709551615 := by
  have hp := p7_pos k
  have h2 : 0 ≤ p7 k * c := Int.mul_nonneg (by omega) hc.1
  rcases Nat.lt_or_ge k 9 with h | h
  · have h3 : p7 k * c ≤ p7 k * 127 := Int.mul_le_mul_of_nonneg_left (by omega) (by omega)
    have := p7_le (k := k) (by omega)
    omega
  · obtain rfl : k = 9 := by omega
    rw [p7_9] at *
    have := h9 rfl
    omega

theorem or_add {k : Nat} {n c : Int} (hk : k ≤ 9) (h0 : 0 ≤ n) (h1 : n < p7 k) (hc : 0 ≤ c ∧ c < 128) (h9 : k = 9 → c ≤ 1) : bits .or .u64 n (p7 k * c) = n + p7 k * c := by
  have hp := p7_pos k
  have hb := acc_u64 hk h0 h1 hc h9
  have h2 : 0 ≤ p7 k * c := Int.mul_nonneg (by omega) hc.1
  rw [u64_or n (p7 k * c) h0 (by omega) h2 (by omega)]
  have e1 : (p7 k * c).toNat = 2 ^ (7 * k) * c.toNat := by
    have : p7 k * c = ((2 ^ (7 * k) * c.toNat : Nat) : Int) := by
      rw [p7_nat]
      rw [Int.natCast_mul, show ((c.toNat : Nat) : Int) = c by omega]
    rw [this]
    exact Int.toNat_natCast _
  have e2 : n.toNat ||| (p7 k * c).toNat = n.toNat + (p7 k * c).toNat := by
    rw [Nat.or_comm, nat_join (7 * k) _ _ (by rw [e1]; exact Nat.mul_mod_right _ _) (by have := p7_nat k; omega)]
    omega
  rw [e2]
  omega
theorem mask127 {c : Int} (h₀ : 0 ≤ c) (h₁ : c ≤ 255) : bits .and .u8 c 127 = c % 128 := bits_mask .u8 8 (by decide) wraps_u8 7 (by decide) c h₀ (by omega)
theorem or_step {k : Nat} {n c : Int} (hk : k ≤ 9) (h0 : 0 ≤ n) (h1 : n < p7 k) (hc : 0 ≤ c ∧ c ≤ 255) (h9 : k = 9 → c ≤ 1) : bits .or .u64 n (IntKind.u64.wrap (c % 128 * 2 ^ (7 * k))) = n + p7 k * (c % 128) := by
  have hb := acc_u64 hk h0 h1 (c := c % 128) (by omega) (fun e => by have := h9 e; omega)
  have hp := p7_pos k
  have h2 : 0 ≤ p7 k * (c % 128) := Int.mul_nonneg (by omega) (by omega)
  have e1 : c % 128 * 2 ^ (7 * k) = p7 k * (c % 128) := by rw [Int.mul_comm]; rfl
  rw [e1, IntWalk.u64_in _ ⟨by omega, by omega⟩]
  exact or_add hk h0 h1 (by omega) (fun e => by have := h9 e; omega)
theorem or_step9 {n c : Int} (h0 : 0 ≤ n) (h1 : n < p7 9) (hc : 0 ≤ c ∧ c ≤ 1) : bits .or .u64 n (c % 128 * 9223372036854775808) = n + p7 9 * (c % 128) := by
  have := or_add (k := 9) (by omega) h0 h1 (c := c % 128) (by omega) (by omega)
  rw [p7_9] at *
  rw [Int.mul_comm]
  exact this
theorem not_i64 {m : Int} (h0 : 0 ≤ m) (h1 : m ≤ 9223372036854775807) : bits .xor .i64 (-1) m = -m - 1 := by
  obtain ⟨n, rfl⟩ := Int.eq_ofNat_of_zero_le h0
  show IntKind.i64.wrap ((BitVec.ofInt 64 (-1) ^^^ BitVec.ofInt 64 (n : Int)).toNat : Int) = _
  have e1 : BitVec.ofInt 64 (-1) = BitVec.allOnes 64 := by decide
  rw [e1, BitVec.allOnes_xor, BitVec.toNat_not, ofInt_u64 n (by omega), IntKind.wrap_i64]
  omega
theorem not_u64 {m : Int} (h0 : 0 ≤ m) (h1 : m ≤ 18446744073709551615) : bits .xor .u64 (-1) m = 18446744073709551615 - m := by
  obtain ⟨n, rfl⟩ := Int.eq_ofNat_of_zero_le h0
  show IntKind.u64.wrap ((BitVec.ofInt 64 (-1) ^^^ BitVec.ofInt 64 (n : Int)).toNat : Int) = _
  have e1 : BitVec.ofInt 64 (-1) = BitVec.allOnes 64 := by decide
  rw [e1, BitVec.allOnes_xor, BitVec.toNat_not, ofInt_u64 n (by omega), IntKind.wrap_u64]
  omega
def unz (n : Int) : Int := if n % 2 = 0 then n / 2 else -(n / 2) - 1

theorem rdGo_ok (B : Nat → Int) (L : Nat) (bB : ∀ i, i < L → 0 ≤ B i ∧ B i ≤ 255) : ∀ (f k a : Nat) (n : Int), k + f = 10 → 0 ≤ n → n < p7 k → a ≤ L →
    (0 ≤ (rdGo B L f k a n).1 ∧ (rdGo B L f k a n).1 ≤ 18446744073709551615) ∧ (rdGo B L f k a n).2.1 ≤ L ∧ ((rdGo B L f k a n).2.2 = 0 ∨ (rdGo B L f k a n).2.2 = 11 ∨ (rdGo B L f k a n).2.2 = 12) ∧ ((rdGo B L f k a n).2.2 ≠ 0 → (rdGo B L f k a n).1 = 0)
  | 0, k, a, n, _, _, _, ha => by simp [rdGo]; omega
  | f + 1, k, a, n, hkf, h0, h1, ha => by
    by_cases c1 : L ≤ a
    · rw [rd_short c1]; simp; omega
    · have bb := bB a (by omega)
      by_cases c2 : (k = 9 ∧ 1 < B a) ∨ (0 < k ∧ B a = 0)
      · rw [rd_form c1 c2]; simp; omega
      · by_cases c3 : B a < 128
        · rw [rd_last c1 c2 c3]
          have := acc_u64 (k := k) (n := n) (c := B a % 128) (by omega) h0 h1 (by omega) (by omega)
          have := acc_lt (k := k) (n := n) (c := B a % 128) h0 h1 (by omega)
          simp
          omega
        · rw [rd_more c1 c2 c3]
          have := acc_lt (k := k) (n := n) (c := B a % 128) h0 h1 (by omega)
          exact rdGo_ok B L bB f (k + 1) (a + 1) _ (by omega) this.1 this.2 (by omega)

theorem rdNum_ok {B : Nat → Int} {L a : Nat} (bB : ∀ i, i < L → 0 ≤ B i ∧ B i ≤ 255) (ha : a ≤ L) :
    (0 ≤ (rdNum B L a).1 ∧ (rdNum B L a).1 ≤ 18446744073709551615) ∧ (rdNum B L a).2.1 ≤ L ∧ ((rdNum B L a).2.2 = 0 ∨ (rdNum B L a).2.2 = 11 ∨ (rdNum B L a).2.2 = 12) ∧ ((rdNum B L a).2.2 ≠ 0 → (rdNum B L a).1 = 0) :=
  rdGo_ok B L bB 10 0 a 0 rfl (by omega) (by decide) ha

theorem rdSt_ok {B : Nat → Int} {L a : Nat} {e : Int} (bB : ∀ i, i < L → 0 ≤ B i ∧ B i ≤ 255) (ha : a ≤ L) (he : e = 0 ∨ e = 11 ∨ e = 12) :
    (0 ≤ (rdSt B L a e).1 ∧ (rdSt B L a e).1 ≤ 18446744073709551615) ∧ (rdSt B L a e).2.1 ≤ L ∧ ((rdSt B L a e).2.2 = 0 ∨ (rdSt B L a e).2.2 = 11 ∨ (rdSt B L a e).2.2 = 12) ∧ ((rdSt B L a e).2.2 ≠ 0 → (rdSt B L a e).1 = 0) := by
  unfold rdSt
  split
  · exact rdNum_ok bB ha
  · simp
    omega
end Go.Proofs.YtcifdlncbekohaaDoor
