import Derived.Test.YtagchghhpggnlaaGreatZDBelow
import Derived.Lib.BitFns
import Derived.Lib.Mul64
namespace Go.Proofs.YtagchghhpggnlaaGreat
open Go.ChangeShapes Go.WideShapes Go.ChangeAt Go.RowKit

def dg : Nat → Nat → Nat → Nat
  | 0, _, f => f
  | k + 1, m, f => if 170141183460469231731687303715884105728 ≤ m * m then dg k (m * m / 18446744073709551616) (2 * f + 1) else dg k (m * m / 9223372036854775808) (2 * f)

def inM (m : Nat) : Prop := 9223372036854775808 ≤ m ∧ m < 18446744073709551616
theorem sq_lo {m : Nat} (h : inM m) : 85070591730234615865843651857942052864 ≤ m * m := Nat.mul_le_mul h.1 h.1
theorem sq_hi {m : Nat} (h : inM m) : m * m < 340282366920938463463374607431768211456 := Nat.mul_lt_mul_of_lt_of_lt h.2 h.2
theorem inM_one {m : Nat} (h : inM m) (c : 170141183460469231731687303715884105728 ≤ m * m) : inM (m * m / 18446744073709551616) := by
  have h1 := sq_hi h
  unfold inM
  omega
theorem inM_two {m : Nat} (h : inM m) (c : ¬ 170141183460469231731687303715884105728 ≤ m * m) : inM (m * m / 9223372036854775808) := by
  have h1 := sq_lo h
  unfold inM
  omega
theorem dg_one {k m f : Nat} (c : 170141183460469231731687303715884105728 ≤ m * m) : dg (k + 1) m f = dg k (m * m / 18446744073709551616) (2 * f + 1) := by rw [dg, if_pos c]
theorem dg_two {k m f : Nat} (c : ¬ 170141183460469231731687303715884105728 ≤ m * m) : dg (k + 1) m f = dg k (m * m / 9223372036854775808) (2 * f) := by rw [dg, if_neg c]
theorem dg_rng : ∀ k m f, f * 2 ^ k ≤ dg k m f ∧ dg k m f < (f + 1) * 2 ^ k := by
  intro k
  induction k with
  | zero => intro m f; simp [dg]
  | succ k ih =>
    intro m f
    by_cases c : 170141183460469231731687303715884105728 ≤ m * m
    · rw [dg_one c]
      have h := ih (m * m / 18446744073709551616) (2 * f + 1)
      have e1 : f * 2 ^ (k + 1) = 2 * f * 2 ^ k := by rw [Nat.pow_succ, Nat.mul_comm (2 ^ k) 2, ← Nat.mul_assoc, Nat.mul_comm f 2]
      have e2 : (f + 1) * 2 ^ (k + 1) = (2 * f + 1 + 1) * 2 ^ k := by rw [Nat.pow_succ, Nat.mul_comm (2 ^ k) 2, ← Nat.mul_assoc]; congr 1; omega
      have e3 : (2 * f + 1) * 2 ^ k = 2 * f * 2 ^ k + 2 ^ k := by rw [Nat.add_mul, Nat.one_mul]
      have hp := Nat.two_pow_pos k
      rw [e1, e2]
      generalize 2 ^ k = P at *
      omega
    · rw [dg_two c]
      have h := ih (m * m / 9223372036854775808) (2 * f)
      have e1 : f * 2 ^ (k + 1) = 2 * f * 2 ^ k := by rw [Nat.pow_succ, Nat.mul_comm (2 ^ k) 2, ← Nat.mul_assoc, Nat.mul_comm f 2]
      have e2 : (f + 1) * 2 ^ (k + 1) = (2 * f + 1) * 2 ^ k + 2 ^ k := by
        rw [Nat.pow_succ, Nat.mul_comm (2 ^ k) 2, ← Nat.mul_assoc, show (f + 1) * 2 = (2 * f + 1) + 1 by omega, Nat.add_mul (2 * f + 1), Nat.one_mul]
      have hp := Nat.two_pow_pos k
      rw [e1, e2]
      generalize 2 ^ k = P at *
      omega
theorem dg_mono : ∀ k m m' f f', (f < f' ∨ f = f' ∧ m ≤ m') → dg k m f ≤ dg k m' f' := by
  intro k
  induction k with
  | zero => intro m m' f f' h; simp only [dg]; omega
  | succ k ih =>
    intro m m' f f' h
    rcases h with h | ⟨rfl, h⟩
    · have h1 := dg_rng (k + 1) m f
      have h2 := dg_rng (k + 1) m' f'
      have h3 : (f + 1) * 2 ^ (k + 1) ≤ f' * 2 ^ (k + 1) := Nat.mul_le_mul_right _ h
      omega
    · have hm : m * m ≤ m' * m' := Nat.mul_le_mul h h
      by_cases c : 170141183460469231731687303715884105728 ≤ m * m
      · rw [dg_one c, dg_one (by omega)]
        exact ih _ _ _ _ (Or.inr ⟨rfl, Nat.div_le_div_right hm⟩)
      · rw [dg_two c]
        by_cases c' : 170141183460469231731687303715884105728 ≤ m' * m'
        · rw [dg_one c']
          exact ih _ _ _ _ (Or.inl (by omega))
        · rw [dg_two c']
          exact ih _ _ _ _ (Or.inr ⟨rfl, Nat.div_le_div_right hm⟩)

/-- e: the place of the highest bit of x -/
def atBit (x e : Nat) : Prop := 2 ^ e ≤ x ∧ x < 2 ^ (e + 1)
theorem atBit_u {x e e' : Nat} (h : atBit x e) (h' : atBit x e') : e = e' := by
  unfold atBit at *
  rcases Nat.lt_trichotomy e e' with l | l | l
  · have : 2 ^ (e + 1) ≤ 2 ^ e' := Nat.pow_le_pow_right (by omega) l
    omega
  · exact l
  · have : 2 ^ (e' + 1) ≤ 2 ^ e := Nat.pow_le_pow_right (by omega) l
    omega
theorem bitLenAux_at : ∀ f x, 0 < x → x < 2 ^ f → 0 < Lib.bitLenAux f x ∧ Lib.bitLenAux f x ≤ f ∧ atBit x (Lib.bitLenAux f x - 1) := by
  intro f
  induction f with
  | zero => intro x h1 h2; simp at h2; omega
  | succ f ih =>
    intro x h1 h2
    rw [Lib.bitLenAux, if_neg (by omega)]
    by_cases h : x / 2 = 0
    · have : Lib.bitLenAux f (x / 2) = 0 := by
        rw [h]
        cases f <;> simp [Lib.bitLenAux]
      rw [this]
      refine ⟨by omega, by omega, ?_⟩
      unfold atBit
      simp
      omega
    · obtain ⟨i1, i2, i3⟩ := ih (x / 2) (by omega) (by rw [Nat.pow_succ] at h2; omega)
      refine ⟨by omega, by omega, ?_⟩
      unfold atBit at *
      generalize Lib.bitLenAux f (x / 2) = b at *
      obtain ⟨c, rfl⟩ : ∃ c, b = c + 1 := ⟨b - 1, by omega⟩
      rw [show 1 + (c + 1) - 1 = c + 1 by omega, Nat.pow_succ 2 (c + 1)]
      rw [show c + 1 - 1 = c by omega] at i3
      rw [Nat.pow_succ] at *
      omega
theorem bitLen_at {x : Nat} (h0 : 0 < x) (h1 : x < 18446744073709551616) : 0 < Lib.bitLen x ∧ Lib.bitLen x ≤ 64 ∧ atBit x (Lib.bitLen x - 1) := bitLenAux_at 64 x h0 h1

def lg (x : Nat) : Nat := (Lib.bitLen x - 1) * 65536 + dg 16 (x * 2 ^ (64 - Lib.bitLen x)) 0
theorem top_in {x e : Nat} (he : e ≤ 63) (h : atBit x e) : inM (x * 2 ^ (63 - e)) := by
  unfold atBit at h
  unfold inM
  have e1 : 2 ^ e * 2 ^ (63 - e) = 9223372036854775808 := by rw [← Nat.pow_add, show e + (63 - e) = 63 by omega]
  have e2 : 2 ^ (e + 1) * 2 ^ (63 - e) = 18446744073709551616 := by rw [← Nat.pow_add, show e + 1 + (63 - e) = 64 by omega]
  have h1 := Nat.mul_le_mul_right (2 ^ (63 - e)) h.1
  have h2 := Nat.mul_lt_mul_of_pos_right h.2 (Nat.pow_pos (n := 63 - e) (show 0 < 2 by omega))
  omega
theorem lg_eq {x e : Nat} (h1 : x < 18446744073709551616) (h : atBit x e) : lg x = e * 65536 + dg 16 (x * 2 ^ (63 - e)) 0 ∧ e ≤ 63 := by
  have h0 : 0 < x := by have := h.1; have := Nat.pow_pos (n := e) (show 0 < 2 by omega); omega
  obtain ⟨b1, b2, b3⟩ := bitLen_at h0 h1
  have := atBit_u h b3
  unfold lg
  subst this
  rw [show 64 - Lib.bitLen x = 63 - (Lib.bitLen x - 1) by omega]
  exact ⟨rfl, by omega⟩
theorem dg16 (m : Nat) : dg 16 m 0 < 65536 := by have := (dg_rng 16 m 0).2; omega
theorem lg_lt {x : Nat} (h0 : 0 < x) (h1 : x < 18446744073709551616) : lg x < 4194304 := by
  obtain ⟨b1, b2, b3⟩ := bitLen_at h0 h1
  unfold lg
  have := dg16 (x * 2 ^ (64 - Lib.bitLen x))
  omega
theorem lg_mono {x y : Nat} (h0 : 0 < x) (h : x ≤ y) (h1 : y < 18446744073709551616) : lg x ≤ lg y := by
  obtain ⟨b1, b2, b3⟩ := bitLen_at h0 (by omega)
  obtain ⟨c1, c2, c3⟩ := bitLen_at (x := y) (by omega) h1
  unfold lg
  have d1 := dg16 (x * 2 ^ (64 - Lib.bitLen x))
  rcases Nat.lt_trichotomy (Lib.bitLen x) (Lib.bitLen y) with l | l | l
  · omega
  · rw [l]
    have := dg_mono 16 (x * 2 ^ (64 - Lib.bitLen y)) (y * 2 ^ (64 - Lib.bitLen y)) 0 0 (Or.inr ⟨rfl, Nat.mul_le_mul_right _ h⟩)
    omega
  · exfalso
    unfold atBit at *
    have : 2 ^ (Lib.bitLen y - 1 + 1) ≤ 2 ^ (Lib.bitLen x - 1) := Nat.pow_le_pow_right (by omega) (by omega)
    omega

/-- how far below 2^64, by halvings -/
def hv (x : Nat) : Nat := 4194304 - lg (max x 1)
theorem hv_mono {x y : Nat} (h : x ≤ y) (h1 : y < 18446744073709551616) : hv y ≤ hv x := by
  unfold hv
  have := lg_mono (x := max x 1) (y := max y 1) (by omega) (by omega) (by omega)
  omega
theorem hv_le (x : Nat) : hv x ≤ 4194304 := by unfold hv; omega
def wq (x mean : Nat) : Nat := mean * (hv x * 45426)
theorem wq_mono {x y m n : Nat} (h : x ≤ y) (h1 : y < 18446744073709551616) (hm : m ≤ n) : wq y m ≤ wq x n := Nat.mul_le_mul hm (Nat.mul_le_mul_right _ (hv_mono h h1))
end Go.Proofs.YtagchghhpggnlaaGreat
