import Derived.Test.YtomjnncgogkglaaChecked
import Derived.WalkKit
import Derived.Laws.FloatArith
namespace Go.Proofs.Ytomjnncgogkglaa
set_option linter.unusedVariables false

/-! ### a quotient of two whole numbers is a number -/
theorem rung_nn {r : Nat} (h : r ≤ Ieee.double.infRung) : (∃ m p, Ieee.double.read r = .number false m p ∧ (0 < r → 0 < m)) ∨ (r = Ieee.double.infRung ∧ Ieee.double.read r = .infinity false) := by
  have e1 : Ieee.double.infRung = 9218868437227405312 := by decide
  have e2 : Ieee.double.signWeight = 9223372036854775808 := by decide
  have e3 : Ieee.double.binade = 4503599627370496 := by decide
  rw [e1] at h
  have hm : r % 9223372036854775808 = r := Nat.mod_eq_of_lt (by omega)
  have hd : r / 9223372036854775808 % 2 = 0 := by omega
  unfold Ieee.Format.read
  simp only [e1, e2, e3, hm, hd]
  by_cases h1 : r < 4503599627370496
  · exact .inl ⟨_, _, by rw [if_pos h1]; rfl, fun h => h⟩
  · by_cases h2 : r < 9218868437227405312
    · exact .inl ⟨_, _, by rw [if_neg h1, if_pos h2]; rfl, fun _ => by omega⟩
    · exact .inr ⟨by omega, by rw [if_neg h1, if_neg h2, if_pos (by omega)]; rfl⟩
theorem word_f (f : Ieee.Format) (r : Nat) : f.word false r = r := by
  unfold Ieee.Format.word
  rw [if_neg (by decide)]
theorem near_leF (f : Ieee.Format) (m : Nat) (p : Int) : f.nearest false m p ≤ f.infRung := by
  unfold Ieee.Format.nearest
  by_cases h : m = 0
  · rw [if_pos h, word_f]; exact Nat.zero_le _
  · rw [if_neg h]
    simp only [word_f]
    exact Nat.min_le_right _ _
theorem near_le (m : Nat) (p : Int) : Ieee.double.nearest false m p ≤ Ieee.double.infRung := near_leF _ m p
theorem cut0 (n : Nat) : Ieee.Toward.even.cut false n 0 = n := by
  unfold Ieee.Toward.cut
  simp
  constructor <;> omega
theorem near_eqF (f : Ieee.Format) {n k : Nat} (h0 : n ≠ 0) (hk : n.log2 = k) (h1 : k ≤ f.fractionBits) (h2 : f.leastPlace ≤ (k : Int) - f.fractionBits) : f.nearest false n 0 = min (((k : Int) - f.fractionBits - f.leastPlace).toNat * f.binade + n * 2 ^ (f.fractionBits - k)) f.infRung := by
  unfold Ieee.Format.nearest
  rw [if_neg h0]
  simp only [word_f, hk]
  have e : max ((0 : Int) + (k : Int) - (f.fractionBits : Int)) f.leastPlace = (k : Int) - f.fractionBits := by omega
  rw [e]
  have e2 : ((0 : Int) - ((k : Int) - f.fractionBits)).toNat = f.fractionBits - k := by omega
  have e3 : ((k : Int) - f.fractionBits - 0).toNat = 0 := by omega
  rw [e2, e3, cut0, Nat.shiftLeft_eq]
theorem near_mid {n : Nat} (h0 : 0 < n) (h1 : n < 4503599627370496) : 0 < Ieee.double.nearest false n 0 ∧ Ieee.double.nearest false n 0 < Ieee.double.infRung := by
  have e1 : Ieee.double.infRung = 9218868437227405312 := by decide
  have e3 : Ieee.double.binade = 4503599627370496 := by decide
  have e4 : Ieee.double.leastPlace = -1074 := by decide
  have e5 : Ieee.double.fractionBits = 52 := rfl
  have hk : n.log2 < 52 := by
    rw [Nat.log2_lt (by omega)]
    exact h1
  have hl : n < 2 ^ (n.log2 + 1) := Nat.lt_log2_self
  rw [near_eqF Ieee.double (Nat.ne_of_gt h0) rfl (by rw [e5]; omega) (by rw [e4, e5]; omega)]
  rw [e1, e3, e4, e5]
  generalize n.log2 = k at hk hl
  have hp : n * 2 ^ (52 - k) < 2 ^ (k + 1) * 2 ^ (52 - k) := Nat.mul_lt_mul_of_pos_right hl (Nat.two_pow_pos _)
  rw [← Nat.pow_add, show k + 1 + (52 - k) = 53 by omega] at hp
  generalize n * 2 ^ (52 - k) = z at hp
  have e6 : ((k : Int) - (52 : Nat) - -1074).toNat = k + 1022 := by omega
  rw [e6]
  have : (2 : Nat) ^ 53 = 9007199254740992 := by decide
  omega
theorem div_some (a : Int) (ha : 0 ≤ a) (n : Nat) (h0 : 0 < n) (h1 : n < 4503599627370496) : ∃ r, floatBits .quo .f64 (FloatKind.f64.nearest a) (FloatKind.f64.nearest (n : Int)) = some r ∧ (Ieee.double.order r r == some .eq) = true := by
  have ea : FloatKind.f64.nearest a = Ieee.double.nearest false a.natAbs 0 := by
    unfold FloatKind.nearest FloatKind.encode Ieee.Format.write
    rw [decide_eq_false (by omega)]
    rfl
  have eb : FloatKind.f64.nearest (n : Int) = Ieee.double.nearest false n 0 := by
    unfold FloatKind.nearest FloatKind.encode Ieee.Format.write
    rw [decide_eq_false (by omega)]
    rfl
  rw [ea, eb]
  have hr1 := rung_nn (near_le a.natAbs 0)
  have hm := near_mid h0 h1
  have hr2 := rung_nn (near_le n 0)
  generalize Ieee.double.nearest false a.natAbs 0 = x at hr1
  generalize Ieee.double.nearest false n 0 = y at hm hr2
  obtain ⟨m2, p2, g1, g2⟩ : ∃ m p, Ieee.double.read y = .number false m p ∧ 0 < m := by
    rcases hr2 with ⟨m, p, q1, q2⟩ | ⟨q1, q2⟩
    · exact ⟨m, p, q1, q2 hm.1⟩
    · omega
  have key : ∀ d : Ieee.Datum, (∃ m p, d = .number false m p) ∨ d = .infinity false → (Ieee.double.order (Ieee.double.write d) (Ieee.double.write d) == some .eq) = true := by
    intro d hd
    have hle : Ieee.double.write d ≤ Ieee.double.infRung := by
      rcases hd with ⟨m, p, rfl⟩ | rfl
      · exact near_le m p
      · show Ieee.double.word false Ieee.double.infRung ≤ _
        rw [word_f]
        exact Nat.le_refl _
    unfold Ieee.Format.order
    rcases rung_nn hle with ⟨m, p, q1, q2⟩ | ⟨q1, q2⟩
    · rw [q1]; simp [Ieee.Datum.order]
    · rw [q2]; simp [Ieee.Datum.order]
  unfold floatBits
  simp only
  show ∃ r, Ieee.double.div x y = some r ∧ _
  unfold Ieee.Format.div
  rw [g1]
  rcases hr1 with ⟨m, p, q1, q2⟩ | ⟨q1, q2⟩
  · rw [q1]
    simp only [Ieee.Datum.quotient]
    rw [if_neg (by omega)]
    exact ⟨_, rfl, key _ (.inl ⟨_, _, rfl⟩)⟩
  · rw [q2]
    exact ⟨_, rfl, key _ (.inr rfl)⟩
end Go.Proofs.Ytomjnncgogkglaa
