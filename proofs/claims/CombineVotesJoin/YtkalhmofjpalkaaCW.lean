import Derived.Test.YtkalhmofjpalkaaC2
namespace Go.Proofs.Ytkalhmofjpalkaa
open Go.ChangeShapes Go.WideShapes Go.ChangeAt Go.RowKit
set_option linter.unusedVariables false
set_option linter.unusedSimpArgs false

/-! ### votes joined, plainly -/
theorem keyCmp_lt (t s q t' s' q' : Int) : keyCmp t s q t' s' q' < 0 ↔ (t < t' ∨ (t = t' ∧ (s < s' ∨ (s = s' ∧ q < q')))) := by
  unfold keyCmp orN cmpN
  by_cases h1 : t < t'
  · simp [h1]
  · by_cases h2 : t' < t
    · have : ¬ t = t' := by omega
      simp [h1, h2, this]
    · have e : t = t' := by omega
      subst e
      by_cases h3 : s < s'
      · simp [h3]
      · by_cases h4 : s' < s
        · have : ¬ s = s' := by omega
          simp [h3, h4, this]
        · have e : s = s' := by omega
          subst e
          by_cases h5 : q < q'
          · simp [h5]
          · by_cases h6 : q' < q
            · have h7 : ¬ q < q' := by omega
              simp [h5, h6]
            · have e : q = q' := by omega
              subst e
              simp
/-- a failing key with its code -/
structure Fk where
  t : Int
  s : Int
  q : Int
  c : Int
def fkLt (a b : Fk) : Prop := a.t < b.t ∨ (a.t = b.t ∧ (a.s < b.s ∨ (a.s = b.s ∧ a.q < b.q)))
instance (a b : Fk) : Decidable (fkLt a b) := by unfold fkLt; exact inferInstance
def Vt.fk (v : Vt) : Fk := ⟨v.t, v.s, v.q, v.co⟩
def pickF (af bf : Bool) (a b : Fk) : Fk := if af && !(bf && decide (fkLt b a)) then a else if bf then b else ⟨0, 0, 0, 0⟩
theorem leastV_eq (a b : Vt) : leastV a b = ⟨lowP a.an b.an a.lo b.lo, a.an || b.an, a.ba || b.ba, a.fa || b.fa, (pickF a.fa b.fa a.fk b.fk).t, (pickF a.fa b.fa a.fk b.fk).s, (pickF a.fa b.fa a.fk b.fk).q, (pickF a.fa b.fa a.fk b.fk).c, wrap64 (a.ct + b.ct)⟩ := by
  have h : aheadP a.fa b.fa (keyCmp b.t b.s b.q a.t a.s a.q) = (a.fa && !(b.fa && decide (fkLt b.fk a.fk))) := by
    unfold aheadP
    have : decide (keyCmp b.t b.s b.q a.t a.s a.q < 0) = decide (fkLt b.fk a.fk) := decide_eq_decide.2 (keyCmp_lt _ _ _ _ _ _)
    rw [this]
  unfold leastV
  rw [h]
  unfold pickF
  cases hc : (a.fa && !(b.fa && decide (fkLt b.fk a.fk)))
  · cases hb : b.fa <;> simp [Vt.fk]
  · simp [Vt.fk]
theorem fk_of (lo : Int) (an ba fa : Bool) (k : Fk) (ct : Int) : (Vt.mk lo an ba fa k.t k.s k.q k.c ct).fk = k := rfl
theorem pick_assoc (af bf cf : Bool) (a b c : Fk) : pickF (af || bf) cf (pickF af bf a b) c = pickF af (bf || cf) a (pickF bf cf b c) := by
  have tr : ∀ x y z : Fk, fkLt x y → fkLt y z → fkLt x z := fun x y z h1 h2 => by unfold fkLt at *; omega
  have ng : ∀ x y z : Fk, ¬ fkLt x y → ¬ fkLt y z → ¬ fkLt x z := fun x y z h1 h2 => by unfold fkLt at *; omega
  cases af <;> cases bf <;> cases cf <;> simp [pickF]
  by_cases h1 : fkLt b a <;> by_cases h2 : fkLt c b <;> by_cases h3 : fkLt c a <;> simp [h1, h2, h3]
  · exact absurd (tr _ _ _ h2 h1) h3
  · exact absurd h3 (ng _ _ _ h2 h1)
theorem low_assoc (an bn cn : Bool) (a b c : Int) : lowP (an || bn) cn (lowP an bn a b) c = lowP an (bn || cn) a (lowP bn cn b c) := by
  cases an <;> cases bn <;> cases cn <;> simp [lowP]
  all_goals (by_cases h1 : b < a <;> by_cases h2 : c < b <;> by_cases h3 : c < a <;> simp [h1, h2, h3] <;> omega)
theorem w64_assoc (a b c : Int) : wrap64 (wrap64 (a + b) + c) = wrap64 (a + wrap64 (b + c)) := by
  unfold wrap64
  omega
theorem least_assoc (a b c : Vt) : leastV (leastV a b) c = leastV a (leastV b c) := by
  rw [leastV_eq a b, leastV_eq b c, leastV_eq, leastV_eq]
  simp only [fk_of, low_assoc, pick_assoc, Bool.or_assoc, w64_assoc]
def z0 : Vt := ⟨0, false, false, false, 0, 0, 0, 0, 0⟩
theorem pick_nil (af : Bool) (a : Fk) : pickF af false a ⟨0, 0, 0, 0⟩ = if af then a else ⟨0, 0, 0, 0⟩ := by cases af <;> simp [pickF]
theorem nil_pick (af : Bool) (a : Fk) : pickF false af ⟨0, 0, 0, 0⟩ a = if af then a else ⟨0, 0, 0, 0⟩ := by cases af <;> simp [pickF]
theorem z0_fk : z0.fk = ⟨0, 0, 0, 0⟩ := rfl
/-- a vote cleaned -/
def clnV (a : Vt) : Vt := ⟨if a.an then a.lo else 0, a.an, a.ba, a.fa, if a.fa then a.t else 0, if a.fa then a.s else 0, if a.fa then a.q else 0, if a.fa then a.co else 0, a.ct⟩
theorem w64_id {x : Int} (h1 : -9223372036854775808 ≤ x) (h2 : x ≤ 9223372036854775807) : wrap64 x = x := by unfold wrap64; omega
theorem least_r0 (a : Vt) (h1 : -9223372036854775808 ≤ a.ct) (h2 : a.ct ≤ 9223372036854775807) : leastV a z0 = clnV a := by
  rw [leastV_eq, z0_fk]
  have e1 : z0.fa = false := rfl
  have e2 : z0.an = false := rfl
  have e3 : z0.ba = false := rfl
  have e4 : z0.ct = 0 := rfl
  have e5 : z0.lo = 0 := rfl
  rw [e1, e2, e3, e4, e5, pick_nil, Int.add_zero, w64_id h1 h2]
  obtain ⟨lo, an, ba, fa, t, s, q, co, ct⟩ := a
  cases an <;> cases fa <;> simp [lowP, clnV, Vt.fk]
theorem least_l0 (a : Vt) (h1 : -9223372036854775808 ≤ a.ct) (h2 : a.ct ≤ 9223372036854775807) : leastV z0 a = clnV a := by
  rw [leastV_eq, z0_fk]
  have e1 : z0.fa = false := rfl
  have e2 : z0.an = false := rfl
  have e3 : z0.ba = false := rfl
  have e4 : z0.ct = 0 := rfl
  have e5 : z0.lo = 0 := rfl
  rw [e1, e2, e3, e4, e5, nil_pick, Int.zero_add, w64_id h1 h2]
  obtain ⟨lo, an, ba, fa, t, s, q, co, ct⟩ := a
  cases an <;> cases fa <;> simp [lowP, clnV, Vt.fk]
theorem cln_cln (a : Vt) : clnV (clnV a) = clnV a := by
  obtain ⟨lo, an, ba, fa, t, s, q, co, ct⟩ := a
  cases an <;> cases fa <;> simp [clnV]
theorem keyCmp_gt (t s q t' s' q' : Int) : 0 < keyCmp t s q t' s' q' ↔ (t' < t ∨ (t = t' ∧ (s' < s ∨ (s = s' ∧ q' < q)))) := by
  unfold keyCmp orN cmpN
  by_cases h1 : t < t'
  · have : ¬ t = t' := by omega
    have h2 : ¬ t' < t := by omega
    simp [h1, this, h2]
  · by_cases h2 : t' < t
    · simp [h1, h2]
    · have e : t = t' := by omega
      subst e
      by_cases h3 : s < s'
      · have : ¬ s = s' := by omega
        have h4 : ¬ s' < s := by omega
        simp [h3, this, h4]
      · by_cases h4 : s' < s
        · simp [h3, h4]
        · have e : s = s' := by omega
          subst e
          by_cases h5 : q < q'
          · have h6 : ¬ q' < q := by omega
            simp [h5, h6]
          · by_cases h6 : q' < q
            · simp [h5, h6]
            · have e : q = q' := by omega
              subst e
              simp
theorem pick_a (bf : Bool) (a b : Fk) : ¬ fkLt a (pickF true bf a b) := by
  have ir : ¬ fkLt a a := by unfold fkLt; omega
  cases bf
  · simp [pickF, ir]
  · by_cases h : fkLt b a
    · simp [pickF, h]
      intro h2
      exact ir (by unfold fkLt at *; omega)
    · simp [pickF, h, ir]
theorem pick_b (af : Bool) (a b : Fk) : ¬ fkLt b (pickF af true a b) := by
  have ir : ¬ fkLt b b := by unfold fkLt; omega
  cases af
  · simp [pickF, ir]
  · by_cases h : fkLt b a
    · simp [pickF, h, ir]
    · simp [pickF, h]
/-- the failing key of two votes is no greater than either's -/
theorem least_key {a b p : Vt} (h : leastV a b = p) : (a.fa = true → decide (0 < keyCmp p.t p.s p.q a.t a.s a.q) = false) ∧ (b.fa = true → decide (0 < keyCmp p.t p.s p.q b.t b.s b.q) = false) := by
  rw [leastV_eq] at h
  have hk : p.fk = pickF a.fa b.fa a.fk b.fk := by rw [← h]; rfl
  have sw : ∀ x y : Fk, (0 < keyCmp x.t x.s x.q y.t y.s y.q) ↔ fkLt y x := fun x y => by
    rw [keyCmp_gt]
    unfold fkLt
    omega
  refine ⟨fun ha => ?_, fun hb => ?_⟩
  · have := pick_a b.fa a.fk b.fk
    rw [ha] at hk
    rw [← hk] at this
    exact decide_eq_false fun h9 => this ((sw p.fk a.fk).1 h9)
  · have := pick_b a.fa a.fk b.fk
    rw [hb] at hk
    rw [← hk] at this
    exact decide_eq_false fun h9 => this ((sw p.fk b.fk).1 h9)
end Go.Proofs.Ytkalhmofjpalkaa
