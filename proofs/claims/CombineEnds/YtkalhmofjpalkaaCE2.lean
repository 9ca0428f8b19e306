import Derived.Test.YtkalhmofjpalkaaCE
import Derived.Test.YtkalhmofjpalkaaCJ
namespace Go.Proofs.Ytkalhmofjpalkaa
open Go.ChangeShapes Go.WideShapes Go.ChangeAt Go.RowKit
set_option linter.unusedVariables false
set_option linter.unusedSimpArgs false

def cntN (p : Nat → Bool) : Nat → Nat
  | 0 => 0
  | m + 1 => cntN p m + (if p m = true then 1 else 0)
theorem cnt_le (p : Nat → Bool) : ∀ m, cntN p m ≤ m
  | 0 => Nat.le_refl _
  | m + 1 => by
    have := cnt_le p m
    show cntN p m + _ ≤ _
    split <;> omega
theorem cnt_mono (p q : Nat → Bool) : ∀ m, (∀ x, x < m → p x = true → q x = true) → cntN p m ≤ cntN q m
  | 0, _ => Nat.le_refl _
  | m + 1, h => by
    have h1 := cnt_mono p q m fun x hx => h x (by omega)
    have h2 := h m (by omega)
    show cntN p m + _ ≤ cntN q m + _
    by_cases e : p m = true
    · rw [if_pos e, if_pos (h2 e)]; omega
    · rw [if_neg e]; omega
theorem cnt_lt (p q : Nat → Bool) (w : Nat) : ∀ m, w < m → (∀ x, x < m → p x = true → q x = true) → q w = true → ¬ p w = true → cntN p m + 1 ≤ cntN q m
  | 0, h, _, _, _ => by omega
  | m + 1, hw, h, hq, hp => by
    show cntN p m + _ + 1 ≤ cntN q m + _
    by_cases e : w = m
    · subst e
      have h1 := cnt_mono p q w fun x hx => h x (by omega)
      rw [if_neg hp, if_pos hq]
      omega
    · have h1 := cnt_lt p q w m (by omega) (fun x hx => h x (by omega)) hq hp
      have h2 := h m (by omega)
      by_cases e : p m = true
      · rw [if_pos e, if_pos (h2 e)]; omega
      · rw [if_neg e]; omega
theorem cnt_zero (p : Nat → Bool) : ∀ m, cntN p m = 0 → ∀ x, x < m → ¬ p x = true
  | 0, _, x, hx => by omega
  | m + 1, h, x, hx => by
    have h' : cntN p m + (if p m = true then 1 else 0) = 0 := h
    by_cases e : p m = true
    · rw [if_pos e] at h'; omega
    · by_cases ex : x = m
      · subst ex; exact e
      · exact cnt_zero p m (by omega) x (by omega)
theorem cnt_none (p : Nat → Bool) : ∀ m, (∀ x, x < m → ¬ p x = true) → cntN p m = 0
  | 0, _ => rfl
  | m + 1, h => by
    show cntN p m + _ = 0
    rw [cnt_none p m fun x hx => h x (by omega), if_neg (h m (by omega))]
/-- who has waited long, and is inside -/
def lngN (n k : Nat) (N : Nt) (idle : Nat → Nat) (t x : Nat) : Bool := decide (N.pl x ≠ 0) && decide (k + t ≤ idle x + n)
def Sch (n k : Nat) (N : Nt) (idle : Nat → Nat) : Prop := ∀ t, t ≤ n → cntN (lngN n k N idle t) n ≤ n - t
theorem Sch.idle {n k : Nat} {N : Nt} {idle : Nat → Nat} (h : Sch n k N idle) : ∀ x, x < n → N.pl x ≠ 0 → idle x + 1 ≤ k := fun x hx hp => by
  have h1 := h n (Nat.le_refl _)
  have h2 := cnt_zero (lngN n k N idle n) n (by omega) x hx
  by_cases e : k ≤ idle x
  · exact absurd (by unfold lngN; simp [hp]; omega) h2
  · omega
theorem Sch.start {n k : Nat} {N : Nt} (hk : n ≤ k) : Sch n k N (fun _ => 0) := fun t ht => by
  by_cases e : t = 0
  · subst e
    exact cnt_le _ _
  · rw [cnt_none _ n fun x hx => by unfold lngN; simp; omega]
    omega
theorem Sch.step {n k : Nat} {N N' : Nt} {idle : Nat → Nat} (h : Sch n k N idle) (hk : n ≤ k) (w : Nat) (hw : w < n) (hp : N.pl w ≠ 0) (hbest : ∀ x, x < n → N.pl x ≠ 0 → k ≤ idle x + n → idle x ≤ idle w) (hN : ∀ x, x ≠ w → N'.pl x = N.pl x) : Sch n k N' (nextI idle w) := fun t ht => by
  by_cases e : t = 0
  · subst e
    exact cnt_le _ _
  · obtain ⟨s, rfl⟩ : ∃ s, t = s + 1 := ⟨t - 1, by omega⟩
    have h1 := h s (by omega)
    have sub : ∀ x, x < n → lngN n k N' (nextI idle w) (s + 1) x = true → lngN n k N idle s x = true := fun x hx hl => by
      unfold lngN nextI at hl
      unfold lngN
      by_cases e : x = w
      · subst e
        simp at hl
        omega
      · rw [hN x e, if_neg e] at hl
        simp at hl ⊢
        exact ⟨hl.1, by omega⟩
    have hnw : ¬ lngN n k N' (nextI idle w) (s + 1) w = true := by
      unfold lngN nextI
      simp
      omega
    by_cases hx : ∃ x, x < n ∧ lngN n k N idle s x = true
    · obtain ⟨x, hxn, hxl⟩ := hx
      have hwl : lngN n k N idle s w = true := by
        unfold lngN at hxl ⊢
        simp at hxl ⊢
        have := hbest x hxn hxl.1 (by omega)
        exact ⟨hp, by omega⟩
      have := cnt_lt _ _ w n hw sub hwl hnw
      omega
    · have : cntN (lngN n k N' (nextI idle w) (s + 1)) n = 0 := cnt_none _ n fun x hxn hl => hx ⟨x, hxn, sub x hxn hl⟩
      omega
theorem step_pl (J : Int → Int → Int) (n : Nat) (N : Nt) (w x : Nat) (h : x ≠ w) : (stepN J n N w).pl x = N.pl x := by
  unfold stepN hearN hearPN riseN leaveN
  repeat' split
  all_goals first | rfl | exact upF_ne _ _ h
def sumJ (a b : Int) : Int := wrap64 (a + b)
theorem sum_all : ∀ n, n < 65 → 1 ≤ n → JT sumJ n (fun w => (w : Int)) 0 = (n : Int) * ((n : Int) - 1) / 2 := by decide +kernel
end Go.Proofs.Ytkalhmofjpalkaa
