import Derived.Test.YtkfjcbnhohipgaaMR1
import Derived.BigQuiet
import Derived.Deep.RegionLaw
import Derived.Deep.RegionHeld3
import Derived.Deep.Cut
import Derived.Deep.DeepCutAuto
import Derived.Deep.CutBlock
import Derived.Deep.CutRange
import Derived.Deep.AppendLies
import Derived.Handy
import Derived.Lib.RabinKarpLaws
namespace Go.Proofs.Ytkfjcbnhohipgaa
open Go.ChangeShapes Go.WideShapes Go.ChangeAt Go.RowKit
set_option linter.unusedVariables false
set_option linter.unusedSimpArgs false



section
variable (X : Nat → Nt) (N n Rn : Nat)
def canG (r s : Nat → Nat) (w : Nat) : Prop := r w < Rn ∧ (s w < onN X N w (r w) ∨ ((∀ i, i < n → fpN X N r s w ≤ fpN X N r s i) ∧ (s w = onN X N w (r w) → ∀ j, j < n → r w ≤ r j)))
def Adv (r s : Nat → Nat) (w : Nat) (r' s' : Nat → Nat) : Prop := (s w ≤ onN X N w (r w) ∧ r' = r ∧ s' = upN s w (s w + 1)) ∨ (s w = onN X N w (r w) + 1 ∧ r' = upN r w (r w + 1) ∧ s' = upN s w 0)
/-- what a turn of a worker comes to -/
def TurnR (r s : Nat → Nat) (w : Nat) (r' s' : Nat → Nat) : Prop := (r' = r ∧ s' = s ∧ ¬ canG X N n Rn r s w) ∨ (r w < Rn ∧ Adv X N r s w r' s')
def pgN (r s : Nat → Nat) (i : Nat) : Nat := sm (fun p => onN X N i p + 2) (r i) + s i
def MN (r s : Nat → Nat) : Nat := sm (pgN X N r s) n
end
theorem min_ex (f : Nat → Nat) : ∀ n, 1 ≤ n → ∃ w, w < n ∧ ∀ i, i < n → f w ≤ f i
  | 0, h => absurd h (by omega)
  | 1, _ => ⟨0, by omega, fun i hi => by rw [show i = 0 by omega]; exact Nat.le_refl _⟩
  | n + 2, _ => by
    obtain ⟨w, h1, h2⟩ := min_ex f (n + 1) (by omega)
    by_cases e : f w ≤ f (n + 1)
    · refine ⟨w, by omega, fun i hi => ?_⟩
      by_cases e2 : i = n + 1
      · rw [e2]; exact e
      · exact h2 i (by omega)
    · refine ⟨n + 1, by omega, fun i hi => ?_⟩
      by_cases e2 : i = n + 1
      · rw [e2]; exact Nat.le_refl _
      · have := h2 i (by omega); omega
theorem sm_add (f g : Nat → Nat) : ∀ n, sm (fun p => f p + g p) n = sm f n + sm g n
  | 0 => rfl
  | n + 1 => by
    have := sm_add f g n
    show sm (fun p => f p + g p) n + (f n + g n) = (sm f n + f n) + (sm g n + g n)
    omega
theorem sm_upd {f f' : Nat → Nat} {w : Nat} (h : ∀ i, i ≠ w → f' i = f i) (hw : f' w = f w + 1) : ∀ n, sm f' n = sm f n + if w < n then 1 else 0
  | 0 => rfl
  | n + 1 => by
    have ih := sm_upd h hw n
    show sm f' n + f' n = sm f n + f n + _
    by_cases e : n = w
    · subst e
      rw [ih, hw, if_neg (by omega), if_pos (by omega)]
      omega
    · rw [ih, h n e]
      by_cases e2 : w < n
      · rw [if_pos e2, if_pos (by omega)]; omega
      · rw [if_neg e2, if_neg (by omega)]; omega
theorem own_succ (X : Nat → Nt) (N p i : Nat) : ownN X (N + 1) p i = ownN X N p i ++ if ((X N).r == (p : Int)) && ((X N).f == (i : Int)) then [N] else [] := by
  unfold ownN
  rw [List.range_succ, List.filter_append]
  congr 1
  rw [List.filter_cons, List.filter_nil]
theorem on_succ (X : Nat → Nt) (N i p : Nat) : onN X (N + 1) i p = onN X N i p + if ((X N).r == (p : Int)) && ((X N).f == (i : Int)) then 1 else 0 := by
  unfold onN
  rw [own_succ, List.length_append]
  congr 1
  split <;> rfl
theorem ind_le (z : Int) (b : Bool) : ∀ R : Nat, sm (fun p => if (z == (p : Int)) && b then 1 else 0) R ≤ 1 ∧ ((R : Int) ≤ z → sm (fun p => if (z == (p : Int)) && b then 1 else 0) R = 0)
  | 0 => ⟨Nat.zero_le _, fun _ => rfl⟩
  | R + 1 => by
    obtain ⟨h1, h2⟩ := ind_le z b R
    show sm _ R + (if (z == (R : Int)) && b then 1 else 0) ≤ 1 ∧ (_ → sm _ R + (if (z == (R : Int)) && b then 1 else 0) = 0)
    by_cases e : z = (R : Int)
    · have h3 := h2 (by omega)
      refine ⟨?_, fun h9 => by omega⟩
      rw [h3]
      split <;> omega
    · have e2 : (z == (R : Int)) = false := by simpa using e
      rw [e2, Bool.false_and]
      exact ⟨h1, fun h9 => h2 (by omega)⟩
theorem sm_ext {f g : Nat → Nat} (h : ∀ p, f p = g p) (R : Nat) : sm f R = sm g R := by
  have : f = g := funext h
  rw [this]
theorem on_sum (X : Nat → Nt) (i R : Nat) : ∀ N, sm (fun p => onN X N i p) R ≤ N
  | 0 => by
    have : ∀ R, sm (fun p => onN X 0 i p) R = 0 := fun R => by
      induction R with
      | zero => rfl
      | succ R ih => show sm _ R + 0 = 0; rw [ih]
    rw [this]
    exact Nat.zero_le _
  | N + 1 => by
    have ih : sm (onN X N i) R ≤ N := on_sum X i R N
    rw [sm_ext (fun p => on_succ X N i p) R, sm_add]
    have := (ind_le (X N).r ((X N).f == (i : Int)) R).1
    omega
section
variable {X : Nat → Nt} {N n Rn : Nat} {r s r' s' : Nat → Nat} {ph : Nat → Int} {H : Nat → Nat → Nat → Hf}
theorem RS.go (h : RS X N n Rn r s ph H) (hn : 1 ≤ n) (hu : ∃ i, i < n ∧ r i < Rn) : ∃ w, w < n ∧ canG X N n Rn r s w := by
  obtain ⟨w, hw, hm⟩ := min_ex (fpN X N r s) n hn
  obtain ⟨u, hu1, hu2⟩ := hu
  have gw := fp_ge (X := X) (N := N) (r := r) (s := s) w
  rcases Nat.lt_or_ge (r w) Rn with hr | hr
  · have sw := h.sl w hw
    rcases (by omega : s w < onN X N w (r w) ∨ s w = onN X N w (r w) + 1 ∨ s w = onN X N w (r w)) with e | e | e
    · exact ⟨w, hw, hr, .inl e⟩
    · exact ⟨w, hw, hr, .inr ⟨hm, fun e9 => by omega⟩⟩
    · by_cases hj : ∀ j, j < n → r w ≤ r j
      · exact ⟨w, hw, hr, .inr ⟨hm, fun _ => hj⟩⟩
      · have : ∃ j, j < n ∧ r j < r w := by
          rcases Classical.em (∃ j, j < n ∧ r j < r w) with h9 | h9
          · exact h9
          · exact absurd (fun j h8 => Nat.le_of_not_lt fun h7 => h9 ⟨j, h8, h7⟩) hj
        obtain ⟨j, hj1, hj2⟩ := this
        have gj := fp_ge (X := X) (N := N) (r := r) (s := s) j
        have fw : fpN X N r s w = r w := fp_lo (by omega)
        have mj := hm j hj1
        have sj : s j = onN X N j (r j) + 1 := by
          rcases Nat.decEq (s j) (onN X N j (r j) + 1) with e9 | e9
          · rw [fp_lo e9] at mj; omega
          · exact e9
        refine ⟨j, hj1, by omega, .inr ⟨fun i hi => ?_, fun e9 => by omega⟩⟩
        have := hm i hi
        omega
  · have er := h.e w hw
    have fw : fpN X N r s w = Rn := fp_fin h hw (by omega)
    have gu := fp_ge (X := X) (N := N) (r := r) (s := s) u
    have mu := hm u hu1
    have su : s u = onN X N u (r u) + 1 := by
      rcases Nat.decEq (s u) (onN X N u (r u) + 1) with e9 | e9
      · rw [fp_lo e9] at mu; omega
      · exact e9
    refine ⟨u, hu1, hu2, .inr ⟨fun i hi => ?_, fun e9 => by omega⟩⟩
    have := hm i hi
    omega
theorem Adv.more {w : Nat} (h : Adv X N r s w r' s') (hw : w < n) : MN X N n r' s' = MN X N n r s + 1 := by
  unfold MN
  have : sm (pgN X N r' s') n = sm (pgN X N r s) n + if w < n then 1 else 0 := by
    rcases h with ⟨_, rfl, rfl⟩ | ⟨h1, rfl, rfl⟩
    · refine sm_upd (fun i hi => ?_) ?_ n
      · unfold pgN; rw [up_ne _ _ hi]
      · unfold pgN; rw [up_at]; omega
    · refine sm_upd (fun i hi => ?_) ?_ n
      · unfold pgN; rw [up_ne _ _ hi, up_ne _ _ hi]
      · unfold pgN
        rw [up_at, up_at]
        show sm _ (r w) + (onN X N w (r w) + 2) + 0 = _
        omega
  rw [this, if_pos hw]
theorem RS.lim (h : RS X N n Rn r s ph H) : MN X N n r s ≤ (N + 2 * Rn) * n := by
  have key : ∀ i, i < n → pgN X N r s i ≤ N + 2 * Rn := fun i hi => by
    have h1 := h.e i hi
    have h2 := h.sl i hi
    have h3 : pgN X N r s i ≤ sm (fun p => onN X N i p + 2) Rn := by
      unfold pgN
      rcases Nat.lt_or_ge (r i) Rn with e | e
      · have h4 := sm_mono (fun p => onN X N i p + 2) (show r i + 1 ≤ Rn by omega)
        have h5 : sm (fun p => onN X N i p + 2) (r i + 1) = sm (fun p => onN X N i p + 2) (r i) + (onN X N i (r i) + 2) := rfl
        omega
      · have e2 : r i = Rn := by omega
        rw [h1.2 e2, e2]
        exact Nat.le_refl _
    have h6 := sm_add (fun p => onN X N i p) (fun _ => 2) Rn
    have h7 := on_sum X i Rn N
    have h8 := sm_le (fun _ => 2) 2 (fun _ => Nat.le_refl _) Rn
    omega
  have : ∀ k, k ≤ n → sm (pgN X N r s) k ≤ (N + 2 * Rn) * k := fun k hk => by
    induction k with
    | zero => exact Nat.zero_le _
    | succ k ih =>
      have h1 := ih (by omega)
      have h2 := key k (by omega)
      rw [Nat.mul_succ]
      show sm _ k + pgN X N r s k ≤ _
      omega
  exact this n (Nat.le_refl _)
end
end Go.Proofs.Ytkfjcbnhohipgaa
