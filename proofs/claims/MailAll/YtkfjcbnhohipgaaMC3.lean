import Derived.Test.YtkfjcbnhohipgaaMB11
import Derived.BigQuiet
import Derived.Deep.RegionLaw
import Derived.Deep.RegionHeld3
import Derived.Deep.Cut
import Derived.Deep.DeepCutAuto
import Derived.Deep.CutBlock
import Derived.Deep.CutRange
import Derived.Deep.AppendLies
import Derived.Handy
import Derived.Lib.RabinKarpLaws
namespace Go.Proofs.Ytkfjcbnhohipgaa
open Go.ChangeShapes Go.WideShapes Go.ChangeAt Go.RowKit
set_option linter.unusedVariables false
set_option linter.unusedSimpArgs false


structure MI (n : Nat) (room : Int) (ph : Nat → Int) (H : Nat → Nat → Nat → Hf) (t : Nat) : Prop where
  lo : ∀ i, i < n → 0 ≤ ph i
  hi : ∀ i, i < n → ph i ≤ t
  one : ∀ i j, i < n → j < n → ph i ≤ ph j + 1
  gone : ∀ i j, i < n → j < n → ph j = ph i + 1 → (H i j (par (ph i - 1))).l = 0
  rm : ∀ i j k, ((H i j k).l : Int) ≤ room
theorem par_ne (p : Int) : par (p - 1) ≠ par p := by unfold par; omega
theorem par_next (p : Int) : par (p + 1 - 1) = par p := by congr 1; omega
theorem MI.up {n : Nat} {room : Int} {ph : Nat → Int} {H : Nat → Nat → Nat → Hf} {t : Nat} (h : MI n room ph H t) : MI n room ph H (t + 1) := ⟨h.lo, fun i hi => by have := h.hi i hi; omega, h.one, h.gone, h.rm⟩
theorem MI.less {n : Nat} {room : Int} {ph : Nat → Int} {H H' : Nat → Nat → Nat → Hf} {t : Nat} (h : MI n room ph H t) (hl : ∀ i j k, (H' i j k).l ≤ (H i j k).l) : MI n room ph H' t := ⟨h.lo, h.hi, h.one, fun i j hi hj e => by have h1 := hl i j (par (ph i - 1)); have h2 := h.gone i j hi hj e; omega, fun i j k => by have h1 := hl i j k; have h2 := h.rm i j k; omega⟩
theorem MI.send {n : Nat} {room : Int} {ph : Nat → Int} {H : Nat → Nat → Nat → Hf} {t : Nat} (h : MI n room ph H t) (x y : Nat) (q : Option Addr) (c : Nat) (a b : Int) (hr : ((H x y (par (ph x))).l : Int) ≠ room) : MI n room ph (setHf H x y (par (ph x)) (more (H x y (par (ph x))) q c a b)) t :=
  ⟨h.lo, h.hi, h.one, fun i j hi hj e => by
    rw [setHf_ne]
    · exact h.gone i j hi hj e
    · rintro ⟨rfl, rfl, h1⟩
      exact par_ne _ h1, fun i j k => by
    by_cases e : i = x ∧ j = y ∧ k = par (ph x)
    · obtain ⟨rfl, rfl, rfl⟩ := e
      rw [setHf_at]
      have := h.rm i j (par (ph i))
      show (((H i j (par (ph i))).l + 1 : Nat) : Int) ≤ room
      omega
    · rw [setHf_ne _ _ _ _ _ e]
      exact h.rm i j k⟩
theorem MI.flip {n : Nat} {room : Int} {ph : Nat → Int} {H : Nat → Nat → Nat → Hf} {t : Nat} (h : MI n room ph H t) (x : Nat) (hx : x < n) (hf : ¬ (Low ph n x ∨ sentP H n x (ph x - 1) ∨ dueP H ph n x)) : MI n room (fun i => if i = x then ph x + 1 else ph i) H (t + 1) := by
  have hlow : ∀ i, i < n → ph x ≤ ph i := fun i hi => by
    rcases Int.lt_or_le (ph i) (ph x) with h1 | h1
    · exact absurd (.inl ⟨i, hi, h1⟩) hf
    · exact h1
  refine ⟨fun i hi => ?_, fun i hi => ?_, fun i j hi hj => ?_, fun i j hi hj => ?_, h.rm⟩
  · have h1 := h.lo i hi
    have h2 := h.lo x hx
    show 0 ≤ if i = x then ph x + 1 else ph i
    split <;> omega
  · have h1 := h.hi i hi
    have h2 := h.hi x hx
    show (if i = x then ph x + 1 else ph i) ≤ ((t + 1 : Nat) : Int)
    split <;> omega
  · have h1 := hlow j hj
    have h2 := h.one i j hi hj
    have h3 := hlow i hi
    show (if i = x then ph x + 1 else ph i) ≤ (if j = x then ph x + 1 else ph j) + 1
    by_cases e1 : i = x
    · by_cases e2 : j = x
      · rw [if_pos e1, if_pos e2]; omega
      · rw [if_pos e1, if_neg e2]; omega
    · by_cases e2 : j = x
      · subst e2
        rw [if_neg e1, if_pos rfl]; omega
      · rw [if_neg e1, if_neg e2]; omega
  · show (if j = x then ph x + 1 else ph j) = (if i = x then ph x + 1 else ph i) + 1 → (H i j (par ((if i = x then ph x + 1 else ph i) - 1))).l = 0
    by_cases e1 : i = x
    · by_cases e2 : j = x
      · rw [if_pos e1, if_pos e2]; omega
      · rw [if_pos e1, if_neg e2]
        intro e
        have := h.one j x hj hx
        omega
    · rw [if_neg e1]
      by_cases e2 : j = x
      · rw [if_pos e2]
        intro e
        subst e2
        have e3 : ph i = ph j := by omega
        rcases Nat.eq_zero_or_pos (H i j (par (ph i - 1))).l with h4 | h4
        · exact h4
        · exact absurd (.inr (.inr ⟨i, hi, e3, by rw [← e3]; exact h4⟩)) hf
      · rw [if_neg e2]
        exact h.gone i j hi hj
theorem dropH_le (H : Nat → Nat → Nat → Hf) (x e m : Nat) : ∀ i j k, (dropH H x e m i j k).l ≤ (H i j k).l := fun i j k => by
  unfold dropH
  split
  · exact Nat.zero_le _
  · exact Nat.le_refl _
theorem gHn_le (H : Nat → Nat → Nat → Hf) (x e : Nat) (jf : Nat → Nat) : ∀ m i j k, (gHn H x e jf m i j k).l ≤ (H i j k).l
  | 0, _, _, _ => Nat.le_refl _
  | m + 1, i, j, k => by
    unfold gHn
    by_cases e1 : i = jf m ∧ j = x ∧ k = e
    · obtain ⟨rfl, rfl, rfl⟩ := e1
      rw [setHf_at]
      exact Nat.zero_le _
    · rw [setHf_ne _ _ _ _ _ e1]
      exact gHn_le H x e jf m i j k
theorem gHn_zero (H : Nat → Nat → Nat → Hf) (x e : Nat) (jf : Nat → Nat) : ∀ m, sm (gln H x e jf) m = 0 → ∀ i j k, (gHn H x e jf m i j k).l = (H i j k).l
  | 0, _, _, _, _ => rfl
  | m + 1, hz, i, j, k => by
    have hs : sm (gln H x e jf) m + gln H x e jf m = 0 := hz
    unfold gHn
    by_cases e1 : i = jf m ∧ j = x ∧ k = e
    · obtain ⟨rfl, rfl, rfl⟩ := e1
      rw [setHf_at]
      have : gln H j k jf m = 0 := by omega
      exact this.symm
    · rw [setHf_ne _ _ _ _ _ e1]
      exact gHn_zero H x e jf m (by omega) i j k
theorem due_zero {ph : Nat → Int} {H : Nat → Nat → Nat → Hf} {n x : Nat} (hz : sm (gln H x (par (ph x - 1)) (dueJ ph n x)) (dueN ph n x) = 0) : ¬ dueP H ph n x := by
  rintro ⟨i, hi, he, hl⟩
  obtain ⟨j, hj⟩ := List.mem_iff_getElem?.1 ((dueI_mem ph x i n).2 ⟨hi, he⟩)
  have hjl : j < dueN ph n x := by
    unfold dueN
    rcases Nat.lt_or_ge j (dueI ph x n).length with h | h
    · exact h
    · rw [List.getElem?_eq_none h] at hj; cases hj
  have h1 := dueJ_at hjl
  rw [h1] at hj
  injection hj with hj
  have h2 := (sm_pos (gln H x (par (ph x - 1)) (dueJ ph n x)) (dueN ph n x)).2 ⟨j, hjl, by unfold gln; rw [hj]; exact hl⟩
  omega
/-- somebody can go on -/
theorem MI.moves {n : Nat} {room : Int} {ph : Nat → Int} {H : Nat → Nat → Nat → Hf} {t : Nat} (h : MI n room ph H t) (hn : 0 < n) (hno : ∀ k, k < n → ¬ Low ph n k → ¬ dueP H ph n k ∧ sentP H n k (ph k - 1)) : False := by
  obtain ⟨x, hx, hlow⟩ : ∃ x, x < n ∧ ¬ Low ph n x := by
    have key : ∀ m, 0 < m → m ≤ n → ∃ x, x < m ∧ ∀ i, i < m → ph x ≤ ph i := by
      intro m
      induction m with
      | zero => intro h; omega
      | succ m ih =>
        intro _ hm
        rcases Nat.eq_zero_or_pos m with rfl | hp
        · exact ⟨0, by omega, fun i hi => by rw [show i = 0 by omega]; exact Int.le_refl _⟩
        · obtain ⟨x, hx, hle⟩ := ih hp (by omega)
          rcases Int.lt_or_le (ph m) (ph x) with h1 | h1
          · exact ⟨m, by omega, fun i hi => by
              by_cases e : i = m
              · rw [e]; exact Int.le_refl _
              · have := hle i (by omega); omega⟩
          · exact ⟨x, by omega, fun i hi => by
              by_cases e : i = m
              · rw [e]; exact h1
              · exact hle i (by omega)⟩
    obtain ⟨x, hx, hle⟩ := key n hn (Nat.le_refl _)
    exact ⟨x, hx, fun ⟨i, hi, h1⟩ => by have := hle i hi; omega⟩
  obtain ⟨_, y, hy, hl⟩ := hno x hx hlow
  have hge : ∀ i, i < n → ph x ≤ ph i := fun i hi => by
    rcases Int.lt_or_le (ph i) (ph x) with h1 | h1
    · exact absurd ⟨i, hi, h1⟩ hlow
    · exact h1
  have h1 := hge y hy
  have h2 := h.one y x hy hx
  by_cases e : ph y = ph x
  · exact (hno y hy (fun ⟨i, hi, h3⟩ => by have := hge i hi; omega)).1 ⟨x, hx, e.symm, by rw [e]; exact hl⟩
  · have := h.gone x y hx hy (by omega)
    omega
theorem MI.new (n : Nat) (room : Int) (hr : 0 ≤ room) : MI n room (fun _ => 0) noH 0 := ⟨fun _ _ => Int.le_refl _, fun _ _ => Int.le_refl _, fun _ _ _ _ => by show (0 : Int) ≤ 0 + 1; omega, fun _ _ _ _ e => rfl, fun _ _ _ => hr⟩
end Go.Proofs.Ytkfjcbnhohipgaa
