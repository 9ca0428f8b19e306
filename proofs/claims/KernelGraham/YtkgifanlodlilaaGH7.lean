import Derived.Test.YtkgifanlodlilaaGH6
import Derived.Deep.RegionLaw
import Derived.Deep.RegionHeld3
import Derived.Deep.Cut
import Derived.Deep.DeepCutAuto
import Derived.Deep.CutBlock
import Derived.Deep.CutRange
import Derived.BigQuiet
import Derived.Handy
namespace Go.Proofs.Ytkgifanlodlilaa
open Go.ChangeShapes Go.WideShapes Go.ChangeAt Go.RowKit
set_option linter.unusedVariables false
set_option linter.unusedSimpArgs false


def sm (F : Nat → Int) : Nat → Int
  | 0 => 0
  | n + 1 => sm F n + F n
theorem sm_congr {F G : Nat → Int} : ∀ {n : Nat}, (∀ i, i < n → F i = G i) → sm F n = sm G n
  | 0, _ => rfl
  | n + 1, h => by
    show sm F n + F n = sm G n + G n
    rw [sm_congr fun i hi => h i (by omega), h n (by omega)]
theorem sm_zero : ∀ (n : Nat), sm (fun _ => 0) n = 0
  | 0 => rfl
  | n + 1 => by
    show sm (fun _ => 0) n + 0 = 0
    rw [sm_zero n]; rfl
theorem sm_add (F G : Nat → Int) : ∀ (n : Nat), sm (fun i => F i + G i) n = sm F n + sm G n
  | 0 => rfl
  | n + 1 => by
    show sm (fun i => F i + G i) n + (F n + G n) = sm F n + F n + (sm G n + G n)
    rw [sm_add F G n]
    omega
theorem sm_swap (G : Nat → Nat → Int) (m : Nat) : ∀ (n : Nat), sm (fun i => sm (fun j => G i j) m) n = sm (fun j => sm (fun i => G i j) n) m
  | 0 => by
    show 0 = sm (fun j => 0) m
    rw [sm_zero]
  | n + 1 => by
    show sm (fun i => sm (fun j => G i j) m) n + sm (fun j => G n j) m = sm (fun j => sm (fun i => G i j) n + G n j) m
    rw [sm_swap G m n, sm_add]
theorem sm_one (x : Int) {a : Nat} : ∀ {n : Nat}, a < n → sm (fun j => if j = a then x else 0) n = x
  | 0, h => by omega
  | n + 1, h => by
    show sm (fun j => if j = a then x else 0) n + (if n = a then x else 0) = x
    by_cases e : n = a
    · rw [if_pos e, sm_congr (G := fun _ => 0) fun i hi => if_neg (by omega), sm_zero]
      omega
    · rw [if_neg e, sm_one x (by omega)]
      omega
theorem sm_perm {n : Nat} {K : Nat → Int} {d : Nat → Nat} (h : Hvy n K d) (F : Nat → Int) : sm (fun j => F (d j)) n = sm F n := by
  have e1 : sm (fun j => F (d j)) n = sm (fun j => sm (fun k => if k = d j then F (d j) else 0) n) n := sm_congr fun j hj => (sm_one _ (h.lt j hj)).symm
  rw [e1, sm_swap]
  refine sm_congr fun k hk => ?_
  obtain ⟨a, ha, hak⟩ := h.inv k hk
  have e2 : sm (fun j => if k = d j then F (d j) else 0) n = sm (fun j => if j = a then F k else 0) n := sm_congr fun j hj => by
    by_cases e : j = a
    · subst e
      rw [if_pos rfl, if_pos hak.symm, hak]
    · rw [if_neg e, if_neg fun e9 => e (h.inj j a hj ha (by rw [hak]; exact e9.symm))]
  show sm (fun j => if k = d j then F (d j) else 0) n = F k
  rw [e2, sm_one _ ha]
theorem sm_set (F : Nat → Int) {l : Nat} (x : Int) {n : Nat} (hl : l < n) : sm (setF F l (F l + x)) n = sm F n + x := by
  have : sm (setF F l (F l + x)) n = sm (fun i => F i + (if i = l then x else 0)) n := sm_congr fun i hi => by
    unfold setF
    split
    · rename_i e; rw [e]
    · omega
  rw [this, sm_add, sm_one _ hl]
theorem sm_low (F : Nat → Int) (a : Int) : ∀ (n : Nat), (∀ i, i < n → a ≤ F i) → (n : Int) * a ≤ sm F n
  | 0, _ => by simp [sm]
  | n + 1, h => by
    have h1 := sm_low F a n fun i hi => h i (by omega)
    have h2 := h n (by omega)
    show ((n + 1 : Nat) : Int) * a ≤ sm F n + F n
    rw [Int.natCast_add, Int.add_mul]
    omega
theorem sm_nonneg {F : Nat → Int} {n : Nat} (h : ∀ i, i < n → 0 ≤ F i) : 0 ≤ sm F n := by
  have := sm_low F 0 n h
  omega
/-- what a worker has: the weights of the parts that are its own -/
theorem dl_load {n m : Nat} {K : Nat → Int} {d : Nat → Nat} (h : Hvy n K d) : ∀ j, j ≤ n → (∀ i, i < j → ∃ q : Nat, q ≤ m ∧ (dl K d m j).1 (d i) = (q : Int)) ∧ ∀ l : Nat, (dl K d m j).2 l = sm (fun i => if (dl K d m j).1 (d i) = (l : Int) then K (d i) else 0) j
  | 0, _ => ⟨fun i hi => by omega, fun l => rfl⟩
  | j + 1, hj => by
    obtain ⟨h1, h2⟩ := dl_load (m := m) h j (by omega)
    obtain ⟨q, hq⟩ : ∃ q, lowI (dl K d m j).2 m = q := ⟨_, rfl⟩
    have hqm : q ≤ m := by rw [← hq]; exact lowI_le _ _
    have e1 : (dl K d m (j + 1)).1 = setF (dl K d m j).1 (d j) (q : Int) := by rw [← hq]; rfl
    have e2 : (dl K d m (j + 1)).2 = setF (dl K d m j).2 q ((dl K d m j).2 q + K (d j)) := by rw [← hq]; rfl
    have hold : ∀ i, i < j → setF (dl K d m j).1 (d j) (q : Int) (d i) = (dl K d m j).1 (d i) := fun i hi => by
      unfold setF
      rw [if_neg fun e => by have := h.inj i j (by omega) (by omega) e; omega]
    have hnew : setF (dl K d m j).1 (d j) (q : Int) (d j) = (q : Int) := by unfold setF; rw [if_pos rfl]
    rw [e1, e2]
    refine ⟨fun i hi => ?_, fun l => ?_⟩
    · by_cases e : i = j
      · subst e
        exact ⟨q, hqm, hnew⟩
      · obtain ⟨r, hr1, hr2⟩ := h1 i (by omega)
        exact ⟨r, hr1, by rw [hold i (by omega)]; exact hr2⟩
    · show setF (dl K d m j).2 q ((dl K d m j).2 q + K (d j)) l = sm _ j + (if setF (dl K d m j).1 (d j) (q : Int) (d j) = (l : Int) then K (d j) else 0)
      rw [hnew, sm_congr (G := fun i => if (dl K d m j).1 (d i) = (l : Int) then K (d i) else 0) fun i hi => by rw [hold i hi], ← h2 l]
      unfold setF
      by_cases e : l = q
      · subst e
        rw [if_pos rfl, if_pos rfl]
      · rw [if_neg e, if_neg (by omega)]
        omega
theorem dl_sum {n m : Nat} {K : Nat → Int} {d : Nat → Nat} : ∀ j, j ≤ n → sm (dl K d m j).2 (m + 1) = sm (fun i => K (d i)) j
  | 0, _ => by
    show sm (fun _ => 0) (m + 1) = 0
    exact sm_zero _
  | j + 1, hj => by
    show sm (setF (dl K d m j).2 (lowI (dl K d m j).2 m) ((dl K d m j).2 (lowI (dl K d m j).2 m) + K (d j))) (m + 1) = sm (fun i => K (d i)) j + K (d j)
    have hq := lowI_le (dl K d m j).2 m
    rw [sm_set _ _ (by omega), dl_sum (n := n) j (by omega)]
/-- Graham's bound at every moment -/
theorem dl_graham {n m : Nat} {K : Nat → Int} {d : Nat → Nat} (H : Int) (hK : ∀ i, i < n → 0 ≤ K (d i) ∧ K (d i) ≤ H) (hH : 0 ≤ H) : ∀ j, j ≤ n → ∀ l : Nat, l ≤ m → ((m + 1 : Nat) : Int) * (dl K d m j).2 l ≤ sm (fun i => K (d i)) j + (m : Int) * H
  | 0, _, l, hl => by
    show ((m + 1 : Nat) : Int) * 0 ≤ 0 + (m : Int) * H
    have := Int.mul_nonneg (show (0 : Int) ≤ (m : Int) by omega) hH
    omega
  | j + 1, hj, l, hl => by
    have ih := dl_graham (m := m) H hK hH j (by omega)
    have hk := hK j (by omega)
    obtain ⟨q, hq⟩ : ∃ q, lowI (dl K d m j).2 m = q := ⟨_, rfl⟩
    have e2 : (dl K d m (j + 1)).2 = setF (dl K d m j).2 q ((dl K d m j).2 q + K (d j)) := by rw [← hq]; rfl
    have e3 : sm (fun i => K (d i)) (j + 1) = sm (fun i => K (d i)) j + K (d j) := rfl
    rw [e2, e3]
    by_cases e : l = q
    · subst e
      have hlow : ((m + 1 : Nat) : Int) * (dl K d m j).2 l ≤ sm (dl K d m j).2 (m + 1) := sm_low _ _ _ fun i hi => by
        rw [← hq]
        exact lowI_min _ _ _ (by omega)
      rw [dl_sum (n := n) j (by omega)] at hlow
      have e4 : setF (dl K d m j).2 l ((dl K d m j).2 l + K (d j)) l = (dl K d m j).2 l + K (d j) := by unfold setF; rw [if_pos rfl]
      rw [e4, Int.mul_add]
      have h5 : ((m + 1 : Nat) : Int) * K (d j) = (m : Int) * K (d j) + K (d j) := by rw [Int.natCast_add, Int.add_mul]; omega
      have h6 : (m : Int) * K (d j) ≤ (m : Int) * H := Int.mul_le_mul_of_nonneg_left hk.2 (by omega)
      omega
    · have e4 : setF (dl K d m j).2 q ((dl K d m j).2 q + K (d j)) l = (dl K d m j).2 l := by unfold setF; rw [if_neg e]
      rw [e4]
      have := ih l hl
      omega
/-- what the law asks of the owners: each is a worker; the loads keep the bound -/
theorem dealt_graham {n wk : Nat} {K : Nat → Int} {d : Nat → Nat} (h : Hvy n K d) (hw : 1 ≤ wk) (H : Int) (hK : ∀ i, i < n → 0 ≤ K i ∧ K i ≤ H) (hH : 0 ≤ H) {f : Nat → Int} (hf : f = (dl K d (wk - 1) n).1) :
    (∀ i, i < n → ∃ q : Nat, q < wk ∧ f i = (q : Int)) ∧ ∀ l : Nat, l < wk → (wk : Int) * sm (fun i => if f i = (l : Int) then K i else 0) n ≤ sm K n + ((wk : Int) - 1) * H := by
  obtain ⟨h1, h2⟩ := dl_load (m := wk - 1) h n (Nat.le_refl _)
  rw [← hf] at h1 h2
  refine ⟨fun i hi => ?_, fun l hl => ?_⟩
  · obtain ⟨a, ha, e⟩ := h.inv i hi
    obtain ⟨q, hq, hq2⟩ := h1 a ha
    rw [e] at hq2
    exact ⟨q, by omega, hq2⟩
  · have h3 := dl_graham (K := K) (d := d) (m := wk - 1) H (fun i hi => hK _ (h.lt i hi)) hH n (Nat.le_refl _) l (by omega)
    rw [h2 l, sm_perm h (fun i => if f i = (l : Int) then K i else 0), sm_perm h K, show wk - 1 + 1 = wk by omega, show ((wk - 1 : Nat) : Int) = (wk : Int) - 1 by omega] at h3
    exact h3
end Go.Proofs.Ytkgifanlodlilaa
