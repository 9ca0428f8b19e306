import Derived.Test.YtkfjcbnhohipgaaMR0
import Derived.BigQuiet
import Derived.Deep.RegionLaw
import Derived.Deep.RegionHeld3
import Derived.Deep.Cut
import Derived.Deep.DeepCutAuto
import Derived.Deep.CutBlock
import Derived.Deep.CutRange
import Derived.Deep.AppendLies
import Derived.Handy
import Derived.Lib.RabinKarpLaws
namespace Go.Proofs.Ytkfjcbnhohipgaa
open Go.ChangeShapes Go.WideShapes Go.ChangeAt Go.RowKit
set_option linter.unusedVariables false
set_option linter.unusedSimpArgs false



structure Nt where
  r : Int
  f : Int
  t : Int
  k : Int
/-- the notes of a worker in a round -/
def ownN (X : Nat → Nt) (N p i : Nat) : List Nat := (List.range N).filter fun t => ((X t).r == (p : Int)) && ((X t).f == (i : Int))
def onN (X : Nat → Nt) (N i p : Nat) : Nat := (ownN X N p i).length
/-- the things to j among the first a of them -/
def ltr (X : Nat → Nt) (N i j p a : Nat) : List (Int × Int) := (((ownN X N p i).take a).filter fun t => (X t).t == (j : Int)).map fun t => ((X t).k, (t : Int))
def lta (X : Nat → Nt) (N i j p : Nat) : List (Int × Int) := ltr X N i j p (onN X N i p)
theorem ltr_big (X : Nat → Nt) (N i j p a : Nat) (h : onN X N i p ≤ a) : ltr X N i j p a = lta X N i j p := by
  unfold lta ltr
  rw [List.take_of_length_le h, List.take_of_length_le (show (ownN X N p i).length ≤ onN X N i p from Nat.le_refl _)]
theorem ltr_zero (X : Nat → Nt) (N i j p : Nat) : ltr X N i j p 0 = [] := by unfold ltr; rw [List.take_zero]; rfl
theorem ownN_len (X : Nat → Nt) (N p i : Nat) : onN X N i p ≤ N := by
  unfold onN ownN
  have := List.length_filter_le (fun t => ((X t).r == (p : Int)) && ((X t).f == (i : Int))) (List.range N)
  rw [List.length_range] at this
  exact this
theorem ltr_len (X : Nat → Nt) (N i j p a : Nat) : (ltr X N i j p a).length ≤ N := by
  unfold ltr
  rw [List.length_map]
  have h1 := List.length_filter_le (fun t => (X t).t == (j : Int)) ((ownN X N p i).take a)
  have h2 := List.length_take_le a (ownN X N p i)
  have h3 := List.length_take_le' a (ownN X N p i)
  have h4 := ownN_len X N p i
  unfold onN at h4
  omega
theorem ltr_succ (X : Nat → Nt) (N i j p a t : Nat) (h : (ownN X N p i)[a]? = some t) : ltr X N i j p (a + 1) = ltr X N i j p a ++ if (X t).t = (j : Int) then [((X t).k, (t : Int))] else [] := by
  unfold ltr
  rw [List.take_add_one, h]
  simp only [Option.toList_some, List.filter_append, List.map_append]
  by_cases e : (X t).t = (j : Int)
  · rw [if_pos e, List.filter_cons_of_pos (by simpa using e)]
    rfl
  · rw [if_neg e, List.filter_cons_of_neg (by simpa using e)]
    rfl
theorem ownN_mem {X : Nat → Nt} {N p i t : Nat} (h : t ∈ ownN X N p i) : t < N ∧ (X t).r = (p : Int) ∧ (X t).f = (i : Int) := by
  unfold ownN at h
  rw [List.mem_filter, List.mem_range] at h
  simp at h
  exact ⟨h.1, h.2.1, h.2.2⟩
section
variable (X : Nat → Nt) (N n Rn : Nat)
/-- the phase of a worker -/
def fpN (r s : Nat → Nat) (i : Nat) : Nat := if s i = onN X N i (r i) + 1 then r i + 1 else r i
def cntN (r s : Nat → Nat) (i p : Nat) : Nat := if p < r i then onN X N i p else if p = r i then s i else 0
def CN (r s : Nat → Nat) (i j p : Nat) : List (Int × Int) := ltr X N i j p (cntN X N r s i p)
structure RS (r s : Nat → Nat) (ph : Nat → Int) (H : Nat → Nat → Nat → Hf) : Prop where
  p : ∀ i, i < n → ph i = (fpN X N r s i : Int)
  sl : ∀ i, i < n → s i ≤ onN X N i (r i) + 1
  e : ∀ i, i < n → r i ≤ Rn ∧ (r i = Rn → s i = 0)
  c : ∀ i j, i < n → j < n → hls (H i j (par (ph i))) = CN X N r s i j (fpN X N r s i)
  q : ∀ i j, i < n → j < n → hls (H i j (par (ph i - 1))) = if 1 ≤ fpN X N r s i ∧ r j ≤ fpN X N r s i - 1 then CN X N r s i j (fpN X N r s i - 1) else []
  i1 : ∀ i j, i < n → j < n → r j ≤ fpN X N r s i
  i2 : ∀ i j p, i < n → j < n → p + 2 ≤ fpN X N r s i → r j ≤ p → lta X N i j p = []
end
section
variable {X : Nat → Nt} {N n Rn : Nat} {r s : Nat → Nat} {ph : Nat → Int} {H : Nat → Nat → Nat → Hf}
theorem fp_lo {i : Nat} (h : ¬ s i = onN X N i (r i) + 1) : fpN X N r s i = r i := if_neg h
theorem fp_hi {i : Nat} (h : s i = onN X N i (r i) + 1) : fpN X N r s i = r i + 1 := if_pos h
theorem fp_ge (i : Nat) : r i ≤ fpN X N r s i ∧ fpN X N r s i ≤ r i + 1 := by unfold fpN; split <;> omega
theorem fp_fin (h : RS X N n Rn r s ph H) {i : Nat} (hi : i < n) (hf : r i = Rn) : fpN X N r s i = Rn := by
  have := (h.e i hi).2 hf
  rw [fp_lo (by omega), hf]
theorem par_flip (p : Int) : par (p + 1) = par (p - 1) ∧ par p ≠ par (p - 1) := by unfold par; omega
theorem hls_zero {f : Hf} (h : f.l = 0) : hls f = [] := by unfold hls; rw [h]; rfl
theorem hls_nil {f : Hf} (h : hls f = []) : f.l = 0 := by rw [← hls_len, h]; rfl
def upN (f : Nat → Nat) (w v : Nat) : Nat → Nat := fun i => if i = w then v else f i
theorem up_at (f : Nat → Nat) (w v : Nat) : upN f w v w = v := if_pos rfl
theorem up_ne (f : Nat → Nat) {w i : Nat} (v : Nat) (h : i ≠ w) : upN f w v i = f i := if_neg h
theorem fp_ne (r s : Nat → Nat) {w i a b : Nat} (h : i ≠ w) : fpN X N (upN r w a) (upN s w b) i = fpN X N r s i := by unfold fpN; rw [up_ne _ _ h, up_ne _ _ h]
theorem fp_ne1 (r s : Nat → Nat) {w i b : Nat} (h : i ≠ w) : fpN X N r (upN s w b) i = fpN X N r s i := by unfold fpN; rw [up_ne _ _ h]
theorem C_ne (r s : Nat → Nat) {w i j p a b : Nat} (h : i ≠ w) : CN X N (upN r w a) (upN s w b) i j p = CN X N r s i j p := by unfold CN cntN; rw [up_ne _ _ h, up_ne _ _ h]
theorem C_ne1 (r s : Nat → Nat) {w i j p b : Nat} (h : i ≠ w) : CN X N r (upN s w b) i j p = CN X N r s i j p := by unfold CN cntN; rw [up_ne _ _ h]
/-- a thing is sent -/
theorem RS.send (h : RS X N n Rn r s ph H) {w j0 t0 : Nat} (hw : w < n) (hj : j0 < n) (hr : r w < Rn) (hs : s w < onN X N w (r w)) (ht : (ownN X N (r w) w)[s w]? = some t0) (hto : (X t0).t = (j0 : Int)) (q : Option Addr) (c : Nat) : RS X N n Rn r (upN s w (s w + 1)) ph (setHf H w j0 (par (ph w)) (more (H w j0 (par (ph w))) q c (X t0).k (t0 : Int))) := by
  have hfw : fpN X N r s w = r w := fp_lo (by omega)
  have hfw' : fpN X N r (upN s w (s w + 1)) w = r w := fp_lo (by rw [up_at]; omega)
  have hfp : ∀ i, fpN X N r (upN s w (s w + 1)) i = fpN X N r s i := fun i => by
    by_cases e : i = w
    · rw [e, hfw, hfw']
    · exact fp_ne1 r s e
  refine ⟨fun i hi => by rw [hfp]; exact h.p i hi, fun i hi => ?_, fun i hi => ⟨(h.e i hi).1, fun e => ?_⟩, fun i j hi hj' => ?_, fun i j hi hj' => ?_, fun i j hi hj' => by rw [hfp]; exact h.i1 i j hi hj', fun i j p hi hj' => by rw [hfp]; exact h.i2 i j p hi hj'⟩
  · by_cases e : i = w
    · subst e; rw [up_at]; omega
    · rw [up_ne _ _ e]; exact h.sl i hi
  · by_cases e2 : i = w
    · subst e2; omega
    · rw [up_ne _ _ e2]; exact (h.e i hi).2 e
  · rw [hfp]
    by_cases e : i = w
    · subst e
      have hc := h.c i j hi hj'
      rw [hfw] at hc ⊢
      have e1 : CN X N r s i j (r i) = ltr X N i j (r i) (s i) := by unfold CN cntN; rw [if_neg (by omega), if_pos rfl]
      have e2 : CN X N r (upN s i (s i + 1)) i j (r i) = ltr X N i j (r i) (s i + 1) := by unfold CN cntN; rw [if_neg (by omega), if_pos rfl, up_at]
      rw [e2, ltr_succ X N i j (r i) (s i) t0 ht, ← e1]
      by_cases ej : j = j0
      · subst ej
        rw [setHf_at, hls_more, hc, if_pos hto]
      · rw [setHf_ne _ _ _ _ _ (fun e9 => ej e9.2.1), hc, if_neg (by rw [hto]; omega), List.append_nil]
    · rw [C_ne1 r s e, setHf_ne _ _ _ _ _ (fun e9 => e e9.1)]
      exact h.c i j hi hj'
  · rw [hfp]
    have hq := h.q i j hi hj'
    by_cases e : i = w
    · subst e
      rw [setHf_ne _ _ _ _ _ (fun e9 => (par_flip (ph i)).2 e9.2.2.symm), hq, hfw]
      by_cases c9 : 1 ≤ r i ∧ r j ≤ r i - 1
      · rw [if_pos c9, if_pos c9]
        unfold CN cntN
        rw [if_pos (by omega), if_pos (by omega)]
      · rw [if_neg c9, if_neg c9]
    · rw [C_ne1 r s e, setHf_ne _ _ _ _ _ (fun e9 => e e9.1)]
      exact hq
/-- a worker flips -/
theorem RS.flip (h : RS X N n Rn r s ph H) {w : Nat} (hw : w < n) (hr : r w < Rn) (hs : s w = onN X N w (r w)) (hno : ∀ j, j < n → (H w j (par (ph w - 1))).l = 0) : RS X N n Rn r (upN s w (s w + 1)) (fun i => if i = w then ph w + 1 else ph i) H := by
  have hfw : fpN X N r s w = r w := fp_lo (by omega)
  have hfw' : fpN X N r (upN s w (s w + 1)) w = r w + 1 := fp_hi (by rw [up_at, hs])
  have hpw : (if w = w then ph w + 1 else ph w) = ph w + 1 := if_pos rfl
  have hpn : ∀ i, i ≠ w → (if i = w then ph w + 1 else ph i) = ph i := fun i e => if_neg e
  refine ⟨fun i hi => ?_, fun i hi => ?_, fun i hi => ⟨(h.e i hi).1, fun e => ?_⟩, fun i j hi hj' => ?_, fun i j hi hj' => ?_, fun i j hi hj' => ?_, fun i j p hi hj' h1 h2 => ?_⟩
  · by_cases e : i = w
    · subst e; rw [hpw, hfw', h.p i hi, hfw]; omega
    · rw [hpn i e, fp_ne1 r s e]; exact h.p i hi
  · by_cases e : i = w
    · subst e; rw [up_at]; omega
    · rw [up_ne _ _ e]; exact h.sl i hi
  · by_cases e2 : i = w
    · subst e2; omega
    · rw [up_ne _ _ e2]; exact (h.e i hi).2 e
  · by_cases e : i = w
    · subst e
      simp only [if_true]
      rw [(par_flip (ph i)).1, hls_zero (hno j hj'), hfw']
      unfold CN cntN
      rw [if_neg (by omega), if_neg (by omega), ltr_zero]
    · simp only [if_neg e]
      rw [C_ne1 r s e, fp_ne1 r s e]
      exact h.c i j hi hj'
  · by_cases e : i = w
    · subst e
      simp only [if_true]
      rw [show ph i + 1 - 1 = ph i by omega, h.c i j hi hj', hfw', hfw, if_pos ⟨by omega, by have := h.i1 i j hi hj'; omega⟩]
      unfold CN cntN
      rw [if_neg (by omega), if_pos rfl, show r i + 1 - 1 = r i by omega, if_neg (by omega), if_pos rfl, up_at, ltr_big X N i j (r i) (s i) (by omega), ltr_big X N i j (r i) (s i + 1) (by omega)]
    · simp only [if_neg e]
      rw [C_ne1 r s e, fp_ne1 r s e]
      exact h.q i j hi hj'
  · by_cases e : i = w
    · subst e; have := h.i1 i j hi hj'; omega
    · rw [fp_ne1 r s e]; exact h.i1 i j hi hj'
  · by_cases e : i = w
    · subst e
      rw [hfw'] at h1
      by_cases e2 : p + 2 ≤ r i
      · exact h.i2 i j p hi hj' (by rw [hfw]; exact e2) h2
      · have hq := h.q i j hi hj'
        rw [hls_zero (hno j hj'), hfw, if_pos ⟨by omega, by omega⟩] at hq
        unfold CN cntN at hq
        rw [if_pos (by omega), show r i - 1 = p by omega] at hq
        exact hq.symm
    · rw [fp_ne1 r s e] at h1; exact h.i2 i j p hi hj' h1 h2
/-- a worker drains -/
theorem RS.drain (h : RS X N n Rn r s ph H) {w : Nat} (hw : w < n) (hr : r w < Rn) (hs : s w = onN X N w (r w) + 1) (hl : ¬ Low ph n w) : RS X N n Rn (upN r w (r w + 1)) (upN s w 0) ph (gHn H w (par (ph w - 1)) (dueJ ph n w) (dueN ph n w)) := by
  have hfw : fpN X N r s w = r w + 1 := fp_hi hs
  have hfw' : fpN X N (upN r w (r w + 1)) (upN s w 0) w = r w + 1 := by rw [fp_lo (by rw [up_at]; omega), up_at]
  have hfp : ∀ i, fpN X N (upN r w (r w + 1)) (upN s w 0) i = fpN X N r s i := fun i => by
    by_cases e : i = w
    · rw [e, hfw, hfw']
    · exact fp_ne r s e
  have hlo : ∀ i, i < n → r w + 1 ≤ fpN X N r s i := fun i hi => by
    rcases Nat.lt_or_ge (fpN X N r s i) (r w + 1) with e | e
    · exact absurd ⟨i, hi, by rw [h.p i hi, h.p w hw, hfw]; omega⟩ hl
    · exact e
  have pw := h.p w hw
  rw [hfw] at pw
  refine ⟨fun i hi => by rw [hfp]; exact h.p i hi, fun i hi => ?_, fun i hi => ?_, fun i j hi hj' => ?_, fun i j hi hj' => ?_, fun i j hi hj' => ?_, fun i j p hi hj' h1 h2 => ?_⟩
  · by_cases e : i = w
    · subst e; rw [up_at]; omega
    · rw [up_ne _ _ e, up_ne _ _ e]; exact h.sl i hi
  · by_cases e : i = w
    · subst e; rw [up_at, up_at]; exact ⟨by omega, fun _ => rfl⟩
    · rw [up_ne _ _ e, up_ne _ _ e]; exact h.e i hi
  · have hH : gHn H w (par (ph w - 1)) (dueJ ph n w) (dueN ph n w) i j (par (ph i)) = H i j (par (ph i)) := gHn_out _ _ _ _ _ _ _ _ fun ⟨_, h2, h3⟩ => by
      have h4 := (due_has.1 h3).2
      rw [h4] at h2
      exact (par_flip (ph w)).2 h2
    rw [hH, hfp, h.c i j hi hj']
    by_cases e : i = w
    · subst e
      rw [hfw]
      unfold CN cntN
      rw [if_neg (by omega), if_neg (by omega), up_at, up_at, if_neg (by omega), if_pos rfl]
    · rw [C_ne r s e]
  · rw [hfp]
    by_cases ej : j = w
    · subst ej
      rw [up_at]
      have hge := hlo i hi
      by_cases e2 : fpN X N r s i = r j + 1
      · rw [if_neg (by omega)]
        refine hls_zero ?_
        have hpi : ph i = ph j := by rw [h.p i hi, e2, pw]
        rw [hpi]
        exact gHn_in _ _ _ _ _ _ (due_has.2 ⟨hi, hpi⟩)
      · have hne : ph i ≠ ph j := by rw [h.p i hi, pw]; omega
        have hH : gHn H j (par (ph j - 1)) (dueJ ph n j) (dueN ph n j) i j (par (ph i - 1)) = H i j (par (ph i - 1)) := gHn_out _ _ _ _ _ _ _ _ fun ⟨_, _, h3⟩ => hne (due_has.1 h3).2
        rw [hH, h.q i j hi hj', if_pos ⟨by omega, by omega⟩, if_pos ⟨by omega, by omega⟩]
        by_cases e : i = j
        · subst e; exact absurd rfl hne
        · rw [C_ne r s e]
    · rw [up_ne _ _ ej]
      have hH : gHn H w (par (ph w - 1)) (dueJ ph n w) (dueN ph n w) i j (par (ph i - 1)) = H i j (par (ph i - 1)) := gHn_out _ _ _ _ _ _ _ _ fun ⟨h1, _⟩ => ej h1
      rw [hH, h.q i j hi hj']
      by_cases e : i = w
      · subst e
        rw [hfw]
        by_cases c9 : 1 ≤ r i + 1 ∧ r j ≤ r i + 1 - 1
        · rw [if_pos c9, if_pos c9, show r i + 1 - 1 = r i by omega]
          unfold CN cntN
          rw [if_neg (by omega), if_pos rfl, up_at, if_pos (by omega), ltr_big X N i j (r i) (s i) (by omega), ltr_big X N i j (r i) (onN X N i (r i)) (Nat.le_refl _)]
        · rw [if_neg c9, if_neg c9]
      · rw [C_ne r s e]
  · rw [hfp]
    by_cases e : j = w
    · subst e; rw [up_at]; exact hlo i hi
    · rw [up_ne _ _ e]; exact h.i1 i j hi hj'
  · rw [hfp] at h1
    refine h.i2 i j p hi hj' h1 ?_
    by_cases e : j = w
    · subst e; rw [up_at] at h2; omega
    · rw [up_ne _ _ e] at h2; exact h2
theorem due_flat (ph : Nat → Int) (x : Nat) (g : Nat → List (Int × Int)) : ∀ n, (∀ i, i < n → ph i ≠ ph x → g i = []) → (dueI ph x n).flatMap g = (List.range n).flatMap g
  | 0, _ => rfl
  | n + 1, h => by
    have ih := due_flat ph x g n fun i hi => h i (by omega)
    show (if ph n = ph x then dueI ph x n ++ [n] else dueI ph x n).flatMap g = _
    rw [List.range_succ, List.flatMap_append, List.flatMap_singleton]
    by_cases e : ph n = ph x
    · rw [if_pos e, List.flatMap_append, List.flatMap_singleton, ih]
    · rw [if_neg e, ih, h n (by omega) e, List.append_nil]
/-- what a worker gets: the round's things to it, sender by sender -/
def dueT (X : Nat → Nt) (N n p w : Nat) : List (Int × Int) := (List.range n).flatMap fun i => lta X N i w p
theorem flat_congr {g g' : Nat → List (Int × Int)} : ∀ l : List Nat, (∀ i, i ∈ l → g i = g' i) → l.flatMap g = l.flatMap g'
  | [], _ => rfl
  | a :: l, h => by
    rw [List.flatMap_cons, List.flatMap_cons, h a (by simp), flat_congr l fun i hi => h i (by simp [hi])]
theorem RS.due (h : RS X N n Rn r s ph H) {w : Nat} (hw : w < n) (hs : s w = onN X N w (r w) + 1) (hl : ¬ Low ph n w) : (List.range (sm (gln H w (par (ph w - 1)) (dueJ ph n w)) (dueN ph n w))).map (gKn H w (par (ph w - 1)) (dueJ ph n w) (dueN ph n w)) = dueT X N n (r w) w := by
  have hfw : fpN X N r s w = r w + 1 := fp_hi hs
  have pw := h.p w hw
  rw [hfw] at pw
  have hlo : ∀ i, i < n → r w + 1 ≤ fpN X N r s i := fun i hi => by
    rcases Nat.lt_or_ge (fpN X N r s i) (r w + 1) with e | e
    · exact absurd ⟨i, hi, by rw [h.p i hi, h.p w hw, hfw]; omega⟩ hl
    · exact e
  rw [gK_list, due_list]
  unfold dueT
  have h1 : (dueI ph w n).flatMap (fun i => hls (H i w (par (ph w - 1)))) = (dueI ph w n).flatMap fun i => lta X N i w (r w) := by
    refine flat_congr _ fun i hi => ?_
    obtain ⟨hi, hpi⟩ := (dueI_mem ph w i n).1 hi
    have e2 : fpN X N r s i = r w + 1 := by
      have := h.p i hi
      rw [hpi, pw] at this
      omega
    have hq := h.q i w hi hw
    rw [hpi, e2, if_pos ⟨by omega, by omega⟩, show r w + 1 - 1 = r w by omega] at hq
    rw [hq]
    unfold CN cntN
    have hge := fp_ge (X := X) (N := N) (r := r) (s := s) i
    by_cases c9 : r w < r i
    · rw [if_pos c9]; rfl
    · have hri : r i = r w := by omega
      rw [if_neg c9, if_pos hri.symm]
      have hsi : s i = onN X N i (r i) + 1 := by
        rcases Nat.decEq (s i) (onN X N i (r i) + 1) with e9 | e9
        · rw [fp_lo e9] at e2; omega
        · exact e9
      exact ltr_big _ _ _ _ _ _ (by rw [hsi, hri]; omega)
  rw [h1]
  refine due_flat ph w _ n fun i hi hne => h.i2 i w (r w) hi hw ?_ (Nat.le_refl _)
  have := hlo i hi
  have h9 := h.p i hi
  omega
/-- whoever stands still may flip: nobody lower, nobody in an earlier round -/
theorem RS.mayFlip (h : RS X N n Rn r s ph H) {w : Nat} (hw : w < n) (hs : s w = onN X N w (r w)) (h1 : ∀ i, i < n → fpN X N r s w ≤ fpN X N r s i) (h2 : ∀ j, j < n → r w ≤ r j) : ¬ (Low ph n w ∨ sentP H n w (ph w - 1) ∨ dueP H ph n w) := by
  have hfw : fpN X N r s w = r w := fp_lo (by omega)
  rintro (⟨i, hi, hl⟩ | ⟨j, hj, hl⟩ | ⟨i, hi, hpi, hl⟩)
  · have := h1 i hi
    rw [h.p i hi, h.p w hw] at hl
    omega
  · have hq := h.q w j hw hj
    have := h2 j hj
    rw [hfw, if_neg (by omega)] at hq
    rw [hls_nil hq] at hl
    omega
  · have hq := h.q i w hi hw
    have e2 : fpN X N r s i = r w := by
      have := h.p i hi
      rw [hpi, h.p w hw, hfw] at this
      omega
    rw [hpi, e2, if_neg (by omega)] at hq
    rw [hls_nil hq] at hl
    omega
theorem RS.new (X : Nat → Nt) (N n Rn : Nat) (hR : 1 ≤ Rn) : RS X N n Rn (fun _ => 0) (fun _ => 0) (fun _ => 0) noH := by
  have hf : ∀ i, fpN X N (fun _ => 0) (fun _ => 0) i = 0 := fun i => fp_lo (by omega)
  refine ⟨fun i _ => by rw [hf]; rfl, fun i _ => Nat.zero_le _, fun i _ => ⟨Nat.zero_le _, fun _ => rfl⟩, fun i j _ _ => ?_, fun i j _ _ => ?_, fun i j _ _ => Nat.zero_le _, fun i j p _ _ h1 _ => ?_⟩
  · rw [hf]
    unfold CN cntN
    rw [if_neg (Nat.not_lt_zero _), if_pos rfl, ltr_zero]
    rfl
  · rw [hf, if_neg (by omega)]
    rfl
  · rw [hf] at h1; omega
end
end Go.Proofs.Ytkfjcbnhohipgaa
