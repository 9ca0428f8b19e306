import Derived.Test.YtomjnncgogkglaaTPHb
namespace Go.Proofs.Ytomjnncgogkglaa
open Go.ChangeShapes Go.WideShapes Go.ChangeAt Go.RowKit
set_option linter.unusedVariables false
set_option linter.unusedSimpArgs false

theorem fmB (L : List (Int × Int)) (j : Nat) (x : Int × Int) (r : Nat) (hr : r < 2) (h : L[j]? = some x) : (L.flatMap bkL)[j * 2 + r]? = (bkL x)[r]? := by
  induction L generalizing j with
  | nil => simp at h
  | cons a l ih =>
    cases j with
    | zero =>
      simp at h
      subst h
      simp only [List.flatMap_cons, Nat.zero_mul, Nat.zero_add]
      rw [List.getElem?_append_left (by simpa [bkL] using hr)]
    | succ j =>
      simp at h
      simp only [List.flatMap_cons]
      rw [List.getElem?_append_right (by simp [bkL]; omega)]
      have e : (j + 1) * 2 + r - (bkL a).length = j * 2 + r := by simp [bkL]; omega
      rw [e]
      exact ih j h
theorem fmB_len (L : List (Int × Int)) : (L.flatMap bkL).length = L.length * 2 := by
  induction L with
  | nil => rfl
  | cons a l ih => rw [List.flatMap_cons, List.length_append, ih]; simp [bkL]; omega
theorem fmB_one (L : List (Int × Int)) : ∀ u ∈ L.flatMap bkL, u.oneCell' = true := fun u hu => by
  obtain ⟨x, _, hx⟩ := List.mem_flatMap.1 hu
  simp [bkL] at hx
  rcases hx with rfl | rfl <;> rfl
def prA (L : List (Int × Int)) (j : Nat) : Int × Int := L.getD j (0, 0)
theorem prA_some {L : List (Int × Int)} {j : Nat} (h : j < L.length) : L[j]? = some (prA L j) := by
  unfold prA
  rw [List.getD_eq_getElem?_getD, List.getElem?_eq_getElem h]
  rfl
theorem rowB_cells {W : World} {base g c : Nat} {L : List (Int × Int)} (h : W.ownsRow base 60 2 (.slice (some ⟨g, 0, none⟩) L.length c) L.length (L.flatMap bkL)) {j : Nat} (hj : j < L.length) : W.cell? ⟨g, j * 2, none⟩ = some (.int .u64 (prA L j).1) ∧ W.cell? ⟨g, j * 2 + 1, none⟩ = some (.int .i64 (prA L j).2) := by
  have key : ∀ r u, r < 2 → (bkL (prA L j))[r]? = some u → W.cell? ⟨g, j * 2 + r, none⟩ = some u := fun r u hr hu => by
    have := h.cells (g := g) rfl (j * 2 + r) u (by rw [fmB L j _ r hr (prA_some hj)]; exact hu)
    rw [addr_add0, Nat.zero_add] at this
    exact this
  exact ⟨key 0 _ (by decide) rfl, key 1 _ (by decide) rfl⟩
theorem rowB_sub {W : World} {base g c : Nat} {L : List (Int × Int)} (h : W.ownsRow base 60 2 (.slice (some ⟨g, 0, none⟩) L.length c) L.length (L.flatMap bkL)) (a : Nat) : (∀ j u, ((L.take a).flatMap bkL)[j]? = some u → W.cell? ((⟨g, 0, none⟩ : Addr).add j) = some u) ∧ (a ≤ L.length → ∀ j u, ((L.drop a).flatMap bkL)[j]? = some u → W.cell? ((⟨g, a * 2, none⟩ : Addr).add j) = some u) := by
  have e : L.flatMap bkL = (L.take a).flatMap bkL ++ (L.drop a).flatMap bkL := by rw [← List.flatMap_append, List.take_append_drop]
  refine ⟨fun j u hu => ?_, fun ha j u hu => ?_⟩
  · refine h.cells (g := g) rfl j u ?_
    rw [e, List.getElem?_append_left (List.getElem?_eq_some_iff.1 hu).1]
    exact hu
  · have := h.cells (g := g) rfl (a * 2 + j) u (by
      rw [e, List.getElem?_append_right (by rw [fmB_len, List.length_take]; omega), fmB_len, List.length_take, show a * 2 + j - min a L.length * 2 = j by omega]
      exact hu)
    rw [addr_add0, Nat.zero_add] at this
    rw [addr_add0]
    exact this
/-- how a rising list parts at a key -/
theorem ris_before {L : List (Int × Int)} {a : Nat} {f : Int} (h : ∀ j, j < a → (prA L j).1 < f) (ha : a ≤ L.length) : ∀ x ∈ L.take a, x.1 < f := fun x hx => by
  obtain ⟨j, hj, e⟩ := List.mem_iff_getElem.1 hx
  have hj' : j < a := by simp at hj; omega
  have := h j hj'
  have e2 := prA_some (L := L) (j := j) (by omega)
  rw [List.getElem_take] at e
  rw [List.getElem?_eq_getElem (by omega), e] at e2
  injection e2 with e2
  rw [e2]
  exact this
theorem ris_behind {L : List (Int × Int)} (hr : Ris L) {a : Nat} {f : Int} (h : a < L.length → f < (prA L a).1) : ∀ x ∈ L.drop a, f < x.1 := fun x hx => by
  rcases Nat.lt_or_ge a L.length with hl | hl
  · have e2 := prA_some hl
    rw [List.getElem?_eq_getElem hl] at e2
    injection e2 with e2
    rw [List.drop_eq_getElem_cons hl, e2] at hx
    have hd : Ris (L.drop a) := List.Pairwise.sublist (List.drop_sublist _ _) hr
    rw [List.drop_eq_getElem_cons hl, e2] at hd
    have := h hl
    rcases List.mem_cons.1 hx with rfl | hx
    · exact this
    · have := (List.pairwise_cons.1 hd).1 x hx
      omega
  · rw [List.drop_eq_nil_of_le hl] at hx
    cases hx
theorem part_at {L : List (Int × Int)} {a : Nat} (hl : a < L.length) : L = L.take a ++ prA L a :: L.drop (a + 1) := by
  have e2 := prA_some hl
  rw [List.getElem?_eq_getElem hl] at e2
  injection e2 with e2
  rw [← e2, ← List.drop_eq_getElem_cons hl, List.take_append_drop]
theorem row_put {W : World} {base : Nat} {t : TypeId} {s g m c : Nat} {xs : List Value} (h : W.ownsRow base t s (.slice (some ⟨g, 0, none⟩) m c) m xs) (o : Nat) (v : Value) : (W.setCell ⟨g, o, none⟩ v).ownsRow base t s (.slice (some ⟨g, 0, none⟩) m c) m (xs.set o v) := by
  have hl : xs.length = m * s := h.1
  have h1 := Own.put (own_of h) o [v]
  have e : cellsF (putF (fun j => xs.getD j undef) o [v]) (m * s) = xs.set o v := by
    apply List.ext_getElem?
    intro j
    by_cases hj : j < m * s
    · rw [cellsF_at _ hj]
      unfold putF
      by_cases e : j = o
      · subst e
        rw [if_pos (by simp), List.getElem?_set_self (by omega)]
        simp
      · rw [if_neg (by simp; omega), List.getElem?_set_ne (fun e9 => e e9.symm)]
        simp only
        rw [List.getD_eq_getElem?_getD, List.getElem?_eq_getElem (by omega)]
        rfl
    · rw [List.getElem?_eq_none (by rw [cellsF_len]; omega), List.getElem?_eq_none (by rw [List.length_set]; omega)]
  have h2 : (W.setCells g o [v]).ownsRow base t s (.slice (some ⟨g, 0, none⟩) m c) m (xs.set o v) := by
    rw [← e]
    exact h1
  exact h2
theorem fmB_set {A D : List (Int × Int)} {k c v : Int} : ((A ++ (k, c) :: D).flatMap bkL).set (A.length * 2 + 1) (.int .i64 v) = (A ++ (k, v) :: D).flatMap bkL := by
  rw [List.flatMap_append, List.flatMap_append, List.flatMap_cons, List.flatMap_cons, List.set_append_right _ _ (by rw [fmB_len]; omega), fmB_len, show A.length * 2 + 1 - A.length * 2 = 1 by omega]
  rfl
end Go.Proofs.Ytomjnncgogkglaa
