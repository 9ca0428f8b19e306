import Derived.Test.YtcifdlncbekohaaDoorSO3
namespace Go.Proofs.YtcifdlncbekohaaDoor
set_option linter.unusedVariables false
set_option linter.unusedSimpArgs false

/-! ### two runs joined, plainly: what is told and what is left stand one behind the other -/
structure Jn (lo mid hi : Nat) (c : Nat → Se) (i j : Nat) (G : Nat → Se) : Prop where
  stb : Stb klt lo hi c G
  srt : Srt klt lo (lo + i + j) G
  ra : ∀ t, lo + i + j ≤ t → t < mid + j → G t = c (t - j)
  rb : ∀ t, mid + j ≤ t → t < hi → G t = c t
  le : ∀ x y, lo ≤ x → x < lo + i + j → lo + i + j ≤ y → y < hi → klt (G y) (G x) = false
theorem Jn.zero {lo mid hi : Nat} {c : Nat → Se} : Jn lo mid hi c 0 0 c := ⟨Stb.refl _ _ _, Srt.small (by omega), fun t _ _ => rfl, fun _ _ _ => rfl, fun x y a b => by omega⟩
theorem Jn.left {lo mid hi : Nat} {c G : Nat → Se} {i j : Nat} (h : Jn lo mid hi c i j G) (hm : lo + i < mid) (hj : mid + j ≤ hi) (ha : Srt klt lo mid c) (hb : Srt klt mid hi c) (hc : mid + j < hi → klt (c (mid + j)) (c (lo + i)) = false) : Jn lo mid hi c (i + 1) j G := by
  have e0 : G (lo + i + j) = c (lo + i) := by rw [h.ra _ (Nat.le_refl _) (by omega), show lo + i + j - j = lo + i by omega]
  refine ⟨h.stb, fun x y x1 x2 x3 => ?_, fun t t1 t2 => h.ra t (by omega) t2, h.rb, fun x y x1 x2 y1 y2 => ?_⟩
  · by_cases e : y < lo + i + j
    · exact h.srt x y x1 x2 e
    · exact h.le x y x1 (by omega) (by omega) (by omega)
  · by_cases e : x < lo + i + j
    · exact h.le x y x1 e (by omega) y2
    · obtain rfl : x = lo + i + j := by omega
      rw [e0]
      by_cases e2 : y < mid + j
      · rw [h.ra y (by omega) e2]
        exact ha (lo + i) (y - j) (by omega) (by omega) (by omega)
      · rw [h.rb y (by omega) y2]
        exact klt_ord.ntr _ _ _ (hb.le klt_ord (Nat.le_add_right mid j) (show mid + j ≤ y by omega) y2) (hc (by omega))
theorem Jn.right {lo mid hi : Nat} {c G : Nat → Se} {i j : Nat} (h : Jn lo mid hi c i j G) (hm : lo + i ≤ mid) (hj : mid + j < hi) (ha : Srt klt lo mid c) (hb : Srt klt mid hi c) (hc : lo + i < mid → klt (c (mid + j)) (c (lo + i)) = true) : Jn lo mid hi c i (j + 1) (rotF G (lo + i + j) (mid + j) (mid + j + 1)) ∧ rotF G (lo + i + j) (mid + j) (mid + j + 1) (lo + i + j) = c (mid + j) ∧ ∀ t, t < lo + i + j → rotF G (lo + i + j) (mid + j) (mid + j + 1) t = G t := by
  have e1 : mid + j + 1 - (mid + j) = 1 := by omega
  have eb : G (mid + j) = c (mid + j) := h.rb _ (Nat.le_refl _) hj
  have hlow : ∀ t, t < lo + i + j → rotF G (lo + i + j) (mid + j) (mid + j + 1) t = G t := fun t ht => rotF_out G (by omega) (by omega) (.inl ht)
  have hnew : rotF G (lo + i + j) (mid + j) (mid + j + 1) (lo + i + j) = c (mid + j) := by
    rw [rotF_lo G (Nat.le_refl _) (by omega), show lo + i + j + (mid + j - (lo + i + j)) = mid + j by omega, eb]
  have hmid : ∀ t, lo + i + j + 1 ≤ t → t < mid + j + 1 → rotF G (lo + i + j) (mid + j) (mid + j + 1) t = G (t - 1) := fun t t1 t2 => by
    rw [rotF_hi G (by omega) t2, e1]
  have hhi : ∀ t, mid + j + 1 ≤ t → rotF G (lo + i + j) (mid + j) (mid + j + 1) t = G t := fun t ht => rotF_out G (by omega) (by omega) (.inr ht)
  have hgt : ∀ t, lo + i + j ≤ t → t < mid + j → klt (c (mid + j)) (G t) = true := fun t t1 t2 => by
    rw [h.ra t t1 t2]
    exact klt_ord.lt_le (hc (by omega)) (ha.le klt_ord (Nat.le_add_right lo i) (show lo + i ≤ t - j by omega) (by omega))
  refine ⟨⟨h.stb.trans ((Stb.rot G (by omega) (by omega) fun x y x1 x2 y1 y2 => ?_).widen (by omega) (by omega)), fun x y x1 x2 x3 => ?_, fun t t1 t2 => ?_, fun t t1 t2 => ?_, fun x y x1 x2 y1 y2 => ?_⟩, hnew, hlow⟩
  · obtain rfl : y = mid + j := by omega
    rw [eb]
    exact hgt x x1 x2
  · by_cases e : y < lo + i + j
    · rw [hlow y e, hlow x (by omega)]
      exact h.srt x y x1 x2 e
    · obtain rfl : y = lo + i + j := by omega
      rw [hnew, hlow x x2, ← eb]
      exact h.le x _ x1 x2 (by omega) hj
  · rw [hmid t (by omega) (by omega), h.ra (t - 1) (by omega) (by omega), show t - 1 - j = t - (j + 1) by omega]
  · rw [hhi t (by omega)]
    exact h.rb t (by omega) t2
  · have hy : ∃ z, lo + i + j ≤ z ∧ z < hi ∧ z ≠ mid + j ∧ rotF G (lo + i + j) (mid + j) (mid + j + 1) y = G z := by
      by_cases e : y < mid + j + 1
      · exact ⟨y - 1, by omega, by omega, by omega, hmid y (by omega) e⟩
      · exact ⟨y, by omega, y2, by omega, hhi y (by omega)⟩
    obtain ⟨z, z1, z2, z3, ez⟩ := hy
    rw [ez]
    by_cases e : x < lo + i + j
    · rw [hlow x e]
      exact h.le x z x1 e z1 z2
    · obtain rfl : x = lo + i + j := by omega
      rw [hnew]
      by_cases e2 : z < mid + j
      · exact klt_ord.asym (hgt z z1 e2)
      · rw [h.rb z (by omega) z2]
        exact hb (mid + j) z (by omega) (by omega) z2
theorem se_app (O Q : Nat → Se) (n : Nat) (e : Se) (h : ∀ k, k < n → Q k = O k) (he : Q n = e) : cellsF (seF O) (n * 6) ++ seL e = cellsF (seF Q) ((n + 1) * 6) := by
  have e6 : seL e = cellsF (fun r => seC e r) 6 := rfl
  rw [e6, cellsF_append, show (n + 1) * 6 = n * 6 + 6 by omega]
  refine cellsF_congr fun j hj => ?_
  by_cases x : j < n * 6
  · rw [if_pos x]
    unfold seF
    rw [h (j / 6) (by omega)]
  · rw [if_neg x]
    unfold seF
    rw [show j / 6 = n by omega, he, show j % 6 = j - n * 6 by omega]
end Go.Proofs.YtcifdlncbekohaaDoor
