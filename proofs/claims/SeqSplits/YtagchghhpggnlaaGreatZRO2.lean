import Derived.Test.YtagchghhpggnlaaGreatZSO4
import Derived.Test.YtagchghhpggnlaaGreatZSO9
import Derived.Maps.AppendAt
namespace Go.Proofs.YtagchghhpggnlaaGreat
set_option linter.unusedVariables false
set_option linter.unusedSimpArgs false

/-! ### two runs joined, plainly: what is told and what is left stand one behind the other -/
structure Jn (lo mid hi : Nat) (c : Nat → Se) (i j : Nat) (G : Nat → Se) : Prop where
  stb : Stb klt lo hi c G
  srt : Srt klt lo (lo + i + j) G
  ra : ∀ t, lo + i + j ≤ t → t < mid + j → G t = c (t - j)
  rb : ∀ t, mid + j ≤ t → t < hi → G t = c t
  le : ∀ x y, lo ≤ x → x < lo + i + j → lo + i + j ≤ y → y < hi → klt (G y) (G x) = false
theorem Jn.zero {lo mid hi : Nat} {c : Nat → Se} : Jn lo mid hi c 0 0 c := ⟨Stb.refl _ _ _, Srt.small (by omega), fun t _ _ => rfl, fun _ _ _ => rfl, fun x y a b => by omega⟩
theorem Jn.left {lo mid hi : Nat} {c G : Nat → Se} {i j : Nat} (h : Jn lo mid hi c i j G) (hm : lo + i < mid) (hj : mid + j ≤ hi) (ha : Srt klt lo mid c) (hb : Srt klt mid hi c) (hc : mid + j < hi → klt (c (mid + j)) (c (lo + i)) = false) : Jn lo mid hi c (i + 1) j G := by
  have e0 : G (lo + i + j) = c (lo + i) := by rw [h.ra _ (Nat.le_refl _) (by omega), show lo + i + j - j = lo + i by omega]
  refine ⟨h.stb, fun x y x1 x2 x3 => ?_, fun t t1 t2 => h.ra t (by omega) t2, h.rb, fun x y x1 x2 y1 y2 => ?_⟩
  · by_cases e : y < lo + i + j
    · exact h.srt x y x1 x2 e
    · exact h.le x y x1 (by omega) (by omega) (by omega)
  · by_cases e : x < lo + i + j
    · exact h.le x y x1 e (by omega) y2
    · obtain rfl : x = lo + i + j := by omega
      rw [e0]
      by_cases e2 : y < mid + j
      · rw [h.ra y (by omega) e2]
        exact ha (lo + i) (y - j) (by omega) (by omega) (by omega)
      · rw [h.rb y (by omega) y2]
        exact klt_ord.ntr _ _ _ (hb.le klt_ord (Nat.le_add_right mid j) (show mid + j ≤ y by omega) y2) (hc (by omega))
theorem Jn.right {lo mid hi : Nat} {c G : Nat → Se} {i j : Nat} (h : Jn lo mid hi c i j G) (hm : lo + i ≤ mid) (hj : mid + j < hi) (ha : Srt klt lo mid c) (hb : Srt klt mid hi c) (hc : lo + i < mid → klt (c (mid + j)) (c (lo + i)) = true) : Jn lo mid hi c i (j + 1) (rotF G (lo + i + j) (mid + j) (mid + j + 1)) ∧ rotF G (lo + i + j) (mid + j) (mid + j + 1) (lo + i + j) = c (mid + j) ∧ ∀ t, t < lo + i + j → rotF G (lo + i + j) (mid + j) (mid + j + 1) t = G t := by
  have e1 : mid + j + 1 - (mid + j) = 1 := by omega
  have eb : G (mid + j) = c (mid + j) := h.rb _ (Nat.le_refl _) hj
  have hlow : ∀ t, t < lo + i + j → rotF G (lo + i + j) (mid + j) (mid + j + 1) t = G t := fun t ht => rotF_out G (by omega) (by omega) (.inl ht)
  have hnew : rotF G (lo + i + j) (mid + j) (mid + j + 1) (lo + i + j) = c (mid + j) := by
    rw [rotF_lo G (Nat.le_refl _) (by omega), show lo + i + j + (mid + j - (lo + i + j)) = mid + j by omega, eb]
  have hmid : ∀ t, lo + i + j + 1 ≤ t → t < mid + j + 1 → rotF G (lo + i + j) (mid + j) (mid + j + 1) t = G (t - 1) := fun t t1 t2 => by
    rw [rotF_hi G (by omega) t2, e1]
  have hhi : ∀ t, mid + j + 1 ≤ t → rotF G (lo + i + j) (mid + j) (mid + j + 1) t = G t := fun t ht => rotF_out G (by omega) (by omega) (.inr ht)
  have hgt : ∀ t, lo + i + j ≤ t → t < mid + j → klt (c (mid + j)) (G t) = true := fun t t1 t2 => by
    rw [h.ra t t1 t2]
    exact klt_ord.lt_le (hc (by omega)) (ha.le klt_ord (Nat.le_add_right lo i) (show lo + i ≤ t - j by omega) (by omega))
  refine ⟨⟨h.stb.trans ((Stb.rot G (by omega) (by omega) fun x y x1 x2 y1 y2 => ?_).widen (by omega) (by omega)), fun x y x1 x2 x3 => ?_, fun t t1 t2 => ?_, fun t t1 t2 => ?_, fun x y x1 x2 y1 y2 => ?_⟩, hnew, hlow⟩
  · obtain rfl : y = mid + j := by omega
    rw [eb]
    exact hgt x x1 x2
  · by_cases e : y < lo + i + j
    · rw [hlow y e, hlow x (by omega)]
      exact h.srt x y x1 x2 e
    · obtain rfl : y = lo + i + j := by omega
      rw [hnew, hlow x x2, ← eb]
      exact h.le x _ x1 x2 (by omega) hj
  · rw [hmid t (by omega) (by omega), h.ra (t - 1) (by omega) (by omega), show t - 1 - j = t - (j + 1) by omega]
  · rw [hhi t (by omega)]
    exact h.rb t (by omega) t2
  · have hy : ∃ z, lo + i + j ≤ z ∧ z < hi ∧ z ≠ mid + j ∧ rotF G (lo + i + j) (mid + j) (mid + j + 1) y = G z := by
      by_cases e : y < mid + j + 1
      · exact ⟨y - 1, by omega, by omega, by omega, hmid y (by omega) e⟩
      · exact ⟨y, by omega, y2, by omega, hhi y (by omega)⟩
    obtain ⟨z, z1, z2, z3, ez⟩ := hy
    rw [ez]
    by_cases e : x < lo + i + j
    · rw [hlow x e]
      exact h.le x z x1 e z1 z2
    · obtain rfl : x = lo + i + j := by omega
      rw [hnew]
      by_cases e2 : z < mid + j
      · exact klt_ord.asym (hgt z z1 e2)
      · rw [h.rb z (by omega) z2]
        exact hb (mid + j) z (by omega) (by omega) z2
theorem se_app (O Q : Nat → Se) (n : Nat) (e : Se) (h : ∀ k, k < n → Q k = O k) (he : Q n = e) : cellsF (seF O) (n * 6) ++ seL e = cellsF (seF Q) ((n + 1) * 6) := by
  have e6 : seL e = cellsF (fun r => seC e r) 6 := rfl
  rw [e6, cellsF_append, show (n + 1) * 6 = n * 6 + 6 by omega]
  refine cellsF_congr fun j hj => ?_
  by_cases x : j < n * 6
  · rw [if_pos x]
    unfold seF
    rw [h (j / 6) (by omega)]
  · rw [if_neg x]
    unfold seF
    rw [show j / 6 = n by omega, he, show j % 6 = j - n * 6 by omega]
end Go.Proofs.YtagchghhpggnlaaGreat
namespace Go.Proofs.YtagchghhpggnlaaGreat
open Go.ChangeShapes Go.WideShapes Go.ChangeAt Go.RowKit
set_option linter.unusedVariables false
set_option linter.unusedSimpArgs false

theorem SIn.at {W : World} {p : Option Addr} {m : Nat} {X : Nat → Se} (h : SIn W p m X) {i : Nat} (hi : i < m) : ∃ b o, p = some ⟨b, o, none⟩ ∧ b < W.heap.size ∧ W.cell? ⟨b, o + i * 6, none⟩ = some (.int .u64 (X i).t) ∧ W.cell? ⟨b, o + i * 6 + 1, none⟩ = some (.int .i64 (X i).s) ∧ W.cell? ⟨b, o + i * 6 + 2, none⟩ = some (.int .u64 (X i).q) ∧ W.cell? ⟨b, o + i * 6 + 3, none⟩ = some (.int .i64 (X i).d) ∧ W.cell? ⟨b, o + i * 6 + 4, none⟩ = some (.int .i64 (X i).k) ∧ W.cell? ⟨b, o + i * 6 + 5, none⟩ = some (.int .i64 (X i).v) := by
  rcases h with h | ⟨b, o, h1, h2, h3⟩
  · omega
  · have key : ∀ r, r < 6 → W.cell? ⟨b, o + i * 6 + r, none⟩ = some (seC (X i) r) := fun r hr => by
      have := h3 (i * 6 + r) (by omega)
      rw [seF_at _ _ _ hr] at this
      rw [Nat.add_assoc]
      exact this
    exact ⟨b, o, h1, h2, key 0 (by decide), key 1 (by decide), key 2 (by decide), key 3 (by decide), key 4 (by decide), key 5 (by decide)⟩
theorem jm1 {n i j : Nat} (h : i + j < n) : n - (intOf (.int .i64 ((i : Int) + 1))).toNat - (intOf (.int .i64 (j : Int))).toNat < n - (intOf (.int .i64 (i : Int))).toNat - (intOf (.int .i64 (j : Int))).toNat := by
  simp [intOf]
  omega
theorem jm2 {n i j : Nat} (h : i + j < n) : n - (intOf (.int .i64 (i : Int))).toNat - (intOf (.int .i64 ((j : Int) + 1))).toNat < n - (intOf (.int .i64 (i : Int))).toNat - (intOf (.int .i64 (j : Int))).toNat := by
  simp [intOf]
  omega
theorem kc_le (x y : Se) : kc x y ≤ 0 → klt y x = false := by
  intro h
  rw [klt_not]
  have h1 := klt_iff x y
  have h2 : ¬ kc x y < 0 → kc x y = 0 := fun h9 => by omega
  by_cases e : kc x y < 0
  · have : klt x y = true := by unfold klt; simpa using e
    rw [klt_iff] at this
    omega
  · have e0 := h2 e
    unfold kc keyCmp orN at e0
    have a2 := cmpN_z x.t y.t
    have a4 := cmpN_z x.s y.s
    have a6 := cmpN_z x.q y.q
    by_cases b1 : cmpN x.t y.t = 0
    · rw [if_pos b1] at e0
      by_cases b2 : cmpN x.s y.s = 0
      · rw [if_pos b2] at e0
        omega
      · rw [if_neg b2] at e0
        omega
    · rw [if_neg b1] at e0
      omega
theorem kc_gt (x y : Se) (h : ¬ kc x y ≤ 0) : klt y x = true := by
  rw [klt_iff]
  have a1 := cmpN_lt x.t y.t
  have a2 := cmpN_z x.t y.t
  have a3 := cmpN_lt x.s y.s
  have a4 := cmpN_z x.s y.s
  have a5 := cmpN_lt x.q y.q
  have a6 := cmpN_z x.q y.q
  unfold kc keyCmp orN at h
  by_cases b1 : cmpN x.t y.t = 0
  · rw [if_pos b1] at h
    by_cases b2 : cmpN x.s y.s = 0
    · rw [if_pos b2] at h
      omega
    · rw [if_neg b2] at h
      omega
  · rw [if_neg b1] at h
    omega

end Go.Proofs.YtagchghhpggnlaaGreat
