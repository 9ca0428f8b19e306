import Derived.Test.YtcifdlncbekohaaDoorSO1
namespace Go.Proofs.YtcifdlncbekohaaDoor
set_option linter.unusedVariables false
set_option linter.unusedSimpArgs false
variable {α : Type} {lt : α → α → Bool}

/-! ### sorted stretches -/
def Srt (lt : α → α → Bool) (a b : Nat) (c : Nat → α) : Prop := ∀ i j, a ≤ i → i < j → j < b → lt (c j) (c i) = false
theorem Srt.small {a b : Nat} {c : Nat → α} (h : b ≤ a + 1) : Srt lt a b c := fun i j _ _ _ => by omega
theorem Srt.sub {a b a' b' : Nat} {c : Nat → α} (h : Srt lt a b c) (ha : a ≤ a') (hb : b' ≤ b) : Srt lt a' b' c := fun i j h1 h2 h3 => h i j (by omega) h2 (by omega)
theorem Srt.congr {a b : Nat} {c d : Nat → α} (h : Srt lt a b c) (he : ∀ i, a ≤ i → i < b → d i = c i) : Srt lt a b d := fun i j h1 h2 h3 => by rw [he i h1 (by omega), he j (by omega) h3]; exact h i j h1 h2 h3
theorem Srt.le (ho : SOrd lt) {a b : Nat} {c : Nat → α} (h : Srt lt a b c) {i j : Nat} (h1 : a ≤ i) (h2 : i ≤ j) (h3 : j < b) : lt (c j) (c i) = false := by
  by_cases e : i = j
  · subst e; exact ho.irr _
  · exact h i j h1 (by omega) h3
/-- two sorted stretches, the one below the other -/
theorem Srt.join {a m b : Nat} {c : Nat → α} (h1 : Srt lt a m c) (h2 : Srt lt m b c) (hx : ∀ x y, a ≤ x → x < m → m ≤ y → y < b → lt (c y) (c x) = false) : Srt lt a b c := fun i j x y z => by
  by_cases e1 : j < m
  · exact h1 i j x y e1
  · by_cases e2 : i < m
    · exact hx i j x e2 (by omega) z
    · exact h2 i j (by omega) y z
theorem rotF_lo (c : Nat → α) {a m b i : Nat} (h : a ≤ i) (h2 : i < a + (b - m)) : rotF c a m b i = c (i + (m - a)) := if_pos ⟨h, h2⟩
theorem rotF_hi (c : Nat → α) {a m b i : Nat} (h : a + (b - m) ≤ i) (h2 : i < b) : rotF c a m b i = c (i - (b - m)) := by
  unfold rotF
  rw [if_neg (by omega), if_pos ⟨h, h2⟩]
theorem rotF_out (c : Nat → α) {a m b i : Nat} (hm : m ≤ b) (ham : a ≤ m) (h : i < a ∨ b ≤ i) : rotF c a m b i = c i := by
  unfold rotF
  rw [if_neg (by omega), if_neg (by omega)]
/-- one is put in among those ahead of it -/
theorem ins_right (ho : SOrd lt) {a i j : Nat} {c : Nat → α} (ha : a ≤ j) (hj : j ≤ i) (hs : Srt lt a i c) (h1 : ∀ x, j ≤ x → x < i → lt (c i) (c x) = true) (h2 : a < j → lt (c i) (c (j - 1)) = false) : Stb lt a (i + 1) c (rotF c j i (i + 1)) ∧ Srt lt a (i + 1) (rotF c j i (i + 1)) := by
  have e1 : i + 1 - i = 1 := by omega
  refine ⟨(Stb.rot c hj (by omega) fun x y a1 a2 a3 a4 => ?_).widen ha (Nat.le_refl _), ?_⟩
  · obtain rfl : y = i := by omega
    exact h1 x a1 a2
  · have at_j : rotF c j i (i + 1) j = c i := by
      rw [rotF_lo c (Nat.le_refl _) (by omega)]
      congr 1
      omega
    have at_hi : ∀ x, j < x → x < i + 1 → rotF c j i (i + 1) x = c (x - 1) := fun x x1 x2 => by
      rw [rotF_hi c (by omega) x2, e1]
    have at_lo : ∀ x, x < j → rotF c j i (i + 1) x = c x := fun x x1 => rotF_out c (by omega) hj (.inl x1)
    intro x y x1 x2 x3
    by_cases b1 : y < j
    · rw [at_lo x (by omega), at_lo y b1]
      exact hs x y x1 x2 (by omega)
    · by_cases b2 : y = j
      · rw [b2, at_j, at_lo x (by omega)]
        have h3 := h2 (by omega)
        have h4 := hs.le ho x1 (show x ≤ j - 1 by omega) (by omega)
        exact ho.ntr _ _ _ h3 h4
      · rw [at_hi y (by omega) x3]
        by_cases b3 : x < j
        · rw [at_lo x b3]
          exact hs x (y - 1) x1 (by omega) (by omega)
        · by_cases b4 : x = j
          · rw [b4, at_j]
            exact ho.asym (h1 (y - 1) (by omega) (by omega))
          · rw [at_hi x (by omega) (by omega)]
            exact hs (x - 1) (y - 1) (by omega) (by omega) (by omega)
/-- one is put in among those behind it -/
theorem ins_left (ho : SOrd lt) {a b j : Nat} {c : Nat → α} (hj : a + 1 ≤ j) (hb : j ≤ b) (hs : Srt lt (a + 1) b c) (h1 : a + 1 < j → lt (c (j - 1)) (c a) = true) (h2 : j < b → lt (c j) (c a) = false) : Stb lt a b c (rotF c a (a + 1) j) ∧ Srt lt a b (rotF c a (a + 1) j) := by
  have e1 : a + 1 - a = 1 := by omega
  have hlt : ∀ y, a + 1 ≤ y → y < j → lt (c y) (c a) = true := fun y y1 y2 => ho.le_lt (hs.le ho y1 (show y ≤ j - 1 by omega) (by omega)) (h1 (by omega))
  refine ⟨(Stb.rot c (by omega) hj fun x y a1 a2 a3 a4 => ?_).widen (Nat.le_refl _) hb, ?_⟩
  · obtain rfl : x = a := by omega
    exact hlt y a3 a4
  · have at_lo : ∀ x, a ≤ x → x < j - 1 → rotF c a (a + 1) j x = c (x + 1) := fun x x1 x2 => by
      rw [rotF_lo c x1 (by omega), e1]
    have at_j : rotF c a (a + 1) j (j - 1) = c a := by
      rw [rotF_hi c (by omega) (by omega)]
      congr 1
      omega
    have at_hi : ∀ x, j ≤ x → rotF c a (a + 1) j x = c x := fun x x1 => rotF_out c hj (by omega) (.inr x1)
    intro x y x1 x2 x3
    by_cases b1 : y < j - 1
    · rw [at_lo x x1 (by omega), at_lo y (by omega) b1]
      exact hs _ _ (by omega) (by omega) (by omega)
    · by_cases b2 : y = j - 1
      · rw [b2, at_j, at_lo x x1 (by omega)]
        exact ho.asym (hlt (x + 1) (by omega) (by omega))
      · rw [at_hi y (by omega)]
        by_cases b3 : x < j - 1
        · rw [at_lo x x1 b3]
          exact hs _ _ (by omega) (by omega) x3
        · by_cases b4 : x = j - 1
          · rw [b4, at_j]
            have h3 := h2 (by omega)
            exact ho.ntr _ _ _ (hs.le ho (show a + 1 ≤ j by omega) (show j ≤ y by omega) x3) h3
          · rw [at_hi x (by omega)]
            exact hs _ _ (by omega) x2 x3
/-- the symmetric merge's cut -/
theorem sym_key (ho : SOrd lt) {a m b s e mid : Nat} {c : Nat → α} (h1 : a ≤ s) (h2 : s ≤ m) (h3 : m ≤ e) (h4 : e ≤ b) (hmid : mid + m = s + e) (hu : Srt lt a m c) (hv : Srt lt m b c) (hlo : a < s → e < b → lt (c e) (c (s - 1)) = false) (hhi : s < m → m < e → lt (c (e - 1)) (c s) = true) :
    Stb lt s e c (rotF c s m e) ∧ (Srt lt a s (rotF c s m e) ∧ Srt lt s mid (rotF c s m e)) ∧ (Srt lt mid e (rotF c s m e) ∧ Srt lt e b (rotF c s m e)) ∧ ∀ x y, a ≤ x → x < mid → mid ≤ y → y < b → lt (rotF c s m e y) (rotF c s m e x) = false := by
  have hlt : ∀ x y, s ≤ x → x < m → m ≤ y → y < e → lt (c y) (c x) = true := fun x y a1 a2 a3 a4 => by
    have k := hhi (by omega) (by omega)
    have k1 := ho.le_lt (hv.le ho a3 (show y ≤ e - 1 by omega) (by omega)) k
    exact ho.lt_le k1 (hu.le ho h1 a1 a2)
  have d_lo : ∀ x, x < s → rotF c s m e x = c x := fun x x1 => rotF_out c h3 h2 (.inl x1)
  have d_v : ∀ x, s ≤ x → x < mid → rotF c s m e x = c (x + (m - s)) := fun x x1 x2 => rotF_lo c x1 (by omega)
  have d_u : ∀ x, mid ≤ x → x < e → rotF c s m e x = c (x - (e - m)) := fun x x1 x2 => rotF_hi c (by omega) x2
  have d_hi : ∀ x, e ≤ x → rotF c s m e x = c x := fun x x1 => rotF_out c h3 h2 (.inr x1)
  refine ⟨Stb.rot c h2 h3 hlt, ⟨?_, ?_⟩, ⟨?_, ?_⟩, ?_⟩
  · exact (hu.sub (Nat.le_refl _) h2).congr fun i i1 i2 => d_lo i i2
  · intro i j i1 i2 i3
    rw [d_v i i1 (by omega), d_v j (by omega) i3]
    exact hv _ _ (by omega) (by omega) (by omega)
  · intro i j i1 i2 i3
    rw [d_u i i1 (by omega), d_u j (by omega) i3]
    exact hu _ _ (by omega) (by omega) (by omega)
  · exact (hv.sub h3 (Nat.le_refl _)).congr fun i i1 i2 => d_hi i i1
  · intro x y x1 x2 x3 x4
    by_cases b1 : x < s
    · rw [d_lo x b1]
      by_cases b2 : y < e
      · rw [d_u y x3 b2]
        exact hu.le ho x1 (by omega) (by omega)
      · rw [d_hi y (by omega)]
        have k := hlo (by omega) (by omega)
        have k1 := hu.le ho x1 (show x ≤ s - 1 by omega) (by omega)
        have k2 := hv.le ho h3 (show e ≤ y by omega) x4
        exact ho.ntr _ _ _ k2 (ho.ntr _ _ _ k k1)
    · rw [d_v x (by omega) x2]
      by_cases b2 : y < e
      · rw [d_u y x3 b2]
        exact ho.asym (hlt _ _ (by omega) (by omega) (by omega) (by omega))
      · rw [d_hi y (by omega)]
        exact hv.le ho (by omega) (by omega) x4
/-- both halves are merged -/
theorem sym_join {a mid b : Nat} {d e f : Nat → α} (h1 : a ≤ mid) (h2 : mid ≤ b) (hx : ∀ x y, a ≤ x → x < mid → mid ≤ y → y < b → lt (d y) (d x) = false) (hs1 : Stb lt a mid d e) (hr1 : Srt lt a mid e) (hs2 : Stb lt mid b e f) (hr2 : Srt lt mid b f) : Stb lt a b d f ∧ Srt lt a b f := by
  refine ⟨(hs1.widen (Nat.le_refl _) h2).trans (hs2.widen h1 (Nat.le_refl _)), ?_⟩
  refine Srt.join (hr1.congr fun i i1 i2 => hs2.same (by omega)) hr2 fun x y x1 x2 x3 x4 => ?_
  rw [hs2.same (i := x) (by omega)]
  obtain ⟨y', y1, y2, hy⟩ := hs2.from x3 x4
  obtain ⟨x', z1, z2, hz⟩ := hs1.from x1 x2
  rw [hy, hz, hs1.same (i := y') (by omega)]
  exact hx x' y' z1 z2 y1 y2
/-! ### there is one such list -/
theorem stable_one (ho : SOrd lt) {n : Nat} {c d e : Nat → α} (hd : Stb lt 0 n c d) (sd : Srt lt 0 n d) (he : Stb lt 0 n c e) (se : Srt lt 0 n e) : ∀ i, i < n → d i = e i := by
  obtain ⟨f, g, h⟩ := hd
  obtain ⟨p, q, k⟩ := he
  -- earlier among what came in
  let R : Nat → Nat → Prop := fun x y => lt (c x) (c y) = true ∨ (lt (c y) (c x) = false ∧ x < y)
  have asym : ∀ x y, R x y → ¬ R y x := fun x y h1 h2 => by
    rcases h1 with h1 | ⟨h1, h3⟩
    · rcases h2 with h2 | ⟨h2, _⟩
      · rw [ho.asym h1] at h2; cases h2
      · rw [h1] at h2; cases h2
    · rcases h2 with h2 | ⟨_, h4⟩
      · rw [h1] at h2; cases h2
      · omega
  have mf : ∀ i j, i < j → j < n → R (f i) (f j) := fun i j i1 i2 => by
    have s1 := sd i j (Nat.zero_le _) i1 i2
    rcases h.st i j i1 with x | x
    · rw [h.val, h.val] at s1
      exact .inr ⟨s1, x⟩
    · rw [h.val, h.val] at x
      exact .inl x
  have mp : ∀ i j, i < j → j < n → R (p i) (p j) := fun i j i1 i2 => by
    have s1 := se i j (Nat.zero_le _) i1 i2
    rcases k.st i j i1 with x | x
    · rw [k.val, k.val] at s1
      exact .inr ⟨s1, x⟩
    · rw [k.val, k.val] at x
      exact .inl x
  have gin : ∀ j, j < n → g j < n := fun j hj => by
    by_cases x : g j < n
    · exact x
    · have := h.out (g j) (by omega)
      rw [h.ri] at this
      omega
  have qin : ∀ j, j < n → q j < n := fun j hj => by
    by_cases x : q j < n
    · exact x
    · have := k.out (q j) (by omega)
      rw [k.ri] at this
      omega
  have key : ∀ m, m ≤ n → ∀ i, i < m → f i = p i := by
    intro m
    induction m with
    | zero => intro _ i hi; omega
    | succ m ih =>
      intro hm i hi
      by_cases e1 : i < m
      · exact ih (by omega) i e1
      · obtain rfl : i = m := by omega
        have ih := ih (by omega)
        by_cases e2 : f i = p i
        · exact e2
        · exfalso
          have fi := (h.inr i (Nat.zero_le _) (by omega)).2
          have pi := (k.inr i (Nat.zero_le _) (by omega)).2
          -- p i is f of a later one
          have j1 : i < g (p i) := by
            rcases Nat.lt_trichotomy (g (p i)) i with x | x | x
            · have := ih _ x
              rw [h.ri] at this
              have h2 := congrArg q this
              rw [k.li, k.li] at h2
              omega
            · have := h.ri (p i)
              rw [x] at this
              exact absurd this e2
            · exact x
          have j2 : i < q (f i) := by
            rcases Nat.lt_trichotomy (q (f i)) i with x | x | x
            · have := ih _ x
              rw [k.ri] at this
              have h2 := congrArg g this
              rw [h.li, h.li] at h2
              omega
            · have := k.ri (f i)
              rw [x] at this
              exact absurd this.symm e2
            · exact x
          have r1 := mf i (g (p i)) j1 (gin _ pi)
          rw [h.ri] at r1
          have r2 := mp i (q (f i)) j2 (qin _ fi)
          rw [k.ri] at r2
          exact asym _ _ r1 r2
  intro i hi
  rw [h.val, k.val, key n (Nat.le_refl _) i hi]
end Go.Proofs.YtcifdlncbekohaaDoor
