import Derived.Test.YtlklolmhaiaaiaaKYPot
import Derived.Test.YtlklolmhaiaaiaaKY13
import Derived.Test.YtlklolmhaiaaiaaKY23
namespace Go.Proofs.Ytlklolmhaiaaiaa
set_option linter.unusedVariables false
set_option linter.unusedSimpArgs false

/-! ### the way that open goes -/
def wyT (sd : Tr → Int) : Tr → Nat
  | .nil => 0
  | .node l x r => if sd (.node l x r) = 2 then 0 else if sd (.node l x r) = 0 then l.bit + wyT sd l else r.bit + wyT sd r
theorem wyT_nil (sd : Tr → Int) : wyT sd .nil = 0 := rfl
theorem wyT_here {sd : Tr → Int} {l r : Tr} {x : Nat} (h : sd (.node l x r) = 2) : wyT sd (.node l x r) = 0 := by simp [wyT, h]
theorem wyT_l {sd : Tr → Int} {l r : Tr} {x : Nat} (h : sd (.node l x r) = 0) : wyT sd (.node l x r) = l.bit + wyT sd l := by simp [wyT, h]
theorem wyT_r {sd : Tr → Int} {l r : Tr} {x : Nat} (h : sd (.node l x r) = 1) : wyT sd (.node l x r) = r.bit + wyT sd r := by simp [wyT, h]
theorem openT_way {sd : Tr → Int} (hs : Side sd) : ∀ (n : Nat) (t : Tr), t.size ≤ n → (openT sd t).k = wyT sd t
  | n, .nil, _ => by rw [openT_nil, wyT_nil]
  | 0, .node a x b, h => by simp [Tr.size] at h
  | n + 1, .node a x b, hn => by
    simp only [Tr.size] at hn
    rcases hs a x b with h | h | h
    · rw [wyT_l h]
      cases a with
      | nil => rw [openT_l h]; rfl
      | node c y d =>
        simp only [Tr.size] at hn
        rcases hs c y d with h2 | h2 | h2
        · have ih := openT_way hs n c (by omega)
          rw [openT_ll h h2, wyT_l h2]; simp only [Tr.bit]; omega
        · have ih := openT_way hs n d (by omega)
          rw [openT_lr h h2, wyT_r h2]; simp only [Tr.bit]; omega
        · rw [openT_lh h h2, wyT_here h2]; simp only [Tr.bit]
    · rw [wyT_r h]
      cases b with
      | nil => rw [openT_r h]; rfl
      | node c y d =>
        simp only [Tr.size] at hn
        rcases hs c y d with h2 | h2 | h2
        · have ih := openT_way hs n c (by omega)
          rw [openT_rl h h2, wyT_l h2]; simp only [Tr.bit]; omega
        · have ih := openT_way hs n d (by omega)
          rw [openT_rr h h2, wyT_r h2]; simp only [Tr.bit]; omega
        · rw [openT_rh h h2, wyT_here h2]; simp only [Tr.bit]
    · rw [openT_here h, wyT_here h]
theorem spots_deep : ∀ (t : Tr) (D : Nat), ∀ s ∈ t.spots D, D ≤ s.2
  | .nil, D, s, h => by simp [Tr.spots] at h
  | .node l x r, D, s, h => by
    simp only [Tr.spots, List.mem_append, List.mem_cons] at h
    rcases h with h | h | h
    · have := spots_deep l (D + 1) s h; omega
    · rw [h]; exact Nat.le_refl _
    · have := spots_deep r (D + 1) s h; omega
def lastD (L : List (Nat × Nat)) : Nat := (L.getLast?.map Prod.snd).getD 0
def headDp (L : List (Nat × Nat)) : Nat := (L.head?.map Prod.snd).getD 0
theorem lastD_app {L M : List (Nat × Nat)} (h : M ≠ []) : lastD (L ++ M) = lastD M := by
  unfold lastD
  rw [List.getLast?_append]
  rw [List.getLast?_eq_some_getLast h]
  rfl
theorem headDp_app {L M : List (Nat × Nat)} (h : L ≠ []) : headDp (L ++ M) = headDp L := by
  unfold headDp
  cases L with
  | nil => exact absurd rfl h
  | cons m L => rfl
theorem lastD_ge {L : List (Nat × Nat)} {D : Nat} (h : ∀ s ∈ L, D ≤ s.2) (hn : L ≠ []) : D ≤ lastD L := by
  unfold lastD
  rw [List.getLast?_eq_some_getLast hn]
  exact h _ (List.getLast_mem hn)
theorem headDp_ge {L : List (Nat × Nat)} {D : Nat} (h : ∀ s ∈ L, D ≤ s.2) (hn : L ≠ []) : D ≤ headDp L := by
  cases L with
  | nil => exact absurd rfl hn
  | cons m L => exact h m (by simp)
theorem spots_nil {t : Tr} {D : Nat} (h : t.spots D = []) : t = .nil := by
  cases t with
  | nil => rfl
  | node l x r => simp [Tr.spots] at h
/-- the way to where the key would lie: the deeper one of its neighbours, or itself -/
theorem way_at {sd : Tr → Int} {σ : Nat → Int} (hσ : ∀ l x r, sd (.node l x r) = σ x) (hs : Side sd) : ∀ (t : Tr) (D : Nat) (L1 L2 : List (Nat × Nat)), t.spots D = L1 ++ L2 → (∀ s ∈ L1, σ s.1 = 1) → (∀ s ∈ L2, σ s.1 ≠ 1) → (t.spots D).Pairwise (fun a b => σ a.1 = 1 ∨ σ b.1 = 0) →
    ((∀ s M, L2 = s :: M → σ s.1 = 2 → wyT sd t + D = s.2) ∧ (t ≠ .nil → (∀ s M, L2 = s :: M → σ s.1 = 0) → wyT sd t + D = max (lastD L1) (headDp L2)))
  | .nil, D, L1, L2, h, h1, h2, hp => by
    simp only [Tr.spots] at h
    have h3 := List.append_eq_nil_iff.1 h.symm
    refine ⟨fun s M e => ?_, fun hn => absurd rfl hn⟩
    rw [h3.2] at e
    exact absurd e (by simp)
  | .node l x r, D, L1, L2, h, h1, h2, hp => by
    simp only [Tr.spots] at h hp
    have hs3 := hs l x r
    rw [hσ] at hs3
    have hpp := List.pairwise_append.1 hp
    have hpr := List.pairwise_cons.1 hpp.2.1
    rcases hs3 with e | e | e
    · -- to the left
      have hx2 : ∃ M2, l.spots (D + 1) = L1 ++ M2 ∧ L2 = M2 ++ (x, D) :: r.spots (D + 1) := by
        rcases List.append_eq_append_iff.1 h with ⟨c, g1, g2⟩ | ⟨c, g1, g2⟩
        · cases c with
          | nil => exact ⟨[], by rw [g1]; simp, by simpa using g2.symm⟩
          | cons m c =>
            have : m = (x, D) := by have := g2; simp at this; exact this.1.symm
            have h9 := h1 m (by rw [g1]; simp)
            rw [this] at h9
            have h9 : σ x = 1 := h9
            omega
        · exact ⟨c, g1, g2⟩
      obtain ⟨M2, g1, g2⟩ := hx2
      have ih := way_at hσ hs l (D + 1) L1 M2 g1 h1 (fun s h => h2 s (by rw [g2]; simp [h])) hpp.1
      rw [wyT_l (by rw [hσ]; exact e)]
      by_cases hl : l = .nil
      · subst hl
        simp only [Tr.spots] at g1
        have g3 := List.append_eq_nil_iff.1 g1.symm
        rw [g3.2] at g2
        refine ⟨fun s M e2 e3 => ?_, fun _ _ => ?_⟩
        · rw [e2] at g2
          simp at g2
          rw [g2.1] at e3
          have e3 : σ x = 2 := e3
          omega
        · rw [g3.1, g2]
          simp [Tr.bit, wyT, lastD, headDp]
      · have hb : l.bit = 1 := by cases l with
          | nil => exact absurd rfl hl
          | node a b c => rfl
        rw [hb]
        have hne : L1 ++ M2 ≠ [] := fun h9 => hl (spots_nil (g1.trans h9))
        refine ⟨fun s M e2 e3 => ?_, fun _ hz => ?_⟩
        · cases M2 with
          | nil =>
            rw [g2] at e2
            simp at e2
            rw [← e2.1] at e3
            have e3 : σ x = 2 := e3
            omega
          | cons m M2 =>
            have e4 : s = m := by rw [g2] at e2; simp at e2; exact e2.1.symm
            have := ih.1 m M2 rfl (by rw [← e4]; exact e3)
            rw [e4]
            omega
        · have hz2 : ∀ s M, M2 = s :: M → σ s.1 = 0 := fun s M e2 => hz s (M ++ (x, D) :: r.spots (D + 1)) (by rw [g2, e2]; rfl)
          have ih2 := ih.2 hl hz2
          have hd1 : ∀ s ∈ L1, D + 1 ≤ s.2 := fun s hs => spots_deep l (D + 1) s (by rw [g1]; simp [hs])
          by_cases hM : M2 = []
          · rw [hM] at g2 ih2 hne
            have h5 : L1 ≠ [] := by simpa using hne
            have h6 := lastD_ge hd1 h5
            have h7 : headDp L2 = D := by rw [g2]; rfl
            have h8 : headDp ([] : List (Nat × Nat)) = 0 := rfl
            rw [h7]
            rw [h8] at ih2
            omega
          · have h7 : headDp L2 = headDp M2 := by rw [g2]; exact headDp_app hM
            rw [h7]
            omega
    · -- to the right
      have hx2 : ∃ M1, r.spots (D + 1) = M1 ++ L2 ∧ L1 = l.spots (D + 1) ++ (x, D) :: M1 := by
        rcases List.append_eq_append_iff.1 h with ⟨c, g1, g2⟩ | ⟨c, g1, g2⟩
        · cases c with
          | nil =>
            have h9 := h2 (x, D) (by
              have g3 : L2 = (x, D) :: r.spots (D + 1) := by simpa using g2.symm
              rw [g3]; simp)
            exact absurd e h9
          | cons m c =>
            have g3 := g2
            simp at g3
            exact ⟨c, g3.2, by rw [g1, ← g3.1]⟩
        · have h9 := h2 (x, D) (by rw [g2]; simp)
          exact absurd e h9
      obtain ⟨M1, g1, g2⟩ := hx2
      have ih := way_at hσ hs r (D + 1) M1 L2 g1 (fun s h => h1 s (by rw [g2]; simp [h])) h2 hpr.2
      rw [wyT_r (by rw [hσ]; exact e)]
      have hlast : M1 ≠ [] → lastD L1 = lastD M1 := fun h9 => by
        have : L1 = (l.spots (D + 1) ++ [(x, D)]) ++ M1 := by rw [g2]; simp
        rw [this]; exact lastD_app h9
      have hlast0 : M1 = [] → lastD L1 = D := fun h9 => by
        rw [g2, h9]
        unfold lastD
        rw [List.getLast?_append]
        simp
      by_cases hr : r = .nil
      · subst hr
        simp only [Tr.spots] at g1
        have g3 := List.append_eq_nil_iff.1 g1.symm
        refine ⟨fun s M e2 e3 => ?_, fun _ _ => ?_⟩
        · rw [g3.2] at e2
          exact absurd e2 (by simp)
        · rw [hlast0 g3.1, g3.2]
          simp [Tr.bit, wyT, headDp]
      · have hb : r.bit = 1 := by cases r with
          | nil => exact absurd rfl hr
          | node a b c => rfl
        rw [hb]
        have hne : M1 ++ L2 ≠ [] := fun h9 => hr (spots_nil (g1.trans h9))
        refine ⟨fun s M e2 e3 => ?_, fun _ hz => ?_⟩
        · have := ih.1 s M e2 e3
          omega
        · have ih2 := ih.2 hr hz
          have hd2 : ∀ s ∈ L2, D + 1 ≤ s.2 := fun s hs => spots_deep r (D + 1) s (by rw [g1]; simp [hs])
          by_cases hM : M1 = []
          · rw [hlast0 hM]
            rw [hM] at ih2 hne
            have h5 : L2 ≠ [] := by simpa using hne
            have h6 := headDp_ge hd2 h5
            have h8 : lastD ([] : List (Nat × Nat)) = 0 := rfl
            rw [h8] at ih2
            omega
          · rw [hlast hM]
            omega
    · -- here
      have hx2 : L1 = l.spots (D + 1) ∧ L2 = (x, D) :: r.spots (D + 1) := by
        rcases List.append_eq_append_iff.1 h with ⟨c, g1, g2⟩ | ⟨c, g1, g2⟩
        · cases c with
          | nil => exact ⟨by rw [g1]; simp, by simpa using g2.symm⟩
          | cons m c =>
            have : m = (x, D) := by have := g2; simp at this; exact this.1.symm
            have h9 := h1 m (by rw [g1]; simp)
            rw [this] at h9
            have h9 : σ x = 1 := h9
            omega
        · cases c with
          | nil => exact ⟨by simpa using g1.symm, by simpa using g2⟩
          | cons m c =>
            have h9 := h2 m (by rw [g2]; simp)
            have h8 := hpp.2.2 m (by rw [g1]; simp) (x, D) (by simp)
            rcases h8 with h8 | h8
            · exact absurd h8 h9
            · have h8 : σ x = 0 := h8
              omega
      obtain ⟨rfl, rfl⟩ := hx2
      rw [wyT_here (by rw [hσ]; exact e)]
      refine ⟨fun s M e2 e3 => ?_, fun _ hz => ?_⟩
      · simp at e2
        rw [← e2.1]
        simp
      · have h9 := hz (x, D) _ rfl
        have h9 : σ x = 0 := h9
        omega
/-- the way to the least one -/
theorem way_least : ∀ (t : Tr) (D : Nat), t ≠ .nil → wyT sdL t + D = headDp (t.spots D)
  | .nil, D, h => absurd rfl h
  | .node l x r, D, _ => by
    cases l with
    | nil => rw [wyT_here (show sdL (.node .nil x r) = 2 from rfl)]; simp [Tr.spots, headDp]
    | node c y d =>
      have ih := way_least (.node c y d) (D + 1) (fun h => nomatch h)
      rw [wyT_l (show sdL (.node (.node c y d) x r) = 0 from rfl)]
      have h7 : headDp ((Tr.node (Tr.node c y d) x r).spots D) = headDp ((Tr.node c y d).spots (D + 1)) := headDp_app (by simp [Tr.spots])
      rw [h7]
      simp only [Tr.bit]
      omega
/-! ### depths of a tree, one by one -/
def upto (a : Nat) : Nat → List Nat
  | 0 => []
  | m + 1 => a :: upto (a + 1) m
theorem upto_len : ∀ (m a : Nat), (upto a m).length = m
  | 0, a => rfl
  | m + 1, a => by simp [upto, upto_len m]
theorem upto_get : ∀ (m a i : Nat), i < m → (upto a m)[i]? = some (a + i)
  | m + 1, a, 0, _ => by simp [upto]
  | m + 1, a, i + 1, h => by
    simp only [upto, List.getElem?_cons_succ]
    rw [upto_get m (a + 1) i (by omega)]
    congr 1
    omega
def StkRun : List Nat → List Nat → List Nat → Prop
  | S, [], S2 => S2 = S
  | S, d :: L, S2 => ∃ S' m, S = S' ++ upto (d + 1) m ∧ (∀ x ∈ S', x < d) ∧ StkRun (S' ++ [d]) L S2
theorem StkRun.app : ∀ {L1 L2 S S1 S2 : List Nat}, StkRun S L1 S1 → StkRun S1 L2 S2 → StkRun S (L1 ++ L2) S2
  | [], L2, S, S1, S2, h1, h2 => by rw [show S1 = S from h1] at h2; exact h2
  | d :: L1, L2, S, S1, S2, ⟨S', m, e, h3, h4⟩, h2 => ⟨S', m, e, h3, h4.app h2⟩
def Tr.rs : Tr → Nat
  | .nil => 0
  | .node _ _ r => r.rs + 1
theorem stkRun_tree : ∀ (t : Tr) (D : Nat) (S : List Nat), (∀ x ∈ S, x < D) → StkRun S ((t.spots D).map Prod.snd) (S ++ upto D t.rs)
  | .nil, D, S, h => by simp [Tr.spots, StkRun, Tr.rs, upto]
  | .node l x r, D, S, h => by
    simp only [Tr.spots, List.map_append, List.map_cons]
    refine (stkRun_tree l (D + 1) S fun x hx => by have := h x hx; omega).app ⟨S, l.rs, rfl, h, ?_⟩
    have := stkRun_tree r (D + 1) (S ++ [D]) (fun x hx => by
      rcases List.mem_append.1 hx with h9 | h9
      · have := h x h9; omega
      · simp at h9; omega)
    simpa [Tr.rs, upto] using this
end Go.Proofs.Ytlklolmhaiaaiaa
