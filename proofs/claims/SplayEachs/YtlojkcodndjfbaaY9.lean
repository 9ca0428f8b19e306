import Derived.Test.YtlojkcodndjfbaaY8
namespace Go.Proofs.Ytlojkcodndjfbaa
open Go.ChangeShapes Go.WideShapes Go.ChangeAt Go.RowKit
set_option linter.unusedVariables false

/-! ### the order of keys -/
theorem keyCmp_lt (t s q t' s' q' : Int) : keyCmp t s q t' s' q' = -1 ↔ t < t' ∨ (t = t' ∧ (s < s' ∨ (s = s' ∧ q < q'))) := by
  unfold keyCmp orN cmpN
  repeat' split
  all_goals omega
theorem keyCmp_gt (t s q t' s' q' : Int) : keyCmp t s q t' s' q' = 1 ↔ t' < t ∨ (t = t' ∧ (s' < s ∨ (s = s' ∧ q' < q))) := by
  unfold keyCmp orN cmpN
  repeat' split
  all_goals omega
theorem keyCmp_eq (t s q t' s' q' : Int) : keyCmp t s q t' s' q' = 0 ↔ t = t' ∧ s = s' ∧ q = q' := by
  unfold keyCmp orN cmpN
  repeat' split
  all_goals omega
def keyLt (a b : Ev) : Prop := cmpE a.t a.s a.q b = -1
theorem keyLt_iff (a b : Ev) : keyLt a b ↔ a.t < b.t ∨ (a.t = b.t ∧ (a.s < b.s ∨ (a.s = b.s ∧ a.q < b.q))) := keyCmp_lt _ _ _ _ _ _
/-- a side for each place, by a key -/
def sK (kt ks kq : Int) (E : Nat → Ev) (p : Nat) : Int := sideOf (cmpE kt ks kq (E p))
theorem sK_0 {kt ks kq : Int} {E : Nat → Ev} {p : Nat} : sK kt ks kq E p = 0 ↔ cmpE kt ks kq (E p) = -1 := by
  have := keyCmp_three kt ks kq (E p).t (E p).s (E p).q
  unfold sK sideOf cmpE
  repeat' split
  all_goals omega
theorem sK_1 {kt ks kq : Int} {E : Nat → Ev} {p : Nat} : sK kt ks kq E p = 1 ↔ cmpE kt ks kq (E p) = 1 := by
  have := keyCmp_three kt ks kq (E p).t (E p).s (E p).q
  unfold sK sideOf cmpE
  repeat' split
  all_goals omega
theorem sK_2 {kt ks kq : Int} {E : Nat → Ev} {p : Nat} : sK kt ks kq E p = 2 ↔ cmpE kt ks kq (E p) = 0 := by
  have := keyCmp_three kt ks kq (E p).t (E p).s (E p).q
  unfold sK sideOf cmpE
  repeat' split
  all_goals omega
theorem mono_sK (kt ks kq : Int) (E : Nat → Ev) {l : List Nat} (h : l.Pairwise fun p q => keyLt (E p) (E q)) : l.Pairwise fun p q => sK kt ks kq E p = 1 ∨ sK kt ks kq E q = 0 := h.imp fun {p q} hpq => by
  rw [sK_1, sK_0]
  unfold cmpE
  rw [keyLt_iff] at hpq
  rw [keyCmp_gt, keyCmp_lt]
  omega
/-- open parts the places by their sides -/
theorem openT_side {s : Nat → Int} {sd : Tr → Int} (hs : Side sd) (he : ∀ l p r, sd (.node l p r) = s p) : ∀ (n : Nat) (t : Tr), t.size ≤ n → (∀ p ∈ t.ps, p ≠ 0) → t.ps.Pairwise (fun p q => s p = 1 ∨ s q = 0) → (∀ p ∈ (openT sd t).a.ps, s p = 1) ∧ (∀ p ∈ (openT sd t).b.ps, s p = 0) ∧ ((openT sd t).m ≠ 0 → s (openT sd t).m = 2)
  | n, .nil, _, _, _ => by rw [openT_nil]; exact ⟨fun p hp => (by cases hp), fun p hp => (by cases hp), fun h => absurd rfl h⟩
  | 0, .node a x b, h, _, _ => by simp [Tr.size] at h
  | n + 1, .node a x b, hn, hp, hm => by
    simp only [Tr.size] at hn
    have hx : s x = sd (.node a x b) := (he _ _ _).symm
    simp only [Tr.ps] at hm
    rw [List.pairwise_append, List.pairwise_cons] at hm
    obtain ⟨ma, ⟨mx, mb⟩, mab⟩ := hm
    have hax : ∀ p ∈ a.ps, s p = 1 ∨ s x = 0 := fun p hq => mab p hq x (by simp)
    rcases hs a x b with h | h | h
    · have hb0 : ∀ p ∈ b.ps, s p = 0 := fun p hq => by
        rcases mx p hq with h1 | h1
        · omega
        · exact h1
      cases a with
      | nil =>
        rw [openT_l h]
        refine ⟨fun p hq => (by cases hq), fun p hq => ?_, fun h => absurd rfl h⟩
        simp [Tr.ps] at hq
        rcases hq with rfl | hq
        · omega
        · exact hb0 p hq
      | node c y d =>
        simp only [Tr.size] at hn
        have hy : s y = sd (.node c y d) := (he _ _ _).symm
        simp only [Tr.ps] at ma
        rw [List.pairwise_append, List.pairwise_cons] at ma
        obtain ⟨mc, ⟨my, md⟩, mcd⟩ := ma
        have hdq : ∀ p ∈ d.ps, s y = 1 ∨ s p = 0 := fun p hq => my p hq
        have hcq : ∀ p ∈ c.ps, s p = 1 ∨ s y = 0 := fun p hq => mcd p hq y (by simp)
        rcases hs c y d with h2 | h2 | h2
        · obtain ⟨i1, i2, i3⟩ := openT_side hs he n c (by omega) (fun p hq => hp p (by simp [Tr.ps, hq])) mc
          rw [openT_ll h h2]
          refine ⟨i1, fun p hq => ?_, i3⟩
          simp [Tr.ps] at hq
          rcases hq with hq | rfl | hq | rfl | hq
          · exact i2 p hq
          · omega
          · rcases hdq p hq with h3 | h3
            · omega
            · exact h3
          · omega
          · exact hb0 p hq
        · obtain ⟨i1, i2, i3⟩ := openT_side hs he n d (by omega) (fun p hq => hp p (by simp [Tr.ps, hq])) md
          rw [openT_lr h h2]
          refine ⟨fun p hq => ?_, fun p hq => ?_, i3⟩
          · simp [Tr.ps] at hq
            rcases hq with hq | rfl | hq
            · rcases hcq p hq with h3 | h3
              · exact h3
              · omega
            · omega
            · exact i1 p hq
          · simp [Tr.ps] at hq
            rcases hq with hq | rfl | hq
            · exact i2 p hq
            · omega
            · exact hb0 p hq
        · rw [openT_lh h h2]
          refine ⟨fun p hq => ?_, fun p hq => ?_, fun _ => by rw [hy, h2]⟩
          · rcases hcq p hq with h3 | h3
            · exact h3
            · omega
          · simp [Tr.ps] at hq
            rcases hq with hq | rfl | hq
            · rcases hdq p hq with h3 | h3
              · omega
              · exact h3
            · omega
            · exact hb0 p hq
    · have ha1 : ∀ p ∈ a.ps, s p = 1 := fun p hq => by
        rcases hax p hq with h1 | h1
        · exact h1
        · omega
      cases b with
      | nil =>
        rw [openT_r h]
        refine ⟨fun p hq => ?_, fun p hq => (by cases hq), fun h => absurd rfl h⟩
        simp [Tr.ps] at hq
        rcases hq with hq | rfl
        · exact ha1 p hq
        · omega
      | node c y d =>
        simp only [Tr.size] at hn
        have hy : s y = sd (.node c y d) := (he _ _ _).symm
        simp only [Tr.ps] at mb
        rw [List.pairwise_append, List.pairwise_cons] at mb
        obtain ⟨mc, ⟨my, md⟩, mcd⟩ := mb
        have hdq : ∀ p ∈ d.ps, s y = 1 ∨ s p = 0 := fun p hq => my p hq
        have hcq : ∀ p ∈ c.ps, s p = 1 ∨ s y = 0 := fun p hq => mcd p hq y (by simp)
        rcases hs c y d with h2 | h2 | h2
        · obtain ⟨i1, i2, i3⟩ := openT_side hs he n c (by omega) (fun p hq => hp p (by simp [Tr.ps, hq])) mc
          rw [openT_rl h h2]
          refine ⟨fun p hq => ?_, fun p hq => ?_, i3⟩
          · simp [Tr.ps] at hq
            rcases hq with hq | rfl | hq
            · exact ha1 p hq
            · omega
            · exact i1 p hq
          · simp [Tr.ps] at hq
            rcases hq with hq | rfl | hq
            · exact i2 p hq
            · omega
            · rcases hdq p hq with h3 | h3
              · omega
              · exact h3
        · obtain ⟨i1, i2, i3⟩ := openT_side hs he n d (by omega) (fun p hq => hp p (by simp [Tr.ps, hq])) md
          rw [openT_rr h h2]
          refine ⟨fun p hq => ?_, i2, i3⟩
          simp [Tr.ps] at hq
          rcases hq with hq | rfl | hq | rfl | hq
          · exact ha1 p hq
          · omega
          · rcases hcq p hq with h3 | h3
            · exact h3
            · omega
          · omega
          · exact i1 p hq
        · rw [openT_rh h h2]
          refine ⟨fun p hq => ?_, fun p hq => ?_, fun _ => by rw [hy, h2]⟩
          · simp [Tr.ps] at hq
            rcases hq with hq | rfl | hq
            · exact ha1 p hq
            · omega
            · rcases hcq p hq with h3 | h3
              · exact h3
              · omega
          · rcases hdq p hq with h3 | h3
            · omega
            · exact h3
    · rw [openT_here h]
      refine ⟨fun p hq => ?_, fun p hq => ?_, fun _ => by rw [hx, h]⟩
      · rcases hax p hq with h1 | h1
        · exact h1
        · omega
      · rcases mx p hq with h1 | h1
        · omega
        · exact h1
/-! ### a queue as it lies -/
def FLs (L : Nat → Nat) : List Nat → Prop
  | [] => True
  | p :: rest => L p = rest.headD 0 ∧ FLs L rest
theorem FLs.congr {L L' : Nat → Nat} : ∀ {l : List Nat}, FLs L l → (∀ p ∈ l, L' p = L p) → FLs L' l
  | [], _, _ => trivial
  | p :: rest, h, hc => ⟨(hc p (by simp)).trans h.1, FLs.congr h.2 fun q hq => hc q (by simp [hq])⟩
structure QI (W : World) (base qb g c n : Nat) (A : Ar) (t : Tr) (fl : List Nat) (root : Nat) (room work : Int) : Prop where
  q : QW W base qb g c n A ((fl.headD 0 : Nat) : Int) root t.size room work
  ti : t.lies A.L A.R root
  fr : FLs A.L fl
  nd : (t.ps ++ fl).Nodup
  inr : ∀ p ∈ t.ps ++ fl, p ≠ 0 ∧ p < n
  cnt : t.size + fl.length + 1 = n
  z : A.L 0 = 0 ∧ A.R 0 = 0
  nr : (n : Int) ≤ room + 1
  rm : 1 ≤ room ∧ room ≤ 8192
  srt : t.ps.Pairwise fun p q => keyLt (A.E p) (A.E q)
  wk : 0 ≤ work
theorem QI.ndT {W : World} {base qb g c n : Nat} {A : Ar} {t : Tr} {fl : List Nat} {root : Nat} {room work : Int} (h : QI W base qb g c n A t fl root room work) : t.ps.Nodup := (List.nodup_append.1 h.nd).1
theorem QI.inT {W : World} {base qb g c n : Nat} {A : Ar} {t : Tr} {fl : List Nat} {root : Nat} {room work : Int} (h : QI W base qb g c n A t fl root room work) : ∀ p ∈ t.ps, p < n := fun p hp => (h.inr p (by simp [hp])).2
theorem QI.neT {W : World} {base qb g c n : Nat} {A : Ar} {t : Tr} {fl : List Nat} {root : Nat} {room work : Int} (h : QI W base qb g c n A t fl root room work) : ∀ p ∈ t.ps, p ≠ 0 := fun p hp => (h.inr p (by simp [hp])).1
theorem QI.n1 {W : World} {base qb g c n : Nat} {A : Ar} {t : Tr} {fl : List Nat} {root : Nat} {room work : Int} (h : QI W base qb g c n A t fl root room work) : 0 < n ∧ n ≤ 8193 ∧ t.size ≤ 8192 := by
  have := h.cnt
  have := h.nr
  have := h.rm
  omega
end Go.Proofs.Ytlojkcodndjfbaa
