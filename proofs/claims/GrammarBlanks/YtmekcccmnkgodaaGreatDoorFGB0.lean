import Derived.Test.YtmekcccmnkgodaaGreatDoorFGI1
namespace Go.Proofs.YtmekcccmnkgodaaGreatDoor
open Go.ChangeShapes Go.WideShapes Go.ChangeAt Go.RowKit
set_option linter.unusedVariables false
set_option linter.unusedSimpArgs false
/-! ### the tree of what was read -/
theorem Sg.kl {md : List Nd} {lo hi : Nat} {l : List Nat} (h : Sg md lo hi l) : l.length ≤ hi - lo := by
  induction h with
  | nil lo => simp
  | @cons lo k hi d ks hd h1 h2 ih1 ih2 =>
    have g1 := h1.le
    have g2 := h2.le
    simp only [List.length_cons]
    omega
theorem Sg.kb {md : List Nd} {lo hi : Nat} {l : List Nat} (h : Sg md lo hi l) : ∀ {a : Nat} {n q : List Nat} {t : List Nd}, Lay md l a n t q → ∀ d ∈ t, d.kids.length ≤ hi - lo := by
  induction h with
  | nil lo => intro a n q t k; cases k; simp
  | @cons lo k hi d ks hd h1 h2 ih1 ih2 =>
    intro a n q t z
    have g1 := h1.le
    have g2 := h2.le
    have g3 := h1.kl
    cases z with
    | cons hd' k1 k2 =>
      rw [hd] at hd'
      injection hd' with hd'
      subst hd'
      intro x hx
      rcases List.mem_cons.1 hx with rfl | hx
      · show List.length _ ≤ _
        have := k1.len.1
        simp only [nk]
        omega
      · rcases List.mem_append.1 hx with hx | hx
        · have := ih1 k1 x hx; omega
        · have := ih2 k2 x hx; omega
theorem Lay.md {md : List Nd} {l n q : List Nat} {t : List Nd} {a : Nat} (h : Lay md l a n t q) : ∀ d ∈ t, ∃ x ∈ q, ∃ d0, md[x]? = some d0 ∧ d.line = d0.line ∧ d.col = d0.col := by
  induction h with
  | nil a => simp
  | @cons k a d cs n1 n2 q1 q2 t1 t2 hd h1 h2 ih1 ih2 =>
    intro x hx
    rcases List.mem_cons.1 hx with rfl | hx
    · exact ⟨k, List.mem_cons_self, d, hd, rfl, rfl⟩
    · rcases List.mem_append.1 hx with hx | hx
      · obtain ⟨y, h3, h4⟩ := ih1 x hx
        exact ⟨y, List.mem_cons_of_mem _ (List.mem_append_left _ h3), h4⟩
      · obtain ⟨y, h3, h4⟩ := ih2 x hx
        exact ⟨y, List.mem_cons_of_mem _ (List.mem_append_right _ h3), h4⟩
theorem scene_len (X : Nat → Tk) (n : Nat) : ∀ (f : Nat) (l : List Nat) (s s' : St) (v : List Nat), P X n f (.sceneL l) s = .ok s' v → s.nx ≤ n → s'.md.length + s.nx ≤ s.md.length + n + 1 := by
  intro f
  induction f with
  | zero => intro l s s' v h; cases h
  | succ f ih =>
    intro l s s' v h hn
    rw [P_sceneL] at h
    split at h
    · obtain ⟨s1, a1, h1, h⟩ := bind_ok h
      have h2 := fr X n _ _ _ _ _ h1
      simp only [Mt.sc, Mt.cr, forall_const] at h2
      have h3 := ih _ _ _ _ h (h2.2.1 hn)
      have h4 := h2.2.2.2.2.2
      omega
    · obtain ⟨e1, e2⟩ := add_md h
      rw [e1]
      simp only [List.length_append, List.length_cons, List.length_nil]
      omega
theorem Sg.nil_inv {md : List Nd} {lo hi : Nat} (h : Sg md lo hi []) : hi = lo := by
  cases h
  rfl
theorem Sg.cons_inv {md : List Nd} {lo hi k : Nat} {ks : List Nat} (h : Sg md lo hi (k :: ks)) : ∃ d, md[k]? = some d ∧ Sg md lo k d.kids ∧ Sg md (k + 1) hi ks := by
  cases h with
  | cons h1 h2 h3 => exact ⟨_, h1, h2, h3⟩
/-- what Build reads -/
def Bld (X : Nat → Tk) (n F : Nat) : Pr (List Nat) := if 16384 < n then .bad ⟨16384, (X 16384).line, (X 16384).col, 34⟩ else P X n (F + 1) .scene ⟨0, 0, []⟩
theorem bld_out (X : Nat → Tk) (n F : Nat) (hF : 20 * n + 10 ≤ F) : Bld X n F ≠ .out := by
  unfold Bld
  split
  · intro h; cases h
  · exact enough X n _ .scene ⟨0, 0, []⟩ trivial (Nat.zero_le _) (by simp only [Mt.rk]; omega)
/-- the tree of what was read -/
def trOf (s : St) (v : List Nat) : List Nd := layF s.md s.md.length (hd v) 0
/-- what is read is a tree -/
structure Whole (s : St) (v : List Nat) (d : Nd) : Prop where
  at' : s.md[hd v]? = some d
  sg : Sg s.md 0 (hd v) d.kids
  top : hd v + 1 = s.md.length
  len : s.md.length ≤ 16385
theorem bld_ok {X : Nat → Tk} {n F : Nat} {s : St} {v : List Nat} (h : Bld X n F = .ok s v) : ∃ d, Whole s v d := by
  unfold Bld at h
  split at h
  · cases h
  · rename_i hn
    obtain ⟨h1, h2, h3⟩ := sg X n _ _ _ _ _ h
    have hv := h2 rfl
    have h4 := h3 0 (.nil 0)
    rw [hv] at h4
    have h5 := scene_len X n _ _ _ _ _ (show P X n F (.sceneL []) ⟨0, 0, []⟩ = .ok s v from h) (Nat.zero_le _)
    simp only [List.length_nil] at h5
    obtain ⟨d, hd', hk, hr⟩ := h4.cons_inv
    exact ⟨d, hd', hk, hr.nil_inv.symm, by omega⟩
theorem Whole.lay {s : St} {v : List Nat} {d : Nd} (h : Whole s v d) {T : List Nd} {q : List Nat} (hL : Lay s.md [hd v] 0 [0] T q) : T = trOf s v := by
  have hS : Sg s.md 0 (hd v + 1) [hd v] := .cons h.at' h.sg (.nil _)
  obtain ⟨q', hL'⟩ := hS.layF s.md.length 0 (by rw [h.top]; omega)
  obtain ⟨-, e, -⟩ := hL'.one hL
  rw [e]
  show layF s.md s.md.length (hd v) 0 ++ [] = _
  rw [List.append_nil]
  rfl
/-- the tree: its root, and what lies in it -/
theorem Whole.form {s : St} {v : List Nat} {d : Nd} (h : Whole s v d) : ∃ (n1 : List Nat) (t1 : List Nd), trOf s v = nk d n1 :: t1 ∧ n1.length = d.kids.length ∧ (trOf s v).length = s.md.length ∧ (∀ x ∈ trOf s v, x.kids.length ≤ 16385) ∧ ∀ x ∈ t1, ∃ y, y < hd v ∧ ∃ d0, s.md[y]? = some d0 ∧ x.line = d0.line ∧ x.col = d0.col := by
  obtain ⟨n1, t1, q1, h1, h2, h3⟩ := h.sg.lay 1
  have hL : Lay s.md [hd v] 0 [0] (nk d n1 :: t1) (hd v :: q1) := by
    have := Lay.cons (a := 0) h.at' h1 (.nil _)
    simpa using this
  have hS : Sg s.md 0 (hd v + 1) [hd v] := .cons h.at' h.sg (.nil _)
  have e := h.lay hL
  refine ⟨n1, t1, e.symm, h1.len.1, ?_, ?_, ?_⟩
  · rw [← e, (hS.size hL).1, h.top]; omega
  · rw [← e]
    intro x hx
    have := hS.kb hL x hx
    have := h.top
    have := h.len
    omega
  · intro x hx
    obtain ⟨y, hy, d0, h4, h5⟩ := h1.md x hx
    exact ⟨y, (h3 y hy).2, d0, h4, h5⟩
end Go.Proofs.YtmekcccmnkgodaaGreatDoor
