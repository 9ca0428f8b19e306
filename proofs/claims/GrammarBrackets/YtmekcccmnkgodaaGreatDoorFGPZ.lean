import Derived.Test.YtmekcccmnkgodaaGreatDoorFGP2
namespace Go.Proofs.YtmekcccmnkgodaaGreatDoor
open Go.ChangeShapes Go.WideShapes Go.ChangeAt Go.RowKit
set_option linter.unusedVariables false
set_option linter.unusedSimpArgs false
/-! ### places mean nothing to the tree -/
structure TkS (a b : Tk) : Prop where
  kind : a.kind = b.kind
  text : a.text = b.text
  num : a.num = b.num
theorem TkS.rfl (a : Tk) : TkS a a := ⟨Eq.refl _, Eq.refl _, Eq.refl _⟩
def stp (d : Nd) : Nd := ⟨d.kind, d.name, d.num, d.op, d.kids, 0, 0⟩
def StS (s t : St) : Prop := s.nx = t.nx ∧ s.dp = t.dp ∧ s.md.map stp = t.md.map stp
theorem StS.dec {s t : St} (h : StS s t) : StS ⟨s.nx, s.dp - 1, s.md⟩ ⟨t.nx, t.dp - 1, t.md⟩ := ⟨h.1, by show s.dp - 1 = t.dp - 1; rw [h.2.1], h.2.2⟩
def PrS {α : Type} (R : α → α → Prop) : Pr α → Pr α → Prop
  | .out, .out => True
  | .bad e, .bad e' => e.idx = e'.idx ∧ e.code = e'.code
  | .ok s v, .ok t u => StS s t ∧ R v u
  | _, _ => False
theorem PrS.bind {α β : Type} {R : α → α → Prop} {R' : β → β → Prop} {a b : Pr α} {k k' : St → α → Pr β} (h : PrS R a b) (hk : ∀ s v t u, StS s t → R v u → PrS R' (k s v) (k' t u)) : PrS R' (a.bind k) (b.bind k') := by
  cases a <;> cases b
  · trivial
  · exact h.elim
  · exact h.elim
  · exact h.elim
  · exact h
  · exact h.elim
  · exact h.elim
  · exact h.elim
  · exact hk _ _ _ _ h.1 h.2
theorem kd_sim {X X' : Nat → Tk} {n : Nat} {s t : St} (hX : ∀ i, TkS (X i) (X' i)) (h : StS s t) : kd X n s = kd X' n t := by unfold kd; rw [h.1, (hX t.nx).kind]
theorem refu_sim {α : Type} {R : α → α → Prop} {X X' : Nat → Tk} {n : Nat} {s t : St} (h : StS s t) : PrS R (.bad (refu X n s)) (.bad (refu X' n t)) := by
  unfold refu
  rw [h.1]
  by_cases q : t.nx < n
  · rw [if_pos q, if_pos q]; exact ⟨rfl, rfl⟩
  · rw [if_neg q, if_neg q]; exact ⟨rfl, rfl⟩
theorem take_sim {X X' : Nat → Tk} {n : Nat} {s t : St} (hX : ∀ i, TkS (X i) (X' i)) (h : StS s t) (k : Int) : PrS TkS (take X n k s) (take X' n k t) := by
  have hr : PrS TkS (.bad (refu X n s)) (.bad (refu X' n t)) := refu_sim h
  unfold take
  rw [h.1, (hX t.nx).kind, (hX t.nx).text]
  by_cases q : t.nx < n ∧ (X' t.nx).kind = k
  · rw [if_pos q, if_pos q]
    by_cases q2 : k = 1 ∧ wordP (X' t.nx).text ≠ 1
    · rw [if_pos q2, if_pos q2]; exact hr
    · rw [if_neg q2, if_neg q2]; exact ⟨⟨rfl, h.2.1, h.2.2⟩, hX t.nx⟩
  · rw [if_neg q, if_neg q]; exact hr
theorem enter_sim {X X' : Nat → Tk} {n : Nat} {s t : St} (hX : ∀ i, TkS (X i) (X' i)) (h : StS s t) (k : Int) : PrS TkS (enter X n k s) (enter X' n k t) := by
  unfold enter
  refine PrS.bind (take_sim hX h k) fun s1 a t1 b hs hv => ?_
  rw [hs.2.1]
  by_cases q : 48 < t1.dp + 1
  · rw [if_pos q, if_pos q]; exact ⟨h.1, rfl⟩
  · rw [if_neg q, if_neg q]; exact ⟨⟨hs.1, rfl, hs.2.2⟩, hv⟩
theorem leave_sim {X X' : Nat → Tk} {n : Nat} {s t : St} (hX : ∀ i, TkS (X i) (X' i)) (h : StS s t) (k : Int) : PrS Eq (leave X n k s) (leave X' n k t) := by
  unfold leave
  exact PrS.bind (take_sim hX h k) fun s1 a t1 b hs hv => ⟨hs.dec, rfl⟩
theorem add_sim {s t : St} (h : StS s t) {a b : Tk} {kind : Int} {name : Bs} {num : Nat} {op : Int} {kids : List Nat} : PrS Eq (add a kind name num op kids s) (add b kind name num op kids t) := by
  have hl : s.md.length = t.md.length := by have := congrArg List.length h.2.2; simpa using this
  refine ⟨⟨h.1, h.2.1, ?_⟩, ?_⟩
  · show (s.md ++ [_]).map stp = (t.md ++ [_]).map stp
    rw [List.map_append, List.map_append, h.2.2]
    rfl
  · show [s.md.length] = [t.md.length]
    rw [hl]
def MS (m m' : Mt) : Prop := m = m' ∨ ∃ t t', m = .branch t ∧ m' = .branch t' ∧ TkS t t'
set_option maxHeartbeats 4000000 in
theorem simP (X X' : Nat → Tk) (n : Nat) (hX : ∀ i, TkS (X i) (X' i)) : ∀ (f : Nat) (m m' : Mt) (s t : St), MS m m' → StS s t → PrS Eq (P X n f m s) (P X' n f m' t) := by
  intro f
  induction f with
  | zero => intro m m' s t _ _; trivial
  | succ f ih =>
    have brn : ∀ (a b : Tk) (s t : St), TkS a b → StS s t → PrS Eq (P X n (f + 1) (.branch a) s) (P X' n (f + 1) (.branch b) t) := by
      intro a b s t hab hs0
      rw [P_branch, P_branch]
      refine PrS.bind (ih _ _ _ _ (.inl rfl) hs0) fun s1 a1 t1 b1 hs1 hv1 => ?_
      subst hv1
      refine PrS.bind (ih _ _ _ _ (.inl rfl) hs1) fun s2 a2 t2 b2 hs2 hv2 => ?_
      subst hv2
      rw [kd_sim (n := n) hX hs2 ]
      by_cases q2_3 : kd X' n t2 = 24
      · rw [if_pos q2_3, if_pos q2_3]
        refine PrS.bind (take_sim hX hs2 _) fun s3 a3 t3 b3 hs3 hv3 => ?_
        refine PrS.bind (ih _ _ _ _ (.inl rfl) hs3) fun s4 a4 t4 b4 hs4 hv4 => ?_
        subst hv4
        exact add_sim hs4 
      · rw [if_neg q2_3, if_neg q2_3]
        exact add_sim hs2 
    intro m m' s t hm hs0
    rcases hm with rfl | ⟨a, b, rfl, rfl, hab⟩
    case inr => exact brn a b s t hab hs0
    cases m with
    | bin st =>
      rw [P_bin, P_bin]
      by_cases q0_3 : st = 10
      · rw [if_pos q0_3, if_pos q0_3]
        exact ih _ _ _ _ (.inl rfl) hs0 
      · rw [if_neg q0_3, if_neg q0_3]
        refine PrS.bind (ih _ _ _ _ (.inl rfl) hs0) fun s1 a1 t1 b1 hs1 hv1 => ?_
        subst hv1
        exact ih _ _ _ _ (.inl rfl) hs1 
    | binL st left =>
      rw [P_binL, P_binL]
      rw [kd_sim (n := n) hX hs0 ]
      by_cases q0_3 : bindsP (kd X' n t) = st
      · rw [if_pos q0_3, if_pos q0_3]
        try rw [kd_sim (n := n) hX hs0]
        refine PrS.bind (take_sim hX hs0 _) fun s1 a1 t1 b1 hs1 hv1 => ?_
        refine PrS.bind (ih _ _ _ _ (.inl rfl) hs1) fun s2 a2 t2 b2 hs2 hv2 => ?_
        subst hv2
        rw [hv1.kind]
        refine PrS.bind (add_sim hs2 ) fun s3 a3 t3 b3 hs3 hv3 => ?_
        subst hv3
        by_cases q3_4 : st = 3
        · rw [if_pos q3_4, if_pos q3_4]
          exact ⟨hs3 , rfl⟩
        · rw [if_neg q3_4, if_neg q3_4]
          exact ih _ _ _ _ (.inl rfl) hs3 
      · rw [if_neg q0_3, if_neg q0_3]
        exact ⟨hs0 , rfl⟩
    | una =>
      rw [P_una, P_una]
      rw [kd_sim (n := n) hX hs0 ]
      by_cases q0_3 : isUn (kd X' n t) = true
      · rw [if_pos q0_3, if_pos q0_3]
        try rw [kd_sim (n := n) hX hs0]
        refine PrS.bind (enter_sim hX hs0 _) fun s1 a1 t1 b1 hs1 hv1 => ?_
        refine PrS.bind (ih _ _ _ _ (.inl rfl) hs1) fun s2 a2 t2 b2 hs2 hv2 => ?_
        subst hv2
        have hs2d := hs2.dec
        rw [hv1.kind]
        exact add_sim hs2d 
      · rw [if_neg q0_3, if_neg q0_3]
        exact ih _ _ _ _ (.inl rfl) hs0 
    | atom =>
      rw [P_atom, P_atom]
      rw [kd_sim (n := n) hX hs0 ]
      by_cases q0_3 : kd X' n t = 2
      · rw [if_pos q0_3, if_pos q0_3]
        refine PrS.bind (take_sim hX hs0 _) fun s1 a1 t1 b1 hs1 hv1 => ?_
        rw [hv1.num]
        exact add_sim hs1 
      · rw [if_neg q0_3, if_neg q0_3]
        by_cases q0_4 : kd X' n t = 1
        · rw [if_pos q0_4, if_pos q0_4]
          exact ih _ _ _ _ (.inl rfl) hs0 
        · rw [if_neg q0_4, if_neg q0_4]
          by_cases q0_5 : kd X' n t = 34
          · rw [if_pos q0_5, if_pos q0_5]
            refine PrS.bind (take_sim hX hs0 _) fun s1 a1 t1 b1 hs1 hv1 => ?_
            exact add_sim hs1 
          · rw [if_neg q0_5, if_neg q0_5]
            by_cases q0_6 : kd X' n t = 35
            · rw [if_pos q0_6, if_pos q0_6]
              refine PrS.bind (take_sim hX hs0 _) fun s1 a1 t1 b1 hs1 hv1 => ?_
              exact add_sim hs1 
            · rw [if_neg q0_6, if_neg q0_6]
              by_cases q0_7 : kd X' n t = 36
              · rw [if_pos q0_7, if_pos q0_7]
                refine PrS.bind (take_sim hX hs0 _) fun s1 a1 t1 b1 hs1 hv1 => ?_
                exact add_sim hs1 
              · rw [if_neg q0_7, if_neg q0_7]
                by_cases q0_8 : kd X' n t = 37
                · rw [if_pos q0_8, if_pos q0_8]
                  exact ih _ _ _ _ (.inl rfl) hs0 
                · rw [if_neg q0_8, if_neg q0_8]
                  by_cases q0_9 : kd X' n t = 40
                  · rw [if_pos q0_9, if_pos q0_9]
                    exact ih _ _ _ _ (.inl rfl) hs0 
                  · rw [if_neg q0_9, if_neg q0_9]
                    by_cases q0_10 : kd X' n t = 38
                    · rw [if_pos q0_10, if_pos q0_10]
                      exact ih _ _ _ _ (.inl rfl) hs0 
                    · rw [if_neg q0_10, if_neg q0_10]
                      by_cases q0_11 : kd X' n t = 39
                      · rw [if_pos q0_11, if_pos q0_11]
                        exact ih _ _ _ _ (.inl rfl) hs0 
                      · rw [if_neg q0_11, if_neg q0_11]
                        by_cases q0_12 : kd X' n t = 50
                        · rw [if_pos q0_12, if_pos q0_12]
                          exact ih _ _ _ _ (.inl rfl) hs0 
                        · rw [if_neg q0_12, if_neg q0_12]
                          exact refu_sim hs0 
    | named =>
      rw [P_named, P_named]
      refine PrS.bind (take_sim hX hs0 _) fun s1 a1 t1 b1 hs1 hv1 => ?_
      refine PrS.bind (ih _ _ _ _ (.inl rfl) hs1) fun s2 a2 t2 b2 hs2 hv2 => ?_
      subst hv2
      rw [hv1.text]
      exact add_sim hs2 
    | throw q =>
      rw [P_throw, P_throw]
      try rw [kd_sim (n := n) hX hs0]
      refine PrS.bind (take_sim hX hs0 _) fun s1 a1 t1 b1 hs1 hv1 => ?_
      refine PrS.bind (ih _ _ _ _ (.inl rfl) hs1) fun s2 a2 t2 b2 hs2 hv2 => ?_
      subst hv2
      exact add_sim hs2 
    | choice q =>
      rw [P_choice, P_choice]
      try rw [kd_sim (n := n) hX hs0]
      refine PrS.bind (take_sim hX hs0 _) fun s1 a1 t1 b1 hs1 hv1 => ?_
      refine PrS.bind (enter_sim hX hs1 _) fun s2 a2 t2 b2 hs2 hv2 => ?_
      refine PrS.bind (ih _ _ _ _ (.inl rfl) hs2) fun s3 a3 t3 b3 hs3 hv3 => ?_
      subst hv3
      refine PrS.bind (take_sim hX hs3 _) fun s4 a4 t4 b4 hs4 hv4 => ?_
      refine PrS.bind (ih _ _ _ _ (.inl rfl) hs4) fun s5 a5 t5 b5 hs5 hv5 => ?_
      subst hv5
      refine PrS.bind (leave_sim hX hs5 _) fun s6 a6 t6 b6 hs6 hv6 => ?_
      subst hv6
      exact add_sim hs6 
    | brack =>
      rw [P_brack, P_brack]
      refine PrS.bind (enter_sim hX hs0 _) fun s1 a1 t1 b1 hs1 hv1 => ?_
      refine PrS.bind (ih _ _ _ _ (.inl rfl) hs1) fun s2 a2 t2 b2 hs2 hv2 => ?_
      subst hv2
      refine PrS.bind (leave_sim hX hs2 _) fun s3 a3 t3 b3 hs3 hv3 => ?_
      subst hv3
      exact ⟨hs3 , rfl⟩
    | index =>
      rw [P_index, P_index]
      rw [kd_sim (n := n) hX hs0 ]
      by_cases q0_3 : kd X' n t = 52
      · rw [if_pos q0_3, if_pos q0_3]
        refine PrS.bind (enter_sim hX hs0 _) fun s1 a1 t1 b1 hs1 hv1 => ?_
        refine PrS.bind (ih _ _ _ _ (.inl rfl) hs1) fun s2 a2 t2 b2 hs2 hv2 => ?_
        subst hv2
        refine PrS.bind (leave_sim hX hs2 _) fun s3 a3 t3 b3 hs3 hv3 => ?_
        subst hv3
        exact ⟨hs3 , rfl⟩
      · rw [if_neg q0_3, if_neg q0_3]
        exact ⟨hs0 , rfl⟩
    | value =>
      rw [P_value, P_value]
      refine PrS.bind (take_sim hX hs0 _) fun s1 a1 t1 b1 hs1 hv1 => ?_
      exact ih _ _ _ _ (.inl rfl) hs1 
    | name q =>
      rw [P_name, P_name]
      refine PrS.bind (take_sim hX hs0 _) fun s1 a1 t1 b1 hs1 hv1 => ?_
      rw [hv1.text]
      exact add_sim hs1 
    | scene =>
      rw [P_scene, P_scene]
      exact ih _ _ _ _ (.inl rfl) hs0 
    | sceneL l =>
      rw [P_sceneL, P_sceneL]
      rw [hs0.1]
      by_cases q0_3 : t.nx < n
      · rw [if_pos q0_3, if_pos q0_3]
        refine PrS.bind (ih _ _ _ _ (.inl rfl) hs0) fun s1 a1 t1 b1 hs1 hv1 => ?_
        subst hv1
        exact ih _ _ _ _ (.inl rfl) hs1 
      · rw [if_neg q0_3, if_neg q0_3]
        exact add_sim hs0 
    | item =>
      rw [P_item, P_item]
      rw [kd_sim (n := n) hX hs0 ]
      by_cases q0_3 : 10 ≤ kd X' n t ∧ kd X' n t ≤ 14
      · rw [if_pos q0_3, if_pos q0_3]
        exact ih _ _ _ _ (.inl rfl) hs0 
      · rw [if_neg q0_3, if_neg q0_3]
        by_cases q0_4 : kd X' n t = 15
        · rw [if_pos q0_4, if_pos q0_4]
          exact ih _ _ _ _ (.inl rfl) hs0 
        · rw [if_neg q0_4, if_neg q0_4]
          by_cases q0_5 : kd X' n t = 16
          · rw [if_pos q0_5, if_pos q0_5]
            exact ih _ _ _ _ (.inl rfl) hs0 
          · rw [if_neg q0_5, if_neg q0_5]
            by_cases q0_6 : kd X' n t = 17
            · rw [if_pos q0_6, if_pos q0_6]
              exact ih _ _ _ _ (.inl rfl) hs0 
            · rw [if_neg q0_6, if_neg q0_6]
              by_cases q0_7 : kd X' n t = 20
              · rw [if_pos q0_7, if_pos q0_7]
                exact ih _ _ _ _ (.inl rfl) hs0 
              · rw [if_neg q0_7, if_neg q0_7]
                by_cases q0_8 : kd X' n t = 21
                · rw [if_pos q0_8, if_pos q0_8]
                  exact ih _ _ _ _ (.inl rfl) hs0 
                · rw [if_neg q0_8, if_neg q0_8]
                  exact refu_sim hs0 
    | setting =>
      rw [P_setting, P_setting]
      try rw [kd_sim (n := n) hX hs0]
      refine PrS.bind (take_sim hX hs0 _) fun s1 a1 t1 b1 hs1 hv1 => ?_
      refine PrS.bind (take_sim hX hs1 _) fun s2 a2 t2 b2 hs2 hv2 => ?_
      rw [hv1.kind, hv2.num]
      exact add_sim hs2 
    | constant =>
      rw [P_constant, P_constant]
      refine PrS.bind (take_sim hX hs0 _) fun s1 a1 t1 b1 hs1 hv1 => ?_
      refine PrS.bind (take_sim hX hs1 _) fun s2 a2 t2 b2 hs2 hv2 => ?_
      refine PrS.bind (ih _ _ _ _ (.inl rfl) hs2) fun s3 a3 t3 b3 hs3 hv3 => ?_
      subst hv3
      rw [hv2.text]
      exact add_sim hs3 
    | kinds =>
      rw [P_kinds, P_kinds]
      refine PrS.bind (take_sim hX hs0 _) fun s1 a1 t1 b1 hs1 hv1 => ?_
      refine PrS.bind (ih _ _ _ _ (.inl rfl) hs1) fun s2 a2 t2 b2 hs2 hv2 => ?_
      subst hv2
      refine PrS.bind (ih _ _ _ _ (.inl rfl) hs2) fun s3 a3 t3 b3 hs3 hv3 => ?_
      subst hv3
      exact add_sim hs3 
    | kindsL l =>
      rw [P_kindsL, P_kindsL]
      rw [kd_sim (n := n) hX hs0 ]
      by_cases q0_3 : kd X' n t = 56
      · rw [if_pos q0_3, if_pos q0_3]
        refine PrS.bind (take_sim hX hs0 _) fun s1 a1 t1 b1 hs1 hv1 => ?_
        refine PrS.bind (ih _ _ _ _ (.inl rfl) hs1) fun s2 a2 t2 b2 hs2 hv2 => ?_
        subst hv2
        exact ih _ _ _ _ (.inl rfl) hs2 
      · rw [if_neg q0_3, if_neg q0_3]
        exact ⟨hs0 , rfl⟩
    | ptype =>
      rw [P_ptype, P_ptype]
      refine PrS.bind (take_sim hX hs0 _) fun s1 a1 t1 b1 hs1 hv1 => ?_
      refine PrS.bind (take_sim hX hs1 _) fun s2 a2 t2 b2 hs2 hv2 => ?_
      refine PrS.bind (enter_sim hX hs2 _) fun s3 a3 t3 b3 hs3 hv3 => ?_
      refine PrS.bind (ih _ _ _ _ (.inl rfl) hs3) fun s4 a4 t4 b4 hs4 hv4 => ?_
      subst hv4
      refine PrS.bind (leave_sim hX hs4 _) fun s5 a5 t5 b5 hs5 hv5 => ?_
      subst hv5
      rw [hv2.text]
      exact add_sim hs5 
    | memL l =>
      rw [P_memL, P_memL]
      rw [kd_sim (n := n) hX hs0 ]
      by_cases q0_3 : kd X' n t = 55
      · rw [if_pos q0_3, if_pos q0_3]
        exact ⟨hs0 , rfl⟩
      · rw [if_neg q0_3, if_neg q0_3]
        refine PrS.bind (ih _ _ _ _ (.inl rfl) hs0) fun s1 a1 t1 b1 hs1 hv1 => ?_
        subst hv1
        exact ih _ _ _ _ (.inl rfl) hs1 
    | member =>
      rw [P_member, P_member]
      rw [kd_sim (n := n) hX hs0 ]
      by_cases q0_3 : kd X' n t = 18
      · rw [if_pos q0_3, if_pos q0_3]
        exact ih _ _ _ _ (.inl rfl) hs0 
      · rw [if_neg q0_3, if_neg q0_3]
        by_cases q0_4 : kd X' n t = 19
        · rw [if_pos q0_4, if_pos q0_4]
          exact ih _ _ _ _ (.inl rfl) hs0 
        · rw [if_neg q0_4, if_neg q0_4]
          exact refu_sim hs0 
    | vari =>
      rw [P_vari, P_vari]
      refine PrS.bind (take_sim hX hs0 _) fun s1 a1 t1 b1 hs1 hv1 => ?_
      refine PrS.bind (take_sim hX hs1 _) fun s2 a2 t2 b2 hs2 hv2 => ?_
      refine PrS.bind (ih _ _ _ _ (.inl rfl) hs2) fun s3 a3 t3 b3 hs3 hv3 => ?_
      subst hv3
      rw [kd_sim (n := n) hX hs3 ]
      by_cases q3_3 : kd X' n t3 = 58
      · rw [if_pos q3_3, if_pos q3_3]
        refine PrS.bind (ih _ _ _ _ (.inl rfl) hs3) fun s4 a4 t4 b4 hs4 hv4 => ?_
        subst hv4
        rw [hv2.text]
        exact add_sim hs4 
      · rw [if_neg q3_3, if_neg q3_3]
        rw [hv2.text]
        exact add_sim hs3 
    | handler =>
      rw [P_handler, P_handler]
      refine PrS.bind (take_sim hX hs0 _) fun s1 a1 t1 b1 hs1 hv1 => ?_
      refine PrS.bind (take_sim hX hs1 _) fun s2 a2 t2 b2 hs2 hv2 => ?_
      refine PrS.bind (enter_sim hX hs2 _) fun s3 a3 t3 b3 hs3 hv3 => ?_
      refine PrS.bind (ih _ _ _ _ (.inl rfl) hs3) fun s4 a4 t4 b4 hs4 hv4 => ?_
      subst hv4
      refine PrS.bind (leave_sim hX hs4 _) fun s5 a5 t5 b5 hs5 hv5 => ?_
      subst hv5
      refine PrS.bind (ih _ _ _ _ (.inl rfl) hs5) fun s6 a6 t6 b6 hs6 hv6 => ?_
      subst hv6
      rw [hv2.text]
      exact add_sim hs6 
    | place =>
      rw [P_place, P_place]
      refine PrS.bind (take_sim hX hs0 _) fun s1 a1 t1 b1 hs1 hv1 => ?_
      refine PrS.bind (take_sim hX hs1 _) fun s2 a2 t2 b2 hs2 hv2 => ?_
      refine PrS.bind (ih _ _ _ _ (.inl rfl) hs2) fun s3 a3 t3 b3 hs3 hv3 => ?_
      subst hv3
      refine PrS.bind (take_sim hX hs3 _) fun s4 a4 t4 b4 hs4 hv4 => ?_
      refine PrS.bind (ih _ _ _ _ (.inl rfl) hs4) fun s5 a5 t5 b5 hs5 hv5 => ?_
      subst hv5
      rw [kd_sim (n := n) hX hs5 ]
      by_cases q5_3 : kd X' n t5 = 50
      · rw [if_pos q5_3, if_pos q5_3]
        refine PrS.bind (ih _ _ _ _ (.inl rfl) hs5) fun s6 a6 t6 b6 hs6 hv6 => ?_
        subst hv6
        rw [hv2.text]
        exact add_sim hs6 
      · rw [if_neg q5_3, if_neg q5_3]
        rw [hv2.text]
        exact add_sim hs5 
    | gives =>
      rw [P_gives, P_gives]
      refine PrS.bind (enter_sim hX hs0 _) fun s1 a1 t1 b1 hs1 hv1 => ?_
      refine PrS.bind (ih _ _ _ _ (.inl rfl) hs1) fun s2 a2 t2 b2 hs2 hv2 => ?_
      subst hv2
      refine PrS.bind (ih _ _ _ _ (.inl rfl) hs2) fun s3 a3 t3 b3 hs3 hv3 => ?_
      subst hv3
      refine PrS.bind (leave_sim hX hs3 _) fun s4 a4 t4 b4 hs4 hv4 => ?_
      subst hv4
      exact ⟨hs4 , rfl⟩
    | givesL l =>
      rw [P_givesL, P_givesL]
      rw [kd_sim (n := n) hX hs0 ]
      by_cases q0_3 : kd X' n t = 56
      · rw [if_pos q0_3, if_pos q0_3]
        refine PrS.bind (take_sim hX hs0 _) fun s1 a1 t1 b1 hs1 hv1 => ?_
        refine PrS.bind (ih _ _ _ _ (.inl rfl) hs1) fun s2 a2 t2 b2 hs2 hv2 => ?_
        subst hv2
        exact ih _ _ _ _ (.inl rfl) hs2 
      · rw [if_neg q0_3, if_neg q0_3]
        exact ⟨hs0 , rfl⟩
    | give =>
      rw [P_give, P_give]
      refine PrS.bind (take_sim hX hs0 _) fun s1 a1 t1 b1 hs1 hv1 => ?_
      refine PrS.bind (ih _ _ _ _ (.inl rfl) hs1) fun s2 a2 t2 b2 hs2 hv2 => ?_
      subst hv2
      refine PrS.bind (ih _ _ _ _ (.inl rfl) hs2) fun s3 a3 t3 b3 hs3 hv3 => ?_
      subst hv3
      rw [hv1.text]
      exact add_sim hs3 
    | start =>
      rw [P_start, P_start]
      refine PrS.bind (take_sim hX hs0 _) fun s1 a1 t1 b1 hs1 hv1 => ?_
      refine PrS.bind (take_sim hX hs1 _) fun s2 a2 t2 b2 hs2 hv2 => ?_
      refine PrS.bind (ih _ _ _ _ (.inl rfl) hs2) fun s3 a3 t3 b3 hs3 hv3 => ?_
      subst hv3
      refine PrS.bind (take_sim hX hs3 _) fun s4 a4 t4 b4 hs4 hv4 => ?_
      refine PrS.bind (ih _ _ _ _ (.inl rfl) hs4) fun s5 a5 t5 b5 hs5 hv5 => ?_
      subst hv5
      refine PrS.bind (ih _ _ _ _ (.inl rfl) hs5) fun s6 a6 t6 b6 hs6 hv6 => ?_
      subst hv6
      refine PrS.bind (take_sim hX hs6 _) fun s7 a7 t7 b7 hs7 hv7 => ?_
      refine PrS.bind (take_sim hX hs7 _) fun s8 a8 t8 b8 hs8 hv8 => ?_
      rw [hv2.text, hv8.num]
      exact add_sim hs8 
    | block =>
      rw [P_block, P_block]
      refine PrS.bind (enter_sim hX hs0 _) fun s1 a1 t1 b1 hs1 hv1 => ?_
      refine PrS.bind (ih _ _ _ _ (.inl rfl) hs1) fun s2 a2 t2 b2 hs2 hv2 => ?_
      subst hv2
      refine PrS.bind (leave_sim hX hs2 _) fun s3 a3 t3 b3 hs3 hv3 => ?_
      subst hv3
      exact add_sim hs3 
    | blockL l =>
      rw [P_blockL, P_blockL]
      rw [kd_sim (n := n) hX hs0 ]
      by_cases q0_3 : kd X' n t = 55
      · rw [if_pos q0_3, if_pos q0_3]
        exact ⟨hs0 , rfl⟩
      · rw [if_neg q0_3, if_neg q0_3]
        refine PrS.bind (ih _ _ _ _ (.inl rfl) hs0) fun s1 a1 t1 b1 hs1 hv1 => ?_
        subst hv1
        exact ih _ _ _ _ (.inl rfl) hs1 
    | stmt =>
      rw [P_stmt, P_stmt]
      rw [kd_sim (n := n) hX hs0 ]
      by_cases q0_3 : kd X' n t = 22
      · rw [if_pos q0_3, if_pos q0_3]
        refine PrS.bind (take_sim hX hs0 _) fun s1 a1 t1 b1 hs1 hv1 => ?_
        refine PrS.bind (take_sim hX hs1 _) fun s2 a2 t2 b2 hs2 hv2 => ?_
        refine PrS.bind (ih _ _ _ _ (.inl rfl) hs2) fun s3 a3 t3 b3 hs3 hv3 => ?_
        subst hv3
        rw [hv2.text]
        exact add_sim hs3 
      · rw [if_neg q0_3, if_neg q0_3]
        by_cases q0_4 : kd X' n t = 1
        · rw [if_pos q0_4, if_pos q0_4]
          exact ih _ _ _ _ (.inl rfl) hs0 
        · rw [if_neg q0_4, if_neg q0_4]
          by_cases q0_5 : kd X' n t = 23
          · rw [if_pos q0_5, if_pos q0_5]
            refine PrS.bind (take_sim hX hs0 _) fun s1 a1 t1 b1 hs1 hv1 => ?_
            exact ih _ _ _ _ (.inr ⟨_, _, rfl, rfl, hv1⟩) hs1 
          · rw [if_neg q0_5, if_neg q0_5]
            by_cases q0_6 : kd X' n t = 25
            · rw [if_pos q0_6, if_pos q0_6]
              refine PrS.bind (take_sim hX hs0 _) fun s1 a1 t1 b1 hs1 hv1 => ?_
              refine PrS.bind (ih _ _ _ _ (.inl rfl) hs1) fun s2 a2 t2 b2 hs2 hv2 => ?_
              subst hv2
              refine PrS.bind (ih _ _ _ _ (.inl rfl) hs2) fun s3 a3 t3 b3 hs3 hv3 => ?_
              subst hv3
              exact add_sim hs3 
            · rw [if_neg q0_6, if_neg q0_6]
              by_cases q0_7 : kd X' n t = 26
              · rw [if_pos q0_7, if_pos q0_7]
                refine PrS.bind (take_sim hX hs0 _) fun s1 a1 t1 b1 hs1 hv1 => ?_
                exact add_sim hs1 
              · rw [if_neg q0_7, if_neg q0_7]
                by_cases q0_8 : kd X' n t = 27
                · rw [if_pos q0_8, if_pos q0_8]
                  refine PrS.bind (take_sim hX hs0 _) fun s1 a1 t1 b1 hs1 hv1 => ?_
                  exact add_sim hs1 
                · rw [if_neg q0_8, if_neg q0_8]
                  by_cases q0_9 : kd X' n t = 28
                  · rw [if_pos q0_9, if_pos q0_9]
                    refine PrS.bind (take_sim hX hs0 _) fun s1 a1 t1 b1 hs1 hv1 => ?_
                    exact add_sim hs1 
                  · rw [if_neg q0_9, if_neg q0_9]
                    by_cases q0_10 : kd X' n t = 29
                    · rw [if_pos q0_10, if_pos q0_10]
                      exact ih _ _ _ _ (.inl rfl) hs0 
                    · rw [if_neg q0_10, if_neg q0_10]
                      by_cases q0_11 : kd X' n t = 33
                      · rw [if_pos q0_11, if_pos q0_11]
                        refine PrS.bind (take_sim hX hs0 _) fun s1 a1 t1 b1 hs1 hv1 => ?_
                        refine PrS.bind (ih _ _ _ _ (.inl rfl) hs1) fun s2 a2 t2 b2 hs2 hv2 => ?_
                        subst hv2
                        exact add_sim hs2 
                      · rw [if_neg q0_11, if_neg q0_11]
                        exact refu_sim hs0 
    | set =>
      rw [P_set, P_set]
      refine PrS.bind (take_sim hX hs0 _) fun s1 a1 t1 b1 hs1 hv1 => ?_
      refine PrS.bind (ih _ _ _ _ (.inl rfl) hs1) fun s2 a2 t2 b2 hs2 hv2 => ?_
      subst hv2
      refine PrS.bind (ih _ _ _ _ (.inl rfl) hs2) fun s3 a3 t3 b3 hs3 hv3 => ?_
      subst hv3
      rw [hv1.text]
      exact add_sim hs3 
    | branch a => exact brn a a s t (TkS.rfl a) hs0
    | otherwise =>
      rw [P_otherwise, P_otherwise]
      rw [kd_sim (n := n) hX hs0 ]
      by_cases q0_3 : kd X' n t = 23
      · rw [if_pos q0_3, if_pos q0_3]
        refine PrS.bind (enter_sim hX hs0 _) fun s1 a1 t1 b1 hs1 hv1 => ?_
        refine PrS.bind (ih _ _ _ _ (.inr ⟨_, _, rfl, rfl, hv1⟩) hs1) fun s2 a2 t2 b2 hs2 hv2 => ?_
        subst hv2
        have hs2d := hs2.dec
        exact ⟨hs2d , rfl⟩
      · rw [if_neg q0_3, if_neg q0_3]
        exact ih _ _ _ _ (.inl rfl) hs0 
    | send =>
      rw [P_send, P_send]
      refine PrS.bind (take_sim hX hs0 _) fun s1 a1 t1 b1 hs1 hv1 => ?_
      refine PrS.bind (take_sim hX hs1 _) fun s2 a2 t2 b2 hs2 hv2 => ?_
      refine PrS.bind (ih _ _ _ _ (.inl rfl) hs2) fun s3 a3 t3 b3 hs3 hv3 => ?_
      subst hv3
      refine PrS.bind (take_sim hX hs3 _) fun s4 a4 t4 b4 hs4 hv4 => ?_
      refine PrS.bind (ih _ _ _ _ (.inl rfl) hs4) fun s5 a5 t5 b5 hs5 hv5 => ?_
      subst hv5
      refine PrS.bind (take_sim hX hs5 _) fun s6 a6 t6 b6 hs6 hv6 => ?_
      refine PrS.bind (ih _ _ _ _ (.inl rfl) hs6) fun s7 a7 t7 b7 hs7 hv7 => ?_
      subst hv7
      rw [hv2.text]
      exact add_sim hs7 
end Go.Proofs.YtmekcccmnkgodaaGreatDoor
