import Derived.Test.YtmekcccmnkgodaaGreatDoorFGP2
namespace Go.Proofs.YtmekcccmnkgodaaGreatDoor
open Go.ChangeShapes Go.WideShapes Go.ChangeAt Go.RowKit
set_option linter.unusedVariables false
set_option linter.unusedSimpArgs false
/-- how long a list is that a method begins with -/
def Mt.len0 : Mt → Nat
  | .binL _ _ => 1
  | .kindsL l => l.length
  | .memL l => l.length
  | .givesL l => l.length
  | .blockL l => l.length
  | .sceneL l => l.length
  | _ => 0
theorem add_ln {t : Tk} {kind : Int} {name : Bs} {num : Nat} {op : Int} {kids : List Nat} {s s1 : St} {v : List Nat} (h : add t kind name num op kids s = .ok s1 v) : v.length = 1 := by
  unfold add at h
  injection h with e1 e2
  subst e2
  rfl
/-- no list is longer than the tokens that it took -/
theorem ln (X : Nat → Tk) (n : Nat) : ∀ (f : Nat) (m : Mt) (s s' : St) (v : List Nat), m.sc = false → P X n f m s = .ok s' v → v.length + s.nx ≤ m.len0 + s'.nx := by
  intro f
  induction f with
  | zero => intro m s s' v _ h; cases h
  | succ f ih' =>
    intro m s s' v hsc h
    have ih : ∀ (m : Mt) (s s' : St) (v : List Nat), m.sc = false → P X n f m s = .ok s' v → v.length + s.nx ≤ m.len0 + s'.nx := ih'
    cases m with
    | bin st =>
      rw [P_bin] at h
      clear hsc ih'
      split at h
      · have g := ih _ _ _ _ rfl h
        simp only [Mt.len0, List.length_cons, List.length_nil, List.length_append] at *
        omega
      · obtain ⟨s1, a1, h1, h⟩ := bind_ok h
        have g1 := ih _ _ _ _ rfl h1
        have f1 := fr X n _ _ _ _ _ h1
        simp only [Mt.pg, Mt.sc, Mt.cr, Mt.len0, Bool.false_eq_true, forall_const, false_implies, true_implies, List.length_cons, List.length_nil, List.length_append] at g1 f1
        have g := ih _ _ _ _ rfl h
        simp only [Mt.len0, List.length_cons, List.length_nil, List.length_append] at *
        omega
    | binL st left =>
      rw [P_binL] at h
      clear hsc ih'
      split at h
      · obtain ⟨s1, a1, h1, h⟩ := bind_ok h
        have g1 := take_nx h1
        obtain ⟨s2, a2, h2, h⟩ := bind_ok h
        have g2 := ih _ _ _ _ rfl h2
        have f2 := fr X n _ _ _ _ _ h2
        simp only [Mt.pg, Mt.sc, Mt.cr, Mt.len0, Bool.false_eq_true, forall_const, false_implies, true_implies, List.length_cons, List.length_nil, List.length_append] at g2 f2
        obtain ⟨s3, a3, h3, h⟩ := bind_ok h
        have g3 := add_nx h3
        have e3 := add_ln h3
        split at h
        · injection h with e1 e2
          subst e1 e2
          simp only [Mt.len0, List.length_cons, List.length_nil, List.length_append] at *
          omega
        · have g := ih _ _ _ _ rfl h
          simp only [Mt.len0, List.length_cons, List.length_nil, List.length_append] at *
          omega
      · injection h with e1 e2
        subst e1 e2
        simp only [Mt.len0, List.length_cons, List.length_nil, List.length_append] at *
        omega
    | una =>
      rw [P_una] at h
      clear hsc ih'
      split at h
      · obtain ⟨s1, a1, h1, h⟩ := bind_ok h
        have g1 := enter_nx h1
        obtain ⟨s2, a2, h2, h⟩ := bind_ok h
        have g2 := ih _ _ _ _ rfl h2
        have f2 := fr X n _ _ _ _ _ h2
        simp only [Mt.pg, Mt.sc, Mt.cr, Mt.len0, Bool.false_eq_true, forall_const, false_implies, true_implies, List.length_cons, List.length_nil, List.length_append] at g2 f2
        have g := add_nx h
        have e := add_ln h
        try dsimp only at g
        simp only [Mt.len0, List.length_cons, List.length_nil, List.length_append] at *
        omega
      · have g := ih _ _ _ _ rfl h
        simp only [Mt.len0, List.length_cons, List.length_nil, List.length_append] at *
        omega
    | atom =>
      rw [P_atom] at h
      clear hsc ih'
      split at h
      · obtain ⟨s1, a1, h1, h⟩ := bind_ok h
        have g1 := take_nx h1
        have g := add_nx h
        have e := add_ln h
        try dsimp only at g
        simp only [Mt.len0, List.length_cons, List.length_nil, List.length_append] at *
        omega
      · split at h
        · have g := ih _ _ _ _ rfl h
          simp only [Mt.len0, List.length_cons, List.length_nil, List.length_append] at *
          omega
        · split at h
          · obtain ⟨s1, a1, h1, h⟩ := bind_ok h
            have g1 := take_nx h1
            have g := add_nx h
            have e := add_ln h
            try dsimp only at g
            simp only [Mt.len0, List.length_cons, List.length_nil, List.length_append] at *
            omega
          · split at h
            · obtain ⟨s1, a1, h1, h⟩ := bind_ok h
              have g1 := take_nx h1
              have g := add_nx h
              have e := add_ln h
              try dsimp only at g
              simp only [Mt.len0, List.length_cons, List.length_nil, List.length_append] at *
              omega
            · split at h
              · obtain ⟨s1, a1, h1, h⟩ := bind_ok h
                have g1 := take_nx h1
                have g := add_nx h
                have e := add_ln h
                try dsimp only at g
                simp only [Mt.len0, List.length_cons, List.length_nil, List.length_append] at *
                omega
              · split at h
                · have g := ih _ _ _ _ rfl h
                  simp only [Mt.len0, List.length_cons, List.length_nil, List.length_append] at *
                  omega
                · split at h
                  · have g := ih _ _ _ _ rfl h
                    simp only [Mt.len0, List.length_cons, List.length_nil, List.length_append] at *
                    omega
                  · split at h
                    · have g := ih _ _ _ _ rfl h
                      simp only [Mt.len0, List.length_cons, List.length_nil, List.length_append] at *
                      omega
                    · split at h
                      · have g := ih _ _ _ _ rfl h
                        simp only [Mt.len0, List.length_cons, List.length_nil, List.length_append] at *
                        omega
                      · split at h
                        · have g := ih _ _ _ _ rfl h
                          simp only [Mt.len0, List.length_cons, List.length_nil, List.length_append] at *
                          omega
                        · cases h
    | named =>
      rw [P_named] at h
      clear hsc ih'
      obtain ⟨s1, a1, h1, h⟩ := bind_ok h
      have g1 := take_nx h1
      obtain ⟨s2, a2, h2, h⟩ := bind_ok h
      have g2 := ih _ _ _ _ rfl h2
      have f2 := fr X n _ _ _ _ _ h2
      simp only [Mt.pg, Mt.sc, Mt.cr, Mt.len0, Bool.false_eq_true, forall_const, false_implies, true_implies, List.length_cons, List.length_nil, List.length_append] at g2 f2
      have g := add_nx h
      have e := add_ln h
      try dsimp only at g
      simp only [Mt.len0, List.length_cons, List.length_nil, List.length_append] at *
      omega
    | throw q =>
      rw [P_throw] at h
      clear hsc ih'
      obtain ⟨s1, a1, h1, h⟩ := bind_ok h
      have g1 := take_nx h1
      obtain ⟨s2, a2, h2, h⟩ := bind_ok h
      have g2 := ih _ _ _ _ rfl h2
      have f2 := fr X n _ _ _ _ _ h2
      simp only [Mt.pg, Mt.sc, Mt.cr, Mt.len0, Bool.false_eq_true, forall_const, false_implies, true_implies, List.length_cons, List.length_nil, List.length_append] at g2 f2
      have g := add_nx h
      have e := add_ln h
      try dsimp only at g
      simp only [Mt.len0, List.length_cons, List.length_nil, List.length_append] at *
      omega
    | choice q =>
      rw [P_choice] at h
      clear hsc ih'
      obtain ⟨s1, a1, h1, h⟩ := bind_ok h
      have g1 := take_nx h1
      obtain ⟨s2, a2, h2, h⟩ := bind_ok h
      have g2 := enter_nx h2
      obtain ⟨s3, a3, h3, h⟩ := bind_ok h
      have g3 := ih _ _ _ _ rfl h3
      have f3 := fr X n _ _ _ _ _ h3
      simp only [Mt.pg, Mt.sc, Mt.cr, Mt.len0, Bool.false_eq_true, forall_const, false_implies, true_implies, List.length_cons, List.length_nil, List.length_append] at g3 f3
      obtain ⟨s4, a4, h4, h⟩ := bind_ok h
      have g4 := take_nx h4
      obtain ⟨s5, a5, h5, h⟩ := bind_ok h
      have g5 := ih _ _ _ _ rfl h5
      have f5 := fr X n _ _ _ _ _ h5
      simp only [Mt.pg, Mt.sc, Mt.cr, Mt.len0, Bool.false_eq_true, forall_const, false_implies, true_implies, List.length_cons, List.length_nil, List.length_append] at g5 f5
      obtain ⟨s6, a6, h6, h⟩ := bind_ok h
      have g6 := leave_nx h6
      have g := add_nx h
      have e := add_ln h
      try dsimp only at g
      simp only [Mt.len0, List.length_cons, List.length_nil, List.length_append] at *
      omega
    | brack =>
      rw [P_brack] at h
      clear hsc ih'
      obtain ⟨s1, a1, h1, h⟩ := bind_ok h
      have g1 := enter_nx h1
      obtain ⟨s2, a2, h2, h⟩ := bind_ok h
      have g2 := ih _ _ _ _ rfl h2
      have f2 := fr X n _ _ _ _ _ h2
      simp only [Mt.pg, Mt.sc, Mt.cr, Mt.len0, Bool.false_eq_true, forall_const, false_implies, true_implies, List.length_cons, List.length_nil, List.length_append] at g2 f2
      obtain ⟨s3, a3, h3, h⟩ := bind_ok h
      have g3 := leave_nx h3
      injection h with e1 e2
      subst e1 e2
      simp only [Mt.len0, List.length_cons, List.length_nil, List.length_append] at *
      omega
    | index =>
      rw [P_index] at h
      clear hsc ih'
      split at h
      · obtain ⟨s1, a1, h1, h⟩ := bind_ok h
        have g1 := enter_nx h1
        obtain ⟨s2, a2, h2, h⟩ := bind_ok h
        have g2 := ih _ _ _ _ rfl h2
        have f2 := fr X n _ _ _ _ _ h2
        simp only [Mt.pg, Mt.sc, Mt.cr, Mt.len0, Bool.false_eq_true, forall_const, false_implies, true_implies, List.length_cons, List.length_nil, List.length_append] at g2 f2
        obtain ⟨s3, a3, h3, h⟩ := bind_ok h
        have g3 := leave_nx h3
        injection h with e1 e2
        subst e1 e2
        simp only [Mt.len0, List.length_cons, List.length_nil, List.length_append] at *
        omega
      · injection h with e1 e2
        subst e1 e2
        simp only [Mt.len0, List.length_cons, List.length_nil, List.length_append] at *
        omega
    | value =>
      rw [P_value] at h
      clear hsc ih'
      obtain ⟨s1, a1, h1, h⟩ := bind_ok h
      have g1 := take_nx h1
      have g := ih _ _ _ _ rfl h
      simp only [Mt.len0, List.length_cons, List.length_nil, List.length_append] at *
      omega
    | name q =>
      rw [P_name] at h
      clear hsc ih'
      obtain ⟨s1, a1, h1, h⟩ := bind_ok h
      have g1 := take_nx h1
      have g := add_nx h
      have e := add_ln h
      try dsimp only at g
      simp only [Mt.len0, List.length_cons, List.length_nil, List.length_append] at *
      omega
    | scene => cases hsc
    | sceneL l => cases hsc
    | item =>
      rw [P_item] at h
      clear hsc ih'
      split at h
      · have g := ih _ _ _ _ rfl h
        simp only [Mt.len0, List.length_cons, List.length_nil, List.length_append] at *
        omega
      · split at h
        · have g := ih _ _ _ _ rfl h
          simp only [Mt.len0, List.length_cons, List.length_nil, List.length_append] at *
          omega
        · split at h
          · have g := ih _ _ _ _ rfl h
            simp only [Mt.len0, List.length_cons, List.length_nil, List.length_append] at *
            omega
          · split at h
            · have g := ih _ _ _ _ rfl h
              simp only [Mt.len0, List.length_cons, List.length_nil, List.length_append] at *
              omega
            · split at h
              · have g := ih _ _ _ _ rfl h
                simp only [Mt.len0, List.length_cons, List.length_nil, List.length_append] at *
                omega
              · split at h
                · have g := ih _ _ _ _ rfl h
                  simp only [Mt.len0, List.length_cons, List.length_nil, List.length_append] at *
                  omega
                · cases h
    | setting =>
      rw [P_setting] at h
      clear hsc ih'
      obtain ⟨s1, a1, h1, h⟩ := bind_ok h
      have g1 := take_nx h1
      obtain ⟨s2, a2, h2, h⟩ := bind_ok h
      have g2 := take_nx h2
      have g := add_nx h
      have e := add_ln h
      try dsimp only at g
      simp only [Mt.len0, List.length_cons, List.length_nil, List.length_append] at *
      omega
    | constant =>
      rw [P_constant] at h
      clear hsc ih'
      obtain ⟨s1, a1, h1, h⟩ := bind_ok h
      have g1 := take_nx h1
      obtain ⟨s2, a2, h2, h⟩ := bind_ok h
      have g2 := take_nx h2
      obtain ⟨s3, a3, h3, h⟩ := bind_ok h
      have g3 := ih _ _ _ _ rfl h3
      have f3 := fr X n _ _ _ _ _ h3
      simp only [Mt.pg, Mt.sc, Mt.cr, Mt.len0, Bool.false_eq_true, forall_const, false_implies, true_implies, List.length_cons, List.length_nil, List.length_append] at g3 f3
      have g := add_nx h
      have e := add_ln h
      try dsimp only at g
      simp only [Mt.len0, List.length_cons, List.length_nil, List.length_append] at *
      omega
    | kinds =>
      rw [P_kinds] at h
      clear hsc ih'
      obtain ⟨s1, a1, h1, h⟩ := bind_ok h
      have g1 := take_nx h1
      obtain ⟨s2, a2, h2, h⟩ := bind_ok h
      have g2 := ih _ _ _ _ rfl h2
      have f2 := fr X n _ _ _ _ _ h2
      simp only [Mt.pg, Mt.sc, Mt.cr, Mt.len0, Bool.false_eq_true, forall_const, false_implies, true_implies, List.length_cons, List.length_nil, List.length_append] at g2 f2
      obtain ⟨s3, a3, h3, h⟩ := bind_ok h
      have g3 := ih _ _ _ _ rfl h3
      have f3 := fr X n _ _ _ _ _ h3
      simp only [Mt.pg, Mt.sc, Mt.cr, Mt.len0, Bool.false_eq_true, forall_const, false_implies, true_implies, List.length_cons, List.length_nil, List.length_append] at g3 f3
      have g := add_nx h
      have e := add_ln h
      try dsimp only at g
      simp only [Mt.len0, List.length_cons, List.length_nil, List.length_append] at *
      omega
    | kindsL l =>
      rw [P_kindsL] at h
      clear hsc ih'
      split at h
      · obtain ⟨s1, a1, h1, h⟩ := bind_ok h
        have g1 := take_nx h1
        obtain ⟨s2, a2, h2, h⟩ := bind_ok h
        have g2 := ih _ _ _ _ rfl h2
        have f2 := fr X n _ _ _ _ _ h2
        simp only [Mt.pg, Mt.sc, Mt.cr, Mt.len0, Bool.false_eq_true, forall_const, false_implies, true_implies, List.length_cons, List.length_nil, List.length_append] at g2 f2
        have g := ih _ _ _ _ rfl h
        simp only [Mt.len0, List.length_cons, List.length_nil, List.length_append] at *
        omega
      · injection h with e1 e2
        subst e1 e2
        simp only [Mt.len0, List.length_cons, List.length_nil, List.length_append] at *
        omega
    | ptype =>
      rw [P_ptype] at h
      clear hsc ih'
      obtain ⟨s1, a1, h1, h⟩ := bind_ok h
      have g1 := take_nx h1
      obtain ⟨s2, a2, h2, h⟩ := bind_ok h
      have g2 := take_nx h2
      obtain ⟨s3, a3, h3, h⟩ := bind_ok h
      have g3 := enter_nx h3
      obtain ⟨s4, a4, h4, h⟩ := bind_ok h
      have g4 := ih _ _ _ _ rfl h4
      have f4 := fr X n _ _ _ _ _ h4
      simp only [Mt.pg, Mt.sc, Mt.cr, Mt.len0, Bool.false_eq_true, forall_const, false_implies, true_implies, List.length_cons, List.length_nil, List.length_append] at g4 f4
      obtain ⟨s5, a5, h5, h⟩ := bind_ok h
      have g5 := leave_nx h5
      have g := add_nx h
      have e := add_ln h
      try dsimp only at g
      simp only [Mt.len0, List.length_cons, List.length_nil, List.length_append] at *
      omega
    | memL l =>
      rw [P_memL] at h
      clear hsc ih'
      split at h
      · injection h with e1 e2
        subst e1 e2
        simp only [Mt.len0, List.length_cons, List.length_nil, List.length_append] at *
        omega
      · obtain ⟨s1, a1, h1, h⟩ := bind_ok h
        have g1 := ih _ _ _ _ rfl h1
        have f1 := fr X n _ _ _ _ _ h1
        simp only [Mt.pg, Mt.sc, Mt.cr, Mt.len0, Bool.false_eq_true, forall_const, false_implies, true_implies, List.length_cons, List.length_nil, List.length_append] at g1 f1
        have g := ih _ _ _ _ rfl h
        simp only [Mt.len0, List.length_cons, List.length_nil, List.length_append] at *
        omega
    | member =>
      rw [P_member] at h
      clear hsc ih'
      split at h
      · have g := ih _ _ _ _ rfl h
        simp only [Mt.len0, List.length_cons, List.length_nil, List.length_append] at *
        omega
      · split at h
        · have g := ih _ _ _ _ rfl h
          simp only [Mt.len0, List.length_cons, List.length_nil, List.length_append] at *
          omega
        · cases h
    | vari =>
      rw [P_vari] at h
      clear hsc ih'
      obtain ⟨s1, a1, h1, h⟩ := bind_ok h
      have g1 := take_nx h1
      obtain ⟨s2, a2, h2, h⟩ := bind_ok h
      have g2 := take_nx h2
      obtain ⟨s3, a3, h3, h⟩ := bind_ok h
      have g3 := ih _ _ _ _ rfl h3
      have f3 := fr X n _ _ _ _ _ h3
      simp only [Mt.pg, Mt.sc, Mt.cr, Mt.len0, Bool.false_eq_true, forall_const, false_implies, true_implies, List.length_cons, List.length_nil, List.length_append] at g3 f3
      split at h
      · obtain ⟨s4, a4, h4, h⟩ := bind_ok h
        have g4 := ih _ _ _ _ rfl h4
        have f4 := fr X n _ _ _ _ _ h4
        simp only [Mt.pg, Mt.sc, Mt.cr, Mt.len0, Bool.false_eq_true, forall_const, false_implies, true_implies, List.length_cons, List.length_nil, List.length_append] at g4 f4
        have g := add_nx h
        have e := add_ln h
        try dsimp only at g
        simp only [Mt.len0, List.length_cons, List.length_nil, List.length_append] at *
        omega
      · have g := add_nx h
        have e := add_ln h
        try dsimp only at g
        simp only [Mt.len0, List.length_cons, List.length_nil, List.length_append] at *
        omega
    | handler =>
      rw [P_handler] at h
      clear hsc ih'
      obtain ⟨s1, a1, h1, h⟩ := bind_ok h
      have g1 := take_nx h1
      obtain ⟨s2, a2, h2, h⟩ := bind_ok h
      have g2 := take_nx h2
      obtain ⟨s3, a3, h3, h⟩ := bind_ok h
      have g3 := enter_nx h3
      obtain ⟨s4, a4, h4, h⟩ := bind_ok h
      have g4 := ih _ _ _ _ rfl h4
      have f4 := fr X n _ _ _ _ _ h4
      simp only [Mt.pg, Mt.sc, Mt.cr, Mt.len0, Bool.false_eq_true, forall_const, false_implies, true_implies, List.length_cons, List.length_nil, List.length_append] at g4 f4
      obtain ⟨s5, a5, h5, h⟩ := bind_ok h
      have g5 := leave_nx h5
      obtain ⟨s6, a6, h6, h⟩ := bind_ok h
      have g6 := ih _ _ _ _ rfl h6
      have f6 := fr X n _ _ _ _ _ h6
      simp only [Mt.pg, Mt.sc, Mt.cr, Mt.len0, Bool.false_eq_true, forall_const, false_implies, true_implies, List.length_cons, List.length_nil, List.length_append] at g6 f6
      have g := add_nx h
      have e := add_ln h
      try dsimp only at g
      simp only [Mt.len0, List.length_cons, List.length_nil, List.length_append] at *
      omega
    | place =>
      rw [P_place] at h
      clear hsc ih'
      obtain ⟨s1, a1, h1, h⟩ := bind_ok h
      have g1 := take_nx h1
      obtain ⟨s2, a2, h2, h⟩ := bind_ok h
      have g2 := take_nx h2
      obtain ⟨s3, a3, h3, h⟩ := bind_ok h
      have g3 := ih _ _ _ _ rfl h3
      have f3 := fr X n _ _ _ _ _ h3
      simp only [Mt.pg, Mt.sc, Mt.cr, Mt.len0, Bool.false_eq_true, forall_const, false_implies, true_implies, List.length_cons, List.length_nil, List.length_append] at g3 f3
      obtain ⟨s4, a4, h4, h⟩ := bind_ok h
      have g4 := take_nx h4
      obtain ⟨s5, a5, h5, h⟩ := bind_ok h
      have g5 := ih _ _ _ _ rfl h5
      have f5 := fr X n _ _ _ _ _ h5
      simp only [Mt.pg, Mt.sc, Mt.cr, Mt.len0, Bool.false_eq_true, forall_const, false_implies, true_implies, List.length_cons, List.length_nil, List.length_append] at g5 f5
      split at h
      · obtain ⟨s6, a6, h6, h⟩ := bind_ok h
        have g6 := ih _ _ _ _ rfl h6
        have f6 := fr X n _ _ _ _ _ h6
        simp only [Mt.pg, Mt.sc, Mt.cr, Mt.len0, Bool.false_eq_true, forall_const, false_implies, true_implies, List.length_cons, List.length_nil, List.length_append] at g6 f6
        have g := add_nx h
        have e := add_ln h
        try dsimp only at g
        simp only [Mt.len0, List.length_cons, List.length_nil, List.length_append] at *
        omega
      · have g := add_nx h
        have e := add_ln h
        try dsimp only at g
        simp only [Mt.len0, List.length_cons, List.length_nil, List.length_append] at *
        omega
    | gives =>
      rw [P_gives] at h
      clear hsc ih'
      obtain ⟨s1, a1, h1, h⟩ := bind_ok h
      have g1 := enter_nx h1
      obtain ⟨s2, a2, h2, h⟩ := bind_ok h
      have g2 := ih _ _ _ _ rfl h2
      have f2 := fr X n _ _ _ _ _ h2
      simp only [Mt.pg, Mt.sc, Mt.cr, Mt.len0, Bool.false_eq_true, forall_const, false_implies, true_implies, List.length_cons, List.length_nil, List.length_append] at g2 f2
      obtain ⟨s3, a3, h3, h⟩ := bind_ok h
      have g3 := ih _ _ _ _ rfl h3
      have f3 := fr X n _ _ _ _ _ h3
      simp only [Mt.pg, Mt.sc, Mt.cr, Mt.len0, Bool.false_eq_true, forall_const, false_implies, true_implies, List.length_cons, List.length_nil, List.length_append] at g3 f3
      obtain ⟨s4, a4, h4, h⟩ := bind_ok h
      have g4 := leave_nx h4
      injection h with e1 e2
      subst e1 e2
      simp only [Mt.len0, List.length_cons, List.length_nil, List.length_append] at *
      omega
    | givesL l =>
      rw [P_givesL] at h
      clear hsc ih'
      split at h
      · obtain ⟨s1, a1, h1, h⟩ := bind_ok h
        have g1 := take_nx h1
        obtain ⟨s2, a2, h2, h⟩ := bind_ok h
        have g2 := ih _ _ _ _ rfl h2
        have f2 := fr X n _ _ _ _ _ h2
        simp only [Mt.pg, Mt.sc, Mt.cr, Mt.len0, Bool.false_eq_true, forall_const, false_implies, true_implies, List.length_cons, List.length_nil, List.length_append] at g2 f2
        have g := ih _ _ _ _ rfl h
        simp only [Mt.len0, List.length_cons, List.length_nil, List.length_append] at *
        omega
      · injection h with e1 e2
        subst e1 e2
        simp only [Mt.len0, List.length_cons, List.length_nil, List.length_append] at *
        omega
    | give =>
      rw [P_give] at h
      clear hsc ih'
      obtain ⟨s1, a1, h1, h⟩ := bind_ok h
      have g1 := take_nx h1
      obtain ⟨s2, a2, h2, h⟩ := bind_ok h
      have g2 := ih _ _ _ _ rfl h2
      have f2 := fr X n _ _ _ _ _ h2
      simp only [Mt.pg, Mt.sc, Mt.cr, Mt.len0, Bool.false_eq_true, forall_const, false_implies, true_implies, List.length_cons, List.length_nil, List.length_append] at g2 f2
      obtain ⟨s3, a3, h3, h⟩ := bind_ok h
      have g3 := ih _ _ _ _ rfl h3
      have f3 := fr X n _ _ _ _ _ h3
      simp only [Mt.pg, Mt.sc, Mt.cr, Mt.len0, Bool.false_eq_true, forall_const, false_implies, true_implies, List.length_cons, List.length_nil, List.length_append] at g3 f3
      have g := add_nx h
      have e := add_ln h
      try dsimp only at g
      simp only [Mt.len0, List.length_cons, List.length_nil, List.length_append] at *
      omega
    | start =>
      rw [P_start] at h
      clear hsc ih'
      obtain ⟨s1, a1, h1, h⟩ := bind_ok h
      have g1 := take_nx h1
      obtain ⟨s2, a2, h2, h⟩ := bind_ok h
      have g2 := take_nx h2
      obtain ⟨s3, a3, h3, h⟩ := bind_ok h
      have g3 := ih _ _ _ _ rfl h3
      have f3 := fr X n _ _ _ _ _ h3
      simp only [Mt.pg, Mt.sc, Mt.cr, Mt.len0, Bool.false_eq_true, forall_const, false_implies, true_implies, List.length_cons, List.length_nil, List.length_append] at g3 f3
      obtain ⟨s4, a4, h4, h⟩ := bind_ok h
      have g4 := take_nx h4
      obtain ⟨s5, a5, h5, h⟩ := bind_ok h
      have g5 := ih _ _ _ _ rfl h5
      have f5 := fr X n _ _ _ _ _ h5
      simp only [Mt.pg, Mt.sc, Mt.cr, Mt.len0, Bool.false_eq_true, forall_const, false_implies, true_implies, List.length_cons, List.length_nil, List.length_append] at g5 f5
      obtain ⟨s6, a6, h6, h⟩ := bind_ok h
      have g6 := ih _ _ _ _ rfl h6
      have f6 := fr X n _ _ _ _ _ h6
      simp only [Mt.pg, Mt.sc, Mt.cr, Mt.len0, Bool.false_eq_true, forall_const, false_implies, true_implies, List.length_cons, List.length_nil, List.length_append] at g6 f6
      obtain ⟨s7, a7, h7, h⟩ := bind_ok h
      have g7 := take_nx h7
      obtain ⟨s8, a8, h8, h⟩ := bind_ok h
      have g8 := take_nx h8
      have g := add_nx h
      have e := add_ln h
      try dsimp only at g
      simp only [Mt.len0, List.length_cons, List.length_nil, List.length_append] at *
      omega
    | block =>
      rw [P_block] at h
      clear hsc ih'
      obtain ⟨s1, a1, h1, h⟩ := bind_ok h
      have g1 := enter_nx h1
      obtain ⟨s2, a2, h2, h⟩ := bind_ok h
      have g2 := ih _ _ _ _ rfl h2
      have f2 := fr X n _ _ _ _ _ h2
      simp only [Mt.pg, Mt.sc, Mt.cr, Mt.len0, Bool.false_eq_true, forall_const, false_implies, true_implies, List.length_cons, List.length_nil, List.length_append] at g2 f2
      obtain ⟨s3, a3, h3, h⟩ := bind_ok h
      have g3 := leave_nx h3
      have g := add_nx h
      have e := add_ln h
      try dsimp only at g
      simp only [Mt.len0, List.length_cons, List.length_nil, List.length_append] at *
      omega
    | blockL l =>
      rw [P_blockL] at h
      clear hsc ih'
      split at h
      · injection h with e1 e2
        subst e1 e2
        simp only [Mt.len0, List.length_cons, List.length_nil, List.length_append] at *
        omega
      · obtain ⟨s1, a1, h1, h⟩ := bind_ok h
        have g1 := ih _ _ _ _ rfl h1
        have f1 := fr X n _ _ _ _ _ h1
        simp only [Mt.pg, Mt.sc, Mt.cr, Mt.len0, Bool.false_eq_true, forall_const, false_implies, true_implies, List.length_cons, List.length_nil, List.length_append] at g1 f1
        have g := ih _ _ _ _ rfl h
        simp only [Mt.len0, List.length_cons, List.length_nil, List.length_append] at *
        omega
    | stmt =>
      rw [P_stmt] at h
      clear hsc ih'
      split at h
      · obtain ⟨s1, a1, h1, h⟩ := bind_ok h
        have g1 := take_nx h1
        obtain ⟨s2, a2, h2, h⟩ := bind_ok h
        have g2 := take_nx h2
        obtain ⟨s3, a3, h3, h⟩ := bind_ok h
        have g3 := ih _ _ _ _ rfl h3
        have f3 := fr X n _ _ _ _ _ h3
        simp only [Mt.pg, Mt.sc, Mt.cr, Mt.len0, Bool.false_eq_true, forall_const, false_implies, true_implies, List.length_cons, List.length_nil, List.length_append] at g3 f3
        have g := add_nx h
        have e := add_ln h
        try dsimp only at g
        simp only [Mt.len0, List.length_cons, List.length_nil, List.length_append] at *
        omega
      · split at h
        · have g := ih _ _ _ _ rfl h
          simp only [Mt.len0, List.length_cons, List.length_nil, List.length_append] at *
          omega
        · split at h
          · obtain ⟨s1, a1, h1, h⟩ := bind_ok h
            have g1 := take_nx h1
            have g := ih _ _ _ _ rfl h
            simp only [Mt.len0, List.length_cons, List.length_nil, List.length_append] at *
            omega
          · split at h
            · obtain ⟨s1, a1, h1, h⟩ := bind_ok h
              have g1 := take_nx h1
              obtain ⟨s2, a2, h2, h⟩ := bind_ok h
              have g2 := ih _ _ _ _ rfl h2
              have f2 := fr X n _ _ _ _ _ h2
              simp only [Mt.pg, Mt.sc, Mt.cr, Mt.len0, Bool.false_eq_true, forall_const, false_implies, true_implies, List.length_cons, List.length_nil, List.length_append] at g2 f2
              obtain ⟨s3, a3, h3, h⟩ := bind_ok h
              have g3 := ih _ _ _ _ rfl h3
              have f3 := fr X n _ _ _ _ _ h3
              simp only [Mt.pg, Mt.sc, Mt.cr, Mt.len0, Bool.false_eq_true, forall_const, false_implies, true_implies, List.length_cons, List.length_nil, List.length_append] at g3 f3
              have g := add_nx h
              have e := add_ln h
              try dsimp only at g
              simp only [Mt.len0, List.length_cons, List.length_nil, List.length_append] at *
              omega
            · split at h
              · obtain ⟨s1, a1, h1, h⟩ := bind_ok h
                have g1 := take_nx h1
                have g := add_nx h
                have e := add_ln h
                try dsimp only at g
                simp only [Mt.len0, List.length_cons, List.length_nil, List.length_append] at *
                omega
              · split at h
                · obtain ⟨s1, a1, h1, h⟩ := bind_ok h
                  have g1 := take_nx h1
                  have g := add_nx h
                  have e := add_ln h
                  try dsimp only at g
                  simp only [Mt.len0, List.length_cons, List.length_nil, List.length_append] at *
                  omega
                · split at h
                  · obtain ⟨s1, a1, h1, h⟩ := bind_ok h
                    have g1 := take_nx h1
                    have g := add_nx h
                    have e := add_ln h
                    try dsimp only at g
                    simp only [Mt.len0, List.length_cons, List.length_nil, List.length_append] at *
                    omega
                  · split at h
                    · have g := ih _ _ _ _ rfl h
                      simp only [Mt.len0, List.length_cons, List.length_nil, List.length_append] at *
                      omega
                    · split at h
                      · obtain ⟨s1, a1, h1, h⟩ := bind_ok h
                        have g1 := take_nx h1
                        obtain ⟨s2, a2, h2, h⟩ := bind_ok h
                        have g2 := ih _ _ _ _ rfl h2
                        have f2 := fr X n _ _ _ _ _ h2
                        simp only [Mt.pg, Mt.sc, Mt.cr, Mt.len0, Bool.false_eq_true, forall_const, false_implies, true_implies, List.length_cons, List.length_nil, List.length_append] at g2 f2
                        have g := add_nx h
                        have e := add_ln h
                        try dsimp only at g
                        simp only [Mt.len0, List.length_cons, List.length_nil, List.length_append] at *
                        omega
                      · cases h
    | set =>
      rw [P_set] at h
      clear hsc ih'
      obtain ⟨s1, a1, h1, h⟩ := bind_ok h
      have g1 := take_nx h1
      obtain ⟨s2, a2, h2, h⟩ := bind_ok h
      have g2 := ih _ _ _ _ rfl h2
      have f2 := fr X n _ _ _ _ _ h2
      simp only [Mt.pg, Mt.sc, Mt.cr, Mt.len0, Bool.false_eq_true, forall_const, false_implies, true_implies, List.length_cons, List.length_nil, List.length_append] at g2 f2
      obtain ⟨s3, a3, h3, h⟩ := bind_ok h
      have g3 := ih _ _ _ _ rfl h3
      have f3 := fr X n _ _ _ _ _ h3
      simp only [Mt.pg, Mt.sc, Mt.cr, Mt.len0, Bool.false_eq_true, forall_const, false_implies, true_implies, List.length_cons, List.length_nil, List.length_append] at g3 f3
      have g := add_nx h
      have e := add_ln h
      try dsimp only at g
      simp only [Mt.len0, List.length_cons, List.length_nil, List.length_append] at *
      omega
    | branch t =>
      rw [P_branch] at h
      clear hsc ih'
      obtain ⟨s1, a1, h1, h⟩ := bind_ok h
      have g1 := ih _ _ _ _ rfl h1
      have f1 := fr X n _ _ _ _ _ h1
      simp only [Mt.pg, Mt.sc, Mt.cr, Mt.len0, Bool.false_eq_true, forall_const, false_implies, true_implies, List.length_cons, List.length_nil, List.length_append] at g1 f1
      obtain ⟨s2, a2, h2, h⟩ := bind_ok h
      have g2 := ih _ _ _ _ rfl h2
      have f2 := fr X n _ _ _ _ _ h2
      simp only [Mt.pg, Mt.sc, Mt.cr, Mt.len0, Bool.false_eq_true, forall_const, false_implies, true_implies, List.length_cons, List.length_nil, List.length_append] at g2 f2
      split at h
      · obtain ⟨s3, a3, h3, h⟩ := bind_ok h
        have g3 := take_nx h3
        obtain ⟨s4, a4, h4, h⟩ := bind_ok h
        have g4 := ih _ _ _ _ rfl h4
        have f4 := fr X n _ _ _ _ _ h4
        simp only [Mt.pg, Mt.sc, Mt.cr, Mt.len0, Bool.false_eq_true, forall_const, false_implies, true_implies, List.length_cons, List.length_nil, List.length_append] at g4 f4
        have g := add_nx h
        have e := add_ln h
        try dsimp only at g
        simp only [Mt.len0, List.length_cons, List.length_nil, List.length_append] at *
        omega
      · have g := add_nx h
        have e := add_ln h
        try dsimp only at g
        simp only [Mt.len0, List.length_cons, List.length_nil, List.length_append] at *
        omega
    | otherwise =>
      rw [P_otherwise] at h
      clear hsc ih'
      split at h
      · obtain ⟨s1, a1, h1, h⟩ := bind_ok h
        have g1 := enter_nx h1
        obtain ⟨s2, a2, h2, h⟩ := bind_ok h
        have g2 := ih _ _ _ _ rfl h2
        have f2 := fr X n _ _ _ _ _ h2
        simp only [Mt.pg, Mt.sc, Mt.cr, Mt.len0, Bool.false_eq_true, forall_const, false_implies, true_implies, List.length_cons, List.length_nil, List.length_append] at g2 f2
        injection h with e1 e2
        subst e1 e2
        simp only [Mt.len0, List.length_cons, List.length_nil, List.length_append] at *
        omega
      · have g := ih _ _ _ _ rfl h
        simp only [Mt.len0, List.length_cons, List.length_nil, List.length_append] at *
        omega
    | send =>
      rw [P_send] at h
      clear hsc ih'
      obtain ⟨s1, a1, h1, h⟩ := bind_ok h
      have g1 := take_nx h1
      obtain ⟨s2, a2, h2, h⟩ := bind_ok h
      have g2 := take_nx h2
      obtain ⟨s3, a3, h3, h⟩ := bind_ok h
      have g3 := ih _ _ _ _ rfl h3
      have f3 := fr X n _ _ _ _ _ h3
      simp only [Mt.pg, Mt.sc, Mt.cr, Mt.len0, Bool.false_eq_true, forall_const, false_implies, true_implies, List.length_cons, List.length_nil, List.length_append] at g3 f3
      obtain ⟨s4, a4, h4, h⟩ := bind_ok h
      have g4 := take_nx h4
      obtain ⟨s5, a5, h5, h⟩ := bind_ok h
      have g5 := ih _ _ _ _ rfl h5
      have f5 := fr X n _ _ _ _ _ h5
      simp only [Mt.pg, Mt.sc, Mt.cr, Mt.len0, Bool.false_eq_true, forall_const, false_implies, true_implies, List.length_cons, List.length_nil, List.length_append] at g5 f5
      obtain ⟨s6, a6, h6, h⟩ := bind_ok h
      have g6 := take_nx h6
      obtain ⟨s7, a7, h7, h⟩ := bind_ok h
      have g7 := ih _ _ _ _ rfl h7
      have f7 := fr X n _ _ _ _ _ h7
      simp only [Mt.pg, Mt.sc, Mt.cr, Mt.len0, Bool.false_eq_true, forall_const, false_implies, true_implies, List.length_cons, List.length_nil, List.length_append] at g7 f7
      have g := add_nx h
      have e := add_ln h
      try dsimp only at g
      simp only [Mt.len0, List.length_cons, List.length_nil, List.length_append] at *
      omega
end Go.Proofs.YtmekcccmnkgodaaGreatDoor
