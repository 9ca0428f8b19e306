import Derived.Test.YtmekcccmnkgodaaGreatDoorFGP1
namespace Go.Proofs.YtmekcccmnkgodaaGreatDoor
open Go.ChangeShapes Go.WideShapes Go.ChangeAt Go.RowKit
set_option linter.unusedVariables false
set_option linter.unusedSimpArgs false

theorem bind_ok {α β : Type} {r : Pr α} {k : St → α → Pr β} {s' : St} {v : β} (h : r.bind k = .ok s' v) : ∃ s1 a, r = .ok s1 a ∧ k s1 a = .ok s' v := by
  cases r with
  | out => cases h
  | bad e => cases h
  | ok s1 a => exact ⟨s1, a, rfl, h⟩
theorem bind_ne {α β : Type} {r : Pr α} {k : St → α → Pr β} (h1 : r ≠ .out) (h2 : ∀ s1 a, r = .ok s1 a → k s1 a ≠ .out) : r.bind k ≠ .out := by
  cases r with
  | out => exact absurd rfl h1
  | bad e => intro h; cases h
  | ok s1 a => exact h2 s1 a rfl
theorem take_ok {X : Nat → Tk} {n : Nat} {k : Int} {s s1 : St} {t : Tk} (h : take X n k s = .ok s1 t) : s.nx < n ∧ (X s.nx).kind = k ∧ s1 = ⟨s.nx + 1, s.dp, s.md⟩ ∧ t = X s.nx := by
  unfold take at h
  split at h
  · rename_i h1
    split at h
    · cases h
    · injection h with e1 e2
      exact ⟨h1.1, h1.2, e1.symm, e2.symm⟩
  · cases h
theorem take_nx {X : Nat → Tk} {n : Nat} {k : Int} {s s1 : St} {t : Tk} (h : take X n k s = .ok s1 t) : s.nx < n ∧ s1.nx = s.nx + 1 ∧ s1.dp = s.dp ∧ s1.md.length = s.md.length := by
  obtain ⟨h1, _, rfl, _⟩ := take_ok h
  exact ⟨h1, rfl, rfl, rfl⟩
theorem take_ne {X : Nat → Tk} {n : Nat} {k : Int} {s : St} : take X n k s ≠ .out := by
  unfold take
  split
  · split <;> (intro h; cases h)
  · intro h; cases h
theorem enter_ok {X : Nat → Tk} {n : Nat} {k : Int} {s s1 : St} {t : Tk} (h : enter X n k s = .ok s1 t) : s.nx < n ∧ (X s.nx).kind = k ∧ s.dp + 1 ≤ 48 ∧ s1 = ⟨s.nx + 1, s.dp + 1, s.md⟩ ∧ t = X s.nx := by
  unfold enter at h
  obtain ⟨s2, a, h1, h2⟩ := bind_ok h
  obtain ⟨g1, g2, rfl, rfl⟩ := take_ok h1
  split at h2
  · cases h2
  · rename_i hd
    injection h2 with e1 e2
    exact ⟨g1, g2, by simpa using hd, e1.symm, e2.symm⟩
theorem enter_nx {X : Nat → Tk} {n : Nat} {k : Int} {s s1 : St} {t : Tk} (h : enter X n k s = .ok s1 t) : s.nx < n ∧ s1.nx = s.nx + 1 ∧ s1.dp = s.dp + 1 ∧ s1.md.length = s.md.length := by
  obtain ⟨h1, _, _, rfl, _⟩ := enter_ok h
  exact ⟨h1, rfl, rfl, rfl⟩
theorem enter_ne {X : Nat → Tk} {n : Nat} {k : Int} {s : St} : enter X n k s ≠ .out := by
  unfold enter
  refine bind_ne take_ne fun s1 a _ => ?_
  split <;> (intro h; cases h)
theorem leave_nx {X : Nat → Tk} {n : Nat} {k : Int} {s s1 : St} {t : Unit} (h : leave X n k s = .ok s1 t) : s.nx < n ∧ s1.nx = s.nx + 1 ∧ s1.dp = s.dp - 1 ∧ s1.md.length = s.md.length := by
  unfold leave at h
  obtain ⟨s2, a, h1, h2⟩ := bind_ok h
  obtain ⟨g1, g2, rfl, rfl⟩ := take_ok h1
  injection h2 with e1 e2
  subst e1
  exact ⟨g1, rfl, rfl, rfl⟩
theorem leave_ne {X : Nat → Tk} {n : Nat} {k : Int} {s : St} : leave X n k s ≠ .out := by
  unfold leave
  exact bind_ne take_ne fun s1 a _ => by intro h; cases h
theorem add_nx {t : Tk} {kind : Int} {name : Bs} {num : Nat} {op : Int} {kids : List Nat} {s s1 : St} {v : List Nat} (h : add t kind name num op kids s = .ok s1 v) : s1.nx = s.nx ∧ s1.dp = s.dp ∧ s1.md.length = s.md.length + 1 := by
  unfold add at h
  injection h with e1 e2
  subst e1
  exact ⟨rfl, rfl, by simp⟩
theorem add_ne {t : Tk} {kind : Int} {name : Bs} {num : Nat} {op : Int} {kids : List Nat} {s : St} : add t kind name num op kids s ≠ .out := by
  unfold add
  intro h
  cases h
theorem ok_nx {α : Type} {s s1 : St} {v w : α} (h : Pr.ok s v = .ok s1 w) : s1.nx = s.nx ∧ s1.dp = s.dp ∧ s1.md.length = s.md.length := by
  injection h with e1 e2
  subst e1
  exact ⟨rfl, rfl, rfl⟩
/-- which methods take a token at least -/
def Mt.pg : Mt → Bool
  | .binL _ _ => false
  | .index => false
  | .scene => false
  | .sceneL _ => false
  | .kindsL _ => false
  | .memL _ => false
  | .givesL _ => false
  | .blockL _ => false
  | _ => true
/-- how many steps are made ahead of the next token -/
def Mt.rk : Mt → Nat
  | .bin st => 13 - st
  | .una => 2
  | .atom => 1
  | .scene => 3
  | .sceneL _ => 2
  | .item => 1
  | .memL _ => 2
  | .member => 1
  | .blockL _ => 2
  | .stmt => 1
  | .branch _ => 13
  | .otherwise => 1
  | _ => 0
/-- the scene alone adds a node without a token -/
def Mt.sc : Mt → Bool
  | .scene => true
  | .sceneL _ => true
  | _ => false
/-- whose token its caller has taken -/
def Mt.cr : Mt → Nat
  | .branch _ => 1
  | _ => 0
def Mt.fine : Mt → Prop
  | .bin st => st ≤ 10
  | .binL st _ => st ≤ 9
  | _ => True
theorem fr (X : Nat → Tk) (n : Nat) : ∀ (f : Nat) (m : Mt) (s s' : St) (v : List Nat), P X n f m s = .ok s' v → s.nx ≤ s'.nx ∧ (s.nx ≤ n → s'.nx ≤ n) ∧ s'.dp = s.dp ∧ s.md.length ≤ s'.md.length ∧ (m.pg = true → s.nx < s'.nx) ∧ (m.sc = false → s'.md.length + s.nx ≤ s.md.length + s'.nx + m.cr) := by
  intro f
  induction f with
  | zero => intro m s s' v h; cases h
  | succ f ih =>
    intro m s s' v h
    cases m with
    | bin st =>
      rw [P_bin] at h
      split at h
      · have g := ih _ _ _ _ h
        simp only [Mt.pg, Mt.sc, Mt.cr, Bool.false_eq_true, forall_const, false_implies, true_implies] at g
        exact ⟨by omega, by omega, by omega, by omega, fun _ => by omega, fun _ => by simp only [Mt.cr]; omega⟩
      · obtain ⟨s1, a1, h1, h⟩ := bind_ok h
        have g1 := ih _ _ _ _ h1
        simp only [Mt.pg, Mt.sc, Mt.cr, Bool.false_eq_true, forall_const, false_implies, true_implies] at g1
        have g := ih _ _ _ _ h
        simp only [Mt.pg, Mt.sc, Mt.cr, Bool.false_eq_true, forall_const, false_implies, true_implies] at g
        exact ⟨by omega, by omega, by omega, by omega, fun _ => by omega, fun _ => by simp only [Mt.cr]; omega⟩
    | binL st left =>
      rw [P_binL] at h
      split at h
      · obtain ⟨s1, a1, h1, h⟩ := bind_ok h
        have g1 := take_nx h1
        obtain ⟨s2, a2, h2, h⟩ := bind_ok h
        have g2 := ih _ _ _ _ h2
        simp only [Mt.pg, Mt.sc, Mt.cr, Bool.false_eq_true, forall_const, false_implies, true_implies] at g2
        obtain ⟨s3, a3, h3, h⟩ := bind_ok h
        have g3 := add_nx h3
        split at h
        · have g := ok_nx h
          try dsimp only at g
          exact ⟨by omega, by omega, by omega, by omega, (fun h => by cases h), fun _ => by simp only [Mt.cr]; omega⟩
        · have g := ih _ _ _ _ h
          simp only [Mt.pg, Mt.sc, Mt.cr, Bool.false_eq_true, forall_const, false_implies, true_implies] at g
          exact ⟨by omega, by omega, by omega, by omega, (fun h => by cases h), fun _ => by simp only [Mt.cr]; omega⟩
      · have g := ok_nx h
        try dsimp only at g
        exact ⟨by omega, by omega, by omega, by omega, (fun h => by cases h), fun _ => by simp only [Mt.cr]; omega⟩
    | una =>
      rw [P_una] at h
      split at h
      · obtain ⟨s1, a1, h1, h⟩ := bind_ok h
        have g1 := enter_nx h1
        obtain ⟨s2, a2, h2, h⟩ := bind_ok h
        have g2 := ih _ _ _ _ h2
        simp only [Mt.pg, Mt.sc, Mt.cr, Bool.false_eq_true, forall_const, false_implies, true_implies] at g2
        have g := add_nx h
        try dsimp only at g
        exact ⟨by omega, by omega, by omega, by omega, fun _ => by omega, fun _ => by simp only [Mt.cr]; omega⟩
      · have g := ih _ _ _ _ h
        simp only [Mt.pg, Mt.sc, Mt.cr, Bool.false_eq_true, forall_const, false_implies, true_implies] at g
        exact ⟨by omega, by omega, by omega, by omega, fun _ => by omega, fun _ => by simp only [Mt.cr]; omega⟩
    | atom =>
      rw [P_atom] at h
      split at h
      · obtain ⟨s1, a1, h1, h⟩ := bind_ok h
        have g1 := take_nx h1
        have g := add_nx h
        try dsimp only at g
        exact ⟨by omega, by omega, by omega, by omega, fun _ => by omega, fun _ => by simp only [Mt.cr]; omega⟩
      · split at h
        · have g := ih _ _ _ _ h
          simp only [Mt.pg, Mt.sc, Mt.cr, Bool.false_eq_true, forall_const, false_implies, true_implies] at g
          exact ⟨by omega, by omega, by omega, by omega, fun _ => by omega, fun _ => by simp only [Mt.cr]; omega⟩
        · split at h
          · obtain ⟨s1, a1, h1, h⟩ := bind_ok h
            have g1 := take_nx h1
            have g := add_nx h
            try dsimp only at g
            exact ⟨by omega, by omega, by omega, by omega, fun _ => by omega, fun _ => by simp only [Mt.cr]; omega⟩
          · split at h
            · obtain ⟨s1, a1, h1, h⟩ := bind_ok h
              have g1 := take_nx h1
              have g := add_nx h
              try dsimp only at g
              exact ⟨by omega, by omega, by omega, by omega, fun _ => by omega, fun _ => by simp only [Mt.cr]; omega⟩
            · split at h
              · obtain ⟨s1, a1, h1, h⟩ := bind_ok h
                have g1 := take_nx h1
                have g := add_nx h
                try dsimp only at g
                exact ⟨by omega, by omega, by omega, by omega, fun _ => by omega, fun _ => by simp only [Mt.cr]; omega⟩
              · split at h
                · have g := ih _ _ _ _ h
                  simp only [Mt.pg, Mt.sc, Mt.cr, Bool.false_eq_true, forall_const, false_implies, true_implies] at g
                  exact ⟨by omega, by omega, by omega, by omega, fun _ => by omega, fun _ => by simp only [Mt.cr]; omega⟩
                · split at h
                  · have g := ih _ _ _ _ h
                    simp only [Mt.pg, Mt.sc, Mt.cr, Bool.false_eq_true, forall_const, false_implies, true_implies] at g
                    exact ⟨by omega, by omega, by omega, by omega, fun _ => by omega, fun _ => by simp only [Mt.cr]; omega⟩
                  · split at h
                    · have g := ih _ _ _ _ h
                      simp only [Mt.pg, Mt.sc, Mt.cr, Bool.false_eq_true, forall_const, false_implies, true_implies] at g
                      exact ⟨by omega, by omega, by omega, by omega, fun _ => by omega, fun _ => by simp only [Mt.cr]; omega⟩
                    · split at h
                      · have g := ih _ _ _ _ h
                        simp only [Mt.pg, Mt.sc, Mt.cr, Bool.false_eq_true, forall_const, false_implies, true_implies] at g
                        exact ⟨by omega, by omega, by omega, by omega, fun _ => by omega, fun _ => by simp only [Mt.cr]; omega⟩
                      · split at h
                        · have g := ih _ _ _ _ h
                          simp only [Mt.pg, Mt.sc, Mt.cr, Bool.false_eq_true, forall_const, false_implies, true_implies] at g
                          exact ⟨by omega, by omega, by omega, by omega, fun _ => by omega, fun _ => by simp only [Mt.cr]; omega⟩
                        · cases h
    | named =>
      rw [P_named] at h
      obtain ⟨s1, a1, h1, h⟩ := bind_ok h
      have g1 := take_nx h1
      obtain ⟨s2, a2, h2, h⟩ := bind_ok h
      have g2 := ih _ _ _ _ h2
      simp only [Mt.pg, Mt.sc, Mt.cr, Bool.false_eq_true, forall_const, false_implies, true_implies] at g2
      have g := add_nx h
      try dsimp only at g
      exact ⟨by omega, by omega, by omega, by omega, fun _ => by omega, fun _ => by simp only [Mt.cr]; omega⟩
    | throw q =>
      rw [P_throw] at h
      obtain ⟨s1, a1, h1, h⟩ := bind_ok h
      have g1 := take_nx h1
      obtain ⟨s2, a2, h2, h⟩ := bind_ok h
      have g2 := ih _ _ _ _ h2
      simp only [Mt.pg, Mt.sc, Mt.cr, Bool.false_eq_true, forall_const, false_implies, true_implies] at g2
      have g := add_nx h
      try dsimp only at g
      exact ⟨by omega, by omega, by omega, by omega, fun _ => by omega, fun _ => by simp only [Mt.cr]; omega⟩
    | choice q =>
      rw [P_choice] at h
      obtain ⟨s1, a1, h1, h⟩ := bind_ok h
      have g1 := take_nx h1
      obtain ⟨s2, a2, h2, h⟩ := bind_ok h
      have g2 := enter_nx h2
      obtain ⟨s3, a3, h3, h⟩ := bind_ok h
      have g3 := ih _ _ _ _ h3
      simp only [Mt.pg, Mt.sc, Mt.cr, Bool.false_eq_true, forall_const, false_implies, true_implies] at g3
      obtain ⟨s4, a4, h4, h⟩ := bind_ok h
      have g4 := take_nx h4
      obtain ⟨s5, a5, h5, h⟩ := bind_ok h
      have g5 := ih _ _ _ _ h5
      simp only [Mt.pg, Mt.sc, Mt.cr, Bool.false_eq_true, forall_const, false_implies, true_implies] at g5
      obtain ⟨s6, a6, h6, h⟩ := bind_ok h
      have g6 := leave_nx h6
      have g := add_nx h
      try dsimp only at g
      exact ⟨by omega, by omega, by omega, by omega, fun _ => by omega, fun _ => by simp only [Mt.cr]; omega⟩
    | brack =>
      rw [P_brack] at h
      obtain ⟨s1, a1, h1, h⟩ := bind_ok h
      have g1 := enter_nx h1
      obtain ⟨s2, a2, h2, h⟩ := bind_ok h
      have g2 := ih _ _ _ _ h2
      simp only [Mt.pg, Mt.sc, Mt.cr, Bool.false_eq_true, forall_const, false_implies, true_implies] at g2
      obtain ⟨s3, a3, h3, h⟩ := bind_ok h
      have g3 := leave_nx h3
      have g := ok_nx h
      try dsimp only at g
      exact ⟨by omega, by omega, by omega, by omega, fun _ => by omega, fun _ => by simp only [Mt.cr]; omega⟩
    | index =>
      rw [P_index] at h
      split at h
      · obtain ⟨s1, a1, h1, h⟩ := bind_ok h
        have g1 := enter_nx h1
        obtain ⟨s2, a2, h2, h⟩ := bind_ok h
        have g2 := ih _ _ _ _ h2
        simp only [Mt.pg, Mt.sc, Mt.cr, Bool.false_eq_true, forall_const, false_implies, true_implies] at g2
        obtain ⟨s3, a3, h3, h⟩ := bind_ok h
        have g3 := leave_nx h3
        have g := ok_nx h
        try dsimp only at g
        exact ⟨by omega, by omega, by omega, by omega, (fun h => by cases h), fun _ => by simp only [Mt.cr]; omega⟩
      · have g := ok_nx h
        try dsimp only at g
        exact ⟨by omega, by omega, by omega, by omega, (fun h => by cases h), fun _ => by simp only [Mt.cr]; omega⟩
    | value =>
      rw [P_value] at h
      obtain ⟨s1, a1, h1, h⟩ := bind_ok h
      have g1 := take_nx h1
      have g := ih _ _ _ _ h
      simp only [Mt.pg, Mt.sc, Mt.cr, Bool.false_eq_true, forall_const, false_implies, true_implies] at g
      exact ⟨by omega, by omega, by omega, by omega, fun _ => by omega, fun _ => by simp only [Mt.cr]; omega⟩
    | name q =>
      rw [P_name] at h
      obtain ⟨s1, a1, h1, h⟩ := bind_ok h
      have g1 := take_nx h1
      have g := add_nx h
      try dsimp only at g
      exact ⟨by omega, by omega, by omega, by omega, fun _ => by omega, fun _ => by simp only [Mt.cr]; omega⟩
    | scene =>
      rw [P_scene] at h
      have g := ih _ _ _ _ h
      simp only [Mt.pg, Mt.sc, Mt.cr, Bool.false_eq_true, forall_const, false_implies, true_implies] at g
      exact ⟨by omega, by omega, by omega, by omega, (fun h => by cases h), (fun h => by cases h)⟩
    | sceneL l =>
      rw [P_sceneL] at h
      split at h
      · obtain ⟨s1, a1, h1, h⟩ := bind_ok h
        have g1 := ih _ _ _ _ h1
        simp only [Mt.pg, Mt.sc, Mt.cr, Bool.false_eq_true, forall_const, false_implies, true_implies] at g1
        have g := ih _ _ _ _ h
        simp only [Mt.pg, Mt.sc, Mt.cr, Bool.false_eq_true, forall_const, false_implies, true_implies] at g
        exact ⟨by omega, by omega, by omega, by omega, (fun h => by cases h), (fun h => by cases h)⟩
      · have g := add_nx h
        try dsimp only at g
        exact ⟨by omega, by omega, by omega, by omega, (fun h => by cases h), (fun h => by cases h)⟩
    | item =>
      rw [P_item] at h
      split at h
      · have g := ih _ _ _ _ h
        simp only [Mt.pg, Mt.sc, Mt.cr, Bool.false_eq_true, forall_const, false_implies, true_implies] at g
        exact ⟨by omega, by omega, by omega, by omega, fun _ => by omega, fun _ => by simp only [Mt.cr]; omega⟩
      · split at h
        · have g := ih _ _ _ _ h
          simp only [Mt.pg, Mt.sc, Mt.cr, Bool.false_eq_true, forall_const, false_implies, true_implies] at g
          exact ⟨by omega, by omega, by omega, by omega, fun _ => by omega, fun _ => by simp only [Mt.cr]; omega⟩
        · split at h
          · have g := ih _ _ _ _ h
            simp only [Mt.pg, Mt.sc, Mt.cr, Bool.false_eq_true, forall_const, false_implies, true_implies] at g
            exact ⟨by omega, by omega, by omega, by omega, fun _ => by omega, fun _ => by simp only [Mt.cr]; omega⟩
          · split at h
            · have g := ih _ _ _ _ h
              simp only [Mt.pg, Mt.sc, Mt.cr, Bool.false_eq_true, forall_const, false_implies, true_implies] at g
              exact ⟨by omega, by omega, by omega, by omega, fun _ => by omega, fun _ => by simp only [Mt.cr]; omega⟩
            · split at h
              · have g := ih _ _ _ _ h
                simp only [Mt.pg, Mt.sc, Mt.cr, Bool.false_eq_true, forall_const, false_implies, true_implies] at g
                exact ⟨by omega, by omega, by omega, by omega, fun _ => by omega, fun _ => by simp only [Mt.cr]; omega⟩
              · split at h
                · have g := ih _ _ _ _ h
                  simp only [Mt.pg, Mt.sc, Mt.cr, Bool.false_eq_true, forall_const, false_implies, true_implies] at g
                  exact ⟨by omega, by omega, by omega, by omega, fun _ => by omega, fun _ => by simp only [Mt.cr]; omega⟩
                · cases h
    | setting =>
      rw [P_setting] at h
      obtain ⟨s1, a1, h1, h⟩ := bind_ok h
      have g1 := take_nx h1
      obtain ⟨s2, a2, h2, h⟩ := bind_ok h
      have g2 := take_nx h2
      have g := add_nx h
      try dsimp only at g
      exact ⟨by omega, by omega, by omega, by omega, fun _ => by omega, fun _ => by simp only [Mt.cr]; omega⟩
    | constant =>
      rw [P_constant] at h
      obtain ⟨s1, a1, h1, h⟩ := bind_ok h
      have g1 := take_nx h1
      obtain ⟨s2, a2, h2, h⟩ := bind_ok h
      have g2 := take_nx h2
      obtain ⟨s3, a3, h3, h⟩ := bind_ok h
      have g3 := ih _ _ _ _ h3
      simp only [Mt.pg, Mt.sc, Mt.cr, Bool.false_eq_true, forall_const, false_implies, true_implies] at g3
      have g := add_nx h
      try dsimp only at g
      exact ⟨by omega, by omega, by omega, by omega, fun _ => by omega, fun _ => by simp only [Mt.cr]; omega⟩
    | kinds =>
      rw [P_kinds] at h
      obtain ⟨s1, a1, h1, h⟩ := bind_ok h
      have g1 := take_nx h1
      obtain ⟨s2, a2, h2, h⟩ := bind_ok h
      have g2 := ih _ _ _ _ h2
      simp only [Mt.pg, Mt.sc, Mt.cr, Bool.false_eq_true, forall_const, false_implies, true_implies] at g2
      obtain ⟨s3, a3, h3, h⟩ := bind_ok h
      have g3 := ih _ _ _ _ h3
      simp only [Mt.pg, Mt.sc, Mt.cr, Bool.false_eq_true, forall_const, false_implies, true_implies] at g3
      have g := add_nx h
      try dsimp only at g
      exact ⟨by omega, by omega, by omega, by omega, fun _ => by omega, fun _ => by simp only [Mt.cr]; omega⟩
    | kindsL l =>
      rw [P_kindsL] at h
      split at h
      · obtain ⟨s1, a1, h1, h⟩ := bind_ok h
        have g1 := take_nx h1
        obtain ⟨s2, a2, h2, h⟩ := bind_ok h
        have g2 := ih _ _ _ _ h2
        simp only [Mt.pg, Mt.sc, Mt.cr, Bool.false_eq_true, forall_const, false_implies, true_implies] at g2
        have g := ih _ _ _ _ h
        simp only [Mt.pg, Mt.sc, Mt.cr, Bool.false_eq_true, forall_const, false_implies, true_implies] at g
        exact ⟨by omega, by omega, by omega, by omega, (fun h => by cases h), fun _ => by simp only [Mt.cr]; omega⟩
      · have g := ok_nx h
        try dsimp only at g
        exact ⟨by omega, by omega, by omega, by omega, (fun h => by cases h), fun _ => by simp only [Mt.cr]; omega⟩
    | ptype =>
      rw [P_ptype] at h
      obtain ⟨s1, a1, h1, h⟩ := bind_ok h
      have g1 := take_nx h1
      obtain ⟨s2, a2, h2, h⟩ := bind_ok h
      have g2 := take_nx h2
      obtain ⟨s3, a3, h3, h⟩ := bind_ok h
      have g3 := enter_nx h3
      obtain ⟨s4, a4, h4, h⟩ := bind_ok h
      have g4 := ih _ _ _ _ h4
      simp only [Mt.pg, Mt.sc, Mt.cr, Bool.false_eq_true, forall_const, false_implies, true_implies] at g4
      obtain ⟨s5, a5, h5, h⟩ := bind_ok h
      have g5 := leave_nx h5
      have g := add_nx h
      try dsimp only at g
      exact ⟨by omega, by omega, by omega, by omega, fun _ => by omega, fun _ => by simp only [Mt.cr]; omega⟩
    | memL l =>
      rw [P_memL] at h
      split at h
      · have g := ok_nx h
        try dsimp only at g
        exact ⟨by omega, by omega, by omega, by omega, (fun h => by cases h), fun _ => by simp only [Mt.cr]; omega⟩
      · obtain ⟨s1, a1, h1, h⟩ := bind_ok h
        have g1 := ih _ _ _ _ h1
        simp only [Mt.pg, Mt.sc, Mt.cr, Bool.false_eq_true, forall_const, false_implies, true_implies] at g1
        have g := ih _ _ _ _ h
        simp only [Mt.pg, Mt.sc, Mt.cr, Bool.false_eq_true, forall_const, false_implies, true_implies] at g
        exact ⟨by omega, by omega, by omega, by omega, (fun h => by cases h), fun _ => by simp only [Mt.cr]; omega⟩
    | member =>
      rw [P_member] at h
      split at h
      · have g := ih _ _ _ _ h
        simp only [Mt.pg, Mt.sc, Mt.cr, Bool.false_eq_true, forall_const, false_implies, true_implies] at g
        exact ⟨by omega, by omega, by omega, by omega, fun _ => by omega, fun _ => by simp only [Mt.cr]; omega⟩
      · split at h
        · have g := ih _ _ _ _ h
          simp only [Mt.pg, Mt.sc, Mt.cr, Bool.false_eq_true, forall_const, false_implies, true_implies] at g
          exact ⟨by omega, by omega, by omega, by omega, fun _ => by omega, fun _ => by simp only [Mt.cr]; omega⟩
        · cases h
    | vari =>
      rw [P_vari] at h
      obtain ⟨s1, a1, h1, h⟩ := bind_ok h
      have g1 := take_nx h1
      obtain ⟨s2, a2, h2, h⟩ := bind_ok h
      have g2 := take_nx h2
      obtain ⟨s3, a3, h3, h⟩ := bind_ok h
      have g3 := ih _ _ _ _ h3
      simp only [Mt.pg, Mt.sc, Mt.cr, Bool.false_eq_true, forall_const, false_implies, true_implies] at g3
      split at h
      · obtain ⟨s4, a4, h4, h⟩ := bind_ok h
        have g4 := ih _ _ _ _ h4
        simp only [Mt.pg, Mt.sc, Mt.cr, Bool.false_eq_true, forall_const, false_implies, true_implies] at g4
        have g := add_nx h
        try dsimp only at g
        exact ⟨by omega, by omega, by omega, by omega, fun _ => by omega, fun _ => by simp only [Mt.cr]; omega⟩
      · have g := add_nx h
        try dsimp only at g
        exact ⟨by omega, by omega, by omega, by omega, fun _ => by omega, fun _ => by simp only [Mt.cr]; omega⟩
    | handler =>
      rw [P_handler] at h
      obtain ⟨s1, a1, h1, h⟩ := bind_ok h
      have g1 := take_nx h1
      obtain ⟨s2, a2, h2, h⟩ := bind_ok h
      have g2 := take_nx h2
      obtain ⟨s3, a3, h3, h⟩ := bind_ok h
      have g3 := enter_nx h3
      obtain ⟨s4, a4, h4, h⟩ := bind_ok h
      have g4 := ih _ _ _ _ h4
      simp only [Mt.pg, Mt.sc, Mt.cr, Bool.false_eq_true, forall_const, false_implies, true_implies] at g4
      obtain ⟨s5, a5, h5, h⟩ := bind_ok h
      have g5 := leave_nx h5
      obtain ⟨s6, a6, h6, h⟩ := bind_ok h
      have g6 := ih _ _ _ _ h6
      simp only [Mt.pg, Mt.sc, Mt.cr, Bool.false_eq_true, forall_const, false_implies, true_implies] at g6
      have g := add_nx h
      try dsimp only at g
      exact ⟨by omega, by omega, by omega, by omega, fun _ => by omega, fun _ => by simp only [Mt.cr]; omega⟩
    | place =>
      rw [P_place] at h
      obtain ⟨s1, a1, h1, h⟩ := bind_ok h
      have g1 := take_nx h1
      obtain ⟨s2, a2, h2, h⟩ := bind_ok h
      have g2 := take_nx h2
      obtain ⟨s3, a3, h3, h⟩ := bind_ok h
      have g3 := ih _ _ _ _ h3
      simp only [Mt.pg, Mt.sc, Mt.cr, Bool.false_eq_true, forall_const, false_implies, true_implies] at g3
      obtain ⟨s4, a4, h4, h⟩ := bind_ok h
      have g4 := take_nx h4
      obtain ⟨s5, a5, h5, h⟩ := bind_ok h
      have g5 := ih _ _ _ _ h5
      simp only [Mt.pg, Mt.sc, Mt.cr, Bool.false_eq_true, forall_const, false_implies, true_implies] at g5
      split at h
      · obtain ⟨s6, a6, h6, h⟩ := bind_ok h
        have g6 := ih _ _ _ _ h6
        simp only [Mt.pg, Mt.sc, Mt.cr, Bool.false_eq_true, forall_const, false_implies, true_implies] at g6
        have g := add_nx h
        try dsimp only at g
        exact ⟨by omega, by omega, by omega, by omega, fun _ => by omega, fun _ => by simp only [Mt.cr]; omega⟩
      · have g := add_nx h
        try dsimp only at g
        exact ⟨by omega, by omega, by omega, by omega, fun _ => by omega, fun _ => by simp only [Mt.cr]; omega⟩
    | gives =>
      rw [P_gives] at h
      obtain ⟨s1, a1, h1, h⟩ := bind_ok h
      have g1 := enter_nx h1
      obtain ⟨s2, a2, h2, h⟩ := bind_ok h
      have g2 := ih _ _ _ _ h2
      simp only [Mt.pg, Mt.sc, Mt.cr, Bool.false_eq_true, forall_const, false_implies, true_implies] at g2
      obtain ⟨s3, a3, h3, h⟩ := bind_ok h
      have g3 := ih _ _ _ _ h3
      simp only [Mt.pg, Mt.sc, Mt.cr, Bool.false_eq_true, forall_const, false_implies, true_implies] at g3
      obtain ⟨s4, a4, h4, h⟩ := bind_ok h
      have g4 := leave_nx h4
      have g := ok_nx h
      try dsimp only at g
      exact ⟨by omega, by omega, by omega, by omega, fun _ => by omega, fun _ => by simp only [Mt.cr]; omega⟩
    | givesL l =>
      rw [P_givesL] at h
      split at h
      · obtain ⟨s1, a1, h1, h⟩ := bind_ok h
        have g1 := take_nx h1
        obtain ⟨s2, a2, h2, h⟩ := bind_ok h
        have g2 := ih _ _ _ _ h2
        simp only [Mt.pg, Mt.sc, Mt.cr, Bool.false_eq_true, forall_const, false_implies, true_implies] at g2
        have g := ih _ _ _ _ h
        simp only [Mt.pg, Mt.sc, Mt.cr, Bool.false_eq_true, forall_const, false_implies, true_implies] at g
        exact ⟨by omega, by omega, by omega, by omega, (fun h => by cases h), fun _ => by simp only [Mt.cr]; omega⟩
      · have g := ok_nx h
        try dsimp only at g
        exact ⟨by omega, by omega, by omega, by omega, (fun h => by cases h), fun _ => by simp only [Mt.cr]; omega⟩
    | give =>
      rw [P_give] at h
      obtain ⟨s1, a1, h1, h⟩ := bind_ok h
      have g1 := take_nx h1
      obtain ⟨s2, a2, h2, h⟩ := bind_ok h
      have g2 := ih _ _ _ _ h2
      simp only [Mt.pg, Mt.sc, Mt.cr, Bool.false_eq_true, forall_const, false_implies, true_implies] at g2
      obtain ⟨s3, a3, h3, h⟩ := bind_ok h
      have g3 := ih _ _ _ _ h3
      simp only [Mt.pg, Mt.sc, Mt.cr, Bool.false_eq_true, forall_const, false_implies, true_implies] at g3
      have g := add_nx h
      try dsimp only at g
      exact ⟨by omega, by omega, by omega, by omega, fun _ => by omega, fun _ => by simp only [Mt.cr]; omega⟩
    | start =>
      rw [P_start] at h
      obtain ⟨s1, a1, h1, h⟩ := bind_ok h
      have g1 := take_nx h1
      obtain ⟨s2, a2, h2, h⟩ := bind_ok h
      have g2 := take_nx h2
      obtain ⟨s3, a3, h3, h⟩ := bind_ok h
      have g3 := ih _ _ _ _ h3
      simp only [Mt.pg, Mt.sc, Mt.cr, Bool.false_eq_true, forall_const, false_implies, true_implies] at g3
      obtain ⟨s4, a4, h4, h⟩ := bind_ok h
      have g4 := take_nx h4
      obtain ⟨s5, a5, h5, h⟩ := bind_ok h
      have g5 := ih _ _ _ _ h5
      simp only [Mt.pg, Mt.sc, Mt.cr, Bool.false_eq_true, forall_const, false_implies, true_implies] at g5
      obtain ⟨s6, a6, h6, h⟩ := bind_ok h
      have g6 := ih _ _ _ _ h6
      simp only [Mt.pg, Mt.sc, Mt.cr, Bool.false_eq_true, forall_const, false_implies, true_implies] at g6
      obtain ⟨s7, a7, h7, h⟩ := bind_ok h
      have g7 := take_nx h7
      obtain ⟨s8, a8, h8, h⟩ := bind_ok h
      have g8 := take_nx h8
      have g := add_nx h
      try dsimp only at g
      exact ⟨by omega, by omega, by omega, by omega, fun _ => by omega, fun _ => by simp only [Mt.cr]; omega⟩
    | block =>
      rw [P_block] at h
      obtain ⟨s1, a1, h1, h⟩ := bind_ok h
      have g1 := enter_nx h1
      obtain ⟨s2, a2, h2, h⟩ := bind_ok h
      have g2 := ih _ _ _ _ h2
      simp only [Mt.pg, Mt.sc, Mt.cr, Bool.false_eq_true, forall_const, false_implies, true_implies] at g2
      obtain ⟨s3, a3, h3, h⟩ := bind_ok h
      have g3 := leave_nx h3
      have g := add_nx h
      try dsimp only at g
      exact ⟨by omega, by omega, by omega, by omega, fun _ => by omega, fun _ => by simp only [Mt.cr]; omega⟩
    | blockL l =>
      rw [P_blockL] at h
      split at h
      · have g := ok_nx h
        try dsimp only at g
        exact ⟨by omega, by omega, by omega, by omega, (fun h => by cases h), fun _ => by simp only [Mt.cr]; omega⟩
      · obtain ⟨s1, a1, h1, h⟩ := bind_ok h
        have g1 := ih _ _ _ _ h1
        simp only [Mt.pg, Mt.sc, Mt.cr, Bool.false_eq_true, forall_const, false_implies, true_implies] at g1
        have g := ih _ _ _ _ h
        simp only [Mt.pg, Mt.sc, Mt.cr, Bool.false_eq_true, forall_const, false_implies, true_implies] at g
        exact ⟨by omega, by omega, by omega, by omega, (fun h => by cases h), fun _ => by simp only [Mt.cr]; omega⟩
    | stmt =>
      rw [P_stmt] at h
      split at h
      · obtain ⟨s1, a1, h1, h⟩ := bind_ok h
        have g1 := take_nx h1
        obtain ⟨s2, a2, h2, h⟩ := bind_ok h
        have g2 := take_nx h2
        obtain ⟨s3, a3, h3, h⟩ := bind_ok h
        have g3 := ih _ _ _ _ h3
        simp only [Mt.pg, Mt.sc, Mt.cr, Bool.false_eq_true, forall_const, false_implies, true_implies] at g3
        have g := add_nx h
        try dsimp only at g
        exact ⟨by omega, by omega, by omega, by omega, fun _ => by omega, fun _ => by simp only [Mt.cr]; omega⟩
      · split at h
        · have g := ih _ _ _ _ h
          simp only [Mt.pg, Mt.sc, Mt.cr, Bool.false_eq_true, forall_const, false_implies, true_implies] at g
          exact ⟨by omega, by omega, by omega, by omega, fun _ => by omega, fun _ => by simp only [Mt.cr]; omega⟩
        · split at h
          · obtain ⟨s1, a1, h1, h⟩ := bind_ok h
            have g1 := take_nx h1
            have g := ih _ _ _ _ h
            simp only [Mt.pg, Mt.sc, Mt.cr, Bool.false_eq_true, forall_const, false_implies, true_implies] at g
            exact ⟨by omega, by omega, by omega, by omega, fun _ => by omega, fun _ => by simp only [Mt.cr]; omega⟩
          · split at h
            · obtain ⟨s1, a1, h1, h⟩ := bind_ok h
              have g1 := take_nx h1
              obtain ⟨s2, a2, h2, h⟩ := bind_ok h
              have g2 := ih _ _ _ _ h2
              simp only [Mt.pg, Mt.sc, Mt.cr, Bool.false_eq_true, forall_const, false_implies, true_implies] at g2
              obtain ⟨s3, a3, h3, h⟩ := bind_ok h
              have g3 := ih _ _ _ _ h3
              simp only [Mt.pg, Mt.sc, Mt.cr, Bool.false_eq_true, forall_const, false_implies, true_implies] at g3
              have g := add_nx h
              try dsimp only at g
              exact ⟨by omega, by omega, by omega, by omega, fun _ => by omega, fun _ => by simp only [Mt.cr]; omega⟩
            · split at h
              · obtain ⟨s1, a1, h1, h⟩ := bind_ok h
                have g1 := take_nx h1
                have g := add_nx h
                try dsimp only at g
                exact ⟨by omega, by omega, by omega, by omega, fun _ => by omega, fun _ => by simp only [Mt.cr]; omega⟩
              · split at h
                · obtain ⟨s1, a1, h1, h⟩ := bind_ok h
                  have g1 := take_nx h1
                  have g := add_nx h
                  try dsimp only at g
                  exact ⟨by omega, by omega, by omega, by omega, fun _ => by omega, fun _ => by simp only [Mt.cr]; omega⟩
                · split at h
                  · obtain ⟨s1, a1, h1, h⟩ := bind_ok h
                    have g1 := take_nx h1
                    have g := add_nx h
                    try dsimp only at g
                    exact ⟨by omega, by omega, by omega, by omega, fun _ => by omega, fun _ => by simp only [Mt.cr]; omega⟩
                  · split at h
                    · have g := ih _ _ _ _ h
                      simp only [Mt.pg, Mt.sc, Mt.cr, Bool.false_eq_true, forall_const, false_implies, true_implies] at g
                      exact ⟨by omega, by omega, by omega, by omega, fun _ => by omega, fun _ => by simp only [Mt.cr]; omega⟩
                    · split at h
                      · obtain ⟨s1, a1, h1, h⟩ := bind_ok h
                        have g1 := take_nx h1
                        obtain ⟨s2, a2, h2, h⟩ := bind_ok h
                        have g2 := ih _ _ _ _ h2
                        simp only [Mt.pg, Mt.sc, Mt.cr, Bool.false_eq_true, forall_const, false_implies, true_implies] at g2
                        have g := add_nx h
                        try dsimp only at g
                        exact ⟨by omega, by omega, by omega, by omega, fun _ => by omega, fun _ => by simp only [Mt.cr]; omega⟩
                      · cases h
    | set =>
      rw [P_set] at h
      obtain ⟨s1, a1, h1, h⟩ := bind_ok h
      have g1 := take_nx h1
      obtain ⟨s2, a2, h2, h⟩ := bind_ok h
      have g2 := ih _ _ _ _ h2
      simp only [Mt.pg, Mt.sc, Mt.cr, Bool.false_eq_true, forall_const, false_implies, true_implies] at g2
      obtain ⟨s3, a3, h3, h⟩ := bind_ok h
      have g3 := ih _ _ _ _ h3
      simp only [Mt.pg, Mt.sc, Mt.cr, Bool.false_eq_true, forall_const, false_implies, true_implies] at g3
      have g := add_nx h
      try dsimp only at g
      exact ⟨by omega, by omega, by omega, by omega, fun _ => by omega, fun _ => by simp only [Mt.cr]; omega⟩
    | branch t =>
      rw [P_branch] at h
      obtain ⟨s1, a1, h1, h⟩ := bind_ok h
      have g1 := ih _ _ _ _ h1
      simp only [Mt.pg, Mt.sc, Mt.cr, Bool.false_eq_true, forall_const, false_implies, true_implies] at g1
      obtain ⟨s2, a2, h2, h⟩ := bind_ok h
      have g2 := ih _ _ _ _ h2
      simp only [Mt.pg, Mt.sc, Mt.cr, Bool.false_eq_true, forall_const, false_implies, true_implies] at g2
      split at h
      · obtain ⟨s3, a3, h3, h⟩ := bind_ok h
        have g3 := take_nx h3
        obtain ⟨s4, a4, h4, h⟩ := bind_ok h
        have g4 := ih _ _ _ _ h4
        simp only [Mt.pg, Mt.sc, Mt.cr, Bool.false_eq_true, forall_const, false_implies, true_implies] at g4
        have g := add_nx h
        try dsimp only at g
        exact ⟨by omega, by omega, by omega, by omega, fun _ => by omega, fun _ => by simp only [Mt.cr]; omega⟩
      · have g := add_nx h
        try dsimp only at g
        exact ⟨by omega, by omega, by omega, by omega, fun _ => by omega, fun _ => by simp only [Mt.cr]; omega⟩
    | otherwise =>
      rw [P_otherwise] at h
      split at h
      · obtain ⟨s1, a1, h1, h⟩ := bind_ok h
        have g1 := enter_nx h1
        obtain ⟨s2, a2, h2, h⟩ := bind_ok h
        have g2 := ih _ _ _ _ h2
        simp only [Mt.pg, Mt.sc, Mt.cr, Bool.false_eq_true, forall_const, false_implies, true_implies] at g2
        have g := ok_nx h
        try dsimp only at g
        exact ⟨by omega, by omega, by omega, by omega, fun _ => by omega, fun _ => by simp only [Mt.cr]; omega⟩
      · have g := ih _ _ _ _ h
        simp only [Mt.pg, Mt.sc, Mt.cr, Bool.false_eq_true, forall_const, false_implies, true_implies] at g
        exact ⟨by omega, by omega, by omega, by omega, fun _ => by omega, fun _ => by simp only [Mt.cr]; omega⟩
    | send =>
      rw [P_send] at h
      obtain ⟨s1, a1, h1, h⟩ := bind_ok h
      have g1 := take_nx h1
      obtain ⟨s2, a2, h2, h⟩ := bind_ok h
      have g2 := take_nx h2
      obtain ⟨s3, a3, h3, h⟩ := bind_ok h
      have g3 := ih _ _ _ _ h3
      simp only [Mt.pg, Mt.sc, Mt.cr, Bool.false_eq_true, forall_const, false_implies, true_implies] at g3
      obtain ⟨s4, a4, h4, h⟩ := bind_ok h
      have g4 := take_nx h4
      obtain ⟨s5, a5, h5, h⟩ := bind_ok h
      have g5 := ih _ _ _ _ h5
      simp only [Mt.pg, Mt.sc, Mt.cr, Bool.false_eq_true, forall_const, false_implies, true_implies] at g5
      obtain ⟨s6, a6, h6, h⟩ := bind_ok h
      have g6 := take_nx h6
      obtain ⟨s7, a7, h7, h⟩ := bind_ok h
      have g7 := ih _ _ _ _ h7
      simp only [Mt.pg, Mt.sc, Mt.cr, Bool.false_eq_true, forall_const, false_implies, true_implies] at g7
      have g := add_nx h
      try dsimp only at g
      exact ⟨by omega, by omega, by omega, by omega, fun _ => by omega, fun _ => by simp only [Mt.cr]; omega⟩
theorem enough (X : Nat → Tk) (n : Nat) : ∀ (f : Nat) (m : Mt) (s : St), m.fine → s.nx ≤ n → 20 * (n - s.nx) + m.rk < f → P X n f m s ≠ .out := by
  intro f
  induction f with
  | zero => intro m s _ _ h; omega
  | succ f ih =>
    intro m s hf hn hk
    cases m with
    | bin st =>
      rw [P_bin]
      simp only [Mt.rk] at hk
      have hf9 : st ≤ 10 := hf
      split
      · exact ih _ _ (by first | trivial | (simp only [Mt.fine] at hf ⊢; omega)) (by omega) (by simp only [Mt.rk] at hk ⊢; omega)
      · refine bind_ne (ih _ _ (by first | trivial | (simp only [Mt.fine] at hf ⊢; omega)) (by omega) (by simp only [Mt.rk] at hk ⊢; omega)) fun s1 a1 h1 => ?_
        have g1 := fr X n _ _ _ _ _ h1
        simp only [Mt.pg, Mt.sc, Mt.cr, Bool.false_eq_true, forall_const, false_implies, true_implies] at g1
        exact ih _ _ (by first | trivial | (simp only [Mt.fine] at hf ⊢; omega)) (by omega) (by simp only [Mt.rk] at hk ⊢; omega)
    | binL st left =>
      rw [P_binL]
      simp only [Mt.rk] at hk
      have hf9 : st ≤ 9 := hf
      split
      · refine bind_ne take_ne fun s1 a1 h1 => ?_
        have g1 := take_nx h1
        refine bind_ne (ih _ _ (by first | trivial | (simp only [Mt.fine] at hf ⊢; omega)) (by omega) (by simp only [Mt.rk] at hk ⊢; omega)) fun s2 a2 h2 => ?_
        have g2 := fr X n _ _ _ _ _ h2
        simp only [Mt.pg, Mt.sc, Mt.cr, Bool.false_eq_true, forall_const, false_implies, true_implies] at g2
        refine bind_ne add_ne fun s3 a3 h3 => ?_
        have g3 := add_nx h3
        split
        · intro h; cases h
        · exact ih _ _ (by first | trivial | (simp only [Mt.fine] at hf ⊢; omega)) (by omega) (by simp only [Mt.rk] at hk ⊢; omega)
      · intro h; cases h
    | una =>
      rw [P_una]
      simp only [Mt.rk] at hk
      split
      · refine bind_ne enter_ne fun s1 a1 h1 => ?_
        have g1 := enter_nx h1
        refine bind_ne (ih _ _ (by first | trivial | (simp only [Mt.fine] at hf ⊢; omega)) (by omega) (by simp only [Mt.rk] at hk ⊢; omega)) fun s2 a2 h2 => ?_
        have g2 := fr X n _ _ _ _ _ h2
        simp only [Mt.pg, Mt.sc, Mt.cr, Bool.false_eq_true, forall_const, false_implies, true_implies] at g2
        exact add_ne
      · exact ih _ _ (by first | trivial | (simp only [Mt.fine] at hf ⊢; omega)) (by omega) (by simp only [Mt.rk] at hk ⊢; omega)
    | atom =>
      rw [P_atom]
      simp only [Mt.rk] at hk
      split
      · refine bind_ne take_ne fun s1 a1 h1 => ?_
        have g1 := take_nx h1
        exact add_ne
      · split
        · exact ih _ _ (by first | trivial | (simp only [Mt.fine] at hf ⊢; omega)) (by omega) (by simp only [Mt.rk] at hk ⊢; omega)
        · split
          · refine bind_ne take_ne fun s1 a1 h1 => ?_
            have g1 := take_nx h1
            exact add_ne
          · split
            · refine bind_ne take_ne fun s1 a1 h1 => ?_
              have g1 := take_nx h1
              exact add_ne
            · split
              · refine bind_ne take_ne fun s1 a1 h1 => ?_
                have g1 := take_nx h1
                exact add_ne
              · split
                · exact ih _ _ (by first | trivial | (simp only [Mt.fine] at hf ⊢; omega)) (by omega) (by simp only [Mt.rk] at hk ⊢; omega)
                · split
                  · exact ih _ _ (by first | trivial | (simp only [Mt.fine] at hf ⊢; omega)) (by omega) (by simp only [Mt.rk] at hk ⊢; omega)
                  · split
                    · exact ih _ _ (by first | trivial | (simp only [Mt.fine] at hf ⊢; omega)) (by omega) (by simp only [Mt.rk] at hk ⊢; omega)
                    · split
                      · exact ih _ _ (by first | trivial | (simp only [Mt.fine] at hf ⊢; omega)) (by omega) (by simp only [Mt.rk] at hk ⊢; omega)
                      · split
                        · exact ih _ _ (by first | trivial | (simp only [Mt.fine] at hf ⊢; omega)) (by omega) (by simp only [Mt.rk] at hk ⊢; omega)
                        · intro h; cases h
    | named =>
      rw [P_named]
      simp only [Mt.rk] at hk
      refine bind_ne take_ne fun s1 a1 h1 => ?_
      have g1 := take_nx h1
      refine bind_ne (ih _ _ (by first | trivial | (simp only [Mt.fine] at hf ⊢; omega)) (by omega) (by simp only [Mt.rk] at hk ⊢; omega)) fun s2 a2 h2 => ?_
      have g2 := fr X n _ _ _ _ _ h2
      simp only [Mt.pg, Mt.sc, Mt.cr, Bool.false_eq_true, forall_const, false_implies, true_implies] at g2
      exact add_ne
    | throw q =>
      rw [P_throw]
      simp only [Mt.rk] at hk
      refine bind_ne take_ne fun s1 a1 h1 => ?_
      have g1 := take_nx h1
      refine bind_ne (ih _ _ (by first | trivial | (simp only [Mt.fine] at hf ⊢; omega)) (by omega) (by simp only [Mt.rk] at hk ⊢; omega)) fun s2 a2 h2 => ?_
      have g2 := fr X n _ _ _ _ _ h2
      simp only [Mt.pg, Mt.sc, Mt.cr, Bool.false_eq_true, forall_const, false_implies, true_implies] at g2
      exact add_ne
    | choice q =>
      rw [P_choice]
      simp only [Mt.rk] at hk
      refine bind_ne take_ne fun s1 a1 h1 => ?_
      have g1 := take_nx h1
      refine bind_ne enter_ne fun s2 a2 h2 => ?_
      have g2 := enter_nx h2
      refine bind_ne (ih _ _ (by first | trivial | (simp only [Mt.fine] at hf ⊢; omega)) (by omega) (by simp only [Mt.rk] at hk ⊢; omega)) fun s3 a3 h3 => ?_
      have g3 := fr X n _ _ _ _ _ h3
      simp only [Mt.pg, Mt.sc, Mt.cr, Bool.false_eq_true, forall_const, false_implies, true_implies] at g3
      refine bind_ne take_ne fun s4 a4 h4 => ?_
      have g4 := take_nx h4
      refine bind_ne (ih _ _ (by first | trivial | (simp only [Mt.fine] at hf ⊢; omega)) (by omega) (by simp only [Mt.rk] at hk ⊢; omega)) fun s5 a5 h5 => ?_
      have g5 := fr X n _ _ _ _ _ h5
      simp only [Mt.pg, Mt.sc, Mt.cr, Bool.false_eq_true, forall_const, false_implies, true_implies] at g5
      refine bind_ne leave_ne fun s6 a6 h6 => ?_
      have g6 := leave_nx h6
      exact add_ne
    | brack =>
      rw [P_brack]
      simp only [Mt.rk] at hk
      refine bind_ne enter_ne fun s1 a1 h1 => ?_
      have g1 := enter_nx h1
      refine bind_ne (ih _ _ (by first | trivial | (simp only [Mt.fine] at hf ⊢; omega)) (by omega) (by simp only [Mt.rk] at hk ⊢; omega)) fun s2 a2 h2 => ?_
      have g2 := fr X n _ _ _ _ _ h2
      simp only [Mt.pg, Mt.sc, Mt.cr, Bool.false_eq_true, forall_const, false_implies, true_implies] at g2
      refine bind_ne leave_ne fun s3 a3 h3 => ?_
      have g3 := leave_nx h3
      intro h; cases h
    | index =>
      rw [P_index]
      simp only [Mt.rk] at hk
      split
      · refine bind_ne enter_ne fun s1 a1 h1 => ?_
        have g1 := enter_nx h1
        refine bind_ne (ih _ _ (by first | trivial | (simp only [Mt.fine] at hf ⊢; omega)) (by omega) (by simp only [Mt.rk] at hk ⊢; omega)) fun s2 a2 h2 => ?_
        have g2 := fr X n _ _ _ _ _ h2
        simp only [Mt.pg, Mt.sc, Mt.cr, Bool.false_eq_true, forall_const, false_implies, true_implies] at g2
        refine bind_ne leave_ne fun s3 a3 h3 => ?_
        have g3 := leave_nx h3
        intro h; cases h
      · intro h; cases h
    | value =>
      rw [P_value]
      simp only [Mt.rk] at hk
      refine bind_ne take_ne fun s1 a1 h1 => ?_
      have g1 := take_nx h1
      exact ih _ _ (by first | trivial | (simp only [Mt.fine] at hf ⊢; omega)) (by omega) (by simp only [Mt.rk] at hk ⊢; omega)
    | name q =>
      rw [P_name]
      simp only [Mt.rk] at hk
      refine bind_ne take_ne fun s1 a1 h1 => ?_
      have g1 := take_nx h1
      exact add_ne
    | scene =>
      rw [P_scene]
      simp only [Mt.rk] at hk
      exact ih _ _ (by first | trivial | (simp only [Mt.fine] at hf ⊢; omega)) (by omega) (by simp only [Mt.rk] at hk ⊢; omega)
    | sceneL l =>
      rw [P_sceneL]
      simp only [Mt.rk] at hk
      split
      · refine bind_ne (ih _ _ (by first | trivial | (simp only [Mt.fine] at hf ⊢; omega)) (by omega) (by simp only [Mt.rk] at hk ⊢; omega)) fun s1 a1 h1 => ?_
        have g1 := fr X n _ _ _ _ _ h1
        simp only [Mt.pg, Mt.sc, Mt.cr, Bool.false_eq_true, forall_const, false_implies, true_implies] at g1
        exact ih _ _ (by first | trivial | (simp only [Mt.fine] at hf ⊢; omega)) (by omega) (by simp only [Mt.rk] at hk ⊢; omega)
      · exact add_ne
    | item =>
      rw [P_item]
      simp only [Mt.rk] at hk
      split
      · exact ih _ _ (by first | trivial | (simp only [Mt.fine] at hf ⊢; omega)) (by omega) (by simp only [Mt.rk] at hk ⊢; omega)
      · split
        · exact ih _ _ (by first | trivial | (simp only [Mt.fine] at hf ⊢; omega)) (by omega) (by simp only [Mt.rk] at hk ⊢; omega)
        · split
          · exact ih _ _ (by first | trivial | (simp only [Mt.fine] at hf ⊢; omega)) (by omega) (by simp only [Mt.rk] at hk ⊢; omega)
          · split
            · exact ih _ _ (by first | trivial | (simp only [Mt.fine] at hf ⊢; omega)) (by omega) (by simp only [Mt.rk] at hk ⊢; omega)
            · split
              · exact ih _ _ (by first | trivial | (simp only [Mt.fine] at hf ⊢; omega)) (by omega) (by simp only [Mt.rk] at hk ⊢; omega)
              · split
                · exact ih _ _ (by first | trivial | (simp only [Mt.fine] at hf ⊢; omega)) (by omega) (by simp only [Mt.rk] at hk ⊢; omega)
                · intro h; cases h
    | setting =>
      rw [P_setting]
      simp only [Mt.rk] at hk
      refine bind_ne take_ne fun s1 a1 h1 => ?_
      have g1 := take_nx h1
      refine bind_ne take_ne fun s2 a2 h2 => ?_
      have g2 := take_nx h2
      exact add_ne
    | constant =>
      rw [P_constant]
      simp only [Mt.rk] at hk
      refine bind_ne take_ne fun s1 a1 h1 => ?_
      have g1 := take_nx h1
      refine bind_ne take_ne fun s2 a2 h2 => ?_
      have g2 := take_nx h2
      refine bind_ne (ih _ _ (by first | trivial | (simp only [Mt.fine] at hf ⊢; omega)) (by omega) (by simp only [Mt.rk] at hk ⊢; omega)) fun s3 a3 h3 => ?_
      have g3 := fr X n _ _ _ _ _ h3
      simp only [Mt.pg, Mt.sc, Mt.cr, Bool.false_eq_true, forall_const, false_implies, true_implies] at g3
      exact add_ne
    | kinds =>
      rw [P_kinds]
      simp only [Mt.rk] at hk
      refine bind_ne take_ne fun s1 a1 h1 => ?_
      have g1 := take_nx h1
      refine bind_ne (ih _ _ (by first | trivial | (simp only [Mt.fine] at hf ⊢; omega)) (by omega) (by simp only [Mt.rk] at hk ⊢; omega)) fun s2 a2 h2 => ?_
      have g2 := fr X n _ _ _ _ _ h2
      simp only [Mt.pg, Mt.sc, Mt.cr, Bool.false_eq_true, forall_const, false_implies, true_implies] at g2
      refine bind_ne (ih _ _ (by first | trivial | (simp only [Mt.fine] at hf ⊢; omega)) (by omega) (by simp only [Mt.rk] at hk ⊢; omega)) fun s3 a3 h3 => ?_
      have g3 := fr X n _ _ _ _ _ h3
      simp only [Mt.pg, Mt.sc, Mt.cr, Bool.false_eq_true, forall_const, false_implies, true_implies] at g3
      exact add_ne
    | kindsL l =>
      rw [P_kindsL]
      simp only [Mt.rk] at hk
      split
      · refine bind_ne take_ne fun s1 a1 h1 => ?_
        have g1 := take_nx h1
        refine bind_ne (ih _ _ (by first | trivial | (simp only [Mt.fine] at hf ⊢; omega)) (by omega) (by simp only [Mt.rk] at hk ⊢; omega)) fun s2 a2 h2 => ?_
        have g2 := fr X n _ _ _ _ _ h2
        simp only [Mt.pg, Mt.sc, Mt.cr, Bool.false_eq_true, forall_const, false_implies, true_implies] at g2
        exact ih _ _ (by first | trivial | (simp only [Mt.fine] at hf ⊢; omega)) (by omega) (by simp only [Mt.rk] at hk ⊢; omega)
      · intro h; cases h
    | ptype =>
      rw [P_ptype]
      simp only [Mt.rk] at hk
      refine bind_ne take_ne fun s1 a1 h1 => ?_
      have g1 := take_nx h1
      refine bind_ne take_ne fun s2 a2 h2 => ?_
      have g2 := take_nx h2
      refine bind_ne enter_ne fun s3 a3 h3 => ?_
      have g3 := enter_nx h3
      refine bind_ne (ih _ _ (by first | trivial | (simp only [Mt.fine] at hf ⊢; omega)) (by omega) (by simp only [Mt.rk] at hk ⊢; omega)) fun s4 a4 h4 => ?_
      have g4 := fr X n _ _ _ _ _ h4
      simp only [Mt.pg, Mt.sc, Mt.cr, Bool.false_eq_true, forall_const, false_implies, true_implies] at g4
      refine bind_ne leave_ne fun s5 a5 h5 => ?_
      have g5 := leave_nx h5
      exact add_ne
    | memL l =>
      rw [P_memL]
      simp only [Mt.rk] at hk
      split
      · intro h; cases h
      · refine bind_ne (ih _ _ (by first | trivial | (simp only [Mt.fine] at hf ⊢; omega)) (by omega) (by simp only [Mt.rk] at hk ⊢; omega)) fun s1 a1 h1 => ?_
        have g1 := fr X n _ _ _ _ _ h1
        simp only [Mt.pg, Mt.sc, Mt.cr, Bool.false_eq_true, forall_const, false_implies, true_implies] at g1
        exact ih _ _ (by first | trivial | (simp only [Mt.fine] at hf ⊢; omega)) (by omega) (by simp only [Mt.rk] at hk ⊢; omega)
    | member =>
      rw [P_member]
      simp only [Mt.rk] at hk
      split
      · exact ih _ _ (by first | trivial | (simp only [Mt.fine] at hf ⊢; omega)) (by omega) (by simp only [Mt.rk] at hk ⊢; omega)
      · split
        · exact ih _ _ (by first | trivial | (simp only [Mt.fine] at hf ⊢; omega)) (by omega) (by simp only [Mt.rk] at hk ⊢; omega)
        · intro h; cases h
    | vari =>
      rw [P_vari]
      simp only [Mt.rk] at hk
      refine bind_ne take_ne fun s1 a1 h1 => ?_
      have g1 := take_nx h1
      refine bind_ne take_ne fun s2 a2 h2 => ?_
      have g2 := take_nx h2
      refine bind_ne (ih _ _ (by first | trivial | (simp only [Mt.fine] at hf ⊢; omega)) (by omega) (by simp only [Mt.rk] at hk ⊢; omega)) fun s3 a3 h3 => ?_
      have g3 := fr X n _ _ _ _ _ h3
      simp only [Mt.pg, Mt.sc, Mt.cr, Bool.false_eq_true, forall_const, false_implies, true_implies] at g3
      split
      · refine bind_ne (ih _ _ (by first | trivial | (simp only [Mt.fine] at hf ⊢; omega)) (by omega) (by simp only [Mt.rk] at hk ⊢; omega)) fun s4 a4 h4 => ?_
        have g4 := fr X n _ _ _ _ _ h4
        simp only [Mt.pg, Mt.sc, Mt.cr, Bool.false_eq_true, forall_const, false_implies, true_implies] at g4
        exact add_ne
      · exact add_ne
    | handler =>
      rw [P_handler]
      simp only [Mt.rk] at hk
      refine bind_ne take_ne fun s1 a1 h1 => ?_
      have g1 := take_nx h1
      refine bind_ne take_ne fun s2 a2 h2 => ?_
      have g2 := take_nx h2
      refine bind_ne enter_ne fun s3 a3 h3 => ?_
      have g3 := enter_nx h3
      refine bind_ne (ih _ _ (by first | trivial | (simp only [Mt.fine] at hf ⊢; omega)) (by omega) (by simp only [Mt.rk] at hk ⊢; omega)) fun s4 a4 h4 => ?_
      have g4 := fr X n _ _ _ _ _ h4
      simp only [Mt.pg, Mt.sc, Mt.cr, Bool.false_eq_true, forall_const, false_implies, true_implies] at g4
      refine bind_ne leave_ne fun s5 a5 h5 => ?_
      have g5 := leave_nx h5
      refine bind_ne (ih _ _ (by first | trivial | (simp only [Mt.fine] at hf ⊢; omega)) (by omega) (by simp only [Mt.rk] at hk ⊢; omega)) fun s6 a6 h6 => ?_
      have g6 := fr X n _ _ _ _ _ h6
      simp only [Mt.pg, Mt.sc, Mt.cr, Bool.false_eq_true, forall_const, false_implies, true_implies] at g6
      exact add_ne
    | place =>
      rw [P_place]
      simp only [Mt.rk] at hk
      refine bind_ne take_ne fun s1 a1 h1 => ?_
      have g1 := take_nx h1
      refine bind_ne take_ne fun s2 a2 h2 => ?_
      have g2 := take_nx h2
      refine bind_ne (ih _ _ (by first | trivial | (simp only [Mt.fine] at hf ⊢; omega)) (by omega) (by simp only [Mt.rk] at hk ⊢; omega)) fun s3 a3 h3 => ?_
      have g3 := fr X n _ _ _ _ _ h3
      simp only [Mt.pg, Mt.sc, Mt.cr, Bool.false_eq_true, forall_const, false_implies, true_implies] at g3
      refine bind_ne take_ne fun s4 a4 h4 => ?_
      have g4 := take_nx h4
      refine bind_ne (ih _ _ (by first | trivial | (simp only [Mt.fine] at hf ⊢; omega)) (by omega) (by simp only [Mt.rk] at hk ⊢; omega)) fun s5 a5 h5 => ?_
      have g5 := fr X n _ _ _ _ _ h5
      simp only [Mt.pg, Mt.sc, Mt.cr, Bool.false_eq_true, forall_const, false_implies, true_implies] at g5
      split
      · refine bind_ne (ih _ _ (by first | trivial | (simp only [Mt.fine] at hf ⊢; omega)) (by omega) (by simp only [Mt.rk] at hk ⊢; omega)) fun s6 a6 h6 => ?_
        have g6 := fr X n _ _ _ _ _ h6
        simp only [Mt.pg, Mt.sc, Mt.cr, Bool.false_eq_true, forall_const, false_implies, true_implies] at g6
        exact add_ne
      · exact add_ne
    | gives =>
      rw [P_gives]
      simp only [Mt.rk] at hk
      refine bind_ne enter_ne fun s1 a1 h1 => ?_
      have g1 := enter_nx h1
      refine bind_ne (ih _ _ (by first | trivial | (simp only [Mt.fine] at hf ⊢; omega)) (by omega) (by simp only [Mt.rk] at hk ⊢; omega)) fun s2 a2 h2 => ?_
      have g2 := fr X n _ _ _ _ _ h2
      simp only [Mt.pg, Mt.sc, Mt.cr, Bool.false_eq_true, forall_const, false_implies, true_implies] at g2
      refine bind_ne (ih _ _ (by first | trivial | (simp only [Mt.fine] at hf ⊢; omega)) (by omega) (by simp only [Mt.rk] at hk ⊢; omega)) fun s3 a3 h3 => ?_
      have g3 := fr X n _ _ _ _ _ h3
      simp only [Mt.pg, Mt.sc, Mt.cr, Bool.false_eq_true, forall_const, false_implies, true_implies] at g3
      refine bind_ne leave_ne fun s4 a4 h4 => ?_
      have g4 := leave_nx h4
      intro h; cases h
    | givesL l =>
      rw [P_givesL]
      simp only [Mt.rk] at hk
      split
      · refine bind_ne take_ne fun s1 a1 h1 => ?_
        have g1 := take_nx h1
        refine bind_ne (ih _ _ (by first | trivial | (simp only [Mt.fine] at hf ⊢; omega)) (by omega) (by simp only [Mt.rk] at hk ⊢; omega)) fun s2 a2 h2 => ?_
        have g2 := fr X n _ _ _ _ _ h2
        simp only [Mt.pg, Mt.sc, Mt.cr, Bool.false_eq_true, forall_const, false_implies, true_implies] at g2
        exact ih _ _ (by first | trivial | (simp only [Mt.fine] at hf ⊢; omega)) (by omega) (by simp only [Mt.rk] at hk ⊢; omega)
      · intro h; cases h
    | give =>
      rw [P_give]
      simp only [Mt.rk] at hk
      refine bind_ne take_ne fun s1 a1 h1 => ?_
      have g1 := take_nx h1
      refine bind_ne (ih _ _ (by first | trivial | (simp only [Mt.fine] at hf ⊢; omega)) (by omega) (by simp only [Mt.rk] at hk ⊢; omega)) fun s2 a2 h2 => ?_
      have g2 := fr X n _ _ _ _ _ h2
      simp only [Mt.pg, Mt.sc, Mt.cr, Bool.false_eq_true, forall_const, false_implies, true_implies] at g2
      refine bind_ne (ih _ _ (by first | trivial | (simp only [Mt.fine] at hf ⊢; omega)) (by omega) (by simp only [Mt.rk] at hk ⊢; omega)) fun s3 a3 h3 => ?_
      have g3 := fr X n _ _ _ _ _ h3
      simp only [Mt.pg, Mt.sc, Mt.cr, Bool.false_eq_true, forall_const, false_implies, true_implies] at g3
      exact add_ne
    | start =>
      rw [P_start]
      simp only [Mt.rk] at hk
      refine bind_ne take_ne fun s1 a1 h1 => ?_
      have g1 := take_nx h1
      refine bind_ne take_ne fun s2 a2 h2 => ?_
      have g2 := take_nx h2
      refine bind_ne (ih _ _ (by first | trivial | (simp only [Mt.fine] at hf ⊢; omega)) (by omega) (by simp only [Mt.rk] at hk ⊢; omega)) fun s3 a3 h3 => ?_
      have g3 := fr X n _ _ _ _ _ h3
      simp only [Mt.pg, Mt.sc, Mt.cr, Bool.false_eq_true, forall_const, false_implies, true_implies] at g3
      refine bind_ne take_ne fun s4 a4 h4 => ?_
      have g4 := take_nx h4
      refine bind_ne (ih _ _ (by first | trivial | (simp only [Mt.fine] at hf ⊢; omega)) (by omega) (by simp only [Mt.rk] at hk ⊢; omega)) fun s5 a5 h5 => ?_
      have g5 := fr X n _ _ _ _ _ h5
      simp only [Mt.pg, Mt.sc, Mt.cr, Bool.false_eq_true, forall_const, false_implies, true_implies] at g5
      refine bind_ne (ih _ _ (by first | trivial | (simp only [Mt.fine] at hf ⊢; omega)) (by omega) (by simp only [Mt.rk] at hk ⊢; omega)) fun s6 a6 h6 => ?_
      have g6 := fr X n _ _ _ _ _ h6
      simp only [Mt.pg, Mt.sc, Mt.cr, Bool.false_eq_true, forall_const, false_implies, true_implies] at g6
      refine bind_ne take_ne fun s7 a7 h7 => ?_
      have g7 := take_nx h7
      refine bind_ne take_ne fun s8 a8 h8 => ?_
      have g8 := take_nx h8
      exact add_ne
    | block =>
      rw [P_block]
      simp only [Mt.rk] at hk
      refine bind_ne enter_ne fun s1 a1 h1 => ?_
      have g1 := enter_nx h1
      refine bind_ne (ih _ _ (by first | trivial | (simp only [Mt.fine] at hf ⊢; omega)) (by omega) (by simp only [Mt.rk] at hk ⊢; omega)) fun s2 a2 h2 => ?_
      have g2 := fr X n _ _ _ _ _ h2
      simp only [Mt.pg, Mt.sc, Mt.cr, Bool.false_eq_true, forall_const, false_implies, true_implies] at g2
      refine bind_ne leave_ne fun s3 a3 h3 => ?_
      have g3 := leave_nx h3
      exact add_ne
    | blockL l =>
      rw [P_blockL]
      simp only [Mt.rk] at hk
      split
      · intro h; cases h
      · refine bind_ne (ih _ _ (by first | trivial | (simp only [Mt.fine] at hf ⊢; omega)) (by omega) (by simp only [Mt.rk] at hk ⊢; omega)) fun s1 a1 h1 => ?_
        have g1 := fr X n _ _ _ _ _ h1
        simp only [Mt.pg, Mt.sc, Mt.cr, Bool.false_eq_true, forall_const, false_implies, true_implies] at g1
        exact ih _ _ (by first | trivial | (simp only [Mt.fine] at hf ⊢; omega)) (by omega) (by simp only [Mt.rk] at hk ⊢; omega)
    | stmt =>
      rw [P_stmt]
      simp only [Mt.rk] at hk
      split
      · refine bind_ne take_ne fun s1 a1 h1 => ?_
        have g1 := take_nx h1
        refine bind_ne take_ne fun s2 a2 h2 => ?_
        have g2 := take_nx h2
        refine bind_ne (ih _ _ (by first | trivial | (simp only [Mt.fine] at hf ⊢; omega)) (by omega) (by simp only [Mt.rk] at hk ⊢; omega)) fun s3 a3 h3 => ?_
        have g3 := fr X n _ _ _ _ _ h3
        simp only [Mt.pg, Mt.sc, Mt.cr, Bool.false_eq_true, forall_const, false_implies, true_implies] at g3
        exact add_ne
      · split
        · exact ih _ _ (by first | trivial | (simp only [Mt.fine] at hf ⊢; omega)) (by omega) (by simp only [Mt.rk] at hk ⊢; omega)
        · split
          · refine bind_ne take_ne fun s1 a1 h1 => ?_
            have g1 := take_nx h1
            exact ih _ _ (by first | trivial | (simp only [Mt.fine] at hf ⊢; omega)) (by omega) (by simp only [Mt.rk] at hk ⊢; omega)
          · split
            · refine bind_ne take_ne fun s1 a1 h1 => ?_
              have g1 := take_nx h1
              refine bind_ne (ih _ _ (by first | trivial | (simp only [Mt.fine] at hf ⊢; omega)) (by omega) (by simp only [Mt.rk] at hk ⊢; omega)) fun s2 a2 h2 => ?_
              have g2 := fr X n _ _ _ _ _ h2
              simp only [Mt.pg, Mt.sc, Mt.cr, Bool.false_eq_true, forall_const, false_implies, true_implies] at g2
              refine bind_ne (ih _ _ (by first | trivial | (simp only [Mt.fine] at hf ⊢; omega)) (by omega) (by simp only [Mt.rk] at hk ⊢; omega)) fun s3 a3 h3 => ?_
              have g3 := fr X n _ _ _ _ _ h3
              simp only [Mt.pg, Mt.sc, Mt.cr, Bool.false_eq_true, forall_const, false_implies, true_implies] at g3
              exact add_ne
            · split
              · refine bind_ne take_ne fun s1 a1 h1 => ?_
                have g1 := take_nx h1
                exact add_ne
              · split
                · refine bind_ne take_ne fun s1 a1 h1 => ?_
                  have g1 := take_nx h1
                  exact add_ne
                · split
                  · refine bind_ne take_ne fun s1 a1 h1 => ?_
                    have g1 := take_nx h1
                    exact add_ne
                  · split
                    · exact ih _ _ (by first | trivial | (simp only [Mt.fine] at hf ⊢; omega)) (by omega) (by simp only [Mt.rk] at hk ⊢; omega)
                    · split
                      · refine bind_ne take_ne fun s1 a1 h1 => ?_
                        have g1 := take_nx h1
                        refine bind_ne (ih _ _ (by first | trivial | (simp only [Mt.fine] at hf ⊢; omega)) (by omega) (by simp only [Mt.rk] at hk ⊢; omega)) fun s2 a2 h2 => ?_
                        have g2 := fr X n _ _ _ _ _ h2
                        simp only [Mt.pg, Mt.sc, Mt.cr, Bool.false_eq_true, forall_const, false_implies, true_implies] at g2
                        exact add_ne
                      · intro h; cases h
    | set =>
      rw [P_set]
      simp only [Mt.rk] at hk
      refine bind_ne take_ne fun s1 a1 h1 => ?_
      have g1 := take_nx h1
      refine bind_ne (ih _ _ (by first | trivial | (simp only [Mt.fine] at hf ⊢; omega)) (by omega) (by simp only [Mt.rk] at hk ⊢; omega)) fun s2 a2 h2 => ?_
      have g2 := fr X n _ _ _ _ _ h2
      simp only [Mt.pg, Mt.sc, Mt.cr, Bool.false_eq_true, forall_const, false_implies, true_implies] at g2
      refine bind_ne (ih _ _ (by first | trivial | (simp only [Mt.fine] at hf ⊢; omega)) (by omega) (by simp only [Mt.rk] at hk ⊢; omega)) fun s3 a3 h3 => ?_
      have g3 := fr X n _ _ _ _ _ h3
      simp only [Mt.pg, Mt.sc, Mt.cr, Bool.false_eq_true, forall_const, false_implies, true_implies] at g3
      exact add_ne
    | branch t =>
      rw [P_branch]
      simp only [Mt.rk] at hk
      refine bind_ne (ih _ _ (by first | trivial | (simp only [Mt.fine] at hf ⊢; omega)) (by omega) (by simp only [Mt.rk] at hk ⊢; omega)) fun s1 a1 h1 => ?_
      have g1 := fr X n _ _ _ _ _ h1
      simp only [Mt.pg, Mt.sc, Mt.cr, Bool.false_eq_true, forall_const, false_implies, true_implies] at g1
      refine bind_ne (ih _ _ (by first | trivial | (simp only [Mt.fine] at hf ⊢; omega)) (by omega) (by simp only [Mt.rk] at hk ⊢; omega)) fun s2 a2 h2 => ?_
      have g2 := fr X n _ _ _ _ _ h2
      simp only [Mt.pg, Mt.sc, Mt.cr, Bool.false_eq_true, forall_const, false_implies, true_implies] at g2
      split
      · refine bind_ne take_ne fun s3 a3 h3 => ?_
        have g3 := take_nx h3
        refine bind_ne (ih _ _ (by first | trivial | (simp only [Mt.fine] at hf ⊢; omega)) (by omega) (by simp only [Mt.rk] at hk ⊢; omega)) fun s4 a4 h4 => ?_
        have g4 := fr X n _ _ _ _ _ h4
        simp only [Mt.pg, Mt.sc, Mt.cr, Bool.false_eq_true, forall_const, false_implies, true_implies] at g4
        exact add_ne
      · exact add_ne
    | otherwise =>
      rw [P_otherwise]
      simp only [Mt.rk] at hk
      split
      · refine bind_ne enter_ne fun s1 a1 h1 => ?_
        have g1 := enter_nx h1
        refine bind_ne (ih _ _ (by first | trivial | (simp only [Mt.fine] at hf ⊢; omega)) (by omega) (by simp only [Mt.rk] at hk ⊢; omega)) fun s2 a2 h2 => ?_
        have g2 := fr X n _ _ _ _ _ h2
        simp only [Mt.pg, Mt.sc, Mt.cr, Bool.false_eq_true, forall_const, false_implies, true_implies] at g2
        intro h; cases h
      · exact ih _ _ (by first | trivial | (simp only [Mt.fine] at hf ⊢; omega)) (by omega) (by simp only [Mt.rk] at hk ⊢; omega)
    | send =>
      rw [P_send]
      simp only [Mt.rk] at hk
      refine bind_ne take_ne fun s1 a1 h1 => ?_
      have g1 := take_nx h1
      refine bind_ne take_ne fun s2 a2 h2 => ?_
      have g2 := take_nx h2
      refine bind_ne (ih _ _ (by first | trivial | (simp only [Mt.fine] at hf ⊢; omega)) (by omega) (by simp only [Mt.rk] at hk ⊢; omega)) fun s3 a3 h3 => ?_
      have g3 := fr X n _ _ _ _ _ h3
      simp only [Mt.pg, Mt.sc, Mt.cr, Bool.false_eq_true, forall_const, false_implies, true_implies] at g3
      refine bind_ne take_ne fun s4 a4 h4 => ?_
      have g4 := take_nx h4
      refine bind_ne (ih _ _ (by first | trivial | (simp only [Mt.fine] at hf ⊢; omega)) (by omega) (by simp only [Mt.rk] at hk ⊢; omega)) fun s5 a5 h5 => ?_
      have g5 := fr X n _ _ _ _ _ h5
      simp only [Mt.pg, Mt.sc, Mt.cr, Bool.false_eq_true, forall_const, false_implies, true_implies] at g5
      refine bind_ne take_ne fun s6 a6 h6 => ?_
      have g6 := take_nx h6
      refine bind_ne (ih _ _ (by first | trivial | (simp only [Mt.fine] at hf ⊢; omega)) (by omega) (by simp only [Mt.rk] at hk ⊢; omega)) fun s7 a7 h7 => ?_
      have g7 := fr X n _ _ _ _ _ h7
      simp only [Mt.pg, Mt.sc, Mt.cr, Bool.false_eq_true, forall_const, false_implies, true_implies] at g7
      exact add_ne
end Go.Proofs.YtmekcccmnkgodaaGreatDoor
