import Derived.Test.YtmekcccmnkgodaaGreatDoorFGP2
namespace Go.Proofs.YtmekcccmnkgodaaGreatDoor
open Go.ChangeShapes Go.WideShapes Go.ChangeAt Go.RowKit
set_option linter.unusedVariables false
set_option linter.unusedSimpArgs false
/-! ### what stands behind the first token that does not fit is not looked at -/
def endE (X : Nat → Tk) (n : Nat) : Pe := ⟨n, (X (n - 1)).line, wrap64 ((X (n - 1)).col + ((X (n - 1)).text.length : Int)), 41⟩
/-- it ended with the tokens -/
def Good {α : Type} (X : Nat → Tk) (n' : Nat) : Pr α → Prop
  | .out => True
  | .bad e => e = endE X n'
  | .ok s _ => s.nx = n'
/-- it came as far as that -/
def Far {α : Type} (n' : Nat) : Pr α → Prop
  | .out => True
  | .bad e => n' ≤ e.idx
  | .ok s _ => n' ≤ s.nx
theorem Good.bind {α β : Type} {X : Nat → Tk} {n' : Nat} {r : Pr α} {k : St → α → Pr β} (h : Good X n' r) (hk : ∀ s a, r = .ok s a → s.nx = n' → Good X n' (k s a)) : Good X n' (r.bind k) := by
  cases r with
  | out => trivial
  | bad e => exact h
  | ok s a => exact hk s a rfl h
theorem Far.bind {α β : Type} {n' : Nat} {r : Pr α} {k : St → α → Pr β} (h : Far n' r) (hk : ∀ s a, r = .ok s a → n' ≤ s.nx → Far n' (k s a)) : Far n' (r.bind k) := by
  cases r with
  | out => trivial
  | bad e => exact h
  | ok s a => exact hk s a rfl h
theorem kd_end {X : Nat → Tk} {n' : Nat} {s : St} (h : s.nx = n') : kd X n' s = 0 := by unfold kd; rw [if_pos h]
theorem refu_end {X : Nat → Tk} {n' : Nat} {s : St} (h : s.nx = n') : refu X n' s = endE X n' := by unfold refu endE; rw [if_neg (by omega)]
theorem take_eq {X : Nat → Tk} {n' : Nat} {k : Int} {s : St} (h : s.nx = n') : take X n' k s = .bad (endE X n') := by
  unfold take
  rw [if_neg (by omega), refu_end h]
theorem take_end {X : Nat → Tk} {n' : Nat} {k : Int} {s : St} (h : s.nx = n') : Good X n' (take X n' k s) := by rw [take_eq h]; rfl
theorem take_no {X : Nat → Tk} {n' : Nat} {k : Int} {s s1 : St} {t : Tk} (h : s.nx = n') : take X n' k s ≠ .ok s1 t := by rw [take_eq h]; intro e; cases e
theorem enter_eq {X : Nat → Tk} {n' : Nat} {k : Int} {s : St} (h : s.nx = n') : enter X n' k s = .bad (endE X n') := by unfold enter; rw [take_eq h]; rfl
theorem enter_end {X : Nat → Tk} {n' : Nat} {k : Int} {s : St} (h : s.nx = n') : Good X n' (enter X n' k s) := by rw [enter_eq h]; rfl
theorem enter_no {X : Nat → Tk} {n' : Nat} {k : Int} {s s1 : St} {t : Tk} (h : s.nx = n') : enter X n' k s ≠ .ok s1 t := by rw [enter_eq h]; intro e; cases e
theorem leave_eq {X : Nat → Tk} {n' : Nat} {k : Int} {s : St} (h : s.nx = n') : leave X n' k s = .bad (endE X n') := by unfold leave; rw [take_eq h]; rfl
theorem leave_end {X : Nat → Tk} {n' : Nat} {k : Int} {s : St} (h : s.nx = n') : Good X n' (leave X n' k s) := by rw [leave_eq h]; rfl
theorem leave_no {X : Nat → Tk} {n' : Nat} {k : Int} {s s1 : St} {t : Unit} (h : s.nx = n') : leave X n' k s ≠ .ok s1 t := by rw [leave_eq h]; intro e; cases e
theorem refu_far {X : Nat → Tk} {n n' : Nat} {s : St} (h : n' ≤ s.nx) (hn : s.nx ≤ n) : n' ≤ (refu X n s).idx := by
  unfold refu
  split
  · exact h
  · show n' ≤ n
    omega
theorem take_far {X : Nat → Tk} {n n' : Nat} {k : Int} {s : St} (h : n' ≤ s.nx) (hn : s.nx ≤ n) : Far n' (take X n k s) := by
  unfold take
  split
  · split
    · exact refu_far h hn
    · show n' ≤ s.nx + 1
      omega
  · exact refu_far h hn
theorem enter_far {X : Nat → Tk} {n n' : Nat} {k : Int} {s : St} (h : n' ≤ s.nx) (hn : s.nx ≤ n) : Far n' (enter X n k s) := by
  unfold enter
  refine (take_far h hn).bind fun s1 a h1 h2 => ?_
  split
  · exact h
  · exact h2
theorem leave_far {X : Nat → Tk} {n n' : Nat} {k : Int} {s : St} (h : n' ≤ s.nx) (hn : s.nx ≤ n) : Far n' (leave X n k s) := by
  unfold leave
  exact (take_far h hn).bind fun s1 a h1 h2 => h2
def Mt.fin1 : Mt → Prop
  | .bin st => 1 ≤ st
  | .binL st _ => 1 ≤ st
  | _ => True
theorem endP (X : Nat → Tk) (n' : Nat) : ∀ (f : Nat) (m : Mt) (s : St), m.fin1 → s.nx = n' → Good X n' (P X n' f m s) := by
  intro f
  induction f with
  | zero => intro m s _ _; trivial
  | succ f ih =>
    intro m s hf hc0
    cases m with
    | bin st =>
      rw [P_bin]
      have hf1 : 1 ≤ st := hf
      split
      · exact ih _ _ (by first | trivial | (simp only [Mt.fin1] at hf ⊢; omega)) hc0
      · refine Good.bind (ih _ s (by first | trivial | (simp only [Mt.fin1] at hf ⊢; omega)) hc0) fun s1 a1 h1 hc1 => ?_
        exact ih _ _ (by first | trivial | (simp only [Mt.fin1] at hf ⊢; omega)) hc1
    | binL st left =>
      rw [P_binL]
      have hf1 : 1 ≤ st := hf
      rw [if_neg (by rw [kd_end hc0]; intro e; have : bindsP 0 = 0 := rfl; omega)]
      exact hc0
    | una =>
      rw [P_una]
      rw [if_neg (by rw [kd_end hc0]; decide)]
      exact ih _ _ (by first | trivial | (simp only [Mt.fin1] at hf ⊢; omega)) hc0
    | atom =>
      rw [P_atom]
      rw [if_neg (by rw [kd_end hc0]; omega)]
      rw [if_neg (by rw [kd_end hc0]; omega)]
      rw [if_neg (by rw [kd_end hc0]; omega)]
      rw [if_neg (by rw [kd_end hc0]; omega)]
      rw [if_neg (by rw [kd_end hc0]; omega)]
      rw [if_neg (by rw [kd_end hc0]; omega)]
      rw [if_neg (by rw [kd_end hc0]; omega)]
      rw [if_neg (by rw [kd_end hc0]; omega)]
      rw [if_neg (by rw [kd_end hc0]; omega)]
      rw [if_neg (by rw [kd_end hc0]; omega)]
      exact refu_end hc0
    | named =>
      rw [P_named]
      exact Good.bind (take_end hc0) fun s9 a9 h9 => absurd h9 (take_no hc0)
    | throw q =>
      rw [P_throw]
      exact Good.bind (take_end hc0) fun s9 a9 h9 => absurd h9 (take_no hc0)
    | choice q =>
      rw [P_choice]
      exact Good.bind (take_end hc0) fun s9 a9 h9 => absurd h9 (take_no hc0)
    | brack =>
      rw [P_brack]
      exact Good.bind (enter_end hc0) fun s9 a9 h9 => absurd h9 (enter_no hc0)
    | index =>
      rw [P_index]
      rw [if_neg (by rw [kd_end hc0]; omega)]
      exact hc0
    | value =>
      rw [P_value]
      exact Good.bind (take_end hc0) fun s9 a9 h9 => absurd h9 (take_no hc0)
    | name q =>
      rw [P_name]
      exact Good.bind (take_end hc0) fun s9 a9 h9 => absurd h9 (take_no hc0)
    | scene =>
      rw [P_scene]
      exact ih _ _ (by first | trivial | (simp only [Mt.fin1] at hf ⊢; omega)) hc0
    | sceneL l =>
      rw [P_sceneL]
      rw [if_neg (by omega)]
      exact hc0
    | item =>
      rw [P_item]
      rw [if_neg (by rw [kd_end hc0]; omega)]
      rw [if_neg (by rw [kd_end hc0]; omega)]
      rw [if_neg (by rw [kd_end hc0]; omega)]
      rw [if_neg (by rw [kd_end hc0]; omega)]
      rw [if_neg (by rw [kd_end hc0]; omega)]
      rw [if_neg (by rw [kd_end hc0]; omega)]
      exact refu_end hc0
    | setting =>
      rw [P_setting]
      exact Good.bind (take_end hc0) fun s9 a9 h9 => absurd h9 (take_no hc0)
    | constant =>
      rw [P_constant]
      exact Good.bind (take_end hc0) fun s9 a9 h9 => absurd h9 (take_no hc0)
    | kinds =>
      rw [P_kinds]
      exact Good.bind (take_end hc0) fun s9 a9 h9 => absurd h9 (take_no hc0)
    | kindsL l =>
      rw [P_kindsL]
      rw [if_neg (by rw [kd_end hc0]; omega)]
      exact hc0
    | ptype =>
      rw [P_ptype]
      exact Good.bind (take_end hc0) fun s9 a9 h9 => absurd h9 (take_no hc0)
    | memL l =>
      rw [P_memL]
      rw [if_neg (by rw [kd_end hc0]; omega)]
      refine Good.bind (ih _ s (by first | trivial | (simp only [Mt.fin1] at hf ⊢; omega)) hc0) fun s1 a1 h1 hc1 => ?_
      exact ih _ _ (by first | trivial | (simp only [Mt.fin1] at hf ⊢; omega)) hc1
    | member =>
      rw [P_member]
      rw [if_neg (by rw [kd_end hc0]; omega)]
      rw [if_neg (by rw [kd_end hc0]; omega)]
      exact refu_end hc0
    | vari =>
      rw [P_vari]
      exact Good.bind (take_end hc0) fun s9 a9 h9 => absurd h9 (take_no hc0)
    | handler =>
      rw [P_handler]
      exact Good.bind (take_end hc0) fun s9 a9 h9 => absurd h9 (take_no hc0)
    | place =>
      rw [P_place]
      exact Good.bind (take_end hc0) fun s9 a9 h9 => absurd h9 (take_no hc0)
    | gives =>
      rw [P_gives]
      exact Good.bind (enter_end hc0) fun s9 a9 h9 => absurd h9 (enter_no hc0)
    | givesL l =>
      rw [P_givesL]
      rw [if_neg (by rw [kd_end hc0]; omega)]
      exact hc0
    | give =>
      rw [P_give]
      exact Good.bind (take_end hc0) fun s9 a9 h9 => absurd h9 (take_no hc0)
    | start =>
      rw [P_start]
      exact Good.bind (take_end hc0) fun s9 a9 h9 => absurd h9 (take_no hc0)
    | block =>
      rw [P_block]
      exact Good.bind (enter_end hc0) fun s9 a9 h9 => absurd h9 (enter_no hc0)
    | blockL l =>
      rw [P_blockL]
      rw [if_neg (by rw [kd_end hc0]; omega)]
      refine Good.bind (ih _ s (by first | trivial | (simp only [Mt.fin1] at hf ⊢; omega)) hc0) fun s1 a1 h1 hc1 => ?_
      exact ih _ _ (by first | trivial | (simp only [Mt.fin1] at hf ⊢; omega)) hc1
    | stmt =>
      rw [P_stmt]
      rw [if_neg (by rw [kd_end hc0]; omega)]
      rw [if_neg (by rw [kd_end hc0]; omega)]
      rw [if_neg (by rw [kd_end hc0]; omega)]
      rw [if_neg (by rw [kd_end hc0]; omega)]
      rw [if_neg (by rw [kd_end hc0]; omega)]
      rw [if_neg (by rw [kd_end hc0]; omega)]
      rw [if_neg (by rw [kd_end hc0]; omega)]
      rw [if_neg (by rw [kd_end hc0]; omega)]
      rw [if_neg (by rw [kd_end hc0]; omega)]
      exact refu_end hc0
    | set =>
      rw [P_set]
      exact Good.bind (take_end hc0) fun s9 a9 h9 => absurd h9 (take_no hc0)
    | branch t =>
      rw [P_branch]
      refine Good.bind (ih _ s (by first | trivial | (simp only [Mt.fin1] at hf ⊢; omega)) hc0) fun s1 a1 h1 hc1 => ?_
      refine Good.bind (ih _ s1 (by first | trivial | (simp only [Mt.fin1] at hf ⊢; omega)) hc1) fun s2 a2 h2 hc2 => ?_
      rw [if_neg (by rw [kd_end hc2]; omega)]
      exact hc2
    | otherwise =>
      rw [P_otherwise]
      rw [if_neg (by rw [kd_end hc0]; omega)]
      exact ih _ _ (by first | trivial | (simp only [Mt.fin1] at hf ⊢; omega)) hc0
    | send =>
      rw [P_send]
      exact Good.bind (take_end hc0) fun s9 a9 h9 => absurd h9 (take_no hc0)
theorem farP (X : Nat → Tk) (n n' : Nat) : ∀ (f : Nat) (m : Mt) (s : St), n' ≤ s.nx → s.nx ≤ n → Far n' (P X n f m s) := by
  intro f
  induction f with
  | zero => intro m s _ _; trivial
  | succ f ih =>
    intro m s hk0 hn0
    cases m with
    | bin st =>
      rw [P_bin]
      split
      · exact ih _ _ hk0 hn0
      · refine Far.bind (ih _ s hk0 hn0) fun s1 a1 h1 hk1 => ?_
        have hn1 : s1.nx ≤ n := (fr X n _ _ _ _ _ h1).2.1 hn0
        exact ih _ _ hk1 hn1
    | binL st left =>
      rw [P_binL]
      split
      · refine Far.bind (take_far hk0 hn0) fun s1 a1 h1 hk1 => ?_
        have hn1 : s1.nx ≤ n := by have := take_nx h1; omega
        refine Far.bind (ih _ s1 hk1 hn1) fun s2 a2 h2 hk2 => ?_
        have hn2 : s2.nx ≤ n := (fr X n _ _ _ _ _ h2).2.1 hn1
        refine Far.bind (show Far n' (add _ _ _ _ _ _ _) from hk2) fun s3 a3 h3 hk3 => ?_
        have hn3 : s3.nx ≤ n := by have := add_nx h3; omega
        split
        · exact hk3
        · exact ih _ _ hk3 hn3
      · exact hk0
    | una =>
      rw [P_una]
      split
      · refine Far.bind (enter_far hk0 hn0) fun s1 a1 h1 hk1 => ?_
        have hn1 : s1.nx ≤ n := by have := enter_nx h1; omega
        refine Far.bind (ih _ s1 hk1 hn1) fun s2 a2 h2 hk2 => ?_
        have hn2 : s2.nx ≤ n := (fr X n _ _ _ _ _ h2).2.1 hn1
        exact hk2
      · exact ih _ _ hk0 hn0
    | atom =>
      rw [P_atom]
      split
      · refine Far.bind (take_far hk0 hn0) fun s1 a1 h1 hk1 => ?_
        have hn1 : s1.nx ≤ n := by have := take_nx h1; omega
        exact hk1
      · split
        · exact ih _ _ hk0 hn0
        · split
          · refine Far.bind (take_far hk0 hn0) fun s1 a1 h1 hk1 => ?_
            have hn1 : s1.nx ≤ n := by have := take_nx h1; omega
            exact hk1
          · split
            · refine Far.bind (take_far hk0 hn0) fun s1 a1 h1 hk1 => ?_
              have hn1 : s1.nx ≤ n := by have := take_nx h1; omega
              exact hk1
            · split
              · refine Far.bind (take_far hk0 hn0) fun s1 a1 h1 hk1 => ?_
                have hn1 : s1.nx ≤ n := by have := take_nx h1; omega
                exact hk1
              · split
                · exact ih _ _ hk0 hn0
                · split
                  · exact ih _ _ hk0 hn0
                  · split
                    · exact ih _ _ hk0 hn0
                    · split
                      · exact ih _ _ hk0 hn0
                      · split
                        · exact ih _ _ hk0 hn0
                        · exact refu_far hk0 hn0
    | named =>
      rw [P_named]
      refine Far.bind (take_far hk0 hn0) fun s1 a1 h1 hk1 => ?_
      have hn1 : s1.nx ≤ n := by have := take_nx h1; omega
      refine Far.bind (ih _ s1 hk1 hn1) fun s2 a2 h2 hk2 => ?_
      have hn2 : s2.nx ≤ n := (fr X n _ _ _ _ _ h2).2.1 hn1
      exact hk2
    | throw q =>
      rw [P_throw]
      refine Far.bind (take_far hk0 hn0) fun s1 a1 h1 hk1 => ?_
      have hn1 : s1.nx ≤ n := by have := take_nx h1; omega
      refine Far.bind (ih _ s1 hk1 hn1) fun s2 a2 h2 hk2 => ?_
      have hn2 : s2.nx ≤ n := (fr X n _ _ _ _ _ h2).2.1 hn1
      exact hk2
    | choice q =>
      rw [P_choice]
      refine Far.bind (take_far hk0 hn0) fun s1 a1 h1 hk1 => ?_
      have hn1 : s1.nx ≤ n := by have := take_nx h1; omega
      refine Far.bind (enter_far hk1 hn1) fun s2 a2 h2 hk2 => ?_
      have hn2 : s2.nx ≤ n := by have := enter_nx h2; omega
      refine Far.bind (ih _ s2 hk2 hn2) fun s3 a3 h3 hk3 => ?_
      have hn3 : s3.nx ≤ n := (fr X n _ _ _ _ _ h3).2.1 hn2
      refine Far.bind (take_far hk3 hn3) fun s4 a4 h4 hk4 => ?_
      have hn4 : s4.nx ≤ n := by have := take_nx h4; omega
      refine Far.bind (ih _ s4 hk4 hn4) fun s5 a5 h5 hk5 => ?_
      have hn5 : s5.nx ≤ n := (fr X n _ _ _ _ _ h5).2.1 hn4
      refine Far.bind (leave_far hk5 hn5) fun s6 a6 h6 hk6 => ?_
      have hn6 : s6.nx ≤ n := by have := leave_nx h6; omega
      exact hk6
    | brack =>
      rw [P_brack]
      refine Far.bind (enter_far hk0 hn0) fun s1 a1 h1 hk1 => ?_
      have hn1 : s1.nx ≤ n := by have := enter_nx h1; omega
      refine Far.bind (ih _ s1 hk1 hn1) fun s2 a2 h2 hk2 => ?_
      have hn2 : s2.nx ≤ n := (fr X n _ _ _ _ _ h2).2.1 hn1
      refine Far.bind (leave_far hk2 hn2) fun s3 a3 h3 hk3 => ?_
      have hn3 : s3.nx ≤ n := by have := leave_nx h3; omega
      exact hk3
    | index =>
      rw [P_index]
      split
      · refine Far.bind (enter_far hk0 hn0) fun s1 a1 h1 hk1 => ?_
        have hn1 : s1.nx ≤ n := by have := enter_nx h1; omega
        refine Far.bind (ih _ s1 hk1 hn1) fun s2 a2 h2 hk2 => ?_
        have hn2 : s2.nx ≤ n := (fr X n _ _ _ _ _ h2).2.1 hn1
        refine Far.bind (leave_far hk2 hn2) fun s3 a3 h3 hk3 => ?_
        have hn3 : s3.nx ≤ n := by have := leave_nx h3; omega
        exact hk3
      · exact hk0
    | value =>
      rw [P_value]
      refine Far.bind (take_far hk0 hn0) fun s1 a1 h1 hk1 => ?_
      have hn1 : s1.nx ≤ n := by have := take_nx h1; omega
      exact ih _ _ hk1 hn1
    | name q =>
      rw [P_name]
      refine Far.bind (take_far hk0 hn0) fun s1 a1 h1 hk1 => ?_
      have hn1 : s1.nx ≤ n := by have := take_nx h1; omega
      exact hk1
    | scene =>
      rw [P_scene]
      exact ih _ _ hk0 hn0
    | sceneL l =>
      rw [P_sceneL]
      split
      · refine Far.bind (ih _ s hk0 hn0) fun s1 a1 h1 hk1 => ?_
        have hn1 : s1.nx ≤ n := (fr X n _ _ _ _ _ h1).2.1 hn0
        exact ih _ _ hk1 hn1
      · exact hk0
    | item =>
      rw [P_item]
      split
      · exact ih _ _ hk0 hn0
      · split
        · exact ih _ _ hk0 hn0
        · split
          · exact ih _ _ hk0 hn0
          · split
            · exact ih _ _ hk0 hn0
            · split
              · exact ih _ _ hk0 hn0
              · split
                · exact ih _ _ hk0 hn0
                · exact refu_far hk0 hn0
    | setting =>
      rw [P_setting]
      refine Far.bind (take_far hk0 hn0) fun s1 a1 h1 hk1 => ?_
      have hn1 : s1.nx ≤ n := by have := take_nx h1; omega
      refine Far.bind (take_far hk1 hn1) fun s2 a2 h2 hk2 => ?_
      have hn2 : s2.nx ≤ n := by have := take_nx h2; omega
      exact hk2
    | constant =>
      rw [P_constant]
      refine Far.bind (take_far hk0 hn0) fun s1 a1 h1 hk1 => ?_
      have hn1 : s1.nx ≤ n := by have := take_nx h1; omega
      refine Far.bind (take_far hk1 hn1) fun s2 a2 h2 hk2 => ?_
      have hn2 : s2.nx ≤ n := by have := take_nx h2; omega
      refine Far.bind (ih _ s2 hk2 hn2) fun s3 a3 h3 hk3 => ?_
      have hn3 : s3.nx ≤ n := (fr X n _ _ _ _ _ h3).2.1 hn2
      exact hk3
    | kinds =>
      rw [P_kinds]
      refine Far.bind (take_far hk0 hn0) fun s1 a1 h1 hk1 => ?_
      have hn1 : s1.nx ≤ n := by have := take_nx h1; omega
      refine Far.bind (ih _ s1 hk1 hn1) fun s2 a2 h2 hk2 => ?_
      have hn2 : s2.nx ≤ n := (fr X n _ _ _ _ _ h2).2.1 hn1
      refine Far.bind (ih _ s2 hk2 hn2) fun s3 a3 h3 hk3 => ?_
      have hn3 : s3.nx ≤ n := (fr X n _ _ _ _ _ h3).2.1 hn2
      exact hk3
    | kindsL l =>
      rw [P_kindsL]
      split
      · refine Far.bind (take_far hk0 hn0) fun s1 a1 h1 hk1 => ?_
        have hn1 : s1.nx ≤ n := by have := take_nx h1; omega
        refine Far.bind (ih _ s1 hk1 hn1) fun s2 a2 h2 hk2 => ?_
        have hn2 : s2.nx ≤ n := (fr X n _ _ _ _ _ h2).2.1 hn1
        exact ih _ _ hk2 hn2
      · exact hk0
    | ptype =>
      rw [P_ptype]
      refine Far.bind (take_far hk0 hn0) fun s1 a1 h1 hk1 => ?_
      have hn1 : s1.nx ≤ n := by have := take_nx h1; omega
      refine Far.bind (take_far hk1 hn1) fun s2 a2 h2 hk2 => ?_
      have hn2 : s2.nx ≤ n := by have := take_nx h2; omega
      refine Far.bind (enter_far hk2 hn2) fun s3 a3 h3 hk3 => ?_
      have hn3 : s3.nx ≤ n := by have := enter_nx h3; omega
      refine Far.bind (ih _ s3 hk3 hn3) fun s4 a4 h4 hk4 => ?_
      have hn4 : s4.nx ≤ n := (fr X n _ _ _ _ _ h4).2.1 hn3
      refine Far.bind (leave_far hk4 hn4) fun s5 a5 h5 hk5 => ?_
      have hn5 : s5.nx ≤ n := by have := leave_nx h5; omega
      exact hk5
    | memL l =>
      rw [P_memL]
      split
      · exact hk0
      · refine Far.bind (ih _ s hk0 hn0) fun s1 a1 h1 hk1 => ?_
        have hn1 : s1.nx ≤ n := (fr X n _ _ _ _ _ h1).2.1 hn0
        exact ih _ _ hk1 hn1
    | member =>
      rw [P_member]
      split
      · exact ih _ _ hk0 hn0
      · split
        · exact ih _ _ hk0 hn0
        · exact refu_far hk0 hn0
    | vari =>
      rw [P_vari]
      refine Far.bind (take_far hk0 hn0) fun s1 a1 h1 hk1 => ?_
      have hn1 : s1.nx ≤ n := by have := take_nx h1; omega
      refine Far.bind (take_far hk1 hn1) fun s2 a2 h2 hk2 => ?_
      have hn2 : s2.nx ≤ n := by have := take_nx h2; omega
      refine Far.bind (ih _ s2 hk2 hn2) fun s3 a3 h3 hk3 => ?_
      have hn3 : s3.nx ≤ n := (fr X n _ _ _ _ _ h3).2.1 hn2
      split
      · refine Far.bind (ih _ s3 hk3 hn3) fun s4 a4 h4 hk4 => ?_
        have hn4 : s4.nx ≤ n := (fr X n _ _ _ _ _ h4).2.1 hn3
        exact hk4
      · exact hk3
    | handler =>
      rw [P_handler]
      refine Far.bind (take_far hk0 hn0) fun s1 a1 h1 hk1 => ?_
      have hn1 : s1.nx ≤ n := by have := take_nx h1; omega
      refine Far.bind (take_far hk1 hn1) fun s2 a2 h2 hk2 => ?_
      have hn2 : s2.nx ≤ n := by have := take_nx h2; omega
      refine Far.bind (enter_far hk2 hn2) fun s3 a3 h3 hk3 => ?_
      have hn3 : s3.nx ≤ n := by have := enter_nx h3; omega
      refine Far.bind (ih _ s3 hk3 hn3) fun s4 a4 h4 hk4 => ?_
      have hn4 : s4.nx ≤ n := (fr X n _ _ _ _ _ h4).2.1 hn3
      refine Far.bind (leave_far hk4 hn4) fun s5 a5 h5 hk5 => ?_
      have hn5 : s5.nx ≤ n := by have := leave_nx h5; omega
      refine Far.bind (ih _ s5 hk5 hn5) fun s6 a6 h6 hk6 => ?_
      have hn6 : s6.nx ≤ n := (fr X n _ _ _ _ _ h6).2.1 hn5
      exact hk6
    | place =>
      rw [P_place]
      refine Far.bind (take_far hk0 hn0) fun s1 a1 h1 hk1 => ?_
      have hn1 : s1.nx ≤ n := by have := take_nx h1; omega
      refine Far.bind (take_far hk1 hn1) fun s2 a2 h2 hk2 => ?_
      have hn2 : s2.nx ≤ n := by have := take_nx h2; omega
      refine Far.bind (ih _ s2 hk2 hn2) fun s3 a3 h3 hk3 => ?_
      have hn3 : s3.nx ≤ n := (fr X n _ _ _ _ _ h3).2.1 hn2
      refine Far.bind (take_far hk3 hn3) fun s4 a4 h4 hk4 => ?_
      have hn4 : s4.nx ≤ n := by have := take_nx h4; omega
      refine Far.bind (ih _ s4 hk4 hn4) fun s5 a5 h5 hk5 => ?_
      have hn5 : s5.nx ≤ n := (fr X n _ _ _ _ _ h5).2.1 hn4
      split
      · refine Far.bind (ih _ s5 hk5 hn5) fun s6 a6 h6 hk6 => ?_
        have hn6 : s6.nx ≤ n := (fr X n _ _ _ _ _ h6).2.1 hn5
        exact hk6
      · exact hk5
    | gives =>
      rw [P_gives]
      refine Far.bind (enter_far hk0 hn0) fun s1 a1 h1 hk1 => ?_
      have hn1 : s1.nx ≤ n := by have := enter_nx h1; omega
      refine Far.bind (ih _ s1 hk1 hn1) fun s2 a2 h2 hk2 => ?_
      have hn2 : s2.nx ≤ n := (fr X n _ _ _ _ _ h2).2.1 hn1
      refine Far.bind (ih _ s2 hk2 hn2) fun s3 a3 h3 hk3 => ?_
      have hn3 : s3.nx ≤ n := (fr X n _ _ _ _ _ h3).2.1 hn2
      refine Far.bind (leave_far hk3 hn3) fun s4 a4 h4 hk4 => ?_
      have hn4 : s4.nx ≤ n := by have := leave_nx h4; omega
      exact hk4
    | givesL l =>
      rw [P_givesL]
      split
      · refine Far.bind (take_far hk0 hn0) fun s1 a1 h1 hk1 => ?_
        have hn1 : s1.nx ≤ n := by have := take_nx h1; omega
        refine Far.bind (ih _ s1 hk1 hn1) fun s2 a2 h2 hk2 => ?_
        have hn2 : s2.nx ≤ n := (fr X n _ _ _ _ _ h2).2.1 hn1
        exact ih _ _ hk2 hn2
      · exact hk0
    | give =>
      rw [P_give]
      refine Far.bind (take_far hk0 hn0) fun s1 a1 h1 hk1 => ?_
      have hn1 : s1.nx ≤ n := by have := take_nx h1; omega
      refine Far.bind (ih _ s1 hk1 hn1) fun s2 a2 h2 hk2 => ?_
      have hn2 : s2.nx ≤ n := (fr X n _ _ _ _ _ h2).2.1 hn1
      refine Far.bind (ih _ s2 hk2 hn2) fun s3 a3 h3 hk3 => ?_
      have hn3 : s3.nx ≤ n := (fr X n _ _ _ _ _ h3).2.1 hn2
      exact hk3
    | start =>
      rw [P_start]
      refine Far.bind (take_far hk0 hn0) fun s1 a1 h1 hk1 => ?_
      have hn1 : s1.nx ≤ n := by have := take_nx h1; omega
      refine Far.bind (take_far hk1 hn1) fun s2 a2 h2 hk2 => ?_
      have hn2 : s2.nx ≤ n := by have := take_nx h2; omega
      refine Far.bind (ih _ s2 hk2 hn2) fun s3 a3 h3 hk3 => ?_
      have hn3 : s3.nx ≤ n := (fr X n _ _ _ _ _ h3).2.1 hn2
      refine Far.bind (take_far hk3 hn3) fun s4 a4 h4 hk4 => ?_
      have hn4 : s4.nx ≤ n := by have := take_nx h4; omega
      refine Far.bind (ih _ s4 hk4 hn4) fun s5 a5 h5 hk5 => ?_
      have hn5 : s5.nx ≤ n := (fr X n _ _ _ _ _ h5).2.1 hn4
      refine Far.bind (ih _ s5 hk5 hn5) fun s6 a6 h6 hk6 => ?_
      have hn6 : s6.nx ≤ n := (fr X n _ _ _ _ _ h6).2.1 hn5
      refine Far.bind (take_far hk6 hn6) fun s7 a7 h7 hk7 => ?_
      have hn7 : s7.nx ≤ n := by have := take_nx h7; omega
      refine Far.bind (take_far hk7 hn7) fun s8 a8 h8 hk8 => ?_
      have hn8 : s8.nx ≤ n := by have := take_nx h8; omega
      exact hk8
    | block =>
      rw [P_block]
      refine Far.bind (enter_far hk0 hn0) fun s1 a1 h1 hk1 => ?_
      have hn1 : s1.nx ≤ n := by have := enter_nx h1; omega
      refine Far.bind (ih _ s1 hk1 hn1) fun s2 a2 h2 hk2 => ?_
      have hn2 : s2.nx ≤ n := (fr X n _ _ _ _ _ h2).2.1 hn1
      refine Far.bind (leave_far hk2 hn2) fun s3 a3 h3 hk3 => ?_
      have hn3 : s3.nx ≤ n := by have := leave_nx h3; omega
      exact hk3
    | blockL l =>
      rw [P_blockL]
      split
      · exact hk0
      · refine Far.bind (ih _ s hk0 hn0) fun s1 a1 h1 hk1 => ?_
        have hn1 : s1.nx ≤ n := (fr X n _ _ _ _ _ h1).2.1 hn0
        exact ih _ _ hk1 hn1
    | stmt =>
      rw [P_stmt]
      split
      · refine Far.bind (take_far hk0 hn0) fun s1 a1 h1 hk1 => ?_
        have hn1 : s1.nx ≤ n := by have := take_nx h1; omega
        refine Far.bind (take_far hk1 hn1) fun s2 a2 h2 hk2 => ?_
        have hn2 : s2.nx ≤ n := by have := take_nx h2; omega
        refine Far.bind (ih _ s2 hk2 hn2) fun s3 a3 h3 hk3 => ?_
        have hn3 : s3.nx ≤ n := (fr X n _ _ _ _ _ h3).2.1 hn2
        exact hk3
      · split
        · exact ih _ _ hk0 hn0
        · split
          · refine Far.bind (take_far hk0 hn0) fun s1 a1 h1 hk1 => ?_
            have hn1 : s1.nx ≤ n := by have := take_nx h1; omega
            exact ih _ _ hk1 hn1
          · split
            · refine Far.bind (take_far hk0 hn0) fun s1 a1 h1 hk1 => ?_
              have hn1 : s1.nx ≤ n := by have := take_nx h1; omega
              refine Far.bind (ih _ s1 hk1 hn1) fun s2 a2 h2 hk2 => ?_
              have hn2 : s2.nx ≤ n := (fr X n _ _ _ _ _ h2).2.1 hn1
              refine Far.bind (ih _ s2 hk2 hn2) fun s3 a3 h3 hk3 => ?_
              have hn3 : s3.nx ≤ n := (fr X n _ _ _ _ _ h3).2.1 hn2
              exact hk3
            · split
              · refine Far.bind (take_far hk0 hn0) fun s1 a1 h1 hk1 => ?_
                have hn1 : s1.nx ≤ n := by have := take_nx h1; omega
                exact hk1
              · split
                · refine Far.bind (take_far hk0 hn0) fun s1 a1 h1 hk1 => ?_
                  have hn1 : s1.nx ≤ n := by have := take_nx h1; omega
                  exact hk1
                · split
                  · refine Far.bind (take_far hk0 hn0) fun s1 a1 h1 hk1 => ?_
                    have hn1 : s1.nx ≤ n := by have := take_nx h1; omega
                    exact hk1
                  · split
                    · exact ih _ _ hk0 hn0
                    · split
                      · refine Far.bind (take_far hk0 hn0) fun s1 a1 h1 hk1 => ?_
                        have hn1 : s1.nx ≤ n := by have := take_nx h1; omega
                        refine Far.bind (ih _ s1 hk1 hn1) fun s2 a2 h2 hk2 => ?_
                        have hn2 : s2.nx ≤ n := (fr X n _ _ _ _ _ h2).2.1 hn1
                        exact hk2
                      · exact refu_far hk0 hn0
    | set =>
      rw [P_set]
      refine Far.bind (take_far hk0 hn0) fun s1 a1 h1 hk1 => ?_
      have hn1 : s1.nx ≤ n := by have := take_nx h1; omega
      refine Far.bind (ih _ s1 hk1 hn1) fun s2 a2 h2 hk2 => ?_
      have hn2 : s2.nx ≤ n := (fr X n _ _ _ _ _ h2).2.1 hn1
      refine Far.bind (ih _ s2 hk2 hn2) fun s3 a3 h3 hk3 => ?_
      have hn3 : s3.nx ≤ n := (fr X n _ _ _ _ _ h3).2.1 hn2
      exact hk3
    | branch t =>
      rw [P_branch]
      refine Far.bind (ih _ s hk0 hn0) fun s1 a1 h1 hk1 => ?_
      have hn1 : s1.nx ≤ n := (fr X n _ _ _ _ _ h1).2.1 hn0
      refine Far.bind (ih _ s1 hk1 hn1) fun s2 a2 h2 hk2 => ?_
      have hn2 : s2.nx ≤ n := (fr X n _ _ _ _ _ h2).2.1 hn1
      split
      · refine Far.bind (take_far hk2 hn2) fun s3 a3 h3 hk3 => ?_
        have hn3 : s3.nx ≤ n := by have := take_nx h3; omega
        refine Far.bind (ih _ s3 hk3 hn3) fun s4 a4 h4 hk4 => ?_
        have hn4 : s4.nx ≤ n := (fr X n _ _ _ _ _ h4).2.1 hn3
        exact hk4
      · exact hk2
    | otherwise =>
      rw [P_otherwise]
      split
      · refine Far.bind (enter_far hk0 hn0) fun s1 a1 h1 hk1 => ?_
        have hn1 : s1.nx ≤ n := by have := enter_nx h1; omega
        refine Far.bind (ih _ s1 hk1 hn1) fun s2 a2 h2 hk2 => ?_
        have hn2 : s2.nx ≤ n := (fr X n _ _ _ _ _ h2).2.1 hn1
        exact hk2
      · exact ih _ _ hk0 hn0
    | send =>
      rw [P_send]
      refine Far.bind (take_far hk0 hn0) fun s1 a1 h1 hk1 => ?_
      have hn1 : s1.nx ≤ n := by have := take_nx h1; omega
      refine Far.bind (take_far hk1 hn1) fun s2 a2 h2 hk2 => ?_
      have hn2 : s2.nx ≤ n := by have := take_nx h2; omega
      refine Far.bind (ih _ s2 hk2 hn2) fun s3 a3 h3 hk3 => ?_
      have hn3 : s3.nx ≤ n := (fr X n _ _ _ _ _ h3).2.1 hn2
      refine Far.bind (take_far hk3 hn3) fun s4 a4 h4 hk4 => ?_
      have hn4 : s4.nx ≤ n := by have := take_nx h4; omega
      refine Far.bind (ih _ s4 hk4 hn4) fun s5 a5 h5 hk5 => ?_
      have hn5 : s5.nx ≤ n := (fr X n _ _ _ _ _ h5).2.1 hn4
      refine Far.bind (take_far hk5 hn5) fun s6 a6 h6 hk6 => ?_
      have hn6 : s6.nx ≤ n := by have := take_nx h6; omega
      refine Far.bind (ih _ s6 hk6 hn6) fun s7 a7 h7 hk7 => ?_
      have hn7 : s7.nx ≤ n := (fr X n _ _ _ _ _ h7).2.1 hn6
      exact hk7
end Go.Proofs.YtmekcccmnkgodaaGreatDoor
