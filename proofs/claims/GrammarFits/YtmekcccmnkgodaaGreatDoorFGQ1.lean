import Derived.Test.YtmekcccmnkgodaaGreatDoorFGP2
namespace Go.Proofs.YtmekcccmnkgodaaGreatDoor
open Go.ChangeShapes Go.WideShapes Go.ChangeAt Go.RowKit
set_option linter.unusedVariables false
set_option linter.unusedSimpArgs false
/-! ### what stands behind the first token that does not fit is not looked at -/
def endE (X : Nat → Tk) (n : Nat) : Pe := ⟨n, (X (n - 1)).line, wrap64 ((X (n - 1)).col + ((X (n - 1)).text.length : Int)), 41⟩
/-- it ended with the tokens -/
def Good {α : Type} (X : Nat → Tk) (n' : Nat) : Pr α → Prop
  | .out => True
  | .bad e => e = endE X n'
  | .ok s _ => s.nx = n'
/-- it came as far as that -/
def Far {α : Type} (n' : Nat) : Pr α → Prop
  | .out => True
  | .bad e => n' ≤ e.idx
  | .ok s _ => n' ≤ s.nx
theorem Good.bind {α β : Type} {X : Nat → Tk} {n' : Nat} {r : Pr α} {k : St → α → Pr β} (h : Good X n' r) (hk : ∀ s a, r = .ok s a → s.nx = n' → Good X n' (k s a)) : Good X n' (r.bind k) := by
  cases r with
  | out => trivial
  | bad e => exact h
  | ok s a => exact hk s a rfl h
theorem Far.bind {α β : Type} {n' : Nat} {r : Pr α} {k : St → α → Pr β} (h : Far n' r) (hk : ∀ s a, r = .ok s a → n' ≤ s.nx → Far n' (k s a)) : Far n' (r.bind k) := by
  cases r with
  | out => trivial
  | bad e => exact h
  | ok s a => exact hk s a rfl h
theorem kd_end {X : Nat → Tk} {n' : Nat} {s : St} (h : s.nx = n') : kd X n' s = 0 := by unfold kd; rw [if_pos h]
theorem refu_end {X : Nat → Tk} {n' : Nat} {s : St} (h : s.nx = n') : refu X n' s = endE X n' := by unfold refu endE; rw [if_neg (by omega)]
theorem take_eq {X : Nat → Tk} {n' : Nat} {k : Int} {s : St} (h : s.nx = n') : take X n' k s = .bad (endE X n') := by
  unfold take
  rw [if_neg (by omega), refu_end h]
theorem take_end {X : Nat → Tk} {n' : Nat} {k : Int} {s : St} (h : s.nx = n') : Good X n' (take X n' k s) := by rw [take_eq h]; rfl
theorem take_no {X : Nat → Tk} {n' : Nat} {k : Int} {s s1 : St} {t : Tk} (h : s.nx = n') : take X n' k s ≠ .ok s1 t := by rw [take_eq h]; intro e; cases e
theorem enter_eq {X : Nat → Tk} {n' : Nat} {k : Int} {s : St} (h : s.nx = n') : enter X n' k s = .bad (endE X n') := by unfold enter; rw [take_eq h]; rfl
theorem enter_end {X : Nat → Tk} {n' : Nat} {k : Int} {s : St} (h : s.nx = n') : Good X n' (enter X n' k s) := by rw [enter_eq h]; rfl
theorem enter_no {X : Nat → Tk} {n' : Nat} {k : Int} {s s1 : St} {t : Tk} (h : s.nx = n') : enter X n' k s ≠ .ok s1 t := by rw [enter_eq h]; intro e; cases e
theorem leave_eq {X : Nat → Tk} {n' : Nat} {k : Int} {s : St} (h : s.nx = n') : leave X n' k s = .bad (endE X n') := by unfold leave; rw [take_eq h]; rfl
theorem leave_end {X : Nat → Tk} {n' : Nat} {k : Int} {s : St} (h : s.nx = n') : Good X n' (leave X n' k s) := by rw [leave_eq h]; rfl
theorem leave_no {X : Nat → Tk} {n' : Nat} {k : Int} {s s1 : St} {t : Unit} (h : s.nx = n') : leave X n' k s ≠ .ok s1 t := by rw [leave_eq h]; intro e; cases e
theorem refu_far {X : Nat → Tk} {n n' : Nat} {s : St} (h : n' ≤ s.nx) (hn : s.nx ≤ n) : n' ≤ (refu X n s).idx := by
  unfold refu
  split
  · exact h
  · show n' ≤ n
    omega
theorem take_far {X : Nat → Tk} {n n' : Nat} {k : Int} {s : St} (h : n' ≤ s.nx) (hn : s.nx ≤ n) : Far n' (take X n k s) := by
  unfold take
  split
  · split
    · exact refu_far h hn
    · show n' ≤ s.nx + 1
      omega
  · exact refu_far h hn
theorem enter_far {X : Nat → Tk} {n n' : Nat} {k : Int} {s : St} (h : n' ≤ s.nx) (hn : s.nx ≤ n) : Far n' (enter X n k s) := by
  unfold enter
  refine (take_far h hn).bind fun s1 a h1 h2 => ?_
  split
  · exact h
  · exact h2
theorem leave_far {X : Nat → Tk} {n n' : Nat} {k : Int} {s : St} (h : n' ≤ s.nx) (hn : s.nx ≤ n) : Far n' (leave X n k s) := by
  unfold leave
  exact (take_far h hn).bind fun s1 a h1 h2 => h2
def Mt.fin1 : Mt → Prop
  | .bin st => 1 ≤ st
  | .binL st _ => 1 ≤ st
  | _ => True
theorem endP (X : Nat → Tk) (n' : Nat) : ∀ (f : Nat) (m : Mt) (s : St), m.fin1 → s.nx = n' → Good X n' (P X n' f m s) := by
  intro f
  induction f with
  | zero => intro m s _ _; trivial
  | succ f ih =>
    intro m s hf hc0
    cases m with
    | bin st =>
      rw [P_bin]
      have hf1 : 1 ≤ st := hf
      split
      · exact ih _ _ (by first | trivial | (simp only [Mt.fin1] at hf ⊢; omega)) hc0
      · refine Good.bind (ih _ s (by first | trivial | (simp only [Mt.fin1] at hf ⊢; omega)) hc0) fun s1 a1 h1 hc1 => ?_
        exact ih _ _ (by first | trivial | (simp only [Mt.fin1] at hf ⊢; omega)) hc1
    | binL st left =>
      rw [P_binL]
      have hf1 : 1 ≤ st := hf
      rw [if_neg (by rw [kd_end hc0]; intro e; have : bindsP 0 = 0 := rfl; omega)]
      exact hc0
    | una =>
      rw [P_una]
      rw [if_neg (by rw [kd_end hc0]; decide)]
      exact ih _ _ (by first | trivial | (simp only [Mt.fin1] at hf ⊢; omega)) hc0
    | atom =>
      rw [P_atom]
      rw [if_neg (by rw [kd_end hc0]; omega)]
      rw [if_neg (by rw [kd_end hc0]; omega)]
      rw [if_neg (by rw [kd_end hc0]; omega)]
      rw [if_neg (by rw [kd_end hc0]; omega)]
      rw [if_neg (by rw [kd_end hc0]; omega)]
      rw [if_neg (by rw [kd_end hc0]; omega)]
      rw [if_neg (by rw [kd_end hc0]; omega)]
      rw [if_neg (by rw [kd_end hc0]; omega)]
      rw [if_neg (by rw [kd_end hc0]; omega)]
      rw [if_neg (by rw [kd_end hc0]; omega)]
      exact refu_end hc0
    | named =>
      rw [P_named]
      exact Good.bind (take_end hc0) fun s9 a9 h9 => absurd h9 (take_no hc0)
    | throw q =>
      rw [P_throw]
      exact Good.bind (take_end hc0) fun s9 a9 h9 => absurd h9 (take_no hc0)
    | choice q =>
      rw [P_choice]
      exact Good.bind (take_end hc0) fun s9 a9 h9 => absurd h9 (take_no hc0)
    | brack =>
      rw [P_brack]
      exact Good.bind (enter_end hc0) fun s9 a9 h9 => absurd h9 (enter_no hc0)
    | index =>
      rw [P_index]
      rw [if_neg (by rw [kd_end hc0]; omega)]
      exact hc0
    | value =>
      rw [P_value]
      exact Good.bind (take_end hc0) fun s9 a9 h9 => absurd h9 (take_no hc0)
    | name q =>
      rw [P_name]
      exact Good.bind (take_end hc0) fun s9 a9 h9 => absurd h9 (take_no hc0)
    | scene =>
      rw [P_scene]
      exact ih _ _ (by first | trivial | (simp only [Mt.fin1] at hf ⊢; omega)) hc0
    | sceneL l =>
      rw [P_sceneL]
      rw [if_neg (by omega)]
      exact hc0
    | item =>
      rw [P_item]
      rw [if_neg (by rw [kd_end hc0]; omega)]
      rw [if_neg (by rw [kd_end hc0]; omega)]
      rw [if_neg (by rw [kd_end hc0]; omega)]
      rw [if_neg (by rw [kd_end hc0]; omega)]
      rw [if_neg (by rw [kd_end hc0]; omega)]
      rw [if_neg (by rw [kd_end hc0]; omega)]
      exact refu_end hc0
    | setting =>
      rw [P_setting]
      exact Good.bind (take_end hc0) fun s9 a9 h9 => absurd h9 (take_no hc0)
    | constant =>
      rw [P_constant]
      exact Good.bind (take_end hc0) fun s9 a9 h9 => absurd h9 (take_no hc0)
    | kinds =>
      rw [P_kinds]
      exact Good.bind (take_end hc0) fun s9 a9 h9 => absurd h9 (take_no hc0)
    | kindsL l =>
      rw [P_kindsL]
      rw [if_neg (by rw [kd_end hc0]; omega)]
      exact hc0
    | ptype =>
      rw [P_ptype]
      exact Good.bind (take_end hc0) fun s9 a9 h9 => absurd h9 (take_no hc0)
    | memL l =>
      rw [P_memL]
      rw [if_neg (by rw [kd_end hc0]; omega)]
      refine Good.bind (ih _ s (by first | trivial | (simp only [Mt.fin1] at hf ⊢; omega)) hc0) fun s1 a1 h1 hc1 => ?_
      exact ih _ _ (by first | trivial | (simp only [Mt.fin1] at hf ⊢; omega)) hc1
    | member =>
      rw [P_member]
      rw [if_neg (by rw [kd_end hc0]; omega)]
      rw [if_neg (by rw [kd_end hc0]; omega)]
      exact refu_end hc0
    | vari =>
      rw [P_vari]
      exact Good.bind (take_end hc0) fun s9 a9 h9 => absurd h9 (take_no hc0)
    | handler =>
      rw [P_handler]
      exact Good.bind (take_end hc0) fun s9 a9 h9 => absurd h9 (take_no hc0)
    | place =>
      rw [P_place]
      exact Good.bind (take_end hc0) fun s9 a9 h9 => absurd h9 (take_no hc0)
    | gives =>
      rw [P_gives]
      exact Good.bind (enter_end hc0) fun s9 a9 h9 => absurd h9 (enter_no hc0)
    | givesL l =>
      rw [P_givesL]
      rw [if_neg (by rw [kd_end hc0]; omega)]
      exact hc0
    | give =>
      rw [P_give]
      exact Good.bind (take_end hc0) fun s9 a9 h9 => absurd h9 (take_no hc0)
    | start =>
      rw [P_start]
      exact Good.bind (take_end hc0) fun s9 a9 h9 => absurd h9 (take_no hc0)
    | block =>
      rw [P_block]
      exact Good.bind (enter_end hc0) fun s9 a9 h9 => absurd h9 (enter_no hc0)
    | blockL l =>
      rw [P_blockL]
      rw [if_neg (by rw [kd_end hc0]; omega)]
      refine Good.bind (ih _ s (by first | trivial | (simp only [Mt.fin1] at hf ⊢; omega)) hc0) fun s1 a1 h1 hc1 => ?_
      exact ih _ _ (by first | trivial | (simp only [Mt.fin1] at hf ⊢; omega)) hc1
    | stmt =>
      rw [P_stmt]
      rw [if_neg (by rw [kd_end hc0]; omega)]
      rw [if_neg (by rw [kd_end hc0]; omega)]
      rw [if_neg (by rw [kd_end hc0]; omega)]
      rw [if_neg (by rw [kd_end hc0]; omega)]
      rw [if_neg (by rw [kd_end hc0]; omega)]
      rw [if_neg (by rw [kd_end hc0]; omega)]
      rw [if_neg (by rw [kd_end hc0]; omega)]
      rw [if_neg (by rw [kd_end hc0]; omega)]
      rw [if_neg (by rw [kd_end hc0]; omega)]
      exact refu_end hc0
    | set =>
      rw [P_set]
      exact Good.bind (take_end hc0) fun s9 a9 h9 => absurd h9 (take_no hc0)
    | branch t =>
      rw [P_branch]
      refine Good.bind (ih _ s (by first | trivial | (simp only [Mt.fin1] at hf ⊢; omega)) hc0) fun s1 a1 h1 hc1 => ?_
      refine Good.bind (ih _ s1 (by first | trivial | (simp only [Mt.fin1] at hf ⊢; omega)) hc1) fun s2 a2 h2 hc2 => ?_
      rw [if_neg (by rw [kd_end hc2]; omega)]
      exact hc2
    | otherwise =>
      rw [P_otherwise]
      rw [if_neg (by rw [kd_end hc0]; omega)]
      exact ih _ _ (by first | trivial | (simp only [Mt.fin1] at hf ⊢; omega)) hc0
    | send =>
      rw [P_send]
      exact Good.bind (take_end hc0) fun s9 a9 h9 => absurd h9 (take_no hc0)
theorem farP (X : Nat → Tk) (n n' : Nat) : ∀ (f : Nat) (m : Mt) (s : St), n' ≤ s.nx → s.nx ≤ n → Far n' (P X n f m s) := by
  intro f
  induction f with
  | zero => intro m s _ _; trivial
  | succ f ih =>
    intro m s hk0 hn0
    cases m with
    | bin st =>
      rw [P_bin]
      split
      · exact ih _ _ hk0 hn0
      · refine Far.bind (ih _ s hk0 hn0) fun s1 a1 h1 hk1 => ?_
        have hn1 : s1.nx ≤ n := (fr X n _ _ _ _ _ h1).2.1 hn0
        exact ih _ _ hk1 hn1
    | binL st left =>
      rw [P_binL]
      split
      · refine Far.bind (take_far hk0 hn0) fun s1 a1 h1 hk1 => ?_
        have hn1 : s1.nx ≤ n := by have := take_nx h1; omega
        refine Far.bind (ih _ s1 hk1 hn1) fun s2 a2 h2 hk2 => ?_
        have hn2 : s2.nx ≤ n := (fr X n _ _ _ _ _ h2).2.1 hn1
        refine Far.bind (show Far n' (add _ _ _ _ _ _ _) from hk2) fun s3 a3 h3 hk3 => ?_
        have hn3 : s3.nx ≤ n := by have := add_nx h3; omega
        split
        · exact hk3
        · exact ih _ _ hk3 hn3
      · exact hk0
    | una =>
      rw [P_una]
      split
      · refine Far.bind (enter_far hk0 hn0) fun s1 a1 h1 hk1 => ?_
        have hn1 : s1.nx ≤ n := by have := enter_nx h1; omega
        refine Far.bind (ih _ s1 hk1 hn1) fun s2 a2 h2 hk2 => ?_
        have hn2 : s2.nx ≤ n := (fr X n _ _ _ _ _ h2).2.1 hn1
        exact hk2
      · exact ih _ _ hk0 hn0
    | atom =>
      rw [P_atom]
      split
      · refine Far.bind (take_far hk0 hn0) fun s1 a1 h1 hk1 => ?_
        have hn1 : s1.nx ≤ n := by have := take_nx h1; omega
        exact hk1
      · split
        · exact ih _ _ hk0 hn0
        · split
          · refine Far.bind (take_far hk0 hn0) fun s1 a1 h1 hk1 => ?_
            have hn1 : s1.nx ≤ n := by have := take_nx h1; omega
            exact hk1
          · split
            · refine Far.bind (take_far hk0 hn0) fun s1 a1 h1 hk1 => ?_
              have hn1 : s1.nx ≤ n := by have := take_nx h1; omega
              exact hk1
            · split
              · refine Far.bind (take_far hk0 hn0) fun s1 a1 h1 hk1 => ?_
                have hn1 : s1.nx ≤ n := by have := take_nx h1; omega
                exact hk1
              · split
                · exact ih _ _ hk0 hn0
                · split
                  · exact ih _ _ hk0 hn0
                  · split
                    · exact ih _ _ hk0 hn0
                    · split
                      · exact ih _ _ hk0 hn0
                      · split
                        · exact ih _ _ hk0 hn0
                        · exact refu_far hk0 hn0
    | named =>
      rw [P_named]
      refine Far.bind (take_far hk0 hn0) fun s1 a1 h1 hk1 => ?_
      have hn1 : s1.nx ≤ n := by have := take_nx h1; omega
      refine Far.bind (ih _ s1 hk1 hn1) fun s2 a2 h2 hk2 => ?_
      have hn2 : s2.nx ≤ n := (fr X n _ _ _ _ _ h2).2.1 hn1
      exact hk2
    | throw q =>
      rw [P_throw]
      refine Far.bind (take_far hk0 hn0) fun s1 a1 h1 hk1 => ?_
      have hn1 : s1.nx ≤ n := by have := take_nx h1; omega
      refine Far.bind (ih _ s1 hk1 hn1) fun s2 a2 h2 hk2 => ?_
      have hn2 : s2.nx ≤ n := (fr X n _ _ _ _ _ h2).2.1 hn1
      exact hk2
    | choice q =>
      rw [P_choice]
      refine Far.bind (take_far hk0 hn0) fun s1 a1 h1 hk1 => ?_
      have hn1 : s1.nx ≤ n := by have := take_nx h1; omega
      refine Far.bind (enter_far hk1 hn1) fun s2 a2 h2 hk2 => ?_
      have hn2 : s2.nx ≤ n := by have := enter_nx h2; omega
      refine Far.bind (ih _ s2 hk2 hn2) fun s3 a3 h3 hk3 => ?_
      have hn3 : s3.nx ≤ n := (fr X n _ _ _ _ _ h3).2.1 hn2
      refine Far.bind (take_far hk3 hn3) fun s4 a4 h4 hk4 => ?_
      have hn4 : s4.nx ≤ n := by have := take_nx h4; omega
      refine Far.bind (ih _ s4 hk4 hn4) fun s5 a5 h5 hk5 => ?_
      have hn5 : s5.nx ≤ n := (fr X n _ _ _ _ _ h5).2.1 hn4
      refine Far.bind (leave_far hk5 hn5) fun s6 a6 h6 hk6 => ?_
      have hn6 : s6.nx ≤ n := by have := leave_nx h6; omega
      exact hk6
    | brack =>
      rw [P_brack]
      refine Far.bind (enter_far hk0 hn0) fun s1 a1 h1 hk1 => ?_
      have hn1 : s1.nx ≤ n := by have := enter_nx h1; omega
      refine Far.bind (ih _ s1 hk1 hn1) fun s2 a2 h2 hk2 => ?_
      have hn2 : s2.nx ≤ n := (fr X n _ _ _ _ _ h2).2.1 hn1
      refine Far.bind (leave_far hk2 hn2) fun s3 a3 h3 hk3 => ?_
      have hn3 : s3.nx ≤ n := by have := leave_nx h3; omega
      exact hk3
    | index =>
      rw [P_index]
      split
      · refine Far.bind (enter_far hk0 hn0) fun s1 a1 h1 hk1 => ?_
        have hn1 : s1.nx ≤ n := by have := enter_nx h1; omega
        refine Far.bind (ih _ s1 hk1 hn1) fun s2 a2 h2 hk2 => ?_
        have hn2 : s2.nx ≤ n := (fr X n _ _ _ _ _ h2).2.1 hn1
        refine Far.bind (leave_far hk2 hn2) fun s3 a3 h3 hk3 => ?_
        have hn3 : s3.nx ≤ n := by have := leave_nx h3; omega
        exact hk3
      · exact hk0
    | value =>
      rw [P_value]
      refine Far.bind (take_far hk0 hn0) fun s1 a1 h1 hk1 => ?_
      have hn1 : s1.nx ≤ n := by have := take_nx h1; omega
      exact ih _ _ hk1 hn1
    | name q =>
      rw [P_name]
      refine Far.bind (take_far hk0 hn0) fun s1 a1 h1 hk1 => ?_
      have hn1 : s1.nx ≤ n := by have := take_nx h1; omega
      exact hk1
    | scene =>
      rw [P_scene]
      exact ih _ _ hk0 hn0
    | sceneL l =>
      rw [P_sceneL]
      split
      · refine Far.bind (ih _ s hk0 hn0) fun s1 a1 h1 hk1 => ?_
        have hn1 : s1.nx ≤ n := (fr X n _ _ _ _ _ h1).2.1 hn0
        exact ih _ _ hk1 hn1
      · exact hk0
    | item =>
      rw [P_item]
      split
      · exact ih _ _ hk0 hn0
      · split
        · exact ih _ _ hk0 hn0
        · split
          · exact ih _ _ hk0 hn0
          · split
            · exact ih _ _ hk0 hn0
            · split
              · exact ih _ _ hk0 hn0
              · split
                · exact ih _ _ hk0 hn0
                · exact refu_far hk0 hn0
    | setting =>
      rw [P_setting]
      refine Far.bind (take_far hk0 hn0) fun s1 a1 h1 hk1 => ?_
      have hn1 : s1.nx ≤ n := by have := take_nx h1; omega
      refine Far.bind (take_far hk1 hn1) fun s2 a2 h2 hk2 => ?_
      have hn2 : s2.nx ≤ n := by have := take_nx h2; omega
      exact hk2
    | constant =>
      rw [P_constant]
      refine Far.bind (take_far hk0 hn0) fun s1 a1 h1 hk1 => ?_
      have hn1 : s1.nx ≤ n := by have := take_nx h1; omega
      refine Far.bind (take_far hk1 hn1) fun s2 a2 h2 hk2 => ?_
      have hn2 : s2.nx ≤ n := by have := take_nx h2; omega
      refine Far.bind (ih _ s2 hk2 hn2) fun s3 a3 h3 hk3 => ?_
      have hn3 : s3.nx ≤ n := (fr X n _ _ _ _ _ h3).2.1 hn2
      exact hk3
    | kinds =>
      rw [P_kinds]
      refine Far.bind (take_far hk0 hn0) fun s1 a1 h1 hk1 => ?_
      have hn1 : s1.nx ≤ n := by have := take_nx h1; omega
      refine Far.bind (ih _ s1 hk1 hn1) fun s2 a2 h2 hk2 => ?_
      have hn2 : s2.nx ≤ n := (fr X n _ _ _ _ _ h2).2.1 hn1
      refine Far.bind (ih _ s2 hk2 hn2) fun s3 a3 h3 hk3 => ?_
      have hn3 : s3.nx ≤ n := (fr X n _ _ _ _ _ h3).2.1 hn2
      exact hk3
    | kindsL l =>
      rw [P_kindsL]
      split
      · refine Far.bind (take_far hk0 hn0) fun s1 a1 h1 hk1 => ?_
        have hn1 : s1.nx ≤ n := by have := take_nx h1; omega
        refine Far.bind (ih _ s1 hk1 hn1) fun s2 a2 h2 hk2 => ?_
        have hn2 : s2.nx ≤ n := (fr X n _ _ _ _ _ h2).2.1 hn1
        exact ih _ _ hk2 hn2
      · exact hk0
    | ptype =>
      rw [P_ptype]
      refine Far.bind (take_far hk0 hn0) fun s1 a1 h1 hk1 => ?_
      have hn1 : s1.nx ≤ n := by have := take_nx h1; omega
      refine Far.bind (take_far hk1 hn1) fun s2 a2 h2 hk2 => ?_
      have hn2 : s2.nx ≤ n := by have := take_nx h2; omega
      refine Far.bind (enter_far hk2 hn2) fun s3 a3 h3 hk3 => ?_
      have hn3 : s3.nx ≤ n := by have := enter_nx h3; omega
      refine Far.bind (ih _ s3 hk3 hn3) fun s4 a4 h4 hk4 => ?_
      have hn4 : s4.nx ≤ n := (fr X n _ _ _ _ _ h4).2.1 hn3
      refine Far.bind (leave_far hk4 hn4) fun s5 a5 h5 hk5 => ?_
      have hn5 : s5.nx ≤ n := by have := leave_nx h5; omega
      exact hk5
    | memL l =>
      rw [P_memL]
      split
      · exact hk0
      · refine Far.bind (ih _ s hk0 hn0) fun s1 a1 h1 hk1 => ?_
        have hn1 : s1.nx ≤ n := (fr X n _ _ _ _ _ h1).2.1 hn0
        exact ih _ _ hk1 hn1
    | member =>
      rw [P_member]
      split
      · exact ih _ _ hk0 hn0
      · split
        · exact ih _ _ hk0 hn0
        · exact refu_far hk0 hn0
    | vari =>
      rw [P_vari]
      refine Far.bind (take_far hk0 hn0) fun s1 a1 h1 hk1 => ?_
      have hn1 : s1.nx ≤ n := by have := take_nx h1; omega
      refine Far.bind (take_far hk1 hn1) fun s2 a2 h2 hk2 => ?_
      have hn2 : s2.nx ≤ n := by have := take_nx h2; omega
      refine Far.bind (ih _ s2 hk2 hn2) fun s3 a3 h3 hk3 => ?_
      have hn3 : s3.nx ≤ n := (fr X n _ _ _ _ _ h3).2.1 hn2
      split
      · refine Far.bind (ih _ s3 hk3 hn3) fun s4 a4 h4 hk4 => ?_
        have hn4 : s4.nx ≤ n := (fr X n _ _ _ _ _ h4).2.1 hn3
        exact hk4
      · exact hk3
    | handler =>
      rw [P_handler]
      refine Far.bind (take_far hk0 hn0) fun s1 a1 h1 hk1 => ?_
      have hn1 : s1.nx ≤ n := by have := take_nx h1; omega
      refine Far.bind (take_far hk1 hn1) fun s2 a2 h2 hk2 => ?_
      have hn2 : s2.nx ≤ n := by have := take_nx h2; omega
      refine Far.bind (enter_far hk2 hn2) fun s3 a3 h3 hk3 => ?_
      have hn3 : s3.nx ≤ n := by have := enter_nx h3; omega
      refine Far.bind (ih _ s3 hk3 hn3) fun s4 a4 h4 hk4 => ?_
      have hn4 : s4.nx ≤ n := (fr X n _ _ _ _ _ h4).2.1 hn3
      refine Far.bind (leave_far hk4 hn4) fun s5 a5 h5 hk5 => ?_
      have hn5 : s5.nx ≤ n := by have := leave_nx h5; omega
      refine Far.bind (ih _ s5 hk5 hn5) fun s6 a6 h6 hk6 => ?_
      have hn6 : s6.nx ≤ n := (fr X n _ _ _ _ _ h6).2.1 hn5
      exact hk6
    | place =>
      rw [P_place]
      refine Far.bind (take_far hk0 hn0) fun s1 a1 h1 hk1 => ?_
      have hn1 : s1.nx ≤ n := by have := take_nx h1; omega
      refine Far.bind (take_far hk1 hn1) fun s2 a2 h2 hk2 => ?_
      have hn2 : s2.nx ≤ n := by have := take_nx h2; omega
      refine Far.bind (ih _ s2 hk2 hn2) fun s3 a3 h3 hk3 => ?_
      have hn3 : s3.nx ≤ n := (fr X n _ _ _ _ _ h3).2.1 hn2
      refine Far.bind (take_far hk3 hn3) fun s4 a4 h4 hk4 => ?_
      have hn4 : s4.nx ≤ n := by have := take_nx h4; omega
      refine Far.bind (ih _ s4 hk4 hn4) fun s5 a5 h5 hk5 => ?_
      have hn5 : s5.nx ≤ n := (fr X n _ _ _ _ _ h5).2.1 hn4
      split
      · refine Far.bind (ih _ s5 hk5 hn5) fun s6 a6 h6 hk6 => ?_
        have hn6 : s6.nx ≤ n := (fr X n _ _ _ _ _ h6).2.1 hn5
        exact hk6
      · exact hk5
    | gives =>
      rw [P_gives]
      refine Far.bind (enter_far hk0 hn0) fun s1 a1 h1 hk1 => ?_
      have hn1 : s1.nx ≤ n := by have := enter_nx h1; omega
      refine Far.bind (ih _ s1 hk1 hn1) fun s2 a2 h2 hk2 => ?_
      have hn2 : s2.nx ≤ n := (fr X n _ _ _ _ _ h2).2.1 hn1
      refine Far.bind (ih _ s2 hk2 hn2) fun s3 a3 h3 hk3 => ?_
      have hn3 : s3.nx ≤ n := (fr X n _ _ _ _ _ h3).2.1 hn2
      refine Far.bind (leave_far hk3 hn3) fun s4 a4 h4 hk4 => ?_
      have hn4 : s4.nx ≤ n := by have := leave_nx h4; omega
      exact hk4
    | givesL l =>
      rw [P_givesL]
      split
      · refine Far.bind (take_far hk0 hn0) fun s1 a1 h1 hk1 => ?_
        have hn1 : s1.nx ≤ n := by have := take_nx h1; omega
        refine Far.bind (ih _ s1 hk1 hn1) fun s2 a2 h2 hk2 => ?_
        have hn2 : s2.nx ≤ n := (fr X n _ _ _ _ _ h2).2.1 hn1
        exact ih _ _ hk2 hn2
      · exact hk0
    | give =>
      rw [P_give]
      refine Far.bind (take_far hk0 hn0) fun s1 a1 h1 hk1 => ?_
      have hn1 : s1.nx ≤ n := by have := take_nx h1; omega
      refine Far.bind (ih _ s1 hk1 hn1) fun s2 a2 h2 hk2 => ?_
      have hn2 : s2.nx ≤ n := (fr X n _ _ _ _ _ h2).2.1 hn1
      refine Far.bind (ih _ s2 hk2 hn2) fun s3 a3 h3 hk3 => ?_
      have hn3 : s3.nx ≤ n := (fr X n _ _ _ _ _ h3).2.1 hn2
      exact hk3
    | start =>
      rw [P_start]
      refine Far.bind (take_far hk0 hn0) fun s1 a1 h1 hk1 => ?_
      have hn1 : s1.nx ≤ n := by have := take_nx h1; omega
      refine Far.bind (take_far hk1 hn1) fun s2 a2 h2 hk2 => ?_
      have hn2 : s2.nx ≤ n := by have := take_nx h2; omega
      refine Far.bind (ih _ s2 hk2 hn2) fun s3 a3 h3 hk3 => ?_
      have hn3 : s3.nx ≤ n := (fr X n _ _ _ _ _ h3).2.1 hn2
      refine Far.bind (take_far hk3 hn3) fun s4 a4 h4 hk4 => ?_
      have hn4 : s4.nx ≤ n := by have := take_nx h4; omega
      refine Far.bind (ih _ s4 hk4 hn4) fun s5 a5 h5 hk5 => ?_
      have hn5 : s5.nx ≤ n := (fr X n _ _ _ _ _ h5).2.1 hn4
      refine Far.bind (ih _ s5 hk5 hn5) fun s6 a6 h6 hk6 => ?_
      have hn6 : s6.nx ≤ n := (fr X n _ _ _ _ _ h6).2.1 hn5
      refine Far.bind (take_far hk6 hn6) fun s7 a7 h7 hk7 => ?_
      have hn7 : s7.nx ≤ n := by have := take_nx h7; omega
      refine Far.bind (take_far hk7 hn7) fun s8 a8 h8 hk8 => ?_
      have hn8 : s8.nx ≤ n := by have := take_nx h8; omega
      exact hk8
    | block =>
      rw [P_block]
      refine Far.bind (enter_far hk0 hn0) fun s1 a1 h1 hk1 => ?_
      have hn1 : s1.nx ≤ n := by have := enter_nx h1; omega
      refine Far.bind (ih _ s1 hk1 hn1) fun s2 a2 h2 hk2 => ?_
      have hn2 : s2.nx ≤ n := (fr X n _ _ _ _ _ h2).2.1 hn1
      refine Far.bind (leave_far hk2 hn2) fun s3 a3 h3 hk3 => ?_
      have hn3 : s3.nx ≤ n := by have := leave_nx h3; omega
      exact hk3
    | blockL l =>
      rw [P_blockL]
      split
      · exact hk0
      · refine Far.bind (ih _ s hk0 hn0) fun s1 a1 h1 hk1 => ?_
        have hn1 : s1.nx ≤ n := (fr X n _ _ _ _ _ h1).2.1 hn0
        exact ih _ _ hk1 hn1
    | stmt =>
      rw [P_stmt]
      split
      · refine Far.bind (take_far hk0 hn0) fun s1 a1 h1 hk1 => ?_
        have hn1 : s1.nx ≤ n := by have := take_nx h1; omega
        refine Far.bind (take_far hk1 hn1) fun s2 a2 h2 hk2 => ?_
        have hn2 : s2.nx ≤ n := by have := take_nx h2; omega
        refine Far.bind (ih _ s2 hk2 hn2) fun s3 a3 h3 hk3 => ?_
        have hn3 : s3.nx ≤ n := (fr X n _ _ _ _ _ h3).2.1 hn2
        exact hk3
      · split
        · exact ih _ _ hk0 hn0
        · split
          · refine Far.bind (take_far hk0 hn0) fun s1 a1 h1 hk1 => ?_
            have hn1 : s1.nx ≤ n := by have := take_nx h1; omega
            exact ih _ _ hk1 hn1
          · split
            · refine Far.bind (take_far hk0 hn0) fun s1 a1 h1 hk1 => ?_
              have hn1 : s1.nx ≤ n := by have := take_nx h1; omega
              refine Far.bind (ih _ s1 hk1 hn1) fun s2 a2 h2 hk2 => ?_
              have hn2 : s2.nx ≤ n := (fr X n _ _ _ _ _ h2).2.1 hn1
              refine Far.bind (ih _ s2 hk2 hn2) fun s3 a3 h3 hk3 => ?_
              have hn3 : s3.nx ≤ n := (fr X n _ _ _ _ _ h3).2.1 hn2
              exact hk3
            · split
              · refine Far.bind (take_far hk0 hn0) fun s1 a1 h1 hk1 => ?_
                have hn1 : s1.nx ≤ n := by have := take_nx h1; omega
                exact hk1
              · split
                · refine Far.bind (take_far hk0 hn0) fun s1 a1 h1 hk1 => ?_
                  have hn1 : s1.nx ≤ n := by have := take_nx h1; omega
                  exact hk1
                · split
                  · refine Far.bind (take_far hk0 hn0) fun s1 a1 h1 hk1 => ?_
                    have hn1 : s1.nx ≤ n := by have := take_nx h1; omega
                    exact hk1
                  · split
                    · exact ih _ _ hk0 hn0
                    · split
                      · refine Far.bind (take_far hk0 hn0) fun s1 a1 h1 hk1 => ?_
                        have hn1 : s1.nx ≤ n := by have := take_nx h1; omega
                        refine Far.bind (ih _ s1 hk1 hn1) fun s2 a2 h2 hk2 => ?_
                        have hn2 : s2.nx ≤ n := (fr X n _ _ _ _ _ h2).2.1 hn1
                        exact hk2
                      · exact refu_far hk0 hn0
    | set =>
      rw [P_set]
      refine Far.bind (take_far hk0 hn0) fun s1 a1 h1 hk1 => ?_
      have hn1 : s1.nx ≤ n := by have := take_nx h1; omega
      refine Far.bind (ih _ s1 hk1 hn1) fun s2 a2 h2 hk2 => ?_
      have hn2 : s2.nx ≤ n := (fr X n _ _ _ _ _ h2).2.1 hn1
      refine Far.bind (ih _ s2 hk2 hn2) fun s3 a3 h3 hk3 => ?_
      have hn3 : s3.nx ≤ n := (fr X n _ _ _ _ _ h3).2.1 hn2
      exact hk3
    | branch t =>
      rw [P_branch]
      refine Far.bind (ih _ s hk0 hn0) fun s1 a1 h1 hk1 => ?_
      have hn1 : s1.nx ≤ n := (fr X n _ _ _ _ _ h1).2.1 hn0
      refine Far.bind (ih _ s1 hk1 hn1) fun s2 a2 h2 hk2 => ?_
      have hn2 : s2.nx ≤ n := (fr X n _ _ _ _ _ h2).2.1 hn1
      split
      · refine Far.bind (take_far hk2 hn2) fun s3 a3 h3 hk3 => ?_
        have hn3 : s3.nx ≤ n := by have := take_nx h3; omega
        refine Far.bind (ih _ s3 hk3 hn3) fun s4 a4 h4 hk4 => ?_
        have hn4 : s4.nx ≤ n := (fr X n _ _ _ _ _ h4).2.1 hn3
        exact hk4
      · exact hk2
    | otherwise =>
      rw [P_otherwise]
      split
      · refine Far.bind (enter_far hk0 hn0) fun s1 a1 h1 hk1 => ?_
        have hn1 : s1.nx ≤ n := by have := enter_nx h1; omega
        refine Far.bind (ih _ s1 hk1 hn1) fun s2 a2 h2 hk2 => ?_
        have hn2 : s2.nx ≤ n := (fr X n _ _ _ _ _ h2).2.1 hn1
        exact hk2
      · exact ih _ _ hk0 hn0
    | send =>
      rw [P_send]
      refine Far.bind (take_far hk0 hn0) fun s1 a1 h1 hk1 => ?_
      have hn1 : s1.nx ≤ n := by have := take_nx h1; omega
      refine Far.bind (take_far hk1 hn1) fun s2 a2 h2 hk2 => ?_
      have hn2 : s2.nx ≤ n := by have := take_nx h2; omega
      refine Far.bind (ih _ s2 hk2 hn2) fun s3 a3 h3 hk3 => ?_
      have hn3 : s3.nx ≤ n := (fr X n _ _ _ _ _ h3).2.1 hn2
      refine Far.bind (take_far hk3 hn3) fun s4 a4 h4 hk4 => ?_
      have hn4 : s4.nx ≤ n := by have := take_nx h4; omega
      refine Far.bind (ih _ s4 hk4 hn4) fun s5 a5 h5 hk5 => ?_
      have hn5 : s5.nx ≤ n := (fr X n _ _ _ _ _ h5).2.1 hn4
      refine Far.bind (take_far hk5 hn5) fun s6 a6 h6 hk6 => ?_
      have hn6 : s6.nx ≤ n := by have := take_nx h6; omega
      refine Far.bind (ih _ s6 hk6 hn6) fun s7 a7 h7 hk7 => ?_
      have hn7 : s7.nx ≤ n := (fr X n _ _ _ _ _ h7).2.1 hn6
      exact hk7
end Go.Proofs.YtmekcccmnkgodaaGreatDoor
namespace Go.Proofs.YtmekcccmnkgodaaGreatDoor
open Go.ChangeShapes Go.WideShapes Go.ChangeAt Go.RowKit
set_option linter.unusedVariables false
set_option linter.unusedSimpArgs false
/-- of fewer tokens: the same, or it ended with them and the other went on -/
def Cut {α : Type} (X : Nat → Tk) (n' : Nat) (a b : Pr α) : Prop := a = b ∨ (Good X n' a ∧ Far n' b)
theorem Cut.bind {α β : Type} {X : Nat → Tk} {n' : Nat} {a b : Pr α} {k' k : St → α → Pr β} (h : Cut X n' a b) (h1 : ∀ s v, a = .ok s v → b = .ok s v → Cut X n' (k' s v) (k s v)) (h2 : ∀ s v, a = .ok s v → s.nx = n' → Good X n' (k' s v)) (h3 : ∀ s v, b = .ok s v → n' ≤ s.nx → Far n' (k s v)) : Cut X n' (a.bind k') (b.bind k) := by
  rcases h with rfl | ⟨hg, hf⟩
  · cases a with
    | out => exact .inl rfl
    | bad e => exact .inl rfl
    | ok s v => exact h1 s v rfl rfl
  · exact .inr ⟨hg.bind h2, hf.bind h3⟩
theorem kd_cut {X : Nat → Tk} {n n' : Nat} {s : St} (h : s.nx < n') (hn : n' ≤ n) : kd X n' s = kd X n s := by unfold kd; rw [if_neg (by omega), if_neg (by omega)]
theorem refu_same {X : Nat → Tk} {n n' : Nat} {s : St} (h : s.nx < n') (hn : n' ≤ n) : refu X n' s = refu X n s := by unfold refu; rw [if_pos h, if_pos (by omega)]
theorem refu_cut {α : Type} {X : Nat → Tk} {n n' : Nat} {s : St} (h : s.nx ≤ n') (hn : n' ≤ n) : Cut X n' (.bad (refu X n' s) : Pr α) (.bad (refu X n s)) := by
  by_cases hl : s.nx < n'
  · rw [refu_same hl hn]; exact .inl rfl
  · exact .inr ⟨refu_end (by omega), refu_far (by omega) (by omega)⟩
theorem take_same {X : Nat → Tk} {n n' : Nat} {k : Int} {s : St} (h : s.nx < n') (hn : n' ≤ n) : take X n' k s = take X n k s := by
  have e : (s.nx < n' ∧ (X s.nx).kind = k) ↔ (s.nx < n ∧ (X s.nx).kind = k) := ⟨fun a => ⟨by omega, a.2⟩, fun a => ⟨h, a.2⟩⟩
  unfold take
  rw [refu_same h hn]
  by_cases q : s.nx < n ∧ (X s.nx).kind = k
  · rw [if_pos q, if_pos (e.2 q)]
  · rw [if_neg q, if_neg (fun a => q (e.1 a))]
theorem take_cut {X : Nat → Tk} {n n' : Nat} {k' k : Int} {s : St} (h : s.nx ≤ n') (hn : n' ≤ n) (hk : s.nx < n' → k' = k) : Cut X n' (take X n' k' s) (take X n k s) := by
  by_cases hl : s.nx < n'
  · rw [hk hl, take_same hl hn]; exact .inl rfl
  · exact .inr ⟨take_end (by omega), take_far (by omega) (by omega)⟩
theorem enter_cut {X : Nat → Tk} {n n' : Nat} {k' k : Int} {s : St} (h : s.nx ≤ n') (hn : n' ≤ n) (hk : s.nx < n' → k' = k) : Cut X n' (enter X n' k' s) (enter X n k s) := by
  by_cases hl : s.nx < n'
  · unfold enter; rw [hk hl, take_same hl hn]; exact .inl rfl
  · exact .inr ⟨enter_end (by omega), enter_far (by omega) (by omega)⟩
theorem leave_cut {X : Nat → Tk} {n n' : Nat} {k' k : Int} {s : St} (h : s.nx ≤ n') (hn : n' ≤ n) (hk : s.nx < n' → k' = k) : Cut X n' (leave X n' k' s) (leave X n k s) := by
  by_cases hl : s.nx < n'
  · unfold leave; rw [hk hl, take_same hl hn]; exact .inl rfl
  · exact .inr ⟨leave_end (by omega), leave_far (by omega) (by omega)⟩
set_option maxHeartbeats 4000000 in
theorem cutP (X : Nat → Tk) (n n' : Nat) (hnn : n' ≤ n) : ∀ (f : Nat) (m : Mt) (s : St), m.fin1 → s.nx ≤ n' → Cut X n' (P X n' f m s) (P X n f m s) := by
  intro f
  induction f with
  | zero => intro m s _ _; exact .inl rfl
  | succ f ih =>
    intro m s hf hl0
    cases m with
    | bin st =>
      rw [P_bin, P_bin]
      have hf1 : 1 ≤ st := hf
      by_cases q0 : st = 10
      · rw [if_pos q0, if_pos q0]
        exact ih _ _ (by first | trivial | (simp only [Mt.fin1] at hf ⊢; omega)) hl0
      · rw [if_neg q0, if_neg q0]
        refine Cut.bind (ih _ s (by first | trivial | (simp only [Mt.fin1] at hf ⊢; omega)) hl0) (fun s1 a1 h1 b1 => ?_) (fun s1 a1 h1 hc1 => ?_) (fun s1 a1 h1 hk1 => ?_)
        · have hl1 : s1.nx ≤ n' := (fr X n' _ _ _ _ _ h1).2.1 hl0
          exact ih _ _ (by first | trivial | (simp only [Mt.fin1] at hf ⊢; omega)) hl1
        · exact endP X n' f _ _ (by first | trivial | (simp only [Mt.fin1] at hf ⊢; omega)) hc1
        · have hn1 : s1.nx ≤ n := (fr X n _ _ _ _ _ h1).2.1 (Nat.le_trans hl0 hnn)
          exact farP X n n' f _ _ hk1 hn1
    | binL st left =>
      rw [P_binL, P_binL]
      have hf1 : 1 ≤ st := hf
      by_cases w0_3 : s.nx < n'
      · rw [kd_cut w0_3 hnn]
        by_cases q0_3 : bindsP (kd X n s) = st
        · rw [if_pos q0_3, if_pos q0_3]
          refine Cut.bind (take_cut hl0 hnn (fun _ => rfl)) (fun s1 a1 h1 b1 => ?_) (fun s1 a1 h1 hc1 => ?_) (fun s1 a1 h1 hk1 => ?_)
          · have hl1 : s1.nx ≤ n' := by have := take_nx h1; omega
            refine Cut.bind (ih _ s1 (by first | trivial | (simp only [Mt.fin1] at hf ⊢; omega)) hl1) (fun s2 a2 h2 b2 => ?_) (fun s2 a2 h2 hc2 => ?_) (fun s2 a2 h2 hk2 => ?_)
            · have hl2 : s2.nx ≤ n' := (fr X n' _ _ _ _ _ h2).2.1 hl1
              refine Cut.bind (.inl rfl) (fun s3 a3 h3 b3 => ?_) (fun s3 a3 h3 hc3 => ?_) (fun s3 a3 h3 hk3 => ?_)
              · have hl3 : s3.nx ≤ n' := by have := add_nx h3; omega
                by_cases q3 : st = 3
                · rw [if_pos q3, if_pos q3]
                  exact .inl rfl
                · rw [if_neg q3, if_neg q3]
                  exact ih _ _ (by first | trivial | (simp only [Mt.fin1] at hf ⊢; omega)) hl3
              · split
                · exact hc3
                · exact endP X n' f _ _ (by first | trivial | (simp only [Mt.fin1] at hf ⊢; omega)) hc3
              · have hn3 : s3.nx ≤ n := by have := add_nx h3; omega
                split
                · exact hk3
                · exact farP X n n' f _ _ hk3 hn3
            · refine Good.bind (show Good X n' (add _ _ _ _ _ _ _) from hc2) fun s3 a3 h3 hc3 => ?_
              split
              · exact hc3
              · exact endP X n' f _ _ (by first | trivial | (simp only [Mt.fin1] at hf ⊢; omega)) hc3
            · have hn2 : s2.nx ≤ n := (fr X n _ _ _ _ _ h2).2.1 (Nat.le_trans hl1 hnn)
              refine Far.bind (show Far n' (add _ _ _ _ _ _ _) from hk2) fun s3 a3 h3 hk3 => ?_
              have hn3 : s3.nx ≤ n := by have := add_nx h3; omega
              split
              · exact hk3
              · exact farP X n n' f _ _ hk3 hn3
          · refine Good.bind (endP X n' f _ s1 (by first | trivial | (simp only [Mt.fin1] at hf ⊢; omega)) hc1) fun s2 a2 h2 hc2 => ?_
            refine Good.bind (show Good X n' (add _ _ _ _ _ _ _) from hc2) fun s3 a3 h3 hc3 => ?_
            split
            · exact hc3
            · exact endP X n' f _ _ (by first | trivial | (simp only [Mt.fin1] at hf ⊢; omega)) hc3
          · have hn1 : s1.nx ≤ n := by have := take_nx h1; omega
            refine Far.bind (farP X n n' f _ s1 hk1 hn1) fun s2 a2 h2 hk2 => ?_
            have hn2 : s2.nx ≤ n := (fr X n _ _ _ _ _ h2).2.1 hn1
            refine Far.bind (show Far n' (add _ _ _ _ _ _ _) from hk2) fun s3 a3 h3 hk3 => ?_
            have hn3 : s3.nx ≤ n := by have := add_nx h3; omega
            split
            · exact hk3
            · exact farP X n n' f _ _ hk3 hn3
        · rw [if_neg q0_3, if_neg q0_3]
          exact .inl rfl
      · have hc0 : s.nx = n' := by omega
        have hk0 : n' ≤ s.nx := by omega
        have hn0 : s.nx ≤ n := by omega
        refine .inr ⟨?_, ?_⟩
        · rw [if_neg (by rw [kd_end hc0]; intro e; have : bindsP 0 = 0 := rfl; omega)]
          exact hc0
        · split
          · refine Far.bind (take_far hk0 hn0) fun s1 a1 h1 hk1 => ?_
            have hn1 : s1.nx ≤ n := by have := take_nx h1; omega
            refine Far.bind (farP X n n' f _ s1 hk1 hn1) fun s2 a2 h2 hk2 => ?_
            have hn2 : s2.nx ≤ n := (fr X n _ _ _ _ _ h2).2.1 hn1
            refine Far.bind (show Far n' (add _ _ _ _ _ _ _) from hk2) fun s3 a3 h3 hk3 => ?_
            have hn3 : s3.nx ≤ n := by have := add_nx h3; omega
            split
            · exact hk3
            · exact farP X n n' f _ _ hk3 hn3
          · exact hk0
    | una =>
      rw [P_una, P_una]
      by_cases w0_3 : s.nx < n'
      · rw [kd_cut w0_3 hnn]
        by_cases q0_3 : isUn (kd X n s) = true
        · rw [if_pos q0_3, if_pos q0_3]
          refine Cut.bind (enter_cut hl0 hnn (fun _ => rfl)) (fun s1 a1 h1 b1 => ?_) (fun s1 a1 h1 hc1 => ?_) (fun s1 a1 h1 hk1 => ?_)
          · have hl1 : s1.nx ≤ n' := by have := enter_nx h1; omega
            refine Cut.bind (ih _ s1 (by first | trivial | (simp only [Mt.fin1] at hf ⊢; omega)) hl1) (fun s2 a2 h2 b2 => ?_) (fun s2 a2 h2 hc2 => ?_) (fun s2 a2 h2 hk2 => ?_)
            · have hl2 : s2.nx ≤ n' := (fr X n' _ _ _ _ _ h2).2.1 hl1
              exact .inl rfl
            · exact hc2
            · have hn2 : s2.nx ≤ n := (fr X n _ _ _ _ _ h2).2.1 (Nat.le_trans hl1 hnn)
              exact hk2
          · refine Good.bind (endP X n' f _ s1 (by first | trivial | (simp only [Mt.fin1] at hf ⊢; omega)) hc1) fun s2 a2 h2 hc2 => ?_
            exact hc2
          · have hn1 : s1.nx ≤ n := by have := enter_nx h1; omega
            refine Far.bind (farP X n n' f _ s1 hk1 hn1) fun s2 a2 h2 hk2 => ?_
            have hn2 : s2.nx ≤ n := (fr X n _ _ _ _ _ h2).2.1 hn1
            exact hk2
        · rw [if_neg q0_3, if_neg q0_3]
          exact ih _ _ (by first | trivial | (simp only [Mt.fin1] at hf ⊢; omega)) hl0
      · have hc0 : s.nx = n' := by omega
        have hk0 : n' ≤ s.nx := by omega
        have hn0 : s.nx ≤ n := by omega
        refine .inr ⟨?_, ?_⟩
        · rw [if_neg (by rw [kd_end hc0]; decide)]
          exact endP X n' f _ _ (by first | trivial | (simp only [Mt.fin1] at hf ⊢; omega)) hc0
        · split
          · refine Far.bind (enter_far hk0 hn0) fun s1 a1 h1 hk1 => ?_
            have hn1 : s1.nx ≤ n := by have := enter_nx h1; omega
            refine Far.bind (farP X n n' f _ s1 hk1 hn1) fun s2 a2 h2 hk2 => ?_
            have hn2 : s2.nx ≤ n := (fr X n _ _ _ _ _ h2).2.1 hn1
            exact hk2
          · exact farP X n n' f _ _ hk0 hn0
    | atom =>
      rw [P_atom, P_atom]
      by_cases w0_3 : s.nx < n'
      · rw [kd_cut w0_3 hnn]
        by_cases q0_3 : kd X n s = 2
        · rw [if_pos q0_3, if_pos q0_3]
          refine Cut.bind (take_cut hl0 hnn (fun _ => rfl)) (fun s1 a1 h1 b1 => ?_) (fun s1 a1 h1 hc1 => ?_) (fun s1 a1 h1 hk1 => ?_)
          · have hl1 : s1.nx ≤ n' := by have := take_nx h1; omega
            exact .inl rfl
          · exact hc1
          · have hn1 : s1.nx ≤ n := by have := take_nx h1; omega
            exact hk1
        · rw [if_neg q0_3, if_neg q0_3]
          by_cases q0_5 : kd X n s = 1
          · rw [if_pos q0_5, if_pos q0_5]
            exact ih _ _ (by first | trivial | (simp only [Mt.fin1] at hf ⊢; omega)) hl0
          · rw [if_neg q0_5, if_neg q0_5]
            by_cases q0_6 : kd X n s = 34
            · rw [if_pos q0_6, if_pos q0_6]
              refine Cut.bind (take_cut hl0 hnn (fun _ => rfl)) (fun s1 a1 h1 b1 => ?_) (fun s1 a1 h1 hc1 => ?_) (fun s1 a1 h1 hk1 => ?_)
              · have hl1 : s1.nx ≤ n' := by have := take_nx h1; omega
                exact .inl rfl
              · exact hc1
              · have hn1 : s1.nx ≤ n := by have := take_nx h1; omega
                exact hk1
            · rw [if_neg q0_6, if_neg q0_6]
              by_cases q0_7 : kd X n s = 35
              · rw [if_pos q0_7, if_pos q0_7]
                refine Cut.bind (take_cut hl0 hnn (fun _ => rfl)) (fun s1 a1 h1 b1 => ?_) (fun s1 a1 h1 hc1 => ?_) (fun s1 a1 h1 hk1 => ?_)
                · have hl1 : s1.nx ≤ n' := by have := take_nx h1; omega
                  exact .inl rfl
                · exact hc1
                · have hn1 : s1.nx ≤ n := by have := take_nx h1; omega
                  exact hk1
              · rw [if_neg q0_7, if_neg q0_7]
                by_cases q0_8 : kd X n s = 36
                · rw [if_pos q0_8, if_pos q0_8]
                  refine Cut.bind (take_cut hl0 hnn (fun _ => rfl)) (fun s1 a1 h1 b1 => ?_) (fun s1 a1 h1 hc1 => ?_) (fun s1 a1 h1 hk1 => ?_)
                  · have hl1 : s1.nx ≤ n' := by have := take_nx h1; omega
                    exact .inl rfl
                  · exact hc1
                  · have hn1 : s1.nx ≤ n := by have := take_nx h1; omega
                    exact hk1
                · rw [if_neg q0_8, if_neg q0_8]
                  by_cases q0_9 : kd X n s = 37
                  · rw [if_pos q0_9, if_pos q0_9]
                    exact ih _ _ (by first | trivial | (simp only [Mt.fin1] at hf ⊢; omega)) hl0
                  · rw [if_neg q0_9, if_neg q0_9]
                    by_cases q0_10 : kd X n s = 40
                    · rw [if_pos q0_10, if_pos q0_10]
                      exact ih _ _ (by first | trivial | (simp only [Mt.fin1] at hf ⊢; omega)) hl0
                    · rw [if_neg q0_10, if_neg q0_10]
                      by_cases q0_11 : kd X n s = 38
                      · rw [if_pos q0_11, if_pos q0_11]
                        exact ih _ _ (by first | trivial | (simp only [Mt.fin1] at hf ⊢; omega)) hl0
                      · rw [if_neg q0_11, if_neg q0_11]
                        by_cases q0_12 : kd X n s = 39
                        · rw [if_pos q0_12, if_pos q0_12]
                          exact ih _ _ (by first | trivial | (simp only [Mt.fin1] at hf ⊢; omega)) hl0
                        · rw [if_neg q0_12, if_neg q0_12]
                          by_cases q0_13 : kd X n s = 50
                          · rw [if_pos q0_13, if_pos q0_13]
                            exact ih _ _ (by first | trivial | (simp only [Mt.fin1] at hf ⊢; omega)) hl0
                          · rw [if_neg q0_13, if_neg q0_13]
                            exact refu_cut hl0 hnn
      · have hc0 : s.nx = n' := by omega
        have hk0 : n' ≤ s.nx := by omega
        have hn0 : s.nx ≤ n := by omega
        refine .inr ⟨?_, ?_⟩
        · rw [if_neg (by rw [kd_end hc0]; omega)]
          rw [if_neg (by rw [kd_end hc0]; omega)]
          rw [if_neg (by rw [kd_end hc0]; omega)]
          rw [if_neg (by rw [kd_end hc0]; omega)]
          rw [if_neg (by rw [kd_end hc0]; omega)]
          rw [if_neg (by rw [kd_end hc0]; omega)]
          rw [if_neg (by rw [kd_end hc0]; omega)]
          rw [if_neg (by rw [kd_end hc0]; omega)]
          rw [if_neg (by rw [kd_end hc0]; omega)]
          rw [if_neg (by rw [kd_end hc0]; omega)]
          exact refu_end hc0
        · split
          · refine Far.bind (take_far hk0 hn0) fun s1 a1 h1 hk1 => ?_
            have hn1 : s1.nx ≤ n := by have := take_nx h1; omega
            exact hk1
          · split
            · exact farP X n n' f _ _ hk0 hn0
            · split
              · refine Far.bind (take_far hk0 hn0) fun s1 a1 h1 hk1 => ?_
                have hn1 : s1.nx ≤ n := by have := take_nx h1; omega
                exact hk1
              · split
                · refine Far.bind (take_far hk0 hn0) fun s1 a1 h1 hk1 => ?_
                  have hn1 : s1.nx ≤ n := by have := take_nx h1; omega
                  exact hk1
                · split
                  · refine Far.bind (take_far hk0 hn0) fun s1 a1 h1 hk1 => ?_
                    have hn1 : s1.nx ≤ n := by have := take_nx h1; omega
                    exact hk1
                  · split
                    · exact farP X n n' f _ _ hk0 hn0
                    · split
                      · exact farP X n n' f _ _ hk0 hn0
                      · split
                        · exact farP X n n' f _ _ hk0 hn0
                        · split
                          · exact farP X n n' f _ _ hk0 hn0
                          · split
                            · exact farP X n n' f _ _ hk0 hn0
                            · exact refu_far hk0 hn0
    | named =>
      rw [P_named, P_named]
      refine Cut.bind (take_cut hl0 hnn (fun _ => rfl)) (fun s1 a1 h1 b1 => ?_) (fun s1 a1 h1 hc1 => ?_) (fun s1 a1 h1 hk1 => ?_)
      · have hl1 : s1.nx ≤ n' := by have := take_nx h1; omega
        refine Cut.bind (ih _ s1 (by first | trivial | (simp only [Mt.fin1] at hf ⊢; omega)) hl1) (fun s2 a2 h2 b2 => ?_) (fun s2 a2 h2 hc2 => ?_) (fun s2 a2 h2 hk2 => ?_)
        · have hl2 : s2.nx ≤ n' := (fr X n' _ _ _ _ _ h2).2.1 hl1
          exact .inl rfl
        · exact hc2
        · have hn2 : s2.nx ≤ n := (fr X n _ _ _ _ _ h2).2.1 (Nat.le_trans hl1 hnn)
          exact hk2
      · refine Good.bind (endP X n' f _ s1 (by first | trivial | (simp only [Mt.fin1] at hf ⊢; omega)) hc1) fun s2 a2 h2 hc2 => ?_
        exact hc2
      · have hn1 : s1.nx ≤ n := by have := take_nx h1; omega
        refine Far.bind (farP X n n' f _ s1 hk1 hn1) fun s2 a2 h2 hk2 => ?_
        have hn2 : s2.nx ≤ n := (fr X n _ _ _ _ _ h2).2.1 hn1
        exact hk2
    | throw q =>
      rw [P_throw, P_throw]
      refine Cut.bind (take_cut hl0 hnn (fun hl => kd_cut hl hnn)) (fun s1 a1 h1 b1 => ?_) (fun s1 a1 h1 hc1 => ?_) (fun s1 a1 h1 hk1 => ?_)
      · have hl1 : s1.nx ≤ n' := by have := take_nx h1; omega
        refine Cut.bind (ih _ s1 (by first | trivial | (simp only [Mt.fin1] at hf ⊢; omega)) hl1) (fun s2 a2 h2 b2 => ?_) (fun s2 a2 h2 hc2 => ?_) (fun s2 a2 h2 hk2 => ?_)
        · have hl2 : s2.nx ≤ n' := (fr X n' _ _ _ _ _ h2).2.1 hl1
          exact .inl rfl
        · exact hc2
        · have hn2 : s2.nx ≤ n := (fr X n _ _ _ _ _ h2).2.1 (Nat.le_trans hl1 hnn)
          exact hk2
      · refine Good.bind (endP X n' f _ s1 (by first | trivial | (simp only [Mt.fin1] at hf ⊢; omega)) hc1) fun s2 a2 h2 hc2 => ?_
        exact hc2
      · have hn1 : s1.nx ≤ n := by have := take_nx h1; omega
        refine Far.bind (farP X n n' f _ s1 hk1 hn1) fun s2 a2 h2 hk2 => ?_
        have hn2 : s2.nx ≤ n := (fr X n _ _ _ _ _ h2).2.1 hn1
        exact hk2
    | choice q =>
      rw [P_choice, P_choice]
      refine Cut.bind (take_cut hl0 hnn (fun hl => kd_cut hl hnn)) (fun s1 a1 h1 b1 => ?_) (fun s1 a1 h1 hc1 => ?_) (fun s1 a1 h1 hk1 => ?_)
      · have hl1 : s1.nx ≤ n' := by have := take_nx h1; omega
        refine Cut.bind (enter_cut hl1 hnn (fun _ => rfl)) (fun s2 a2 h2 b2 => ?_) (fun s2 a2 h2 hc2 => ?_) (fun s2 a2 h2 hk2 => ?_)
        · have hl2 : s2.nx ≤ n' := by have := enter_nx h2; omega
          refine Cut.bind (ih _ s2 (by first | trivial | (simp only [Mt.fin1] at hf ⊢; omega)) hl2) (fun s3 a3 h3 b3 => ?_) (fun s3 a3 h3 hc3 => ?_) (fun s3 a3 h3 hk3 => ?_)
          · have hl3 : s3.nx ≤ n' := (fr X n' _ _ _ _ _ h3).2.1 hl2
            refine Cut.bind (take_cut hl3 hnn (fun _ => rfl)) (fun s4 a4 h4 b4 => ?_) (fun s4 a4 h4 hc4 => ?_) (fun s4 a4 h4 hk4 => ?_)
            · have hl4 : s4.nx ≤ n' := by have := take_nx h4; omega
              refine Cut.bind (ih _ s4 (by first | trivial | (simp only [Mt.fin1] at hf ⊢; omega)) hl4) (fun s5 a5 h5 b5 => ?_) (fun s5 a5 h5 hc5 => ?_) (fun s5 a5 h5 hk5 => ?_)
              · have hl5 : s5.nx ≤ n' := (fr X n' _ _ _ _ _ h5).2.1 hl4
                refine Cut.bind (leave_cut hl5 hnn (fun _ => rfl)) (fun s6 a6 h6 b6 => ?_) (fun s6 a6 h6 hc6 => ?_) (fun s6 a6 h6 hk6 => ?_)
                · have hl6 : s6.nx ≤ n' := by have := leave_nx h6; omega
                  exact .inl rfl
                · exact hc6
                · have hn6 : s6.nx ≤ n := by have := leave_nx h6; omega
                  exact hk6
              · exact Good.bind (leave_end hc5) fun s9 a9 h9 => absurd h9 (leave_no hc5)
              · have hn5 : s5.nx ≤ n := (fr X n _ _ _ _ _ h5).2.1 (Nat.le_trans hl4 hnn)
                refine Far.bind (leave_far hk5 hn5) fun s6 a6 h6 hk6 => ?_
                have hn6 : s6.nx ≤ n := by have := leave_nx h6; omega
                exact hk6
            · refine Good.bind (endP X n' f _ s4 (by first | trivial | (simp only [Mt.fin1] at hf ⊢; omega)) hc4) fun s5 a5 h5 hc5 => ?_
              exact Good.bind (leave_end hc5) fun s9 a9 h9 => absurd h9 (leave_no hc5)
            · have hn4 : s4.nx ≤ n := by have := take_nx h4; omega
              refine Far.bind (farP X n n' f _ s4 hk4 hn4) fun s5 a5 h5 hk5 => ?_
              have hn5 : s5.nx ≤ n := (fr X n _ _ _ _ _ h5).2.1 hn4
              refine Far.bind (leave_far hk5 hn5) fun s6 a6 h6 hk6 => ?_
              have hn6 : s6.nx ≤ n := by have := leave_nx h6; omega
              exact hk6
          · exact Good.bind (take_end hc3) fun s9 a9 h9 => absurd h9 (take_no hc3)
          · have hn3 : s3.nx ≤ n := (fr X n _ _ _ _ _ h3).2.1 (Nat.le_trans hl2 hnn)
            refine Far.bind (take_far hk3 hn3) fun s4 a4 h4 hk4 => ?_
            have hn4 : s4.nx ≤ n := by have := take_nx h4; omega
            refine Far.bind (farP X n n' f _ s4 hk4 hn4) fun s5 a5 h5 hk5 => ?_
            have hn5 : s5.nx ≤ n := (fr X n _ _ _ _ _ h5).2.1 hn4
            refine Far.bind (leave_far hk5 hn5) fun s6 a6 h6 hk6 => ?_
            have hn6 : s6.nx ≤ n := by have := leave_nx h6; omega
            exact hk6
        · refine Good.bind (endP X n' f _ s2 (by first | trivial | (simp only [Mt.fin1] at hf ⊢; omega)) hc2) fun s3 a3 h3 hc3 => ?_
          exact Good.bind (take_end hc3) fun s9 a9 h9 => absurd h9 (take_no hc3)
        · have hn2 : s2.nx ≤ n := by have := enter_nx h2; omega
          refine Far.bind (farP X n n' f _ s2 hk2 hn2) fun s3 a3 h3 hk3 => ?_
          have hn3 : s3.nx ≤ n := (fr X n _ _ _ _ _ h3).2.1 hn2
          refine Far.bind (take_far hk3 hn3) fun s4 a4 h4 hk4 => ?_
          have hn4 : s4.nx ≤ n := by have := take_nx h4; omega
          refine Far.bind (farP X n n' f _ s4 hk4 hn4) fun s5 a5 h5 hk5 => ?_
          have hn5 : s5.nx ≤ n := (fr X n _ _ _ _ _ h5).2.1 hn4
          refine Far.bind (leave_far hk5 hn5) fun s6 a6 h6 hk6 => ?_
          have hn6 : s6.nx ≤ n := by have := leave_nx h6; omega
          exact hk6
      · exact Good.bind (enter_end hc1) fun s9 a9 h9 => absurd h9 (enter_no hc1)
      · have hn1 : s1.nx ≤ n := by have := take_nx h1; omega
        refine Far.bind (enter_far hk1 hn1) fun s2 a2 h2 hk2 => ?_
        have hn2 : s2.nx ≤ n := by have := enter_nx h2; omega
        refine Far.bind (farP X n n' f _ s2 hk2 hn2) fun s3 a3 h3 hk3 => ?_
        have hn3 : s3.nx ≤ n := (fr X n _ _ _ _ _ h3).2.1 hn2
        refine Far.bind (take_far hk3 hn3) fun s4 a4 h4 hk4 => ?_
        have hn4 : s4.nx ≤ n := by have := take_nx h4; omega
        refine Far.bind (farP X n n' f _ s4 hk4 hn4) fun s5 a5 h5 hk5 => ?_
        have hn5 : s5.nx ≤ n := (fr X n _ _ _ _ _ h5).2.1 hn4
        refine Far.bind (leave_far hk5 hn5) fun s6 a6 h6 hk6 => ?_
        have hn6 : s6.nx ≤ n := by have := leave_nx h6; omega
        exact hk6
    | brack =>
      rw [P_brack, P_brack]
      refine Cut.bind (enter_cut hl0 hnn (fun _ => rfl)) (fun s1 a1 h1 b1 => ?_) (fun s1 a1 h1 hc1 => ?_) (fun s1 a1 h1 hk1 => ?_)
      · have hl1 : s1.nx ≤ n' := by have := enter_nx h1; omega
        refine Cut.bind (ih _ s1 (by first | trivial | (simp only [Mt.fin1] at hf ⊢; omega)) hl1) (fun s2 a2 h2 b2 => ?_) (fun s2 a2 h2 hc2 => ?_) (fun s2 a2 h2 hk2 => ?_)
        · have hl2 : s2.nx ≤ n' := (fr X n' _ _ _ _ _ h2).2.1 hl1
          refine Cut.bind (leave_cut hl2 hnn (fun _ => rfl)) (fun s3 a3 h3 b3 => ?_) (fun s3 a3 h3 hc3 => ?_) (fun s3 a3 h3 hk3 => ?_)
          · have hl3 : s3.nx ≤ n' := by have := leave_nx h3; omega
            exact .inl rfl
          · exact hc3
          · have hn3 : s3.nx ≤ n := by have := leave_nx h3; omega
            exact hk3
        · exact Good.bind (leave_end hc2) fun s9 a9 h9 => absurd h9 (leave_no hc2)
        · have hn2 : s2.nx ≤ n := (fr X n _ _ _ _ _ h2).2.1 (Nat.le_trans hl1 hnn)
          refine Far.bind (leave_far hk2 hn2) fun s3 a3 h3 hk3 => ?_
          have hn3 : s3.nx ≤ n := by have := leave_nx h3; omega
          exact hk3
      · refine Good.bind (endP X n' f _ s1 (by first | trivial | (simp only [Mt.fin1] at hf ⊢; omega)) hc1) fun s2 a2 h2 hc2 => ?_
        exact Good.bind (leave_end hc2) fun s9 a9 h9 => absurd h9 (leave_no hc2)
      · have hn1 : s1.nx ≤ n := by have := enter_nx h1; omega
        refine Far.bind (farP X n n' f _ s1 hk1 hn1) fun s2 a2 h2 hk2 => ?_
        have hn2 : s2.nx ≤ n := (fr X n _ _ _ _ _ h2).2.1 hn1
        refine Far.bind (leave_far hk2 hn2) fun s3 a3 h3 hk3 => ?_
        have hn3 : s3.nx ≤ n := by have := leave_nx h3; omega
        exact hk3
    | index =>
      rw [P_index, P_index]
      by_cases w0_3 : s.nx < n'
      · rw [kd_cut w0_3 hnn]
        by_cases q0_3 : kd X n s = 52
        · rw [if_pos q0_3, if_pos q0_3]
          refine Cut.bind (enter_cut hl0 hnn (fun _ => rfl)) (fun s1 a1 h1 b1 => ?_) (fun s1 a1 h1 hc1 => ?_) (fun s1 a1 h1 hk1 => ?_)
          · have hl1 : s1.nx ≤ n' := by have := enter_nx h1; omega
            refine Cut.bind (ih _ s1 (by first | trivial | (simp only [Mt.fin1] at hf ⊢; omega)) hl1) (fun s2 a2 h2 b2 => ?_) (fun s2 a2 h2 hc2 => ?_) (fun s2 a2 h2 hk2 => ?_)
            · have hl2 : s2.nx ≤ n' := (fr X n' _ _ _ _ _ h2).2.1 hl1
              refine Cut.bind (leave_cut hl2 hnn (fun _ => rfl)) (fun s3 a3 h3 b3 => ?_) (fun s3 a3 h3 hc3 => ?_) (fun s3 a3 h3 hk3 => ?_)
              · have hl3 : s3.nx ≤ n' := by have := leave_nx h3; omega
                exact .inl rfl
              · exact hc3
              · have hn3 : s3.nx ≤ n := by have := leave_nx h3; omega
                exact hk3
            · exact Good.bind (leave_end hc2) fun s9 a9 h9 => absurd h9 (leave_no hc2)
            · have hn2 : s2.nx ≤ n := (fr X n _ _ _ _ _ h2).2.1 (Nat.le_trans hl1 hnn)
              refine Far.bind (leave_far hk2 hn2) fun s3 a3 h3 hk3 => ?_
              have hn3 : s3.nx ≤ n := by have := leave_nx h3; omega
              exact hk3
          · refine Good.bind (endP X n' f _ s1 (by first | trivial | (simp only [Mt.fin1] at hf ⊢; omega)) hc1) fun s2 a2 h2 hc2 => ?_
            exact Good.bind (leave_end hc2) fun s9 a9 h9 => absurd h9 (leave_no hc2)
          · have hn1 : s1.nx ≤ n := by have := enter_nx h1; omega
            refine Far.bind (farP X n n' f _ s1 hk1 hn1) fun s2 a2 h2 hk2 => ?_
            have hn2 : s2.nx ≤ n := (fr X n _ _ _ _ _ h2).2.1 hn1
            refine Far.bind (leave_far hk2 hn2) fun s3 a3 h3 hk3 => ?_
            have hn3 : s3.nx ≤ n := by have := leave_nx h3; omega
            exact hk3
        · rw [if_neg q0_3, if_neg q0_3]
          exact .inl rfl
      · have hc0 : s.nx = n' := by omega
        have hk0 : n' ≤ s.nx := by omega
        have hn0 : s.nx ≤ n := by omega
        refine .inr ⟨?_, ?_⟩
        · rw [if_neg (by rw [kd_end hc0]; omega)]
          exact hc0
        · split
          · refine Far.bind (enter_far hk0 hn0) fun s1 a1 h1 hk1 => ?_
            have hn1 : s1.nx ≤ n := by have := enter_nx h1; omega
            refine Far.bind (farP X n n' f _ s1 hk1 hn1) fun s2 a2 h2 hk2 => ?_
            have hn2 : s2.nx ≤ n := (fr X n _ _ _ _ _ h2).2.1 hn1
            refine Far.bind (leave_far hk2 hn2) fun s3 a3 h3 hk3 => ?_
            have hn3 : s3.nx ≤ n := by have := leave_nx h3; omega
            exact hk3
          · exact hk0
    | value =>
      rw [P_value, P_value]
      refine Cut.bind (take_cut hl0 hnn (fun _ => rfl)) (fun s1 a1 h1 b1 => ?_) (fun s1 a1 h1 hc1 => ?_) (fun s1 a1 h1 hk1 => ?_)
      · have hl1 : s1.nx ≤ n' := by have := take_nx h1; omega
        exact ih _ _ (by first | trivial | (simp only [Mt.fin1] at hf ⊢; omega)) hl1
      · exact endP X n' f _ _ (by first | trivial | (simp only [Mt.fin1] at hf ⊢; omega)) hc1
      · have hn1 : s1.nx ≤ n := by have := take_nx h1; omega
        exact farP X n n' f _ _ hk1 hn1
    | name q =>
      rw [P_name, P_name]
      refine Cut.bind (take_cut hl0 hnn (fun _ => rfl)) (fun s1 a1 h1 b1 => ?_) (fun s1 a1 h1 hc1 => ?_) (fun s1 a1 h1 hk1 => ?_)
      · have hl1 : s1.nx ≤ n' := by have := take_nx h1; omega
        exact .inl rfl
      · exact hc1
      · have hn1 : s1.nx ≤ n := by have := take_nx h1; omega
        exact hk1
    | scene =>
      rw [P_scene, P_scene]
      exact ih _ _ (by first | trivial | (simp only [Mt.fin1] at hf ⊢; omega)) hl0
    | sceneL l =>
      rw [P_sceneL, P_sceneL]
      by_cases w0_3 : s.nx < n'
      · rw [if_pos w0_3, if_pos (Nat.lt_of_lt_of_le w0_3 hnn)]
        refine Cut.bind (ih _ s (by first | trivial | (simp only [Mt.fin1] at hf ⊢; omega)) hl0) (fun s1 a1 h1 b1 => ?_) (fun s1 a1 h1 hc1 => ?_) (fun s1 a1 h1 hk1 => ?_)
        · have hl1 : s1.nx ≤ n' := (fr X n' _ _ _ _ _ h1).2.1 hl0
          exact ih _ _ (by first | trivial | (simp only [Mt.fin1] at hf ⊢; omega)) hl1
        · exact endP X n' f _ _ (by first | trivial | (simp only [Mt.fin1] at hf ⊢; omega)) hc1
        · have hn1 : s1.nx ≤ n := (fr X n _ _ _ _ _ h1).2.1 (Nat.le_trans hl0 hnn)
          exact farP X n n' f _ _ hk1 hn1
      · have hc0 : s.nx = n' := by omega
        have hk0 : n' ≤ s.nx := by omega
        have hn0 : s.nx ≤ n := by omega
        refine .inr ⟨?_, ?_⟩
        · rw [if_neg (by omega)]
          exact hc0
        · split
          · refine Far.bind (farP X n n' f _ s hk0 hn0) fun s1 a1 h1 hk1 => ?_
            have hn1 : s1.nx ≤ n := (fr X n _ _ _ _ _ h1).2.1 hn0
            exact farP X n n' f _ _ hk1 hn1
          · exact hk0
    | item =>
      rw [P_item, P_item]
      by_cases w0_3 : s.nx < n'
      · rw [kd_cut w0_3 hnn]
        by_cases q0_3 : 10 ≤ kd X n s ∧ kd X n s ≤ 14
        · rw [if_pos q0_3, if_pos q0_3]
          exact ih _ _ (by first | trivial | (simp only [Mt.fin1] at hf ⊢; omega)) hl0
        · rw [if_neg q0_3, if_neg q0_3]
          by_cases q0_5 : kd X n s = 15
          · rw [if_pos q0_5, if_pos q0_5]
            exact ih _ _ (by first | trivial | (simp only [Mt.fin1] at hf ⊢; omega)) hl0
          · rw [if_neg q0_5, if_neg q0_5]
            by_cases q0_6 : kd X n s = 16
            · rw [if_pos q0_6, if_pos q0_6]
              exact ih _ _ (by first | trivial | (simp only [Mt.fin1] at hf ⊢; omega)) hl0
            · rw [if_neg q0_6, if_neg q0_6]
              by_cases q0_7 : kd X n s = 17
              · rw [if_pos q0_7, if_pos q0_7]
                exact ih _ _ (by first | trivial | (simp only [Mt.fin1] at hf ⊢; omega)) hl0
              · rw [if_neg q0_7, if_neg q0_7]
                by_cases q0_8 : kd X n s = 20
                · rw [if_pos q0_8, if_pos q0_8]
                  exact ih _ _ (by first | trivial | (simp only [Mt.fin1] at hf ⊢; omega)) hl0
                · rw [if_neg q0_8, if_neg q0_8]
                  by_cases q0_9 : kd X n s = 21
                  · rw [if_pos q0_9, if_pos q0_9]
                    exact ih _ _ (by first | trivial | (simp only [Mt.fin1] at hf ⊢; omega)) hl0
                  · rw [if_neg q0_9, if_neg q0_9]
                    exact refu_cut hl0 hnn
      · have hc0 : s.nx = n' := by omega
        have hk0 : n' ≤ s.nx := by omega
        have hn0 : s.nx ≤ n := by omega
        refine .inr ⟨?_, ?_⟩
        · rw [if_neg (by rw [kd_end hc0]; omega)]
          rw [if_neg (by rw [kd_end hc0]; omega)]
          rw [if_neg (by rw [kd_end hc0]; omega)]
          rw [if_neg (by rw [kd_end hc0]; omega)]
          rw [if_neg (by rw [kd_end hc0]; omega)]
          rw [if_neg (by rw [kd_end hc0]; omega)]
          exact refu_end hc0
        · split
          · exact farP X n n' f _ _ hk0 hn0
          · split
            · exact farP X n n' f _ _ hk0 hn0
            · split
              · exact farP X n n' f _ _ hk0 hn0
              · split
                · exact farP X n n' f _ _ hk0 hn0
                · split
                  · exact farP X n n' f _ _ hk0 hn0
                  · split
                    · exact farP X n n' f _ _ hk0 hn0
                    · exact refu_far hk0 hn0
    | setting =>
      rw [P_setting, P_setting]
      refine Cut.bind (take_cut hl0 hnn (fun hl => kd_cut hl hnn)) (fun s1 a1 h1 b1 => ?_) (fun s1 a1 h1 hc1 => ?_) (fun s1 a1 h1 hk1 => ?_)
      · have hl1 : s1.nx ≤ n' := by have := take_nx h1; omega
        refine Cut.bind (take_cut hl1 hnn (fun _ => rfl)) (fun s2 a2 h2 b2 => ?_) (fun s2 a2 h2 hc2 => ?_) (fun s2 a2 h2 hk2 => ?_)
        · have hl2 : s2.nx ≤ n' := by have := take_nx h2; omega
          exact .inl rfl
        · exact hc2
        · have hn2 : s2.nx ≤ n := by have := take_nx h2; omega
          exact hk2
      · exact Good.bind (take_end hc1) fun s9 a9 h9 => absurd h9 (take_no hc1)
      · have hn1 : s1.nx ≤ n := by have := take_nx h1; omega
        refine Far.bind (take_far hk1 hn1) fun s2 a2 h2 hk2 => ?_
        have hn2 : s2.nx ≤ n := by have := take_nx h2; omega
        exact hk2
    | constant =>
      rw [P_constant, P_constant]
      refine Cut.bind (take_cut hl0 hnn (fun _ => rfl)) (fun s1 a1 h1 b1 => ?_) (fun s1 a1 h1 hc1 => ?_) (fun s1 a1 h1 hk1 => ?_)
      · have hl1 : s1.nx ≤ n' := by have := take_nx h1; omega
        refine Cut.bind (take_cut hl1 hnn (fun _ => rfl)) (fun s2 a2 h2 b2 => ?_) (fun s2 a2 h2 hc2 => ?_) (fun s2 a2 h2 hk2 => ?_)
        · have hl2 : s2.nx ≤ n' := by have := take_nx h2; omega
          refine Cut.bind (ih _ s2 (by first | trivial | (simp only [Mt.fin1] at hf ⊢; omega)) hl2) (fun s3 a3 h3 b3 => ?_) (fun s3 a3 h3 hc3 => ?_) (fun s3 a3 h3 hk3 => ?_)
          · have hl3 : s3.nx ≤ n' := (fr X n' _ _ _ _ _ h3).2.1 hl2
            exact .inl rfl
          · exact hc3
          · have hn3 : s3.nx ≤ n := (fr X n _ _ _ _ _ h3).2.1 (Nat.le_trans hl2 hnn)
            exact hk3
        · refine Good.bind (endP X n' f _ s2 (by first | trivial | (simp only [Mt.fin1] at hf ⊢; omega)) hc2) fun s3 a3 h3 hc3 => ?_
          exact hc3
        · have hn2 : s2.nx ≤ n := by have := take_nx h2; omega
          refine Far.bind (farP X n n' f _ s2 hk2 hn2) fun s3 a3 h3 hk3 => ?_
          have hn3 : s3.nx ≤ n := (fr X n _ _ _ _ _ h3).2.1 hn2
          exact hk3
      · exact Good.bind (take_end hc1) fun s9 a9 h9 => absurd h9 (take_no hc1)
      · have hn1 : s1.nx ≤ n := by have := take_nx h1; omega
        refine Far.bind (take_far hk1 hn1) fun s2 a2 h2 hk2 => ?_
        have hn2 : s2.nx ≤ n := by have := take_nx h2; omega
        refine Far.bind (farP X n n' f _ s2 hk2 hn2) fun s3 a3 h3 hk3 => ?_
        have hn3 : s3.nx ≤ n := (fr X n _ _ _ _ _ h3).2.1 hn2
        exact hk3
    | kinds =>
      rw [P_kinds, P_kinds]
      refine Cut.bind (take_cut hl0 hnn (fun _ => rfl)) (fun s1 a1 h1 b1 => ?_) (fun s1 a1 h1 hc1 => ?_) (fun s1 a1 h1 hk1 => ?_)
      · have hl1 : s1.nx ≤ n' := by have := take_nx h1; omega
        refine Cut.bind (ih _ s1 (by first | trivial | (simp only [Mt.fin1] at hf ⊢; omega)) hl1) (fun s2 a2 h2 b2 => ?_) (fun s2 a2 h2 hc2 => ?_) (fun s2 a2 h2 hk2 => ?_)
        · have hl2 : s2.nx ≤ n' := (fr X n' _ _ _ _ _ h2).2.1 hl1
          refine Cut.bind (ih _ s2 (by first | trivial | (simp only [Mt.fin1] at hf ⊢; omega)) hl2) (fun s3 a3 h3 b3 => ?_) (fun s3 a3 h3 hc3 => ?_) (fun s3 a3 h3 hk3 => ?_)
          · have hl3 : s3.nx ≤ n' := (fr X n' _ _ _ _ _ h3).2.1 hl2
            exact .inl rfl
          · exact hc3
          · have hn3 : s3.nx ≤ n := (fr X n _ _ _ _ _ h3).2.1 (Nat.le_trans hl2 hnn)
            exact hk3
        · refine Good.bind (endP X n' f _ s2 (by first | trivial | (simp only [Mt.fin1] at hf ⊢; omega)) hc2) fun s3 a3 h3 hc3 => ?_
          exact hc3
        · have hn2 : s2.nx ≤ n := (fr X n _ _ _ _ _ h2).2.1 (Nat.le_trans hl1 hnn)
          refine Far.bind (farP X n n' f _ s2 hk2 hn2) fun s3 a3 h3 hk3 => ?_
          have hn3 : s3.nx ≤ n := (fr X n _ _ _ _ _ h3).2.1 hn2
          exact hk3
      · refine Good.bind (endP X n' f _ s1 (by first | trivial | (simp only [Mt.fin1] at hf ⊢; omega)) hc1) fun s2 a2 h2 hc2 => ?_
        refine Good.bind (endP X n' f _ s2 (by first | trivial | (simp only [Mt.fin1] at hf ⊢; omega)) hc2) fun s3 a3 h3 hc3 => ?_
        exact hc3
      · have hn1 : s1.nx ≤ n := by have := take_nx h1; omega
        refine Far.bind (farP X n n' f _ s1 hk1 hn1) fun s2 a2 h2 hk2 => ?_
        have hn2 : s2.nx ≤ n := (fr X n _ _ _ _ _ h2).2.1 hn1
        refine Far.bind (farP X n n' f _ s2 hk2 hn2) fun s3 a3 h3 hk3 => ?_
        have hn3 : s3.nx ≤ n := (fr X n _ _ _ _ _ h3).2.1 hn2
        exact hk3
    | kindsL l =>
      rw [P_kindsL, P_kindsL]
      by_cases w0_3 : s.nx < n'
      · rw [kd_cut w0_3 hnn]
        by_cases q0_3 : kd X n s = 56
        · rw [if_pos q0_3, if_pos q0_3]
          refine Cut.bind (take_cut hl0 hnn (fun _ => rfl)) (fun s1 a1 h1 b1 => ?_) (fun s1 a1 h1 hc1 => ?_) (fun s1 a1 h1 hk1 => ?_)
          · have hl1 : s1.nx ≤ n' := by have := take_nx h1; omega
            refine Cut.bind (ih _ s1 (by first | trivial | (simp only [Mt.fin1] at hf ⊢; omega)) hl1) (fun s2 a2 h2 b2 => ?_) (fun s2 a2 h2 hc2 => ?_) (fun s2 a2 h2 hk2 => ?_)
            · have hl2 : s2.nx ≤ n' := (fr X n' _ _ _ _ _ h2).2.1 hl1
              exact ih _ _ (by first | trivial | (simp only [Mt.fin1] at hf ⊢; omega)) hl2
            · exact endP X n' f _ _ (by first | trivial | (simp only [Mt.fin1] at hf ⊢; omega)) hc2
            · have hn2 : s2.nx ≤ n := (fr X n _ _ _ _ _ h2).2.1 (Nat.le_trans hl1 hnn)
              exact farP X n n' f _ _ hk2 hn2
          · refine Good.bind (endP X n' f _ s1 (by first | trivial | (simp only [Mt.fin1] at hf ⊢; omega)) hc1) fun s2 a2 h2 hc2 => ?_
            exact endP X n' f _ _ (by first | trivial | (simp only [Mt.fin1] at hf ⊢; omega)) hc2
          · have hn1 : s1.nx ≤ n := by have := take_nx h1; omega
            refine Far.bind (farP X n n' f _ s1 hk1 hn1) fun s2 a2 h2 hk2 => ?_
            have hn2 : s2.nx ≤ n := (fr X n _ _ _ _ _ h2).2.1 hn1
            exact farP X n n' f _ _ hk2 hn2
        · rw [if_neg q0_3, if_neg q0_3]
          exact .inl rfl
      · have hc0 : s.nx = n' := by omega
        have hk0 : n' ≤ s.nx := by omega
        have hn0 : s.nx ≤ n := by omega
        refine .inr ⟨?_, ?_⟩
        · rw [if_neg (by rw [kd_end hc0]; omega)]
          exact hc0
        · split
          · refine Far.bind (take_far hk0 hn0) fun s1 a1 h1 hk1 => ?_
            have hn1 : s1.nx ≤ n := by have := take_nx h1; omega
            refine Far.bind (farP X n n' f _ s1 hk1 hn1) fun s2 a2 h2 hk2 => ?_
            have hn2 : s2.nx ≤ n := (fr X n _ _ _ _ _ h2).2.1 hn1
            exact farP X n n' f _ _ hk2 hn2
          · exact hk0
    | ptype =>
      rw [P_ptype, P_ptype]
      refine Cut.bind (take_cut hl0 hnn (fun _ => rfl)) (fun s1 a1 h1 b1 => ?_) (fun s1 a1 h1 hc1 => ?_) (fun s1 a1 h1 hk1 => ?_)
      · have hl1 : s1.nx ≤ n' := by have := take_nx h1; omega
        refine Cut.bind (take_cut hl1 hnn (fun _ => rfl)) (fun s2 a2 h2 b2 => ?_) (fun s2 a2 h2 hc2 => ?_) (fun s2 a2 h2 hk2 => ?_)
        · have hl2 : s2.nx ≤ n' := by have := take_nx h2; omega
          refine Cut.bind (enter_cut hl2 hnn (fun _ => rfl)) (fun s3 a3 h3 b3 => ?_) (fun s3 a3 h3 hc3 => ?_) (fun s3 a3 h3 hk3 => ?_)
          · have hl3 : s3.nx ≤ n' := by have := enter_nx h3; omega
            refine Cut.bind (ih _ s3 (by first | trivial | (simp only [Mt.fin1] at hf ⊢; omega)) hl3) (fun s4 a4 h4 b4 => ?_) (fun s4 a4 h4 hc4 => ?_) (fun s4 a4 h4 hk4 => ?_)
            · have hl4 : s4.nx ≤ n' := (fr X n' _ _ _ _ _ h4).2.1 hl3
              refine Cut.bind (leave_cut hl4 hnn (fun _ => rfl)) (fun s5 a5 h5 b5 => ?_) (fun s5 a5 h5 hc5 => ?_) (fun s5 a5 h5 hk5 => ?_)
              · have hl5 : s5.nx ≤ n' := by have := leave_nx h5; omega
                exact .inl rfl
              · exact hc5
              · have hn5 : s5.nx ≤ n := by have := leave_nx h5; omega
                exact hk5
            · exact Good.bind (leave_end hc4) fun s9 a9 h9 => absurd h9 (leave_no hc4)
            · have hn4 : s4.nx ≤ n := (fr X n _ _ _ _ _ h4).2.1 (Nat.le_trans hl3 hnn)
              refine Far.bind (leave_far hk4 hn4) fun s5 a5 h5 hk5 => ?_
              have hn5 : s5.nx ≤ n := by have := leave_nx h5; omega
              exact hk5
          · refine Good.bind (endP X n' f _ s3 (by first | trivial | (simp only [Mt.fin1] at hf ⊢; omega)) hc3) fun s4 a4 h4 hc4 => ?_
            exact Good.bind (leave_end hc4) fun s9 a9 h9 => absurd h9 (leave_no hc4)
          · have hn3 : s3.nx ≤ n := by have := enter_nx h3; omega
            refine Far.bind (farP X n n' f _ s3 hk3 hn3) fun s4 a4 h4 hk4 => ?_
            have hn4 : s4.nx ≤ n := (fr X n _ _ _ _ _ h4).2.1 hn3
            refine Far.bind (leave_far hk4 hn4) fun s5 a5 h5 hk5 => ?_
            have hn5 : s5.nx ≤ n := by have := leave_nx h5; omega
            exact hk5
        · exact Good.bind (enter_end hc2) fun s9 a9 h9 => absurd h9 (enter_no hc2)
        · have hn2 : s2.nx ≤ n := by have := take_nx h2; omega
          refine Far.bind (enter_far hk2 hn2) fun s3 a3 h3 hk3 => ?_
          have hn3 : s3.nx ≤ n := by have := enter_nx h3; omega
          refine Far.bind (farP X n n' f _ s3 hk3 hn3) fun s4 a4 h4 hk4 => ?_
          have hn4 : s4.nx ≤ n := (fr X n _ _ _ _ _ h4).2.1 hn3
          refine Far.bind (leave_far hk4 hn4) fun s5 a5 h5 hk5 => ?_
          have hn5 : s5.nx ≤ n := by have := leave_nx h5; omega
          exact hk5
      · exact Good.bind (take_end hc1) fun s9 a9 h9 => absurd h9 (take_no hc1)
      · have hn1 : s1.nx ≤ n := by have := take_nx h1; omega
        refine Far.bind (take_far hk1 hn1) fun s2 a2 h2 hk2 => ?_
        have hn2 : s2.nx ≤ n := by have := take_nx h2; omega
        refine Far.bind (enter_far hk2 hn2) fun s3 a3 h3 hk3 => ?_
        have hn3 : s3.nx ≤ n := by have := enter_nx h3; omega
        refine Far.bind (farP X n n' f _ s3 hk3 hn3) fun s4 a4 h4 hk4 => ?_
        have hn4 : s4.nx ≤ n := (fr X n _ _ _ _ _ h4).2.1 hn3
        refine Far.bind (leave_far hk4 hn4) fun s5 a5 h5 hk5 => ?_
        have hn5 : s5.nx ≤ n := by have := leave_nx h5; omega
        exact hk5
    | memL l =>
      rw [P_memL, P_memL]
      by_cases w0_3 : s.nx < n'
      · rw [kd_cut w0_3 hnn]
        by_cases q0_3 : kd X n s = 55
        · rw [if_pos q0_3, if_pos q0_3]
          exact .inl rfl
        · rw [if_neg q0_3, if_neg q0_3]
          refine Cut.bind (ih _ s (by first | trivial | (simp only [Mt.fin1] at hf ⊢; omega)) hl0) (fun s1 a1 h1 b1 => ?_) (fun s1 a1 h1 hc1 => ?_) (fun s1 a1 h1 hk1 => ?_)
          · have hl1 : s1.nx ≤ n' := (fr X n' _ _ _ _ _ h1).2.1 hl0
            exact ih _ _ (by first | trivial | (simp only [Mt.fin1] at hf ⊢; omega)) hl1
          · exact endP X n' f _ _ (by first | trivial | (simp only [Mt.fin1] at hf ⊢; omega)) hc1
          · have hn1 : s1.nx ≤ n := (fr X n _ _ _ _ _ h1).2.1 (Nat.le_trans hl0 hnn)
            exact farP X n n' f _ _ hk1 hn1
      · have hc0 : s.nx = n' := by omega
        have hk0 : n' ≤ s.nx := by omega
        have hn0 : s.nx ≤ n := by omega
        refine .inr ⟨?_, ?_⟩
        · rw [if_neg (by rw [kd_end hc0]; omega)]
          refine Good.bind (endP X n' f _ s (by first | trivial | (simp only [Mt.fin1] at hf ⊢; omega)) hc0) fun s1 a1 h1 hc1 => ?_
          exact endP X n' f _ _ (by first | trivial | (simp only [Mt.fin1] at hf ⊢; omega)) hc1
        · split
          · exact hk0
          · refine Far.bind (farP X n n' f _ s hk0 hn0) fun s1 a1 h1 hk1 => ?_
            have hn1 : s1.nx ≤ n := (fr X n _ _ _ _ _ h1).2.1 hn0
            exact farP X n n' f _ _ hk1 hn1
    | member =>
      rw [P_member, P_member]
      by_cases w0_3 : s.nx < n'
      · rw [kd_cut w0_3 hnn]
        by_cases q0_3 : kd X n s = 18
        · rw [if_pos q0_3, if_pos q0_3]
          exact ih _ _ (by first | trivial | (simp only [Mt.fin1] at hf ⊢; omega)) hl0
        · rw [if_neg q0_3, if_neg q0_3]
          by_cases q0_5 : kd X n s = 19
          · rw [if_pos q0_5, if_pos q0_5]
            exact ih _ _ (by first | trivial | (simp only [Mt.fin1] at hf ⊢; omega)) hl0
          · rw [if_neg q0_5, if_neg q0_5]
            exact refu_cut hl0 hnn
      · have hc0 : s.nx = n' := by omega
        have hk0 : n' ≤ s.nx := by omega
        have hn0 : s.nx ≤ n := by omega
        refine .inr ⟨?_, ?_⟩
        · rw [if_neg (by rw [kd_end hc0]; omega)]
          rw [if_neg (by rw [kd_end hc0]; omega)]
          exact refu_end hc0
        · split
          · exact farP X n n' f _ _ hk0 hn0
          · split
            · exact farP X n n' f _ _ hk0 hn0
            · exact refu_far hk0 hn0
    | vari =>
      rw [P_vari, P_vari]
      refine Cut.bind (take_cut hl0 hnn (fun _ => rfl)) (fun s1 a1 h1 b1 => ?_) (fun s1 a1 h1 hc1 => ?_) (fun s1 a1 h1 hk1 => ?_)
      · have hl1 : s1.nx ≤ n' := by have := take_nx h1; omega
        refine Cut.bind (take_cut hl1 hnn (fun _ => rfl)) (fun s2 a2 h2 b2 => ?_) (fun s2 a2 h2 hc2 => ?_) (fun s2 a2 h2 hk2 => ?_)
        · have hl2 : s2.nx ≤ n' := by have := take_nx h2; omega
          refine Cut.bind (ih _ s2 (by first | trivial | (simp only [Mt.fin1] at hf ⊢; omega)) hl2) (fun s3 a3 h3 b3 => ?_) (fun s3 a3 h3 hc3 => ?_) (fun s3 a3 h3 hk3 => ?_)
          · have hl3 : s3.nx ≤ n' := (fr X n' _ _ _ _ _ h3).2.1 hl2
            by_cases w3_6 : s3.nx < n'
            · rw [kd_cut w3_6 hnn]
              by_cases q3_6 : kd X n s3 = 58
              · rw [if_pos q3_6, if_pos q3_6]
                refine Cut.bind (ih _ s3 (by first | trivial | (simp only [Mt.fin1] at hf ⊢; omega)) hl3) (fun s4 a4 h4 b4 => ?_) (fun s4 a4 h4 hc4 => ?_) (fun s4 a4 h4 hk4 => ?_)
                · have hl4 : s4.nx ≤ n' := (fr X n' _ _ _ _ _ h4).2.1 hl3
                  exact .inl rfl
                · exact hc4
                · have hn4 : s4.nx ≤ n := (fr X n _ _ _ _ _ h4).2.1 (Nat.le_trans hl3 hnn)
                  exact hk4
              · rw [if_neg q3_6, if_neg q3_6]
                exact .inl rfl
            · have hc3 : s3.nx = n' := by omega
              have hk3 : n' ≤ s3.nx := by omega
              have hn3 : s3.nx ≤ n := by omega
              refine .inr ⟨?_, ?_⟩
              · rw [if_neg (by rw [kd_end hc3]; omega)]
                exact hc3
              · split
                · refine Far.bind (farP X n n' f _ s3 hk3 hn3) fun s4 a4 h4 hk4 => ?_
                  have hn4 : s4.nx ≤ n := (fr X n _ _ _ _ _ h4).2.1 hn3
                  exact hk4
                · exact hk3
          · rw [if_neg (by rw [kd_end hc3]; omega)]
            exact hc3
          · have hn3 : s3.nx ≤ n := (fr X n _ _ _ _ _ h3).2.1 (Nat.le_trans hl2 hnn)
            split
            · refine Far.bind (farP X n n' f _ s3 hk3 hn3) fun s4 a4 h4 hk4 => ?_
              have hn4 : s4.nx ≤ n := (fr X n _ _ _ _ _ h4).2.1 hn3
              exact hk4
            · exact hk3
        · refine Good.bind (endP X n' f _ s2 (by first | trivial | (simp only [Mt.fin1] at hf ⊢; omega)) hc2) fun s3 a3 h3 hc3 => ?_
          rw [if_neg (by rw [kd_end hc3]; omega)]
          exact hc3
        · have hn2 : s2.nx ≤ n := by have := take_nx h2; omega
          refine Far.bind (farP X n n' f _ s2 hk2 hn2) fun s3 a3 h3 hk3 => ?_
          have hn3 : s3.nx ≤ n := (fr X n _ _ _ _ _ h3).2.1 hn2
          split
          · refine Far.bind (farP X n n' f _ s3 hk3 hn3) fun s4 a4 h4 hk4 => ?_
            have hn4 : s4.nx ≤ n := (fr X n _ _ _ _ _ h4).2.1 hn3
            exact hk4
          · exact hk3
      · exact Good.bind (take_end hc1) fun s9 a9 h9 => absurd h9 (take_no hc1)
      · have hn1 : s1.nx ≤ n := by have := take_nx h1; omega
        refine Far.bind (take_far hk1 hn1) fun s2 a2 h2 hk2 => ?_
        have hn2 : s2.nx ≤ n := by have := take_nx h2; omega
        refine Far.bind (farP X n n' f _ s2 hk2 hn2) fun s3 a3 h3 hk3 => ?_
        have hn3 : s3.nx ≤ n := (fr X n _ _ _ _ _ h3).2.1 hn2
        split
        · refine Far.bind (farP X n n' f _ s3 hk3 hn3) fun s4 a4 h4 hk4 => ?_
          have hn4 : s4.nx ≤ n := (fr X n _ _ _ _ _ h4).2.1 hn3
          exact hk4
        · exact hk3
    | handler =>
      rw [P_handler, P_handler]
      refine Cut.bind (take_cut hl0 hnn (fun _ => rfl)) (fun s1 a1 h1 b1 => ?_) (fun s1 a1 h1 hc1 => ?_) (fun s1 a1 h1 hk1 => ?_)
      · have hl1 : s1.nx ≤ n' := by have := take_nx h1; omega
        refine Cut.bind (take_cut hl1 hnn (fun _ => rfl)) (fun s2 a2 h2 b2 => ?_) (fun s2 a2 h2 hc2 => ?_) (fun s2 a2 h2 hk2 => ?_)
        · have hl2 : s2.nx ≤ n' := by have := take_nx h2; omega
          refine Cut.bind (enter_cut hl2 hnn (fun _ => rfl)) (fun s3 a3 h3 b3 => ?_) (fun s3 a3 h3 hc3 => ?_) (fun s3 a3 h3 hk3 => ?_)
          · have hl3 : s3.nx ≤ n' := by have := enter_nx h3; omega
            refine Cut.bind (ih _ s3 (by first | trivial | (simp only [Mt.fin1] at hf ⊢; omega)) hl3) (fun s4 a4 h4 b4 => ?_) (fun s4 a4 h4 hc4 => ?_) (fun s4 a4 h4 hk4 => ?_)
            · have hl4 : s4.nx ≤ n' := (fr X n' _ _ _ _ _ h4).2.1 hl3
              refine Cut.bind (leave_cut hl4 hnn (fun _ => rfl)) (fun s5 a5 h5 b5 => ?_) (fun s5 a5 h5 hc5 => ?_) (fun s5 a5 h5 hk5 => ?_)
              · have hl5 : s5.nx ≤ n' := by have := leave_nx h5; omega
                refine Cut.bind (ih _ s5 (by first | trivial | (simp only [Mt.fin1] at hf ⊢; omega)) hl5) (fun s6 a6 h6 b6 => ?_) (fun s6 a6 h6 hc6 => ?_) (fun s6 a6 h6 hk6 => ?_)
                · have hl6 : s6.nx ≤ n' := (fr X n' _ _ _ _ _ h6).2.1 hl5
                  exact .inl rfl
                · exact hc6
                · have hn6 : s6.nx ≤ n := (fr X n _ _ _ _ _ h6).2.1 (Nat.le_trans hl5 hnn)
                  exact hk6
              · refine Good.bind (endP X n' f _ s5 (by first | trivial | (simp only [Mt.fin1] at hf ⊢; omega)) hc5) fun s6 a6 h6 hc6 => ?_
                exact hc6
              · have hn5 : s5.nx ≤ n := by have := leave_nx h5; omega
                refine Far.bind (farP X n n' f _ s5 hk5 hn5) fun s6 a6 h6 hk6 => ?_
                have hn6 : s6.nx ≤ n := (fr X n _ _ _ _ _ h6).2.1 hn5
                exact hk6
            · exact Good.bind (leave_end hc4) fun s9 a9 h9 => absurd h9 (leave_no hc4)
            · have hn4 : s4.nx ≤ n := (fr X n _ _ _ _ _ h4).2.1 (Nat.le_trans hl3 hnn)
              refine Far.bind (leave_far hk4 hn4) fun s5 a5 h5 hk5 => ?_
              have hn5 : s5.nx ≤ n := by have := leave_nx h5; omega
              refine Far.bind (farP X n n' f _ s5 hk5 hn5) fun s6 a6 h6 hk6 => ?_
              have hn6 : s6.nx ≤ n := (fr X n _ _ _ _ _ h6).2.1 hn5
              exact hk6
          · refine Good.bind (endP X n' f _ s3 (by first | trivial | (simp only [Mt.fin1] at hf ⊢; omega)) hc3) fun s4 a4 h4 hc4 => ?_
            exact Good.bind (leave_end hc4) fun s9 a9 h9 => absurd h9 (leave_no hc4)
          · have hn3 : s3.nx ≤ n := by have := enter_nx h3; omega
            refine Far.bind (farP X n n' f _ s3 hk3 hn3) fun s4 a4 h4 hk4 => ?_
            have hn4 : s4.nx ≤ n := (fr X n _ _ _ _ _ h4).2.1 hn3
            refine Far.bind (leave_far hk4 hn4) fun s5 a5 h5 hk5 => ?_
            have hn5 : s5.nx ≤ n := by have := leave_nx h5; omega
            refine Far.bind (farP X n n' f _ s5 hk5 hn5) fun s6 a6 h6 hk6 => ?_
            have hn6 : s6.nx ≤ n := (fr X n _ _ _ _ _ h6).2.1 hn5
            exact hk6
        · exact Good.bind (enter_end hc2) fun s9 a9 h9 => absurd h9 (enter_no hc2)
        · have hn2 : s2.nx ≤ n := by have := take_nx h2; omega
          refine Far.bind (enter_far hk2 hn2) fun s3 a3 h3 hk3 => ?_
          have hn3 : s3.nx ≤ n := by have := enter_nx h3; omega
          refine Far.bind (farP X n n' f _ s3 hk3 hn3) fun s4 a4 h4 hk4 => ?_
          have hn4 : s4.nx ≤ n := (fr X n _ _ _ _ _ h4).2.1 hn3
          refine Far.bind (leave_far hk4 hn4) fun s5 a5 h5 hk5 => ?_
          have hn5 : s5.nx ≤ n := by have := leave_nx h5; omega
          refine Far.bind (farP X n n' f _ s5 hk5 hn5) fun s6 a6 h6 hk6 => ?_
          have hn6 : s6.nx ≤ n := (fr X n _ _ _ _ _ h6).2.1 hn5
          exact hk6
      · exact Good.bind (take_end hc1) fun s9 a9 h9 => absurd h9 (take_no hc1)
      · have hn1 : s1.nx ≤ n := by have := take_nx h1; omega
        refine Far.bind (take_far hk1 hn1) fun s2 a2 h2 hk2 => ?_
        have hn2 : s2.nx ≤ n := by have := take_nx h2; omega
        refine Far.bind (enter_far hk2 hn2) fun s3 a3 h3 hk3 => ?_
        have hn3 : s3.nx ≤ n := by have := enter_nx h3; omega
        refine Far.bind (farP X n n' f _ s3 hk3 hn3) fun s4 a4 h4 hk4 => ?_
        have hn4 : s4.nx ≤ n := (fr X n _ _ _ _ _ h4).2.1 hn3
        refine Far.bind (leave_far hk4 hn4) fun s5 a5 h5 hk5 => ?_
        have hn5 : s5.nx ≤ n := by have := leave_nx h5; omega
        refine Far.bind (farP X n n' f _ s5 hk5 hn5) fun s6 a6 h6 hk6 => ?_
        have hn6 : s6.nx ≤ n := (fr X n _ _ _ _ _ h6).2.1 hn5
        exact hk6
    | place =>
      rw [P_place, P_place]
      refine Cut.bind (take_cut hl0 hnn (fun _ => rfl)) (fun s1 a1 h1 b1 => ?_) (fun s1 a1 h1 hc1 => ?_) (fun s1 a1 h1 hk1 => ?_)
      · have hl1 : s1.nx ≤ n' := by have := take_nx h1; omega
        refine Cut.bind (take_cut hl1 hnn (fun _ => rfl)) (fun s2 a2 h2 b2 => ?_) (fun s2 a2 h2 hc2 => ?_) (fun s2 a2 h2 hk2 => ?_)
        · have hl2 : s2.nx ≤ n' := by have := take_nx h2; omega
          refine Cut.bind (ih _ s2 (by first | trivial | (simp only [Mt.fin1] at hf ⊢; omega)) hl2) (fun s3 a3 h3 b3 => ?_) (fun s3 a3 h3 hc3 => ?_) (fun s3 a3 h3 hk3 => ?_)
          · have hl3 : s3.nx ≤ n' := (fr X n' _ _ _ _ _ h3).2.1 hl2
            refine Cut.bind (take_cut hl3 hnn (fun _ => rfl)) (fun s4 a4 h4 b4 => ?_) (fun s4 a4 h4 hc4 => ?_) (fun s4 a4 h4 hk4 => ?_)
            · have hl4 : s4.nx ≤ n' := by have := take_nx h4; omega
              refine Cut.bind (ih _ s4 (by first | trivial | (simp only [Mt.fin1] at hf ⊢; omega)) hl4) (fun s5 a5 h5 b5 => ?_) (fun s5 a5 h5 hc5 => ?_) (fun s5 a5 h5 hk5 => ?_)
              · have hl5 : s5.nx ≤ n' := (fr X n' _ _ _ _ _ h5).2.1 hl4
                by_cases w5_8 : s5.nx < n'
                · rw [kd_cut w5_8 hnn]
                  by_cases q5_8 : kd X n s5 = 50
                  · rw [if_pos q5_8, if_pos q5_8]
                    refine Cut.bind (ih _ s5 (by first | trivial | (simp only [Mt.fin1] at hf ⊢; omega)) hl5) (fun s6 a6 h6 b6 => ?_) (fun s6 a6 h6 hc6 => ?_) (fun s6 a6 h6 hk6 => ?_)
                    · have hl6 : s6.nx ≤ n' := (fr X n' _ _ _ _ _ h6).2.1 hl5
                      exact .inl rfl
                    · exact hc6
                    · have hn6 : s6.nx ≤ n := (fr X n _ _ _ _ _ h6).2.1 (Nat.le_trans hl5 hnn)
                      exact hk6
                  · rw [if_neg q5_8, if_neg q5_8]
                    exact .inl rfl
                · have hc5 : s5.nx = n' := by omega
                  have hk5 : n' ≤ s5.nx := by omega
                  have hn5 : s5.nx ≤ n := by omega
                  refine .inr ⟨?_, ?_⟩
                  · rw [if_neg (by rw [kd_end hc5]; omega)]
                    exact hc5
                  · split
                    · refine Far.bind (farP X n n' f _ s5 hk5 hn5) fun s6 a6 h6 hk6 => ?_
                      have hn6 : s6.nx ≤ n := (fr X n _ _ _ _ _ h6).2.1 hn5
                      exact hk6
                    · exact hk5
              · rw [if_neg (by rw [kd_end hc5]; omega)]
                exact hc5
              · have hn5 : s5.nx ≤ n := (fr X n _ _ _ _ _ h5).2.1 (Nat.le_trans hl4 hnn)
                split
                · refine Far.bind (farP X n n' f _ s5 hk5 hn5) fun s6 a6 h6 hk6 => ?_
                  have hn6 : s6.nx ≤ n := (fr X n _ _ _ _ _ h6).2.1 hn5
                  exact hk6
                · exact hk5
            · refine Good.bind (endP X n' f _ s4 (by first | trivial | (simp only [Mt.fin1] at hf ⊢; omega)) hc4) fun s5 a5 h5 hc5 => ?_
              rw [if_neg (by rw [kd_end hc5]; omega)]
              exact hc5
            · have hn4 : s4.nx ≤ n := by have := take_nx h4; omega
              refine Far.bind (farP X n n' f _ s4 hk4 hn4) fun s5 a5 h5 hk5 => ?_
              have hn5 : s5.nx ≤ n := (fr X n _ _ _ _ _ h5).2.1 hn4
              split
              · refine Far.bind (farP X n n' f _ s5 hk5 hn5) fun s6 a6 h6 hk6 => ?_
                have hn6 : s6.nx ≤ n := (fr X n _ _ _ _ _ h6).2.1 hn5
                exact hk6
              · exact hk5
          · exact Good.bind (take_end hc3) fun s9 a9 h9 => absurd h9 (take_no hc3)
          · have hn3 : s3.nx ≤ n := (fr X n _ _ _ _ _ h3).2.1 (Nat.le_trans hl2 hnn)
            refine Far.bind (take_far hk3 hn3) fun s4 a4 h4 hk4 => ?_
            have hn4 : s4.nx ≤ n := by have := take_nx h4; omega
            refine Far.bind (farP X n n' f _ s4 hk4 hn4) fun s5 a5 h5 hk5 => ?_
            have hn5 : s5.nx ≤ n := (fr X n _ _ _ _ _ h5).2.1 hn4
            split
            · refine Far.bind (farP X n n' f _ s5 hk5 hn5) fun s6 a6 h6 hk6 => ?_
              have hn6 : s6.nx ≤ n := (fr X n _ _ _ _ _ h6).2.1 hn5
              exact hk6
            · exact hk5
        · refine Good.bind (endP X n' f _ s2 (by first | trivial | (simp only [Mt.fin1] at hf ⊢; omega)) hc2) fun s3 a3 h3 hc3 => ?_
          exact Good.bind (take_end hc3) fun s9 a9 h9 => absurd h9 (take_no hc3)
        · have hn2 : s2.nx ≤ n := by have := take_nx h2; omega
          refine Far.bind (farP X n n' f _ s2 hk2 hn2) fun s3 a3 h3 hk3 => ?_
          have hn3 : s3.nx ≤ n := (fr X n _ _ _ _ _ h3).2.1 hn2
          refine Far.bind (take_far hk3 hn3) fun s4 a4 h4 hk4 => ?_
          have hn4 : s4.nx ≤ n := by have := take_nx h4; omega
          refine Far.bind (farP X n n' f _ s4 hk4 hn4) fun s5 a5 h5 hk5 => ?_
          have hn5 : s5.nx ≤ n := (fr X n _ _ _ _ _ h5).2.1 hn4
          split
          · refine Far.bind (farP X n n' f _ s5 hk5 hn5) fun s6 a6 h6 hk6 => ?_
            have hn6 : s6.nx ≤ n := (fr X n _ _ _ _ _ h6).2.1 hn5
            exact hk6
          · exact hk5
      · exact Good.bind (take_end hc1) fun s9 a9 h9 => absurd h9 (take_no hc1)
      · have hn1 : s1.nx ≤ n := by have := take_nx h1; omega
        refine Far.bind (take_far hk1 hn1) fun s2 a2 h2 hk2 => ?_
        have hn2 : s2.nx ≤ n := by have := take_nx h2; omega
        refine Far.bind (farP X n n' f _ s2 hk2 hn2) fun s3 a3 h3 hk3 => ?_
        have hn3 : s3.nx ≤ n := (fr X n _ _ _ _ _ h3).2.1 hn2
        refine Far.bind (take_far hk3 hn3) fun s4 a4 h4 hk4 => ?_
        have hn4 : s4.nx ≤ n := by have := take_nx h4; omega
        refine Far.bind (farP X n n' f _ s4 hk4 hn4) fun s5 a5 h5 hk5 => ?_
        have hn5 : s5.nx ≤ n := (fr X n _ _ _ _ _ h5).2.1 hn4
        split
        · refine Far.bind (farP X n n' f _ s5 hk5 hn5) fun s6 a6 h6 hk6 => ?_
          have hn6 : s6.nx ≤ n := (fr X n _ _ _ _ _ h6).2.1 hn5
          exact hk6
        · exact hk5
    | gives =>
      rw [P_gives, P_gives]
      refine Cut.bind (enter_cut hl0 hnn (fun _ => rfl)) (fun s1 a1 h1 b1 => ?_) (fun s1 a1 h1 hc1 => ?_) (fun s1 a1 h1 hk1 => ?_)
      · have hl1 : s1.nx ≤ n' := by have := enter_nx h1; omega
        refine Cut.bind (ih _ s1 (by first | trivial | (simp only [Mt.fin1] at hf ⊢; omega)) hl1) (fun s2 a2 h2 b2 => ?_) (fun s2 a2 h2 hc2 => ?_) (fun s2 a2 h2 hk2 => ?_)
        · have hl2 : s2.nx ≤ n' := (fr X n' _ _ _ _ _ h2).2.1 hl1
          refine Cut.bind (ih _ s2 (by first | trivial | (simp only [Mt.fin1] at hf ⊢; omega)) hl2) (fun s3 a3 h3 b3 => ?_) (fun s3 a3 h3 hc3 => ?_) (fun s3 a3 h3 hk3 => ?_)
          · have hl3 : s3.nx ≤ n' := (fr X n' _ _ _ _ _ h3).2.1 hl2
            refine Cut.bind (leave_cut hl3 hnn (fun _ => rfl)) (fun s4 a4 h4 b4 => ?_) (fun s4 a4 h4 hc4 => ?_) (fun s4 a4 h4 hk4 => ?_)
            · have hl4 : s4.nx ≤ n' := by have := leave_nx h4; omega
              exact .inl rfl
            · exact hc4
            · have hn4 : s4.nx ≤ n := by have := leave_nx h4; omega
              exact hk4
          · exact Good.bind (leave_end hc3) fun s9 a9 h9 => absurd h9 (leave_no hc3)
          · have hn3 : s3.nx ≤ n := (fr X n _ _ _ _ _ h3).2.1 (Nat.le_trans hl2 hnn)
            refine Far.bind (leave_far hk3 hn3) fun s4 a4 h4 hk4 => ?_
            have hn4 : s4.nx ≤ n := by have := leave_nx h4; omega
            exact hk4
        · refine Good.bind (endP X n' f _ s2 (by first | trivial | (simp only [Mt.fin1] at hf ⊢; omega)) hc2) fun s3 a3 h3 hc3 => ?_
          exact Good.bind (leave_end hc3) fun s9 a9 h9 => absurd h9 (leave_no hc3)
        · have hn2 : s2.nx ≤ n := (fr X n _ _ _ _ _ h2).2.1 (Nat.le_trans hl1 hnn)
          refine Far.bind (farP X n n' f _ s2 hk2 hn2) fun s3 a3 h3 hk3 => ?_
          have hn3 : s3.nx ≤ n := (fr X n _ _ _ _ _ h3).2.1 hn2
          refine Far.bind (leave_far hk3 hn3) fun s4 a4 h4 hk4 => ?_
          have hn4 : s4.nx ≤ n := by have := leave_nx h4; omega
          exact hk4
      · refine Good.bind (endP X n' f _ s1 (by first | trivial | (simp only [Mt.fin1] at hf ⊢; omega)) hc1) fun s2 a2 h2 hc2 => ?_
        refine Good.bind (endP X n' f _ s2 (by first | trivial | (simp only [Mt.fin1] at hf ⊢; omega)) hc2) fun s3 a3 h3 hc3 => ?_
        exact Good.bind (leave_end hc3) fun s9 a9 h9 => absurd h9 (leave_no hc3)
      · have hn1 : s1.nx ≤ n := by have := enter_nx h1; omega
        refine Far.bind (farP X n n' f _ s1 hk1 hn1) fun s2 a2 h2 hk2 => ?_
        have hn2 : s2.nx ≤ n := (fr X n _ _ _ _ _ h2).2.1 hn1
        refine Far.bind (farP X n n' f _ s2 hk2 hn2) fun s3 a3 h3 hk3 => ?_
        have hn3 : s3.nx ≤ n := (fr X n _ _ _ _ _ h3).2.1 hn2
        refine Far.bind (leave_far hk3 hn3) fun s4 a4 h4 hk4 => ?_
        have hn4 : s4.nx ≤ n := by have := leave_nx h4; omega
        exact hk4
    | givesL l =>
      rw [P_givesL, P_givesL]
      by_cases w0_3 : s.nx < n'
      · rw [kd_cut w0_3 hnn]
        by_cases q0_3 : kd X n s = 56
        · rw [if_pos q0_3, if_pos q0_3]
          refine Cut.bind (take_cut hl0 hnn (fun _ => rfl)) (fun s1 a1 h1 b1 => ?_) (fun s1 a1 h1 hc1 => ?_) (fun s1 a1 h1 hk1 => ?_)
          · have hl1 : s1.nx ≤ n' := by have := take_nx h1; omega
            refine Cut.bind (ih _ s1 (by first | trivial | (simp only [Mt.fin1] at hf ⊢; omega)) hl1) (fun s2 a2 h2 b2 => ?_) (fun s2 a2 h2 hc2 => ?_) (fun s2 a2 h2 hk2 => ?_)
            · have hl2 : s2.nx ≤ n' := (fr X n' _ _ _ _ _ h2).2.1 hl1
              exact ih _ _ (by first | trivial | (simp only [Mt.fin1] at hf ⊢; omega)) hl2
            · exact endP X n' f _ _ (by first | trivial | (simp only [Mt.fin1] at hf ⊢; omega)) hc2
            · have hn2 : s2.nx ≤ n := (fr X n _ _ _ _ _ h2).2.1 (Nat.le_trans hl1 hnn)
              exact farP X n n' f _ _ hk2 hn2
          · refine Good.bind (endP X n' f _ s1 (by first | trivial | (simp only [Mt.fin1] at hf ⊢; omega)) hc1) fun s2 a2 h2 hc2 => ?_
            exact endP X n' f _ _ (by first | trivial | (simp only [Mt.fin1] at hf ⊢; omega)) hc2
          · have hn1 : s1.nx ≤ n := by have := take_nx h1; omega
            refine Far.bind (farP X n n' f _ s1 hk1 hn1) fun s2 a2 h2 hk2 => ?_
            have hn2 : s2.nx ≤ n := (fr X n _ _ _ _ _ h2).2.1 hn1
            exact farP X n n' f _ _ hk2 hn2
        · rw [if_neg q0_3, if_neg q0_3]
          exact .inl rfl
      · have hc0 : s.nx = n' := by omega
        have hk0 : n' ≤ s.nx := by omega
        have hn0 : s.nx ≤ n := by omega
        refine .inr ⟨?_, ?_⟩
        · rw [if_neg (by rw [kd_end hc0]; omega)]
          exact hc0
        · split
          · refine Far.bind (take_far hk0 hn0) fun s1 a1 h1 hk1 => ?_
            have hn1 : s1.nx ≤ n := by have := take_nx h1; omega
            refine Far.bind (farP X n n' f _ s1 hk1 hn1) fun s2 a2 h2 hk2 => ?_
            have hn2 : s2.nx ≤ n := (fr X n _ _ _ _ _ h2).2.1 hn1
            exact farP X n n' f _ _ hk2 hn2
          · exact hk0
    | give =>
      rw [P_give, P_give]
      refine Cut.bind (take_cut hl0 hnn (fun _ => rfl)) (fun s1 a1 h1 b1 => ?_) (fun s1 a1 h1 hc1 => ?_) (fun s1 a1 h1 hk1 => ?_)
      · have hl1 : s1.nx ≤ n' := by have := take_nx h1; omega
        refine Cut.bind (ih _ s1 (by first | trivial | (simp only [Mt.fin1] at hf ⊢; omega)) hl1) (fun s2 a2 h2 b2 => ?_) (fun s2 a2 h2 hc2 => ?_) (fun s2 a2 h2 hk2 => ?_)
        · have hl2 : s2.nx ≤ n' := (fr X n' _ _ _ _ _ h2).2.1 hl1
          refine Cut.bind (ih _ s2 (by first | trivial | (simp only [Mt.fin1] at hf ⊢; omega)) hl2) (fun s3 a3 h3 b3 => ?_) (fun s3 a3 h3 hc3 => ?_) (fun s3 a3 h3 hk3 => ?_)
          · have hl3 : s3.nx ≤ n' := (fr X n' _ _ _ _ _ h3).2.1 hl2
            exact .inl rfl
          · exact hc3
          · have hn3 : s3.nx ≤ n := (fr X n _ _ _ _ _ h3).2.1 (Nat.le_trans hl2 hnn)
            exact hk3
        · refine Good.bind (endP X n' f _ s2 (by first | trivial | (simp only [Mt.fin1] at hf ⊢; omega)) hc2) fun s3 a3 h3 hc3 => ?_
          exact hc3
        · have hn2 : s2.nx ≤ n := (fr X n _ _ _ _ _ h2).2.1 (Nat.le_trans hl1 hnn)
          refine Far.bind (farP X n n' f _ s2 hk2 hn2) fun s3 a3 h3 hk3 => ?_
          have hn3 : s3.nx ≤ n := (fr X n _ _ _ _ _ h3).2.1 hn2
          exact hk3
      · refine Good.bind (endP X n' f _ s1 (by first | trivial | (simp only [Mt.fin1] at hf ⊢; omega)) hc1) fun s2 a2 h2 hc2 => ?_
        refine Good.bind (endP X n' f _ s2 (by first | trivial | (simp only [Mt.fin1] at hf ⊢; omega)) hc2) fun s3 a3 h3 hc3 => ?_
        exact hc3
      · have hn1 : s1.nx ≤ n := by have := take_nx h1; omega
        refine Far.bind (farP X n n' f _ s1 hk1 hn1) fun s2 a2 h2 hk2 => ?_
        have hn2 : s2.nx ≤ n := (fr X n _ _ _ _ _ h2).2.1 hn1
        refine Far.bind (farP X n n' f _ s2 hk2 hn2) fun s3 a3 h3 hk3 => ?_
        have hn3 : s3.nx ≤ n := (fr X n _ _ _ _ _ h3).2.1 hn2
        exact hk3
    | start =>
      rw [P_start, P_start]
      refine Cut.bind (take_cut hl0 hnn (fun _ => rfl)) (fun s1 a1 h1 b1 => ?_) (fun s1 a1 h1 hc1 => ?_) (fun s1 a1 h1 hk1 => ?_)
      · have hl1 : s1.nx ≤ n' := by have := take_nx h1; omega
        refine Cut.bind (take_cut hl1 hnn (fun _ => rfl)) (fun s2 a2 h2 b2 => ?_) (fun s2 a2 h2 hc2 => ?_) (fun s2 a2 h2 hk2 => ?_)
        · have hl2 : s2.nx ≤ n' := by have := take_nx h2; omega
          refine Cut.bind (ih _ s2 (by first | trivial | (simp only [Mt.fin1] at hf ⊢; omega)) hl2) (fun s3 a3 h3 b3 => ?_) (fun s3 a3 h3 hc3 => ?_) (fun s3 a3 h3 hk3 => ?_)
          · have hl3 : s3.nx ≤ n' := (fr X n' _ _ _ _ _ h3).2.1 hl2
            refine Cut.bind (take_cut hl3 hnn (fun _ => rfl)) (fun s4 a4 h4 b4 => ?_) (fun s4 a4 h4 hc4 => ?_) (fun s4 a4 h4 hk4 => ?_)
            · have hl4 : s4.nx ≤ n' := by have := take_nx h4; omega
              refine Cut.bind (ih _ s4 (by first | trivial | (simp only [Mt.fin1] at hf ⊢; omega)) hl4) (fun s5 a5 h5 b5 => ?_) (fun s5 a5 h5 hc5 => ?_) (fun s5 a5 h5 hk5 => ?_)
              · have hl5 : s5.nx ≤ n' := (fr X n' _ _ _ _ _ h5).2.1 hl4
                refine Cut.bind (ih _ s5 (by first | trivial | (simp only [Mt.fin1] at hf ⊢; omega)) hl5) (fun s6 a6 h6 b6 => ?_) (fun s6 a6 h6 hc6 => ?_) (fun s6 a6 h6 hk6 => ?_)
                · have hl6 : s6.nx ≤ n' := (fr X n' _ _ _ _ _ h6).2.1 hl5
                  refine Cut.bind (take_cut hl6 hnn (fun _ => rfl)) (fun s7 a7 h7 b7 => ?_) (fun s7 a7 h7 hc7 => ?_) (fun s7 a7 h7 hk7 => ?_)
                  · have hl7 : s7.nx ≤ n' := by have := take_nx h7; omega
                    refine Cut.bind (take_cut hl7 hnn (fun _ => rfl)) (fun s8 a8 h8 b8 => ?_) (fun s8 a8 h8 hc8 => ?_) (fun s8 a8 h8 hk8 => ?_)
                    · have hl8 : s8.nx ≤ n' := by have := take_nx h8; omega
                      exact .inl rfl
                    · exact hc8
                    · have hn8 : s8.nx ≤ n := by have := take_nx h8; omega
                      exact hk8
                  · exact Good.bind (take_end hc7) fun s9 a9 h9 => absurd h9 (take_no hc7)
                  · have hn7 : s7.nx ≤ n := by have := take_nx h7; omega
                    refine Far.bind (take_far hk7 hn7) fun s8 a8 h8 hk8 => ?_
                    have hn8 : s8.nx ≤ n := by have := take_nx h8; omega
                    exact hk8
                · exact Good.bind (take_end hc6) fun s9 a9 h9 => absurd h9 (take_no hc6)
                · have hn6 : s6.nx ≤ n := (fr X n _ _ _ _ _ h6).2.1 (Nat.le_trans hl5 hnn)
                  refine Far.bind (take_far hk6 hn6) fun s7 a7 h7 hk7 => ?_
                  have hn7 : s7.nx ≤ n := by have := take_nx h7; omega
                  refine Far.bind (take_far hk7 hn7) fun s8 a8 h8 hk8 => ?_
                  have hn8 : s8.nx ≤ n := by have := take_nx h8; omega
                  exact hk8
              · refine Good.bind (endP X n' f _ s5 (by first | trivial | (simp only [Mt.fin1] at hf ⊢; omega)) hc5) fun s6 a6 h6 hc6 => ?_
                exact Good.bind (take_end hc6) fun s9 a9 h9 => absurd h9 (take_no hc6)
              · have hn5 : s5.nx ≤ n := (fr X n _ _ _ _ _ h5).2.1 (Nat.le_trans hl4 hnn)
                refine Far.bind (farP X n n' f _ s5 hk5 hn5) fun s6 a6 h6 hk6 => ?_
                have hn6 : s6.nx ≤ n := (fr X n _ _ _ _ _ h6).2.1 hn5
                refine Far.bind (take_far hk6 hn6) fun s7 a7 h7 hk7 => ?_
                have hn7 : s7.nx ≤ n := by have := take_nx h7; omega
                refine Far.bind (take_far hk7 hn7) fun s8 a8 h8 hk8 => ?_
                have hn8 : s8.nx ≤ n := by have := take_nx h8; omega
                exact hk8
            · refine Good.bind (endP X n' f _ s4 (by first | trivial | (simp only [Mt.fin1] at hf ⊢; omega)) hc4) fun s5 a5 h5 hc5 => ?_
              refine Good.bind (endP X n' f _ s5 (by first | trivial | (simp only [Mt.fin1] at hf ⊢; omega)) hc5) fun s6 a6 h6 hc6 => ?_
              exact Good.bind (take_end hc6) fun s9 a9 h9 => absurd h9 (take_no hc6)
            · have hn4 : s4.nx ≤ n := by have := take_nx h4; omega
              refine Far.bind (farP X n n' f _ s4 hk4 hn4) fun s5 a5 h5 hk5 => ?_
              have hn5 : s5.nx ≤ n := (fr X n _ _ _ _ _ h5).2.1 hn4
              refine Far.bind (farP X n n' f _ s5 hk5 hn5) fun s6 a6 h6 hk6 => ?_
              have hn6 : s6.nx ≤ n := (fr X n _ _ _ _ _ h6).2.1 hn5
              refine Far.bind (take_far hk6 hn6) fun s7 a7 h7 hk7 => ?_
              have hn7 : s7.nx ≤ n := by have := take_nx h7; omega
              refine Far.bind (take_far hk7 hn7) fun s8 a8 h8 hk8 => ?_
              have hn8 : s8.nx ≤ n := by have := take_nx h8; omega
              exact hk8
          · exact Good.bind (take_end hc3) fun s9 a9 h9 => absurd h9 (take_no hc3)
          · have hn3 : s3.nx ≤ n := (fr X n _ _ _ _ _ h3).2.1 (Nat.le_trans hl2 hnn)
            refine Far.bind (take_far hk3 hn3) fun s4 a4 h4 hk4 => ?_
            have hn4 : s4.nx ≤ n := by have := take_nx h4; omega
            refine Far.bind (farP X n n' f _ s4 hk4 hn4) fun s5 a5 h5 hk5 => ?_
            have hn5 : s5.nx ≤ n := (fr X n _ _ _ _ _ h5).2.1 hn4
            refine Far.bind (farP X n n' f _ s5 hk5 hn5) fun s6 a6 h6 hk6 => ?_
            have hn6 : s6.nx ≤ n := (fr X n _ _ _ _ _ h6).2.1 hn5
            refine Far.bind (take_far hk6 hn6) fun s7 a7 h7 hk7 => ?_
            have hn7 : s7.nx ≤ n := by have := take_nx h7; omega
            refine Far.bind (take_far hk7 hn7) fun s8 a8 h8 hk8 => ?_
            have hn8 : s8.nx ≤ n := by have := take_nx h8; omega
            exact hk8
        · refine Good.bind (endP X n' f _ s2 (by first | trivial | (simp only [Mt.fin1] at hf ⊢; omega)) hc2) fun s3 a3 h3 hc3 => ?_
          exact Good.bind (take_end hc3) fun s9 a9 h9 => absurd h9 (take_no hc3)
        · have hn2 : s2.nx ≤ n := by have := take_nx h2; omega
          refine Far.bind (farP X n n' f _ s2 hk2 hn2) fun s3 a3 h3 hk3 => ?_
          have hn3 : s3.nx ≤ n := (fr X n _ _ _ _ _ h3).2.1 hn2
          refine Far.bind (take_far hk3 hn3) fun s4 a4 h4 hk4 => ?_
          have hn4 : s4.nx ≤ n := by have := take_nx h4; omega
          refine Far.bind (farP X n n' f _ s4 hk4 hn4) fun s5 a5 h5 hk5 => ?_
          have hn5 : s5.nx ≤ n := (fr X n _ _ _ _ _ h5).2.1 hn4
          refine Far.bind (farP X n n' f _ s5 hk5 hn5) fun s6 a6 h6 hk6 => ?_
          have hn6 : s6.nx ≤ n := (fr X n _ _ _ _ _ h6).2.1 hn5
          refine Far.bind (take_far hk6 hn6) fun s7 a7 h7 hk7 => ?_
          have hn7 : s7.nx ≤ n := by have := take_nx h7; omega
          refine Far.bind (take_far hk7 hn7) fun s8 a8 h8 hk8 => ?_
          have hn8 : s8.nx ≤ n := by have := take_nx h8; omega
          exact hk8
      · exact Good.bind (take_end hc1) fun s9 a9 h9 => absurd h9 (take_no hc1)
      · have hn1 : s1.nx ≤ n := by have := take_nx h1; omega
        refine Far.bind (take_far hk1 hn1) fun s2 a2 h2 hk2 => ?_
        have hn2 : s2.nx ≤ n := by have := take_nx h2; omega
        refine Far.bind (farP X n n' f _ s2 hk2 hn2) fun s3 a3 h3 hk3 => ?_
        have hn3 : s3.nx ≤ n := (fr X n _ _ _ _ _ h3).2.1 hn2
        refine Far.bind (take_far hk3 hn3) fun s4 a4 h4 hk4 => ?_
        have hn4 : s4.nx ≤ n := by have := take_nx h4; omega
        refine Far.bind (farP X n n' f _ s4 hk4 hn4) fun s5 a5 h5 hk5 => ?_
        have hn5 : s5.nx ≤ n := (fr X n _ _ _ _ _ h5).2.1 hn4
        refine Far.bind (farP X n n' f _ s5 hk5 hn5) fun s6 a6 h6 hk6 => ?_
        have hn6 : s6.nx ≤ n := (fr X n _ _ _ _ _ h6).2.1 hn5
        refine Far.bind (take_far hk6 hn6) fun s7 a7 h7 hk7 => ?_
        have hn7 : s7.nx ≤ n := by have := take_nx h7; omega
        refine Far.bind (take_far hk7 hn7) fun s8 a8 h8 hk8 => ?_
        have hn8 : s8.nx ≤ n := by have := take_nx h8; omega
        exact hk8
    | block =>
      rw [P_block, P_block]
      refine Cut.bind (enter_cut hl0 hnn (fun _ => rfl)) (fun s1 a1 h1 b1 => ?_) (fun s1 a1 h1 hc1 => ?_) (fun s1 a1 h1 hk1 => ?_)
      · have hl1 : s1.nx ≤ n' := by have := enter_nx h1; omega
        refine Cut.bind (ih _ s1 (by first | trivial | (simp only [Mt.fin1] at hf ⊢; omega)) hl1) (fun s2 a2 h2 b2 => ?_) (fun s2 a2 h2 hc2 => ?_) (fun s2 a2 h2 hk2 => ?_)
        · have hl2 : s2.nx ≤ n' := (fr X n' _ _ _ _ _ h2).2.1 hl1
          refine Cut.bind (leave_cut hl2 hnn (fun _ => rfl)) (fun s3 a3 h3 b3 => ?_) (fun s3 a3 h3 hc3 => ?_) (fun s3 a3 h3 hk3 => ?_)
          · have hl3 : s3.nx ≤ n' := by have := leave_nx h3; omega
            exact .inl rfl
          · exact hc3
          · have hn3 : s3.nx ≤ n := by have := leave_nx h3; omega
            exact hk3
        · exact Good.bind (leave_end hc2) fun s9 a9 h9 => absurd h9 (leave_no hc2)
        · have hn2 : s2.nx ≤ n := (fr X n _ _ _ _ _ h2).2.1 (Nat.le_trans hl1 hnn)
          refine Far.bind (leave_far hk2 hn2) fun s3 a3 h3 hk3 => ?_
          have hn3 : s3.nx ≤ n := by have := leave_nx h3; omega
          exact hk3
      · refine Good.bind (endP X n' f _ s1 (by first | trivial | (simp only [Mt.fin1] at hf ⊢; omega)) hc1) fun s2 a2 h2 hc2 => ?_
        exact Good.bind (leave_end hc2) fun s9 a9 h9 => absurd h9 (leave_no hc2)
      · have hn1 : s1.nx ≤ n := by have := enter_nx h1; omega
        refine Far.bind (farP X n n' f _ s1 hk1 hn1) fun s2 a2 h2 hk2 => ?_
        have hn2 : s2.nx ≤ n := (fr X n _ _ _ _ _ h2).2.1 hn1
        refine Far.bind (leave_far hk2 hn2) fun s3 a3 h3 hk3 => ?_
        have hn3 : s3.nx ≤ n := by have := leave_nx h3; omega
        exact hk3
    | blockL l =>
      rw [P_blockL, P_blockL]
      by_cases w0_3 : s.nx < n'
      · rw [kd_cut w0_3 hnn]
        by_cases q0_3 : kd X n s = 55
        · rw [if_pos q0_3, if_pos q0_3]
          exact .inl rfl
        · rw [if_neg q0_3, if_neg q0_3]
          refine Cut.bind (ih _ s (by first | trivial | (simp only [Mt.fin1] at hf ⊢; omega)) hl0) (fun s1 a1 h1 b1 => ?_) (fun s1 a1 h1 hc1 => ?_) (fun s1 a1 h1 hk1 => ?_)
          · have hl1 : s1.nx ≤ n' := (fr X n' _ _ _ _ _ h1).2.1 hl0
            exact ih _ _ (by first | trivial | (simp only [Mt.fin1] at hf ⊢; omega)) hl1
          · exact endP X n' f _ _ (by first | trivial | (simp only [Mt.fin1] at hf ⊢; omega)) hc1
          · have hn1 : s1.nx ≤ n := (fr X n _ _ _ _ _ h1).2.1 (Nat.le_trans hl0 hnn)
            exact farP X n n' f _ _ hk1 hn1
      · have hc0 : s.nx = n' := by omega
        have hk0 : n' ≤ s.nx := by omega
        have hn0 : s.nx ≤ n := by omega
        refine .inr ⟨?_, ?_⟩
        · rw [if_neg (by rw [kd_end hc0]; omega)]
          refine Good.bind (endP X n' f _ s (by first | trivial | (simp only [Mt.fin1] at hf ⊢; omega)) hc0) fun s1 a1 h1 hc1 => ?_
          exact endP X n' f _ _ (by first | trivial | (simp only [Mt.fin1] at hf ⊢; omega)) hc1
        · split
          · exact hk0
          · refine Far.bind (farP X n n' f _ s hk0 hn0) fun s1 a1 h1 hk1 => ?_
            have hn1 : s1.nx ≤ n := (fr X n _ _ _ _ _ h1).2.1 hn0
            exact farP X n n' f _ _ hk1 hn1
    | stmt =>
      rw [P_stmt, P_stmt]
      by_cases w0_3 : s.nx < n'
      · rw [kd_cut w0_3 hnn]
        by_cases q0_3 : kd X n s = 22
        · rw [if_pos q0_3, if_pos q0_3]
          refine Cut.bind (take_cut hl0 hnn (fun _ => rfl)) (fun s1 a1 h1 b1 => ?_) (fun s1 a1 h1 hc1 => ?_) (fun s1 a1 h1 hk1 => ?_)
          · have hl1 : s1.nx ≤ n' := by have := take_nx h1; omega
            refine Cut.bind (take_cut hl1 hnn (fun _ => rfl)) (fun s2 a2 h2 b2 => ?_) (fun s2 a2 h2 hc2 => ?_) (fun s2 a2 h2 hk2 => ?_)
            · have hl2 : s2.nx ≤ n' := by have := take_nx h2; omega
              refine Cut.bind (ih _ s2 (by first | trivial | (simp only [Mt.fin1] at hf ⊢; omega)) hl2) (fun s3 a3 h3 b3 => ?_) (fun s3 a3 h3 hc3 => ?_) (fun s3 a3 h3 hk3 => ?_)
              · have hl3 : s3.nx ≤ n' := (fr X n' _ _ _ _ _ h3).2.1 hl2
                exact .inl rfl
              · exact hc3
              · have hn3 : s3.nx ≤ n := (fr X n _ _ _ _ _ h3).2.1 (Nat.le_trans hl2 hnn)
                exact hk3
            · refine Good.bind (endP X n' f _ s2 (by first | trivial | (simp only [Mt.fin1] at hf ⊢; omega)) hc2) fun s3 a3 h3 hc3 => ?_
              exact hc3
            · have hn2 : s2.nx ≤ n := by have := take_nx h2; omega
              refine Far.bind (farP X n n' f _ s2 hk2 hn2) fun s3 a3 h3 hk3 => ?_
              have hn3 : s3.nx ≤ n := (fr X n _ _ _ _ _ h3).2.1 hn2
              exact hk3
          · exact Good.bind (take_end hc1) fun s9 a9 h9 => absurd h9 (take_no hc1)
          · have hn1 : s1.nx ≤ n := by have := take_nx h1; omega
            refine Far.bind (take_far hk1 hn1) fun s2 a2 h2 hk2 => ?_
            have hn2 : s2.nx ≤ n := by have := take_nx h2; omega
            refine Far.bind (farP X n n' f _ s2 hk2 hn2) fun s3 a3 h3 hk3 => ?_
            have hn3 : s3.nx ≤ n := (fr X n _ _ _ _ _ h3).2.1 hn2
            exact hk3
        · rw [if_neg q0_3, if_neg q0_3]
          by_cases q0_5 : kd X n s = 1
          · rw [if_pos q0_5, if_pos q0_5]
            exact ih _ _ (by first | trivial | (simp only [Mt.fin1] at hf ⊢; omega)) hl0
          · rw [if_neg q0_5, if_neg q0_5]
            by_cases q0_6 : kd X n s = 23
            · rw [if_pos q0_6, if_pos q0_6]
              refine Cut.bind (take_cut hl0 hnn (fun _ => rfl)) (fun s1 a1 h1 b1 => ?_) (fun s1 a1 h1 hc1 => ?_) (fun s1 a1 h1 hk1 => ?_)
              · have hl1 : s1.nx ≤ n' := by have := take_nx h1; omega
                exact ih _ _ (by first | trivial | (simp only [Mt.fin1] at hf ⊢; omega)) hl1
              · exact endP X n' f _ _ (by first | trivial | (simp only [Mt.fin1] at hf ⊢; omega)) hc1
              · have hn1 : s1.nx ≤ n := by have := take_nx h1; omega
                exact farP X n n' f _ _ hk1 hn1
            · rw [if_neg q0_6, if_neg q0_6]
              by_cases q0_7 : kd X n s = 25
              · rw [if_pos q0_7, if_pos q0_7]
                refine Cut.bind (take_cut hl0 hnn (fun _ => rfl)) (fun s1 a1 h1 b1 => ?_) (fun s1 a1 h1 hc1 => ?_) (fun s1 a1 h1 hk1 => ?_)
                · have hl1 : s1.nx ≤ n' := by have := take_nx h1; omega
                  refine Cut.bind (ih _ s1 (by first | trivial | (simp only [Mt.fin1] at hf ⊢; omega)) hl1) (fun s2 a2 h2 b2 => ?_) (fun s2 a2 h2 hc2 => ?_) (fun s2 a2 h2 hk2 => ?_)
                  · have hl2 : s2.nx ≤ n' := (fr X n' _ _ _ _ _ h2).2.1 hl1
                    refine Cut.bind (ih _ s2 (by first | trivial | (simp only [Mt.fin1] at hf ⊢; omega)) hl2) (fun s3 a3 h3 b3 => ?_) (fun s3 a3 h3 hc3 => ?_) (fun s3 a3 h3 hk3 => ?_)
                    · have hl3 : s3.nx ≤ n' := (fr X n' _ _ _ _ _ h3).2.1 hl2
                      exact .inl rfl
                    · exact hc3
                    · have hn3 : s3.nx ≤ n := (fr X n _ _ _ _ _ h3).2.1 (Nat.le_trans hl2 hnn)
                      exact hk3
                  · refine Good.bind (endP X n' f _ s2 (by first | trivial | (simp only [Mt.fin1] at hf ⊢; omega)) hc2) fun s3 a3 h3 hc3 => ?_
                    exact hc3
                  · have hn2 : s2.nx ≤ n := (fr X n _ _ _ _ _ h2).2.1 (Nat.le_trans hl1 hnn)
                    refine Far.bind (farP X n n' f _ s2 hk2 hn2) fun s3 a3 h3 hk3 => ?_
                    have hn3 : s3.nx ≤ n := (fr X n _ _ _ _ _ h3).2.1 hn2
                    exact hk3
                · refine Good.bind (endP X n' f _ s1 (by first | trivial | (simp only [Mt.fin1] at hf ⊢; omega)) hc1) fun s2 a2 h2 hc2 => ?_
                  refine Good.bind (endP X n' f _ s2 (by first | trivial | (simp only [Mt.fin1] at hf ⊢; omega)) hc2) fun s3 a3 h3 hc3 => ?_
                  exact hc3
                · have hn1 : s1.nx ≤ n := by have := take_nx h1; omega
                  refine Far.bind (farP X n n' f _ s1 hk1 hn1) fun s2 a2 h2 hk2 => ?_
                  have hn2 : s2.nx ≤ n := (fr X n _ _ _ _ _ h2).2.1 hn1
                  refine Far.bind (farP X n n' f _ s2 hk2 hn2) fun s3 a3 h3 hk3 => ?_
                  have hn3 : s3.nx ≤ n := (fr X n _ _ _ _ _ h3).2.1 hn2
                  exact hk3
              · rw [if_neg q0_7, if_neg q0_7]
                by_cases q0_8 : kd X n s = 26
                · rw [if_pos q0_8, if_pos q0_8]
                  refine Cut.bind (take_cut hl0 hnn (fun _ => rfl)) (fun s1 a1 h1 b1 => ?_) (fun s1 a1 h1 hc1 => ?_) (fun s1 a1 h1 hk1 => ?_)
                  · have hl1 : s1.nx ≤ n' := by have := take_nx h1; omega
                    exact .inl rfl
                  · exact hc1
                  · have hn1 : s1.nx ≤ n := by have := take_nx h1; omega
                    exact hk1
                · rw [if_neg q0_8, if_neg q0_8]
                  by_cases q0_9 : kd X n s = 27
                  · rw [if_pos q0_9, if_pos q0_9]
                    refine Cut.bind (take_cut hl0 hnn (fun _ => rfl)) (fun s1 a1 h1 b1 => ?_) (fun s1 a1 h1 hc1 => ?_) (fun s1 a1 h1 hk1 => ?_)
                    · have hl1 : s1.nx ≤ n' := by have := take_nx h1; omega
                      exact .inl rfl
                    · exact hc1
                    · have hn1 : s1.nx ≤ n := by have := take_nx h1; omega
                      exact hk1
                  · rw [if_neg q0_9, if_neg q0_9]
                    by_cases q0_10 : kd X n s = 28
                    · rw [if_pos q0_10, if_pos q0_10]
                      refine Cut.bind (take_cut hl0 hnn (fun _ => rfl)) (fun s1 a1 h1 b1 => ?_) (fun s1 a1 h1 hc1 => ?_) (fun s1 a1 h1 hk1 => ?_)
                      · have hl1 : s1.nx ≤ n' := by have := take_nx h1; omega
                        exact .inl rfl
                      · exact hc1
                      · have hn1 : s1.nx ≤ n := by have := take_nx h1; omega
                        exact hk1
                    · rw [if_neg q0_10, if_neg q0_10]
                      by_cases q0_11 : kd X n s = 29
                      · rw [if_pos q0_11, if_pos q0_11]
                        exact ih _ _ (by first | trivial | (simp only [Mt.fin1] at hf ⊢; omega)) hl0
                      · rw [if_neg q0_11, if_neg q0_11]
                        by_cases q0_12 : kd X n s = 33
                        · rw [if_pos q0_12, if_pos q0_12]
                          refine Cut.bind (take_cut hl0 hnn (fun _ => rfl)) (fun s1 a1 h1 b1 => ?_) (fun s1 a1 h1 hc1 => ?_) (fun s1 a1 h1 hk1 => ?_)
                          · have hl1 : s1.nx ≤ n' := by have := take_nx h1; omega
                            refine Cut.bind (ih _ s1 (by first | trivial | (simp only [Mt.fin1] at hf ⊢; omega)) hl1) (fun s2 a2 h2 b2 => ?_) (fun s2 a2 h2 hc2 => ?_) (fun s2 a2 h2 hk2 => ?_)
                            · have hl2 : s2.nx ≤ n' := (fr X n' _ _ _ _ _ h2).2.1 hl1
                              exact .inl rfl
                            · exact hc2
                            · have hn2 : s2.nx ≤ n := (fr X n _ _ _ _ _ h2).2.1 (Nat.le_trans hl1 hnn)
                              exact hk2
                          · refine Good.bind (endP X n' f _ s1 (by first | trivial | (simp only [Mt.fin1] at hf ⊢; omega)) hc1) fun s2 a2 h2 hc2 => ?_
                            exact hc2
                          · have hn1 : s1.nx ≤ n := by have := take_nx h1; omega
                            refine Far.bind (farP X n n' f _ s1 hk1 hn1) fun s2 a2 h2 hk2 => ?_
                            have hn2 : s2.nx ≤ n := (fr X n _ _ _ _ _ h2).2.1 hn1
                            exact hk2
                        · rw [if_neg q0_12, if_neg q0_12]
                          exact refu_cut hl0 hnn
      · have hc0 : s.nx = n' := by omega
        have hk0 : n' ≤ s.nx := by omega
        have hn0 : s.nx ≤ n := by omega
        refine .inr ⟨?_, ?_⟩
        · rw [if_neg (by rw [kd_end hc0]; omega)]
          rw [if_neg (by rw [kd_end hc0]; omega)]
          rw [if_neg (by rw [kd_end hc0]; omega)]
          rw [if_neg (by rw [kd_end hc0]; omega)]
          rw [if_neg (by rw [kd_end hc0]; omega)]
          rw [if_neg (by rw [kd_end hc0]; omega)]
          rw [if_neg (by rw [kd_end hc0]; omega)]
          rw [if_neg (by rw [kd_end hc0]; omega)]
          rw [if_neg (by rw [kd_end hc0]; omega)]
          exact refu_end hc0
        · split
          · refine Far.bind (take_far hk0 hn0) fun s1 a1 h1 hk1 => ?_
            have hn1 : s1.nx ≤ n := by have := take_nx h1; omega
            refine Far.bind (take_far hk1 hn1) fun s2 a2 h2 hk2 => ?_
            have hn2 : s2.nx ≤ n := by have := take_nx h2; omega
            refine Far.bind (farP X n n' f _ s2 hk2 hn2) fun s3 a3 h3 hk3 => ?_
            have hn3 : s3.nx ≤ n := (fr X n _ _ _ _ _ h3).2.1 hn2
            exact hk3
          · split
            · exact farP X n n' f _ _ hk0 hn0
            · split
              · refine Far.bind (take_far hk0 hn0) fun s1 a1 h1 hk1 => ?_
                have hn1 : s1.nx ≤ n := by have := take_nx h1; omega
                exact farP X n n' f _ _ hk1 hn1
              · split
                · refine Far.bind (take_far hk0 hn0) fun s1 a1 h1 hk1 => ?_
                  have hn1 : s1.nx ≤ n := by have := take_nx h1; omega
                  refine Far.bind (farP X n n' f _ s1 hk1 hn1) fun s2 a2 h2 hk2 => ?_
                  have hn2 : s2.nx ≤ n := (fr X n _ _ _ _ _ h2).2.1 hn1
                  refine Far.bind (farP X n n' f _ s2 hk2 hn2) fun s3 a3 h3 hk3 => ?_
                  have hn3 : s3.nx ≤ n := (fr X n _ _ _ _ _ h3).2.1 hn2
                  exact hk3
                · split
                  · refine Far.bind (take_far hk0 hn0) fun s1 a1 h1 hk1 => ?_
                    have hn1 : s1.nx ≤ n := by have := take_nx h1; omega
                    exact hk1
                  · split
                    · refine Far.bind (take_far hk0 hn0) fun s1 a1 h1 hk1 => ?_
                      have hn1 : s1.nx ≤ n := by have := take_nx h1; omega
                      exact hk1
                    · split
                      · refine Far.bind (take_far hk0 hn0) fun s1 a1 h1 hk1 => ?_
                        have hn1 : s1.nx ≤ n := by have := take_nx h1; omega
                        exact hk1
                      · split
                        · exact farP X n n' f _ _ hk0 hn0
                        · split
                          · refine Far.bind (take_far hk0 hn0) fun s1 a1 h1 hk1 => ?_
                            have hn1 : s1.nx ≤ n := by have := take_nx h1; omega
                            refine Far.bind (farP X n n' f _ s1 hk1 hn1) fun s2 a2 h2 hk2 => ?_
                            have hn2 : s2.nx ≤ n := (fr X n _ _ _ _ _ h2).2.1 hn1
                            exact hk2
                          · exact refu_far hk0 hn0
    | set =>
      rw [P_set, P_set]
      refine Cut.bind (take_cut hl0 hnn (fun _ => rfl)) (fun s1 a1 h1 b1 => ?_) (fun s1 a1 h1 hc1 => ?_) (fun s1 a1 h1 hk1 => ?_)
      · have hl1 : s1.nx ≤ n' := by have := take_nx h1; omega
        refine Cut.bind (ih _ s1 (by first | trivial | (simp only [Mt.fin1] at hf ⊢; omega)) hl1) (fun s2 a2 h2 b2 => ?_) (fun s2 a2 h2 hc2 => ?_) (fun s2 a2 h2 hk2 => ?_)
        · have hl2 : s2.nx ≤ n' := (fr X n' _ _ _ _ _ h2).2.1 hl1
          refine Cut.bind (ih _ s2 (by first | trivial | (simp only [Mt.fin1] at hf ⊢; omega)) hl2) (fun s3 a3 h3 b3 => ?_) (fun s3 a3 h3 hc3 => ?_) (fun s3 a3 h3 hk3 => ?_)
          · have hl3 : s3.nx ≤ n' := (fr X n' _ _ _ _ _ h3).2.1 hl2
            exact .inl rfl
          · exact hc3
          · have hn3 : s3.nx ≤ n := (fr X n _ _ _ _ _ h3).2.1 (Nat.le_trans hl2 hnn)
            exact hk3
        · refine Good.bind (endP X n' f _ s2 (by first | trivial | (simp only [Mt.fin1] at hf ⊢; omega)) hc2) fun s3 a3 h3 hc3 => ?_
          exact hc3
        · have hn2 : s2.nx ≤ n := (fr X n _ _ _ _ _ h2).2.1 (Nat.le_trans hl1 hnn)
          refine Far.bind (farP X n n' f _ s2 hk2 hn2) fun s3 a3 h3 hk3 => ?_
          have hn3 : s3.nx ≤ n := (fr X n _ _ _ _ _ h3).2.1 hn2
          exact hk3
      · refine Good.bind (endP X n' f _ s1 (by first | trivial | (simp only [Mt.fin1] at hf ⊢; omega)) hc1) fun s2 a2 h2 hc2 => ?_
        refine Good.bind (endP X n' f _ s2 (by first | trivial | (simp only [Mt.fin1] at hf ⊢; omega)) hc2) fun s3 a3 h3 hc3 => ?_
        exact hc3
      · have hn1 : s1.nx ≤ n := by have := take_nx h1; omega
        refine Far.bind (farP X n n' f _ s1 hk1 hn1) fun s2 a2 h2 hk2 => ?_
        have hn2 : s2.nx ≤ n := (fr X n _ _ _ _ _ h2).2.1 hn1
        refine Far.bind (farP X n n' f _ s2 hk2 hn2) fun s3 a3 h3 hk3 => ?_
        have hn3 : s3.nx ≤ n := (fr X n _ _ _ _ _ h3).2.1 hn2
        exact hk3
    | branch t =>
      rw [P_branch, P_branch]
      refine Cut.bind (ih _ s (by first | trivial | (simp only [Mt.fin1] at hf ⊢; omega)) hl0) (fun s1 a1 h1 b1 => ?_) (fun s1 a1 h1 hc1 => ?_) (fun s1 a1 h1 hk1 => ?_)
      · have hl1 : s1.nx ≤ n' := (fr X n' _ _ _ _ _ h1).2.1 hl0
        refine Cut.bind (ih _ s1 (by first | trivial | (simp only [Mt.fin1] at hf ⊢; omega)) hl1) (fun s2 a2 h2 b2 => ?_) (fun s2 a2 h2 hc2 => ?_) (fun s2 a2 h2 hk2 => ?_)
        · have hl2 : s2.nx ≤ n' := (fr X n' _ _ _ _ _ h2).2.1 hl1
          by_cases w2_5 : s2.nx < n'
          · rw [kd_cut w2_5 hnn]
            by_cases q2_5 : kd X n s2 = 24
            · rw [if_pos q2_5, if_pos q2_5]
              refine Cut.bind (take_cut hl2 hnn (fun _ => rfl)) (fun s3 a3 h3 b3 => ?_) (fun s3 a3 h3 hc3 => ?_) (fun s3 a3 h3 hk3 => ?_)
              · have hl3 : s3.nx ≤ n' := by have := take_nx h3; omega
                refine Cut.bind (ih _ s3 (by first | trivial | (simp only [Mt.fin1] at hf ⊢; omega)) hl3) (fun s4 a4 h4 b4 => ?_) (fun s4 a4 h4 hc4 => ?_) (fun s4 a4 h4 hk4 => ?_)
                · have hl4 : s4.nx ≤ n' := (fr X n' _ _ _ _ _ h4).2.1 hl3
                  exact .inl rfl
                · exact hc4
                · have hn4 : s4.nx ≤ n := (fr X n _ _ _ _ _ h4).2.1 (Nat.le_trans hl3 hnn)
                  exact hk4
              · refine Good.bind (endP X n' f _ s3 (by first | trivial | (simp only [Mt.fin1] at hf ⊢; omega)) hc3) fun s4 a4 h4 hc4 => ?_
                exact hc4
              · have hn3 : s3.nx ≤ n := by have := take_nx h3; omega
                refine Far.bind (farP X n n' f _ s3 hk3 hn3) fun s4 a4 h4 hk4 => ?_
                have hn4 : s4.nx ≤ n := (fr X n _ _ _ _ _ h4).2.1 hn3
                exact hk4
            · rw [if_neg q2_5, if_neg q2_5]
              exact .inl rfl
          · have hc2 : s2.nx = n' := by omega
            have hk2 : n' ≤ s2.nx := by omega
            have hn2 : s2.nx ≤ n := by omega
            refine .inr ⟨?_, ?_⟩
            · rw [if_neg (by rw [kd_end hc2]; omega)]
              exact hc2
            · split
              · refine Far.bind (take_far hk2 hn2) fun s3 a3 h3 hk3 => ?_
                have hn3 : s3.nx ≤ n := by have := take_nx h3; omega
                refine Far.bind (farP X n n' f _ s3 hk3 hn3) fun s4 a4 h4 hk4 => ?_
                have hn4 : s4.nx ≤ n := (fr X n _ _ _ _ _ h4).2.1 hn3
                exact hk4
              · exact hk2
        · rw [if_neg (by rw [kd_end hc2]; omega)]
          exact hc2
        · have hn2 : s2.nx ≤ n := (fr X n _ _ _ _ _ h2).2.1 (Nat.le_trans hl1 hnn)
          split
          · refine Far.bind (take_far hk2 hn2) fun s3 a3 h3 hk3 => ?_
            have hn3 : s3.nx ≤ n := by have := take_nx h3; omega
            refine Far.bind (farP X n n' f _ s3 hk3 hn3) fun s4 a4 h4 hk4 => ?_
            have hn4 : s4.nx ≤ n := (fr X n _ _ _ _ _ h4).2.1 hn3
            exact hk4
          · exact hk2
      · refine Good.bind (endP X n' f _ s1 (by first | trivial | (simp only [Mt.fin1] at hf ⊢; omega)) hc1) fun s2 a2 h2 hc2 => ?_
        rw [if_neg (by rw [kd_end hc2]; omega)]
        exact hc2
      · have hn1 : s1.nx ≤ n := (fr X n _ _ _ _ _ h1).2.1 (Nat.le_trans hl0 hnn)
        refine Far.bind (farP X n n' f _ s1 hk1 hn1) fun s2 a2 h2 hk2 => ?_
        have hn2 : s2.nx ≤ n := (fr X n _ _ _ _ _ h2).2.1 hn1
        split
        · refine Far.bind (take_far hk2 hn2) fun s3 a3 h3 hk3 => ?_
          have hn3 : s3.nx ≤ n := by have := take_nx h3; omega
          refine Far.bind (farP X n n' f _ s3 hk3 hn3) fun s4 a4 h4 hk4 => ?_
          have hn4 : s4.nx ≤ n := (fr X n _ _ _ _ _ h4).2.1 hn3
          exact hk4
        · exact hk2
    | otherwise =>
      rw [P_otherwise, P_otherwise]
      by_cases w0_3 : s.nx < n'
      · rw [kd_cut w0_3 hnn]
        by_cases q0_3 : kd X n s = 23
        · rw [if_pos q0_3, if_pos q0_3]
          refine Cut.bind (enter_cut hl0 hnn (fun _ => rfl)) (fun s1 a1 h1 b1 => ?_) (fun s1 a1 h1 hc1 => ?_) (fun s1 a1 h1 hk1 => ?_)
          · have hl1 : s1.nx ≤ n' := by have := enter_nx h1; omega
            refine Cut.bind (ih _ s1 (by first | trivial | (simp only [Mt.fin1] at hf ⊢; omega)) hl1) (fun s2 a2 h2 b2 => ?_) (fun s2 a2 h2 hc2 => ?_) (fun s2 a2 h2 hk2 => ?_)
            · have hl2 : s2.nx ≤ n' := (fr X n' _ _ _ _ _ h2).2.1 hl1
              exact .inl rfl
            · exact hc2
            · have hn2 : s2.nx ≤ n := (fr X n _ _ _ _ _ h2).2.1 (Nat.le_trans hl1 hnn)
              exact hk2
          · refine Good.bind (endP X n' f _ s1 (by first | trivial | (simp only [Mt.fin1] at hf ⊢; omega)) hc1) fun s2 a2 h2 hc2 => ?_
            exact hc2
          · have hn1 : s1.nx ≤ n := by have := enter_nx h1; omega
            refine Far.bind (farP X n n' f _ s1 hk1 hn1) fun s2 a2 h2 hk2 => ?_
            have hn2 : s2.nx ≤ n := (fr X n _ _ _ _ _ h2).2.1 hn1
            exact hk2
        · rw [if_neg q0_3, if_neg q0_3]
          exact ih _ _ (by first | trivial | (simp only [Mt.fin1] at hf ⊢; omega)) hl0
      · have hc0 : s.nx = n' := by omega
        have hk0 : n' ≤ s.nx := by omega
        have hn0 : s.nx ≤ n := by omega
        refine .inr ⟨?_, ?_⟩
        · rw [if_neg (by rw [kd_end hc0]; omega)]
          exact endP X n' f _ _ (by first | trivial | (simp only [Mt.fin1] at hf ⊢; omega)) hc0
        · split
          · refine Far.bind (enter_far hk0 hn0) fun s1 a1 h1 hk1 => ?_
            have hn1 : s1.nx ≤ n := by have := enter_nx h1; omega
            refine Far.bind (farP X n n' f _ s1 hk1 hn1) fun s2 a2 h2 hk2 => ?_
            have hn2 : s2.nx ≤ n := (fr X n _ _ _ _ _ h2).2.1 hn1
            exact hk2
          · exact farP X n n' f _ _ hk0 hn0
    | send =>
      rw [P_send, P_send]
      refine Cut.bind (take_cut hl0 hnn (fun _ => rfl)) (fun s1 a1 h1 b1 => ?_) (fun s1 a1 h1 hc1 => ?_) (fun s1 a1 h1 hk1 => ?_)
      · have hl1 : s1.nx ≤ n' := by have := take_nx h1; omega
        refine Cut.bind (take_cut hl1 hnn (fun _ => rfl)) (fun s2 a2 h2 b2 => ?_) (fun s2 a2 h2 hc2 => ?_) (fun s2 a2 h2 hk2 => ?_)
        · have hl2 : s2.nx ≤ n' := by have := take_nx h2; omega
          refine Cut.bind (ih _ s2 (by first | trivial | (simp only [Mt.fin1] at hf ⊢; omega)) hl2) (fun s3 a3 h3 b3 => ?_) (fun s3 a3 h3 hc3 => ?_) (fun s3 a3 h3 hk3 => ?_)
          · have hl3 : s3.nx ≤ n' := (fr X n' _ _ _ _ _ h3).2.1 hl2
            refine Cut.bind (take_cut hl3 hnn (fun _ => rfl)) (fun s4 a4 h4 b4 => ?_) (fun s4 a4 h4 hc4 => ?_) (fun s4 a4 h4 hk4 => ?_)
            · have hl4 : s4.nx ≤ n' := by have := take_nx h4; omega
              refine Cut.bind (ih _ s4 (by first | trivial | (simp only [Mt.fin1] at hf ⊢; omega)) hl4) (fun s5 a5 h5 b5 => ?_) (fun s5 a5 h5 hc5 => ?_) (fun s5 a5 h5 hk5 => ?_)
              · have hl5 : s5.nx ≤ n' := (fr X n' _ _ _ _ _ h5).2.1 hl4
                refine Cut.bind (take_cut hl5 hnn (fun _ => rfl)) (fun s6 a6 h6 b6 => ?_) (fun s6 a6 h6 hc6 => ?_) (fun s6 a6 h6 hk6 => ?_)
                · have hl6 : s6.nx ≤ n' := by have := take_nx h6; omega
                  refine Cut.bind (ih _ s6 (by first | trivial | (simp only [Mt.fin1] at hf ⊢; omega)) hl6) (fun s7 a7 h7 b7 => ?_) (fun s7 a7 h7 hc7 => ?_) (fun s7 a7 h7 hk7 => ?_)
                  · have hl7 : s7.nx ≤ n' := (fr X n' _ _ _ _ _ h7).2.1 hl6
                    exact .inl rfl
                  · exact hc7
                  · have hn7 : s7.nx ≤ n := (fr X n _ _ _ _ _ h7).2.1 (Nat.le_trans hl6 hnn)
                    exact hk7
                · refine Good.bind (endP X n' f _ s6 (by first | trivial | (simp only [Mt.fin1] at hf ⊢; omega)) hc6) fun s7 a7 h7 hc7 => ?_
                  exact hc7
                · have hn6 : s6.nx ≤ n := by have := take_nx h6; omega
                  refine Far.bind (farP X n n' f _ s6 hk6 hn6) fun s7 a7 h7 hk7 => ?_
                  have hn7 : s7.nx ≤ n := (fr X n _ _ _ _ _ h7).2.1 hn6
                  exact hk7
              · exact Good.bind (take_end hc5) fun s9 a9 h9 => absurd h9 (take_no hc5)
              · have hn5 : s5.nx ≤ n := (fr X n _ _ _ _ _ h5).2.1 (Nat.le_trans hl4 hnn)
                refine Far.bind (take_far hk5 hn5) fun s6 a6 h6 hk6 => ?_
                have hn6 : s6.nx ≤ n := by have := take_nx h6; omega
                refine Far.bind (farP X n n' f _ s6 hk6 hn6) fun s7 a7 h7 hk7 => ?_
                have hn7 : s7.nx ≤ n := (fr X n _ _ _ _ _ h7).2.1 hn6
                exact hk7
            · refine Good.bind (endP X n' f _ s4 (by first | trivial | (simp only [Mt.fin1] at hf ⊢; omega)) hc4) fun s5 a5 h5 hc5 => ?_
              exact Good.bind (take_end hc5) fun s9 a9 h9 => absurd h9 (take_no hc5)
            · have hn4 : s4.nx ≤ n := by have := take_nx h4; omega
              refine Far.bind (farP X n n' f _ s4 hk4 hn4) fun s5 a5 h5 hk5 => ?_
              have hn5 : s5.nx ≤ n := (fr X n _ _ _ _ _ h5).2.1 hn4
              refine Far.bind (take_far hk5 hn5) fun s6 a6 h6 hk6 => ?_
              have hn6 : s6.nx ≤ n := by have := take_nx h6; omega
              refine Far.bind (farP X n n' f _ s6 hk6 hn6) fun s7 a7 h7 hk7 => ?_
              have hn7 : s7.nx ≤ n := (fr X n _ _ _ _ _ h7).2.1 hn6
              exact hk7
          · exact Good.bind (take_end hc3) fun s9 a9 h9 => absurd h9 (take_no hc3)
          · have hn3 : s3.nx ≤ n := (fr X n _ _ _ _ _ h3).2.1 (Nat.le_trans hl2 hnn)
            refine Far.bind (take_far hk3 hn3) fun s4 a4 h4 hk4 => ?_
            have hn4 : s4.nx ≤ n := by have := take_nx h4; omega
            refine Far.bind (farP X n n' f _ s4 hk4 hn4) fun s5 a5 h5 hk5 => ?_
            have hn5 : s5.nx ≤ n := (fr X n _ _ _ _ _ h5).2.1 hn4
            refine Far.bind (take_far hk5 hn5) fun s6 a6 h6 hk6 => ?_
            have hn6 : s6.nx ≤ n := by have := take_nx h6; omega
            refine Far.bind (farP X n n' f _ s6 hk6 hn6) fun s7 a7 h7 hk7 => ?_
            have hn7 : s7.nx ≤ n := (fr X n _ _ _ _ _ h7).2.1 hn6
            exact hk7
        · refine Good.bind (endP X n' f _ s2 (by first | trivial | (simp only [Mt.fin1] at hf ⊢; omega)) hc2) fun s3 a3 h3 hc3 => ?_
          exact Good.bind (take_end hc3) fun s9 a9 h9 => absurd h9 (take_no hc3)
        · have hn2 : s2.nx ≤ n := by have := take_nx h2; omega
          refine Far.bind (farP X n n' f _ s2 hk2 hn2) fun s3 a3 h3 hk3 => ?_
          have hn3 : s3.nx ≤ n := (fr X n _ _ _ _ _ h3).2.1 hn2
          refine Far.bind (take_far hk3 hn3) fun s4 a4 h4 hk4 => ?_
          have hn4 : s4.nx ≤ n := by have := take_nx h4; omega
          refine Far.bind (farP X n n' f _ s4 hk4 hn4) fun s5 a5 h5 hk5 => ?_
          have hn5 : s5.nx ≤ n := (fr X n _ _ _ _ _ h5).2.1 hn4
          refine Far.bind (take_far hk5 hn5) fun s6 a6 h6 hk6 => ?_
          have hn6 : s6.nx ≤ n := by have := take_nx h6; omega
          refine Far.bind (farP X n n' f _ s6 hk6 hn6) fun s7 a7 h7 hk7 => ?_
          have hn7 : s7.nx ≤ n := (fr X n _ _ _ _ _ h7).2.1 hn6
          exact hk7
      · exact Good.bind (take_end hc1) fun s9 a9 h9 => absurd h9 (take_no hc1)
      · have hn1 : s1.nx ≤ n := by have := take_nx h1; omega
        refine Far.bind (take_far hk1 hn1) fun s2 a2 h2 hk2 => ?_
        have hn2 : s2.nx ≤ n := by have := take_nx h2; omega
        refine Far.bind (farP X n n' f _ s2 hk2 hn2) fun s3 a3 h3 hk3 => ?_
        have hn3 : s3.nx ≤ n := (fr X n _ _ _ _ _ h3).2.1 hn2
        refine Far.bind (take_far hk3 hn3) fun s4 a4 h4 hk4 => ?_
        have hn4 : s4.nx ≤ n := by have := take_nx h4; omega
        refine Far.bind (farP X n n' f _ s4 hk4 hn4) fun s5 a5 h5 hk5 => ?_
        have hn5 : s5.nx ≤ n := (fr X n _ _ _ _ _ h5).2.1 hn4
        refine Far.bind (take_far hk5 hn5) fun s6 a6 h6 hk6 => ?_
        have hn6 : s6.nx ≤ n := by have := take_nx h6; omega
        refine Far.bind (farP X n n' f _ s6 hk6 hn6) fun s7 a7 h7 hk7 => ?_
        have hn7 : s7.nx ≤ n := (fr X n _ _ _ _ _ h7).2.1 hn6
        exact hk7
end Go.Proofs.YtmekcccmnkgodaaGreatDoor
namespace Go.Proofs.YtmekcccmnkgodaaGreatDoor
open Go.ChangeShapes Go.WideShapes Go.ChangeAt Go.RowKit
set_option linter.unusedVariables false
set_option linter.unusedSimpArgs false
/-! ### what goes wrong, and where -/
def CdE (X : Nat → Tk) (n : Nat) (e : Pe) : Prop := e = endE X n ∨ (e.idx < n ∧ (e.code = 40 ∨ e.code = 42) ∧ e.line = (X e.idx).line ∧ e.col = (X e.idx).col)
def Cd {α : Type} (X : Nat → Tk) (n : Nat) : Pr α → Prop
  | .out => True
  | .bad e => CdE X n e
  | .ok _ _ => True
theorem Cd.bind {α β : Type} {X : Nat → Tk} {n : Nat} {r : Pr α} {k : St → α → Pr β} (h : Cd X n r) (hk : ∀ s a, r = .ok s a → Cd X n (k s a)) : Cd X n (r.bind k) := by
  cases r with
  | out => trivial
  | bad e => exact h
  | ok s a => exact hk s a rfl
theorem refu_cd {X : Nat → Tk} {n : Nat} {s : St} (hn : s.nx ≤ n) : CdE X n (refu X n s) := by
  unfold refu
  by_cases q : s.nx < n
  · rw [if_pos q]; exact .inr ⟨q, .inl rfl, rfl, rfl⟩
  · rw [if_neg q]; exact .inl rfl
theorem take_cd {X : Nat → Tk} {n : Nat} {k : Int} {s : St} (hn : s.nx ≤ n) : Cd X n (take X n k s) := by
  unfold take
  split
  · split
    · exact refu_cd hn
    · trivial
  · exact refu_cd hn
theorem enter_cd {X : Nat → Tk} {n : Nat} {k : Int} {s : St} (hn : s.nx ≤ n) : Cd X n (enter X n k s) := by
  unfold enter
  refine Cd.bind (take_cd hn) fun s1 a h1 => ?_
  obtain ⟨g1, _, _, rfl⟩ := take_ok h1
  split
  · exact .inr ⟨g1, .inr rfl, rfl, rfl⟩
  · trivial
theorem leave_cd {X : Nat → Tk} {n : Nat} {k : Int} {s : St} (hn : s.nx ≤ n) : Cd X n (leave X n k s) := by
  unfold leave
  exact Cd.bind (take_cd hn) fun s1 a h1 => trivial
theorem cdP (X : Nat → Tk) (n : Nat) : ∀ (f : Nat) (m : Mt) (s : St), s.nx ≤ n → Cd X n (P X n f m s) := by
  intro f
  induction f with
  | zero => intro m s _; trivial
  | succ f ih =>
    intro m s hn0
    cases m with
    | bin st =>
      rw [P_bin]
      split
      · exact ih _ _ hn0
      · refine Cd.bind (ih _ _ hn0) fun s1 a1 h1 => ?_
        have hn1 : s1.nx ≤ n := (fr X n _ _ _ _ _ h1).2.1 hn0
        exact ih _ _ hn1
    | binL st left =>
      rw [P_binL]
      split
      · refine Cd.bind (take_cd hn0) fun s1 a1 h1 => ?_
        have hn1 : s1.nx ≤ n := by have := take_nx h1; omega
        refine Cd.bind (ih _ _ hn1) fun s2 a2 h2 => ?_
        have hn2 : s2.nx ≤ n := (fr X n _ _ _ _ _ h2).2.1 hn1
        refine Cd.bind (show Cd X n (add _ _ _ _ _ _ _) from trivial) fun s3 a3 h3 => ?_
        have hn3 : s3.nx ≤ n := by have := add_nx h3; omega
        split
        · trivial
        · exact ih _ _ hn3
      · trivial
    | una =>
      rw [P_una]
      split
      · refine Cd.bind (enter_cd hn0) fun s1 a1 h1 => ?_
        have hn1 : s1.nx ≤ n := by have := enter_nx h1; omega
        refine Cd.bind (ih _ _ hn1) fun s2 a2 h2 => ?_
        have hn2 : s2.nx ≤ n := (fr X n _ _ _ _ _ h2).2.1 hn1
        trivial
      · exact ih _ _ hn0
    | atom =>
      rw [P_atom]
      split
      · refine Cd.bind (take_cd hn0) fun s1 a1 h1 => ?_
        have hn1 : s1.nx ≤ n := by have := take_nx h1; omega
        trivial
      · split
        · exact ih _ _ hn0
        · split
          · refine Cd.bind (take_cd hn0) fun s1 a1 h1 => ?_
            have hn1 : s1.nx ≤ n := by have := take_nx h1; omega
            trivial
          · split
            · refine Cd.bind (take_cd hn0) fun s1 a1 h1 => ?_
              have hn1 : s1.nx ≤ n := by have := take_nx h1; omega
              trivial
            · split
              · refine Cd.bind (take_cd hn0) fun s1 a1 h1 => ?_
                have hn1 : s1.nx ≤ n := by have := take_nx h1; omega
                trivial
              · split
                · exact ih _ _ hn0
                · split
                  · exact ih _ _ hn0
                  · split
                    · exact ih _ _ hn0
                    · split
                      · exact ih _ _ hn0
                      · split
                        · exact ih _ _ hn0
                        · exact refu_cd hn0
    | named =>
      rw [P_named]
      refine Cd.bind (take_cd hn0) fun s1 a1 h1 => ?_
      have hn1 : s1.nx ≤ n := by have := take_nx h1; omega
      refine Cd.bind (ih _ _ hn1) fun s2 a2 h2 => ?_
      have hn2 : s2.nx ≤ n := (fr X n _ _ _ _ _ h2).2.1 hn1
      trivial
    | throw q =>
      rw [P_throw]
      refine Cd.bind (take_cd hn0) fun s1 a1 h1 => ?_
      have hn1 : s1.nx ≤ n := by have := take_nx h1; omega
      refine Cd.bind (ih _ _ hn1) fun s2 a2 h2 => ?_
      have hn2 : s2.nx ≤ n := (fr X n _ _ _ _ _ h2).2.1 hn1
      trivial
    | choice q =>
      rw [P_choice]
      refine Cd.bind (take_cd hn0) fun s1 a1 h1 => ?_
      have hn1 : s1.nx ≤ n := by have := take_nx h1; omega
      refine Cd.bind (enter_cd hn1) fun s2 a2 h2 => ?_
      have hn2 : s2.nx ≤ n := by have := enter_nx h2; omega
      refine Cd.bind (ih _ _ hn2) fun s3 a3 h3 => ?_
      have hn3 : s3.nx ≤ n := (fr X n _ _ _ _ _ h3).2.1 hn2
      refine Cd.bind (take_cd hn3) fun s4 a4 h4 => ?_
      have hn4 : s4.nx ≤ n := by have := take_nx h4; omega
      refine Cd.bind (ih _ _ hn4) fun s5 a5 h5 => ?_
      have hn5 : s5.nx ≤ n := (fr X n _ _ _ _ _ h5).2.1 hn4
      refine Cd.bind (leave_cd hn5) fun s6 a6 h6 => ?_
      have hn6 : s6.nx ≤ n := by have := leave_nx h6; omega
      trivial
    | brack =>
      rw [P_brack]
      refine Cd.bind (enter_cd hn0) fun s1 a1 h1 => ?_
      have hn1 : s1.nx ≤ n := by have := enter_nx h1; omega
      refine Cd.bind (ih _ _ hn1) fun s2 a2 h2 => ?_
      have hn2 : s2.nx ≤ n := (fr X n _ _ _ _ _ h2).2.1 hn1
      refine Cd.bind (leave_cd hn2) fun s3 a3 h3 => ?_
      have hn3 : s3.nx ≤ n := by have := leave_nx h3; omega
      trivial
    | index =>
      rw [P_index]
      split
      · refine Cd.bind (enter_cd hn0) fun s1 a1 h1 => ?_
        have hn1 : s1.nx ≤ n := by have := enter_nx h1; omega
        refine Cd.bind (ih _ _ hn1) fun s2 a2 h2 => ?_
        have hn2 : s2.nx ≤ n := (fr X n _ _ _ _ _ h2).2.1 hn1
        refine Cd.bind (leave_cd hn2) fun s3 a3 h3 => ?_
        have hn3 : s3.nx ≤ n := by have := leave_nx h3; omega
        trivial
      · trivial
    | value =>
      rw [P_value]
      refine Cd.bind (take_cd hn0) fun s1 a1 h1 => ?_
      have hn1 : s1.nx ≤ n := by have := take_nx h1; omega
      exact ih _ _ hn1
    | name q =>
      rw [P_name]
      refine Cd.bind (take_cd hn0) fun s1 a1 h1 => ?_
      have hn1 : s1.nx ≤ n := by have := take_nx h1; omega
      trivial
    | scene =>
      rw [P_scene]
      exact ih _ _ hn0
    | sceneL l =>
      rw [P_sceneL]
      split
      · refine Cd.bind (ih _ _ hn0) fun s1 a1 h1 => ?_
        have hn1 : s1.nx ≤ n := (fr X n _ _ _ _ _ h1).2.1 hn0
        exact ih _ _ hn1
      · trivial
    | item =>
      rw [P_item]
      split
      · exact ih _ _ hn0
      · split
        · exact ih _ _ hn0
        · split
          · exact ih _ _ hn0
          · split
            · exact ih _ _ hn0
            · split
              · exact ih _ _ hn0
              · split
                · exact ih _ _ hn0
                · exact refu_cd hn0
    | setting =>
      rw [P_setting]
      refine Cd.bind (take_cd hn0) fun s1 a1 h1 => ?_
      have hn1 : s1.nx ≤ n := by have := take_nx h1; omega
      refine Cd.bind (take_cd hn1) fun s2 a2 h2 => ?_
      have hn2 : s2.nx ≤ n := by have := take_nx h2; omega
      trivial
    | constant =>
      rw [P_constant]
      refine Cd.bind (take_cd hn0) fun s1 a1 h1 => ?_
      have hn1 : s1.nx ≤ n := by have := take_nx h1; omega
      refine Cd.bind (take_cd hn1) fun s2 a2 h2 => ?_
      have hn2 : s2.nx ≤ n := by have := take_nx h2; omega
      refine Cd.bind (ih _ _ hn2) fun s3 a3 h3 => ?_
      have hn3 : s3.nx ≤ n := (fr X n _ _ _ _ _ h3).2.1 hn2
      trivial
    | kinds =>
      rw [P_kinds]
      refine Cd.bind (take_cd hn0) fun s1 a1 h1 => ?_
      have hn1 : s1.nx ≤ n := by have := take_nx h1; omega
      refine Cd.bind (ih _ _ hn1) fun s2 a2 h2 => ?_
      have hn2 : s2.nx ≤ n := (fr X n _ _ _ _ _ h2).2.1 hn1
      refine Cd.bind (ih _ _ hn2) fun s3 a3 h3 => ?_
      have hn3 : s3.nx ≤ n := (fr X n _ _ _ _ _ h3).2.1 hn2
      trivial
    | kindsL l =>
      rw [P_kindsL]
      split
      · refine Cd.bind (take_cd hn0) fun s1 a1 h1 => ?_
        have hn1 : s1.nx ≤ n := by have := take_nx h1; omega
        refine Cd.bind (ih _ _ hn1) fun s2 a2 h2 => ?_
        have hn2 : s2.nx ≤ n := (fr X n _ _ _ _ _ h2).2.1 hn1
        exact ih _ _ hn2
      · trivial
    | ptype =>
      rw [P_ptype]
      refine Cd.bind (take_cd hn0) fun s1 a1 h1 => ?_
      have hn1 : s1.nx ≤ n := by have := take_nx h1; omega
      refine Cd.bind (take_cd hn1) fun s2 a2 h2 => ?_
      have hn2 : s2.nx ≤ n := by have := take_nx h2; omega
      refine Cd.bind (enter_cd hn2) fun s3 a3 h3 => ?_
      have hn3 : s3.nx ≤ n := by have := enter_nx h3; omega
      refine Cd.bind (ih _ _ hn3) fun s4 a4 h4 => ?_
      have hn4 : s4.nx ≤ n := (fr X n _ _ _ _ _ h4).2.1 hn3
      refine Cd.bind (leave_cd hn4) fun s5 a5 h5 => ?_
      have hn5 : s5.nx ≤ n := by have := leave_nx h5; omega
      trivial
    | memL l =>
      rw [P_memL]
      split
      · trivial
      · refine Cd.bind (ih _ _ hn0) fun s1 a1 h1 => ?_
        have hn1 : s1.nx ≤ n := (fr X n _ _ _ _ _ h1).2.1 hn0
        exact ih _ _ hn1
    | member =>
      rw [P_member]
      split
      · exact ih _ _ hn0
      · split
        · exact ih _ _ hn0
        · exact refu_cd hn0
    | vari =>
      rw [P_vari]
      refine Cd.bind (take_cd hn0) fun s1 a1 h1 => ?_
      have hn1 : s1.nx ≤ n := by have := take_nx h1; omega
      refine Cd.bind (take_cd hn1) fun s2 a2 h2 => ?_
      have hn2 : s2.nx ≤ n := by have := take_nx h2; omega
      refine Cd.bind (ih _ _ hn2) fun s3 a3 h3 => ?_
      have hn3 : s3.nx ≤ n := (fr X n _ _ _ _ _ h3).2.1 hn2
      split
      · refine Cd.bind (ih _ _ hn3) fun s4 a4 h4 => ?_
        have hn4 : s4.nx ≤ n := (fr X n _ _ _ _ _ h4).2.1 hn3
        trivial
      · trivial
    | handler =>
      rw [P_handler]
      refine Cd.bind (take_cd hn0) fun s1 a1 h1 => ?_
      have hn1 : s1.nx ≤ n := by have := take_nx h1; omega
      refine Cd.bind (take_cd hn1) fun s2 a2 h2 => ?_
      have hn2 : s2.nx ≤ n := by have := take_nx h2; omega
      refine Cd.bind (enter_cd hn2) fun s3 a3 h3 => ?_
      have hn3 : s3.nx ≤ n := by have := enter_nx h3; omega
      refine Cd.bind (ih _ _ hn3) fun s4 a4 h4 => ?_
      have hn4 : s4.nx ≤ n := (fr X n _ _ _ _ _ h4).2.1 hn3
      refine Cd.bind (leave_cd hn4) fun s5 a5 h5 => ?_
      have hn5 : s5.nx ≤ n := by have := leave_nx h5; omega
      refine Cd.bind (ih _ _ hn5) fun s6 a6 h6 => ?_
      have hn6 : s6.nx ≤ n := (fr X n _ _ _ _ _ h6).2.1 hn5
      trivial
    | place =>
      rw [P_place]
      refine Cd.bind (take_cd hn0) fun s1 a1 h1 => ?_
      have hn1 : s1.nx ≤ n := by have := take_nx h1; omega
      refine Cd.bind (take_cd hn1) fun s2 a2 h2 => ?_
      have hn2 : s2.nx ≤ n := by have := take_nx h2; omega
      refine Cd.bind (ih _ _ hn2) fun s3 a3 h3 => ?_
      have hn3 : s3.nx ≤ n := (fr X n _ _ _ _ _ h3).2.1 hn2
      refine Cd.bind (take_cd hn3) fun s4 a4 h4 => ?_
      have hn4 : s4.nx ≤ n := by have := take_nx h4; omega
      refine Cd.bind (ih _ _ hn4) fun s5 a5 h5 => ?_
      have hn5 : s5.nx ≤ n := (fr X n _ _ _ _ _ h5).2.1 hn4
      split
      · refine Cd.bind (ih _ _ hn5) fun s6 a6 h6 => ?_
        have hn6 : s6.nx ≤ n := (fr X n _ _ _ _ _ h6).2.1 hn5
        trivial
      · trivial
    | gives =>
      rw [P_gives]
      refine Cd.bind (enter_cd hn0) fun s1 a1 h1 => ?_
      have hn1 : s1.nx ≤ n := by have := enter_nx h1; omega
      refine Cd.bind (ih _ _ hn1) fun s2 a2 h2 => ?_
      have hn2 : s2.nx ≤ n := (fr X n _ _ _ _ _ h2).2.1 hn1
      refine Cd.bind (ih _ _ hn2) fun s3 a3 h3 => ?_
      have hn3 : s3.nx ≤ n := (fr X n _ _ _ _ _ h3).2.1 hn2
      refine Cd.bind (leave_cd hn3) fun s4 a4 h4 => ?_
      have hn4 : s4.nx ≤ n := by have := leave_nx h4; omega
      trivial
    | givesL l =>
      rw [P_givesL]
      split
      · refine Cd.bind (take_cd hn0) fun s1 a1 h1 => ?_
        have hn1 : s1.nx ≤ n := by have := take_nx h1; omega
        refine Cd.bind (ih _ _ hn1) fun s2 a2 h2 => ?_
        have hn2 : s2.nx ≤ n := (fr X n _ _ _ _ _ h2).2.1 hn1
        exact ih _ _ hn2
      · trivial
    | give =>
      rw [P_give]
      refine Cd.bind (take_cd hn0) fun s1 a1 h1 => ?_
      have hn1 : s1.nx ≤ n := by have := take_nx h1; omega
      refine Cd.bind (ih _ _ hn1) fun s2 a2 h2 => ?_
      have hn2 : s2.nx ≤ n := (fr X n _ _ _ _ _ h2).2.1 hn1
      refine Cd.bind (ih _ _ hn2) fun s3 a3 h3 => ?_
      have hn3 : s3.nx ≤ n := (fr X n _ _ _ _ _ h3).2.1 hn2
      trivial
    | start =>
      rw [P_start]
      refine Cd.bind (take_cd hn0) fun s1 a1 h1 => ?_
      have hn1 : s1.nx ≤ n := by have := take_nx h1; omega
      refine Cd.bind (take_cd hn1) fun s2 a2 h2 => ?_
      have hn2 : s2.nx ≤ n := by have := take_nx h2; omega
      refine Cd.bind (ih _ _ hn2) fun s3 a3 h3 => ?_
      have hn3 : s3.nx ≤ n := (fr X n _ _ _ _ _ h3).2.1 hn2
      refine Cd.bind (take_cd hn3) fun s4 a4 h4 => ?_
      have hn4 : s4.nx ≤ n := by have := take_nx h4; omega
      refine Cd.bind (ih _ _ hn4) fun s5 a5 h5 => ?_
      have hn5 : s5.nx ≤ n := (fr X n _ _ _ _ _ h5).2.1 hn4
      refine Cd.bind (ih _ _ hn5) fun s6 a6 h6 => ?_
      have hn6 : s6.nx ≤ n := (fr X n _ _ _ _ _ h6).2.1 hn5
      refine Cd.bind (take_cd hn6) fun s7 a7 h7 => ?_
      have hn7 : s7.nx ≤ n := by have := take_nx h7; omega
      refine Cd.bind (take_cd hn7) fun s8 a8 h8 => ?_
      have hn8 : s8.nx ≤ n := by have := take_nx h8; omega
      trivial
    | block =>
      rw [P_block]
      refine Cd.bind (enter_cd hn0) fun s1 a1 h1 => ?_
      have hn1 : s1.nx ≤ n := by have := enter_nx h1; omega
      refine Cd.bind (ih _ _ hn1) fun s2 a2 h2 => ?_
      have hn2 : s2.nx ≤ n := (fr X n _ _ _ _ _ h2).2.1 hn1
      refine Cd.bind (leave_cd hn2) fun s3 a3 h3 => ?_
      have hn3 : s3.nx ≤ n := by have := leave_nx h3; omega
      trivial
    | blockL l =>
      rw [P_blockL]
      split
      · trivial
      · refine Cd.bind (ih _ _ hn0) fun s1 a1 h1 => ?_
        have hn1 : s1.nx ≤ n := (fr X n _ _ _ _ _ h1).2.1 hn0
        exact ih _ _ hn1
    | stmt =>
      rw [P_stmt]
      split
      · refine Cd.bind (take_cd hn0) fun s1 a1 h1 => ?_
        have hn1 : s1.nx ≤ n := by have := take_nx h1; omega
        refine Cd.bind (take_cd hn1) fun s2 a2 h2 => ?_
        have hn2 : s2.nx ≤ n := by have := take_nx h2; omega
        refine Cd.bind (ih _ _ hn2) fun s3 a3 h3 => ?_
        have hn3 : s3.nx ≤ n := (fr X n _ _ _ _ _ h3).2.1 hn2
        trivial
      · split
        · exact ih _ _ hn0
        · split
          · refine Cd.bind (take_cd hn0) fun s1 a1 h1 => ?_
            have hn1 : s1.nx ≤ n := by have := take_nx h1; omega
            exact ih _ _ hn1
          · split
            · refine Cd.bind (take_cd hn0) fun s1 a1 h1 => ?_
              have hn1 : s1.nx ≤ n := by have := take_nx h1; omega
              refine Cd.bind (ih _ _ hn1) fun s2 a2 h2 => ?_
              have hn2 : s2.nx ≤ n := (fr X n _ _ _ _ _ h2).2.1 hn1
              refine Cd.bind (ih _ _ hn2) fun s3 a3 h3 => ?_
              have hn3 : s3.nx ≤ n := (fr X n _ _ _ _ _ h3).2.1 hn2
              trivial
            · split
              · refine Cd.bind (take_cd hn0) fun s1 a1 h1 => ?_
                have hn1 : s1.nx ≤ n := by have := take_nx h1; omega
                trivial
              · split
                · refine Cd.bind (take_cd hn0) fun s1 a1 h1 => ?_
                  have hn1 : s1.nx ≤ n := by have := take_nx h1; omega
                  trivial
                · split
                  · refine Cd.bind (take_cd hn0) fun s1 a1 h1 => ?_
                    have hn1 : s1.nx ≤ n := by have := take_nx h1; omega
                    trivial
                  · split
                    · exact ih _ _ hn0
                    · split
                      · refine Cd.bind (take_cd hn0) fun s1 a1 h1 => ?_
                        have hn1 : s1.nx ≤ n := by have := take_nx h1; omega
                        refine Cd.bind (ih _ _ hn1) fun s2 a2 h2 => ?_
                        have hn2 : s2.nx ≤ n := (fr X n _ _ _ _ _ h2).2.1 hn1
                        trivial
                      · exact refu_cd hn0
    | set =>
      rw [P_set]
      refine Cd.bind (take_cd hn0) fun s1 a1 h1 => ?_
      have hn1 : s1.nx ≤ n := by have := take_nx h1; omega
      refine Cd.bind (ih _ _ hn1) fun s2 a2 h2 => ?_
      have hn2 : s2.nx ≤ n := (fr X n _ _ _ _ _ h2).2.1 hn1
      refine Cd.bind (ih _ _ hn2) fun s3 a3 h3 => ?_
      have hn3 : s3.nx ≤ n := (fr X n _ _ _ _ _ h3).2.1 hn2
      trivial
    | branch t =>
      rw [P_branch]
      refine Cd.bind (ih _ _ hn0) fun s1 a1 h1 => ?_
      have hn1 : s1.nx ≤ n := (fr X n _ _ _ _ _ h1).2.1 hn0
      refine Cd.bind (ih _ _ hn1) fun s2 a2 h2 => ?_
      have hn2 : s2.nx ≤ n := (fr X n _ _ _ _ _ h2).2.1 hn1
      split
      · refine Cd.bind (take_cd hn2) fun s3 a3 h3 => ?_
        have hn3 : s3.nx ≤ n := by have := take_nx h3; omega
        refine Cd.bind (ih _ _ hn3) fun s4 a4 h4 => ?_
        have hn4 : s4.nx ≤ n := (fr X n _ _ _ _ _ h4).2.1 hn3
        trivial
      · trivial
    | otherwise =>
      rw [P_otherwise]
      split
      · refine Cd.bind (enter_cd hn0) fun s1 a1 h1 => ?_
        have hn1 : s1.nx ≤ n := by have := enter_nx h1; omega
        refine Cd.bind (ih _ _ hn1) fun s2 a2 h2 => ?_
        have hn2 : s2.nx ≤ n := (fr X n _ _ _ _ _ h2).2.1 hn1
        trivial
      · exact ih _ _ hn0
    | send =>
      rw [P_send]
      refine Cd.bind (take_cd hn0) fun s1 a1 h1 => ?_
      have hn1 : s1.nx ≤ n := by have := take_nx h1; omega
      refine Cd.bind (take_cd hn1) fun s2 a2 h2 => ?_
      have hn2 : s2.nx ≤ n := by have := take_nx h2; omega
      refine Cd.bind (ih _ _ hn2) fun s3 a3 h3 => ?_
      have hn3 : s3.nx ≤ n := (fr X n _ _ _ _ _ h3).2.1 hn2
      refine Cd.bind (take_cd hn3) fun s4 a4 h4 => ?_
      have hn4 : s4.nx ≤ n := by have := take_nx h4; omega
      refine Cd.bind (ih _ _ hn4) fun s5 a5 h5 => ?_
      have hn5 : s5.nx ≤ n := (fr X n _ _ _ _ _ h5).2.1 hn4
      refine Cd.bind (take_cd hn5) fun s6 a6 h6 => ?_
      have hn6 : s6.nx ≤ n := by have := take_nx h6; omega
      refine Cd.bind (ih _ _ hn6) fun s7 a7 h7 => ?_
      have hn7 : s7.nx ≤ n := (fr X n _ _ _ _ _ h7).2.1 hn6
      trivial
end Go.Proofs.YtmekcccmnkgodaaGreatDoor
