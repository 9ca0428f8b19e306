import Derived.Test.YtmekcccmnkgodaaGreatDoorFGPZ
import Derived.Test.YtmekcccmnkgodaaGreatDoorFLMark
import Derived.Test.YtmekcccmnkgodaaGreatDoorFLJoin
import Derived.Test.YtmekcccmnkgodaaGreatDoorFSP1
import Derived.Test.YtmekcccmnkgodaaGreatDoorFGQ1
import Derived.Test.YtmekcccmnkgodaaGreatDoorFGI1
namespace Go.Proofs.YtmekcccmnkgodaaGreatDoor
open Go.ChangeShapes Go.WideShapes Go.ChangeAt Go.RowKit
set_option linter.unusedVariables false
set_option linter.unusedSimpArgs false
/-! ### an expression in brackets -/
/-- where it stands in the text with brackets -/
def BR (n : Nat) (s u : St) : Prop := u.nx = s.nx + 1 ∧ 3 ≤ s.nx ∧ s.nx ≤ n ∧ u.dp = s.dp + 1 ∧ s.md.map stp = u.md.map stp
theorem BR.dec {n : Nat} {s u : St} (h : BR n s u) (hd : 1 ≤ s.dp) : BR n ⟨s.nx, s.dp - 1, s.md⟩ ⟨u.nx, u.dp - 1, u.md⟩ := ⟨h.1, h.2.1, h.2.2.1, by show u.dp - 1 = s.dp - 1 + 1; rw [h.2.2.2.1]; omega, h.2.2.2.2⟩
def PrB {α : Type} (R : α → α → Prop) (n : Nat) : Pr α → Pr α → Prop
  | .out, _ => True
  | .bad _, _ => True
  | .ok s v, .ok u v' => BR n s u ∧ R v v'
  | .ok _ _, .bad e => e.code = 42
  | .ok _ _, .out => False
theorem PrB.bind {α β : Type} {R : α → α → Prop} {R' : β → β → Prop} {n : Nat} {a b : Pr α} {k k' : St → α → Pr β} (h : PrB R n a b) (hk : ∀ s v u v', a = .ok s v → b = .ok u v' → BR n s u → R v v' → PrB R' n (k s v) (k' u v')) : PrB R' n (a.bind k) (b.bind k') := by
  cases a with
  | out => trivial
  | bad e => trivial
  | ok s v =>
    cases b with
    | out => exact h.elim
    | bad e =>
      show PrB R' n (k s v) (.bad e)
      cases k s v with
      | out => trivial
      | bad e' => trivial
      | ok s' v' => exact h
    | ok u v' => exact hk s v u v' rfl rfl h.1 h.2
theorem kd_br {X X' : Nat → Tk} {n : Nat} (hX : ∀ i, 3 ≤ i → i < n → TkS (X i) (X' (i + 1))) {s u : St} (h : BR n s u) (hl : s.nx < n) : kd X n s = kd X' (n + 2) u := by
  have h1 := h.1
  unfold kd
  rw [if_neg (by omega), if_neg (by omega), h.1, (hX s.nx h.2.1 hl).kind]
theorem kd_two {X X' : Nat → Tk} {n : Nat} (hX : ∀ i, 3 ≤ i → i < n → TkS (X i) (X' (i + 1))) (hend : (X' (n + 1)).kind = 51) {s u : St} (h : BR n s u) : kd X n s = kd X' (n + 2) u ∨ (kd X n s = 0 ∧ kd X' (n + 2) u = 51) := by
  by_cases hl : s.nx < n
  · exact .inl (kd_br hX h hl)
  · have h1 := h.1
    have h3 := h.2.2.1
    refine .inr ⟨by unfold kd; rw [if_pos (by omega)], ?_⟩
    unfold kd
    rw [if_neg (by omega), show u.nx = n + 1 by omega]
    exact hend
theorem take_br {X X' : Nat → Tk} {n : Nat} (hX : ∀ i, 3 ≤ i → i < n → TkS (X i) (X' (i + 1))) {s u : St} (h : BR n s u) {k k' : Int} (hk : s.nx < n → k = k') : PrB TkS n (take X n k s) (take X' (n + 2) k' u) := by
  by_cases hl : s.nx < n
  · have h1 := h.1
    have hs := hX s.nx h.2.1 hl
    rw [← h.1] at hs
    obtain rfl := hk hl
    unfold take
    rw [← hs.kind, ← hs.text]
    by_cases q : (X s.nx).kind = k
    · rw [if_pos (show s.nx < n ∧ (X s.nx).kind = k from ⟨hl, q⟩), if_pos (show u.nx < n + 2 ∧ (X s.nx).kind = k from ⟨by omega, q⟩)]
      by_cases q2 : k = 1 ∧ wordP (X s.nx).text ≠ 1
      · rw [if_pos q2]; trivial
      · rw [if_neg q2, if_neg q2]
        exact ⟨⟨by show u.nx + 1 = s.nx + 1 + 1; omega, by show 3 ≤ s.nx + 1; have := h.2.1; omega, hl, h.2.2.2.1, h.2.2.2.2⟩, hs⟩
    · rw [if_neg (fun e => q e.2)]; trivial
  · unfold take
    rw [if_neg (fun e => hl e.1)]; trivial
theorem enter_br {X X' : Nat → Tk} {n : Nat} (hX : ∀ i, 3 ≤ i → i < n → TkS (X i) (X' (i + 1))) {s u : St} (h : BR n s u) {k k' : Int} (hk : s.nx < n → k = k') : PrB TkS n (enter X n k s) (enter X' (n + 2) k' u) := by
  unfold enter
  refine PrB.bind (take_br hX h hk) fun s1 a u1 b h1 k1 B1 hv => ?_
  by_cases q : 48 < s1.dp + 1
  · rw [if_pos q]; trivial
  · rw [if_neg q]
    by_cases q2 : 48 < u1.dp + 1
    · rw [if_pos q2]; exact (rfl : (42 : Int) = 42)
    · rw [if_neg q2]; exact ⟨⟨B1.1, B1.2.1, B1.2.2.1, by show u1.dp + 1 = s1.dp + 1 + 1; rw [B1.2.2.2.1], B1.2.2.2.2⟩, hv⟩
theorem leave_br {X X' : Nat → Tk} {n : Nat} (hX : ∀ i, 3 ≤ i → i < n → TkS (X i) (X' (i + 1))) {s u : St} (h : BR n s u) {k : Int} (hd : 1 ≤ s.dp) : PrB Eq n (leave X n k s) (leave X' (n + 2) k u) := by
  unfold leave
  refine PrB.bind (take_br hX h (fun _ => rfl)) fun s1 a u1 b h1 k1 B1 hv => ⟨B1.dec ?_, rfl⟩
  have := (take_nx h1).2.2.1
  omega
theorem add_br {n : Nat} {s u : St} (h : BR n s u) {a b : Tk} {kind : Int} {name : Bs} {num : Nat} {op : Int} {kids : List Nat} : PrB Eq n (add a kind name num op kids s) (add b kind name num op kids u) := by
  have hl : s.md.length = u.md.length := by have := congrArg List.length h.2.2.2.2; simpa using this
  refine ⟨⟨h.1, h.2.1, h.2.2.1, h.2.2.2.1, ?_⟩, ?_⟩
  · show (s.md ++ [_]).map stp = (u.md ++ [_]).map stp
    rw [List.map_append, List.map_append, h.2.2.2.2]
    rfl
  · show [s.md.length] = [u.md.length]
    rw [hl]
/-- the methods of expressions -/
def Mt.exq : Mt → Prop
  | .bin st => 1 ≤ st
  | .binL st _ => 1 ≤ st
  | .una => True
  | .atom => True
  | .named => True
  | .throw _ => True
  | .choice _ => True
  | .brack => True
  | .index => True
  | _ => False
set_option maxHeartbeats 4000000 in
theorem brP (X X' : Nat → Tk) (n : Nat) (hX : ∀ i, 3 ≤ i → i < n → TkS (X i) (X' (i + 1))) (hend : (X' (n + 1)).kind = 51) : ∀ (f : Nat) (m : Mt) (s u : St), m.exq → BR n s u → PrB Eq n (P X n f m s) (P X' (n + 2) f m u) := by
  intro f
  induction f with
  | zero => intro m s u _ _; trivial
  | succ f ih =>
    intro m s u hf B0
    cases m with
    | bin st =>
      rw [P_bin, P_bin]
      have hf1 : 1 ≤ st := hf
      by_cases q0_3 : st = 10
      · rw [if_pos q0_3, if_pos q0_3]
        exact ih _ _ _ (by first | trivial | (simp only [Mt.exq] at hf ⊢; omega)) B0 
      · rw [if_neg q0_3, if_neg q0_3]
        refine PrB.bind (ih _ _ _ (by first | trivial | (simp only [Mt.exq] at hf ⊢; omega)) B0) fun s1 a1 t1 b1 h1 k1 B1 hv1 => ?_
        subst hv1
        have g1 : s1.dp = s.dp := (fr X n _ _ _ _ _ h1).2.2.1
        exact ih _ _ _ (by first | trivial | (simp only [Mt.exq] at hf ⊢; omega)) B1 
    | binL st left =>
      rw [P_binL, P_binL]
      have hf1 : 1 ≤ st := hf
      rcases kd_two hX hend B0 with hk0 | ⟨hd0, he0⟩
      · by_cases q0_4 : bindsP (kd X' (n + 2) u) = st
        · rw [if_pos (by rw [hk0]; exact q0_4), if_pos q0_4]
          refine PrB.bind (take_br hX B0 (fun hl => (hk0))) fun s1 a1 t1 b1 h1 k1 B1 hv1 => ?_
          have g1 : s1.dp = s.dp := (take_nx h1).2.2.1
          refine PrB.bind (ih _ _ _ (by first | trivial | (simp only [Mt.exq] at hf ⊢; omega)) B1) fun s2 a2 t2 b2 h2 k2 B2 hv2 => ?_
          subst hv2
          have g2 : s2.dp = s1.dp := (fr X n _ _ _ _ _ h2).2.2.1
          rw [hv1.kind]
          refine PrB.bind (add_br B2 ) fun s3 a3 t3 b3 h3 k3 B3 hv3 => ?_
          subst hv3
          have g3 : s3.dp = s2.dp := (add_nx h3).2.1
          by_cases q3_5 : st = 3
          · rw [if_pos q3_5, if_pos q3_5]
            exact ⟨B3 , rfl⟩
          · rw [if_neg q3_5, if_neg q3_5]
            exact ih _ _ _ (by first | trivial | (simp only [Mt.exq] at hf ⊢; omega)) B3 
        · rw [if_neg (by rw [hk0]; exact q0_4), if_neg q0_4]
          exact ⟨B0 , rfl⟩
      · rw [if_neg (show ¬ (bindsP (kd X n s) = st) from (by rw [hd0]; intro e; have : bindsP 0 = 0 := rfl; omega)), if_neg (show ¬ (bindsP (kd X' (n + 2) u) = st) from (by rw [he0]; intro e; have : bindsP 51 = 0 := rfl; omega))]
        exact ⟨B0 , rfl⟩
    | una =>
      rw [P_una, P_una]
      rcases kd_two hX hend B0 with hk0 | ⟨hd0, he0⟩
      · by_cases q0_4 : isUn (kd X' (n + 2) u) = true
        · rw [if_pos (by rw [hk0]; exact q0_4), if_pos q0_4]
          refine PrB.bind (enter_br hX B0 (fun hl => (hk0))) fun s1 a1 t1 b1 h1 k1 B1 hv1 => ?_
          have g1 : s1.dp = s.dp + 1 := (enter_nx h1).2.2.1
          refine PrB.bind (ih _ _ _ (by first | trivial | (simp only [Mt.exq] at hf ⊢; omega)) B1) fun s2 a2 t2 b2 h2 k2 B2 hv2 => ?_
          subst hv2
          have g2 : s2.dp = s1.dp := (fr X n _ _ _ _ _ h2).2.2.1
          have B2d := B2.dec (by omega)
          rw [hv1.kind]
          exact add_br B2d 
        · rw [if_neg (by rw [hk0]; exact q0_4), if_neg q0_4]
          exact ih _ _ _ (by first | trivial | (simp only [Mt.exq] at hf ⊢; omega)) B0 
      · rw [if_neg (show ¬ (isUn (kd X n s) = true) from (by rw [hd0]; decide)), if_neg (show ¬ (isUn (kd X' (n + 2) u) = true) from (by rw [he0]; decide))]
        exact ih _ _ _ (by first | trivial | (simp only [Mt.exq] at hf ⊢; omega)) B0 
    | atom =>
      rw [P_atom, P_atom]
      rcases kd_two hX hend B0 with hk0 | ⟨hd0, he0⟩
      · by_cases q0_4 : kd X' (n + 2) u = 2
        · rw [if_pos (by rw [hk0]; exact q0_4), if_pos q0_4]
          refine PrB.bind (take_br hX B0 (fun _ => rfl)) fun s1 a1 t1 b1 h1 k1 B1 hv1 => ?_
          have g1 : s1.dp = s.dp := (take_nx h1).2.2.1
          rw [hv1.num]
          exact add_br B1 
        · rw [if_neg (by rw [hk0]; exact q0_4), if_neg q0_4]
          by_cases q0_5 : kd X' (n + 2) u = 1
          · rw [if_pos (by rw [hk0]; exact q0_5), if_pos q0_5]
            exact ih _ _ _ (by first | trivial | (simp only [Mt.exq] at hf ⊢; omega)) B0 
          · rw [if_neg (by rw [hk0]; exact q0_5), if_neg q0_5]
            by_cases q0_6 : kd X' (n + 2) u = 34
            · rw [if_pos (by rw [hk0]; exact q0_6), if_pos q0_6]
              refine PrB.bind (take_br hX B0 (fun _ => rfl)) fun s1 a1 t1 b1 h1 k1 B1 hv1 => ?_
              have g1 : s1.dp = s.dp := (take_nx h1).2.2.1
              exact add_br B1 
            · rw [if_neg (by rw [hk0]; exact q0_6), if_neg q0_6]
              by_cases q0_7 : kd X' (n + 2) u = 35
              · rw [if_pos (by rw [hk0]; exact q0_7), if_pos q0_7]
                refine PrB.bind (take_br hX B0 (fun _ => rfl)) fun s1 a1 t1 b1 h1 k1 B1 hv1 => ?_
                have g1 : s1.dp = s.dp := (take_nx h1).2.2.1
                exact add_br B1 
              · rw [if_neg (by rw [hk0]; exact q0_7), if_neg q0_7]
                by_cases q0_8 : kd X' (n + 2) u = 36
                · rw [if_pos (by rw [hk0]; exact q0_8), if_pos q0_8]
                  refine PrB.bind (take_br hX B0 (fun _ => rfl)) fun s1 a1 t1 b1 h1 k1 B1 hv1 => ?_
                  have g1 : s1.dp = s.dp := (take_nx h1).2.2.1
                  exact add_br B1 
                · rw [if_neg (by rw [hk0]; exact q0_8), if_neg q0_8]
                  by_cases q0_9 : kd X' (n + 2) u = 37
                  · rw [if_pos (by rw [hk0]; exact q0_9), if_pos q0_9]
                    exact ih _ _ _ (by first | trivial | (simp only [Mt.exq] at hf ⊢; omega)) B0 
                  · rw [if_neg (by rw [hk0]; exact q0_9), if_neg q0_9]
                    by_cases q0_10 : kd X' (n + 2) u = 40
                    · rw [if_pos (by rw [hk0]; exact q0_10), if_pos q0_10]
                      exact ih _ _ _ (by first | trivial | (simp only [Mt.exq] at hf ⊢; omega)) B0 
                    · rw [if_neg (by rw [hk0]; exact q0_10), if_neg q0_10]
                      by_cases q0_11 : kd X' (n + 2) u = 38
                      · rw [if_pos (by rw [hk0]; exact q0_11), if_pos q0_11]
                        exact ih _ _ _ (by first | trivial | (simp only [Mt.exq] at hf ⊢; omega)) B0 
                      · rw [if_neg (by rw [hk0]; exact q0_11), if_neg q0_11]
                        by_cases q0_12 : kd X' (n + 2) u = 39
                        · rw [if_pos (by rw [hk0]; exact q0_12), if_pos q0_12]
                          exact ih _ _ _ (by first | trivial | (simp only [Mt.exq] at hf ⊢; omega)) B0 
                        · rw [if_neg (by rw [hk0]; exact q0_12), if_neg q0_12]
                          by_cases q0_13 : kd X' (n + 2) u = 50
                          · rw [if_pos (by rw [hk0]; exact q0_13), if_pos q0_13]
                            exact ih _ _ _ (by first | trivial | (simp only [Mt.exq] at hf ⊢; omega)) B0 
                          · rw [if_neg (by rw [hk0]; exact q0_13), if_neg q0_13]
                            trivial
      · rw [if_neg (show ¬ (kd X n s = 2) from (by rw [hd0]; omega)), if_neg (show ¬ (kd X' (n + 2) u = 2) from (by rw [he0]; omega))]
        rw [if_neg (show ¬ (kd X n s = 1) from (by rw [hd0]; omega)), if_neg (show ¬ (kd X' (n + 2) u = 1) from (by rw [he0]; omega))]
        rw [if_neg (show ¬ (kd X n s = 34) from (by rw [hd0]; omega)), if_neg (show ¬ (kd X' (n + 2) u = 34) from (by rw [he0]; omega))]
        rw [if_neg (show ¬ (kd X n s = 35) from (by rw [hd0]; omega)), if_neg (show ¬ (kd X' (n + 2) u = 35) from (by rw [he0]; omega))]
        rw [if_neg (show ¬ (kd X n s = 36) from (by rw [hd0]; omega)), if_neg (show ¬ (kd X' (n + 2) u = 36) from (by rw [he0]; omega))]
        rw [if_neg (show ¬ (kd X n s = 37) from (by rw [hd0]; omega)), if_neg (show ¬ (kd X' (n + 2) u = 37) from (by rw [he0]; omega))]
        rw [if_neg (show ¬ (kd X n s = 40) from (by rw [hd0]; omega)), if_neg (show ¬ (kd X' (n + 2) u = 40) from (by rw [he0]; omega))]
        rw [if_neg (show ¬ (kd X n s = 38) from (by rw [hd0]; omega)), if_neg (show ¬ (kd X' (n + 2) u = 38) from (by rw [he0]; omega))]
        rw [if_neg (show ¬ (kd X n s = 39) from (by rw [hd0]; omega)), if_neg (show ¬ (kd X' (n + 2) u = 39) from (by rw [he0]; omega))]
        rw [if_neg (show ¬ (kd X n s = 50) from (by rw [hd0]; omega)), if_neg (show ¬ (kd X' (n + 2) u = 50) from (by rw [he0]; omega))]
        trivial
    | named =>
      rw [P_named, P_named]
      refine PrB.bind (take_br hX B0 (fun _ => rfl)) fun s1 a1 t1 b1 h1 k1 B1 hv1 => ?_
      have g1 : s1.dp = s.dp := (take_nx h1).2.2.1
      refine PrB.bind (ih _ _ _ (by first | trivial | (simp only [Mt.exq] at hf ⊢; omega)) B1) fun s2 a2 t2 b2 h2 k2 B2 hv2 => ?_
      subst hv2
      have g2 : s2.dp = s1.dp := (fr X n _ _ _ _ _ h2).2.2.1
      rw [hv1.text]
      exact add_br B2 
    | throw q =>
      rw [P_throw, P_throw]
      refine PrB.bind (take_br hX B0 (fun hl => ((kd_br hX B0 hl)))) fun s1 a1 t1 b1 h1 k1 B1 hv1 => ?_
      have g1 : s1.dp = s.dp := (take_nx h1).2.2.1
      refine PrB.bind (ih _ _ _ (by first | trivial | (simp only [Mt.exq] at hf ⊢; omega)) B1) fun s2 a2 t2 b2 h2 k2 B2 hv2 => ?_
      subst hv2
      have g2 : s2.dp = s1.dp := (fr X n _ _ _ _ _ h2).2.2.1
      exact add_br B2 
    | choice q =>
      rw [P_choice, P_choice]
      refine PrB.bind (take_br hX B0 (fun hl => ((kd_br hX B0 hl)))) fun s1 a1 t1 b1 h1 k1 B1 hv1 => ?_
      have g1 : s1.dp = s.dp := (take_nx h1).2.2.1
      refine PrB.bind (enter_br hX B1 (fun _ => rfl)) fun s2 a2 t2 b2 h2 k2 B2 hv2 => ?_
      have g2 : s2.dp = s1.dp + 1 := (enter_nx h2).2.2.1
      refine PrB.bind (ih _ _ _ (by first | trivial | (simp only [Mt.exq] at hf ⊢; omega)) B2) fun s3 a3 t3 b3 h3 k3 B3 hv3 => ?_
      subst hv3
      have g3 : s3.dp = s2.dp := (fr X n _ _ _ _ _ h3).2.2.1
      refine PrB.bind (take_br hX B3 (fun _ => rfl)) fun s4 a4 t4 b4 h4 k4 B4 hv4 => ?_
      have g4 : s4.dp = s3.dp := (take_nx h4).2.2.1
      refine PrB.bind (ih _ _ _ (by first | trivial | (simp only [Mt.exq] at hf ⊢; omega)) B4) fun s5 a5 t5 b5 h5 k5 B5 hv5 => ?_
      subst hv5
      have g5 : s5.dp = s4.dp := (fr X n _ _ _ _ _ h5).2.2.1
      refine PrB.bind (leave_br hX B5 (by omega)) fun s6 a6 t6 b6 h6 k6 B6 hv6 => ?_
      subst hv6
      have g6 : s6.dp = s5.dp - 1 := (leave_nx h6).2.2.1
      exact add_br B6 
    | brack =>
      rw [P_brack, P_brack]
      refine PrB.bind (enter_br hX B0 (fun _ => rfl)) fun s1 a1 t1 b1 h1 k1 B1 hv1 => ?_
      have g1 : s1.dp = s.dp + 1 := (enter_nx h1).2.2.1
      refine PrB.bind (ih _ _ _ (by first | trivial | (simp only [Mt.exq] at hf ⊢; omega)) B1) fun s2 a2 t2 b2 h2 k2 B2 hv2 => ?_
      subst hv2
      have g2 : s2.dp = s1.dp := (fr X n _ _ _ _ _ h2).2.2.1
      refine PrB.bind (leave_br hX B2 (by omega)) fun s3 a3 t3 b3 h3 k3 B3 hv3 => ?_
      subst hv3
      have g3 : s3.dp = s2.dp - 1 := (leave_nx h3).2.2.1
      exact ⟨B3 , rfl⟩
    | index =>
      rw [P_index, P_index]
      rcases kd_two hX hend B0 with hk0 | ⟨hd0, he0⟩
      · by_cases q0_4 : kd X' (n + 2) u = 52
        · rw [if_pos (by rw [hk0]; exact q0_4), if_pos q0_4]
          refine PrB.bind (enter_br hX B0 (fun _ => rfl)) fun s1 a1 t1 b1 h1 k1 B1 hv1 => ?_
          have g1 : s1.dp = s.dp + 1 := (enter_nx h1).2.2.1
          refine PrB.bind (ih _ _ _ (by first | trivial | (simp only [Mt.exq] at hf ⊢; omega)) B1) fun s2 a2 t2 b2 h2 k2 B2 hv2 => ?_
          subst hv2
          have g2 : s2.dp = s1.dp := (fr X n _ _ _ _ _ h2).2.2.1
          refine PrB.bind (leave_br hX B2 (by omega)) fun s3 a3 t3 b3 h3 k3 B3 hv3 => ?_
          subst hv3
          have g3 : s3.dp = s2.dp - 1 := (leave_nx h3).2.2.1
          exact ⟨B3 , rfl⟩
        · rw [if_neg (by rw [hk0]; exact q0_4), if_neg q0_4]
          exact ⟨B0 , rfl⟩
      · rw [if_neg (show ¬ (kd X n s = 52) from (by rw [hd0]; omega)), if_neg (show ¬ (kd X' (n + 2) u = 52) from (by rw [he0]; omega))]
        exact ⟨B0 , rfl⟩
    | value => exact hf.elim
    | name q => exact hf.elim
    | scene => exact hf.elim
    | sceneL l => exact hf.elim
    | item => exact hf.elim
    | setting => exact hf.elim
    | constant => exact hf.elim
    | kinds => exact hf.elim
    | kindsL l => exact hf.elim
    | ptype => exact hf.elim
    | memL l => exact hf.elim
    | member => exact hf.elim
    | vari => exact hf.elim
    | handler => exact hf.elim
    | place => exact hf.elim
    | gives => exact hf.elim
    | givesL l => exact hf.elim
    | give => exact hf.elim
    | start => exact hf.elim
    | block => exact hf.elim
    | blockL l => exact hf.elim
    | stmt => exact hf.elim
    | set => exact hf.elim
    | branch t => exact hf.elim
    | otherwise => exact hf.elim
    | send => exact hf.elim
end Go.Proofs.YtmekcccmnkgodaaGreatDoor
namespace Go.Proofs.YtmekcccmnkgodaaGreatDoor
open Go.ChangeShapes Go.WideShapes Go.ChangeAt Go.RowKit
set_option linter.unusedVariables false
set_option linter.unusedSimpArgs false
/-! ### the same text elsewhere: the same tokens elsewhere -/
theorem scan_like : ∀ (n : Nat) (s : Bs) (l c cnt l' c' cnt' : Nat), s.length ≤ n → (scan s l c cnt).2 = none → ((scan s l' c' cnt').2 = none ∧ (scan s l' c' cnt').1.length = (scan s l c cnt).1.length ∧ ∀ i, TkS ((scan s l c cnt).1.getD i nT) ((scan s l' c' cnt').1.getD i nT)) ∨ (∃ er, (scan s l' c' cnt').2 = some er ∧ er.code = 34) := by
  intro n
  induction n with
  | zero =>
    intro s l c cnt l' c' cnt' hs h
    obtain rfl : s = [] := List.length_eq_zero_iff.1 (by omega)
    rw [scan_nil, scan_nil]
    exact .inl ⟨rfl, rfl, fun i => TkS.rfl _⟩
  | succ n ih =>
    intro s l c cnt l' c' cnt' hs h
    cases s with
    | nil =>
      rw [scan_nil, scan_nil]
      exact .inl ⟨rfl, rfl, fun i => TkS.rfl _⟩
    | cons x r =>
      simp only [List.length_cons] at hs
      rw [scan] at h
      rw [scan, scan]
      by_cases h1 : x.toNat = 10
      · rw [if_pos h1] at h
        rw [if_pos h1, if_pos h1]
        exact ih r _ _ _ _ _ _ (by omega) h
      · rw [if_neg h1] at h
        rw [if_neg h1, if_neg h1]
        by_cases h2 : x.toNat = 32 ∨ x.toNat = 9 ∨ x.toNat = 13
        · rw [if_pos h2] at h
          rw [if_pos h2, if_pos h2]
          exact ih r _ _ _ _ _ _ (by omega) h
        · rw [if_neg h2] at h
          rw [if_neg h2, if_neg h2]
          by_cases h3 : x.toNat = 35
          · rw [if_pos h3] at h
            rw [if_pos h3, if_pos h3]
            exact ih _ _ _ _ _ _ _ (by rw [List.length_drop]; omega) h
          · rw [if_neg h3] at h
            rw [if_neg h3, if_neg h3]
            cases hr : rd (x :: r) with
            | err e =>
              rw [hr] at h
              cases h
            | ok k t v =>
              rw [hr] at h
              dsimp only at h ⊢
              by_cases q : cnt = 16384
              · rw [if_pos q] at h
                cases h
              · rw [if_neg q] at h
                rw [if_neg q]
                dsimp only at h
                by_cases q' : cnt' = 16384
                · rw [if_pos q']
                  exact .inr ⟨_, rfl, rfl⟩
                · rw [if_neg q']
                  dsimp only
                  rcases ih (r.drop (t.length - 1)) _ _ _ l' (c' + t.length) (cnt' + 1) (by rw [List.length_drop]; omega) h with ⟨g1, g2, g3⟩ | g
                  · refine .inl ⟨g1, by simp only [List.length_cons, g2], fun i => ?_⟩
                    cases i with
                    | zero => exact ⟨rfl, rfl, rfl⟩
                    | succ i => exact g3 i
                  · exact .inr g
theorem rd_open (r : Bs) : rd (40 :: r) = .ok 50 [40] 0 := by
  cases r with
  | nil => kernel_rfl
  | cons d r =>
    have h : markL (40 :: d :: r) = 1 := by
      show (if ((40 : UInt8).toNat = 60 ∨ (40 : UInt8).toNat = 62 ∨ (40 : UInt8).toNat = 124 ∨ (40 : UInt8).toNat = 38) ∧ d.toNat = (40 : UInt8).toNat then 2 else if ((40 : UInt8).toNat = 60 ∨ (40 : UInt8).toNat = 62 ∨ (40 : UInt8).toNat = 61 ∨ (40 : UInt8).toNat = 33) ∧ d.toNat = 61 then 2 else 1) = 1
      rw [if_neg (fun h => absurd h.1 (by decide)), if_neg (fun h => absurd h.1 (by decide))]
    unfold rd
    rw [if_neg (by show ¬ pL 40 = true; decide), if_neg (by show ¬ pD 40 = true; decide), h]
    show (if markK [40] = 0 then _ else _) = _
    rw [if_neg (by decide +kernel)]
    show Rd.ok (markK [40]) [40] 0 = _
    rw [show markK [40] = 50 by decide +kernel]
def cPre : Bs := [99, 111, 110, 115, 116, 32, 65, 32, 61, 32]
def cTk : List Tk := [⟨15, [99, 111, 110, 115, 116], 0, 1, 1⟩, ⟨1, [65], 0, 1, 7⟩, ⟨58, [61], 0, 1, 9⟩]
theorem scan_pre (e : Bs) : scan (cPre ++ e) 1 1 0 = (cTk ++ (scan e 1 11 3).1, (scan e 1 11 3).2) := by
  have r1 : rd ([99, 111, 110, 115, 116] ++ 32 :: ([65, 32, 61, 32] ++ e)) = .ok 15 [99, 111, 110, 115, 116] 0 := rd_one _ (by decide) _ _ _ _ (by kernel_rfl)
  have r2 : rd ([65] ++ 32 :: ([61, 32] ++ e)) = .ok 1 [65] 0 := rd_one _ (by decide) _ _ _ _ (by kernel_rfl)
  have r3 : rd ([61] ++ 32 :: e) = .ok 58 [61] 0 := rd_one _ (by decide) _ _ _ _ (by kernel_rfl)
  show scan (99 :: 111 :: 110 :: 115 :: 116 :: 32 :: 65 :: 32 :: 61 :: 32 :: e) 1 1 0 = _
  rw [scan_ok 99 (111 :: 110 :: 115 :: 116 :: 32 :: 65 :: 32 :: 61 :: 32 :: e) 1 1 0 15 0 [99, 111, 110, 115, 116] (by refine ⟨?_, ?_, ?_, ?_, ?_⟩ <;> decide) r1 (by omega)]
  show (_ :: (scan (32 :: 65 :: 32 :: 61 :: 32 :: e) 1 6 1).1, (scan (32 :: 65 :: 32 :: 61 :: 32 :: e) 1 6 1).2) = _
  rw [scan_bl 32 _ _ _ _ (.inl rfl)]
  rw [scan_ok 65 (32 :: 61 :: 32 :: e) 1 7 1 1 0 [65] (by refine ⟨?_, ?_, ?_, ?_, ?_⟩ <;> decide) r2 (by omega)]
  show (_ :: _ :: (scan (32 :: 61 :: 32 :: e) 1 8 2).1, (scan (32 :: 61 :: 32 :: e) 1 8 2).2) = _
  rw [scan_bl 32 _ _ _ _ (.inl rfl)]
  rw [scan_ok 61 (32 :: e) 1 9 2 58 0 [61] (by refine ⟨?_, ?_, ?_, ?_, ?_⟩ <;> decide) r3 (by omega)]
  show (_ :: _ :: _ :: (scan (32 :: e) 1 10 3).1, (scan (32 :: e) 1 10 3).2) = _
  rw [scan_bl 32 _ _ _ _ (.inl rfl)]
  rfl
/-- the text and the text with brackets -/
theorem scan_two (e : Bs) (ts : List Tk) (h : scanT (cPre ++ e ++ [10]) = (ts, none)) :
    (∃ er, (scanT (cPre ++ 40 :: e ++ [10, 41])).2 = some er ∧ (er.code = 34 ∨ er.code = 30)) ∨
    ∃ us, scanT (cPre ++ 40 :: e ++ [10, 41]) = (us, none) ∧ us.length = ts.length + 2 ∧ 3 ≤ ts.length ∧
      (∀ i, i < 3 → ts.getD i nT = cTk.getD i nT) ∧ (∀ i, i < 3 → us.getD i nT = cTk.getD i nT) ∧ (us.getD 3 nT).kind = 50 ∧ (us.getD (ts.length + 1) nT).kind = 51 ∧ ∀ i, 3 ≤ i → i < ts.length → TkS (ts.getD i nT) (us.getD (i + 1) nT) := by
  by_cases hl : (cPre ++ 40 :: e ++ [10, 41]).length ≤ 65536
  · have hl0 : (cPre ++ e ++ [10]).length ≤ 65536 := by simp only [List.length_append, List.length_cons, List.length_nil] at hl ⊢; omega
    have hf : ∀ src : Bs, src.length ≤ 65536 → scanT src = scan src 1 1 0 := fun src h => by unfold scanT; rw [if_neg (by omega)]
    rw [hf _ hl0, List.append_assoc, scan_pre] at h
    rw [hf _ hl, List.append_assoc, scan_pre]
    have e1 : e ++ [10] = e ++ 10 :: [] := rfl
    rw [e1, scan_join] at h
    cases h0 : (scan e 1 11 3).2 with
    | some er => rw [h0] at h; dsimp only at h; rw [h0] at h; cases h
    | none =>
      rw [h0] at h
      dsimp only at h
      rw [scan_nil] at h
      injection h with h _
      have ets : ts = cTk ++ (scan e 1 11 3).1 := by rw [← h]; simp
      have e2 : 40 :: e ++ [10, 41] = 40 :: (e ++ 10 :: [41]) := rfl
      rw [e2, scan_ok 40 _ 1 11 3 50 0 [40] (by refine ⟨?_, ?_, ?_, ?_, ?_⟩ <;> decide) (rd_open _) (by omega)]
      show (∃ er, (scan (e ++ 10 :: [41]) 1 12 4).2 = some er ∧ _) ∨ ∃ us, (cTk ++ (⟨50, [40], 0, 1, 11⟩ :: (scan (e ++ 10 :: [41]) 1 12 4).1), (scan (e ++ 10 :: [41]) 1 12 4).2) = (us, none) ∧ _
      rw [scan_join]
      rcases scan_like e.length e 1 11 3 1 12 4 (Nat.le_refl _) h0 with ⟨g1, g2, g3⟩ | ⟨er, g1, g2⟩
      · rw [g1]
        dsimp only
        rw [scan]
        rw [if_neg (by decide), if_neg (by decide), if_neg (by decide), show rd [41] = .ok 51 [41] 0 by kernel_rfl]
        dsimp only
        by_cases q : 4 + (scan e 1 12 4).1.length = 16384
        · rw [if_pos q]
          exact .inl ⟨_, rfl, .inl rfl⟩
        · rw [if_neg q]
          have ed : ∀ a b c, scan (List.drop (([41] : Bs).length - 1) []) a b c = ([], none) := fun a b c => scan_nil a b c
          rw [ed]
          refine .inr ⟨_, rfl, ?_, ?_, ?_, ?_, rfl, ?_, ?_⟩
          · rw [ets]; simp only [List.length_append, List.length_cons, List.length_nil, g2, cTk]; omega
          · rw [ets]; simp only [List.length_append, List.length_cons, List.length_nil, cTk]; omega
          · intro i hi
            rw [ets, List.getD_eq_getElem?_getD, List.getElem?_append_left (by simpa [cTk] using hi)]
            rfl
          · intro i hi
            rw [List.getD_eq_getElem?_getD, List.getElem?_append_left (by simpa [cTk] using hi)]
            rfl
          · have ln : ts.length = 3 + (scan e 1 12 4).1.length := by rw [ets, List.length_append, g2]; rfl
            rw [List.getD_eq_getElem?_getD, List.getElem?_append_right (by rw [ln]; simp [cTk]; omega), ln]
            rw [show 3 + (scan e 1 12 4).1.length + 1 - cTk.length = (scan e 1 12 4).1.length + 1 by simp [cTk]; omega, List.getElem?_cons_succ, List.getElem?_append_right (Nat.le_refl _)]
            simp
          · intro i h3 hi
            have ln : ts.length = 3 + (scan e 1 11 3).1.length := by rw [ets, List.length_append]; rfl
            obtain ⟨j, rfl⟩ : ∃ j, i = j + 3 := ⟨i - 3, by omega⟩
            have a1 : ts.getD (j + 3) nT = (scan e 1 11 3).1.getD j nT := by
              rw [ets, List.getD_eq_getElem?_getD, List.getElem?_append_right (by simp [cTk]), List.getD_eq_getElem?_getD]
              rfl
            rw [a1]
            have a2 : ∀ (x : Tk) (A B : List Tk), j < A.length → (cTk ++ x :: (A ++ B)).getD (j + 3 + 1) nT = A.getD j nT := fun x A B hA => by
              rw [List.getD_eq_getElem?_getD, List.getElem?_append_right (by simp [cTk])]
              rw [show j + 3 + 1 - cTk.length = j + 1 by simp [cTk], List.getElem?_cons_succ, List.getElem?_append_left hA, ← List.getD_eq_getElem?_getD]
            rw [a2 _ _ _ (by rw [g2]; omega)]
            exact g3 j
      · rw [g1]
        dsimp only
        rw [g1]
        exact .inl ⟨er, rfl, .inl g2⟩
  · refine .inl ⟨⟨30, 1, 1⟩, ?_, .inr rfl⟩
    unfold scanT
    rw [if_pos (by omega)]
end Go.Proofs.YtmekcccmnkgodaaGreatDoor
namespace Go.Proofs.YtmekcccmnkgodaaGreatDoor
open Go.ChangeShapes Go.WideShapes Go.ChangeAt Go.RowKit
set_option linter.unusedVariables false
set_option linter.unusedSimpArgs false
theorem take_yes {X : Nat → Tk} {n : Nat} {k : Int} {s : St} (h : s.nx < n) (hk : (X s.nx).kind = k) (hw : k ≠ 1 ∨ wordP (X s.nx).text = 1) : take X n k s = .ok ⟨s.nx + 1, s.dp, s.md⟩ (X s.nx) := by
  unfold take
  rw [if_pos ⟨h, hk⟩, if_neg]
  rintro ⟨h1, h2⟩
  rcases hw with h3 | h3
  · exact h3 h1
  · exact h2 h3
theorem bin_up {X : Nat → Tk} {n g : Nat} {u u2 : St} {v : List Nat} (h2 : u2.nx = n) (hv : v = [hd v]) (h : P X n (g + 1) .una u = .ok u2 v) : ∀ (d st : Nat), st + d = 10 → 1 ≤ st → P X n (g + 2 + d) (.bin st) u = .ok u2 v := by
  intro d
  induction d with
  | zero =>
    intro st hs h1
    rw [show g + 2 + 0 = (g + 1) + 1 from rfl, P_bin, if_pos (by omega)]
    exact h
  | succ d ih =>
    intro st hs h1
    rw [show g + 2 + (d + 1) = (g + 2 + d) + 1 from rfl, P_bin, if_neg (by omega), ih (st + 1) (by omega) (by omega)]
    show P X n (g + 2 + d) (.binL st (hd v)) u2 = _
    rw [show g + 2 + d = (g + 1 + d) + 1 by omega, P_binL, if_neg (by rw [kd_end h2]; intro e; have : bindsP 0 = 0 := rfl; omega), ← hv]
theorem bin_bad {X : Nat → Tk} {n g : Nat} {u : St} {e : Pe} (h : P X n (g + 1) .una u = .bad e) : ∀ (d st : Nat), st + d = 10 → 1 ≤ st → P X n (g + 2 + d) (.bin st) u = .bad e := by
  intro d
  induction d with
  | zero =>
    intro st hs h1
    rw [show g + 2 + 0 = (g + 1) + 1 from rfl, P_bin, if_pos (by omega)]
    exact h
  | succ d ih =>
    intro st hs h1
    rw [show g + 2 + (d + 1) = (g + 2 + d) + 1 from rfl, P_bin, if_neg (by omega), ih (st + 1) (by omega) (by omega)]
    rfl
theorem scene_kids (X : Nat → Tk) (n : Nat) : ∀ (f : Nat) (l : List Nat) (s s' : St) (v : List Nat), P X n f (.sceneL l) s = .ok s' v → ∃ d, s'.md[hd v]? = some d ∧ l.length ≤ d.kids.length := by
  intro f
  induction f with
  | zero => intro l s s' v h; cases h
  | succ f ih =>
    intro l s s' v h
    rw [P_sceneL] at h
    split at h
    · obtain ⟨s1, a1, h1, h⟩ := bind_ok h
      obtain ⟨d, h2, h3⟩ := ih _ _ _ _ h
      exact ⟨d, h2, by simp only [List.length_append, List.length_cons, List.length_nil] at h3; omega⟩
    · obtain ⟨e1, e2⟩ := add_md h
      refine ⟨⟨1, [], 0, 0, l, 1, 1⟩, ?_, Nat.le_refl _⟩
      rw [e1, e2]
      show (s.md ++ [_])[s.md.length]? = _
      simp
def cNd (a : List Nat) : Nd := ⟨3, [65], 0, 0, [hd a], 1, 1⟩
def sNd (k : Nat) : Nd := ⟨1, [], 0, 0, [k], 1, 1⟩
/-- a constant: as far as its value -/
theorem con_eq (X : Nat → Tk) (n f : Nat) (hn : 3 ≤ n) (hX : ∀ i, i < 3 → X i = cTk.getD i nT) : P X n (f + 3) .item ⟨0, 0, []⟩ = (P X n f (.bin 1) ⟨3, 0, []⟩).bind fun s3 a => .ok ⟨s3.nx, s3.dp, s3.md ++ [cNd a]⟩ [s3.md.length] := by
  have k0 : kd X n ⟨0, 0, []⟩ = 15 := by unfold kd; rw [if_neg (by show ¬ (0 = n); omega), show X (⟨0, 0, []⟩ : St).nx = _ from hX 0 (by omega)]; rfl
  have t0 : take X n 15 ⟨0, 0, []⟩ = .ok ⟨1, 0, []⟩ (cTk.getD 0 nT) := by rw [← hX 0 (by omega)]; exact take_yes (by show 0 < n; omega) (by rw [hX 0 (by omega)]; rfl) (.inl (by decide))
  have t1 : take X n 1 ⟨1, 0, []⟩ = .ok ⟨2, 0, []⟩ (cTk.getD 1 nT) := by rw [← hX 1 (by omega)]; exact take_yes (by show 1 < n; omega) (by rw [hX 1 (by omega)]; rfl) (.inr (by rw [show X (⟨1, 0, []⟩ : St).nx = _ from hX 1 (by omega)]; decide +kernel))
  have t2 : take X n 58 ⟨2, 0, []⟩ = .ok ⟨3, 0, []⟩ (cTk.getD 2 nT) := by rw [← hX 2 (by omega)]; exact take_yes (by show 2 < n; omega) (by rw [hX 2 (by omega)]; rfl) (.inl (by decide))
  rw [P_item, k0, if_neg (by omega), if_pos rfl, P_constant, t0]
  show (take X n 1 ⟨1, 0, []⟩).bind _ = _
  rw [t1]
  show (P X n (f + 1) .value ⟨2, 0, []⟩).bind _ = _
  rw [P_value, t2]
  rfl
theorem con_ok {X : Nat → Tk} {n f : Nat} (hn : 3 ≤ n) (hX : ∀ i, i < 3 → X i = cTk.getD i nT) {s : St} {v : List Nat} (h : P X n (f + 5) .scene ⟨0, 0, []⟩ = .ok s v) (hone : ∀ d, s.md[hd v]? = some d → d.kids.length = 1) :
    ∃ s3 a, P X n f (.bin 1) ⟨3, 0, []⟩ = .ok s3 a ∧ s3.nx = n ∧ s.md = s3.md ++ [cNd a] ++ [sNd s3.md.length] ∧ v = [s3.md.length + 1] := by
  rw [P_scene, P_sceneL, if_pos (by show 0 < n; omega), con_eq X n f hn hX] at h
  obtain ⟨s1, a1, h1, h⟩ := bind_ok h
  obtain ⟨s3, a, h3, h4⟩ := bind_ok h1
  injection h4 with e1 e2
  subst e1 e2
  have hle : s3.nx ≤ n := (fr X n _ _ _ _ _ h3).2.1 (show 3 ≤ n from hn)
  rw [P_sceneL] at h
  by_cases q : s3.nx < n
  · rw [if_pos q] at h
    obtain ⟨s5, a5, h5, h⟩ := bind_ok h
    obtain ⟨d, h6, h7⟩ := scene_kids X n _ _ _ _ _ h
    have := hone d h6
    simp only [List.length_append, List.length_cons, List.length_nil] at h7
    omega
  · rw [if_neg q] at h
    obtain ⟨e1, e2⟩ := add_md h
    refine ⟨s3, a, h3, by omega, e1, ?_⟩
    rw [e2]
    show [(s3.md ++ [_]).length] = _
    simp
/-- BRACKETS AROUND A WHOLE EXPRESSION MEAN NOTHING -/
theorem brack_law {X X' : Nat → Tk} {n f : Nat} (hn : 3 ≤ n) (hX : ∀ i, i < 3 → X i = cTk.getD i nT) (hX' : ∀ i, i < 3 → X' i = cTk.getD i nT) (hop : (X' 3).kind = 50) (hend : (X' (n + 1)).kind = 51) (hs : ∀ i, 3 ≤ i → i < n → TkS (X i) (X' (i + 1)))
    {s : St} {v : List Nat} (h : P X n (f + 5) .scene ⟨0, 0, []⟩ = .ok s v) (hone : ∀ d, s.md[hd v]? = some d → d.kids.length = 1) :
    (∃ e, P X' (n + 2) (f + 18) .scene ⟨0, 0, []⟩ = .bad e ∧ e.code = 42) ∨ (∃ u, P X' (n + 2) (f + 18) .scene ⟨0, 0, []⟩ = .ok u v ∧ s.md.map stp = u.md.map stp) := by
  obtain ⟨s3, a, h3, hnx, hmd, hv⟩ := con_ok hn hX h hone
  have B0 : BR n ⟨3, 0, []⟩ ⟨4, 1, []⟩ := ⟨rfl, Nat.le_refl _, hn, rfl, rfl⟩
  have hb := brP X X' n hs hend f (.bin 1) _ _ (Nat.le_refl 1) B0
  rw [h3] at hb
  have k0 : kd X' (n + 2) ⟨3, 0, []⟩ = 50 := by unfold kd; rw [if_neg (by show ¬ (3 = n + 2); omega)]; exact hop
  have t0 : take X' (n + 2) 50 ⟨3, 0, []⟩ = .ok ⟨4, 0, []⟩ (X' 3) := take_yes (by show 3 < n + 2; omega) hop (.inl (by decide))
  have e0 : enter X' (n + 2) 50 ⟨3, 0, []⟩ = .ok ⟨4, 1, []⟩ (X' 3) := by unfold enter; rw [t0]; rfl
  have una : P X' (n + 2) (f + 3) .una ⟨3, 0, []⟩ = ((P X' (n + 2) f (.bin 1) ⟨4, 1, []⟩).bind fun s2 a => (leave X' (n + 2) 51 s2).bind fun s3 _ => .ok s3 a) := by
    rw [P_una, k0, if_neg (by decide), P_atom, k0]
    rw [if_neg (by decide), if_neg (by decide), if_neg (by decide), if_neg (by decide), if_neg (by decide), if_neg (by decide), if_neg (by decide), if_neg (by decide), if_neg (by decide), if_pos rfl, P_brack, e0]
    rfl
  rw [show f + 18 = (f + 13) + 5 from rfl, P_scene, P_sceneL, if_pos (by show 0 < n + 2; omega), con_eq X' (n + 2) (f + 13) (by omega) hX']
  cases hr : P X' (n + 2) f (.bin 1) ⟨4, 1, []⟩ with
  | out => rw [hr] at hb; exact hb.elim
  | bad e =>
    rw [hr] at hb una
    have := bin_bad una 9 1 rfl (Nat.le_refl 1)
    rw [show f + 13 = f + 2 + 2 + 9 from rfl, this]
    exact .inl ⟨e, rfl, hb⟩
  | ok u3 a3 =>
    rw [hr] at hb una
    obtain ⟨B3, rfl⟩ := hb
    have hu : u3.nx = n + 1 := by rw [B3.1, hnx]
    have tl : take X' (n + 2) 51 u3 = .ok ⟨u3.nx + 1, u3.dp, u3.md⟩ (X' u3.nx) := take_yes (by omega) (by rw [hu]; exact hend) (.inl (by decide))
    have el : leave X' (n + 2) 51 u3 = .ok ⟨u3.nx + 1, u3.dp - 1, u3.md⟩ () := by unfold leave; rw [tl]; rfl
    have ha : a = [hd a] := (sg X n _ _ _ _ _ h3).2.1 rfl
    have una2 : P X' (n + 2) (f + 3) .una ⟨3, 0, []⟩ = .ok ⟨u3.nx + 1, u3.dp - 1, u3.md⟩ a := by
      rw [una]
      show (leave X' (n + 2) 51 u3).bind _ = _
      rw [el]
      rfl
    have := bin_up (u2 := ⟨u3.nx + 1, u3.dp - 1, u3.md⟩) (by show u3.nx + 1 = n + 2; omega) ha una2 9 1 rfl (Nat.le_refl 1)
    rw [show f + 13 = f + 2 + 2 + 9 from rfl, this]
    have hl : s3.md.length = u3.md.length := by have := congrArg List.length B3.2.2.2.2; simpa using this
    refine .inr ⟨⟨u3.nx + 1, u3.dp - 1, u3.md ++ [cNd a] ++ [sNd u3.md.length]⟩, ?_, ?_⟩
    · show P X' (n + 2) (f + 2 + 2 + 9 + 3) (.sceneL ([] ++ [hd [u3.md.length]])) ⟨u3.nx + 1, u3.dp - 1, u3.md ++ [cNd a]⟩ = _
      rw [show f + 2 + 2 + 9 + 3 = (f + 2 + 2 + 9 + 2) + 1 from rfl, P_sceneL, if_neg (by show ¬ (u3.nx + 1 < n + 2); omega), hv, hl]
      show Pr.ok _ [(u3.md ++ [_]).length] = _
      rw [List.length_append]
      rfl
    · rw [hmd, List.map_append, List.map_append, B3.2.2.2.2, hl]
      simp
/-- the nodes in order, whatever their places -/
theorem layK_stp {g g' : Nat → Nat → List Nd} (h : ∀ k a, (g k a).map stp = (g' k a).map stp) : ∀ (l : List Nat) (a : Nat), (layK g l a).1 = (layK g' l a).1 ∧ (layK g l a).2.map stp = (layK g' l a).2.map stp := by
  intro l
  induction l with
  | nil => intro a; exact ⟨rfl, rfl⟩
  | cons c cs ih =>
    intro a
    have hl : (g c a).length = (g' c a).length := by have := congrArg List.length (h c a); simpa using this
    obtain ⟨e1, e2⟩ := ih (a + (g' c a).length)
    refine ⟨?_, ?_⟩
    · show a :: (layK g cs (a + (g c a).length)).1 = a :: (layK g' cs (a + (g' c a).length)).1
      rw [hl, e1]
    · show (g c a ++ (layK g cs (a + (g c a).length)).2).map stp = (g' c a ++ (layK g' cs (a + (g' c a).length)).2).map stp
      rw [List.map_append, List.map_append, h c a, hl, e2]
theorem layF_stp {md md' : List Nd} (h : md.map stp = md'.map stp) : ∀ (f k a : Nat), (layF md f k a).map stp = (layF md' f k a).map stp := by
  intro f
  induction f with
  | zero => intro k a; rfl
  | succ f ih =>
    intro k a
    have hk : stp (md.getD k nT1) = stp (md'.getD k nT1) := by
      have e : ∀ m : List Nd, stp (m.getD k nT1) = (m.map stp).getD k nT1 := fun m => by
        rw [List.getD_eq_getElem?_getD, List.getD_eq_getElem?_getD, List.getElem?_map]
        cases m[k]? <;> rfl
      rw [e, e, h]
    have hk1 : (md.getD k nT1).kids = (md'.getD k nT1).kids := by show (stp (md.getD k nT1)).kids = (stp (md'.getD k nT1)).kids; rw [hk]
    obtain ⟨e1, e2⟩ := layK_stp ih (md'.getD k nT1).kids (a + 1)
    unfold layF
    rw [List.map_cons, List.map_cons, hk1, e1, e2]
    have k1 : (md.getD k nT1).kind = (md'.getD k nT1).kind := by show (stp (md.getD k nT1)).kind = (stp (md'.getD k nT1)).kind; rw [hk]
    have k2 : (md.getD k nT1).name = (md'.getD k nT1).name := by show (stp (md.getD k nT1)).name = (stp (md'.getD k nT1)).name; rw [hk]
    have k3 : (md.getD k nT1).num = (md'.getD k nT1).num := by show (stp (md.getD k nT1)).num = (stp (md'.getD k nT1)).num; rw [hk]
    have k4 : (md.getD k nT1).op = (md'.getD k nT1).op := by show (stp (md.getD k nT1)).op = (stp (md'.getD k nT1)).op; rw [hk]
    unfold stp
    dsimp only
    rw [k1, k2, k3, k4]
end Go.Proofs.YtmekcccmnkgodaaGreatDoor
