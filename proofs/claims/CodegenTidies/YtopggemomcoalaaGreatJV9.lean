import Derived.Test.YtopggemomcoalaaGreatJV3
import Derived.BigQuiet
namespace Go.Proofs.YtopggemomcoalaaGreat
open Go.ChangeShapes Go.WideShapes Go.ChangeAt Go.RowKit
set_option linter.unusedVariables false

theorem within_any (n lo hi : Int) (w : World) : Calls Tryz.prog 88 #[.int .i64 n, .int .i64 lo, .int .i64 hi] w fun e w' => e = .returned (.bool (decide (lo ≤ n ∧ n ≤ hi))) ∧ w' = w := by
  go_enter Tryz.func88, Tryz.ntmps88
  by_cases h1 : lo ≤ n
  · by_cases h2 : n ≤ hi
    · have e : decide (lo ≤ n ∧ n ≤ hi) = true := decide_eq_true ⟨h1, h2⟩
      rw [e]
      go_wp2
      go_ret
      exact ⟨rfl, rfl⟩
    · have e : decide (lo ≤ n ∧ n ≤ hi) = false := decide_eq_false (fun h => h2 h.2)
      rw [e]
      go_wp2
      go_ret
      exact ⟨rfl, rfl⟩
  · have e : decide (lo ≤ n ∧ n ≤ hi) = false := decide_eq_false (fun h => h1 h.1)
    rw [e]
    go_wp2
    go_ret
    exact ⟨rfl, rfl⟩
theorem rjumps_any (o : Int) (w : World) : Calls Tryz.prog 90 #[.int .i64 o] w fun e w' => e = .returned (.bool (jmp o)) ∧ w' = w := by
  go_enter Tryz.func90, Tryz.ntmps90
  by_cases h : o = 35
  · subst h
    go_wp2
    go_ret
    exact ⟨rfl, rfl⟩
  · have h' : (o == 35) = false := by simpa using h
    have e : jmp o = (o == 36) := by unfold jmp; rw [h', Bool.false_or]
    go_wp2
    go_ret
    exact ⟨by rw [e]; rfl, rfl⟩
theorem goesOn_any (o : Int) (w : World) : Calls Tryz.prog 89 #[.int .i64 o] w fun e w' => e = .returned (.bool (!ends o)) ∧ w' = w := by
  go_enter Tryz.func89, Tryz.ntmps89
  by_cases h : o = 0
  · subst h
    go_wp2
    go_ret
    exact ⟨rfl, rfl⟩
  · have h' : (o == 0) = false := by simpa using h
    by_cases h2 : o = 35
    · subst h2
      go_wp2
      go_ret
      exact ⟨rfl, rfl⟩
    · have h2' : (o == 35) = false := by simpa using h2
      by_cases h3 : o = 40
      · subst h3
        go_wp2
        go_ret
        exact ⟨rfl, rfl⟩
      · have h3' : (o == 40) = false := by simpa using h3
        have e : (!ends o) = true := by unfold ends; rw [h', h2', h3']; rfl
        rw [e]
        clear e
        go_wp2
        go_ret
        exact ⟨by first | rfl | (simp [bne, h, h2, h3]), rfl⟩
def twoI (o : Int) : Bool := (decide (13 ≤ o) && decide (o ≤ 22)) || (decide (26 ≤ o) && decide (o ≤ 33))
set_option maxRecDepth 100000 in
set_option maxHeartbeats 4000000 in
theorem two_any (o : Int) (h : 0 ≤ o ∧ o < 42) (w : World) :
    Calls Tryz.prog 112 #[.int .i64 o] w fun e w' => e = .returned (.bool (twoI o)) ∧ w' = w := by
  rcases all42 h with rfl | rfl | rfl | rfl | rfl | rfl | rfl | rfl | rfl | rfl | rfl | rfl | rfl | rfl | rfl | rfl | rfl | rfl | rfl | rfl | rfl | rfl | rfl | rfl | rfl | rfl | rfl | rfl | rfl | rfl | rfl | rfl | rfl | rfl | rfl | rfl | rfl | rfl | rfl | rfl | rfl | rfl
  all_goals
    clear h
    go_enter Tryz.func112, Tryz.ntmps112
    go_wp2
    go_ret
    exact ⟨rfl, rfl⟩
set_option maxRecDepth 100000 in
set_option maxHeartbeats 4000000 in
theorem rpops_any (o : Int) (h : 0 ≤ o ∧ o < 42) (w : World) :
    Calls Tryz.prog 92 #[.int .i64 o] w fun e w' => e = .returned (.int .i64 (pops o)) ∧ w' = w := by
  have HT := two_any o h
  rcases all42 h with rfl | rfl | rfl | rfl | rfl | rfl | rfl | rfl | rfl | rfl | rfl | rfl | rfl | rfl | rfl | rfl | rfl | rfl | rfl | rfl | rfl | rfl | rfl | rfl | rfl | rfl | rfl | rfl | rfl | rfl | rfl | rfl | rfl | rfl | rfl | rfl | rfl | rfl | rfl | rfl | rfl | rfl
  all_goals
    clear h
    simp only [twoI] at HT
    go_enter Tryz.func92, Tryz.ntmps92
    go_wp2_with (go_at_call 112; (with_reducible refine (HT _).mono ?_); rintro e w1 ⟨rfl, rfl⟩)
    go_ret
    exact ⟨rfl, rfl⟩
set_option maxRecDepth 100000 in
set_option maxHeartbeats 4000000 in
theorem rpushes_any (o : Int) (h : 0 ≤ o ∧ o < 42) (w : World) :
    Calls Tryz.prog 93 #[.int .i64 o] w fun e w' => e = .returned (.int .i64 (pushes o)) ∧ w' = w := by
  have HT := two_any o h
  rcases all42 h with rfl | rfl | rfl | rfl | rfl | rfl | rfl | rfl | rfl | rfl | rfl | rfl | rfl | rfl | rfl | rfl | rfl | rfl | rfl | rfl | rfl | rfl | rfl | rfl | rfl | rfl | rfl | rfl | rfl | rfl | rfl | rfl | rfl | rfl | rfl | rfl | rfl | rfl | rfl | rfl | rfl | rfl
  all_goals
    clear h
    simp only [twoI] at HT
    go_enter Tryz.func93, Tryz.ntmps93
    go_wp2_with (go_at_call 112; (with_reducible refine (HT _).mono ?_); rintro e w1 ⟨rfl, rfl⟩)
    go_ret
    exact ⟨rfl, rfl⟩
end Go.Proofs.YtopggemomcoalaaGreat
namespace Go.Proofs.YtopggemomcoalaaGreat
open Go.ChangeShapes Go.WideShapes Go.ChangeAt Go.RowKit
set_option linter.unusedVariables false

theorem plain_op (P : Pg) {o : Int} (h : 0 ≤ o ∧ o < 42) (hsp : ¬ (o = 1 ∨ o = 3 ∨ o = 4 ∨ o = 5 ∨ o = 6 ∨ o = 7 ∨ o = 8 ∨ o = 35 ∨ o = 36 ∨ o = 38 ∨ o = 39)) : limI P o = 1 ∧ wantsI o ≠ 2 ∧ jmp o = false := by
  refine ⟨?_, ?_, ?_⟩
  · unfold limI
    rw [if_neg (by omega), if_neg (by omega), if_neg (by omega), if_neg (by omega), if_neg (by omega)]
  · rcases all42 h with rfl | rfl | rfl | rfl | rfl | rfl | rfl | rfl | rfl | rfl | rfl | rfl | rfl | rfl | rfl | rfl | rfl | rfl | rfl | rfl | rfl | rfl | rfl | rfl | rfl | rfl | rfl | rfl | rfl | rfl | rfl | rfl | rfl | rfl | rfl | rfl | rfl | rfl | rfl | rfl | rfl | rfl
    all_goals first | decide | (exfalso; omega)
  · unfold jmp
    simp
    omega
theorem argument_post (P : Pg) (v : PgV) (o a b : Int) (w : World) (n : Nat) : Below w.heap.size w (((w.alloc (.cells #[.int .i64 P.words, .int .i64 P.locals, .slice v.cp P.n v.cc, .slice v.ep P.m v.ec] 25)).alloc (.cells #[.int .i64 o, .int .i64 a, .int .i64 b] 36)).drewN n) := (((Below.refl _ w).alloc (Nat.le_refl _) _).alloc (by simp) _).trans (below_drewNq _ _ _)
set_option maxRecDepth 100000 in
set_option maxHeartbeats 8000000 in
theorem argument_any (P : Pg) (v : PgV) (o a b : Int) (hs : sizedP P) (h : 0 ≤ o ∧ o < 42) (w : World) :
    Calls Tryz.prog 46 #[.agg #[.int .i64 P.words, .int .i64 P.locals, .slice v.cp P.n v.cc, .slice v.ep P.m v.ec], .agg #[.int .i64 o, .int .i64 a, .int .i64 b], .int .i64 P.m] w fun e w' => e = .returned (.int .i64 (insErr P o a b)) ∧ Below w.heap.size w w' := by
  obtain ⟨⟨s1, s2⟩, ⟨s3, s4⟩, s5, s6⟩ := hs
  by_cases hsp : o = 1 ∨ o = 3 ∨ o = 4 ∨ o = 5 ∨ o = 6 ∨ o = 7 ∨ o = 8 ∨ o = 35 ∨ o = 36 ∨ o = 38 ∨ o = 39
  rcases hsp with rfl | rfl | rfl | rfl | rfl | rfl | rfl | rfl | rfl | rfl | rfl
  · clear h
    have hl : limI P 1 = 1 := rfl
    have hw : wantsI 1 ≠ 2 := by decide
    by_cases h1 : b = 0
    · subst h1
      have hv : insErr P 1 a 0 = 0 := by unfold insErr; rw [if_neg (by decide), if_neg hw, if_neg (by simp), if_pos (.inl rfl)]
      rw [hv]
      clear hv
      go_enter Tryz.func46, Tryz.ntmps46
      go_wp2
      go_quiet (fail)
      go_wp2_with (go_at_call 88; (with_reducible refine (within_any _ _ _ _).mono ?_); rintro e w1 ⟨rfl, rfl⟩)
      go_ret
      exact ⟨rfl, argument_post P v 1 a 0 w _⟩
    · have d1 : (b == 0) = false := by simpa using h1
      have hv : insErr P 1 a b = 63 := by unfold insErr; rw [if_neg (by decide), if_neg hw, if_pos h1]
      rw [hv]
      clear hv
      go_enter Tryz.func46, Tryz.ntmps46
      go_wp2
      go_quiet (fail)
      go_wp2_with (go_at_call 88; (with_reducible refine (within_any _ _ _ _).mono ?_); rintro e w1 ⟨rfl, rfl⟩)
      go_ret
      exact ⟨rfl, argument_post P v 1 a b w _⟩
  · clear h
    have hl : limI P 3 = P.words := rfl
    have hw : wantsI 3 ≠ 2 := by decide
    by_cases h1 : b = 0
    · subst h1
      by_cases h2 : 0 ≤ a ∧ a ≤ P.words - 1
      · have d2 : decide (0 ≤ a ∧ a ≤ P.words - 1) = true := decide_eq_true h2
        have hv : insErr P 3 a 0 = 0 := by unfold insErr; rw [if_neg (by decide), if_neg hw, if_neg (by simp), hl, if_pos (.inr h2)]
        rw [hv]
        clear hv
        go_enter Tryz.func46, Tryz.ntmps46
        go_wp2
        go_quiet (fail)
        go_wp2_with (go_at_call 88; (with_reducible refine (within_any _ _ _ _).mono ?_); rintro e w1 ⟨rfl, rfl⟩)
        go_ret
        exact ⟨rfl, argument_post P v 3 a 0 w _⟩
      · have d2 : decide (0 ≤ a ∧ a ≤ P.words - 1) = false := decide_eq_false h2
        have hv : insErr P 3 a 0 = 63 := by unfold insErr; rw [if_neg (by decide), if_neg hw, if_neg (by simp), hl, if_neg (by omega)]; rfl
        rw [hv]
        clear hv
        go_enter Tryz.func46, Tryz.ntmps46
        go_wp2
        go_quiet (fail)
        go_wp2_with (go_at_call 88; (with_reducible refine (within_any _ _ _ _).mono ?_); rintro e w1 ⟨rfl, rfl⟩)
        go_ret
        exact ⟨rfl, argument_post P v 3 a 0 w _⟩
    · have d1 : (b == 0) = false := by simpa using h1
      have hv : insErr P 3 a b = 63 := by unfold insErr; rw [if_neg (by decide), if_neg hw, if_pos h1]
      rw [hv]
      clear hv
      go_enter Tryz.func46, Tryz.ntmps46
      go_wp2
      go_quiet (fail)
      go_wp2_with (go_at_call 88; (with_reducible refine (within_any _ _ _ _).mono ?_); rintro e w1 ⟨rfl, rfl⟩)
      go_ret
      exact ⟨rfl, argument_post P v 3 a b w _⟩
  · clear h
    have hl : limI P 4 = P.words := rfl
    have hw : wantsI 4 ≠ 2 := by decide
    by_cases h1 : b = 0
    · subst h1
      by_cases h2 : 0 ≤ a ∧ a ≤ P.words - 1
      · have d2 : decide (0 ≤ a ∧ a ≤ P.words - 1) = true := decide_eq_true h2
        have hv : insErr P 4 a 0 = 0 := by unfold insErr; rw [if_neg (by decide), if_neg hw, if_neg (by simp), hl, if_pos (.inr h2)]
        rw [hv]
        clear hv
        go_enter Tryz.func46, Tryz.ntmps46
        go_wp2
        go_quiet (fail)
        go_wp2_with (go_at_call 88; (with_reducible refine (within_any _ _ _ _).mono ?_); rintro e w1 ⟨rfl, rfl⟩)
        go_ret
        exact ⟨rfl, argument_post P v 4 a 0 w _⟩
      · have d2 : decide (0 ≤ a ∧ a ≤ P.words - 1) = false := decide_eq_false h2
        have hv : insErr P 4 a 0 = 63 := by unfold insErr; rw [if_neg (by decide), if_neg hw, if_neg (by simp), hl, if_neg (by omega)]; rfl
        rw [hv]
        clear hv
        go_enter Tryz.func46, Tryz.ntmps46
        go_wp2
        go_quiet (fail)
        go_wp2_with (go_at_call 88; (with_reducible refine (within_any _ _ _ _).mono ?_); rintro e w1 ⟨rfl, rfl⟩)
        go_ret
        exact ⟨rfl, argument_post P v 4 a 0 w _⟩
    · have d1 : (b == 0) = false := by simpa using h1
      have hv : insErr P 4 a b = 63 := by unfold insErr; rw [if_neg (by decide), if_neg hw, if_pos h1]
      rw [hv]
      clear hv
      go_enter Tryz.func46, Tryz.ntmps46
      go_wp2
      go_quiet (fail)
      go_wp2_with (go_at_call 88; (with_reducible refine (within_any _ _ _ _).mono ?_); rintro e w1 ⟨rfl, rfl⟩)
      go_ret
      exact ⟨rfl, argument_post P v 4 a b w _⟩
  · clear h
    have hl : limI P 5 = P.words := rfl
    have hw : wantsI 5 = 2 := rfl
    by_cases h1 : 1 ≤ b ∧ b ≤ P.words
    · have d1 : decide (1 ≤ b ∧ b ≤ P.words) = true := decide_eq_true h1
      by_cases h2 : 0 ≤ a ∧ a ≤ P.words - b
      · have d2 : decide (0 ≤ a ∧ a ≤ P.words - b) = true := decide_eq_true h2
        have hv : insErr P 5 a b = 0 := by unfold insErr; rw [if_neg (by decide), if_pos hw, hl, if_pos h1, if_pos h2]
        rw [hv]
        clear hv
        go_enter Tryz.func46, Tryz.ntmps46
        go_wp2
        go_quiet (fail)
        go_wp2_with (go_at_call 88; (with_reducible refine (within_any _ _ _ _).mono ?_); rintro e w1 ⟨rfl, rfl⟩)
        go_ret
        exact ⟨rfl, argument_post P v 5 a b w _⟩
      · have d2 : decide (0 ≤ a ∧ a ≤ P.words - b) = false := decide_eq_false h2
        have hv : insErr P 5 a b = 63 := by unfold insErr; rw [if_neg (by decide), if_pos hw, hl, if_pos h1, if_neg h2]
        rw [hv]
        clear hv
        go_enter Tryz.func46, Tryz.ntmps46
        go_wp2
        go_quiet (fail)
        go_wp2_with (go_at_call 88; (with_reducible refine (within_any _ _ _ _).mono ?_); rintro e w1 ⟨rfl, rfl⟩)
        go_ret
        exact ⟨rfl, argument_post P v 5 a b w _⟩
    · have d1 : decide (1 ≤ b ∧ b ≤ P.words) = false := decide_eq_false h1
      have hv : insErr P 5 a b = 63 := by unfold insErr; rw [if_neg (by decide), if_pos hw, hl, if_neg h1]
      rw [hv]
      clear hv
      go_enter Tryz.func46, Tryz.ntmps46
      go_wp2
      go_quiet (fail)
      go_wp2_with (go_at_call 88; (with_reducible refine (within_any _ _ _ _).mono ?_); rintro e w1 ⟨rfl, rfl⟩)
      go_ret
      exact ⟨rfl, argument_post P v 5 a b w _⟩
  · clear h
    have hl : limI P 6 = P.words := rfl
    have hw : wantsI 6 = 2 := rfl
    by_cases h1 : 1 ≤ b ∧ b ≤ P.words
    · have d1 : decide (1 ≤ b ∧ b ≤ P.words) = true := decide_eq_true h1
      by_cases h2 : 0 ≤ a ∧ a ≤ P.words - b
      · have d2 : decide (0 ≤ a ∧ a ≤ P.words - b) = true := decide_eq_true h2
        have hv : insErr P 6 a b = 0 := by unfold insErr; rw [if_neg (by decide), if_pos hw, hl, if_pos h1, if_pos h2]
        rw [hv]
        clear hv
        go_enter Tryz.func46, Tryz.ntmps46
        go_wp2
        go_quiet (fail)
        go_wp2_with (go_at_call 88; (with_reducible refine (within_any _ _ _ _).mono ?_); rintro e w1 ⟨rfl, rfl⟩)
        go_ret
        exact ⟨rfl, argument_post P v 6 a b w _⟩
      · have d2 : decide (0 ≤ a ∧ a ≤ P.words - b) = false := decide_eq_false h2
        have hv : insErr P 6 a b = 63 := by unfold insErr; rw [if_neg (by decide), if_pos hw, hl, if_pos h1, if_neg h2]
        rw [hv]
        clear hv
        go_enter Tryz.func46, Tryz.ntmps46
        go_wp2
        go_quiet (fail)
        go_wp2_with (go_at_call 88; (with_reducible refine (within_any _ _ _ _).mono ?_); rintro e w1 ⟨rfl, rfl⟩)
        go_ret
        exact ⟨rfl, argument_post P v 6 a b w _⟩
    · have d1 : decide (1 ≤ b ∧ b ≤ P.words) = false := decide_eq_false h1
      have hv : insErr P 6 a b = 63 := by unfold insErr; rw [if_neg (by decide), if_pos hw, hl, if_neg h1]
      rw [hv]
      clear hv
      go_enter Tryz.func46, Tryz.ntmps46
      go_wp2
      go_quiet (fail)
      go_wp2_with (go_at_call 88; (with_reducible refine (within_any _ _ _ _).mono ?_); rintro e w1 ⟨rfl, rfl⟩)
      go_ret
      exact ⟨rfl, argument_post P v 6 a b w _⟩
  · clear h
    have hl : limI P 7 = P.locals := rfl
    have hw : wantsI 7 ≠ 2 := by decide
    by_cases h1 : b = 0
    · subst h1
      by_cases h2 : 0 ≤ a ∧ a ≤ P.locals - 1
      · have d2 : decide (0 ≤ a ∧ a ≤ P.locals - 1) = true := decide_eq_true h2
        have hv : insErr P 7 a 0 = 0 := by unfold insErr; rw [if_neg (by decide), if_neg hw, if_neg (by simp), hl, if_pos (.inr h2)]
        rw [hv]
        clear hv
        go_enter Tryz.func46, Tryz.ntmps46
        go_wp2
        go_quiet (fail)
        go_wp2_with (go_at_call 88; (with_reducible refine (within_any _ _ _ _).mono ?_); rintro e w1 ⟨rfl, rfl⟩)
        go_ret
        exact ⟨rfl, argument_post P v 7 a 0 w _⟩
      · have d2 : decide (0 ≤ a ∧ a ≤ P.locals - 1) = false := decide_eq_false h2
        have hv : insErr P 7 a 0 = 63 := by unfold insErr; rw [if_neg (by decide), if_neg hw, if_neg (by simp), hl, if_neg (by omega)]; rfl
        rw [hv]
        clear hv
        go_enter Tryz.func46, Tryz.ntmps46
        go_wp2
        go_quiet (fail)
        go_wp2_with (go_at_call 88; (with_reducible refine (within_any _ _ _ _).mono ?_); rintro e w1 ⟨rfl, rfl⟩)
        go_ret
        exact ⟨rfl, argument_post P v 7 a 0 w _⟩
    · have d1 : (b == 0) = false := by simpa using h1
      have hv : insErr P 7 a b = 63 := by unfold insErr; rw [if_neg (by decide), if_neg hw, if_pos h1]
      rw [hv]
      clear hv
      go_enter Tryz.func46, Tryz.ntmps46
      go_wp2
      go_quiet (fail)
      go_wp2_with (go_at_call 88; (with_reducible refine (within_any _ _ _ _).mono ?_); rintro e w1 ⟨rfl, rfl⟩)
      go_ret
      exact ⟨rfl, argument_post P v 7 a b w _⟩
  · clear h
    have hl : limI P 8 = P.locals := rfl
    have hw : wantsI 8 ≠ 2 := by decide
    by_cases h1 : b = 0
    · subst h1
      by_cases h2 : 0 ≤ a ∧ a ≤ P.locals - 1
      · have d2 : decide (0 ≤ a ∧ a ≤ P.locals - 1) = true := decide_eq_true h2
        have hv : insErr P 8 a 0 = 0 := by unfold insErr; rw [if_neg (by decide), if_neg hw, if_neg (by simp), hl, if_pos (.inr h2)]
        rw [hv]
        clear hv
        go_enter Tryz.func46, Tryz.ntmps46
        go_wp2
        go_quiet (fail)
        go_wp2_with (go_at_call 88; (with_reducible refine (within_any _ _ _ _).mono ?_); rintro e w1 ⟨rfl, rfl⟩)
        go_ret
        exact ⟨rfl, argument_post P v 8 a 0 w _⟩
      · have d2 : decide (0 ≤ a ∧ a ≤ P.locals - 1) = false := decide_eq_false h2
        have hv : insErr P 8 a 0 = 63 := by unfold insErr; rw [if_neg (by decide), if_neg hw, if_neg (by simp), hl, if_neg (by omega)]; rfl
        rw [hv]
        clear hv
        go_enter Tryz.func46, Tryz.ntmps46
        go_wp2
        go_quiet (fail)
        go_wp2_with (go_at_call 88; (with_reducible refine (within_any _ _ _ _).mono ?_); rintro e w1 ⟨rfl, rfl⟩)
        go_ret
        exact ⟨rfl, argument_post P v 8 a 0 w _⟩
    · have d1 : (b == 0) = false := by simpa using h1
      have hv : insErr P 8 a b = 63 := by unfold insErr; rw [if_neg (by decide), if_neg hw, if_pos h1]
      rw [hv]
      clear hv
      go_enter Tryz.func46, Tryz.ntmps46
      go_wp2
      go_quiet (fail)
      go_wp2_with (go_at_call 88; (with_reducible refine (within_any _ _ _ _).mono ?_); rintro e w1 ⟨rfl, rfl⟩)
      go_ret
      exact ⟨rfl, argument_post P v 8 a b w _⟩
  · clear h
    have hl : limI P 35 = (P.n : Int) := rfl
    have hw : wantsI 35 ≠ 2 := by decide
    by_cases h1 : b = 0
    · subst h1
      by_cases h2 : 0 ≤ a ∧ a ≤ (P.n : Int) - 1
      · have d2 : decide (0 ≤ a ∧ a ≤ (P.n : Int) - 1) = true := decide_eq_true h2
        have hv : insErr P 35 a 0 = 0 := by unfold insErr; rw [if_neg (by decide), if_neg hw, if_neg (by simp), hl, if_pos (.inr h2)]
        rw [hv]
        clear hv
        go_enter Tryz.func46, Tryz.ntmps46
        go_wp2
        go_quiet (fail)
        go_wp2_with (go_at_call 88; (with_reducible refine (within_any _ _ _ _).mono ?_); rintro e w1 ⟨rfl, rfl⟩)
        go_ret
        exact ⟨rfl, argument_post P v 35 a 0 w _⟩
      · have d2 : decide (0 ≤ a ∧ a ≤ (P.n : Int) - 1) = false := decide_eq_false h2
        have hv : insErr P 35 a 0 = 62 := by unfold insErr; rw [if_neg (by decide), if_neg hw, if_neg (by simp), hl, if_neg (by omega)]; rfl
        rw [hv]
        clear hv
        go_enter Tryz.func46, Tryz.ntmps46
        go_wp2
        go_quiet (fail)
        go_wp2_with (go_at_call 88; (with_reducible refine (within_any _ _ _ _).mono ?_); rintro e w1 ⟨rfl, rfl⟩)
        go_ret
        exact ⟨rfl, argument_post P v 35 a 0 w _⟩
    · have d1 : (b == 0) = false := by simpa using h1
      have hv : insErr P 35 a b = 63 := by unfold insErr; rw [if_neg (by decide), if_neg hw, if_pos h1]
      rw [hv]
      clear hv
      go_enter Tryz.func46, Tryz.ntmps46
      go_wp2
      go_quiet (fail)
      go_wp2_with (go_at_call 88; (with_reducible refine (within_any _ _ _ _).mono ?_); rintro e w1 ⟨rfl, rfl⟩)
      go_ret
      exact ⟨rfl, argument_post P v 35 a b w _⟩
  · clear h
    have hl : limI P 36 = (P.n : Int) := rfl
    have hw : wantsI 36 ≠ 2 := by decide
    by_cases h1 : b = 0
    · subst h1
      by_cases h2 : 0 ≤ a ∧ a ≤ (P.n : Int) - 1
      · have d2 : decide (0 ≤ a ∧ a ≤ (P.n : Int) - 1) = true := decide_eq_true h2
        have hv : insErr P 36 a 0 = 0 := by unfold insErr; rw [if_neg (by decide), if_neg hw, if_neg (by simp), hl, if_pos (.inr h2)]
        rw [hv]
        clear hv
        go_enter Tryz.func46, Tryz.ntmps46
        go_wp2
        go_quiet (fail)
        go_wp2_with (go_at_call 88; (with_reducible refine (within_any _ _ _ _).mono ?_); rintro e w1 ⟨rfl, rfl⟩)
        go_ret
        exact ⟨rfl, argument_post P v 36 a 0 w _⟩
      · have d2 : decide (0 ≤ a ∧ a ≤ (P.n : Int) - 1) = false := decide_eq_false h2
        have hv : insErr P 36 a 0 = 62 := by unfold insErr; rw [if_neg (by decide), if_neg hw, if_neg (by simp), hl, if_neg (by omega)]; rfl
        rw [hv]
        clear hv
        go_enter Tryz.func46, Tryz.ntmps46
        go_wp2
        go_quiet (fail)
        go_wp2_with (go_at_call 88; (with_reducible refine (within_any _ _ _ _).mono ?_); rintro e w1 ⟨rfl, rfl⟩)
        go_ret
        exact ⟨rfl, argument_post P v 36 a 0 w _⟩
    · have d1 : (b == 0) = false := by simpa using h1
      have hv : insErr P 36 a b = 63 := by unfold insErr; rw [if_neg (by decide), if_neg hw, if_pos h1]
      rw [hv]
      clear hv
      go_enter Tryz.func46, Tryz.ntmps46
      go_wp2
      go_quiet (fail)
      go_wp2_with (go_at_call 88; (with_reducible refine (within_any _ _ _ _).mono ?_); rintro e w1 ⟨rfl, rfl⟩)
      go_ret
      exact ⟨rfl, argument_post P v 36 a b w _⟩
  · clear h
    have hl : limI P 38 = 64 := rfl
    have hw : wantsI 38 = 2 := rfl
    by_cases h1 : 1 ≤ b ∧ b ≤ 64
    · have d1 : decide (1 ≤ b ∧ b ≤ 64) = true := decide_eq_true h1
      by_cases h2 : 0 ≤ a ∧ a ≤ 64 - b
      · have d2 : decide (0 ≤ a ∧ a ≤ 64 - b) = true := decide_eq_true h2
        have hv : insErr P 38 a b = 0 := by unfold insErr; rw [if_neg (by decide), if_pos hw, hl, if_pos h1, if_pos h2]
        rw [hv]
        clear hv
        go_enter Tryz.func46, Tryz.ntmps46
        go_wp2
        go_quiet (fail)
        go_wp2_with (go_at_call 88; (with_reducible refine (within_any _ _ _ _).mono ?_); rintro e w1 ⟨rfl, rfl⟩)
        go_ret
        exact ⟨rfl, argument_post P v 38 a b w _⟩
      · have d2 : decide (0 ≤ a ∧ a ≤ 64 - b) = false := decide_eq_false h2
        have hv : insErr P 38 a b = 63 := by unfold insErr; rw [if_neg (by decide), if_pos hw, hl, if_pos h1, if_neg h2]
        rw [hv]
        clear hv
        go_enter Tryz.func46, Tryz.ntmps46
        go_wp2
        go_quiet (fail)
        go_wp2_with (go_at_call 88; (with_reducible refine (within_any _ _ _ _).mono ?_); rintro e w1 ⟨rfl, rfl⟩)
        go_ret
        exact ⟨rfl, argument_post P v 38 a b w _⟩
    · have d1 : decide (1 ≤ b ∧ b ≤ 64) = false := decide_eq_false h1
      have hv : insErr P 38 a b = 63 := by unfold insErr; rw [if_neg (by decide), if_pos hw, hl, if_neg h1]
      rw [hv]
      clear hv
      go_enter Tryz.func46, Tryz.ntmps46
      go_wp2
      go_quiet (fail)
      go_wp2_with (go_at_call 88; (with_reducible refine (within_any _ _ _ _).mono ?_); rintro e w1 ⟨rfl, rfl⟩)
      go_ret
      exact ⟨rfl, argument_post P v 38 a b w _⟩
  · clear h
    have hl : limI P 39 = (P.m : Int) := rfl
    have hw : wantsI 39 ≠ 2 := by decide
    by_cases h1 : b = 0
    · subst h1
      by_cases h2 : 0 ≤ a ∧ a ≤ (P.m : Int) - 1
      · have d2 : decide (0 ≤ a ∧ a ≤ (P.m : Int) - 1) = true := decide_eq_true h2
        have hv : insErr P 39 a 0 = 0 := by unfold insErr; rw [if_neg (by decide), if_neg hw, if_neg (by simp), hl, if_pos (.inr h2)]
        rw [hv]
        clear hv
        go_enter Tryz.func46, Tryz.ntmps46
        go_wp2
        go_quiet (fail)
        go_wp2_with (go_at_call 88; (with_reducible refine (within_any _ _ _ _).mono ?_); rintro e w1 ⟨rfl, rfl⟩)
        go_ret
        exact ⟨rfl, argument_post P v 39 a 0 w _⟩
      · have d2 : decide (0 ≤ a ∧ a ≤ (P.m : Int) - 1) = false := decide_eq_false h2
        have hv : insErr P 39 a 0 = 63 := by unfold insErr; rw [if_neg (by decide), if_neg hw, if_neg (by simp), hl, if_neg (by omega)]; rfl
        rw [hv]
        clear hv
        go_enter Tryz.func46, Tryz.ntmps46
        go_wp2
        go_quiet (fail)
        go_wp2_with (go_at_call 88; (with_reducible refine (within_any _ _ _ _).mono ?_); rintro e w1 ⟨rfl, rfl⟩)
        go_ret
        exact ⟨rfl, argument_post P v 39 a 0 w _⟩
    · have d1 : (b == 0) = false := by simpa using h1
      have hv : insErr P 39 a b = 63 := by unfold insErr; rw [if_neg (by decide), if_neg hw, if_pos h1]
      rw [hv]
      clear hv
      go_enter Tryz.func46, Tryz.ntmps46
      go_wp2
      go_quiet (fail)
      go_wp2_with (go_at_call 88; (with_reducible refine (within_any _ _ _ _).mono ?_); rintro e w1 ⟨rfl, rfl⟩)
      go_ret
      exact ⟨rfl, argument_post P v 39 a b w _⟩
  · obtain ⟨hl, hw, hj⟩ := plain_op P h hsp
    have n1 : (o == 1) = false := by simp; omega
    have n3 : (o == 3) = false := by simp; omega
    have n4 : (o == 4) = false := by simp; omega
    have n5 : (o == 5) = false := by simp; omega
    have n6 : (o == 6) = false := by simp; omega
    have n7 : (o == 7) = false := by simp; omega
    have n8 : (o == 8) = false := by simp; omega
    have n35 : (o == 35) = false := by simp; omega
    have n36 : (o == 36) = false := by simp; omega
    have n38 : (o == 38) = false := by simp; omega
    have n39 : (o == 39) = false := by simp; omega
    by_cases h1 : b = 0
    · subst h1
      by_cases h2 : a = 0
      · subst h2
        have hv : insErr P o 0 0 = 0 := by unfold insErr; rw [if_neg (by simpa using h), if_neg hw, if_neg (by simp), hl, if_pos (.inr (by decide))]
        rw [hv]
        clear hv
        go_enter Tryz.func46, Tryz.ntmps46
        go_wp2
        go_quiet (fail)
        go_wp2_with (go_at_call 88; (with_reducible refine (within_any _ _ _ _).mono ?_); rintro e w1 ⟨rfl, rfl⟩)
        go_ret
        exact ⟨rfl, argument_post P v o 0 0 w _⟩
      · have d2 : (a == 0) = false := by simpa using h2
        have hv : insErr P o a 0 = 63 := by unfold insErr; rw [if_neg (by simpa using h), if_neg hw, if_neg (by simp), hl, if_neg (by omega), hj]; rfl
        rw [hv]
        clear hv
        go_enter Tryz.func46, Tryz.ntmps46
        go_wp2
        go_quiet (fail)
        go_wp2_with (go_at_call 88; (with_reducible refine (within_any _ _ _ _).mono ?_); rintro e w1 ⟨rfl, rfl⟩)
        go_ret
        exact ⟨rfl, argument_post P v o a 0 w _⟩
    · have d1 : (b == 0) = false := by simpa using h1
      have hv : insErr P o a b = 63 := by unfold insErr; rw [if_neg (by simpa using h), if_neg hw, if_pos h1]
      rw [hv]
      clear hv
      go_enter Tryz.func46, Tryz.ntmps46
      go_wp2
      go_quiet (fail)
      go_wp2_with (go_at_call 88; (with_reducible refine (within_any _ _ _ _).mono ?_); rintro e w1 ⟨rfl, rfl⟩)
      go_ret
      exact ⟨rfl, argument_post P v o a b w _⟩
end Go.Proofs.YtopggemomcoalaaGreat

