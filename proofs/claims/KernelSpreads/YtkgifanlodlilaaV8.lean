import Derived.Test.YtkgifanlodlilaaV3
import Derived.BigQuiet
namespace Go.Proofs.Ytkgifanlodlilaa
open Go.ChangeShapes Go.WideShapes Go.ChangeAt Go.RowKit
set_option linter.unusedVariables false

theorem within_any (n lo hi : Int) (w : World) : Calls Try.prog 47 #[.int .i64 n, .int .i64 lo, .int .i64 hi] w fun e w' => e = .returned (.bool (decide (lo ≤ n ∧ n ≤ hi))) ∧ w' = w := by
  go_enter Try.func47, Try.ntmps47
  by_cases h1 : lo ≤ n
  · by_cases h2 : n ≤ hi
    · have e : decide (lo ≤ n ∧ n ≤ hi) = true := decide_eq_true ⟨h1, h2⟩
      rw [e]
      go_wp2
      go_ret
      exact ⟨rfl, rfl⟩
    · have e : decide (lo ≤ n ∧ n ≤ hi) = false := decide_eq_false (fun h => h2 h.2)
      rw [e]
      go_wp2
      go_ret
      exact ⟨rfl, rfl⟩
  · have e : decide (lo ≤ n ∧ n ≤ hi) = false := decide_eq_false (fun h => h1 h.1)
    rw [e]
    go_wp2
    go_ret
    exact ⟨rfl, rfl⟩
theorem rjumps_any (o : Int) (w : World) : Calls Try.prog 49 #[.int .i64 o] w fun e w' => e = .returned (.bool (jmp o)) ∧ w' = w := by
  go_enter Try.func49, Try.ntmps49
  by_cases h : o = 35
  · subst h
    go_wp2
    go_ret
    exact ⟨rfl, rfl⟩
  · have h' : (o == 35) = false := by simpa using h
    have e : jmp o = (o == 36) := by unfold jmp; rw [h', Bool.false_or]
    go_wp2
    go_ret
    exact ⟨by rw [e]; rfl, rfl⟩
theorem goesOn_any (o : Int) (w : World) : Calls Try.prog 48 #[.int .i64 o] w fun e w' => e = .returned (.bool (!ends o)) ∧ w' = w := by
  go_enter Try.func48, Try.ntmps48
  by_cases h : o = 0
  · subst h
    go_wp2
    go_ret
    exact ⟨rfl, rfl⟩
  · have h' : (o == 0) = false := by simpa using h
    by_cases h2 : o = 35
    · subst h2
      go_wp2
      go_ret
      exact ⟨rfl, rfl⟩
    · have h2' : (o == 35) = false := by simpa using h2
      by_cases h3 : o = 40
      · subst h3
        go_wp2
        go_ret
        exact ⟨rfl, rfl⟩
      · have h3' : (o == 40) = false := by simpa using h3
        have e : (!ends o) = true := by unfold ends; rw [h', h2', h3']; rfl
        rw [e]
        clear e
        go_wp2
        go_ret
        exact ⟨by first | rfl | (simp [bne, h, h2, h3]), rfl⟩
def twoI (o : Int) : Bool := (decide (13 ≤ o) && decide (o ≤ 22)) || (decide (26 ≤ o) && decide (o ≤ 33))
set_option maxRecDepth 100000 in
set_option maxHeartbeats 4000000 in
theorem two_any (o : Int) (h : 0 ≤ o ∧ o < 42) (w : World) :
    Calls Try.prog 60 #[.int .i64 o] w fun e w' => e = .returned (.bool (twoI o)) ∧ w' = w := by
  rcases all42 h with rfl | rfl | rfl | rfl | rfl | rfl | rfl | rfl | rfl | rfl | rfl | rfl | rfl | rfl | rfl | rfl | rfl | rfl | rfl | rfl | rfl | rfl | rfl | rfl | rfl | rfl | rfl | rfl | rfl | rfl | rfl | rfl | rfl | rfl | rfl | rfl | rfl | rfl | rfl | rfl | rfl | rfl
  all_goals
    clear h
    go_enter Try.func60, Try.ntmps60
    go_wp2
    go_ret
    exact ⟨rfl, rfl⟩
set_option maxRecDepth 100000 in
set_option maxHeartbeats 4000000 in
theorem rpops_any (o : Int) (h : 0 ≤ o ∧ o < 42) (w : World) :
    Calls Try.prog 51 #[.int .i64 o] w fun e w' => e = .returned (.int .i64 (pops o)) ∧ w' = w := by
  have HT := two_any o h
  rcases all42 h with rfl | rfl | rfl | rfl | rfl | rfl | rfl | rfl | rfl | rfl | rfl | rfl | rfl | rfl | rfl | rfl | rfl | rfl | rfl | rfl | rfl | rfl | rfl | rfl | rfl | rfl | rfl | rfl | rfl | rfl | rfl | rfl | rfl | rfl | rfl | rfl | rfl | rfl | rfl | rfl | rfl | rfl
  all_goals
    clear h
    simp only [twoI] at HT
    go_enter Try.func51, Try.ntmps51
    go_wp2_with (go_at_call 60; (with_reducible refine (HT _).mono ?_); rintro e w1 ⟨rfl, rfl⟩)
    go_ret
    exact ⟨rfl, rfl⟩
set_option maxRecDepth 100000 in
set_option maxHeartbeats 4000000 in
theorem rpushes_any (o : Int) (h : 0 ≤ o ∧ o < 42) (w : World) :
    Calls Try.prog 52 #[.int .i64 o] w fun e w' => e = .returned (.int .i64 (pushes o)) ∧ w' = w := by
  have HT := two_any o h
  rcases all42 h with rfl | rfl | rfl | rfl | rfl | rfl | rfl | rfl | rfl | rfl | rfl | rfl | rfl | rfl | rfl | rfl | rfl | rfl | rfl | rfl | rfl | rfl | rfl | rfl | rfl | rfl | rfl | rfl | rfl | rfl | rfl | rfl | rfl | rfl | rfl | rfl | rfl | rfl | rfl | rfl | rfl | rfl
  all_goals
    clear h
    simp only [twoI] at HT
    go_enter Try.func52, Try.ntmps52
    go_wp2_with (go_at_call 60; (with_reducible refine (HT _).mono ?_); rintro e w1 ⟨rfl, rfl⟩)
    go_ret
    exact ⟨rfl, rfl⟩
end Go.Proofs.Ytkgifanlodlilaa
