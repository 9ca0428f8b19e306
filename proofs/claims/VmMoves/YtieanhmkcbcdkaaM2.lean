import Derived.Test.YtieanhmkcbcdkaaV2
namespace Go.Proofs.Ytieanhmkcbcdkaa
open Go.ChangeShapes Go.WideShapes Go.ChangeAt Go.RowKit
set_option linter.unusedVariables false

theorem truth_any (b : Bool) (w : World) : Calls Try.prog 45 #[.bool b] w fun e w' => e = .returned (.int .i64 (if b then 1 else 0)) ∧ w' = w := by
  go_enter Try.func45, Try.ntmps45
  rcases b with _ | _
  all_goals
    go_wp2
    go_ret
    exact ⟨rfl, rfl⟩
/-- an instruction with two values -/
def pairV (o a b : Int) : Int × Int :=
  if o = 13 then (wrap64 (a + b), 0) else if o = 14 then (wrap64 (a - b), 0) else if o = 15 then (wrap64 (a * b), 0) else if o = 16 then (if b = 0 then (0, 201) else (wrap64 (a.tdiv b), 0)) else if o = 17 then (if b = 0 then (0, 201) else (a.tmod b, 0)) else if o = 18 then (bits BinOp.and IntKind.i64 a b, 0) else if o = 19 then (bits BinOp.or IntKind.i64 a b, 0) else if o = 20 then (bits BinOp.xor IntKind.i64 a b, 0) else if o = 21 then (if b < 0 then (0, 202) else (IntKind.i64.wrap (a * 2 ^ min b.toNat 64), 0)) else if o = 22 then (if b < 0 then (0, 202) else (a / 2 ^ min b.toNat 64, 0)) else if o = 26 then (if a = b then 1 else 0, 0) else if o = 27 then (if a = b then 0 else 1, 0) else if o = 28 then (if a < b then 1 else 0, 0) else if o = 29 then (if a ≤ b then 1 else 0, 0) else if o = 30 then (if b < a then 1 else 0, 0) else if o = 31 then (if b ≤ a then 1 else 0, 0) else if o = 32 then (if b < a then b else a, 0) else if o = 33 then (if a < b then b else a, 0) else (0, 0)
def pairF (o : Int) : Nat := if o = 13 then 34 else if o = 14 then 35 else if o = 15 then 36 else if o = 16 then 37 else if o = 17 then 38 else if o = 18 then 39 else if o = 19 then 40 else if o = 20 then 41 else if o = 21 then 42 else if o = 22 then 43 else if o = 26 then 44 else if o = 27 then 46 else if o = 28 then 47 else if o = 29 then 48 else if o = 30 then 49 else if o = 31 then 50 else if o = 32 then 51 else if o = 33 then 52 else 0
set_option maxRecDepth 10000 in
theorem pair13_any (a b : Int) (w : World) : Calls Try.prog 34 #[.int .i64 a, .int .i64 b] w fun e w' => e = .returned (.tuple #[.int .i64 ((wrap64 (a + b), 0) : Int × Int).1, .int .i64 ((wrap64 (a + b), 0) : Int × Int).2]) ∧ w' = w := by
  go_enter Try.func34, Try.ntmps34
  go_wp2_with ((go_at_call 45; (with_reducible refine (truth_any _ _).mono ?_); rintro e w1 ⟨rfl, rfl⟩))
  go_ret2
  exact ⟨by first | rfl | (simp; done), rfl⟩
set_option maxRecDepth 10000 in
theorem pair14_any (a b : Int) (w : World) : Calls Try.prog 35 #[.int .i64 a, .int .i64 b] w fun e w' => e = .returned (.tuple #[.int .i64 ((wrap64 (a - b), 0) : Int × Int).1, .int .i64 ((wrap64 (a - b), 0) : Int × Int).2]) ∧ w' = w := by
  go_enter Try.func35, Try.ntmps35
  go_wp2_with ((go_at_call 45; (with_reducible refine (truth_any _ _).mono ?_); rintro e w1 ⟨rfl, rfl⟩))
  go_ret2
  exact ⟨by first | rfl | (simp; done), rfl⟩
set_option maxRecDepth 10000 in
theorem pair15_any (a b : Int) (w : World) : Calls Try.prog 36 #[.int .i64 a, .int .i64 b] w fun e w' => e = .returned (.tuple #[.int .i64 ((wrap64 (a * b), 0) : Int × Int).1, .int .i64 ((wrap64 (a * b), 0) : Int × Int).2]) ∧ w' = w := by
  go_enter Try.func36, Try.ntmps36
  go_wp2_with ((go_at_call 45; (with_reducible refine (truth_any _ _).mono ?_); rintro e w1 ⟨rfl, rfl⟩))
  go_ret2
  exact ⟨by first | rfl | (simp; done), rfl⟩
set_option maxRecDepth 10000 in
theorem pair16_any (a b : Int) (w : World) : Calls Try.prog 37 #[.int .i64 a, .int .i64 b] w fun e w' => e = .returned (.tuple #[.int .i64 ((if b = 0 then (0, 201) else (wrap64 (a.tdiv b), 0)) : Int × Int).1, .int .i64 ((if b = 0 then (0, 201) else (wrap64 (a.tdiv b), 0)) : Int × Int).2]) ∧ w' = w := by
  by_cases h : b = 0
  · subst h
    rw [if_pos rfl]
    go_enter Try.func37, Try.ntmps37
    go_wp2_with ((go_at_call 45; (with_reducible refine (truth_any _ _).mono ?_); rintro e w1 ⟨rfl, rfl⟩))
    go_ret2
    exact ⟨by first | rfl | (simp; done), rfl⟩
  · have h' : (b == 0) = false := by simpa using h
    rw [if_neg h]
    go_enter Try.func37, Try.ntmps37
    go_wp2_with ((go_at_call 45; (with_reducible refine (truth_any _ _).mono ?_); rintro e w1 ⟨rfl, rfl⟩))
    go_ret2
    exact ⟨by first | rfl | (simp; done), rfl⟩
set_option maxRecDepth 10000 in
theorem pair17_any (a b : Int) (w : World) : Calls Try.prog 38 #[.int .i64 a, .int .i64 b] w fun e w' => e = .returned (.tuple #[.int .i64 ((if b = 0 then (0, 201) else (a.tmod b, 0)) : Int × Int).1, .int .i64 ((if b = 0 then (0, 201) else (a.tmod b, 0)) : Int × Int).2]) ∧ w' = w := by
  by_cases h : b = 0
  · subst h
    rw [if_pos rfl]
    go_enter Try.func38, Try.ntmps38
    go_wp2_with ((go_at_call 45; (with_reducible refine (truth_any _ _).mono ?_); rintro e w1 ⟨rfl, rfl⟩))
    go_ret2
    exact ⟨by first | rfl | (simp; done), rfl⟩
  · have h' : (b == 0) = false := by simpa using h
    rw [if_neg h]
    go_enter Try.func38, Try.ntmps38
    go_wp2_with ((go_at_call 45; (with_reducible refine (truth_any _ _).mono ?_); rintro e w1 ⟨rfl, rfl⟩))
    go_ret2
    exact ⟨by first | rfl | (simp; done), rfl⟩
set_option maxRecDepth 10000 in
theorem pair18_any (a b : Int) (w : World) : Calls Try.prog 39 #[.int .i64 a, .int .i64 b] w fun e w' => e = .returned (.tuple #[.int .i64 ((bits BinOp.and IntKind.i64 a b, 0) : Int × Int).1, .int .i64 ((bits BinOp.and IntKind.i64 a b, 0) : Int × Int).2]) ∧ w' = w := by
  go_enter Try.func39, Try.ntmps39
  go_wp2_with ((go_at_call 45; (with_reducible refine (truth_any _ _).mono ?_); rintro e w1 ⟨rfl, rfl⟩))
  go_ret2
  exact ⟨by first | rfl | (simp; done), rfl⟩
set_option maxRecDepth 10000 in
theorem pair19_any (a b : Int) (w : World) : Calls Try.prog 40 #[.int .i64 a, .int .i64 b] w fun e w' => e = .returned (.tuple #[.int .i64 ((bits BinOp.or IntKind.i64 a b, 0) : Int × Int).1, .int .i64 ((bits BinOp.or IntKind.i64 a b, 0) : Int × Int).2]) ∧ w' = w := by
  go_enter Try.func40, Try.ntmps40
  go_wp2_with ((go_at_call 45; (with_reducible refine (truth_any _ _).mono ?_); rintro e w1 ⟨rfl, rfl⟩))
  go_ret2
  exact ⟨by first | rfl | (simp; done), rfl⟩
set_option maxRecDepth 10000 in
theorem pair20_any (a b : Int) (w : World) : Calls Try.prog 41 #[.int .i64 a, .int .i64 b] w fun e w' => e = .returned (.tuple #[.int .i64 ((bits BinOp.xor IntKind.i64 a b, 0) : Int × Int).1, .int .i64 ((bits BinOp.xor IntKind.i64 a b, 0) : Int × Int).2]) ∧ w' = w := by
  go_enter Try.func41, Try.ntmps41
  go_wp2_with ((go_at_call 45; (with_reducible refine (truth_any _ _).mono ?_); rintro e w1 ⟨rfl, rfl⟩))
  go_ret2
  exact ⟨by first | rfl | (simp; done), rfl⟩
set_option maxRecDepth 10000 in
theorem pair21_any (a b : Int) (w : World) : Calls Try.prog 42 #[.int .i64 a, .int .i64 b] w fun e w' => e = .returned (.tuple #[.int .i64 ((if b < 0 then (0, 202) else (IntKind.i64.wrap (a * 2 ^ min b.toNat 64), 0)) : Int × Int).1, .int .i64 ((if b < 0 then (0, 202) else (IntKind.i64.wrap (a * 2 ^ min b.toNat 64), 0)) : Int × Int).2]) ∧ w' = w := by
  by_cases h : b < 0
  · rw [if_pos h]
    go_enter Try.func42, Try.ntmps42
    go_wp2_with ((go_at_call 45; (with_reducible refine (truth_any _ _).mono ?_); rintro e w1 ⟨rfl, rfl⟩))
    go_ret2
    exact ⟨by first | rfl | (simp; done), rfl⟩
  · rw [if_neg h]
    go_enter Try.func42, Try.ntmps42
    go_wp2_with ((go_at_call 45; (with_reducible refine (truth_any _ _).mono ?_); rintro e w1 ⟨rfl, rfl⟩))
    go_ret2
    exact ⟨by first | rfl | (simp; done), rfl⟩
set_option maxRecDepth 10000 in
theorem pair22_any (a b : Int) (w : World) : Calls Try.prog 43 #[.int .i64 a, .int .i64 b] w fun e w' => e = .returned (.tuple #[.int .i64 ((if b < 0 then (0, 202) else (a / 2 ^ min b.toNat 64, 0)) : Int × Int).1, .int .i64 ((if b < 0 then (0, 202) else (a / 2 ^ min b.toNat 64, 0)) : Int × Int).2]) ∧ w' = w := by
  by_cases h : b < 0
  · rw [if_pos h]
    go_enter Try.func43, Try.ntmps43
    go_wp2_with ((go_at_call 45; (with_reducible refine (truth_any _ _).mono ?_); rintro e w1 ⟨rfl, rfl⟩))
    go_ret2
    exact ⟨by first | rfl | (simp; done), rfl⟩
  · rw [if_neg h]
    go_enter Try.func43, Try.ntmps43
    go_wp2_with ((go_at_call 45; (with_reducible refine (truth_any _ _).mono ?_); rintro e w1 ⟨rfl, rfl⟩))
    go_ret2
    exact ⟨by first | rfl | (simp; done), rfl⟩
set_option maxRecDepth 10000 in
theorem pair26_any (a b : Int) (w : World) : Calls Try.prog 44 #[.int .i64 a, .int .i64 b] w fun e w' => e = .returned (.tuple #[.int .i64 ((if a = b then 1 else 0, 0) : Int × Int).1, .int .i64 ((if a = b then 1 else 0, 0) : Int × Int).2]) ∧ w' = w := by
  by_cases h : a = b
  · subst h
    have h' : (a == a) = true := by simp
    rw [if_pos rfl]
    go_enter Try.func44, Try.ntmps44
    go_wp2_with ((go_at_call 45; (with_reducible refine (truth_any _ _).mono ?_); rintro e w1 ⟨rfl, rfl⟩))
    go_ret2
    exact ⟨by first | rfl | (simp; done), rfl⟩
  · have h' : (a == b) = false := by simpa using h
    rw [if_neg h]
    go_enter Try.func44, Try.ntmps44
    go_wp2_with ((go_at_call 45; (with_reducible refine (truth_any _ _).mono ?_); rintro e w1 ⟨rfl, rfl⟩))
    go_ret2
    exact ⟨by first | rfl | (simp; done), rfl⟩
set_option maxRecDepth 10000 in
theorem pair27_any (a b : Int) (w : World) : Calls Try.prog 46 #[.int .i64 a, .int .i64 b] w fun e w' => e = .returned (.tuple #[.int .i64 ((if a = b then 0 else 1, 0) : Int × Int).1, .int .i64 ((if a = b then 0 else 1, 0) : Int × Int).2]) ∧ w' = w := by
  by_cases h : a = b
  · subst h
    have h' : (a == a) = true := by simp
    rw [if_pos rfl]
    go_enter Try.func46, Try.ntmps46
    go_wp2_with ((go_at_call 45; (with_reducible refine (truth_any _ _).mono ?_); rintro e w1 ⟨rfl, rfl⟩))
    go_ret2
    exact ⟨by first | rfl | (simp; done), rfl⟩
  · have h' : (a == b) = false := by simpa using h
    rw [if_neg h]
    go_enter Try.func46, Try.ntmps46
    go_wp2_with ((go_at_call 45; (with_reducible refine (truth_any _ _).mono ?_); rintro e w1 ⟨rfl, rfl⟩))
    go_ret2
    exact ⟨by first | rfl | (simp; done), rfl⟩
set_option maxRecDepth 10000 in
theorem pair28_any (a b : Int) (w : World) : Calls Try.prog 47 #[.int .i64 a, .int .i64 b] w fun e w' => e = .returned (.tuple #[.int .i64 ((if a < b then 1 else 0, 0) : Int × Int).1, .int .i64 ((if a < b then 1 else 0, 0) : Int × Int).2]) ∧ w' = w := by
  by_cases h : a < b
  · rw [if_pos h]
    go_enter Try.func47, Try.ntmps47
    go_wp2_with ((go_at_call 45; (with_reducible refine (truth_any _ _).mono ?_); rintro e w1 ⟨rfl, rfl⟩))
    go_ret2
    exact ⟨by first | rfl | (simp; done), rfl⟩
  · rw [if_neg h]
    go_enter Try.func47, Try.ntmps47
    go_wp2_with ((go_at_call 45; (with_reducible refine (truth_any _ _).mono ?_); rintro e w1 ⟨rfl, rfl⟩))
    go_ret2
    exact ⟨by first | rfl | (simp; done), rfl⟩
set_option maxRecDepth 10000 in
theorem pair29_any (a b : Int) (w : World) : Calls Try.prog 48 #[.int .i64 a, .int .i64 b] w fun e w' => e = .returned (.tuple #[.int .i64 ((if a ≤ b then 1 else 0, 0) : Int × Int).1, .int .i64 ((if a ≤ b then 1 else 0, 0) : Int × Int).2]) ∧ w' = w := by
  by_cases h : a ≤ b
  · rw [if_pos h]
    go_enter Try.func48, Try.ntmps48
    go_wp2_with ((go_at_call 45; (with_reducible refine (truth_any _ _).mono ?_); rintro e w1 ⟨rfl, rfl⟩))
    go_ret2
    exact ⟨by first | rfl | (simp; done), rfl⟩
  · rw [if_neg h]
    go_enter Try.func48, Try.ntmps48
    go_wp2_with ((go_at_call 45; (with_reducible refine (truth_any _ _).mono ?_); rintro e w1 ⟨rfl, rfl⟩))
    go_ret2
    exact ⟨by first | rfl | (simp; done), rfl⟩
set_option maxRecDepth 10000 in
theorem pair30_any (a b : Int) (w : World) : Calls Try.prog 49 #[.int .i64 a, .int .i64 b] w fun e w' => e = .returned (.tuple #[.int .i64 ((if b < a then 1 else 0, 0) : Int × Int).1, .int .i64 ((if b < a then 1 else 0, 0) : Int × Int).2]) ∧ w' = w := by
  by_cases h : b < a
  · rw [if_pos h]
    go_enter Try.func49, Try.ntmps49
    go_wp2_with ((go_at_call 45; (with_reducible refine (truth_any _ _).mono ?_); rintro e w1 ⟨rfl, rfl⟩))
    go_ret2
    exact ⟨by first | rfl | (simp; done), rfl⟩
  · rw [if_neg h]
    go_enter Try.func49, Try.ntmps49
    go_wp2_with ((go_at_call 45; (with_reducible refine (truth_any _ _).mono ?_); rintro e w1 ⟨rfl, rfl⟩))
    go_ret2
    exact ⟨by first | rfl | (simp; done), rfl⟩
set_option maxRecDepth 10000 in
theorem pair31_any (a b : Int) (w : World) : Calls Try.prog 50 #[.int .i64 a, .int .i64 b] w fun e w' => e = .returned (.tuple #[.int .i64 ((if b ≤ a then 1 else 0, 0) : Int × Int).1, .int .i64 ((if b ≤ a then 1 else 0, 0) : Int × Int).2]) ∧ w' = w := by
  by_cases h : b ≤ a
  · rw [if_pos h]
    go_enter Try.func50, Try.ntmps50
    go_wp2_with ((go_at_call 45; (with_reducible refine (truth_any _ _).mono ?_); rintro e w1 ⟨rfl, rfl⟩))
    go_ret2
    exact ⟨by first | rfl | (simp; done), rfl⟩
  · rw [if_neg h]
    go_enter Try.func50, Try.ntmps50
    go_wp2_with ((go_at_call 45; (with_reducible refine (truth_any _ _).mono ?_); rintro e w1 ⟨rfl, rfl⟩))
    go_ret2
    exact ⟨by first | rfl | (simp; done), rfl⟩
set_option maxRecDepth 10000 in
theorem pair32_any (a b : Int) (w : World) : Calls Try.prog 51 #[.int .i64 a, .int .i64 b] w fun e w' => e = .returned (.tuple #[.int .i64 ((if b < a then b else a, 0) : Int × Int).1, .int .i64 ((if b < a then b else a, 0) : Int × Int).2]) ∧ w' = w := by
  by_cases h : b < a
  · rw [if_pos h]
    go_enter Try.func51, Try.ntmps51
    go_wp2_with ((go_at_call 45; (with_reducible refine (truth_any _ _).mono ?_); rintro e w1 ⟨rfl, rfl⟩))
    go_ret2
    exact ⟨by first | rfl | (simp; done), rfl⟩
  · rw [if_neg h]
    go_enter Try.func51, Try.ntmps51
    go_wp2_with ((go_at_call 45; (with_reducible refine (truth_any _ _).mono ?_); rintro e w1 ⟨rfl, rfl⟩))
    go_ret2
    exact ⟨by first | rfl | (simp; done), rfl⟩
set_option maxRecDepth 10000 in
theorem pair33_any (a b : Int) (w : World) : Calls Try.prog 52 #[.int .i64 a, .int .i64 b] w fun e w' => e = .returned (.tuple #[.int .i64 ((if a < b then b else a, 0) : Int × Int).1, .int .i64 ((if a < b then b else a, 0) : Int × Int).2]) ∧ w' = w := by
  by_cases h : a < b
  · rw [if_pos h]
    go_enter Try.func52, Try.ntmps52
    go_wp2_with ((go_at_call 45; (with_reducible refine (truth_any _ _).mono ?_); rintro e w1 ⟨rfl, rfl⟩))
    go_ret2
    exact ⟨by first | rfl | (simp; done), rfl⟩
  · rw [if_neg h]
    go_enter Try.func52, Try.ntmps52
    go_wp2_with ((go_at_call 45; (with_reducible refine (truth_any _ _).mono ?_); rintro e w1 ⟨rfl, rfl⟩))
    go_ret2
    exact ⟨by first | rfl | (simp; done), rfl⟩
end Go.Proofs.Ytieanhmkcbcdkaa
