import Derived.Test.YtieanhmkcbcdkaaM27
import Derived.Test.YtieanhmkcbcdkaaM8
import Derived.WalkMore
namespace Go.Proofs.Ytieanhmkcbcdkaa
open Go.ChangeShapes Go.WideShapes Go.ChangeAt Go.RowKit
set_option linter.unusedVariables false
set_option linter.unusedSimpArgs false

set_option maxRecDepth 100000 in
theorem rk_13 (a b : Int) (hb : IntKind.u64.wrap b = b ∨ b < 0) (w : World) : Calls Try.prog 19 #[.int .i64 13, .int .i64 a, .int .i64 b] w fun e w' => e = .returned (.tuple #[.int .i64 (((wrap64 (a + b), 0)) : Int × Int).1, .int .i64 (((wrap64 (a + b), 0)) : Int × Int).2]) ∧ w' = w := by
  clear hb
  go_enter Try.func19, Try.ntmps19
  go_wp2
  go_ret2
  exact ⟨by first | rfl | (simp; done), rfl⟩
set_option maxRecDepth 100000 in
theorem rk_14 (a b : Int) (hb : IntKind.u64.wrap b = b ∨ b < 0) (w : World) : Calls Try.prog 19 #[.int .i64 14, .int .i64 a, .int .i64 b] w fun e w' => e = .returned (.tuple #[.int .i64 (((wrap64 (a - b), 0)) : Int × Int).1, .int .i64 (((wrap64 (a - b), 0)) : Int × Int).2]) ∧ w' = w := by
  clear hb
  go_enter Try.func19, Try.ntmps19
  go_wp2
  go_ret2
  exact ⟨by first | rfl | (simp; done), rfl⟩
set_option maxRecDepth 100000 in
theorem rk_15 (a b : Int) (hb : IntKind.u64.wrap b = b ∨ b < 0) (w : World) : Calls Try.prog 19 #[.int .i64 15, .int .i64 a, .int .i64 b] w fun e w' => e = .returned (.tuple #[.int .i64 (((wrap64 (a * b), 0)) : Int × Int).1, .int .i64 (((wrap64 (a * b), 0)) : Int × Int).2]) ∧ w' = w := by
  clear hb
  go_enter Try.func19, Try.ntmps19
  go_wp2
  go_ret2
  exact ⟨by first | rfl | (simp; done), rfl⟩
set_option maxRecDepth 100000 in
theorem rk_16 (a b : Int) (hb : IntKind.u64.wrap b = b ∨ b < 0) (w : World) : Calls Try.prog 19 #[.int .i64 16, .int .i64 a, .int .i64 b] w fun e w' => e = .returned (.tuple #[.int .i64 (((if b = 0 then (0, 201) else (wrap64 (a.tdiv b), 0))) : Int × Int).1, .int .i64 (((if b = 0 then (0, 201) else (wrap64 (a.tdiv b), 0))) : Int × Int).2]) ∧ w' = w := by
  by_cases h : b = 0
  · subst h
    rw [if_pos rfl]
    clear hb
    go_enter Try.func19, Try.ntmps19
    go_wp2
    go_ret2
    exact ⟨by first | rfl | (simp; done), rfl⟩
  · have h' : (b == 0) = false := by simpa using h
    rw [if_neg h]
    clear hb
    go_enter Try.func19, Try.ntmps19
    go_wp2
    go_ret2
    exact ⟨by first | rfl | (simp; done), rfl⟩
set_option maxRecDepth 100000 in
theorem rk_17 (a b : Int) (hb : IntKind.u64.wrap b = b ∨ b < 0) (w : World) : Calls Try.prog 19 #[.int .i64 17, .int .i64 a, .int .i64 b] w fun e w' => e = .returned (.tuple #[.int .i64 (((if b = 0 then (0, 201) else (a.tmod b, 0))) : Int × Int).1, .int .i64 (((if b = 0 then (0, 201) else (a.tmod b, 0))) : Int × Int).2]) ∧ w' = w := by
  by_cases h : b = 0
  · subst h
    rw [if_pos rfl]
    clear hb
    go_enter Try.func19, Try.ntmps19
    go_wp2
    go_ret2
    exact ⟨by first | rfl | (simp; done), rfl⟩
  · have h' : (b == 0) = false := by simpa using h
    rw [if_neg h]
    clear hb
    go_enter Try.func19, Try.ntmps19
    go_wp2
    go_ret2
    exact ⟨by first | rfl | (simp; done), rfl⟩
set_option maxRecDepth 100000 in
theorem rk_18 (a b : Int) (hb : IntKind.u64.wrap b = b ∨ b < 0) (w : World) : Calls Try.prog 19 #[.int .i64 18, .int .i64 a, .int .i64 b] w fun e w' => e = .returned (.tuple #[.int .i64 (((bits BinOp.and IntKind.i64 a b, 0)) : Int × Int).1, .int .i64 (((bits BinOp.and IntKind.i64 a b, 0)) : Int × Int).2]) ∧ w' = w := by
  clear hb
  go_enter Try.func19, Try.ntmps19
  go_wp2
  go_ret2
  exact ⟨by first | rfl | (simp; done), rfl⟩
set_option maxRecDepth 100000 in
theorem rk_19 (a b : Int) (hb : IntKind.u64.wrap b = b ∨ b < 0) (w : World) : Calls Try.prog 19 #[.int .i64 19, .int .i64 a, .int .i64 b] w fun e w' => e = .returned (.tuple #[.int .i64 (((bits BinOp.or IntKind.i64 a b, 0)) : Int × Int).1, .int .i64 (((bits BinOp.or IntKind.i64 a b, 0)) : Int × Int).2]) ∧ w' = w := by
  clear hb
  go_enter Try.func19, Try.ntmps19
  go_wp2
  go_ret2
  exact ⟨by first | rfl | (simp; done), rfl⟩
set_option maxRecDepth 100000 in
theorem rk_20 (a b : Int) (hb : IntKind.u64.wrap b = b ∨ b < 0) (w : World) : Calls Try.prog 19 #[.int .i64 20, .int .i64 a, .int .i64 b] w fun e w' => e = .returned (.tuple #[.int .i64 (((bits BinOp.xor IntKind.i64 a b, 0)) : Int × Int).1, .int .i64 (((bits BinOp.xor IntKind.i64 a b, 0)) : Int × Int).2]) ∧ w' = w := by
  clear hb
  go_enter Try.func19, Try.ntmps19
  go_wp2
  go_ret2
  exact ⟨by first | rfl | (simp; done), rfl⟩
set_option maxRecDepth 100000 in
theorem rk_21 (a b : Int) (hb : IntKind.u64.wrap b = b ∨ b < 0) (w : World) : Calls Try.prog 19 #[.int .i64 21, .int .i64 a, .int .i64 b] w fun e w' => e = .returned (.tuple #[.int .i64 (((if b < 0 then (0, 202) else (IntKind.i64.wrap (a * 2 ^ min b.toNat 64), 0))) : Int × Int).1, .int .i64 (((if b < 0 then (0, 202) else (IntKind.i64.wrap (a * 2 ^ min b.toNat 64), 0))) : Int × Int).2]) ∧ w' = w := by
  by_cases h : b < 0
  · rw [if_pos h]
    have h' : decide (b < 0) = true := decide_eq_true h
    clear hb
    go_enter Try.func19, Try.ntmps19
    go_wp2
    go_ret2
    exact ⟨by first | rfl | (simp; done), rfl⟩
  · rw [if_neg h]
    have hw := hb.resolve_right h
    have h' : decide (b < 0) = false := decide_eq_false h
    clear hb
    go_enter Try.func19, Try.ntmps19
    go_wp2
    go_ret2
    exact ⟨by first | rfl | (simp; done), rfl⟩
set_option maxRecDepth 100000 in
theorem rk_22 (a b : Int) (hb : IntKind.u64.wrap b = b ∨ b < 0) (w : World) : Calls Try.prog 19 #[.int .i64 22, .int .i64 a, .int .i64 b] w fun e w' => e = .returned (.tuple #[.int .i64 (((if b < 0 then (0, 202) else (a / 2 ^ min b.toNat 64, 0))) : Int × Int).1, .int .i64 (((if b < 0 then (0, 202) else (a / 2 ^ min b.toNat 64, 0))) : Int × Int).2]) ∧ w' = w := by
  by_cases h : b < 0
  · rw [if_pos h]
    have h' : decide (b < 0) = true := decide_eq_true h
    clear hb
    go_enter Try.func19, Try.ntmps19
    go_wp2
    go_ret2
    exact ⟨by first | rfl | (simp; done), rfl⟩
  · rw [if_neg h]
    have hw := hb.resolve_right h
    have h' : decide (b < 0) = false := decide_eq_false h
    clear hb
    go_enter Try.func19, Try.ntmps19
    go_wp2
    go_ret2
    exact ⟨by first | rfl | (simp; done), rfl⟩
set_option maxRecDepth 100000 in
theorem ord_26 (a b : Int) (w : World) : Calls Try.prog 32 #[.int .i64 26, .int .i64 a, .int .i64 b] w fun e w' => e = .returned (.int .i64 (if a = b then 1 else 0)) ∧ w' = w := by
  by_cases h : a = b
  · rw [if_pos h]
    have hq : (a == b) = true := by simpa using h
    clear h
    go_enter Try.func32, Try.ntmps32
    go_wp2
    try rw [Exit.noGoto_ret]
    go_ret
    exact ⟨rfl, rfl⟩
  · rw [if_neg h]
    have hq : (a == b) = false := by simpa using h
    clear h
    go_enter Try.func32, Try.ntmps32
    go_wp2
    try rw [Exit.noGoto_ret]
    go_ret
    exact ⟨rfl, rfl⟩
set_option maxRecDepth 100000 in
theorem rk_26 (a b : Int) (hb : IntKind.u64.wrap b = b ∨ b < 0) (w : World) : Calls Try.prog 19 #[.int .i64 26, .int .i64 a, .int .i64 b] w fun e w' => e = .returned (.tuple #[.int .i64 (((if a = b then 1 else 0, 0)) : Int × Int).1, .int .i64 (((if a = b then 1 else 0, 0)) : Int × Int).2]) ∧ w' = w := by
  clear hb
  have HO := ord_26 a b
  dsimp only
  generalize (if a = b then 1 else 0) = x at HO ⊢
  go_enter Try.func19, Try.ntmps19
  go_wp2_with ((go_at_call 32; (with_reducible refine (HO _).mono ?_); rintro e w1 ⟨rfl, rfl⟩))
  all_goals
    go_ret2
    exact ⟨by first | rfl | (simp; done), rfl⟩
set_option maxRecDepth 100000 in
theorem ord_27 (a b : Int) (w : World) : Calls Try.prog 32 #[.int .i64 27, .int .i64 a, .int .i64 b] w fun e w' => e = .returned (.int .i64 (if a = b then 0 else 1)) ∧ w' = w := by
  by_cases h : a = b
  · rw [if_pos h]
    have hq : (a != b) = false := by simpa using h
    clear h
    go_enter Try.func32, Try.ntmps32
    go_wp2
    try rw [Exit.noGoto_ret]
    go_ret
    exact ⟨rfl, rfl⟩
  · rw [if_neg h]
    have hq : (a != b) = true := by simpa using h
    clear h
    go_enter Try.func32, Try.ntmps32
    go_wp2
    try rw [Exit.noGoto_ret]
    go_ret
    exact ⟨rfl, rfl⟩
set_option maxRecDepth 100000 in
theorem rk_27 (a b : Int) (hb : IntKind.u64.wrap b = b ∨ b < 0) (w : World) : Calls Try.prog 19 #[.int .i64 27, .int .i64 a, .int .i64 b] w fun e w' => e = .returned (.tuple #[.int .i64 (((if a = b then 0 else 1, 0)) : Int × Int).1, .int .i64 (((if a = b then 0 else 1, 0)) : Int × Int).2]) ∧ w' = w := by
  clear hb
  have HO := ord_27 a b
  dsimp only
  generalize (if a = b then 0 else 1) = x at HO ⊢
  go_enter Try.func19, Try.ntmps19
  go_wp2_with ((go_at_call 32; (with_reducible refine (HO _).mono ?_); rintro e w1 ⟨rfl, rfl⟩))
  all_goals
    go_ret2
    exact ⟨by first | rfl | (simp; done), rfl⟩
set_option maxRecDepth 100000 in
theorem ord_28 (a b : Int) (w : World) : Calls Try.prog 32 #[.int .i64 28, .int .i64 a, .int .i64 b] w fun e w' => e = .returned (.int .i64 (if a < b then 1 else 0)) ∧ w' = w := by
  by_cases h : a < b
  · rw [if_pos h]
    have hq : decide (a < b) = true := by simpa using h
    clear h
    go_enter Try.func32, Try.ntmps32
    go_wp2
    try rw [Exit.noGoto_ret]
    go_ret
    exact ⟨rfl, rfl⟩
  · rw [if_neg h]
    have hq : decide (a < b) = false := by simpa using h
    clear h
    go_enter Try.func32, Try.ntmps32
    go_wp2
    try rw [Exit.noGoto_ret]
    go_ret
    exact ⟨rfl, rfl⟩
set_option maxRecDepth 100000 in
theorem rk_28 (a b : Int) (hb : IntKind.u64.wrap b = b ∨ b < 0) (w : World) : Calls Try.prog 19 #[.int .i64 28, .int .i64 a, .int .i64 b] w fun e w' => e = .returned (.tuple #[.int .i64 (((if a < b then 1 else 0, 0)) : Int × Int).1, .int .i64 (((if a < b then 1 else 0, 0)) : Int × Int).2]) ∧ w' = w := by
  clear hb
  have HO := ord_28 a b
  dsimp only
  generalize (if a < b then 1 else 0) = x at HO ⊢
  go_enter Try.func19, Try.ntmps19
  go_wp2_with ((go_at_call 32; (with_reducible refine (HO _).mono ?_); rintro e w1 ⟨rfl, rfl⟩))
  all_goals
    go_ret2
    exact ⟨by first | rfl | (simp; done), rfl⟩
set_option maxRecDepth 100000 in
theorem ord_29 (a b : Int) (w : World) : Calls Try.prog 32 #[.int .i64 29, .int .i64 a, .int .i64 b] w fun e w' => e = .returned (.int .i64 (if a ≤ b then 1 else 0)) ∧ w' = w := by
  by_cases h : a ≤ b
  · rw [if_pos h]
    have hq : decide (a ≤ b) = true := by simpa using h
    clear h
    go_enter Try.func32, Try.ntmps32
    go_wp2
    try rw [Exit.noGoto_ret]
    go_ret
    exact ⟨rfl, rfl⟩
  · rw [if_neg h]
    have hq : decide (a ≤ b) = false := by simpa using h
    clear h
    go_enter Try.func32, Try.ntmps32
    go_wp2
    try rw [Exit.noGoto_ret]
    go_ret
    exact ⟨rfl, rfl⟩
set_option maxRecDepth 100000 in
theorem rk_29 (a b : Int) (hb : IntKind.u64.wrap b = b ∨ b < 0) (w : World) : Calls Try.prog 19 #[.int .i64 29, .int .i64 a, .int .i64 b] w fun e w' => e = .returned (.tuple #[.int .i64 (((if a ≤ b then 1 else 0, 0)) : Int × Int).1, .int .i64 (((if a ≤ b then 1 else 0, 0)) : Int × Int).2]) ∧ w' = w := by
  clear hb
  have HO := ord_29 a b
  dsimp only
  generalize (if a ≤ b then 1 else 0) = x at HO ⊢
  go_enter Try.func19, Try.ntmps19
  go_wp2_with ((go_at_call 32; (with_reducible refine (HO _).mono ?_); rintro e w1 ⟨rfl, rfl⟩))
  all_goals
    go_ret2
    exact ⟨by first | rfl | (simp; done), rfl⟩
set_option maxRecDepth 100000 in
theorem ord_30 (a b : Int) (w : World) : Calls Try.prog 32 #[.int .i64 30, .int .i64 a, .int .i64 b] w fun e w' => e = .returned (.int .i64 (if b < a then 1 else 0)) ∧ w' = w := by
  by_cases h : b < a
  · rw [if_pos h]
    have hq : decide (b < a) = true := by simpa using h
    clear h
    go_enter Try.func32, Try.ntmps32
    go_wp2
    try rw [Exit.noGoto_ret]
    go_ret
    exact ⟨rfl, rfl⟩
  · rw [if_neg h]
    have hq : decide (b < a) = false := by simpa using h
    clear h
    go_enter Try.func32, Try.ntmps32
    go_wp2
    try rw [Exit.noGoto_ret]
    go_ret
    exact ⟨rfl, rfl⟩
set_option maxRecDepth 100000 in
theorem rk_30 (a b : Int) (hb : IntKind.u64.wrap b = b ∨ b < 0) (w : World) : Calls Try.prog 19 #[.int .i64 30, .int .i64 a, .int .i64 b] w fun e w' => e = .returned (.tuple #[.int .i64 (((if b < a then 1 else 0, 0)) : Int × Int).1, .int .i64 (((if b < a then 1 else 0, 0)) : Int × Int).2]) ∧ w' = w := by
  clear hb
  have HO := ord_30 a b
  dsimp only
  generalize (if b < a then 1 else 0) = x at HO ⊢
  go_enter Try.func19, Try.ntmps19
  go_wp2_with ((go_at_call 32; (with_reducible refine (HO _).mono ?_); rintro e w1 ⟨rfl, rfl⟩))
  all_goals
    go_ret2
    exact ⟨by first | rfl | (simp; done), rfl⟩
set_option maxRecDepth 100000 in
theorem ord_31 (a b : Int) (w : World) : Calls Try.prog 32 #[.int .i64 31, .int .i64 a, .int .i64 b] w fun e w' => e = .returned (.int .i64 (if b ≤ a then 1 else 0)) ∧ w' = w := by
  by_cases h : b ≤ a
  · rw [if_pos h]
    have hq : decide (b ≤ a) = true := by simpa using h
    clear h
    go_enter Try.func32, Try.ntmps32
    go_wp2
    try rw [Exit.noGoto_ret]
    go_ret
    exact ⟨rfl, rfl⟩
  · rw [if_neg h]
    have hq : decide (b ≤ a) = false := by simpa using h
    clear h
    go_enter Try.func32, Try.ntmps32
    go_wp2
    try rw [Exit.noGoto_ret]
    go_ret
    exact ⟨rfl, rfl⟩
set_option maxRecDepth 100000 in
theorem rk_31 (a b : Int) (hb : IntKind.u64.wrap b = b ∨ b < 0) (w : World) : Calls Try.prog 19 #[.int .i64 31, .int .i64 a, .int .i64 b] w fun e w' => e = .returned (.tuple #[.int .i64 (((if b ≤ a then 1 else 0, 0)) : Int × Int).1, .int .i64 (((if b ≤ a then 1 else 0, 0)) : Int × Int).2]) ∧ w' = w := by
  clear hb
  have HO := ord_31 a b
  dsimp only
  generalize (if b ≤ a then 1 else 0) = x at HO ⊢
  go_enter Try.func19, Try.ntmps19
  go_wp2_with ((go_at_call 32; (with_reducible refine (HO _).mono ?_); rintro e w1 ⟨rfl, rfl⟩))
  all_goals
    go_ret2
    exact ⟨by first | rfl | (simp; done), rfl⟩
set_option maxRecDepth 100000 in
theorem ord_32 (a b : Int) (w : World) : Calls Try.prog 32 #[.int .i64 32, .int .i64 a, .int .i64 b] w fun e w' => e = .returned (.int .i64 (if b < a then b else a)) ∧ w' = w := by
  by_cases h : b < a
  · rw [if_pos h]
    have hq : decide (b < a) = true := by simpa using h
    clear h
    go_enter Try.func32, Try.ntmps32
    go_wp2
    try rw [Exit.noGoto_ret]
    go_ret
    exact ⟨rfl, rfl⟩
  · rw [if_neg h]
    have hq : decide (b < a) = false := by simpa using h
    clear h
    go_enter Try.func32, Try.ntmps32
    go_wp2
    try rw [Exit.noGoto_ret]
    go_ret
    exact ⟨rfl, rfl⟩
set_option maxRecDepth 100000 in
theorem rk_32 (a b : Int) (hb : IntKind.u64.wrap b = b ∨ b < 0) (w : World) : Calls Try.prog 19 #[.int .i64 32, .int .i64 a, .int .i64 b] w fun e w' => e = .returned (.tuple #[.int .i64 (((if b < a then b else a, 0)) : Int × Int).1, .int .i64 (((if b < a then b else a, 0)) : Int × Int).2]) ∧ w' = w := by
  clear hb
  have HO := ord_32 a b
  dsimp only
  generalize (if b < a then b else a) = x at HO ⊢
  go_enter Try.func19, Try.ntmps19
  go_wp2_with ((go_at_call 32; (with_reducible refine (HO _).mono ?_); rintro e w1 ⟨rfl, rfl⟩))
  all_goals
    go_ret2
    exact ⟨by first | rfl | (simp; done), rfl⟩
set_option maxRecDepth 100000 in
theorem ord_33 (a b : Int) (w : World) : Calls Try.prog 32 #[.int .i64 33, .int .i64 a, .int .i64 b] w fun e w' => e = .returned (.int .i64 (if a < b then b else a)) ∧ w' = w := by
  by_cases h : a < b
  · rw [if_pos h]
    have hq : decide (a < b) = true := by simpa using h
    clear h
    go_enter Try.func32, Try.ntmps32
    go_wp2
    try rw [Exit.noGoto_ret]
    go_ret
    exact ⟨rfl, rfl⟩
  · rw [if_neg h]
    have hq : decide (a < b) = false := by simpa using h
    clear h
    go_enter Try.func32, Try.ntmps32
    go_wp2
    try rw [Exit.noGoto_ret]
    go_ret
    exact ⟨rfl, rfl⟩
set_option maxRecDepth 100000 in
theorem rk_33 (a b : Int) (hb : IntKind.u64.wrap b = b ∨ b < 0) (w : World) : Calls Try.prog 19 #[.int .i64 33, .int .i64 a, .int .i64 b] w fun e w' => e = .returned (.tuple #[.int .i64 (((if a < b then b else a, 0)) : Int × Int).1, .int .i64 (((if a < b then b else a, 0)) : Int × Int).2]) ∧ w' = w := by
  clear hb
  have HO := ord_33 a b
  dsimp only
  generalize (if a < b then b else a) = x at HO ⊢
  go_enter Try.func19, Try.ntmps19
  go_wp2_with ((go_at_call 32; (with_reducible refine (HO _).mono ?_); rintro e w1 ⟨rfl, rfl⟩))
  all_goals
    go_ret2
    exact ⟨by first | rfl | (simp; done), rfl⟩
theorem reckoned_any (o a b : Int) (ho : isPair o) (hb : In64 b) (w : World) : Calls Try.prog 19 #[.int .i64 o, .int .i64 a, .int .i64 b] w fun e w' => e = .returned (.tuple #[.int .i64 (pairV o a b).1, .int .i64 (pairV o a b).2]) ∧ w' = w := by
  have hw : IntKind.u64.wrap b = b ∨ b < 0 := by
    rcases Int.lt_or_le b 0 with h | h
    · exact .inr h
    · exact .inl (conv_u b ⟨h, hb.2⟩)
  rcases ho with rfl | rfl | rfl | rfl | rfl | rfl | rfl | rfl | rfl | rfl | rfl | rfl | rfl | rfl | rfl | rfl | rfl | rfl
  · exact rk_13 a b hw w
  · exact rk_14 a b hw w
  · exact rk_15 a b hw w
  · exact rk_16 a b hw w
  · exact rk_17 a b hw w
  · exact rk_18 a b hw w
  · exact rk_19 a b hw w
  · exact rk_20 a b hw w
  · exact rk_21 a b hw w
  · exact rk_22 a b hw w
  · exact rk_26 a b hw w
  · exact rk_27 a b hw w
  · exact rk_28 a b hw w
  · exact rk_29 a b hw w
  · exact rk_30 a b hw w
  · exact rk_31 a b hw w
  · exact rk_32 a b hw w
  · exact rk_33 a b hw w
set_option maxRecDepth 100000 in
theorem mod18_any (n : Int) (w : World) : Calls Try.prog 18 #[.int .i64 n, .int .i64 18] w fun e w' => ∃ m : Nat, m < 18 ∧ e = .returned (.int .i64 m) ∧ w' = w := by
  have h1 : n.tmod 18 < 18 := Int.tmod_lt_of_pos n (by decide)
  have h2 : (-n).tmod 18 < 18 := Int.tmod_lt_of_pos (-n) (by decide)
  rw [Int.neg_tmod] at h2
  generalize hm : n.tmod 18 = m at h1 h2
  have hm2 : Hid (n.tmod 18 = m) := hm
  by_cases h0 : m < 0
  · obtain ⟨k, hk⟩ : ∃ k : Nat, m + 18 = (k : Int) := ⟨(m + 18).toNat, by omega⟩
    have hk2 : k < 18 := by omega
    have dl : decide (m < 0) = true := decide_eq_true h0
    have hw : IntKind.i64.wrap (m + 18) = (k : Int) := by rw [IntKind.wrap_i64]; omega
    clear h0 hk h1 h2 hm2
    go_enter Try.func18, Try.ntmps18
    go_wp2
    go_ret
    exact ⟨k, hk2, rfl, rfl⟩
  · obtain ⟨k, rfl⟩ : ∃ k : Nat, m = (k : Int) := ⟨m.toNat, by omega⟩
    have hk2 : k < 18 := by omega
    have dl : decide ((k : Int) < 0) = false := decide_eq_false h0
    clear h0 h1 h2 hm2
    go_enter Try.func18, Try.ntmps18
    go_wp2
    go_ret
    exact ⟨k, hk2, rfl, rfl⟩
end Go.Proofs.Ytieanhmkcbcdkaa
