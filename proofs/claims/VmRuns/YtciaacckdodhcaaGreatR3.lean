import Derived.Test.YtciaacckdodhcaaGreatM8
import Derived.Test.YtciaacckdodhcaaGreatM11
import Derived.WalkMore
namespace Go.Proofs.YtciaacckdodhcaaGreat
open Go.ChangeShapes Go.WideShapes Go.ChangeAt Go.RowKit
set_option linter.unusedVariables false
set_option linter.unusedSimpArgs false

set_option maxRecDepth 100000 in
theorem rtruth (b : Bool) (w : World) : Calls Tryz.prog 89 #[.bool b] w fun e w' => e = .returned (.int .i64 (if b = true then 1 else 0)) ∧ w' = w := by
  cases b
  · go_enter Tryz.func89, Tryz.ntmps89
    go_wp2
    go_ret
    exact ⟨rfl, rfl⟩
  · go_enter Tryz.func89, Tryz.ntmps89
    go_wp2
    go_ret
    exact ⟨rfl, rfl⟩
set_option maxRecDepth 100000 in
theorem rcmp_26 (a b : Int) (w : World) : Calls Tryz.prog 88 #[.int .i64 26, .int .i64 a, .int .i64 b] w fun e w' => e = .returned (.int .i64 (if a = b then 1 else 0)) ∧ w' = w := by
  by_cases h : a = b
  · rw [if_pos h]
    have hq : (a == b) = true := by simpa using h
    clear h
    go_enter Tryz.func88, Tryz.ntmps88
    go_wp2_with ((go_at_call 89; (with_reducible refine (rtruth _ _).mono ?_); rintro e w1 ⟨rfl, rfl⟩))
    try rw [Exit.noGoto_ret]
    go_ret
    exact ⟨by first | rfl | (simp; done), rfl⟩
  · rw [if_neg h]
    have hq : (a == b) = false := by simpa using h
    clear h
    go_enter Tryz.func88, Tryz.ntmps88
    go_wp2_with ((go_at_call 89; (with_reducible refine (rtruth _ _).mono ?_); rintro e w1 ⟨rfl, rfl⟩))
    try rw [Exit.noGoto_ret]
    go_ret
    exact ⟨by first | rfl | (simp; done), rfl⟩
set_option maxRecDepth 100000 in
theorem rcmp_27 (a b : Int) (w : World) : Calls Tryz.prog 88 #[.int .i64 27, .int .i64 a, .int .i64 b] w fun e w' => e = .returned (.int .i64 (if a = b then 0 else 1)) ∧ w' = w := by
  by_cases h : a = b
  · rw [if_pos h]
    have hq : (a != b) = false := by simpa using h
    clear h
    go_enter Tryz.func88, Tryz.ntmps88
    go_wp2_with ((go_at_call 89; (with_reducible refine (rtruth _ _).mono ?_); rintro e w1 ⟨rfl, rfl⟩))
    try rw [Exit.noGoto_ret]
    go_ret
    exact ⟨by first | rfl | (simp; done), rfl⟩
  · rw [if_neg h]
    have hq : (a != b) = true := by simpa using h
    clear h
    go_enter Tryz.func88, Tryz.ntmps88
    go_wp2_with ((go_at_call 89; (with_reducible refine (rtruth _ _).mono ?_); rintro e w1 ⟨rfl, rfl⟩))
    try rw [Exit.noGoto_ret]
    go_ret
    exact ⟨by first | rfl | (simp; done), rfl⟩
set_option maxRecDepth 100000 in
theorem rcmp_28 (a b : Int) (w : World) : Calls Tryz.prog 88 #[.int .i64 28, .int .i64 a, .int .i64 b] w fun e w' => e = .returned (.int .i64 (if a < b then 1 else 0)) ∧ w' = w := by
  by_cases h : a < b
  · rw [if_pos h]
    have hq : decide (a < b) = true := by simpa using h
    clear h
    go_enter Tryz.func88, Tryz.ntmps88
    go_wp2_with ((go_at_call 89; (with_reducible refine (rtruth _ _).mono ?_); rintro e w1 ⟨rfl, rfl⟩))
    try rw [Exit.noGoto_ret]
    go_ret
    exact ⟨by first | rfl | (simp; done), rfl⟩
  · rw [if_neg h]
    have hq : decide (a < b) = false := by simpa using h
    clear h
    go_enter Tryz.func88, Tryz.ntmps88
    go_wp2_with ((go_at_call 89; (with_reducible refine (rtruth _ _).mono ?_); rintro e w1 ⟨rfl, rfl⟩))
    try rw [Exit.noGoto_ret]
    go_ret
    exact ⟨by first | rfl | (simp; done), rfl⟩
set_option maxRecDepth 100000 in
theorem rcmp_29 (a b : Int) (w : World) : Calls Tryz.prog 88 #[.int .i64 29, .int .i64 a, .int .i64 b] w fun e w' => e = .returned (.int .i64 (if a ≤ b then 1 else 0)) ∧ w' = w := by
  by_cases h : a ≤ b
  · rw [if_pos h]
    have hq : decide (a ≤ b) = true := by simpa using h
    clear h
    go_enter Tryz.func88, Tryz.ntmps88
    go_wp2_with ((go_at_call 89; (with_reducible refine (rtruth _ _).mono ?_); rintro e w1 ⟨rfl, rfl⟩))
    try rw [Exit.noGoto_ret]
    go_ret
    exact ⟨by first | rfl | (simp; done), rfl⟩
  · rw [if_neg h]
    have hq : decide (a ≤ b) = false := by simpa using h
    clear h
    go_enter Tryz.func88, Tryz.ntmps88
    go_wp2_with ((go_at_call 89; (with_reducible refine (rtruth _ _).mono ?_); rintro e w1 ⟨rfl, rfl⟩))
    try rw [Exit.noGoto_ret]
    go_ret
    exact ⟨by first | rfl | (simp; done), rfl⟩
set_option maxRecDepth 100000 in
theorem rcmp_30 (a b : Int) (w : World) : Calls Tryz.prog 88 #[.int .i64 30, .int .i64 a, .int .i64 b] w fun e w' => e = .returned (.int .i64 (if b < a then 1 else 0)) ∧ w' = w := by
  by_cases h : b < a
  · rw [if_pos h]
    have hq : decide (b < a) = true := by simpa using h
    clear h
    go_enter Tryz.func88, Tryz.ntmps88
    go_wp2_with ((go_at_call 89; (with_reducible refine (rtruth _ _).mono ?_); rintro e w1 ⟨rfl, rfl⟩))
    try rw [Exit.noGoto_ret]
    go_ret
    exact ⟨by first | rfl | (simp; done), rfl⟩
  · rw [if_neg h]
    have hq : decide (b < a) = false := by simpa using h
    clear h
    go_enter Tryz.func88, Tryz.ntmps88
    go_wp2_with ((go_at_call 89; (with_reducible refine (rtruth _ _).mono ?_); rintro e w1 ⟨rfl, rfl⟩))
    try rw [Exit.noGoto_ret]
    go_ret
    exact ⟨by first | rfl | (simp; done), rfl⟩
set_option maxRecDepth 100000 in
theorem rcmp_31 (a b : Int) (w : World) : Calls Tryz.prog 88 #[.int .i64 31, .int .i64 a, .int .i64 b] w fun e w' => e = .returned (.int .i64 (if b ≤ a then 1 else 0)) ∧ w' = w := by
  by_cases h : b ≤ a
  · rw [if_pos h]
    have hq : decide (b ≤ a) = true := by simpa using h
    clear h
    go_enter Tryz.func88, Tryz.ntmps88
    go_wp2_with ((go_at_call 89; (with_reducible refine (rtruth _ _).mono ?_); rintro e w1 ⟨rfl, rfl⟩))
    try rw [Exit.noGoto_ret]
    go_ret
    exact ⟨by first | rfl | (simp; done), rfl⟩
  · rw [if_neg h]
    have hq : decide (b ≤ a) = false := by simpa using h
    clear h
    go_enter Tryz.func88, Tryz.ntmps88
    go_wp2_with ((go_at_call 89; (with_reducible refine (rtruth _ _).mono ?_); rintro e w1 ⟨rfl, rfl⟩))
    try rw [Exit.noGoto_ret]
    go_ret
    exact ⟨by first | rfl | (simp; done), rfl⟩
set_option maxRecDepth 100000 in
theorem rcmp_32 (a b : Int) (w : World) : Calls Tryz.prog 88 #[.int .i64 32, .int .i64 a, .int .i64 b] w fun e w' => e = .returned (.int .i64 (if b < a then b else a)) ∧ w' = w := by
  by_cases h : b < a
  · rw [if_pos h]
    have hq : decide (b < a) = true := by simpa using h
    clear h
    go_enter Tryz.func88, Tryz.ntmps88
    go_wp2_with ((go_at_call 89; (with_reducible refine (rtruth _ _).mono ?_); rintro e w1 ⟨rfl, rfl⟩))
    try rw [Exit.noGoto_ret]
    go_ret
    exact ⟨by first | rfl | (simp; done), rfl⟩
  · rw [if_neg h]
    have hq : decide (b < a) = false := by simpa using h
    clear h
    go_enter Tryz.func88, Tryz.ntmps88
    go_wp2_with ((go_at_call 89; (with_reducible refine (rtruth _ _).mono ?_); rintro e w1 ⟨rfl, rfl⟩))
    try rw [Exit.noGoto_ret]
    go_ret
    exact ⟨by first | rfl | (simp; done), rfl⟩
set_option maxRecDepth 100000 in
theorem rcmp_33 (a b : Int) (w : World) : Calls Tryz.prog 88 #[.int .i64 33, .int .i64 a, .int .i64 b] w fun e w' => e = .returned (.int .i64 (if a < b then b else a)) ∧ w' = w := by
  by_cases h : a < b
  · rw [if_pos h]
    have hq : decide (a < b) = true := by simpa using h
    clear h
    go_enter Tryz.func88, Tryz.ntmps88
    go_wp2_with ((go_at_call 89; (with_reducible refine (rtruth _ _).mono ?_); rintro e w1 ⟨rfl, rfl⟩))
    try rw [Exit.noGoto_ret]
    go_ret
    exact ⟨by first | rfl | (simp; done), rfl⟩
  · rw [if_neg h]
    have hq : decide (a < b) = false := by simpa using h
    clear h
    go_enter Tryz.func88, Tryz.ntmps88
    go_wp2_with ((go_at_call 89; (with_reducible refine (rtruth _ _).mono ?_); rintro e w1 ⟨rfl, rfl⟩))
    try rw [Exit.noGoto_ret]
    go_ret
    exact ⟨by first | rfl | (simp; done), rfl⟩
theorem kw_eq (n : Int) : IntKind.i64.wrap n = wrap64 n := by
  rw [IntKind.wrap_i64]
  unfold wrap64
  omega
theorem shl_big (a : Int) (b : Nat) (h : 63 < b) : IntKind.i64.wrap (a * 2 ^ min b 64) = 0 := by
  rw [show min b 64 = 64 by omega, IntKind.wrap_i64]
  omega
theorem shr_big (a : Int) (ha : In64 a) (b : Nat) (h : 63 < b) : a / 2 ^ min b 64 = if a < 0 then -1 else 0 := by
  rw [show min b 64 = 64 by omega]
  unfold In64 at ha
  split <;> omega
set_option maxRecDepth 100000 in
theorem rj_13 (a b : Int) (ha : In64 a) (hb : In64 b) (w : World) : Calls Tryz.prog 65 #[.int .i64 13, .int .i64 a, .int .i64 b] w fun e w' => e = .returned (.tuple #[.int .i64 (((wrap64 (a + b), 0)) : Int × Int).1, .int .i64 (((wrap64 (a + b), 0)) : Int × Int).2]) ∧ w' = w := by
  clear ha hb
  go_enter Tryz.func65, Tryz.ntmps65
  go_wp2
  go_ret2
  exact ⟨by first | rfl | (simp; done), rfl⟩
set_option maxRecDepth 100000 in
theorem rj_14 (a b : Int) (ha : In64 a) (hb : In64 b) (w : World) : Calls Tryz.prog 65 #[.int .i64 14, .int .i64 a, .int .i64 b] w fun e w' => e = .returned (.tuple #[.int .i64 (((wrap64 (a - b), 0)) : Int × Int).1, .int .i64 (((wrap64 (a - b), 0)) : Int × Int).2]) ∧ w' = w := by
  clear ha hb
  go_enter Tryz.func65, Tryz.ntmps65
  go_wp2
  go_ret2
  exact ⟨by first | rfl | (simp; done), rfl⟩
set_option maxRecDepth 100000 in
theorem rj_15 (a b : Int) (ha : In64 a) (hb : In64 b) (w : World) : Calls Tryz.prog 65 #[.int .i64 15, .int .i64 a, .int .i64 b] w fun e w' => e = .returned (.tuple #[.int .i64 (((wrap64 (a * b), 0)) : Int × Int).1, .int .i64 (((wrap64 (a * b), 0)) : Int × Int).2]) ∧ w' = w := by
  clear ha hb
  go_enter Tryz.func65, Tryz.ntmps65
  go_wp2
  go_ret2
  exact ⟨by first | rfl | (simp; done), rfl⟩
set_option maxRecDepth 100000 in
theorem rj_16 (a b : Int) (ha : In64 a) (hb : In64 b) (w : World) : Calls Tryz.prog 65 #[.int .i64 16, .int .i64 a, .int .i64 b] w fun e w' => e = .returned (.tuple #[.int .i64 (((if b = 0 then (0, 201) else (wrap64 (a.tdiv b), 0))) : Int × Int).1, .int .i64 (((if b = 0 then (0, 201) else (wrap64 (a.tdiv b), 0))) : Int × Int).2]) ∧ w' = w := by
  by_cases h : b = 0
  · subst h
    rw [if_pos rfl]
    clear ha hb
    go_enter Tryz.func65, Tryz.ntmps65
    go_wp2
    go_ret2
    exact ⟨by first | rfl | (simp; done), rfl⟩
  · have h' : (b == 0) = false := by simpa using h
    rw [if_neg h]
    by_cases h1 : b = -1
    · subst h1
      have e1 : wrap64 (a.tdiv (-1)) = wrap64 (-a) := by rw [Int.tdiv_neg, Int.tdiv_one]
      rw [e1]
      clear ha hb e1
      go_enter Tryz.func65, Tryz.ntmps65
      go_wp2
      go_ret2
      exact ⟨by first | rfl | (simp; done), rfl⟩
    · have h2 : (b == -1) = false := by simpa using h1
      clear ha hb
      go_enter Tryz.func65, Tryz.ntmps65
      go_wp2
      go_ret2
      exact ⟨by first | rfl | (simp; done), rfl⟩
set_option maxRecDepth 100000 in
theorem rj_17 (a b : Int) (ha : In64 a) (hb : In64 b) (w : World) : Calls Tryz.prog 65 #[.int .i64 17, .int .i64 a, .int .i64 b] w fun e w' => e = .returned (.tuple #[.int .i64 (((if b = 0 then (0, 201) else (a.tmod b, 0))) : Int × Int).1, .int .i64 (((if b = 0 then (0, 201) else (a.tmod b, 0))) : Int × Int).2]) ∧ w' = w := by
  by_cases h : b = 0
  · subst h
    rw [if_pos rfl]
    clear ha hb
    go_enter Tryz.func65, Tryz.ntmps65
    go_wp2
    go_ret2
    exact ⟨by first | rfl | (simp; done), rfl⟩
  · have h' : (b == 0) = false := by simpa using h
    rw [if_neg h]
    by_cases h1 : b = -1
    · subst h1
      have e1 : a.tmod (-1) = 0 := by rw [Int.tmod_neg, Int.tmod_one]
      rw [e1]
      clear ha hb e1
      go_enter Tryz.func65, Tryz.ntmps65
      go_wp2
      go_ret2
      exact ⟨by first | rfl | (simp; done), rfl⟩
    · have h2 : (b == -1) = false := by simpa using h1
      clear ha hb
      go_enter Tryz.func65, Tryz.ntmps65
      go_wp2
      go_ret2
      exact ⟨by first | rfl | (simp; done), rfl⟩
set_option maxRecDepth 100000 in
theorem rj_18 (a b : Int) (ha : In64 a) (hb : In64 b) (w : World) : Calls Tryz.prog 65 #[.int .i64 18, .int .i64 a, .int .i64 b] w fun e w' => e = .returned (.tuple #[.int .i64 (((bits BinOp.and IntKind.i64 a b, 0)) : Int × Int).1, .int .i64 (((bits BinOp.and IntKind.i64 a b, 0)) : Int × Int).2]) ∧ w' = w := by
  clear ha hb
  go_enter Tryz.func65, Tryz.ntmps65
  go_wp2
  go_ret2
  exact ⟨by first | rfl | (simp; done), rfl⟩
set_option maxRecDepth 100000 in
theorem rj_19 (a b : Int) (ha : In64 a) (hb : In64 b) (w : World) : Calls Tryz.prog 65 #[.int .i64 19, .int .i64 a, .int .i64 b] w fun e w' => e = .returned (.tuple #[.int .i64 (((bits BinOp.or IntKind.i64 a b, 0)) : Int × Int).1, .int .i64 (((bits BinOp.or IntKind.i64 a b, 0)) : Int × Int).2]) ∧ w' = w := by
  clear ha hb
  go_enter Tryz.func65, Tryz.ntmps65
  go_wp2
  go_ret2
  exact ⟨by first | rfl | (simp; done), rfl⟩
set_option maxRecDepth 100000 in
theorem rj_20 (a b : Int) (ha : In64 a) (hb : In64 b) (w : World) : Calls Tryz.prog 65 #[.int .i64 20, .int .i64 a, .int .i64 b] w fun e w' => e = .returned (.tuple #[.int .i64 (((bits BinOp.xor IntKind.i64 a b, 0)) : Int × Int).1, .int .i64 (((bits BinOp.xor IntKind.i64 a b, 0)) : Int × Int).2]) ∧ w' = w := by
  clear ha hb
  go_enter Tryz.func65, Tryz.ntmps65
  go_wp2
  go_ret2
  exact ⟨by first | rfl | (simp; done), rfl⟩
set_option maxRecDepth 100000 in
theorem rshift_21 (a b : Int) (ha : In64 a) (hb : In64 b) (h0 : 0 ≤ b) (w : World) : Calls Tryz.prog 87 #[.bool false, .int .i64 a, .int .i64 b] w fun e w' => e = .returned (.int .i64 (IntKind.i64.wrap (a * 2 ^ min b.toNat 64))) ∧ w' = w := by
  by_cases h : 63 < b
  · have dl : decide (63 < b) = true := decide_eq_true h
    rw [shl_big a b.toNat (by omega)]
    clear ha hb h0 h
    go_enter Tryz.func87, Tryz.ntmps87
    go_wp2
    go_ret
    exact ⟨rfl, rfl⟩
  · have dl : decide (63 < b) = false := decide_eq_false h
    have hw : IntKind.u64.wrap b = b := conv_u b ⟨h0, hb.2⟩
    rw [kw_eq]
    clear ha hb h
    go_enter Tryz.func87, Tryz.ntmps87
    go_wp2
    go_ret
    exact ⟨by first | rfl | (simp; done), rfl⟩
set_option maxRecDepth 100000 in
theorem rj_21 (a b : Int) (ha : In64 a) (hb : In64 b) (w : World) : Calls Tryz.prog 65 #[.int .i64 21, .int .i64 a, .int .i64 b] w fun e w' => e = .returned (.tuple #[.int .i64 (((if b < 0 then (0, 202) else (IntKind.i64.wrap (a * 2 ^ min b.toNat 64), 0))) : Int × Int).1, .int .i64 (((if b < 0 then (0, 202) else (IntKind.i64.wrap (a * 2 ^ min b.toNat 64), 0))) : Int × Int).2]) ∧ w' = w := by
  by_cases h : b < 0
  · rw [if_pos h]
    have h' : decide (b < 0) = true := decide_eq_true h
    clear ha hb
    go_enter Tryz.func65, Tryz.ntmps65
    go_wp2
    go_ret2
    exact ⟨by first | rfl | (simp; done), rfl⟩
  · rw [if_neg h]
    have h' : decide (b < 0) = false := decide_eq_false h
    have HS := rshift_21 a b ha hb (by omega)
    dsimp only
    generalize IntKind.i64.wrap (a * 2 ^ min b.toNat 64) = x at HS ⊢
    clear ha hb h
    go_enter Tryz.func65, Tryz.ntmps65
    go_wp2_with ((go_at_call 87; (with_reducible refine (HS _).mono ?_); rintro e w1 ⟨rfl, rfl⟩))
    go_ret2
    exact ⟨by first | rfl | (simp; done), rfl⟩
set_option maxRecDepth 100000 in
theorem rshift_22 (a b : Int) (ha : In64 a) (hb : In64 b) (h0 : 0 ≤ b) (w : World) : Calls Tryz.prog 87 #[.bool true, .int .i64 a, .int .i64 b] w fun e w' => e = .returned (.int .i64 (a / 2 ^ min b.toNat 64)) ∧ w' = w := by
  by_cases h : 63 < b
  · have dl : decide (63 < b) = true := decide_eq_true h
    rw [shr_big a ha b.toNat (by omega)]
    by_cases hn : a < 0
    · rw [if_pos hn]
      have dn : decide (a < 0) = true := decide_eq_true hn
      clear ha hb h0 h hn
      go_enter Tryz.func87, Tryz.ntmps87
      go_wp2
      go_ret
      exact ⟨rfl, rfl⟩
    · rw [if_neg hn]
      have dn : decide (a < 0) = false := decide_eq_false hn
      clear ha hb h0 h hn
      go_enter Tryz.func87, Tryz.ntmps87
      go_wp2
      go_ret
      exact ⟨rfl, rfl⟩
  · have dl : decide (63 < b) = false := decide_eq_false h
    have hw : IntKind.u64.wrap b = b := conv_u b ⟨h0, hb.2⟩
    skip
    clear ha hb h
    go_enter Tryz.func87, Tryz.ntmps87
    go_wp2
    go_ret
    exact ⟨by first | rfl | (simp; done), rfl⟩
set_option maxRecDepth 100000 in
theorem rj_22 (a b : Int) (ha : In64 a) (hb : In64 b) (w : World) : Calls Tryz.prog 65 #[.int .i64 22, .int .i64 a, .int .i64 b] w fun e w' => e = .returned (.tuple #[.int .i64 (((if b < 0 then (0, 202) else (a / 2 ^ min b.toNat 64, 0))) : Int × Int).1, .int .i64 (((if b < 0 then (0, 202) else (a / 2 ^ min b.toNat 64, 0))) : Int × Int).2]) ∧ w' = w := by
  by_cases h : b < 0
  · rw [if_pos h]
    have h' : decide (b < 0) = true := decide_eq_true h
    clear ha hb
    go_enter Tryz.func65, Tryz.ntmps65
    go_wp2
    go_ret2
    exact ⟨by first | rfl | (simp; done), rfl⟩
  · rw [if_neg h]
    have h' : decide (b < 0) = false := decide_eq_false h
    have HS := rshift_22 a b ha hb (by omega)
    dsimp only
    generalize a / 2 ^ min b.toNat 64 = x at HS ⊢
    clear ha hb h
    go_enter Tryz.func65, Tryz.ntmps65
    go_wp2_with ((go_at_call 87; (with_reducible refine (HS _).mono ?_); rintro e w1 ⟨rfl, rfl⟩))
    go_ret2
    exact ⟨by first | rfl | (simp; done), rfl⟩
set_option maxRecDepth 100000 in
theorem rj_26 (a b : Int) (ha : In64 a) (hb : In64 b) (w : World) : Calls Tryz.prog 65 #[.int .i64 26, .int .i64 a, .int .i64 b] w fun e w' => e = .returned (.tuple #[.int .i64 (((if a = b then 1 else 0, 0)) : Int × Int).1, .int .i64 (((if a = b then 1 else 0, 0)) : Int × Int).2]) ∧ w' = w := by
  clear ha hb
  have HO := rcmp_26 a b
  dsimp only
  generalize (if a = b then 1 else 0) = x at HO ⊢
  go_enter Tryz.func65, Tryz.ntmps65
  go_wp2_with ((go_at_call 88; (with_reducible refine (HO _).mono ?_); rintro e w1 ⟨rfl, rfl⟩))
  all_goals
    go_ret2
    exact ⟨by first | rfl | (simp; done), rfl⟩
set_option maxRecDepth 100000 in
theorem rj_27 (a b : Int) (ha : In64 a) (hb : In64 b) (w : World) : Calls Tryz.prog 65 #[.int .i64 27, .int .i64 a, .int .i64 b] w fun e w' => e = .returned (.tuple #[.int .i64 (((if a = b then 0 else 1, 0)) : Int × Int).1, .int .i64 (((if a = b then 0 else 1, 0)) : Int × Int).2]) ∧ w' = w := by
  clear ha hb
  have HO := rcmp_27 a b
  dsimp only
  generalize (if a = b then 0 else 1) = x at HO ⊢
  go_enter Tryz.func65, Tryz.ntmps65
  go_wp2_with ((go_at_call 88; (with_reducible refine (HO _).mono ?_); rintro e w1 ⟨rfl, rfl⟩))
  all_goals
    go_ret2
    exact ⟨by first | rfl | (simp; done), rfl⟩
set_option maxRecDepth 100000 in
theorem rj_28 (a b : Int) (ha : In64 a) (hb : In64 b) (w : World) : Calls Tryz.prog 65 #[.int .i64 28, .int .i64 a, .int .i64 b] w fun e w' => e = .returned (.tuple #[.int .i64 (((if a < b then 1 else 0, 0)) : Int × Int).1, .int .i64 (((if a < b then 1 else 0, 0)) : Int × Int).2]) ∧ w' = w := by
  clear ha hb
  have HO := rcmp_28 a b
  dsimp only
  generalize (if a < b then 1 else 0) = x at HO ⊢
  go_enter Tryz.func65, Tryz.ntmps65
  go_wp2_with ((go_at_call 88; (with_reducible refine (HO _).mono ?_); rintro e w1 ⟨rfl, rfl⟩))
  all_goals
    go_ret2
    exact ⟨by first | rfl | (simp; done), rfl⟩
set_option maxRecDepth 100000 in
theorem rj_29 (a b : Int) (ha : In64 a) (hb : In64 b) (w : World) : Calls Tryz.prog 65 #[.int .i64 29, .int .i64 a, .int .i64 b] w fun e w' => e = .returned (.tuple #[.int .i64 (((if a ≤ b then 1 else 0, 0)) : Int × Int).1, .int .i64 (((if a ≤ b then 1 else 0, 0)) : Int × Int).2]) ∧ w' = w := by
  clear ha hb
  have HO := rcmp_29 a b
  dsimp only
  generalize (if a ≤ b then 1 else 0) = x at HO ⊢
  go_enter Tryz.func65, Tryz.ntmps65
  go_wp2_with ((go_at_call 88; (with_reducible refine (HO _).mono ?_); rintro e w1 ⟨rfl, rfl⟩))
  all_goals
    go_ret2
    exact ⟨by first | rfl | (simp; done), rfl⟩
set_option maxRecDepth 100000 in
theorem rj_30 (a b : Int) (ha : In64 a) (hb : In64 b) (w : World) : Calls Tryz.prog 65 #[.int .i64 30, .int .i64 a, .int .i64 b] w fun e w' => e = .returned (.tuple #[.int .i64 (((if b < a then 1 else 0, 0)) : Int × Int).1, .int .i64 (((if b < a then 1 else 0, 0)) : Int × Int).2]) ∧ w' = w := by
  clear ha hb
  have HO := rcmp_30 a b
  dsimp only
  generalize (if b < a then 1 else 0) = x at HO ⊢
  go_enter Tryz.func65, Tryz.ntmps65
  go_wp2_with ((go_at_call 88; (with_reducible refine (HO _).mono ?_); rintro e w1 ⟨rfl, rfl⟩))
  all_goals
    go_ret2
    exact ⟨by first | rfl | (simp; done), rfl⟩
set_option maxRecDepth 100000 in
theorem rj_31 (a b : Int) (ha : In64 a) (hb : In64 b) (w : World) : Calls Tryz.prog 65 #[.int .i64 31, .int .i64 a, .int .i64 b] w fun e w' => e = .returned (.tuple #[.int .i64 (((if b ≤ a then 1 else 0, 0)) : Int × Int).1, .int .i64 (((if b ≤ a then 1 else 0, 0)) : Int × Int).2]) ∧ w' = w := by
  clear ha hb
  have HO := rcmp_31 a b
  dsimp only
  generalize (if b ≤ a then 1 else 0) = x at HO ⊢
  go_enter Tryz.func65, Tryz.ntmps65
  go_wp2_with ((go_at_call 88; (with_reducible refine (HO _).mono ?_); rintro e w1 ⟨rfl, rfl⟩))
  all_goals
    go_ret2
    exact ⟨by first | rfl | (simp; done), rfl⟩
set_option maxRecDepth 100000 in
theorem rj_32 (a b : Int) (ha : In64 a) (hb : In64 b) (w : World) : Calls Tryz.prog 65 #[.int .i64 32, .int .i64 a, .int .i64 b] w fun e w' => e = .returned (.tuple #[.int .i64 (((if b < a then b else a, 0)) : Int × Int).1, .int .i64 (((if b < a then b else a, 0)) : Int × Int).2]) ∧ w' = w := by
  clear ha hb
  have HO := rcmp_32 a b
  dsimp only
  generalize (if b < a then b else a) = x at HO ⊢
  go_enter Tryz.func65, Tryz.ntmps65
  go_wp2_with ((go_at_call 88; (with_reducible refine (HO _).mono ?_); rintro e w1 ⟨rfl, rfl⟩))
  all_goals
    go_ret2
    exact ⟨by first | rfl | (simp; done), rfl⟩
set_option maxRecDepth 100000 in
theorem rj_33 (a b : Int) (ha : In64 a) (hb : In64 b) (w : World) : Calls Tryz.prog 65 #[.int .i64 33, .int .i64 a, .int .i64 b] w fun e w' => e = .returned (.tuple #[.int .i64 (((if a < b then b else a, 0)) : Int × Int).1, .int .i64 (((if a < b then b else a, 0)) : Int × Int).2]) ∧ w' = w := by
  clear ha hb
  have HO := rcmp_33 a b
  dsimp only
  generalize (if a < b then b else a) = x at HO ⊢
  go_enter Tryz.func65, Tryz.ntmps65
  go_wp2_with ((go_at_call 88; (with_reducible refine (HO _).mono ?_); rintro e w1 ⟨rfl, rfl⟩))
  all_goals
    go_ret2
    exact ⟨by first | rfl | (simp; done), rfl⟩
theorem rjoined (o a b : Int) (ho : isPair o) (ha : In64 a) (hb : In64 b) (w : World) : Calls Tryz.prog 65 #[.int .i64 o, .int .i64 a, .int .i64 b] w fun e w' => e = .returned (.tuple #[.int .i64 (pairV o a b).1, .int .i64 (pairV o a b).2]) ∧ w' = w := by
  rcases ho with rfl | rfl | rfl | rfl | rfl | rfl | rfl | rfl | rfl | rfl | rfl | rfl | rfl | rfl | rfl | rfl | rfl | rfl
  · exact rj_13 a b ha hb w
  · exact rj_14 a b ha hb w
  · exact rj_15 a b ha hb w
  · exact rj_16 a b ha hb w
  · exact rj_17 a b ha hb w
  · exact rj_18 a b ha hb w
  · exact rj_19 a b ha hb w
  · exact rj_20 a b ha hb w
  · exact rj_21 a b ha hb w
  · exact rj_22 a b ha hb w
  · exact rj_26 a b ha hb w
  · exact rj_27 a b ha hb w
  · exact rj_28 a b ha hb w
  · exact rj_29 a b ha hb w
  · exact rj_30 a b ha hb w
  · exact rj_31 a b ha hb w
  · exact rj_32 a b ha hb w
  · exact rj_33 a b ha hb w
end Go.Proofs.YtciaacckdodhcaaGreat
