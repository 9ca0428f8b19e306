import Derived.Test.YtopggemomcoalaaGreatJTZ4
import Derived.Test.YtopggemomcoalaaGreatJTU2
namespace Go.Proofs.YtopggemomcoalaaGreat
open Go.ChangeShapes Go.WideShapes Go.ChangeAt Go.RowKit
set_option linter.unusedVariables false
set_option linter.unusedSimpArgs false

/-! ### the document's both -/
theorem truth7_any (b : Bool) (w : World) : Calls Tryz.prog 97 #[.bool b] w fun e w' => e = .returned (.int .i64 (if b then 1 else 0)) ∧ w' = w := by
  go_enter Tryz.func97, Tryz.ntmps97
  rcases b with _ | _
  all_goals
    go_wp2
    go_ret
    exact ⟨rfl, rfl⟩
set_option maxRecDepth 100000 in
set_option maxHeartbeats 4000000 in
theorem both13_any (a b : Int) (w : World) : Calls Tryz.prog 96 #[.int .i64 13, .int .i64 a, .int .i64 b] w fun e w' => e = .returned (.tuple #[.int .i64 (wrap64 (a + b)), .int .i64 0]) ∧ w' = w := by
  go_enter Tryz.func96, Tryz.ntmps96
  go_wp2_with ((go_at_call 97; (with_reducible refine (truth7_any _ _).mono ?_); rintro e w1 ⟨rfl, rfl⟩))
  go_ret2
  exact ⟨by first | rfl | (simp; done), rfl⟩
set_option maxRecDepth 100000 in
set_option maxHeartbeats 4000000 in
theorem both14_any (a b : Int) (w : World) : Calls Tryz.prog 96 #[.int .i64 14, .int .i64 a, .int .i64 b] w fun e w' => e = .returned (.tuple #[.int .i64 (wrap64 (a - b)), .int .i64 0]) ∧ w' = w := by
  go_enter Tryz.func96, Tryz.ntmps96
  go_wp2_with ((go_at_call 97; (with_reducible refine (truth7_any _ _).mono ?_); rintro e w1 ⟨rfl, rfl⟩))
  go_ret2
  exact ⟨by first | rfl | (simp; done), rfl⟩
set_option maxRecDepth 100000 in
set_option maxHeartbeats 4000000 in
theorem both15_any (a b : Int) (w : World) : Calls Tryz.prog 96 #[.int .i64 15, .int .i64 a, .int .i64 b] w fun e w' => e = .returned (.tuple #[.int .i64 (wrap64 (a * b)), .int .i64 0]) ∧ w' = w := by
  go_enter Tryz.func96, Tryz.ntmps96
  go_wp2_with ((go_at_call 97; (with_reducible refine (truth7_any _ _).mono ?_); rintro e w1 ⟨rfl, rfl⟩))
  go_ret2
  exact ⟨by first | rfl | (simp; done), rfl⟩
set_option maxRecDepth 100000 in
set_option maxHeartbeats 4000000 in
theorem both18_any (a b : Int) (w : World) : Calls Tryz.prog 96 #[.int .i64 18, .int .i64 a, .int .i64 b] w fun e w' => e = .returned (.tuple #[.int .i64 (bits BinOp.and IntKind.i64 a b), .int .i64 0]) ∧ w' = w := by
  go_enter Tryz.func96, Tryz.ntmps96
  go_wp2_with ((go_at_call 97; (with_reducible refine (truth7_any _ _).mono ?_); rintro e w1 ⟨rfl, rfl⟩))
  go_ret2
  exact ⟨by first | rfl | (simp; done), rfl⟩
set_option maxRecDepth 100000 in
set_option maxHeartbeats 4000000 in
theorem both19_any (a b : Int) (w : World) : Calls Tryz.prog 96 #[.int .i64 19, .int .i64 a, .int .i64 b] w fun e w' => e = .returned (.tuple #[.int .i64 (bits BinOp.or IntKind.i64 a b), .int .i64 0]) ∧ w' = w := by
  go_enter Tryz.func96, Tryz.ntmps96
  go_wp2_with ((go_at_call 97; (with_reducible refine (truth7_any _ _).mono ?_); rintro e w1 ⟨rfl, rfl⟩))
  go_ret2
  exact ⟨by first | rfl | (simp; done), rfl⟩
set_option maxRecDepth 100000 in
set_option maxHeartbeats 4000000 in
theorem both20_any (a b : Int) (w : World) : Calls Tryz.prog 96 #[.int .i64 20, .int .i64 a, .int .i64 b] w fun e w' => e = .returned (.tuple #[.int .i64 (bits BinOp.xor IntKind.i64 a b), .int .i64 0]) ∧ w' = w := by
  go_enter Tryz.func96, Tryz.ntmps96
  go_wp2_with ((go_at_call 97; (with_reducible refine (truth7_any _ _).mono ?_); rintro e w1 ⟨rfl, rfl⟩))
  go_ret2
  exact ⟨by first | rfl | (simp; done), rfl⟩
set_option maxRecDepth 100000 in
set_option maxHeartbeats 4000000 in
theorem both16_any (a b : Int) (w : World) : Calls Tryz.prog 96 #[.int .i64 16, .int .i64 a, .int .i64 b] w fun e w' => e = .returned (.tuple #[.int .i64 ((if b = 0 then (0, 201) else (wrap64 (a.tdiv b), 0)) : Int × Int).1, .int .i64 ((if b = 0 then (0, 201) else (wrap64 (a.tdiv b), 0)) : Int × Int).2]) ∧ w' = w := by
  by_cases h : b = 0
  · subst h
    rw [if_pos rfl]
    go_enter Tryz.func96, Tryz.ntmps96
    go_wp2_with ((go_at_call 97; (with_reducible refine (truth7_any _ _).mono ?_); rintro e w1 ⟨rfl, rfl⟩))
    go_ret2
    exact ⟨by first | rfl | (simp; done), rfl⟩
  · have h' : (b == 0) = false := by simpa using h
    rw [if_neg h]
    rcases (by cases (b == -1) <;> simp : (b == -1) = true ∨ (b == -1) = false) with h2 | h2
    · obtain rfl : b = -1 := by simpa using h2
      go_enter Tryz.func96, Tryz.ntmps96
      go_wp2_with ((go_at_call 97; (with_reducible refine (truth7_any _ _).mono ?_); rintro e w1 ⟨rfl, rfl⟩))
      go_ret2
      refine ⟨?_, rfl⟩
      simp [wrap64, Int.tdiv_neg, Int.tdiv_one]
    · go_enter Tryz.func96, Tryz.ntmps96
      go_wp2_with ((go_at_call 97; (with_reducible refine (truth7_any _ _).mono ?_); rintro e w1 ⟨rfl, rfl⟩))
      go_ret2
      exact ⟨by first | rfl | (simp; done), rfl⟩
set_option maxRecDepth 100000 in
set_option maxHeartbeats 4000000 in
theorem both17_any (a b : Int) (w : World) : Calls Tryz.prog 96 #[.int .i64 17, .int .i64 a, .int .i64 b] w fun e w' => e = .returned (.tuple #[.int .i64 ((if b = 0 then (0, 201) else (a.tmod b, 0)) : Int × Int).1, .int .i64 ((if b = 0 then (0, 201) else (a.tmod b, 0)) : Int × Int).2]) ∧ w' = w := by
  by_cases h : b = 0
  · subst h
    rw [if_pos rfl]
    go_enter Tryz.func96, Tryz.ntmps96
    go_wp2_with ((go_at_call 97; (with_reducible refine (truth7_any _ _).mono ?_); rintro e w1 ⟨rfl, rfl⟩))
    go_ret2
    exact ⟨by first | rfl | (simp; done), rfl⟩
  · have h' : (b == 0) = false := by simpa using h
    rw [if_neg h]
    rcases (by cases (b == -1) <;> simp : (b == -1) = true ∨ (b == -1) = false) with h2 | h2
    · obtain rfl : b = -1 := by simpa using h2
      go_enter Tryz.func96, Tryz.ntmps96
      go_wp2_with ((go_at_call 97; (with_reducible refine (truth7_any _ _).mono ?_); rintro e w1 ⟨rfl, rfl⟩))
      go_ret2
      refine ⟨?_, rfl⟩
      simp [wrap64, Int.tmod_neg, Int.tmod_one]
    · go_enter Tryz.func96, Tryz.ntmps96
      go_wp2_with ((go_at_call 97; (with_reducible refine (truth7_any _ _).mono ?_); rintro e w1 ⟨rfl, rfl⟩))
      go_ret2
      exact ⟨by first | rfl | (simp; done), rfl⟩
set_option maxRecDepth 100000 in
set_option maxHeartbeats 4000000 in
theorem both21_any (a b : Int) (hb : In64 b) (w : World) : Calls Tryz.prog 96 #[.int .i64 21, .int .i64 a, .int .i64 b] w fun e w' => e = .returned (.tuple #[.int .i64 ((if b < 0 then (0, 202) else (IntKind.i64.wrap (a * 2 ^ min b.toNat 64), 0)) : Int × Int).1, .int .i64 ((if b < 0 then (0, 202) else (IntKind.i64.wrap (a * 2 ^ min b.toNat 64), 0)) : Int × Int).2]) ∧ w' = w := by
  by_cases h : b < 0
  · rw [if_pos h]
    go_enter Tryz.func96, Tryz.ntmps96
    go_wp2_with ((go_at_call 97; (with_reducible refine (truth7_any _ _).mono ?_); rintro e w1 ⟨rfl, rfl⟩))
    go_ret2
    exact ⟨by first | rfl | (simp; done), rfl⟩
  · rw [if_neg h]
    have hu : IntKind.u64.wrap b = b := by
      obtain ⟨h1, h2⟩ := hb
      simp only [IntKind.wrap, IntKind.bits, IntKind.signed]
      simp
      omega
    go_enter Tryz.func96, Tryz.ntmps96
    go_wp2_with ((go_at_call 97; (with_reducible refine (truth7_any _ _).mono ?_); rintro e w1 ⟨rfl, rfl⟩))
    go_ret2
    exact ⟨by first | rfl | (simp; done), rfl⟩
set_option maxRecDepth 100000 in
set_option maxHeartbeats 4000000 in
theorem both22_any (a b : Int) (hb : In64 b) (w : World) : Calls Tryz.prog 96 #[.int .i64 22, .int .i64 a, .int .i64 b] w fun e w' => e = .returned (.tuple #[.int .i64 ((if b < 0 then (0, 202) else (a / 2 ^ min b.toNat 64, 0)) : Int × Int).1, .int .i64 ((if b < 0 then (0, 202) else (a / 2 ^ min b.toNat 64, 0)) : Int × Int).2]) ∧ w' = w := by
  by_cases h : b < 0
  · rw [if_pos h]
    go_enter Tryz.func96, Tryz.ntmps96
    go_wp2_with ((go_at_call 97; (with_reducible refine (truth7_any _ _).mono ?_); rintro e w1 ⟨rfl, rfl⟩))
    go_ret2
    exact ⟨by first | rfl | (simp; done), rfl⟩
  · rw [if_neg h]
    have hu : IntKind.u64.wrap b = b := by
      obtain ⟨h1, h2⟩ := hb
      simp only [IntKind.wrap, IntKind.bits, IntKind.signed]
      simp
      omega
    go_enter Tryz.func96, Tryz.ntmps96
    go_wp2_with ((go_at_call 97; (with_reducible refine (truth7_any _ _).mono ?_); rintro e w1 ⟨rfl, rfl⟩))
    go_ret2
    exact ⟨by first | rfl | (simp; done), rfl⟩
set_option maxRecDepth 100000 in
set_option maxHeartbeats 4000000 in
theorem both26_any (a b : Int) (w : World) : Calls Tryz.prog 96 #[.int .i64 26, .int .i64 a, .int .i64 b] w fun e w' => e = .returned (.tuple #[.int .i64 (if a = b then 1 else 0), .int .i64 0]) ∧ w' = w := by
  by_cases h : a = b
  · subst h
    have h' : (a == a) = true := by simp
    have h'' : (a != a) = false := by simp
    rw [if_pos rfl]
    go_enter Tryz.func96, Tryz.ntmps96
    go_wp2_with ((go_at_call 97; (with_reducible refine (truth7_any _ _).mono ?_); rintro e w1 ⟨rfl, rfl⟩))
    go_ret2
    exact ⟨by first | rfl | (simp; done), rfl⟩
  · have h' : (a == b) = false := by simpa using h
    have h'' : (a != b) = true := by simpa using h
    rw [if_neg h]
    go_enter Tryz.func96, Tryz.ntmps96
    go_wp2_with ((go_at_call 97; (with_reducible refine (truth7_any _ _).mono ?_); rintro e w1 ⟨rfl, rfl⟩))
    go_ret2
    exact ⟨by first | rfl | (simp; done), rfl⟩
set_option maxRecDepth 100000 in
set_option maxHeartbeats 4000000 in
theorem both27_any (a b : Int) (w : World) : Calls Tryz.prog 96 #[.int .i64 27, .int .i64 a, .int .i64 b] w fun e w' => e = .returned (.tuple #[.int .i64 (if a = b then 0 else 1), .int .i64 0]) ∧ w' = w := by
  by_cases h : a = b
  · subst h
    have h' : (a == a) = true := by simp
    have h'' : (a != a) = false := by simp
    rw [if_pos rfl]
    go_enter Tryz.func96, Tryz.ntmps96
    go_wp2_with ((go_at_call 97; (with_reducible refine (truth7_any _ _).mono ?_); rintro e w1 ⟨rfl, rfl⟩))
    go_ret2
    exact ⟨by first | rfl | (simp; done), rfl⟩
  · have h' : (a == b) = false := by simpa using h
    have h'' : (a != b) = true := by simpa using h
    rw [if_neg h]
    go_enter Tryz.func96, Tryz.ntmps96
    go_wp2_with ((go_at_call 97; (with_reducible refine (truth7_any _ _).mono ?_); rintro e w1 ⟨rfl, rfl⟩))
    go_ret2
    exact ⟨by first | rfl | (simp; done), rfl⟩
set_option maxRecDepth 100000 in
set_option maxHeartbeats 4000000 in
theorem both28_any (a b : Int) (w : World) : Calls Tryz.prog 96 #[.int .i64 28, .int .i64 a, .int .i64 b] w fun e w' => e = .returned (.tuple #[.int .i64 (if a < b then 1 else 0), .int .i64 0]) ∧ w' = w := by
  by_cases h : a < b
  · have h' : decide (a < b) = true := decide_eq_true h
    rw [if_pos h]
    go_enter Tryz.func96, Tryz.ntmps96
    go_wp2_with ((go_at_call 97; (with_reducible refine (truth7_any _ _).mono ?_); rintro e w1 ⟨rfl, rfl⟩))
    go_ret2
    exact ⟨by first | rfl | (simp; done), rfl⟩
  · have h' : decide (a < b) = false := decide_eq_false h
    rw [if_neg h]
    go_enter Tryz.func96, Tryz.ntmps96
    go_wp2_with ((go_at_call 97; (with_reducible refine (truth7_any _ _).mono ?_); rintro e w1 ⟨rfl, rfl⟩))
    go_ret2
    exact ⟨by first | rfl | (simp; done), rfl⟩
set_option maxRecDepth 100000 in
set_option maxHeartbeats 4000000 in
theorem both29_any (a b : Int) (w : World) : Calls Tryz.prog 96 #[.int .i64 29, .int .i64 a, .int .i64 b] w fun e w' => e = .returned (.tuple #[.int .i64 (if a ≤ b then 1 else 0), .int .i64 0]) ∧ w' = w := by
  by_cases h : a ≤ b
  · have h' : decide (a ≤ b) = true := decide_eq_true h
    rw [if_pos h]
    go_enter Tryz.func96, Tryz.ntmps96
    go_wp2_with ((go_at_call 97; (with_reducible refine (truth7_any _ _).mono ?_); rintro e w1 ⟨rfl, rfl⟩))
    go_ret2
    exact ⟨by first | rfl | (simp; done), rfl⟩
  · have h' : decide (a ≤ b) = false := decide_eq_false h
    rw [if_neg h]
    go_enter Tryz.func96, Tryz.ntmps96
    go_wp2_with ((go_at_call 97; (with_reducible refine (truth7_any _ _).mono ?_); rintro e w1 ⟨rfl, rfl⟩))
    go_ret2
    exact ⟨by first | rfl | (simp; done), rfl⟩
set_option maxRecDepth 100000 in
set_option maxHeartbeats 4000000 in
theorem both30_any (a b : Int) (w : World) : Calls Tryz.prog 96 #[.int .i64 30, .int .i64 a, .int .i64 b] w fun e w' => e = .returned (.tuple #[.int .i64 (if b < a then 1 else 0), .int .i64 0]) ∧ w' = w := by
  by_cases h : b < a
  · have h' : decide (b < a) = true := decide_eq_true h
    rw [if_pos h]
    go_enter Tryz.func96, Tryz.ntmps96
    go_wp2_with ((go_at_call 97; (with_reducible refine (truth7_any _ _).mono ?_); rintro e w1 ⟨rfl, rfl⟩))
    go_ret2
    exact ⟨by first | rfl | (simp; done), rfl⟩
  · have h' : decide (b < a) = false := decide_eq_false h
    rw [if_neg h]
    go_enter Tryz.func96, Tryz.ntmps96
    go_wp2_with ((go_at_call 97; (with_reducible refine (truth7_any _ _).mono ?_); rintro e w1 ⟨rfl, rfl⟩))
    go_ret2
    exact ⟨by first | rfl | (simp; done), rfl⟩
set_option maxRecDepth 100000 in
set_option maxHeartbeats 4000000 in
theorem both31_any (a b : Int) (w : World) : Calls Tryz.prog 96 #[.int .i64 31, .int .i64 a, .int .i64 b] w fun e w' => e = .returned (.tuple #[.int .i64 (if b ≤ a then 1 else 0), .int .i64 0]) ∧ w' = w := by
  by_cases h : b ≤ a
  · have h' : decide (b ≤ a) = true := decide_eq_true h
    rw [if_pos h]
    go_enter Tryz.func96, Tryz.ntmps96
    go_wp2_with ((go_at_call 97; (with_reducible refine (truth7_any _ _).mono ?_); rintro e w1 ⟨rfl, rfl⟩))
    go_ret2
    exact ⟨by first | rfl | (simp; done), rfl⟩
  · have h' : decide (b ≤ a) = false := decide_eq_false h
    rw [if_neg h]
    go_enter Tryz.func96, Tryz.ntmps96
    go_wp2_with ((go_at_call 97; (with_reducible refine (truth7_any _ _).mono ?_); rintro e w1 ⟨rfl, rfl⟩))
    go_ret2
    exact ⟨by first | rfl | (simp; done), rfl⟩
set_option maxRecDepth 100000 in
set_option maxHeartbeats 4000000 in
theorem both32_any (a b : Int) (w : World) : Calls Tryz.prog 96 #[.int .i64 32, .int .i64 a, .int .i64 b] w fun e w' => e = .returned (.tuple #[.int .i64 (if b < a then b else a), .int .i64 0]) ∧ w' = w := by
  by_cases h : a < b
  · have h' : decide (a < b) = true := decide_eq_true h
    rw [show (if b < a then b else a) = a from by split <;> omega]
    go_enter Tryz.func96, Tryz.ntmps96
    go_wp2_with ((go_at_call 97; (with_reducible refine (truth7_any _ _).mono ?_); rintro e w1 ⟨rfl, rfl⟩))
    go_ret2
    exact ⟨by first | rfl | (simp; done), rfl⟩
  · have h' : decide (a < b) = false := decide_eq_false h
    rw [show (if b < a then b else a) = b from by split <;> omega]
    go_enter Tryz.func96, Tryz.ntmps96
    go_wp2_with ((go_at_call 97; (with_reducible refine (truth7_any _ _).mono ?_); rintro e w1 ⟨rfl, rfl⟩))
    go_ret2
    exact ⟨by first | rfl | (simp; done), rfl⟩
set_option maxRecDepth 100000 in
set_option maxHeartbeats 4000000 in
theorem both33_any (a b : Int) (w : World) : Calls Tryz.prog 96 #[.int .i64 33, .int .i64 a, .int .i64 b] w fun e w' => e = .returned (.tuple #[.int .i64 (if a < b then b else a), .int .i64 0]) ∧ w' = w := by
  by_cases h : b < a
  · have h' : decide (b < a) = true := decide_eq_true h
    rw [show (if a < b then b else a) = a from by split <;> omega]
    go_enter Tryz.func96, Tryz.ntmps96
    go_wp2_with ((go_at_call 97; (with_reducible refine (truth7_any _ _).mono ?_); rintro e w1 ⟨rfl, rfl⟩))
    go_ret2
    exact ⟨by first | rfl | (simp; done), rfl⟩
  · have h' : decide (b < a) = false := decide_eq_false h
    rw [show (if a < b then b else a) = b from by split <;> omega]
    go_enter Tryz.func96, Tryz.ntmps96
    go_wp2_with ((go_at_call 97; (with_reducible refine (truth7_any _ _).mono ?_); rintro e w1 ⟨rfl, rfl⟩))
    go_ret2
    exact ⟨by first | rfl | (simp; done), rfl⟩
theorem both_any {o a b : Int} (ho : two2 o = true) (hb : In64 b) (w : World) : Calls Tryz.prog 96 #[.int .i64 o, .int .i64 a, .int .i64 b] w fun e w' => e = .returned (.tuple #[.int .i64 (pairV o a b).1, .int .i64 (pairV o a b).2]) ∧ w' = w := by
  have h1 := two2_o ho
  have h2 : o = 13 ∨ o = 14 ∨ o = 15 ∨ o = 16 ∨ o = 17 ∨ o = 18 ∨ o = 19 ∨ o = 20 ∨ o = 21 ∨ o = 22 ∨ o = 26 ∨ o = 27 ∨ o = 28 ∨ o = 29 ∨ o = 30 ∨ o = 31 ∨ o = 32 ∨ o = 33 := by omega
  rcases h2 with rfl | rfl | rfl | rfl | rfl | rfl | rfl | rfl | rfl | rfl | rfl | rfl | rfl | rfl | rfl | rfl | rfl | rfl
  · exact both13_any a b w
  · exact both14_any a b w
  · exact both15_any a b w
  · exact both16_any a b w
  · exact both17_any a b w
  · exact both18_any a b w
  · exact both19_any a b w
  · exact both20_any a b w
  · exact both21_any a b hb w
  · exact both22_any a b hb w
  · exact both26_any a b w
  · exact both27_any a b w
  · exact both28_any a b w
  · exact both29_any a b w
  · exact both30_any a b w
  · exact both31_any a b w
  · exact both32_any a b w
  · exact both33_any a b w
end Go.Proofs.YtopggemomcoalaaGreat
namespace Go.Proofs.YtopggemomcoalaaGreat
open Go.ChangeShapes Go.WideShapes Go.ChangeAt Go.RowKit
set_option linter.unusedVariables false
set_option linter.unusedSimpArgs false

/-! ### the document's lost and needless -/
theorem own_setB {W : World} {base g c n : Nat} {T : Nat → Bool} (h : Own W base 4 1 (.slice (some ⟨g, 0, none⟩) n c) n (fun x => .bool (T x))) (k : Nat) (b : Bool) : Own (W.setCell ⟨g, k, none⟩ (.bool b)) base 4 1 (.slice (some ⟨g, 0, none⟩) n c) n (fun x => .bool (if x = k then b else T x)) := by
  refine (h.put k [.bool b]).congr fun j hj => ?_
  unfold putF
  by_cases h1 : k ≤ j ∧ j < k + 1
  · have e : j = k := by omega
    subst e
    rw [if_pos (by simp), if_pos rfl]
    simp
  · rw [if_neg (by simpa using h1), if_neg (by omega)]
theorem infoB2 : (Tryz.prog.info? 4).map (fun i => (i.zero, i.size, i.bytes)) = some (some (.bool false), 1, 1) := by kernel_rfl
theorem own_falses {w w' : World} {n : Nat} (hown : w'.ownsRow w.heap.size 4 1 (.slice (some ⟨w.heap.size, 0, none⟩) n n) n (madeCells #[Value.bool false] n).toList) : Own w' w.heap.size 4 1 (.slice (some ⟨w.heap.size, 0, none⟩) n n) n (fun x => .bool ((fun _ => false : Nat → Bool) x)) := (own_of hown).congr fun j hj => by
  have h6 : (Value.bool false).cells.size = 1 := rfl
  unfold madeCells
  have hj2 : j < n := by omega
  simp [hj2, h6]
  rw [Nat.mod_one]
  rfl
theorem own_stepB {W : World} {base g c n k : Nat} {G : Nat → Bool} (h : Own W base 4 1 (.slice (some ⟨g, 0, none⟩) n c) n (fun x => .bool ((fun x => if x < k then G x else false) x))) (b : Bool) (hb : G k = b) : Own (W.setCell ⟨g, k, none⟩ (.bool b)) base 4 1 (.slice (some ⟨g, 0, none⟩) n c) n (fun x => .bool ((fun x => if x < k + 1 then G x else false) x)) :=
  (own_setB h k b).congr fun x hx => by
    show Value.bool (if x = k then b else if x < k then G x else false) = Value.bool (if x < k + 1 then G x else false)
    by_cases e : x = k
    · subst e; rw [if_pos rfl, if_pos (Nat.lt_succ_self _), hb]
    · by_cases h2 : x < k
      · rw [if_neg e, if_pos h2, if_pos (by omega)]
      · rw [if_neg e, if_neg h2, if_neg (by omega)]
theorem own_allB {W : World} {base g c n : Nat} {G : Nat → Bool} (h : Own W base 4 1 (.slice (some ⟨g, 0, none⟩) n c) n (fun x => .bool ((fun x => if x < n then G x else false) x))) : Own W base 4 1 (.slice (some ⟨g, 0, none⟩) n c) n (fun x => .bool (G x)) :=
  h.congr fun x hx => by
    show Value.bool (if x < n then G x else false) = Value.bool (G x)
    rw [if_pos (by omega)]
set_option maxRecDepth 100000 in
set_option maxHeartbeats 8000000 in
theorem needless_any {P : Pg} (hn : P.n ≤ 4096) (cp ep : Option Addr) (cc ec : Nat) (W : World) (hI : IAt W cp P.n P.op P.a P.b) :
    Calls Tryz.prog 33 #[.agg #[.int .i64 P.words, .int .i64 P.locals, .slice cp P.n cc, .slice ep P.m ec]] W fun e W' => ∃ B, e = .returned (.slice (some ⟨B, 0, none⟩) P.n P.n) ∧ Own W' W.heap.size 4 1 (.slice (some ⟨B, 0, none⟩) P.n P.n) P.n (fun x => .bool (goS P x)) ∧ Below W.heap.size W W' := by
  obtain ⟨i5, hi5, hz0, hz1, hz2⟩ := info_parts infoB2
  obtain ⟨wp, hwp⟩ : ∃ wp, W.alloc (.cells #[.int .i64 P.words, .int .i64 P.locals, .slice cp P.n cc, .slice ep P.m ec] 25) = wp := ⟨_, rfl⟩
  obtain ⟨hbp, hpx, hpz⟩ := boxed _ _ _ hwp
  have HW := tmh hwp
  have H0 := tmh (And.intro hpx (And.intro hbp (And.intro (hI.below hbp) (show W.heap.size < wp.heap.size by omega))))
  obtain ⟨y0, y1, y2, y3⟩ := cells4 hpx
  clear hwp hbp hpx hpz hI
  go_enter Tryz.func33, Tryz.ntmps33
  go_upto_region 1 with fail
  rw [HW.out]
  go_upto_region 2 with (at_make; refine wpList_make_full _ rfl (.tmp 8) (.tmp 8) 34 rfl wp.heap.size 4 i5 _ 1 Tryz.underlying34 hi5 hz0 hz1 .i64 .i64 P.n P.n P.n rfl rfl rfl rfl ?c1 ?c2 ?c3 ?_)
  case c1 => rw [hz2]; omega
  case c2 => unfold maxLen; omega
  case c3 => exact Nat.le_refl _
  intro w1 hown hgrow
  have hb1 : Below wp.heap.size wp w1 := (Below.refl _ _).grown hgrow (Nat.le_refl _) (by simp)
  have hO1 := own_falses hown
  obtain ⟨B, hB⟩ : ∃ B, B = wp.heap.size := ⟨_, rfl⟩
  rw [← hB] at hO1 hb1 ⊢
  have H1 := tmh (And.intro hO1 (And.intro hb1 hB))
  obtain ⟨y0, y1, y2, y3⟩ := cells4 ((hb1.block _ (show W.heap.size < B by rw [hB]; exact H0.out.2.2.2)).trans H0.out.1)
  clear hown hgrow hi5 hz0 hz1 hz2 hO1 hb1 hB
  go_wp2_with fail
  clear y0 y1 y2 y3
  go_loopw [13] (fun x wr => ∃ k : Nat, x = .int .i64 (k : Int) ∧ k ≤ P.n ∧ Own wr B 4 1 (.slice (some ⟨B, 0, none⟩) P.n P.n) P.n (fun x => .bool ((fun x => if x < k then goS P x else false) x)) ∧ Below B wp wr) (fun x _ => P.n - (intOf x).toNat)
  case atStart => exact ⟨0, rfl, Nat.zero_le _, H1.out.1, H1.out.2.1⟩
  case round =>
    obtain ⟨k, rfl, hk, hO, hbr⟩ := hrel
    by_cases hlt : k < P.n
    · have d1 : decide ((k : Int) < (P.n : Int)) = true := by simp; omega
      have d2 : decide (k < P.n) = true := by simp; omega
      have i0 : (0 : Int) ≤ (k : Int) := by omega
      have i1 : (k : Int) < (P.n : Int) := by omega
      have ek : IntKind.i64.wrap ((k : Int) + 1) = ((k + 1 : Nat) : Int) := by rw [IntKind.wrap_i64]; omega
      have hm := meas0 hlt
      obtain ⟨gp, op, hgp⟩ := iat_pt H0.out.2.2.1 (by omega)
      subst hgp
      obtain ⟨x0, x1, x2⟩ := iat_at (H0.out.2.2.1.below (H1.out.2.2 ▸ hbr)) hlt
      obtain ⟨w8, hw8⟩ : ∃ w8, wr.alloc (.cells #[.int .i64 (P.op k), .int .i64 (P.a k), .int .i64 (P.b k)] 36) = w8 := ⟨_, rfl⟩
      obtain ⟨hb8, hx8, hz8⟩ := boxed _ _ _ hw8
      have HW8 := tmh hw8
      have c0 : w8.cell? ⟨wr.heap.size, 0, none⟩ = some (.int .i64 (P.op k)) := cellT hx8 rfl
      have c1 : w8.cell? ⟨wr.heap.size, 1, none⟩ = some (.int .i64 (P.a k)) := cellT hx8 rfl
      have hO8 := hO.later hb8
      obtain ⟨f0, f1, hBq⟩ := own_boolc hO8 hlt
      have hb9 : Below B wp w8 := hbr.trans (hb8.mono (Nat.le_of_lt (hO.lt B rfl).2))
      have hset := fun (b : Bool) (h9 : goS P k = b) => own_stepB hO8 b h9
      have H8 := tmh (And.intro hset hb9)
      clear hw8 hb8 hx8 hz8 hO hO8 hbr hk hset hb9 hBq
      have hgo : goS P k = (P.op k == 35 && P.a k == ((k + 1 : Nat) : Int)) := rfl
      have HGO := tmh hgo
      clear hgo
      go_upto_region 5 with fail
      rw [HW8.out]
      clear x0 x1 x2 HW8
      cases h1 : (P.op k == 35) with
      | false =>
        have hg : goS P k = false := by rw [HGO.out, h1]; rfl
        have HG := tmh hg
        clear hg
        go_wp2_with fail
        exact ⟨⟨k + 1, rfl, hlt, H8.out.1 false HG.out, H8.out.2.setCell (p := ⟨B, k, none⟩) (Nat.le_refl _) _⟩, hm⟩
      | true =>
        cases h2 : (P.a k == ((k + 1 : Nat) : Int)) with
        | false =>
          have hg : goS P k = false := by rw [HGO.out, h1, h2]; rfl
          have h3 : (P.a k == (k : Int) + 1) = false := h2
          have HG := tmh hg
          clear hg
          go_wp2_with fail
          exact ⟨⟨k + 1, rfl, hlt, H8.out.1 false HG.out, H8.out.2.setCell (p := ⟨B, k, none⟩) (Nat.le_refl _) _⟩, hm⟩
        | true =>
          have hg : goS P k = true := by rw [HGO.out, h1, h2]; rfl
          have h3 : (P.a k == (k : Int) + 1) = true := h2
          have HG := tmh hg
          clear hg
          go_wp2_with fail
          exact ⟨⟨k + 1, rfl, hlt, H8.out.1 true HG.out, H8.out.2.setCell (p := ⟨B, k, none⟩) (Nat.le_refl _) _⟩, hm⟩
    · have d1 : decide ((k : Int) < (P.n : Int)) = false := by simp; omega
      have d2 : decide (k < P.n) = false := by simp; omega
      obtain rfl : k = P.n := by omega
      have HF := tmh (And.intro hO hbr)
      clear hO hbr hk hlt
      go_wp2_with fail
      go_ret
      exact ⟨B, rfl, (own_allB HF.out.1).low (by rw [H1.out.2.2]; exact H0.out.2.1.size), H0.out.2.1.trans ((HF.out.2).mono (by rw [H1.out.2.2]; exact H0.out.2.1.size))⟩
theorem kat_own2 {W : World} {base n : Nat} {v : Value} {K : Nat → Int} (h : Own W base 3 1 v n (iv K)) : ∃ p c, v = .slice p n c ∧ Own W base 3 1 (.slice p n c) n (iv K) := by
  rcases h.form with ⟨h1, h2⟩ | ⟨g, c, h1, h2, h3⟩
  · subst h1; subst h2; exact ⟨none, 0, rfl, h⟩
  · subst h1
    exact ⟨_, _, rfl, h⟩
set_option maxRecDepth 100000 in
set_option maxHeartbeats 8000000 in
theorem lost_any {P : Pg} {L : Nat → Int} (v : Vf P L) (cp ep : Option Addr) (cc ec : Nat) (W : World) (hI : IAt W cp P.n P.op P.a P.b) (hE : KAt W ep P.m P.en) :
    Calls Tryz.prog 32 #[.agg #[.int .i64 P.words, .int .i64 P.locals, .slice cp P.n cc, .slice ep P.m ec]] W fun e W' => ∃ B, e = .returned (.slice (some ⟨B, 0, none⟩) P.n P.n) ∧ Own W' W.heap.size 4 1 (.slice (some ⟨B, 0, none⟩) P.n P.n) P.n (fun x => .bool (goU P x)) ∧ Below W.heap.size W W' := by
  have hn := v.sz.2.2.1
  obtain ⟨i5, hi5, hz0, hz1, hz2⟩ := info_parts infoB2
  obtain ⟨wp, hwp⟩ : ∃ wp, W.alloc (.cells #[.int .i64 P.words, .int .i64 P.locals, .slice cp P.n cc, .slice ep P.m ec] 25) = wp := ⟨_, rfl⟩
  obtain ⟨hbp, hpx, hpz⟩ := boxed _ _ _ hwp
  have HW := tmh hwp
  have H0 := tmh (And.intro hpx (And.intro hbp (And.intro (hI.below hbp) (And.intro (hE.below hbp) (show W.heap.size < wp.heap.size by omega)))))
  have HV := tmh v
  obtain ⟨y0, y1, y2, y3⟩ := cells4 hpx
  clear hwp hbp hpx hpz hI hE v
  go_enter Tryz.func32, Tryz.ntmps32
  go_upto_region 1 with fail
  rw [HW.out]
  go_upto_region 2 with (at_make; refine wpList_make_full _ rfl (.tmp 9) (.tmp 9) 34 rfl wp.heap.size 4 i5 _ 1 Tryz.underlying34 hi5 hz0 hz1 .i64 .i64 P.n P.n P.n rfl rfl rfl rfl ?c1 ?c2 ?c3 ?_)
  case c1 => rw [hz2]; omega
  case c2 => unfold maxLen; omega
  case c3 => exact Nat.le_refl _
  intro w1 hown hgrow
  have hb1 : Below wp.heap.size wp w1 := (Below.refl _ _).grown hgrow (Nat.le_refl _) (by simp)
  have hO1 := own_falses hown
  have hD := rDepths_any P ⟨cp, cc, ep, ec⟩ P.m w1 (H0.out.2.2.1.below hb1) (H0.out.2.2.2.1.below hb1)
  dsimp only at hD
  obtain ⟨B, hB⟩ : ∃ B, B = wp.heap.size := ⟨_, rfl⟩
  rw [← hB] at hO1 hb1 ⊢
  have H1 := tmh (And.intro hO1 (And.intro hb1 hB))
  obtain ⟨y0, y1, y2, y3⟩ := cells4 ((hb1.block _ (show W.heap.size < B by rw [hB]; exact H0.out.2.2.2.2)).trans H0.out.1)
  clear hown hgrow hi5 hz0 hz1 hz2 hO1 hb1 hB
  go_upto_region 3 with (go_at_call 24; (with_reducible refine hD.mono ?_); rintro e w2 ⟨r, c, rfl, b2, h2⟩; have HB2 := tmh (And.intro b2 h2); clear b2 h2)
  have hc0 : c = 0 := HB2.out.2.1.trans HV.out.code
  subst hc0
  obtain ⟨p, c1, e1, k1⟩ := kat_own2 (HB2.out.2.2.2 rfl)
  subst e1
  have hb2 : Below B wp w2 := H1.out.2.1.trans (HB2.out.1.mono (Nat.le_of_lt (H1.out.1.lt B rfl).2))
  have H2 := tmh (And.intro (H1.out.1.later HB2.out.1) (And.intro hb2 k1))
  clear y0 y1 y2 y3 hb2 k1 hD
  go_wp2_with fail
  go_loopw [21] (fun x wr => ∃ k : Nat, x = .int .i64 (k : Int) ∧ k ≤ P.n ∧ Own wr B 4 1 (.slice (some ⟨B, 0, none⟩) P.n P.n) P.n (fun x => .bool ((fun x => if x < k then goU P x else false) x)) ∧ Below B wp wr ∧ Own wr w1.heap.size 3 1 (.slice p P.n c1) P.n (iv (dL P))) (fun x _ => P.n - (intOf x).toNat)
  case atStart => exact ⟨0, rfl, Nat.zero_le _, H2.out.1, H2.out.2.1, H2.out.2.2⟩
  case round =>
    obtain ⟨k, rfl, hk, hO, hbr, hK⟩ := hrel
    by_cases hlt : k < P.n
    · have d1 : decide ((k : Int) < (P.n : Int)) = true := by simp; omega
      have d2 : decide (k < P.n) = true := by simp; omega
      have i0 : (0 : Int) ≤ (k : Int) := by omega
      have i1 : (k : Int) < (P.n : Int) := by omega
      have ek : IntKind.i64.wrap ((k : Int) + 1) = ((k + 1 : Nat) : Int) := by rw [IntKind.wrap_i64]; omega
      have hm := meas0 hlt
      obtain ⟨gp, hgp⟩ := own_iptU hK (by omega)
      subst hgp
      have x0 : wr.cell? ⟨gp, k, none⟩ = some (.int .i64 (dL P k)) := hK.cell (by omega)
      obtain ⟨f0, f1, hBq⟩ := own_boolc hO hlt
      have hnn := (vf_of HV.out.code).2.nn k hlt
      have hgu : goU P k = decide (dL P k < 0) := by
        unfold goU
        exact decide_eq_decide.2 (by omega)
      have hKW : ∀ b : Bool, Own (wr.setCell ⟨B, k, none⟩ (.bool b)) w1.heap.size 3 1 (.slice (some ⟨gp, 0, none⟩) P.n c1) P.n (iv (dL P)) := fun b => hK.far fun j e => Below.heap_setCell _ _ _ _ fun e2 => ownC hK hO (by decide) e (by have e2 : j = B := e2; rw [e2]; rfl)
      obtain ⟨b, hb⟩ : ∃ b, decide (dL P k < 0) = b := ⟨_, rfl⟩
      have HF := tmh (And.intro (own_stepB hO b (hgu.trans hb)) (And.intro (hbr.setCell (p := ⟨B, k, none⟩) (Nat.le_refl _) (.bool b)) (hKW b)))
      clear hO hbr hK hk hBq hnn hgu hKW
      go_wp2_with fail
      exact ⟨⟨k + 1, rfl, hlt, HF.out.1, HF.out.2.1, HF.out.2.2⟩, hm⟩
    · have d1 : decide ((k : Int) < (P.n : Int)) = false := by simp; omega
      have d2 : decide (k < P.n) = false := by simp; omega
      obtain rfl : k = P.n := by omega
      have HF := tmh (And.intro hO hbr)
      clear hO hbr hk hlt hK
      go_wp2_with fail
      go_ret
      exact ⟨B, rfl, (own_allB HF.out.1).low (by rw [H1.out.2.2]; exact H0.out.2.1.size), H0.out.2.1.trans ((HF.out.2).mono (by rw [H1.out.2.2]; exact H0.out.2.1.size))⟩
end Go.Proofs.YtopggemomcoalaaGreat
namespace Go.Proofs.YtopggemomcoalaaGreat
open Go.ChangeShapes Go.WideShapes Go.ChangeAt Go.RowKit
set_option linter.unusedVariables false
set_option linter.unusedSimpArgs false

/-! ### the document's without -/
def wthK (P : Pg) (g : Nat → Bool) (k j : Nat) : Pg := { dropP P g with n := tox g k, m := j }
theorem setT3 {W : World} {b : Nat} {c0 c1 c2 c3 : Value} {t : TypeId} (h : W.heap[b]? = some (.cells #[c0, c1, c2, c3] t (0, 0))) (v : Value) : (W.setCell ⟨b, 3, none⟩ v).heap[b]? = some (.cells #[c0, c1, c2, v] t (0, 0)) := by
  obtain ⟨hlt, hk⟩ := Array.getElem?_eq_some_iff.1 h
  show (W.heap.modify b _)[b]? = _
  rw [Array.getElem?_eq_getElem (by rw [Array.size_modify]; exact hlt), Array.getElem_modify_self, hk]
  rfl
theorem setT2 {W : World} {b : Nat} {c0 c1 c2 c3 : Value} {t : TypeId} (h : W.heap[b]? = some (.cells #[c0, c1, c2, c3] t (0, 0))) (v : Value) : (W.setCell ⟨b, 2, none⟩ v).heap[b]? = some (.cells #[c0, c1, v, c3] t (0, 0)) := by
  obtain ⟨hlt, hk⟩ := Array.getElem?_eq_some_iff.1 h
  show (W.heap.modify b _)[b]? = _
  rw [Array.getElem?_eq_getElem (by rw [Array.size_modify]; exact hlt), Array.getElem_modify_self, hk]
  rfl
theorem PB.appC {W w8 w9 : World} {base tb : Nat} {R R' : Pg} {lp lq lp2 : Option Addr} {lc lx lc2 : Nat} (h : PB NoS NoH w8 base tb R lp lq lc lx) (hg : w8.grownBy w9 (Value.slice lp R.n lc).ownBlock) (ho : Own w9 base 36 3 (.slice lp2 R'.n lc2) R'.n (inC R'.op R'.a R'.b)) (e1 : R'.words = R.words) (e2 : R'.locals = R.locals) (e3 : R'.m = R.m) (e4 : R'.en = R.en) : PB NoS NoH (w9.setCell ⟨tb, 2, none⟩ (.slice lp2 R'.n lc2)) base tb R' lp2 lq lc2 lx := by
  have hx : w9.heap[tb]? = _ := (hg.block tb (ltB h.bx) (fun e => ownA h.cd h.bx (by decide) tb e.symm rfl)).trans h.bx
  refine ⟨?_, ho.far fun k e => Below.heap_setCell _ _ _ _ fun e9 => ownA ho hx (by decide) k e e9, ?_, h.lo, fun j hj => hj.elim, fun hj => hj, fun _ _ _ hj => hj, fun _ _ _ hj => hj⟩
  · rw [e1, e2, e3]
    exact setT2 hx _
  · rw [e3, e4]
    refine h.en.far fun k e => ?_
    have h1 : k ≠ tb := ownA h.en h.bx (by decide) k e
    rw [Below.heap_setCell _ _ _ _ h1]
    exact hg.block k (h.en.lt k e).2 fun e9 => ownC h.cd h.en (by decide) e9.symm e
theorem PB.appE {W w8 w9 : World} {base tb : Nat} {R R' : Pg} {lp lq lq2 : Option Addr} {lc lx lx2 : Nat} (h : PB NoS NoH w8 base tb R lp lq lc lx) (hg : w8.grownBy w9 (Value.slice lq R.m lx).ownBlock) (ho : Own w9 base 3 1 (.slice lq2 R'.m lx2) R'.m (iv R'.en)) (e1 : R'.words = R.words) (e2 : R'.locals = R.locals) (e3 : R'.n = R.n) (e4 : R'.op = R.op ∧ R'.a = R.a ∧ R'.b = R.b) : PB NoS NoH (w9.setCell ⟨tb, 3, none⟩ (.slice lq2 R'.m lx2)) base tb R' lp lq2 lc lx2 := by
  have hx : w9.heap[tb]? = _ := (hg.block tb (ltB h.bx) (fun e => ownA h.en h.bx (by decide) tb e.symm rfl)).trans h.bx
  refine ⟨?_, ?_, ho.far fun k e => Below.heap_setCell _ _ _ _ fun e9 => ownA ho hx (by decide) k e e9, h.lo, fun j hj => hj.elim, fun hj => hj, fun _ _ _ hj => hj, fun _ _ _ hj => hj⟩
  · rw [e1, e2, e3]
    exact setT3 hx _
  · rw [e3, e4.1, e4.2.1, e4.2.2]
    refine h.cd.far fun k e => ?_
    have h1 : k ≠ tb := ownA h.cd h.bx (by decide) k e
    rw [Below.heap_setCell _ _ _ _ h1]
    exact hg.block k (h.cd.lt k e).2 fun e9 => ownC h.en h.cd (by decide) e9.symm e
theorem own_slice1 {W : World} {base : Nat} {t : TypeId} {s m : Nat} {v : Value} {F : Nat → Value} (h : Own W base t s v m F) : ∃ p c, v = .slice p m c := by
  rcases h.form with ⟨h1, h2⟩ | ⟨g, c, h1, _⟩
  · subst h1; subst h2; exact ⟨none, 0, rfl⟩
  · exact ⟨_, _, h1⟩
theorem kpt_pos {P : Pg} {g : Nat → Bool} {k : Nat} (hk : k < P.n) (hg : g k = false) : (dropP P g).op (tox g k) = P.op k ∧ (dropP P g).a (tox g k) = (if jmp (P.op k) = true then ((tox g (P.a k).toNat : Nat) : Int) else P.a k) ∧ (dropP P g).b (tox g k) = P.b k := by
  have hk1 : (kpt g P.n).getD (tox g k) 0 = k := by
    rw [List.getD_eq_getElem?_getD, kpt_get g P.n hk hg]
    rfl
  refine ⟨?_, ?_, ?_⟩
  · show P.op ((kpt g P.n).getD (tox g k) 0) = _
    rw [hk1]
  · show (if jmp (P.op ((kpt g P.n).getD (tox g k) 0)) = true then ((tox g (P.a ((kpt g P.n).getD (tox g k) 0)).toNat : Nat) : Int) else P.a ((kpt g P.n).getD (tox g k) 0)) = _
    rw [hk1]
  · show P.b ((kpt g P.n).getD (tox g k) 0) = _
    rw [hk1]
theorem app1 {W : World} {base m : Nat} {t : TypeId} {v : Value} {F G : Nat → Value} {x : Value} (h : W.ownsRow base t 1 v (m + 1) (cellsF F (m * 1) ++ [x])) (h0 : ∀ j, j < m → G j = F j) (hx : G m = x) : Own W base t 1 v (m + 1) G := by
  have e : [x] = cellsF (fun j => G (m + j)) 1 := by
    show [x] = [G (m + 0)]
    rw [Nat.add_zero, hx]
  rw [e, cellsF_append, show m * 1 + 1 = (m + 1) * 1 by omega] at h
  refine Own.congr (F := fun j => if j < m * 1 then F j else G (m + (j - m * 1))) h fun j hj => ?_
  by_cases h1 : j < m * 1
  · rw [if_pos h1, h0 j (by omega)]
  · rw [if_neg h1, show m + (j - m * 1) = j by omega]
theorem own_zeros {w w' : World} {n : Nat} {F : Nat → Nat} (hown : w'.ownsRow w.heap.size 3 1 (.slice (some ⟨w.heap.size, 0, none⟩) n n) n (madeCells #[Value.int .i64 0] n).toList) : Own w' w.heap.size 3 1 (.slice (some ⟨w.heap.size, 0, none⟩) n n) n (iv fun x => (((fun x => if x < 0 then F x else 0) x : Nat) : Int)) := (own_of hown).congr fun j hj => by
  have h6 : (Value.int .i64 0).cells.size = 1 := rfl
  unfold madeCells iv
  have hj2 : j < n := by omega
  simp [hj2, h6]
  rw [Nat.mod_one]
  rfl
set_option maxRecDepth 100000 in
set_option maxHeartbeats 16000000 in
theorem without_any {P : Pg} (gd : Gd P) (hn : P.n ≤ 4096) (hm32 : P.m ≤ 32) (g : Nat → Bool) (cp ep : Option Addr) (cc ec : Nat) {bo ob : Nat} (W : World) (hI : IAt W cp P.n P.op P.a P.b) (hE : KAt W ep P.m P.en) (hG : Own W bo 4 1 (.slice (some ⟨ob, 0, none⟩) P.n P.n) P.n (fun x => .bool (g x))) :
    Calls Tryz.prog 31 #[.agg #[.int .i64 P.words, .int .i64 P.locals, .slice cp P.n cc, .slice ep P.m ec], .slice (some ⟨ob, 0, none⟩) P.n P.n] W fun e W' => OwnP W W' e (dropP P g) := by
  obtain ⟨i3, hi3, ha3, hb3, hc3⟩ := info_parts infoIns
  obtain ⟨i5, hi5, hz0, hz1, hz2⟩ := info_parts infoInt1
  obtain ⟨wp, hwp⟩ : ∃ wp, W.alloc (.cells #[.int .i64 P.words, .int .i64 P.locals, .slice cp P.n cc, .slice ep P.m ec] 25) = wp := ⟨_, rfl⟩
  obtain ⟨hbp, hpx, hpz⟩ := boxed _ _ _ hwp
  obtain ⟨wa, hwa⟩ : ∃ wa, wp.alloc (.cells #[.int .i64 0, .int .i64 0, .slice none 0 0, .slice none 0 0] 25) = wa := ⟨_, rfl⟩
  obtain ⟨hba, hrx, haz⟩ := boxed _ _ _ hwa
  rw [hpz] at hrx
  have hWa : Below W.heap.size W wa := hbp.trans (hba.mono hbp.size)
  have hpb := (hba.block W.heap.size (by omega)).trans hpx
  obtain ⟨wq, hwq⟩ : ∃ wq, wa.alloc (.cells #[.int .i64 P.words, .int .i64 P.locals, .slice none 0 0, .slice none 0 0] 25) = wq := ⟨_, rfl⟩
  obtain ⟨hbq, hqx, hqz⟩ := boxed _ _ _ hwq
  have hPB : PB NoS NoH wq wa.heap.size wa.heap.size (wthK P g 0 0) none none 0 0 := ⟨hqx, World.ownsRow_nil _ _ _ _, World.ownsRow_nil _ _ _ _, Nat.le_refl _, fun j hj => hj.elim, fun hj => hj, fun _ _ _ hj => hj, fun _ _ _ hj => hj⟩
  have HW := tmh (And.intro hwp (And.intro hwa hwq))
  have H0 := tmh (And.intro gd (And.intro hpb (And.intro hrx (And.intro hWa (And.intro (show wa.heap.size = W.heap.size + 2 by omega) (And.intro (hI.below hWa) (And.intro (hE.below hWa) (hG.later hWa))))))))
  have HQ := tmh (And.intro hPB (And.intro hbq (show wa.heap.size < wq.heap.size by omega)))
  obtain ⟨y0, y1, y2, y3⟩ := cells4 hpb
  clear hwp hbp hpx hpz hwa hba hrx haz hWa hI hE hG gd hwq hqx hqz hPB
  go_enter Tryz.func31, Tryz.ntmps31
  go_upto_region 1 with fail
  rw [HW.out.1, HW.out.2.1]
  go_upto_region 2 with fail
  rw [HW.out.2.2]
  obtain ⟨y0, y1, y2, y3⟩ := cells4 ((hbq.block _ (show W.heap.size < wa.heap.size by have := H0.out.2.2.2.2.1; omega)).trans hpb)
  clear hpb hbq
  go_upto_region 3 with (at_make; refine wpList_make_full _ rfl (.tmp 20) (.tmp 20) 23 rfl wq.heap.size 3 i5 _ 1 Tryz.underlying23 hi5 hz0 hz1 .i64 .i64 P.n P.n P.n rfl rfl rfl rfl ?c1 ?c2 ?c3 ?_)
  case c1 => rw [hz2]; omega
  case c2 => unfold maxLen; omega
  case c3 => exact Nat.le_refl _
  intro w1 hown hgrow
  have hb1 : Below wq.heap.size wq w1 := (Below.refl _ _).grown hgrow (Nat.le_refl _) (by simp)
  have hO1 := own_zeros (F := tox g) hown
  obtain ⟨C, hC⟩ : ∃ C, C = wq.heap.size := ⟨_, rfl⟩
  rw [← hC] at hO1 hb1 ⊢
  have H1 := tmh (And.intro hO1 (And.intro hb1 hC))
  have hl0 : W.heap.size < wa.heap.size := by have := H0.out.2.2.2.2.1; omega
  have HL0 := tmh hl0
  have hpq := (HQ.out.2.1.block _ hl0).trans H0.out.2.1
  obtain ⟨y0, y1, y2, y3⟩ := cells4 ((hb1.block _ (show W.heap.size < C by rw [hC]; have := HQ.out.2.2; omega)).trans hpq)
  clear hown hgrow hO1 hb1 hpq hl0
  have HC := tmh hC
  clear hC
  go_wp2_with fail
  clear y0 y1 y2 y3
  go_loopw [7, 25] (fun y x wr => ∃ k : Nat, y = .int .i64 ((tox g k : Nat) : Int) ∧ x = .int .i64 (k : Int) ∧ k ≤ P.n ∧ Own wr C 3 1 (.slice (some ⟨C, 0, none⟩) P.n P.n) P.n (iv fun x => (((fun x => if x < k then tox g x else 0) x : Nat) : Int)) ∧ Below C wq wr) (fun _ x _ => P.n - (intOf x).toNat)
  case atStart => exact ⟨0, rfl, rfl, Nat.zero_le _, H1.out.1, H1.out.2.1⟩
  case round =>
    obtain ⟨k, rfl, rfl, hk, hO, hbr⟩ := hrel
    have hbw : Below wa.heap.size wa wr := HQ.out.2.1.trans (hbr.mono (by rw [HC.out]; exact Nat.le_of_lt HQ.out.2.2))
    by_cases hlt : k < P.n
    · have d1 : decide ((k : Int) < (P.n : Int)) = true := by simp; omega
      have d2 : decide (k < P.n) = true := by simp; omega
      have i0 : (0 : Int) ≤ (k : Int) := by omega
      have i1 : (k : Int) < (P.n : Int) := by omega
      have ek : IntKind.i64.wrap ((k : Int) + 1) = ((k + 1 : Nat) : Int) := by rw [IntKind.wrap_i64]; omega
      have htl := tox_le g k
      have ek2 : IntKind.i64.wrap (((tox g k : Nat) : Int) + 1) = ((tox g k + 1 : Nat) : Int) := by rw [IntKind.wrap_i64]; omega
      have hm := meas0 hlt
      obtain ⟨q0, f0, hBg⟩ := own_intc hO hlt
      have g0 := (H0.out.2.2.2.2.2.2.2.later hbw).cell (j := k) (by omega)
      have hs6 := own_updN hO k (tox g k)
      have hG9 : (wr.setCell ⟨C, k, none⟩ (.int .i64 ((tox g k : Nat) : Int))).cell? ⟨ob, k, none⟩ = some (.bool (g k)) := by
        have h9 : ob ≠ C := by
          have := (H0.out.2.2.2.2.2.2.2.lt ob rfl).2
          have := HC.out
          have := HQ.out.2.2
          omega
        exact (World.cell?_of_block (a := ⟨ob, k, none⟩) (Below.heap_setCell _ _ _ _ h9)).trans g0
      have hno : ob ≠ C := by
        have := (H0.out.2.2.2.2.2.2.2.lt ob rfl).2
        have := HC.out
        have := HQ.out.2.2
        omega
      have hno2 : C ≠ ob := fun e => hno e.symm
      have HF := tmh (And.intro (hs6.eqv (G := fun j => (((fun x => if x < k + 1 then tox g x else 0) j : Nat) : Int)) fun j hj => upd_step hlt j) (hbr.setCell (p := ⟨C, k, none⟩) (Nat.le_refl _) (.int .i64 ((tox g k : Nat) : Int))))
      have HTS := tmh (tox_succ g k)
      clear hs6 hO hbr hbw hk htl hBg
      rcases (by cases g k <;> simp : g k = true ∨ g k = false) with hgk | hgk
      · rw [hgk] at g0 hG9
        have HGK := tmh hgk
        clear hgk
        go_wp2_with fail
        exact ⟨⟨k + 1, by rw [HTS.out, HGK.out]; rfl, rfl, hlt, HF.out.1, HF.out.2⟩, hm⟩
      · rw [hgk] at g0 hG9
        have HGK := tmh hgk
        clear hgk
        go_wp2_with fail
        exact ⟨⟨k + 1, by rw [HTS.out, HGK.out]; rfl, rfl, hlt, HF.out.1, HF.out.2⟩, hm⟩
    · have d1 : decide ((k : Int) < (P.n : Int)) = false := by simp; omega
      have d2 : decide (k < P.n) = false := by simp; omega
      obtain rfl : k = P.n := by omega
      have hT := HQ.out.1.later (show Below wq.heap.size wq wr by rw [← HC.out]; exact hbr)
      have H2 := tmh (And.intro hO (And.intro hbw hT))
      obtain ⟨y0, y1, y2, y3⟩ := cells4 ((hbw.block _ HL0.out).trans H0.out.2.1)
      clear hO hbr hbw hT hk hlt
      go_wp2_with fail
      clear y0 y1 y2 y3
      go_loopw [43] (fun x wr => ∃ (k : Nat) (lp : Option Addr) (lc : Nat), x = .int .i64 (k : Int) ∧ k ≤ P.n ∧ PB NoS NoH wr wa.heap.size wa.heap.size (wthK P g k 0) lp none lc 0 ∧ Own wr C 3 1 (.slice (some ⟨C, 0, none⟩) P.n P.n) P.n (iv fun x => (((fun x => if x < P.n then tox g x else 0) x : Nat) : Int)) ∧ Below wa.heap.size wa wr) (fun x _ => P.n - (intOf x).toNat)
      case atStart => exact ⟨0, none, 0, rfl, Nat.zero_le _, H2.out.2.2, H2.out.1, H2.out.2.1⟩
      case round =>
        obtain ⟨k, lp, lc, rfl, hk, hT, hO, hbr⟩ := hrel
        by_cases hlt : k < P.n
        · have d1 : decide ((k : Int) < (P.n : Int)) = true := by simp; omega
          have d2 : decide (k < P.n) = true := by simp; omega
          have i0 : (0 : Int) ≤ (k : Int) := by omega
          have i1 : (k : Int) < (P.n : Int) := by omega
          have ek : IntKind.i64.wrap ((k : Int) + 1) = ((k + 1 : Nat) : Int) := by rw [IntKind.wrap_i64]; omega
          have hm := meas0 hlt
          obtain ⟨gp, op, hgp⟩ := iat_pt H0.out.2.2.2.2.2.1 (by omega)
          subst hgp
          obtain ⟨x0, x1, x2⟩ := iat_at (H0.out.2.2.2.2.2.1.below hbr) hlt
          obtain ⟨w5, hw5⟩ : ∃ w5, wr.alloc (.cells #[.int .i64 (P.op k), .int .i64 (P.a k), .int .i64 (P.b k)] 36) = w5 := ⟨_, rfl⟩
          obtain ⟨hb5, hx5, hz5⟩ := boxed _ _ _ hw5
          have HW5 := tmh hw5
          have hba : Below wa.heap.size wa w5 := hbr.trans (hb5.mono hbr.size)
          have g0 := (H0.out.2.2.2.2.2.2.2.later hba).cell (j := k) (by omega)
          have c0 : w5.cell? ⟨wr.heap.size, 0, none⟩ = some (.int .i64 (P.op k)) := cellT hx5 rfl
          have c1 : w5.cell? ⟨wr.heap.size, 1, none⟩ = some (.int .i64 (P.a k)) := cellT hx5 rfl
          have c2 : w5.cell? ⟨wr.heap.size, 2, none⟩ = some (.int .i64 (P.b k)) := cellT hx5 rfl
          have H5 := tmh (And.intro (hT.later hb5) (And.intro (hO.later hb5) (And.intro hba (And.intro hx5 (And.intro (show wr.heap.size < w5.heap.size by omega) (And.intro (hO.lt C rfl).2 (show wa.heap.size ≤ wr.heap.size from hbr.size)))))))
          have HTR := tmh (And.intro hT (And.intro hO hbr))
          have HB5 := tmh hb5
          have HTS := tmh (tox_succ g k)
          clear hw5 hb5 hx5 hz5 hT hO hba hbr hk
          go_upto_region 14 with fail
          rw [HW5.out]
          clear x0 x1 x2 HW5
          rcases (by cases g k <;> simp : g k = true ∨ g k = false) with hgk | hgk
          · rw [hgk] at g0
            have e9 : wthK P g (k + 1) 0 = wthK P g k 0 := by
              unfold wthK
              rw [HTS.out, hgk]; rfl
            have HE9 := tmh e9
            clear hgk e9
            go_wp2_with fail
            exact ⟨⟨k + 1, lp, lc, rfl, hlt, by rw [HE9.out]; exact H5.out.1, H5.out.2.1, H5.out.2.2.1⟩, hm⟩
          · rw [hgk] at g0
            obtain ⟨k1, k2, k3⟩ := kpt_pos hlt hgk
            have ht1 : tox g (k + 1) = tox g k + 1 := by rw [HTS.out, hgk]; rfl
            have HT1 := tmh (And.intro ht1 (And.intro k1 (And.intro k2 k3)))
            have HJ := rleads_any (P.op k) (P.a k) (P.b k) w5
            clear hgk k1 k2 k3 ht1
            cases hj : jmp (P.op k) with
            | false =>
              rw [hj] at HJ
              have HAV := tmh (HT1.out.2.2.1.trans (if_neg (by rw [hj]; exact Bool.false_ne_true)))
              clear hj
              go_upto_region 17 with (go_at_call 55; (with_reducible refine HJ.mono ?_); rintro e w7 ⟨rfl, b7⟩; have H7 := tmh (And.intro (H5.out.1.later b7) (And.intro (H5.out.2.1.later b7) (And.intro (H5.out.2.2.1.trans (b7.mono H5.out.2.2.1.size)) ((b7.block _ H5.out.2.2.2.2.1).trans H5.out.2.2.2.1)))); clear b7)
              clear c0 c1 c2 HJ
              have u0 : w7.cell? ⟨wr.heap.size, 0, none⟩ = some (.int .i64 (P.op k)) := cellT H7.out.2.2.2 rfl
              have u1 : w7.cell? ⟨wr.heap.size, 1, none⟩ = some (.int .i64 (P.a k)) := cellT H7.out.2.2.2 rfl
              have u2 : w7.cell? ⟨wr.heap.size, 2, none⟩ = some (.int .i64 (P.b k)) := cellT H7.out.2.2.2 rfl
              have z2 : w7.cell? ⟨wa.heap.size, 2, none⟩ = some (.slice lp (tox g k) lc) := H7.out.1.cells.2.2.1
              obtain ⟨w8, hw8⟩ : ∃ w8, w7.alloc (.cells #[.int .i64 (P.op k), .int .i64 (P.a k), .int .i64 (P.b k)] 36) = w8 := ⟨_, rfl⟩
              obtain ⟨hb8, hx8, hz8⟩ := boxed _ _ _ hw8
              have HW8 := tmh hw8
              have hn8 : ∀ j u, ([.int .i64 (P.op k), .int .i64 (P.a k), .int .i64 (P.b k)] : List Value)[j]? = some u → w8.cell? ((⟨w7.heap.size, 0, none⟩ : Addr).add j) = some u := by rw [← hw8]; exact newsI w7 _ _ _ _
              have hT8 := H7.out.1.later hb8
              have hO8 : w8.ownsRow wa.heap.size 36 3 (.slice lp (tox g k) lc) (tox g k) (cellsF (inC (dropP P g).op (dropP P g).a (dropP P g).b) (tox g k * 3)) := hT8.cd
              have hlk : tox g k ≤ k := tox_le g k
              have p1 : tox g k + 1 ≤ maxLen := by unfold maxLen; omega
              have p2 : (tox g k + 1) * 24 ≤ 140737488355328 := by omega
              have hB8 : wa.heap.size ≤ w8.heap.size := Nat.le_trans H7.out.2.2.1.size hb8.size
              have H8 := tmh (And.intro hO8 (And.intro hn8 (And.intro hB8 (And.intro hT8 (And.intro (H7.out.2.1.later hb8) (H7.out.2.2.1.trans (hb8.mono H7.out.2.2.1.size)))))))
              clear hw8 hx8 hb8 hn8 hz8 hO8 hlk hB8 hT8
              go_upto_region 18 with (at_builtin; rw [HW8.out]; refine wpList_append_own_at _ rfl _ _ 22 rfl wa.heap.size 36 i3 _ 3 24 Tryz.underlying22 hi3 ha3 hb3 hc3 rfl (by decide) _ _ _ rfl H8.out.1 ⟨w7.heap.size, 0, none⟩ 1 1 [.int .i64 (P.op k), .int .i64 (P.a k), .int .i64 (P.b k)] rfl rfl H8.out.2.1 (by simp [Value.oneCell']) p1 p2 H8.out.2.2.1 ?_; intro v' w9 hown9 hgrow9 _ hnb9; obtain ⟨lp2, lc2, hv9⟩ := own_slice1 (own_of hown9); subst hv9; have hx9 : w9.heap[wa.heap.size]? = _ := (hgrow9.block _ (ltB H8.out.2.2.2.1.bx) (fun e => ownA H8.out.2.2.2.1.cd H8.out.2.2.2.1.bx (by decide) _ e.symm rfl)).trans H8.out.2.2.2.1.bx; have z9 : w9.cell? ⟨wa.heap.size, 2, none⟩ = some (.slice lp (tox g k) lc) := cellT hx9 rfl; have f9 := frz hx9 2; have H9 := tmh (And.intro hown9 hgrow9); clear hown9 hgrow9 hnb9 hx9)
              have hrow : Own w9 wa.heap.size 36 3 (.slice lp2 (wthK P g (k + 1) 0).n lc2) (wthK P g (k + 1) 0).n (inC (wthK P g (k + 1) 0).op (wthK P g (k + 1) 0).a (wthK P g (k + 1) 0).b) := by
                show Own w9 wa.heap.size 36 3 (.slice lp2 (tox g (k + 1)) lc2) (tox g (k + 1)) (inC (dropP P g).op (dropP P g).a (dropP P g).b)
                rw [HT1.out.1]
                exact app3 H9.out.1 (fun j hj => rfl) (by rw [inC0, HT1.out.2.1]) (by rw [inC1, HAV.out]) (by rw [inC2, HT1.out.2.2.2])
              have hPB := PB.appC (W := w9) (R' := wthK P g (k + 1) 0) H8.out.2.2.2.1 H9.out.2 hrow rfl rfl rfl rfl
              have hne : ∀ j, (Value.slice (some ⟨C, 0, none⟩) P.n P.n).ownBlock = some j → (w9.setCell ⟨wa.heap.size, 2, none⟩ (.slice lp2 (wthK P g (k + 1) 0).n lc2)).heap[j]? = w8.heap[j]? := fun j e => by
                have h1 : j ≠ wa.heap.size := ownA H8.out.2.2.2.2.1 H8.out.2.2.2.1.bx (by decide) j e
                rw [Below.heap_setCell _ _ _ _ h1]
                exact H9.out.2.block j (H8.out.2.2.2.2.1.lt j e).2 fun e9 => ownC H8.out.2.2.2.1.cd H8.out.2.2.2.2.1 (by decide) e9.symm e
              have hO9 := H8.out.2.2.2.2.1.far hne
              have hb9 : Below wa.heap.size wa (w9.setCell ⟨wa.heap.size, 2, none⟩ (.slice lp2 (wthK P g (k + 1) 0).n lc2)) := (H8.out.2.2.2.2.2.grown H9.out.2 H8.out.2.2.1 (fun j hj => (H8.out.2.2.2.1.cd.lt j hj).1)).setCell (p := ⟨wa.heap.size, 2, none⟩) (Nat.le_refl _) _
              have HF : Hid (PB NoS NoH (w9.setCell ⟨wa.heap.size, 2, none⟩ (.slice lp2 (tox g k + 1) lc2)) wa.heap.size wa.heap.size (wthK P g (k + 1) 0) lp2 none lc2 0 ∧ Own (w9.setCell ⟨wa.heap.size, 2, none⟩ (.slice lp2 (tox g k + 1) lc2)) C 3 1 (.slice (some ⟨C, 0, none⟩) P.n P.n) P.n (iv fun x => (((fun x => if x < P.n then tox g x else 0) x : Nat) : Int)) ∧ Below wa.heap.size wa (w9.setCell ⟨wa.heap.size, 2, none⟩ (.slice lp2 (tox g k + 1) lc2))) := tmh (by
                rw [← HT1.out.1]
                exact ⟨hPB, hO9, hb9⟩)
              clear hPB hO9 hb9 hne hrow
              go_wp2_with fail
              exact ⟨⟨k + 1, lp2, lc2, rfl, hlt, HF.out.1, HF.out.2.1, HF.out.2.2⟩, hm⟩
            | true =>
              rw [hj] at HJ
              obtain ⟨A, hA, hAn⟩ : ∃ A : Nat, P.a k = (A : Int) ∧ A < P.n := by
                have := H0.out.1.a k hlt hj
                exact ⟨(P.a k).toNat, by omega, by omega⟩
              have HAV : Hid ((dropP P g).a (tox g k) = ((tox g A : Nat) : Int)) := tmh (HT1.out.2.2.1.trans ((if_pos hj).trans (by rw [hA, Int.toNat_natCast])))
              have HA := tmh hA
              clear hj hA
              go_upto_region 16 with (go_at_call 55; (with_reducible refine HJ.mono ?_); rintro e w6 ⟨rfl, b6⟩; have H6 := tmh (And.intro (H5.out.2.1.later b6) (And.intro (HB5.out.trans (b6.mono HB5.out.size)) ((b6.block _ H5.out.2.2.2.2.1).trans H5.out.2.2.2.1))); clear b6)
              clear c0 c1 c2 HJ
              have hx6 := H6.out.2.2
              have v1 : w6.cell? ⟨wr.heap.size, 1, none⟩ = some (.int .i64 (A : Int)) := (cellT hx6 rfl : w6.cell? ⟨wr.heap.size, 1, none⟩ = some (.int .i64 (P.a k))).trans (by rw [HA.out])
              have fz := frz hx6 1
              obtain ⟨q0, f0, hBg⟩ := own_intc H6.out.1 hAn
              rw [if_pos hAn] at q0
              have j0 : (0 : Int) ≤ (A : Int) := by omega
              have j1 : (A : Int) < (P.n : Int) := by omega
              have hb7 := H6.out.2.1.setCell (p := ⟨wr.heap.size, 1, none⟩) (Nat.le_refl _) (.int .i64 ((tox g A : Nat) : Int))
              obtain ⟨w7, hw7⟩ : ∃ w7, w6.setCell ⟨wr.heap.size, 1, none⟩ (.int .i64 ((tox g A : Nat) : Int)) = w7 := ⟨_, rfl⟩
              have HW7 := tmh hw7
              have hx7 : w7.heap[wr.heap.size]? = some (.cells #[.int .i64 (P.op k), .int .i64 ((tox g A : Nat) : Int), .int .i64 (P.b k)] 36 (0, 0)) := by
                rw [← hw7, setCell_block _ _ _ _ hx6]
                rfl
              rw [hw7] at hb7
              have H7 := tmh (And.intro (HTR.out.1.later hb7) (And.intro (HTR.out.2.1.later hb7) (And.intro (HTR.out.2.2.trans (hb7.mono HTR.out.2.2.size)) hx7)))
              clear hw7 hx7 hb7 hx6 hBg
              go_upto_region 17 with fail
              rw [HW7.out]
              clear v1 fz q0 f0 j0 j1 HW7
              have u0 : w7.cell? ⟨wr.heap.size, 0, none⟩ = some (.int .i64 (P.op k)) := cellT H7.out.2.2.2 rfl
              have u1 : w7.cell? ⟨wr.heap.size, 1, none⟩ = some (.int .i64 ((tox g A : Nat) : Int)) := cellT H7.out.2.2.2 rfl
              have u2 : w7.cell? ⟨wr.heap.size, 2, none⟩ = some (.int .i64 (P.b k)) := cellT H7.out.2.2.2 rfl
              have z2 : w7.cell? ⟨wa.heap.size, 2, none⟩ = some (.slice lp (tox g k) lc) := H7.out.1.cells.2.2.1
              obtain ⟨w8, hw8⟩ : ∃ w8, w7.alloc (.cells #[.int .i64 (P.op k), .int .i64 ((tox g A : Nat) : Int), .int .i64 (P.b k)] 36) = w8 := ⟨_, rfl⟩
              obtain ⟨hb8, hx8, hz8⟩ := boxed _ _ _ hw8
              have HW8 := tmh hw8
              have hn8 : ∀ j u, ([.int .i64 (P.op k), .int .i64 ((tox g A : Nat) : Int), .int .i64 (P.b k)] : List Value)[j]? = some u → w8.cell? ((⟨w7.heap.size, 0, none⟩ : Addr).add j) = some u := by rw [← hw8]; exact newsI w7 _ _ _ _
              have hT8 := H7.out.1.later hb8
              have hO8 : w8.ownsRow wa.heap.size 36 3 (.slice lp (tox g k) lc) (tox g k) (cellsF (inC (dropP P g).op (dropP P g).a (dropP P g).b) (tox g k * 3)) := hT8.cd
              have hlk : tox g k ≤ k := tox_le g k
              have p1 : tox g k + 1 ≤ maxLen := by unfold maxLen; omega
              have p2 : (tox g k + 1) * 24 ≤ 140737488355328 := by omega
              have hB8 : wa.heap.size ≤ w8.heap.size := Nat.le_trans H7.out.2.2.1.size hb8.size
              have H8 := tmh (And.intro hO8 (And.intro hn8 (And.intro hB8 (And.intro hT8 (And.intro (H7.out.2.1.later hb8) (H7.out.2.2.1.trans (hb8.mono H7.out.2.2.1.size)))))))
              clear hw8 hx8 hb8 hn8 hz8 hO8 hlk hB8 hT8
              go_upto_region 18 with (at_builtin; rw [HW8.out]; refine wpList_append_own_at _ rfl _ _ 22 rfl wa.heap.size 36 i3 _ 3 24 Tryz.underlying22 hi3 ha3 hb3 hc3 rfl (by decide) _ _ _ rfl H8.out.1 ⟨w7.heap.size, 0, none⟩ 1 1 [.int .i64 (P.op k), .int .i64 ((tox g A : Nat) : Int), .int .i64 (P.b k)] rfl rfl H8.out.2.1 (by simp [Value.oneCell']) p1 p2 H8.out.2.2.1 ?_; intro v' w9 hown9 hgrow9 _ hnb9; obtain ⟨lp2, lc2, hv9⟩ := own_slice1 (own_of hown9); subst hv9; have hx9 : w9.heap[wa.heap.size]? = _ := (hgrow9.block _ (ltB H8.out.2.2.2.1.bx) (fun e => ownA H8.out.2.2.2.1.cd H8.out.2.2.2.1.bx (by decide) _ e.symm rfl)).trans H8.out.2.2.2.1.bx; have z9 : w9.cell? ⟨wa.heap.size, 2, none⟩ = some (.slice lp (tox g k) lc) := cellT hx9 rfl; have f9 := frz hx9 2; have H9 := tmh (And.intro hown9 hgrow9); clear hown9 hgrow9 hnb9 hx9)
              have hrow : Own w9 wa.heap.size 36 3 (.slice lp2 (wthK P g (k + 1) 0).n lc2) (wthK P g (k + 1) 0).n (inC (wthK P g (k + 1) 0).op (wthK P g (k + 1) 0).a (wthK P g (k + 1) 0).b) := by
                show Own w9 wa.heap.size 36 3 (.slice lp2 (tox g (k + 1)) lc2) (tox g (k + 1)) (inC (dropP P g).op (dropP P g).a (dropP P g).b)
                rw [HT1.out.1]
                exact app3 H9.out.1 (fun j hj => rfl) (by rw [inC0, HT1.out.2.1]) (by rw [inC1, HAV.out]) (by rw [inC2, HT1.out.2.2.2])
              have hPB := PB.appC (W := w9) (R' := wthK P g (k + 1) 0) H8.out.2.2.2.1 H9.out.2 hrow rfl rfl rfl rfl
              have hne : ∀ j, (Value.slice (some ⟨C, 0, none⟩) P.n P.n).ownBlock = some j → (w9.setCell ⟨wa.heap.size, 2, none⟩ (.slice lp2 (wthK P g (k + 1) 0).n lc2)).heap[j]? = w8.heap[j]? := fun j e => by
                have h1 : j ≠ wa.heap.size := ownA H8.out.2.2.2.2.1 H8.out.2.2.2.1.bx (by decide) j e
                rw [Below.heap_setCell _ _ _ _ h1]
                exact H9.out.2.block j (H8.out.2.2.2.2.1.lt j e).2 fun e9 => ownC H8.out.2.2.2.1.cd H8.out.2.2.2.2.1 (by decide) e9.symm e
              have hO9 := H8.out.2.2.2.2.1.far hne
              have hb9 : Below wa.heap.size wa (w9.setCell ⟨wa.heap.size, 2, none⟩ (.slice lp2 (wthK P g (k + 1) 0).n lc2)) := (H8.out.2.2.2.2.2.grown H9.out.2 H8.out.2.2.1 (fun j hj => (H8.out.2.2.2.1.cd.lt j hj).1)).setCell (p := ⟨wa.heap.size, 2, none⟩) (Nat.le_refl _) _
              have HF : Hid (PB NoS NoH (w9.setCell ⟨wa.heap.size, 2, none⟩ (.slice lp2 (tox g k + 1) lc2)) wa.heap.size wa.heap.size (wthK P g (k + 1) 0) lp2 none lc2 0 ∧ Own (w9.setCell ⟨wa.heap.size, 2, none⟩ (.slice lp2 (tox g k + 1) lc2)) C 3 1 (.slice (some ⟨C, 0, none⟩) P.n P.n) P.n (iv fun x => (((fun x => if x < P.n then tox g x else 0) x : Nat) : Int)) ∧ Below wa.heap.size wa (w9.setCell ⟨wa.heap.size, 2, none⟩ (.slice lp2 (tox g k + 1) lc2))) := tmh (by
                rw [← HT1.out.1]
                exact ⟨hPB, hO9, hb9⟩)
              clear hPB hO9 hb9 hne hrow
              go_wp2_with fail
              exact ⟨⟨k + 1, lp2, lc2, rfl, hlt, HF.out.1, HF.out.2.1, HF.out.2.2⟩, hm⟩
        · have d1 : decide ((k : Int) < (P.n : Int)) = false := by simp; omega
          have d2 : decide (k < P.n) = false := by simp; omega
          obtain rfl : k = P.n := by omega
          have H6 := tmh (And.intro hT (And.intro hO hbr))
          obtain ⟨y0, y1, y2, y3⟩ := cells4 ((hbr.block _ HL0.out).trans H0.out.2.1)
          clear hT hO hbr hk hlt
          go_wp2_with fail
          clear y0 y1 y2 y3
          go_loopw [70] (fun x wr => ∃ (k : Nat) (lq : Option Addr) (lx : Nat), x = .int .i64 (k : Int) ∧ k ≤ P.m ∧ PB NoS NoH wr wa.heap.size wa.heap.size (wthK P g P.n k) lp lq lc lx ∧ (∀ j, (Value.slice lq k lx).ownBlock = some j → j ≠ C) ∧ Own wr C 3 1 (.slice (some ⟨C, 0, none⟩) P.n P.n) P.n (iv fun x => (((fun x => if x < P.n then tox g x else 0) x : Nat) : Int)) ∧ Below wa.heap.size wa wr) (fun x _ => P.m - (intOf x).toNat)
          case atStart => exact ⟨0, none, 0, rfl, Nat.zero_le _, H6.out.1, fun j hj => (by simp [Value.ownBlock] at hj), H6.out.2.1, H6.out.2.2⟩
          case round =>
            obtain ⟨k, lq, lx, rfl, hk, hT, hNC, hO, hbr⟩ := hrel
            have HNC := tmh (And.intro hNC (hO.lt C rfl).2)
            clear hNC
            by_cases hlt : k < P.m
            · have d1 : decide ((k : Int) < (P.m : Int)) = true := by simp; omega
              have d2 : decide (k < P.m) = true := by simp; omega
              have i0 : (0 : Int) ≤ (k : Int) := by omega
              have i1 : (k : Int) < (P.m : Int) := by omega
              have ek : IntKind.i64.wrap ((k : Int) + 1) = ((k + 1 : Nat) : Int) := by rw [IntKind.wrap_i64]; omega
              have hm := meas0 hlt
              obtain ⟨ge, oe, hge⟩ := kat_ptU H0.out.2.2.2.2.2.2.1 (by omega)
              subst hge
              have x0 := kat_atU (H0.out.2.2.2.2.2.2.1.below hbr) hlt
              have hv := H0.out.1.en k hlt
              rcases (by cases decide (0 ≤ P.en k) <;> simp : decide (0 ≤ P.en k) = true ∨ decide (0 ≤ P.en k) = false) with e0 | e0
              · obtain ⟨A, hA, hAn⟩ : ∃ A : Nat, P.en k = (A : Int) ∧ A < P.n := by
                  have := of_decide_eq_true e0
                  exact ⟨(P.en k).toNat, by omega, by omega⟩
                have HAV : Hid ((dropP P g).en k = ((tox g A : Nat) : Int)) := tmh (by
                  show (if P.en k = -1 then -1 else ((tox g (P.en k).toNat : Nat) : Int)) = _
                  rw [if_neg (by rw [hA]; omega), hA, Int.toNat_natCast])
                obtain ⟨q0, f0, hBg⟩ := own_intc hO hAn
                rw [if_pos hAn] at q0
                have j0 : (0 : Int) ≤ (A : Int) := by omega
                have j1 : (A : Int) < (P.n : Int) := by omega
                rw [hA] at x0 e0
                clear hA hv hBg
                have z2 : wr.cell? ⟨wa.heap.size, 3, none⟩ = some (.slice lq k lx) := hT.cells.2.2.2
                obtain ⟨w8, hw8⟩ : ∃ w8, wr.alloc (.cells #[.int .i64 ((tox g A : Nat) : Int)] 3) = w8 := ⟨_, rfl⟩
                obtain ⟨hb8, hx8, hz8⟩ := boxed _ _ _ hw8
                have HW8 := tmh hw8
                have hn8 : ∀ j u, ([.int .i64 ((tox g A : Nat) : Int)] : List Value)[j]? = some u → w8.cell? ((⟨wr.heap.size, 0, none⟩ : Addr).add j) = some u := by rw [← hw8]; exact cell_one_new wr _ _
                have HSZ := tmh hb8.size
                have hT8 := hT.later hb8
                have hO8 : w8.ownsRow wa.heap.size 3 1 (.slice lq k lx) k (cellsF (iv (dropP P g).en) (k * 1)) := hT8.en
                have p1 : k + 1 ≤ maxLen := by unfold maxLen; omega
                have p2 : (k + 1) * 8 ≤ 140737488355328 := by omega
                have hB8 : wa.heap.size ≤ w8.heap.size := Nat.le_trans hbr.size hb8.size
                have H8 := tmh (And.intro hO8 (And.intro hn8 (And.intro hB8 (And.intro hT8 (And.intro (hO.later hb8) (hbr.trans (hb8.mono hbr.size)))))))
                clear hw8 hx8 hb8 hn8 hz8 hO8 hB8 hT8 hT hO hbr hk
                go_upto_region 25 with (at_builtin; rw [HW8.out]; refine wpList_append_own_at _ rfl _ _ 23 rfl wa.heap.size 3 i5 _ 1 8 Tryz.underlying23 hi5 hz0 hz1 hz2 rfl (by decide) _ _ _ rfl H8.out.1 ⟨wr.heap.size, 0, none⟩ 1 1 [.int .i64 ((tox g A : Nat) : Int)] rfl rfl H8.out.2.1 (by simp [Value.oneCell']) p1 p2 H8.out.2.2.1 ?_; intro v' w9 hown9 hgrow9 _ hnb9; obtain ⟨lq2, lx2, hv9⟩ := own_slice1 (own_of hown9); subst hv9; have hx9 : w9.heap[wa.heap.size]? = _ := (hgrow9.block _ (ltB H8.out.2.2.2.1.bx) (fun e => ownA H8.out.2.2.2.1.en H8.out.2.2.2.1.bx (by decide) _ e.symm rfl)).trans H8.out.2.2.2.1.bx; have z9 : w9.cell? ⟨wa.heap.size, 3, none⟩ = some (.slice lq k lx) := cellT hx9 rfl; have f9 := frz hx9 3; have H9 := tmh (And.intro hown9 (And.intro hgrow9 hnb9)); clear hown9 hgrow9 hnb9 hx9)
                have hrow : Own w9 wa.heap.size 3 1 (.slice lq2 (wthK P g P.n (k + 1)).m lx2) (wthK P g P.n (k + 1)).m (iv (wthK P g P.n (k + 1)).en) := app1 H9.out.1 (fun j hj => rfl) (by show Value.int .i64 ((dropP P g).en k) = _; rw [HAV.out])
                have hPB := PB.appE (W := w9) (R' := wthK P g P.n (k + 1)) H8.out.2.2.2.1 H9.out.2.1 hrow rfl rfl rfl ⟨rfl, rfl, rfl⟩
                have hne : ∀ j, (Value.slice (some ⟨C, 0, none⟩) P.n P.n).ownBlock = some j → (w9.setCell ⟨wa.heap.size, 3, none⟩ (.slice lq2 (k + 1) lx2)).heap[j]? = w8.heap[j]? := fun j e => by
                  have h1 : j ≠ wa.heap.size := ownA H8.out.2.2.2.2.1 H8.out.2.2.2.1.bx (by decide) j e
                  rw [Below.heap_setCell _ _ _ _ h1]
                  refine H9.out.2.1.block j (H8.out.2.2.2.2.1.lt j e).2 fun e9 => ?_
                  simp [Value.ownBlock] at e
                  exact HNC.out.1 j e9.symm e.symm
                have hO9 := H8.out.2.2.2.2.1.far hne
                have hb9 : Below wa.heap.size wa (w9.setCell ⟨wa.heap.size, 3, none⟩ (.slice lq2 (k + 1) lx2)) := (H8.out.2.2.2.2.2.grown H9.out.2.1 H8.out.2.2.1 (fun j hj => (H8.out.2.2.2.1.en.lt j hj).1)).setCell (p := ⟨wa.heap.size, 3, none⟩) (Nat.le_refl _) _
                have HF := tmh (And.intro hPB (And.intro hO9 hb9))
                clear hPB hO9 hb9 hne hrow
                go_wp2_with fail
                exact ⟨⟨k + 1, lq2, lx2, rfl, hlt, HF.out.1, (fun j hj => by
                  rcases H9.out.2.2 with e | e
                  · exact HNC.out.1 j (e.symm.trans hj)
                  · have e2 := e.symm.trans hj
                    injection e2 with e2
                    have := HNC.out.2
                    have := HSZ.out
                    omega), HF.out.2.1, HF.out.2.2⟩, hm⟩
              · have h0 : P.en k = -1 := by have := of_decide_eq_false e0; omega
                have HAV : Hid ((dropP P g).en k = -1) := tmh (if_pos h0)
                rw [h0] at x0 e0
                clear h0 hv
                have z2 : wr.cell? ⟨wa.heap.size, 3, none⟩ = some (.slice lq k lx) := hT.cells.2.2.2
                obtain ⟨w8, hw8⟩ : ∃ w8, wr.alloc (.cells #[.int .i64 (-1)] 3) = w8 := ⟨_, rfl⟩
                obtain ⟨hb8, hx8, hz8⟩ := boxed _ _ _ hw8
                have HW8 := tmh hw8
                have hn8 : ∀ j u, ([.int .i64 (-1)] : List Value)[j]? = some u → w8.cell? ((⟨wr.heap.size, 0, none⟩ : Addr).add j) = some u := by rw [← hw8]; exact cell_one_new wr _ _
                have HSZ := tmh hb8.size
                have hT8 := hT.later hb8
                have hO8 : w8.ownsRow wa.heap.size 3 1 (.slice lq k lx) k (cellsF (iv (dropP P g).en) (k * 1)) := hT8.en
                have p1 : k + 1 ≤ maxLen := by unfold maxLen; omega
                have p2 : (k + 1) * 8 ≤ 140737488355328 := by omega
                have hB8 : wa.heap.size ≤ w8.heap.size := Nat.le_trans hbr.size hb8.size
                have H8 := tmh (And.intro hO8 (And.intro hn8 (And.intro hB8 (And.intro hT8 (And.intro (hO.later hb8) (hbr.trans (hb8.mono hbr.size)))))))
                clear hw8 hx8 hb8 hn8 hz8 hO8 hB8 hT8 hT hO hbr hk
                go_upto_region 25 with (at_builtin; rw [HW8.out]; refine wpList_append_own_at _ rfl _ _ 23 rfl wa.heap.size 3 i5 _ 1 8 Tryz.underlying23 hi5 hz0 hz1 hz2 rfl (by decide) _ _ _ rfl H8.out.1 ⟨wr.heap.size, 0, none⟩ 1 1 [.int .i64 (-1)] rfl rfl H8.out.2.1 (by simp [Value.oneCell']) p1 p2 H8.out.2.2.1 ?_; intro v' w9 hown9 hgrow9 _ hnb9; obtain ⟨lq2, lx2, hv9⟩ := own_slice1 (own_of hown9); subst hv9; have hx9 : w9.heap[wa.heap.size]? = _ := (hgrow9.block _ (ltB H8.out.2.2.2.1.bx) (fun e => ownA H8.out.2.2.2.1.en H8.out.2.2.2.1.bx (by decide) _ e.symm rfl)).trans H8.out.2.2.2.1.bx; have z9 : w9.cell? ⟨wa.heap.size, 3, none⟩ = some (.slice lq k lx) := cellT hx9 rfl; have f9 := frz hx9 3; have H9 := tmh (And.intro hown9 (And.intro hgrow9 hnb9)); clear hown9 hgrow9 hnb9 hx9)
                have hrow : Own w9 wa.heap.size 3 1 (.slice lq2 (wthK P g P.n (k + 1)).m lx2) (wthK P g P.n (k + 1)).m (iv (wthK P g P.n (k + 1)).en) := app1 H9.out.1 (fun j hj => rfl) (by show Value.int .i64 ((dropP P g).en k) = _; rw [HAV.out])
                have hPB := PB.appE (W := w9) (R' := wthK P g P.n (k + 1)) H8.out.2.2.2.1 H9.out.2.1 hrow rfl rfl rfl ⟨rfl, rfl, rfl⟩
                have hne : ∀ j, (Value.slice (some ⟨C, 0, none⟩) P.n P.n).ownBlock = some j → (w9.setCell ⟨wa.heap.size, 3, none⟩ (.slice lq2 (k + 1) lx2)).heap[j]? = w8.heap[j]? := fun j e => by
                  have h1 : j ≠ wa.heap.size := ownA H8.out.2.2.2.2.1 H8.out.2.2.2.1.bx (by decide) j e
                  rw [Below.heap_setCell _ _ _ _ h1]
                  refine H9.out.2.1.block j (H8.out.2.2.2.2.1.lt j e).2 fun e9 => ?_
                  simp [Value.ownBlock] at e
                  exact HNC.out.1 j e9.symm e.symm
                have hO9 := H8.out.2.2.2.2.1.far hne
                have hb9 : Below wa.heap.size wa (w9.setCell ⟨wa.heap.size, 3, none⟩ (.slice lq2 (k + 1) lx2)) := (H8.out.2.2.2.2.2.grown H9.out.2.1 H8.out.2.2.1 (fun j hj => (H8.out.2.2.2.1.en.lt j hj).1)).setCell (p := ⟨wa.heap.size, 3, none⟩) (Nat.le_refl _) _
                have HF := tmh (And.intro hPB (And.intro hO9 hb9))
                clear hPB hO9 hb9 hne hrow
                go_wp2_with fail
                exact ⟨⟨k + 1, lq2, lx2, rfl, hlt, HF.out.1, (fun j hj => by
                  rcases H9.out.2.2 with e | e
                  · exact HNC.out.1 j (e.symm.trans hj)
                  · have e2 := e.symm.trans hj
                    injection e2 with e2
                    have := HNC.out.2
                    have := HSZ.out
                    omega), HF.out.2.1, HF.out.2.2⟩, hm⟩
            · have d1 : decide ((k : Int) < (P.m : Int)) = false := by simp; omega
              have d2 : decide (k < P.m) = false := by simp; omega
              obtain rfl : k = P.m := by omega
              have hT2 : PB NoS NoH wr wa.heap.size wa.heap.size (dropP P g) lp lq lc lx := hT
              clear hT hk hlt
              obtain ⟨q0, q1, q2, q3⟩ := hT2.cells
              have hr2 := (hbr.block _ (show W.heap.size + 1 < wa.heap.size by have := H0.out.2.2.2.2.1; omega)).trans H0.out.2.2.1
              have hfr := fun k9 => frz hr2 k9
              obtain ⟨z0, z1, z2, z3⟩ := cells4 hr2
              have hnt : wa.heap.size ≠ W.heap.size + 1 := by have := H0.out.2.2.2.2.1; omega
              have HX := tmh (And.intro hT2 (And.intro hbr hr2))
              clear hT2 hbr hr2 hO
              generalize hQ : dropP P g = Q at q0 q1 q2 q3 HX
              have HQ := tmh hQ
              clear hQ
              go_wp2_with fail
              generalize hWF : World.setCell (World.setCell (World.setCell (World.setCell wr _ _) _ _) _ _) _ _ = wF
              obtain ⟨hres, o1, o2, hbF⟩ := rT_end H0.out.2.2.2.1 H0.out.2.2.2.2.1 HX.out.1 HX.out.2.1 HX.out.2.2 hWF
              clear hWF z0 z1 z2 z3 hfr q0 q1 q2 q3
              obtain ⟨z0, z1, z2, z3⟩ := cells4 hres
              refine bodyPost_ret (v := .agg #[.int .i64 Q.words, .int .i64 Q.locals, .slice lp Q.n lc, .slice lq Q.m lx]) (by simp [results, Tryz.results31, go_sem, z0, z1, z2, z3]; try rfl) rfl ?_
              rw [HQ.out]
              exact ⟨lp, lq, lc, lx, rfl, o1, o2, hbF⟩
end Go.Proofs.YtopggemomcoalaaGreat
