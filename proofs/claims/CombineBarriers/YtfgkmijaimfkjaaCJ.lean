import Derived.Test.YtfgkmijaimfkjaaC9
import Derived.Test.YtfgkmijaimfkjaaCP2
namespace Go.Proofs.Ytfgkmijaimfkjaa
open Go.ChangeShapes Go.WideShapes Go.ChangeAt Go.RowKit
set_option linter.unusedVariables false
set_option linter.unusedSimpArgs false

def vt0 : Value := .agg #[.int .u64 0, .bool false, .bool false, .bool false, .int .u64 0, .int .i64 0, .int .u64 0, .int .i64 0, .int .i64 0]
def vlA (x : Int) : Value := .agg #[.int .i64 x, .int .u64 0, .bool false, .bool false, .bool false, .int .u64 0, .int .i64 0, .int .u64 0, .int .i64 0, .int .i64 0]
/-- the joins by their numbers -/
def JF (k : Nat) (a b : Int) : Int :=
  match k with
  | 0 => a
  | 1 => wrap64 (a - b)
  | 2 => wrap64 (wrap64 (31 * a) + b)
  | 3 => if b < a then b else a
  | _ => 0
set_option maxRecDepth 100000 in
set_option maxHeartbeats 4000000 in
theorem votes_zero (w : World) : Calls Try.prog 62 #[vt0, vt0] w fun e w' => e = .returned vt0 ∧ ∃ o1 o2 o3 o4 o5 o6, w' = ((((((w.alloc o1).alloc o2).alloc o3).alloc o4).alloc o5).alloc o6) := by
  unfold vt0
  go_enter Try.func62, Try.ntmps62
  go_wp2_with fail
  refine wp_loop_rounds 4 ?_
  rw [rounds_succ]
  go_wp2_with fail
  rw [rounds_succ]
  go_wp2_with fail
  rw [rounds_succ]
  go_wp2_with fail
  go_returns
  exact ⟨rfl, _, _, _, _, _, _, rfl⟩
set_option maxRecDepth 100000 in
set_option maxHeartbeats 4000000 in
theorem join_any (k : Nat) (hk : k < 5) (a b : Int) (w : World) : Calls Try.prog 22 #[.int .i64 (k : Int), vlA a, vlA b] w fun e w' => e = .returned (vlA (JF k a b)) ∧ Below w.heap.size w w' := by
  have HV := fun w => votes_zero w
  unfold vt0 at HV
  unfold vlA
  have h5 : k = 0 ∨ k = 1 ∨ k = 2 ∨ k = 3 ∨ k = 4 := by omega
  rcases h5 with rfl | rfl | rfl | rfl | rfl
  · show Calls _ _ _ _ _
    simp only [JF]
    go_enter Try.func22, Try.ntmps22
    go_wp2_with fail
    go_returns
    exact ⟨rfl, by repeat (first | exact Below.refl _ _ | apply Below.drew | refine Below.alloc ?_ (by simp <;> omega) _)⟩
  · simp only [JF]
    go_enter Try.func22, Try.ntmps22
    go_wp2_with fail
    go_returns
    exact ⟨rfl, by repeat (first | exact Below.refl _ _ | apply Below.drew | refine Below.alloc ?_ (by simp <;> omega) _)⟩
  · simp only [JF]
    go_enter Try.func22, Try.ntmps22
    go_wp2_with fail
    go_returns
    exact ⟨rfl, by repeat (first | exact Below.refl _ _ | apply Below.drew | refine Below.alloc ?_ (by simp <;> omega) _)⟩
  · simp only [JF]
    by_cases hl : b < a
    · have dl : decide (b < a) = true := by simpa using hl
      rw [if_pos hl]
      clear hl
      go_enter Try.func22, Try.ntmps22
      go_wp2_with fail
      go_returns
      exact ⟨rfl, by repeat (first | exact Below.refl _ _ | apply Below.drew | refine Below.alloc ?_ (by simp <;> omega) _)⟩
    · have dl : decide (b < a) = false := by simpa using hl
      rw [if_neg hl]
      clear hl
      go_enter Try.func22, Try.ntmps22
      go_wp2_with fail
      go_returns
      exact ⟨rfl, by repeat (first | exact Below.refl _ _ | apply Below.drew | refine Below.alloc ?_ (by simp <;> omega) _)⟩
  · simp only [JF]
    go_enter Try.func22, Try.ntmps22
    go_wp2_with (go_at_call 62; (with_reducible refine (HV _).mono ?_); rintro e w1 ⟨rfl, o1, o2, o3, o4, o5, o6, rfl⟩)
    go_returns
    exact ⟨rfl, by repeat (first | exact Below.refl _ _ | apply Below.drew | refine Below.setCell ?_ (by simp <;> omega) _ | refine Below.alloc ?_ (by simp <;> omega) _)⟩
theorem fieldN (x : Int) (w : World) : (Instr.field 62 (Value.agg #[.int .i64 x, .int .u64 0, .bool false, .bool false, .bool false, .int .u64 0, .int .i64 0, .int .u64 0, .int .i64 0, .int .i64 0]) 0).run Try.prog w = .ok (.int .i64 x) w := by kernel_rfl
set_option maxRecDepth 100000 in
theorem foClo (a b : Int) (W : World) : Calls Try.prog 56 #[.int .i64 a, .int .i64 b] W fun e W' => e = .returned (.int .i64 a) ∧ W' = W := by
  go_enter Try.func56, Try.ntmps56
  go_wp2_with fail
  go_ret
  exact ⟨rfl, rfl⟩
theorem foEnter (args : Array Value) (W : World) : Sem.run Try.prog (callFunc 56 args) W = .ok (.enter 56 args) W := by go_simp
theorem foJn (hb wb cb : Nat) : Jn 56 #[] (fun a _ => a) (fun _ => True) (fun _ => False) hb wb cb :=
  ⟨foEnter, fun a b W _ => (foClo a b W).mono fun e W' h => ⟨h.1, trivial, by rw [h.2]; exact Ch.refl _ _⟩, fun _ _ _ _ => trivial, id, id, id⟩
end Go.Proofs.Ytfgkmijaimfkjaa
