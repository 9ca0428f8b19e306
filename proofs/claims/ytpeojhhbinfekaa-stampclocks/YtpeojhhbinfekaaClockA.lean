import Derived.Test.YtpeojhhbinfekaaAdd
import Derived.Deep.RegionHeld3
namespace Go.Proofs.Ytpeojhhbinfekaa
open Go.ChangeShapes Go.WideShapes Go.ChangeAt Go.RowKit

theorem refAdd_any (t d : Int) (ht : 0 ≤ t ∧ t ≤ 18446744073709551615) (hd : 0 ≤ d ∧ d ≤ 18446744073709551615) (w : World) :
    Calls Try.prog 8 #[.int .u64 t, .int .u64 d] w fun e w' => e = .returned (.tuple #[.int .u64 (addN t d), .int .i64 (addE t d)]) ∧ w' = w := by
  by_cases c : t + d ≤ 18446744073709551615
  · have h1 : addN t d = t + d := by simp [addN, c]
    have h2 : addE t d = 0 := by simp [addE, c]
    rw [h1, h2]
    clear h1 h2
    go_enter Try.func8, Try.ntmps8
    go_wp2
    go_ret2
    exact ⟨rfl, rfl⟩
  · have h1 : addN t d = 0 := by simp [addN, c]
    have h2 : addE t d = 10 := by simp [addE, c]
    rw [h1, h2]
    clear h1 h2
    go_enter Try.func8, Try.ntmps8
    go_wp2
    go_ret2
    exact ⟨rfl, rfl⟩

theorem newClock_any (a : Int) (w : World) :
    Calls Try.prog 13 #[.int .u64 a] w fun e w' => e = .returned (.pointer (some ⟨w.heap.size, 0, none⟩)) ∧ w' = w.alloc (.cells #[.int .u64 a, .int .i64 0] 51) := by
  go_enter Try.func13, Try.ntmps13
  go_wp2
  go_ret
  exact ⟨rfl, rfl⟩

theorem now_any (b : Nat) (t e : Int) (w : World) (h : w.heap[b]? = some (.cells #[.int .u64 t, .int .i64 e] 51 (0, 0))) :
    Calls Try.prog 15 #[.pointer (some ⟨b, 0, none⟩)] w fun r w' => r = .returned (.int .u64 t) ∧ w' = w := by
  have h0 : w.cell? ⟨b, 0, none⟩ = some (.int .u64 t) := by simp [World.cell?, h]
  clear h
  go_enter Try.func15, Try.ntmps15
  go_wp2
  go_ret
  exact ⟨rfl, rfl⟩

theorem err_any (b : Nat) (t e : Int) (w : World) (h : w.heap[b]? = some (.cells #[.int .u64 t, .int .i64 e] 51 (0, 0))) :
    Calls Try.prog 16 #[.pointer (some ⟨b, 0, none⟩)] w fun r w' => r = .returned (.int .i64 e) ∧ w' = w := by
  have h0 : w.cell? ⟨b, 1, none⟩ = some (.int .i64 e) := by simp [World.cell?, h]
  clear h
  go_enter Try.func16, Try.ntmps16
  go_wp2
  go_ret
  exact ⟨rfl, rfl⟩

def advT (t e d : Int) : Int := if e = 0 ∧ t + d ≤ 18446744073709551615 then t + d else t
def advE (t e d : Int) : Int := if e = 0 ∧ t + d ≤ 18446744073709551615 then 0 else if e = 0 then 10 else e

theorem block_set {w : World} {b : Nat} {cs : Array Value} {T : TypeId} (h : w.heap[b]? = some (.cells cs T (0, 0))) (j : Nat) (u : Value) :
    (w.setCell ⟨b, j, none⟩ u).heap[b]? = some (.cells (cs.setIfInBounds j u) T (0, 0)) ∧ ∀ k, k ≠ b → (w.setCell ⟨b, j, none⟩ u).heap[k]? = w.heap[k]? := by
  refine ⟨?_, fun k hk => Below.heap_setCell w _ u k hk⟩
  simp [World.setCell, Array.getElem?_modify, h]

theorem advance_any (b : Nat) (t e d : Int) (w : World) (h : w.heap[b]? = some (.cells #[.int .u64 t, .int .i64 e] 51 (0, 0)))
    (ht : 0 ≤ t ∧ t ≤ 18446744073709551615) (hd : 0 ≤ d ∧ d ≤ 18446744073709551615) (he : e = 0 ∨ e = 10) :
    Calls Try.prog 14 #[.pointer (some ⟨b, 0, none⟩), .int .u64 d] w fun r w' => r = .returned (.int .i64 (advE t e d)) ∧
      w'.os = w.os ∧ w'.tape = w.tape ∧ w'.output = w.output ∧ w'.heap.size = w.heap.size ∧
      w'.heap[b]? = some (.cells #[.int .u64 (advT t e d), .int .i64 (advE t e d)] 51 (0, 0)) ∧ ∀ k, k ≠ b → w'.heap[k]? = w.heap[k]? := by
  have h0 : w.cell? ⟨b, 0, none⟩ = some (.int .u64 t) := by simp [World.cell?, h]
  have h1 : w.cell? ⟨b, 1, none⟩ = some (.int .i64 e) := by simp [World.cell?, h]
  have f0 : w.frozen? ⟨b, 0, none⟩ = false := by simp [World.frozen?, h]
  have f1 : w.frozen? ⟨b, 1, none⟩ = false := by simp [World.frozen?, h]
  have H : Hid (w.heap[b]? = some (.cells #[.int .u64 t, .int .i64 e] 51 (0, 0))) := h
  clear h
  rcases he with rfl | rfl
  · by_cases c : t + d ≤ 18446744073709551615
    · have e1 : advT t 0 d = t + d := by simp [advT, c]
      have e2 : advE t 0 d = 0 := by simp [advE, c]
      have a1 : addN t d = t + d := by simp [addN, c]
      have a2 : addE t d = 0 := by simp [addE, c]
      have hadd := add_any t d ht hd
      rw [a1, a2] at hadd
      rw [e1, e2]
      have HA : Hid (∀ w, Calls Try.prog 7 #[.int .u64 t, .int .u64 d] w fun e w' => e = .returned (.tuple #[.int .u64 (t + d), .int .i64 0]) ∧ w' = w) := hadd
      clear e1 e2 a1 a2 hadd
      go_enter Try.func14, Try.ntmps14
      go_wp2_with (go_at_call 7; refine (HA.out _).mono ?_; rintro e w' ⟨rfl, rfl⟩)
      go_ret
      obtain ⟨g1, g2⟩ := block_set H.out 0 (.int .u64 (t + d))
      refine ⟨rfl, ?_, ?_, ?_, ?_, by simpa using g1, g2⟩ <;> first | rfl | simp
    · have e1 : advT t 0 d = t := by simp [advT, c]
      have e2 : advE t 0 d = 10 := by simp [advE, c]
      have a1 : addN t d = 0 := by simp [addN, c]
      have a2 : addE t d = 10 := by simp [addE, c]
      have hadd := add_any t d ht hd
      rw [a1, a2] at hadd
      rw [e1, e2]
      have HA : Hid (∀ w, Calls Try.prog 7 #[.int .u64 t, .int .u64 d] w fun e w' => e = .returned (.tuple #[.int .u64 0, .int .i64 10]) ∧ w' = w) := hadd
      clear e1 e2 a1 a2 hadd
      go_enter Try.func14, Try.ntmps14
      go_wp2_with (go_at_call 7; refine (HA.out _).mono ?_; rintro e w' ⟨rfl, rfl⟩)
      go_ret
      obtain ⟨g1, g2⟩ := block_set H.out 1 (.int .i64 10)
      refine ⟨rfl, ?_, ?_, ?_, ?_, by simpa using g1, g2⟩ <;> first | rfl | simp
  · have e1 : advT t 10 d = t := by simp [advT]
    have e2 : advE t 10 d = 10 := by simp [advE]
    rw [e1, e2]
    clear e1 e2
    go_enter Try.func14, Try.ntmps14
    go_wp2
    go_ret
    exact ⟨rfl, rfl, rfl, rfl, rfl, H.out, fun _ _ => rfl⟩
end Go.Proofs.Ytpeojhhbinfekaa
