import Derived.Test.YtpicobmilcbmlaaKR1
import Derived.Deep.RegionHeld3
import Derived.BigRegion
namespace Go.Proofs.Ytpicobmilcbmlaa
open Go.ChangeShapes Go.WideShapes Go.ChangeAt Go.RowKit
set_option linter.unusedVariables false
set_option linter.unusedSimpArgs false

set_option maxRecDepth 100000 in
theorem number_any (c : Int) (w : World) : Calls Try.prog 23 #[.iface 22 (.int .i64 c)] w fun e w' => e = .returned (.tuple #[.int .i64 c, .bool true]) ∧ w' = w := by
  have ta : ∀ (W : World) (v : Value), (Instr.typeAssert (.iface 22 v) 34 22 true).run Try.prog W = .ok (.tuple #[v, .bool true]) W := fun W v => by kernel_rfl
  go_enter Try.func23, Try.ntmps23
  go_wp2
  refine bodyPost_ret (by simp [results, Try.results23, go_sem]; try rfl) rfl ?_
  exact ⟨rfl, rfl⟩

set_option maxRecDepth 100000 in
theorem wrapped_any (k a b x y z c : Int) (w : World) : Calls Try.prog 13 #[.agg #[.int .i64 k, .int .i64 0, .int .i64 a, .int .i64 b, .int .u64 x, .int .i64 y, .int .u64 z], .iface 22 (.int .i64 c)] w fun e w' => e = .returned (.agg #[.int .i64 k, .int .i64 c, .int .i64 a, .int .i64 b, .int .u64 x, .int .i64 y, .int .u64 z]) ∧ Below w.heap.size w w' := by
  have H : ∀ w', Hid (Calls Try.prog 23 #[.iface 22 (.int .i64 c)] w' fun e w'' => e = .returned (.tuple #[.int .i64 c, .bool true]) ∧ w'' = w') := fun w' => number_any c w'
  go_enter Try.func13, Try.ntmps13
  go_wp2_with (go_at_call 23; (with_reducible refine ((H _).out).mono ?_); rintro e w' ⟨rfl, hw⟩; subst w')
  refine bodyPost_ret (by simp [results, Try.results13, go_sem]; try rfl) rfl ?_
  exact ⟨rfl, ((Below.refl _ w).alloc (Nat.le_refl _) _).alloc (by simp) _⟩
theorem cells7 {W : World} {b : Nat} {c0 c1 c2 c3 c4 c5 c6 : Value} {t : TypeId} (h : W.heap[b]? = some (.cells #[c0, c1, c2, c3, c4, c5, c6] t (0, 0))) : (W.cell? ⟨b, 0, none⟩ = some c0 ∧ W.cell? ⟨b, 1, none⟩ = some c1 ∧ W.cell? ⟨b, 2, none⟩ = some c2 ∧ W.cell? ⟨b, 3, none⟩ = some c3 ∧ W.cell? ⟨b, 4, none⟩ = some c4 ∧ W.cell? ⟨b, 5, none⟩ = some c5 ∧ W.cell? ⟨b, 6, none⟩ = some c6) ∧
    (W.frozen? ⟨b, 0, none⟩ = false ∧ W.frozen? ⟨b, 1, none⟩ = false ∧ W.frozen? ⟨b, 2, none⟩ = false ∧ W.frozen? ⟨b, 3, none⟩ = false ∧ W.frozen? ⟨b, 4, none⟩ = false ∧ W.frozen? ⟨b, 5, none⟩ = false ∧ W.frozen? ⟨b, 6, none⟩ = false) := by
  refine ⟨?_, by simp [World.frozen?, h]⟩
  refine ⟨?_, ?_, ?_, ?_, ?_, ?_, ?_⟩
  all_goals (unfold World.cell?; rw [h]; rfl)
theorem cells2k {W : World} {b : Nat} {c0 c1 : Value} {t : TypeId} (h : W.heap[b]? = some (.cells #[c0, c1] t (0, 0))) : W.cell? ⟨b, 0, none⟩ = some c0 ∧ W.cell? ⟨b, 1, none⟩ = some c1 := by
  refine ⟨?_, ?_⟩
  all_goals (unfold World.cell?; rw [h]; rfl)
theorem cells4q {W : World} {b : Nat} {c0 c1 c2 c3 : Value} {t : TypeId} (h : W.heap[b]? = some (.cells #[c0, c1, c2, c3] t (0, 0))) : W.cell? ⟨b, 0, none⟩ = some c0 ∧ W.cell? ⟨b, 1, none⟩ = some c1 ∧ W.cell? ⟨b, 2, none⟩ = some c2 ∧ W.cell? ⟨b, 3, none⟩ = some c3 := by
  refine ⟨?_, ?_, ?_, ?_⟩
  all_goals (unfold World.cell?; rw [h]; rfl)
set_option maxRecDepth 100000 in
set_option maxHeartbeats 4000000 in
theorem see_key (c a0 a1 a2 : Int) (b : Nat) (w : World) (hp : w.heap[b]? = some (.cells #[.int .u64 a0, .int .i64 a1, .int .u64 a2, .iface 22 (.int .i64 c)] 57 (0, 0))) :
    Calls Try.prog 5 #[.iface 55 (.pointer (some ⟨b, 0, none⟩))] w fun e w' => e = .returned (.agg #[.int .i64 4, .int .i64 c, .int .i64 0, .int .i64 0, .int .u64 a0, .int .i64 a1, .int .u64 a2]) ∧ Below w.heap.size w w' := by
  have H : ∀ w', Hid (Calls Try.prog 13 #[.agg #[.int .i64 4, .int .i64 0, .int .i64 0, .int .i64 0, .int .u64 a0, .int .i64 a1, .int .u64 a2], .iface 22 (.int .i64 c)] w' fun e w'' => e = .returned (.agg #[.int .i64 4, .int .i64 c, .int .i64 0, .int .i64 0, .int .u64 a0, .int .i64 a1, .int .u64 a2]) ∧ Below w'.heap.size w' w'') := fun w' => wrapped_any _ _ _ _ _ _ c w'
  have hlt := (Array.getElem?_eq_some_iff.1 hp).1
  have hg0 := World.alloc_heap_new w (.cells #[.int .i64 0, .int .i64 0, .int .i64 0, .int .i64 0, .int .u64 0, .int .i64 0, .int .u64 0] 31)
  have hb0 : Below w.heap.size w (w.alloc (.cells #[.int .i64 0, .int .i64 0, .int .i64 0, .int .i64 0, .int .u64 0, .int .i64 0, .int .u64 0] 31)) := (Below.refl _ w).alloc (Nat.le_refl _) _
  obtain ⟨q0, q1, q2, q3⟩ := cells4q ((hb0.block b hlt).trans hp)
  have t0 : ∀ (W : World) (v : Value), (Instr.typeAssert (.iface 55 v) 34 22 true).run Try.prog W = .ok (.tuple #[.int .i64 0, .bool false]) W := fun W v => by kernel_rfl
  have t1 : ∀ (W : World) (v : Value), (Instr.typeAssert (.iface 55 v) 34 51 true).run Try.prog W = .ok (.tuple #[.pointer none, .bool false]) W := fun W v => by kernel_rfl
  have tz : ∀ (W : World) (v : Value), (Instr.typeAssert (.iface 55 v) 34 55 true).run Try.prog W = .ok (.tuple #[v, .bool true]) W := fun W v => by kernel_rfl
  go_enter Try.func5, Try.ntmps5
  go_wp2
  go_region_with (go_at_call 13; (with_reducible refine ((H _).out).mono ?_); rintro e w' ⟨rfl, hb1⟩; have hg1 := (hb1.block w.heap.size (by simp [World.drew])).trans hg0; obtain ⟨⟨k0, k1, k2, k3, k4, k5, k6⟩, f0, f1, f2, f3, f4, f5, f6⟩ := cells7 hg1)
  all_goals (
    go_wp2
    have hbw : Below w.heap.size w w' := hb0.trans (Below.trans (Below.refl _ _).drew (hb1.mono (by simp [World.drew])))
    refine bodyPost_ret (by simp [results, Try.results5, go_sem, k0, k1, k2, k3, k4, k5, k6]; try rfl) rfl ?_
    exact ⟨rfl, ((((((hbw.setCell (p := ⟨w.heap.size, 0, none⟩) (Nat.le_refl _) _).setCell (p := ⟨w.heap.size, 1, none⟩) (Nat.le_refl _) _).setCell (p := ⟨w.heap.size, 2, none⟩) (Nat.le_refl _) _).setCell (p := ⟨w.heap.size, 3, none⟩) (Nat.le_refl _) _).setCell (p := ⟨w.heap.size, 4, none⟩) (Nat.le_refl _) _).setCell (p := ⟨w.heap.size, 5, none⟩) (Nat.le_refl _) _).setCell (p := ⟨w.heap.size, 6, none⟩) (Nat.le_refl _) _⟩)
set_option maxRecDepth 100000 in
set_option maxHeartbeats 4000000 in
theorem see_win (c m : Int) (b : Nat) (w : World) (hp : w.heap[b]? = some (.cells #[.int .i64 m, .iface 22 (.int .i64 c)] 60 (0, 0))) :
    Calls Try.prog 5 #[.iface 58 (.pointer (some ⟨b, 0, none⟩))] w fun e w' => e = .returned (.agg #[.int .i64 5, .int .i64 c, .int .i64 m, .int .i64 0, .int .u64 0, .int .i64 0, .int .u64 0]) ∧ Below w.heap.size w w' := by
  have H : ∀ w', Hid (Calls Try.prog 13 #[.agg #[.int .i64 5, .int .i64 0, .int .i64 m, .int .i64 0, .int .u64 0, .int .i64 0, .int .u64 0], .iface 22 (.int .i64 c)] w' fun e w'' => e = .returned (.agg #[.int .i64 5, .int .i64 c, .int .i64 m, .int .i64 0, .int .u64 0, .int .i64 0, .int .u64 0]) ∧ Below w'.heap.size w' w'') := fun w' => wrapped_any _ _ _ _ _ _ c w'
  have hlt := (Array.getElem?_eq_some_iff.1 hp).1
  have hg0 := World.alloc_heap_new w (.cells #[.int .i64 0, .int .i64 0, .int .i64 0, .int .i64 0, .int .u64 0, .int .i64 0, .int .u64 0] 31)
  have hb0 : Below w.heap.size w (w.alloc (.cells #[.int .i64 0, .int .i64 0, .int .i64 0, .int .i64 0, .int .u64 0, .int .i64 0, .int .u64 0] 31)) := (Below.refl _ w).alloc (Nat.le_refl _) _
  obtain ⟨q0, q1⟩ := cells2k ((hb0.block b hlt).trans hp)
  have t0 : ∀ (W : World) (v : Value), (Instr.typeAssert (.iface 58 v) 34 22 true).run Try.prog W = .ok (.tuple #[.int .i64 0, .bool false]) W := fun W v => by kernel_rfl
  have t1 : ∀ (W : World) (v : Value), (Instr.typeAssert (.iface 58 v) 34 51 true).run Try.prog W = .ok (.tuple #[.pointer none, .bool false]) W := fun W v => by kernel_rfl
  have t2 : ∀ (W : World) (v : Value), (Instr.typeAssert (.iface 58 v) 34 55 true).run Try.prog W = .ok (.tuple #[.pointer none, .bool false]) W := fun W v => by kernel_rfl
  have tz : ∀ (W : World) (v : Value), (Instr.typeAssert (.iface 58 v) 34 58 true).run Try.prog W = .ok (.tuple #[v, .bool true]) W := fun W v => by kernel_rfl
  go_enter Try.func5, Try.ntmps5
  go_wp2
  go_region_with (go_at_call 13; (with_reducible refine ((H _).out).mono ?_); rintro e w' ⟨rfl, hb1⟩; have hg1 := (hb1.block w.heap.size (by simp [World.drew])).trans hg0; obtain ⟨⟨k0, k1, k2, k3, k4, k5, k6⟩, f0, f1, f2, f3, f4, f5, f6⟩ := cells7 hg1)
  all_goals (
    go_wp2
    have hbw : Below w.heap.size w w' := hb0.trans (Below.trans (Below.refl _ _).drew (hb1.mono (by simp [World.drew])))
    refine bodyPost_ret (by simp [results, Try.results5, go_sem, k0, k1, k2, k3, k4, k5, k6]; try rfl) rfl ?_
    exact ⟨rfl, ((((((hbw.setCell (p := ⟨w.heap.size, 0, none⟩) (Nat.le_refl _) _).setCell (p := ⟨w.heap.size, 1, none⟩) (Nat.le_refl _) _).setCell (p := ⟨w.heap.size, 2, none⟩) (Nat.le_refl _) _).setCell (p := ⟨w.heap.size, 3, none⟩) (Nat.le_refl _) _).setCell (p := ⟨w.heap.size, 4, none⟩) (Nat.le_refl _) _).setCell (p := ⟨w.heap.size, 5, none⟩) (Nat.le_refl _) _).setCell (p := ⟨w.heap.size, 6, none⟩) (Nat.le_refl _) _⟩)
set_option maxRecDepth 100000 in
set_option maxHeartbeats 4000000 in
theorem see_num (c : Int) (w : World) : Calls Try.prog 5 #[.iface 22 (.int .i64 c)] w fun e w' => e = .returned (.agg #[.int .i64 1, .int .i64 c, .int .i64 0, .int .i64 0, .int .u64 0, .int .i64 0, .int .u64 0]) ∧ Below w.heap.size w w' := by
  have ta : ∀ (W : World) (v : Value), (Instr.typeAssert (.iface 22 v) 34 22 true).run Try.prog W = .ok (.tuple #[v, .bool true]) W := fun W v => by kernel_rfl
  go_enter Try.func5, Try.ntmps5
  go_wp2
  refine bodyPost_ret (by simp [results, Try.results5, go_sem]; try rfl) rfl ?_
  exact ⟨rfl, (Below.refl _ w).alloc (Nat.le_refl _) _⟩
set_option maxRecDepth 100000 in
set_option maxHeartbeats 4000000 in
theorem see_nil (w : World) : Calls Try.prog 5 #[.nilIface] w fun e w' => e = .returned (.agg #[.int .i64 0, .int .i64 0, .int .i64 0, .int .i64 0, .int .u64 0, .int .i64 0, .int .u64 0]) ∧ Below w.heap.size w w' := by
  go_enter Try.func5, Try.ntmps5
  go_wp2
  refine bodyPost_ret (by simp [results, Try.results5, go_sem]; try rfl) rfl ?_
  exact ⟨rfl, (Below.refl _ w).alloc (Nat.le_refl _) _⟩
end Go.Proofs.Ytpicobmilcbmlaa
