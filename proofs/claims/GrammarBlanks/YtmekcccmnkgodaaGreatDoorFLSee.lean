import Derived.Test.YtmekcccmnkgodaaGreatDoorFLSame
import Derived.Deep.RegionHeld3
import Derived.BigRegion
namespace Go.Proofs.YtmekcccmnkgodaaGreatDoor
open Go.ChangeShapes Go.WideShapes Go.ChangeAt Go.RowKit
set_option linter.unusedVariables false

set_option maxRecDepth 100000 in
theorem number_any (c : Int) (w : World) : Calls Tryz.prog 30 #[.iface 51 (.int .i64 c)] w fun e w' => e = .returned (.tuple #[.int .i64 c, .bool true]) ∧ w' = w := by
  have ta : ∀ (W : World) (v : Value), (Instr.typeAssert (.iface 51 v) 26 51 true).run Tryz.prog W = .ok (.tuple #[v, .bool true]) W := fun W v => by kernel_rfl
  go_enter Tryz.func30, Tryz.ntmps30
  go_wp2
  refine bodyPost_ret (by simp [results, Tryz.results30, go_sem]; try rfl) rfl ?_
  exact ⟨rfl, rfl⟩

set_option maxRecDepth 100000 in
theorem wrapped_any (k a b c : Int) (w : World) : Calls Tryz.prog 17 #[.agg #[.int .i64 k, .int .i64 0, .int .i64 a, .int .i64 b, .int .u64 0, .int .i64 0, .int .u64 0], .iface 51 (.int .i64 c)] w fun e w' => e = .returned (.agg #[.int .i64 k, .int .i64 c, .int .i64 a, .int .i64 b, .int .u64 0, .int .i64 0, .int .u64 0]) ∧ Below w.heap.size w w' := by
  have H : ∀ w', Hid (Calls Tryz.prog 30 #[.iface 51 (.int .i64 c)] w' fun e w'' => e = .returned (.tuple #[.int .i64 c, .bool true]) ∧ w'' = w') := fun w' => number_any c w'
  go_enter Tryz.func17, Tryz.ntmps17
  go_wp2_with (go_at_call 30; (with_reducible refine ((H _).out).mono ?_); rintro e w' ⟨rfl, hw⟩; subst w')
  refine bodyPost_ret (by simp [results, Tryz.results17, go_sem]; try rfl) rfl ?_
  exact ⟨rfl, ((Below.refl _ w).alloc (Nat.le_refl _) _).alloc (by simp) _⟩

theorem cells7 {W : World} {b : Nat} {c0 c1 c2 c3 c4 c5 c6 : Value} {t : TypeId} (h : W.heap[b]? = some (.cells #[c0, c1, c2, c3, c4, c5, c6] t (0, 0))) : (W.cell? ⟨b, 0, none⟩ = some c0 ∧ W.cell? ⟨b, 1, none⟩ = some c1 ∧ W.cell? ⟨b, 2, none⟩ = some c2 ∧ W.cell? ⟨b, 3, none⟩ = some c3 ∧ W.cell? ⟨b, 4, none⟩ = some c4 ∧ W.cell? ⟨b, 5, none⟩ = some c5 ∧ W.cell? ⟨b, 6, none⟩ = some c6) ∧
    (W.frozen? ⟨b, 0, none⟩ = false ∧ W.frozen? ⟨b, 1, none⟩ = false ∧ W.frozen? ⟨b, 2, none⟩ = false ∧ W.frozen? ⟨b, 3, none⟩ = false ∧ W.frozen? ⟨b, 4, none⟩ = false ∧ W.frozen? ⟨b, 5, none⟩ = false ∧ W.frozen? ⟨b, 6, none⟩ = false) := by
  refine ⟨?_, by simp [World.frozen?, h]⟩
  refine ⟨?_, ?_, ?_, ?_, ?_, ?_, ?_⟩
  all_goals (unfold World.cell?; rw [h]; rfl)
theorem cells3 {W : World} {b : Nat} {c0 c1 c2 : Value} {t : TypeId} (h : W.heap[b]? = some (.cells #[c0, c1, c2] t (0, 0))) : W.cell? ⟨b, 0, none⟩ = some c0 ∧ W.cell? ⟨b, 1, none⟩ = some c1 ∧ W.cell? ⟨b, 2, none⟩ = some c2 := by
  refine ⟨?_, ?_, ?_⟩
  all_goals (unfold World.cell?; rw [h]; rfl)

set_option maxRecDepth 100000 in
set_option maxHeartbeats 2000000 in
theorem see_pos (c ln cl : Int) (b : Nat) (w : World) (hp : w.heap[b]? = some (posObj c ln cl)) :
    Calls Tryz.prog 8 #[.iface 56 (.pointer (some ⟨b, 0, none⟩))] w fun e w' => e = .returned (.agg #[.int .i64 2, .int .i64 c, .int .i64 ln, .int .i64 cl, .int .u64 0, .int .i64 0, .int .u64 0]) ∧ Below w.heap.size w w' := by
  have H : ∀ w', Hid (Calls Tryz.prog 17 #[.agg #[.int .i64 2, .int .i64 0, .int .i64 ln, .int .i64 cl, .int .u64 0, .int .i64 0, .int .u64 0], .iface 51 (.int .i64 c)] w' fun e w'' => e = .returned (.agg #[.int .i64 2, .int .i64 c, .int .i64 ln, .int .i64 cl, .int .u64 0, .int .i64 0, .int .u64 0]) ∧ Below w'.heap.size w' w'') := fun w' => wrapped_any 2 ln cl c w'
  have hlt := (Array.getElem?_eq_some_iff.1 hp).1
  have hg0 := World.alloc_heap_new w (.cells #[.int .i64 0, .int .i64 0, .int .i64 0, .int .i64 0, .int .u64 0, .int .i64 0, .int .u64 0] 33)
  have hb0 : Below w.heap.size w (w.alloc (.cells #[.int .i64 0, .int .i64 0, .int .i64 0, .int .i64 0, .int .u64 0, .int .i64 0, .int .u64 0] 33)) := (Below.refl _ w).alloc (Nat.le_refl _) _
  obtain ⟨q0, q1, q2⟩ := cells3 ((hb0.block b hlt).trans hp)
  have ta : ∀ (W : World) (v : Value), (Instr.typeAssert (.iface 56 v) 26 51 true).run Tryz.prog W = .ok (.tuple #[.int .i64 0, .bool false]) W := fun W v => by kernel_rfl
  have tb : ∀ (W : World) (v : Value), (Instr.typeAssert (.iface 56 v) 26 56 true).run Tryz.prog W = .ok (.tuple #[v, .bool true]) W := fun W v => by kernel_rfl
  go_enter Tryz.func8, Tryz.ntmps8
  go_wp2
  go_region_with (go_at_call 17; (with_reducible refine ((H _).out).mono ?_); rintro e w' ⟨rfl, hb1⟩; have hg1 := (hb1.block w.heap.size (by simp [World.drew])).trans hg0; obtain ⟨⟨k0, k1, k2, k3, k4, k5, k6⟩, f0, f1, f2, f3, f4, f5, f6⟩ := cells7 hg1)
  all_goals (
    go_wp2
    have hbw : Below w.heap.size w w' := hb0.trans (Below.trans (Below.refl _ _).drew (hb1.mono (by simp [World.drew])))
    refine bodyPost_ret (by simp [results, Tryz.results8, go_sem, k0, k1, k2, k3, k4, k5, k6]; try rfl) rfl ?_
    exact ⟨rfl, ((((((hbw.setCell (p := ⟨w.heap.size, 0, none⟩) (Nat.le_refl _) _).setCell (p := ⟨w.heap.size, 1, none⟩) (Nat.le_refl _) _).setCell (p := ⟨w.heap.size, 2, none⟩) (Nat.le_refl _) _).setCell (p := ⟨w.heap.size, 3, none⟩) (Nat.le_refl _) _).setCell (p := ⟨w.heap.size, 4, none⟩) (Nat.le_refl _) _).setCell (p := ⟨w.heap.size, 5, none⟩) (Nat.le_refl _) _).setCell (p := ⟨w.heap.size, 6, none⟩) (Nat.le_refl _) _⟩)

end Go.Proofs.YtmekcccmnkgodaaGreatDoor
