import Derived.Test.YtkalhmofjpalkaaC11
import Derived.Test.YtkalhmofjpalkaaC10z
namespace Go.Proofs.Ytkalhmofjpalkaa
open Go.ChangeShapes Go.WideShapes Go.ChangeAt Go.RowKit
set_option linter.unusedVariables false
set_option linter.unusedSimpArgs false

theorem vkeep {w W w1 : World} {a b : Vt} (h : W.cell? ⟨w.heap.size, 0, none⟩ = some (.int .u64 a.lo) ∧ W.cell? ⟨w.heap.size, 1, none⟩ = some (.bool a.an) ∧ W.cell? ⟨w.heap.size, 2, none⟩ = some (.bool a.ba) ∧ W.cell? ⟨w.heap.size, 3, none⟩ = some (.bool a.fa) ∧ W.cell? ⟨w.heap.size, 4, none⟩ = some (.int .u64 a.t) ∧ W.cell? ⟨w.heap.size, 5, none⟩ = some (.int .i64 a.s) ∧ W.cell? ⟨w.heap.size, 6, none⟩ = some (.int .u64 a.q) ∧ W.cell? ⟨w.heap.size, 7, none⟩ = some (.int .i64 a.co) ∧ W.cell? ⟨w.heap.size, 8, none⟩ = some (.int .i64 a.ct) ∧ W.cell? ⟨w.heap.size + 1, 0, none⟩ = some (.int .u64 b.lo) ∧ W.cell? ⟨w.heap.size + 1, 1, none⟩ = some (.bool b.an) ∧ W.cell? ⟨w.heap.size + 1, 2, none⟩ = some (.bool b.ba) ∧ W.cell? ⟨w.heap.size + 1, 3, none⟩ = some (.bool b.fa) ∧ W.cell? ⟨w.heap.size + 1, 4, none⟩ = some (.int .u64 b.t) ∧ W.cell? ⟨w.heap.size + 1, 5, none⟩ = some (.int .i64 b.s) ∧ W.cell? ⟨w.heap.size + 1, 6, none⟩ = some (.int .u64 b.q) ∧ W.cell? ⟨w.heap.size + 1, 7, none⟩ = some (.int .i64 b.co) ∧ W.cell? ⟨w.heap.size + 1, 8, none⟩ = some (.int .i64 b.ct) ∧ w.heap.size + 2 ≤ W.heap.size ∧ Below w.heap.size w W) (hb : Below W.heap.size W w1) : w1.cell? ⟨w.heap.size, 0, none⟩ = some (.int .u64 a.lo) ∧ w1.cell? ⟨w.heap.size, 1, none⟩ = some (.bool a.an) ∧ w1.cell? ⟨w.heap.size, 2, none⟩ = some (.bool a.ba) ∧ w1.cell? ⟨w.heap.size, 3, none⟩ = some (.bool a.fa) ∧ w1.cell? ⟨w.heap.size, 4, none⟩ = some (.int .u64 a.t) ∧ w1.cell? ⟨w.heap.size, 5, none⟩ = some (.int .i64 a.s) ∧ w1.cell? ⟨w.heap.size, 6, none⟩ = some (.int .u64 a.q) ∧ w1.cell? ⟨w.heap.size, 7, none⟩ = some (.int .i64 a.co) ∧ w1.cell? ⟨w.heap.size, 8, none⟩ = some (.int .i64 a.ct) ∧ w1.cell? ⟨w.heap.size + 1, 0, none⟩ = some (.int .u64 b.lo) ∧ w1.cell? ⟨w.heap.size + 1, 1, none⟩ = some (.bool b.an) ∧ w1.cell? ⟨w.heap.size + 1, 2, none⟩ = some (.bool b.ba) ∧ w1.cell? ⟨w.heap.size + 1, 3, none⟩ = some (.bool b.fa) ∧ w1.cell? ⟨w.heap.size + 1, 4, none⟩ = some (.int .u64 b.t) ∧ w1.cell? ⟨w.heap.size + 1, 5, none⟩ = some (.int .i64 b.s) ∧ w1.cell? ⟨w.heap.size + 1, 6, none⟩ = some (.int .u64 b.q) ∧ w1.cell? ⟨w.heap.size + 1, 7, none⟩ = some (.int .i64 b.co) ∧ w1.cell? ⟨w.heap.size + 1, 8, none⟩ = some (.int .i64 b.ct) ∧ w.heap.size + 2 ≤ w1.heap.size ∧ Below w.heap.size w w1 := by
  obtain ⟨e0, e1, e2, e3, e4, e5, e6, e7, e8, e9, e10, e11, e12, e13, e14, e15, e16, e17, hz, hB⟩ := h
  have hs := hb.size
  refine ⟨?_, ?_, ?_, ?_, ?_, ?_, ?_, ?_, ?_, ?_, ?_, ?_, ?_, ?_, ?_, ?_, ?_, ?_, by omega, hB.trans (hb.mono (by omega))⟩
  · rw [hb.cell (by show w.heap.size < _; omega)]; exact e0
  · rw [hb.cell (by show w.heap.size < _; omega)]; exact e1
  · rw [hb.cell (by show w.heap.size < _; omega)]; exact e2
  · rw [hb.cell (by show w.heap.size < _; omega)]; exact e3
  · rw [hb.cell (by show w.heap.size < _; omega)]; exact e4
  · rw [hb.cell (by show w.heap.size < _; omega)]; exact e5
  · rw [hb.cell (by show w.heap.size < _; omega)]; exact e6
  · rw [hb.cell (by show w.heap.size < _; omega)]; exact e7
  · rw [hb.cell (by show w.heap.size < _; omega)]; exact e8
  · rw [hb.cell (by show w.heap.size + 1 < _; omega)]; exact e9
  · rw [hb.cell (by show w.heap.size + 1 < _; omega)]; exact e10
  · rw [hb.cell (by show w.heap.size + 1 < _; omega)]; exact e11
  · rw [hb.cell (by show w.heap.size + 1 < _; omega)]; exact e12
  · rw [hb.cell (by show w.heap.size + 1 < _; omega)]; exact e13
  · rw [hb.cell (by show w.heap.size + 1 < _; omega)]; exact e14
  · rw [hb.cell (by show w.heap.size + 1 < _; omega)]; exact e15
  · rw [hb.cell (by show w.heap.size + 1 < _; omega)]; exact e16
  · rw [hb.cell (by show w.heap.size + 1 < _; omega)]; exact e17
theorem vstart (w W : World) (a b : Vt) (h : W = (w.alloc (.cells #[.int .u64 a.lo, .bool a.an, .bool a.ba, .bool a.fa, .int .u64 a.t, .int .i64 a.s, .int .u64 a.q, .int .i64 a.co, .int .i64 a.ct] 27)).alloc (.cells #[.int .u64 b.lo, .bool b.an, .bool b.ba, .bool b.fa, .int .u64 b.t, .int .i64 b.s, .int .u64 b.q, .int .i64 b.co, .int .i64 b.ct] 27)) : W.drew.cell? ⟨w.heap.size, 0, none⟩ = some (.int .u64 a.lo) ∧ W.drew.cell? ⟨w.heap.size, 1, none⟩ = some (.bool a.an) ∧ W.drew.cell? ⟨w.heap.size, 2, none⟩ = some (.bool a.ba) ∧ W.drew.cell? ⟨w.heap.size, 3, none⟩ = some (.bool a.fa) ∧ W.drew.cell? ⟨w.heap.size, 4, none⟩ = some (.int .u64 a.t) ∧ W.drew.cell? ⟨w.heap.size, 5, none⟩ = some (.int .i64 a.s) ∧ W.drew.cell? ⟨w.heap.size, 6, none⟩ = some (.int .u64 a.q) ∧ W.drew.cell? ⟨w.heap.size, 7, none⟩ = some (.int .i64 a.co) ∧ W.drew.cell? ⟨w.heap.size, 8, none⟩ = some (.int .i64 a.ct) ∧ W.drew.cell? ⟨w.heap.size + 1, 0, none⟩ = some (.int .u64 b.lo) ∧ W.drew.cell? ⟨w.heap.size + 1, 1, none⟩ = some (.bool b.an) ∧ W.drew.cell? ⟨w.heap.size + 1, 2, none⟩ = some (.bool b.ba) ∧ W.drew.cell? ⟨w.heap.size + 1, 3, none⟩ = some (.bool b.fa) ∧ W.drew.cell? ⟨w.heap.size + 1, 4, none⟩ = some (.int .u64 b.t) ∧ W.drew.cell? ⟨w.heap.size + 1, 5, none⟩ = some (.int .i64 b.s) ∧ W.drew.cell? ⟨w.heap.size + 1, 6, none⟩ = some (.int .u64 b.q) ∧ W.drew.cell? ⟨w.heap.size + 1, 7, none⟩ = some (.int .i64 b.co) ∧ W.drew.cell? ⟨w.heap.size + 1, 8, none⟩ = some (.int .i64 b.ct) ∧ w.heap.size + 2 ≤ W.drew.heap.size ∧ Below w.heap.size w W.drew := by
  subst h
  refine ⟨?_, ?_, ?_, ?_, ?_, ?_, ?_, ?_, ?_, ?_, ?_, ?_, ?_, ?_, ?_, ?_, ?_, ?_, ?_, (((Below.refl _ _).alloc (Nat.le_refl _) _).alloc (by simp) _).drew⟩
  all_goals go_simp
set_option maxRecDepth 100000 in
set_option maxHeartbeats 8000000 in
attribute [-go_sem] run_eql_struct in
theorem votes_law (a b : Vt) (w : World) : Calls Try.prog 4 #[vtA a, vtA b] w fun e w' => e = .returned (.bool true) ∧ Below w.heap.size w w' := by
  have E1 := fun a W => eql_vt_same a W
  have LA := fun (a b : Vt) W => least_any a b W
  have VA := fun (a b : Vt) W => votes_any a b W
  unfold vtA at E1 LA VA ⊢
  have e1 := E1 (leastV a b)
  have e2 := E1 (leastV b a)
  have L1 := fun W => LA a b W
  have L2 := fun W => LA b a W
  have V1 := fun W => VA a b W
  have V2 := fun W => VA b a W
  generalize leastV a b = p at *
  generalize leastV b a = q at *
  clear E1 LA VA
  go_enter Try.func4, Try.ntmps4
  go_wp2_with fail
  go_region_held3 (fun W => W.cell? ⟨w.heap.size, 0, none⟩ = some (.int .u64 a.lo) ∧ W.cell? ⟨w.heap.size, 1, none⟩ = some (.bool a.an) ∧ W.cell? ⟨w.heap.size, 2, none⟩ = some (.bool a.ba) ∧ W.cell? ⟨w.heap.size, 3, none⟩ = some (.bool a.fa) ∧ W.cell? ⟨w.heap.size, 4, none⟩ = some (.int .u64 a.t) ∧ W.cell? ⟨w.heap.size, 5, none⟩ = some (.int .i64 a.s) ∧ W.cell? ⟨w.heap.size, 6, none⟩ = some (.int .u64 a.q) ∧ W.cell? ⟨w.heap.size, 7, none⟩ = some (.int .i64 a.co) ∧ W.cell? ⟨w.heap.size, 8, none⟩ = some (.int .i64 a.ct) ∧ W.cell? ⟨w.heap.size + 1, 0, none⟩ = some (.int .u64 b.lo) ∧ W.cell? ⟨w.heap.size + 1, 1, none⟩ = some (.bool b.an) ∧ W.cell? ⟨w.heap.size + 1, 2, none⟩ = some (.bool b.ba) ∧ W.cell? ⟨w.heap.size + 1, 3, none⟩ = some (.bool b.fa) ∧ W.cell? ⟨w.heap.size + 1, 4, none⟩ = some (.int .u64 b.t) ∧ W.cell? ⟨w.heap.size + 1, 5, none⟩ = some (.int .i64 b.s) ∧ W.cell? ⟨w.heap.size + 1, 6, none⟩ = some (.int .u64 b.q) ∧ W.cell? ⟨w.heap.size + 1, 7, none⟩ = some (.int .i64 b.co) ∧ W.cell? ⟨w.heap.size + 1, 8, none⟩ = some (.int .i64 b.ct) ∧ w.heap.size + 2 ≤ W.heap.size ∧ Below w.heap.size w W) (first | (exact vstart _ _ _ _ rfl) | (refine vkeep ?_ hb; assumption)) (first | (go_at_call 9; (first | (with_reducible refine (L1 _).mono ?_) | (with_reducible refine (L2 _).mono ?_)); rintro e w' ⟨rfl, hb⟩) | (go_at_call 11; (first | (with_reducible refine (V1 _).mono ?_) | (with_reducible refine (V2 _).mono ?_)); rintro e w' ⟨rfl, hb⟩))
  all_goals (
    go_wp2_with fail
    go_ret
    exact ⟨rfl, by rename_i hh; exact hh.2.2.2.2.2.2.2.2.2.2.2.2.2.2.2.2.2.2.2⟩)
end Go.Proofs.Ytkalhmofjpalkaa
