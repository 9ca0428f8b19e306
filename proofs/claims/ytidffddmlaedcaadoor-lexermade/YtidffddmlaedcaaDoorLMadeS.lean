import Derived.Test.YtidffddmlaedcaaDoorLMadeC
import Derived.Test.YtidffddmlaedcaaDoorLScan
import Derived.Test.YtidffddmlaedcaaDoorLSame
import Derived.Deep.RegionHeld3
namespace Go.Proofs.YtidffddmlaedcaaDoor
open Go.ChangeShapes Go.WideShapes Go.ChangeAt Go.RowKit
set_option linter.unusedVariables false

theorem tabAt (W : World) (G : Nat) (hG : W.heap.size = G) (old : Array Value) (t : TypeId) (S : Array Value) : ∃ w2, (W.alloc (.cells old t)).setRow G S = w2 ∧ w2.heap[G]? = some (.cells S t (0, 0)) ∧ Below G W w2 := by
  subst hG
  exact tab_val W old t S
theorem kinds_cell {W : World} {g : Nat} {t : TypeId} (h : W.heap[g]? = some (.cells kinds60 t (0, 0))) (k : Nat) (hk : k < 60) : W.cell? ⟨g, k, none⟩ = some (.int .i64 (kind60 k : Nat)) := by
  unfold World.cell?
  rw [h]
  simp [kinds60, hk]
theorem texts_cell {W : World} {g : Nat} {t : TypeId} (h : W.heap[g]? = some (.cells texts60 t (0, 0))) (k : Nat) (hk : k < 60) : W.cell? ⟨g, k, none⟩ = some (.string ⟨(spl (kind60 k)).toArray⟩) := by
  unfold World.cell?
  rw [h]
  simp [texts60, strs, hk]
theorem names_cell {W : World} {g : Nat} {t : TypeId} (h : W.heap[g]? = some (.cells names8A t (0, 0))) (k : Nat) (hk : k < 8) : W.cell? ⟨g, k, none⟩ = some (.string ⟨((name8[k]?).getD []).toArray⟩) := by
  unfold World.cell?
  rw [h]
  have hk' : k < name8.length := hk
  simp [names8A, strs, hk']
theorem cells3' {W : World} {b : Nat} {c0 c1 c2 : Value} {t : TypeId} (h : W.heap[b]? = some (.cells #[c0, c1, c2] t (0, 0))) : W.cell? ⟨b, 0, none⟩ = some c0 ∧ W.cell? ⟨b, 1, none⟩ = some c1 ∧ W.cell? ⟨b, 2, none⟩ = some c2 := by
  refine ⟨?_, ?_, ?_⟩
  all_goals (unfold World.cell?; rw [h]; rfl)

attribute [local irreducible] kinds60 texts60 names8A in
set_option maxRecDepth 100000 in
set_option maxHeartbeats 4000000 in
theorem spelled_any (wh gp : Int) (num k : Nat) (t0 : Int) (ht : wh.tmod 72 = t0) (hs : (t0 = k ∧ decide (t0 < 0) = false) ∨ (t0 = (k : Int) - 72 ∧ decide (t0 < 0) = true)) (hk : k < 72) (hn : num < 18446744073709551616) (w : World) :
    Calls Tryd.prog 14 #[.agg #[.int .i64 wh, .int .i64 gp, .int .u64 num]] w fun e w' => e = .returned (tokV (tok72 k num).1 (tok72 k num).2.1 (tok72 k num).2.2 0 0) ∧ Below w.heap.size w w' := by
  have hK : ∀ o, (((w.alloc (.cells #[.int .i64 wh, .int .i64 gp, .int .u64 num] 39)).alloc (.cells #[.int .i64 0, .string ⟨#[]⟩, .int .u64 0, .int .i64 0, .int .i64 0] 34)).alloc o).heap[w.heap.size + 1 + 1]? = some o := fun o => by
    have := World.alloc_heap_new ((w.alloc (.cells #[.int .i64 wh, .int .i64 gp, .int .u64 num] 39)).alloc (.cells #[.int .i64 0, .string ⟨#[]⟩, .int .u64 0, .int .i64 0, .int .i64 0] 34)) o
    simp only [World.size_alloc] at this
    exact this
  have hP0 : ((w.alloc (.cells #[.int .i64 wh, .int .i64 gp, .int .u64 num] 39)).alloc (.cells #[.int .i64 0, .string ⟨#[]⟩, .int .u64 0, .int .i64 0, .int .i64 0] 34)).heap[w.heap.size]? = some (.cells #[.int .i64 wh, .int .i64 gp, .int .u64 num] 39 (0, 0)) := (Below.heap_alloc _ _ _ (by simp)).trans (World.alloc_heap_new w _)
  have hP1 : ((w.alloc (.cells #[.int .i64 wh, .int .i64 gp, .int .u64 num] 39)).alloc (.cells #[.int .i64 0, .string ⟨#[]⟩, .int .u64 0, .int .i64 0, .int .i64 0] 34)).heap[w.heap.size + 1]? = some (.cells #[.int .i64 0, .string ⟨#[]⟩, .int .u64 0, .int .i64 0, .int .i64 0] 34 (0, 0)) := by
    have := World.alloc_heap_new (w.alloc (.cells #[.int .i64 wh, .int .i64 gp, .int .u64 num] 39)) (.cells #[.int .i64 0, .string ⟨#[]⟩, .int .u64 0, .int .i64 0, .int .i64 0] 34)
    simp only [World.size_alloc] at this
    exact this
  have hB0 : Below w.heap.size w ((w.alloc (.cells #[.int .i64 wh, .int .i64 gp, .int .u64 num] 39)).alloc (.cells #[.int .i64 0, .string ⟨#[]⟩, .int .u64 0, .int .i64 0, .int .i64 0] 34)) := ((Below.refl _ w).alloc (Nat.le_refl _) _).alloc (by simp) _
  unfold tok72
  rcases hs with ⟨rfl, d0⟩ | ⟨rfl, d0⟩
  · by_cases h60 : k < 60
    · have d1 : decide ((k : Int) < 60) = true := decide_eq_true (by omega)
      have d1n : decide (k < 60) = true := decide_eq_true h60
      rw [if_pos h60]
      go_enter Tryd.func14, Tryd.ntmps14
      go_wp2_with (first | refine wpList_buildTo rfl 58 _ rfl kinds60 (by kernel_rfl) ?_ | refine wpList_buildTo rfl 59 _ rfl texts60 (by kernel_rfl) ?_ | refine wpList_buildTo rfl 57 _ rfl names8A (by kernel_rfl) ?_ | (refine wpList_store_row rfl 58 _ _ rfl (w.heap.size + 1 + 1) kinds60 rfl rfl _ _ (hK _) (by kernel_rfl) (by kernel_rfl) (by kernel_rfl) ?_; obtain ⟨w1, hw1, ht1, hb1⟩ := tabAt ((w.alloc (.cells #[.int .i64 wh, .int .i64 gp, .int .u64 num] 39)).alloc (.cells #[.int .i64 0, .string ⟨#[]⟩, .int .u64 0, .int .i64 0, .int .i64 0] 34)) (w.heap.size + 1 + 1) (by simp) _ 58 kinds60; rw [hw1]; clear hw1 hK; have q1 := (hb1.block w.heap.size (by omega)).trans (hP0); have q2 := (hb1.block (w.heap.size + 1) (by omega)).trans (hP1); have m1 : w.heap.size + 1 + 1 < w1.heap.size := (Array.getElem?_eq_some_iff.1 ht1).1) | (refine wpList_store_row rfl 59 _ _ rfl w1.heap.size texts60 rfl rfl _ _ (World.alloc_heap_new w1 _) (by kernel_rfl) (by kernel_rfl) (by kernel_rfl) ?_; obtain ⟨w2, hw2, ht2, hb2⟩ := tab_val w1 _ 59 texts60; rw [hw2]; clear hw2; have m2 : w1.heap.size < w2.heap.size := (Array.getElem?_eq_some_iff.1 ht2).1; have ht1' := (hb2.block _ m1).trans ht1; have q1' := (hb2.block _ (Nat.lt_trans (by omega) m1)).trans q1; have q2' := (hb2.block _ (Nat.lt_trans (by omega) m1)).trans q2; clear ht1 q1 q2) | (refine wpList_store_row rfl 57 _ _ rfl w2.heap.size names8A rfl rfl _ _ (World.alloc_heap_new w2 _) (by kernel_rfl) (by kernel_rfl) (by kernel_rfl) ?_; obtain ⟨w3, hw3, ht3, hb3⟩ := tab_val w2 _ 57 names8A; rw [hw3]; clear hw3; have ht1 := (hb3.block _ (Nat.lt_trans m1 m2)).trans ht1'; have ht2' := (hb3.block _ m2).trans ht2; have q1 := (hb3.block _ (Nat.lt_trans (Nat.lt_trans (by omega) m1) m2)).trans q1'; have q2 := (hb3.block _ (Nat.lt_trans (Nat.lt_trans (by omega) m1) m2)).trans q2'; obtain ⟨p0, p1, p2⟩ := cells3' q1; obtain ⟨r0, r1, r2, r3, r4⟩ := cells5 q2; have fz : ∀ o, w3.frozen? ⟨w.heap.size + 1, o, none⟩ = false := (fun o => by simp [World.frozen?, q2]); have hbw : Below w.heap.size w w3 := (hB0.trans (hb1.mono (by omega))).trans ((hb2.mono (by omega)).trans (hb3.mono (by omega))); clear ht1' ht2 q1' q2' q1))
      have kc := kinds_cell ht1 k h60
      have tc := texts_cell ht2' k h60
      clear hP0 hP1 hB0 hb1 hb2 hb3 ht1 ht2' ht3
      go_region
      go_wp2
      refine bodyPost_ret (by simp [results, Tryd.results14, go_sem, r0, r1, r2, r3, r4]; try rfl) rfl ?_
      exact ⟨rfl, (((((hbw.setCell (p := ⟨w.heap.size + 1, 0, none⟩) (Nat.le_succ _) _).setCell (p := ⟨w.heap.size + 1, 1, none⟩) (Nat.le_succ _) _).setCell (p := ⟨w.heap.size + 1, 2, none⟩) (Nat.le_succ _) _).setCell (p := ⟨w.heap.size + 1, 3, none⟩) (Nat.le_succ _) _).setCell (p := ⟨w.heap.size + 1, 4, none⟩) (Nat.le_succ _) _).drew⟩
    · have d1 : decide ((k : Int) < 60) = false := decide_eq_false (by omega)
      have d1n : decide (k < 60) = false := decide_eq_false h60
      rw [if_neg h60]
      by_cases h68 : k < 68
      · have d2 : decide ((k : Int) < 68) = true := decide_eq_true (by omega)
        have d2n : decide (k < 68) = true := decide_eq_true h68
        rw [if_pos h68]
        obtain ⟨k', rfl⟩ : ∃ k', k = k' + 60 := ⟨k - 60, by omega⟩
        have hk8 : k' < 8 := by omega
        rw [show k' + 60 - 60 = k' by omega]
        go_enter Tryd.func14, Tryd.ntmps14
        go_wp2_with (first | refine wpList_buildTo rfl 58 _ rfl kinds60 (by kernel_rfl) ?_ | refine wpList_buildTo rfl 59 _ rfl texts60 (by kernel_rfl) ?_ | refine wpList_buildTo rfl 57 _ rfl names8A (by kernel_rfl) ?_ | (refine wpList_store_row rfl 58 _ _ rfl (w.heap.size + 1 + 1) kinds60 rfl rfl _ _ (hK _) (by kernel_rfl) (by kernel_rfl) (by kernel_rfl) ?_; obtain ⟨w1, hw1, ht1, hb1⟩ := tabAt ((w.alloc (.cells #[.int .i64 wh, .int .i64 gp, .int .u64 num] 39)).alloc (.cells #[.int .i64 0, .string ⟨#[]⟩, .int .u64 0, .int .i64 0, .int .i64 0] 34)) (w.heap.size + 1 + 1) (by simp) _ 58 kinds60; rw [hw1]; clear hw1 hK; have q1 := (hb1.block w.heap.size (by omega)).trans (hP0); have q2 := (hb1.block (w.heap.size + 1) (by omega)).trans (hP1); have m1 : w.heap.size + 1 + 1 < w1.heap.size := (Array.getElem?_eq_some_iff.1 ht1).1) | (refine wpList_store_row rfl 59 _ _ rfl w1.heap.size texts60 rfl rfl _ _ (World.alloc_heap_new w1 _) (by kernel_rfl) (by kernel_rfl) (by kernel_rfl) ?_; obtain ⟨w2, hw2, ht2, hb2⟩ := tab_val w1 _ 59 texts60; rw [hw2]; clear hw2; have m2 : w1.heap.size < w2.heap.size := (Array.getElem?_eq_some_iff.1 ht2).1; have ht1' := (hb2.block _ m1).trans ht1; have q1' := (hb2.block _ (Nat.lt_trans (by omega) m1)).trans q1; have q2' := (hb2.block _ (Nat.lt_trans (by omega) m1)).trans q2; clear ht1 q1 q2) | (refine wpList_store_row rfl 57 _ _ rfl w2.heap.size names8A rfl rfl _ _ (World.alloc_heap_new w2 _) (by kernel_rfl) (by kernel_rfl) (by kernel_rfl) ?_; obtain ⟨w3, hw3, ht3, hb3⟩ := tab_val w2 _ 57 names8A; rw [hw3]; clear hw3; have ht1 := (hb3.block _ (Nat.lt_trans m1 m2)).trans ht1'; have ht2' := (hb3.block _ m2).trans ht2; have q1 := (hb3.block _ (Nat.lt_trans (Nat.lt_trans (by omega) m1) m2)).trans q1'; have q2 := (hb3.block _ (Nat.lt_trans (Nat.lt_trans (by omega) m1) m2)).trans q2'; obtain ⟨p0, p1, p2⟩ := cells3' q1; obtain ⟨r0, r1, r2, r3, r4⟩ := cells5 q2; have fz : ∀ o, w3.frozen? ⟨w.heap.size + 1, o, none⟩ = false := (fun o => by simp [World.frozen?, q2]); have hbw : Below w.heap.size w w3 := (hB0.trans (hb1.mono (by omega))).trans ((hb2.mono (by omega)).trans (hb3.mono (by omega))); have nc := names_cell ht3 k' hk8; clear ht1' ht2 q1' q2' q1))
        refine bodyPost_ret (by simp [results, Tryd.results14, go_sem, r0, r1, r2, r3, r4]; try rfl) rfl ?_
        exact ⟨rfl, ((((hbw.setCell (p := ⟨w.heap.size + 1, 0, none⟩) (Nat.le_succ _) _).setCell (p := ⟨w.heap.size + 1, 1, none⟩) (Nat.le_succ _) _).setCell (p := ⟨w.heap.size + 1, 2, none⟩) (Nat.le_succ _) _).setCell (p := ⟨w.heap.size + 1, 3, none⟩) (Nat.le_succ _) _).setCell (p := ⟨w.heap.size + 1, 4, none⟩) (Nat.le_succ _) _⟩
      · have d2 : decide ((k : Int) < 68) = false := decide_eq_false (by omega)
        have d2n : decide (k < 68) = false := decide_eq_false h68
        rw [if_neg h68]
        obtain ⟨k', rfl⟩ : ∃ k', k = k' + 68 := ⟨k - 68, by omega⟩
        have hk8 : k' ≤ 3 := by omega
        rw [show k' + 68 - 68 = k' by omega]
        have HD : ∀ w', Hid (Calls Tryd.prog 25 #[.int .u64 num, .int .i64 k'] w' fun e w'' => e = .returned (.string ⟨(dec num k').toArray⟩) ∧ Below w'.heap.size w' w'') := fun w' => decimal_any num k' hn hk8 w'
        go_enter Tryd.func14, Tryd.ntmps14
        go_wp2_with (first | refine wpList_buildTo rfl 58 _ rfl kinds60 (by kernel_rfl) ?_ | refine wpList_buildTo rfl 59 _ rfl texts60 (by kernel_rfl) ?_ | refine wpList_buildTo rfl 57 _ rfl names8A (by kernel_rfl) ?_ | (refine wpList_store_row rfl 58 _ _ rfl (w.heap.size + 1 + 1) kinds60 rfl rfl _ _ (hK _) (by kernel_rfl) (by kernel_rfl) (by kernel_rfl) ?_; obtain ⟨w1, hw1, ht1, hb1⟩ := tabAt ((w.alloc (.cells #[.int .i64 wh, .int .i64 gp, .int .u64 num] 39)).alloc (.cells #[.int .i64 0, .string ⟨#[]⟩, .int .u64 0, .int .i64 0, .int .i64 0] 34)) (w.heap.size + 1 + 1) (by simp) _ 58 kinds60; rw [hw1]; clear hw1 hK; have q1 := (hb1.block w.heap.size (by omega)).trans (hP0); have q2 := (hb1.block (w.heap.size + 1) (by omega)).trans (hP1); have m1 : w.heap.size + 1 + 1 < w1.heap.size := (Array.getElem?_eq_some_iff.1 ht1).1) | (refine wpList_store_row rfl 59 _ _ rfl w1.heap.size texts60 rfl rfl _ _ (World.alloc_heap_new w1 _) (by kernel_rfl) (by kernel_rfl) (by kernel_rfl) ?_; obtain ⟨w2, hw2, ht2, hb2⟩ := tab_val w1 _ 59 texts60; rw [hw2]; clear hw2; have m2 : w1.heap.size < w2.heap.size := (Array.getElem?_eq_some_iff.1 ht2).1; have ht1' := (hb2.block _ m1).trans ht1; have q1' := (hb2.block _ (Nat.lt_trans (by omega) m1)).trans q1; have q2' := (hb2.block _ (Nat.lt_trans (by omega) m1)).trans q2; clear ht1 q1 q2) | (refine wpList_store_row rfl 57 _ _ rfl w2.heap.size names8A rfl rfl _ _ (World.alloc_heap_new w2 _) (by kernel_rfl) (by kernel_rfl) (by kernel_rfl) ?_; obtain ⟨w3, hw3, ht3, hb3⟩ := tab_val w2 _ 57 names8A; rw [hw3]; clear hw3; have ht1 := (hb3.block _ (Nat.lt_trans m1 m2)).trans ht1'; have ht2' := (hb3.block _ m2).trans ht2; have q1 := (hb3.block _ (Nat.lt_trans (Nat.lt_trans (by omega) m1) m2)).trans q1'; have q2 := (hb3.block _ (Nat.lt_trans (Nat.lt_trans (by omega) m1) m2)).trans q2'; obtain ⟨p0, p1, p2⟩ := cells3' q1; obtain ⟨r0, r1, r2, r3, r4⟩ := cells5 q2; have fz : ∀ o, w3.frozen? ⟨w.heap.size + 1, o, none⟩ = false := (fun o => by simp [World.frozen?, q2]); have hbw : Below w.heap.size w w3 := (hB0.trans (hb1.mono (by omega))).trans ((hb2.mono (by omega)).trans (hb3.mono (by omega))); clear ht1' ht2 q1' q2' q1))
        have hwr : IntKind.i64.wrap (k' : Int) = (k' : Int) := by rw [IntKind.wrap_i64]; omega
        have hl1 : w.heap.size + 1 < w3.heap.size := (Array.getElem?_eq_some_iff.1 q2).1
        have hl0 : w.heap.size < w3.heap.size := Nat.lt_trans (Nat.lt_succ_self _) hl1
        clear hP0 hP1 hB0 hb1 hb2 hb3 ht1 ht2' ht3
        go_region_with (go_at_call 25; (with_reducible refine ((HD _).out).mono ?_); rintro e w4 ⟨rfl, hbd⟩; have u2 := (hbd.block (w.heap.size + 1) hl1).trans q2; obtain ⟨v0, v1, v2, v3, v4⟩ := cells5 u2; have fz4 : ∀ o, w4.frozen? ⟨w.heap.size + 1, o, none⟩ = false := (fun o => by simp [World.frozen?, u2]); have pp2 : w4.cell? ⟨w.heap.size, 2, none⟩ = some (.int .u64 num) := (by have e : w4.cell? ⟨w.heap.size, 2, none⟩ = w3.cell? ⟨w.heap.size, 2, none⟩ := (by unfold World.cell?; rw [hbd.block w.heap.size hl0]; rfl); rw [e]; exact p2); have hbw4 : Below w.heap.size w w4 := hbw.trans ((Below.refl _ w3).drew.trans (hbd.mono (Nat.le_of_lt hl0))))
        all_goals (try go_wp2)
        all_goals refine bodyPost_ret (by simp [results, Tryd.results14, go_sem, v0, v1, v2, v3, v4]; try rfl) rfl ?_
        all_goals exact ⟨rfl, ((((hbw4.setCell (p := ⟨w.heap.size + 1, 0, none⟩) (Nat.le_succ _) _).setCell (p := ⟨w.heap.size + 1, 1, none⟩) (Nat.le_succ _) _).setCell (p := ⟨w.heap.size + 1, 2, none⟩) (Nat.le_succ _) _).setCell (p := ⟨w.heap.size + 1, 3, none⟩) (Nat.le_succ _) _).setCell (p := ⟨w.heap.size + 1, 4, none⟩) (Nat.le_succ _) _⟩
  · by_cases h60 : k < 60
    · have d1 : decide ((k : Int) < 60) = true := decide_eq_true (by omega)
      have d1n : decide (k < 60) = true := decide_eq_true h60
      rw [if_pos h60]
      go_enter Tryd.func14, Tryd.ntmps14
      go_wp2_with (first | refine wpList_buildTo rfl 58 _ rfl kinds60 (by kernel_rfl) ?_ | refine wpList_buildTo rfl 59 _ rfl texts60 (by kernel_rfl) ?_ | refine wpList_buildTo rfl 57 _ rfl names8A (by kernel_rfl) ?_ | (refine wpList_store_row rfl 58 _ _ rfl (w.heap.size + 1 + 1) kinds60 rfl rfl _ _ (hK _) (by kernel_rfl) (by kernel_rfl) (by kernel_rfl) ?_; obtain ⟨w1, hw1, ht1, hb1⟩ := tabAt ((w.alloc (.cells #[.int .i64 wh, .int .i64 gp, .int .u64 num] 39)).alloc (.cells #[.int .i64 0, .string ⟨#[]⟩, .int .u64 0, .int .i64 0, .int .i64 0] 34)) (w.heap.size + 1 + 1) (by simp) _ 58 kinds60; rw [hw1]; clear hw1 hK; have q1 := (hb1.block w.heap.size (by omega)).trans (hP0); have q2 := (hb1.block (w.heap.size + 1) (by omega)).trans (hP1); have m1 : w.heap.size + 1 + 1 < w1.heap.size := (Array.getElem?_eq_some_iff.1 ht1).1) | (refine wpList_store_row rfl 59 _ _ rfl w1.heap.size texts60 rfl rfl _ _ (World.alloc_heap_new w1 _) (by kernel_rfl) (by kernel_rfl) (by kernel_rfl) ?_; obtain ⟨w2, hw2, ht2, hb2⟩ := tab_val w1 _ 59 texts60; rw [hw2]; clear hw2; have m2 : w1.heap.size < w2.heap.size := (Array.getElem?_eq_some_iff.1 ht2).1; have ht1' := (hb2.block _ m1).trans ht1; have q1' := (hb2.block _ (Nat.lt_trans (by omega) m1)).trans q1; have q2' := (hb2.block _ (Nat.lt_trans (by omega) m1)).trans q2; clear ht1 q1 q2) | (refine wpList_store_row rfl 57 _ _ rfl w2.heap.size names8A rfl rfl _ _ (World.alloc_heap_new w2 _) (by kernel_rfl) (by kernel_rfl) (by kernel_rfl) ?_; obtain ⟨w3, hw3, ht3, hb3⟩ := tab_val w2 _ 57 names8A; rw [hw3]; clear hw3; have ht1 := (hb3.block _ (Nat.lt_trans m1 m2)).trans ht1'; have ht2' := (hb3.block _ m2).trans ht2; have q1 := (hb3.block _ (Nat.lt_trans (Nat.lt_trans (by omega) m1) m2)).trans q1'; have q2 := (hb3.block _ (Nat.lt_trans (Nat.lt_trans (by omega) m1) m2)).trans q2'; obtain ⟨p0, p1, p2⟩ := cells3' q1; obtain ⟨r0, r1, r2, r3, r4⟩ := cells5 q2; have fz : ∀ o, w3.frozen? ⟨w.heap.size + 1, o, none⟩ = false := (fun o => by simp [World.frozen?, q2]); have hbw : Below w.heap.size w w3 := (hB0.trans (hb1.mono (by omega))).trans ((hb2.mono (by omega)).trans (hb3.mono (by omega))); clear ht1' ht2 q1' q2' q1))
      have kc := kinds_cell ht1 k h60
      have tc := texts_cell ht2' k h60
      clear hP0 hP1 hB0 hb1 hb2 hb3 ht1 ht2' ht3
      go_region
      go_wp2
      refine bodyPost_ret (by simp [results, Tryd.results14, go_sem, r0, r1, r2, r3, r4]; try rfl) rfl ?_
      exact ⟨rfl, (((((hbw.setCell (p := ⟨w.heap.size + 1, 0, none⟩) (Nat.le_succ _) _).setCell (p := ⟨w.heap.size + 1, 1, none⟩) (Nat.le_succ _) _).setCell (p := ⟨w.heap.size + 1, 2, none⟩) (Nat.le_succ _) _).setCell (p := ⟨w.heap.size + 1, 3, none⟩) (Nat.le_succ _) _).setCell (p := ⟨w.heap.size + 1, 4, none⟩) (Nat.le_succ _) _).drew⟩
    · have d1 : decide ((k : Int) < 60) = false := decide_eq_false (by omega)
      have d1n : decide (k < 60) = false := decide_eq_false h60
      rw [if_neg h60]
      by_cases h68 : k < 68
      · have d2 : decide ((k : Int) < 68) = true := decide_eq_true (by omega)
        have d2n : decide (k < 68) = true := decide_eq_true h68
        rw [if_pos h68]
        obtain ⟨k', rfl⟩ : ∃ k', k = k' + 60 := ⟨k - 60, by omega⟩
        have hk8 : k' < 8 := by omega
        rw [show k' + 60 - 60 = k' by omega]
        go_enter Tryd.func14, Tryd.ntmps14
        go_wp2_with (first | refine wpList_buildTo rfl 58 _ rfl kinds60 (by kernel_rfl) ?_ | refine wpList_buildTo rfl 59 _ rfl texts60 (by kernel_rfl) ?_ | refine wpList_buildTo rfl 57 _ rfl names8A (by kernel_rfl) ?_ | (refine wpList_store_row rfl 58 _ _ rfl (w.heap.size + 1 + 1) kinds60 rfl rfl _ _ (hK _) (by kernel_rfl) (by kernel_rfl) (by kernel_rfl) ?_; obtain ⟨w1, hw1, ht1, hb1⟩ := tabAt ((w.alloc (.cells #[.int .i64 wh, .int .i64 gp, .int .u64 num] 39)).alloc (.cells #[.int .i64 0, .string ⟨#[]⟩, .int .u64 0, .int .i64 0, .int .i64 0] 34)) (w.heap.size + 1 + 1) (by simp) _ 58 kinds60; rw [hw1]; clear hw1 hK; have q1 := (hb1.block w.heap.size (by omega)).trans (hP0); have q2 := (hb1.block (w.heap.size + 1) (by omega)).trans (hP1); have m1 : w.heap.size + 1 + 1 < w1.heap.size := (Array.getElem?_eq_some_iff.1 ht1).1) | (refine wpList_store_row rfl 59 _ _ rfl w1.heap.size texts60 rfl rfl _ _ (World.alloc_heap_new w1 _) (by kernel_rfl) (by kernel_rfl) (by kernel_rfl) ?_; obtain ⟨w2, hw2, ht2, hb2⟩ := tab_val w1 _ 59 texts60; rw [hw2]; clear hw2; have m2 : w1.heap.size < w2.heap.size := (Array.getElem?_eq_some_iff.1 ht2).1; have ht1' := (hb2.block _ m1).trans ht1; have q1' := (hb2.block _ (Nat.lt_trans (by omega) m1)).trans q1; have q2' := (hb2.block _ (Nat.lt_trans (by omega) m1)).trans q2; clear ht1 q1 q2) | (refine wpList_store_row rfl 57 _ _ rfl w2.heap.size names8A rfl rfl _ _ (World.alloc_heap_new w2 _) (by kernel_rfl) (by kernel_rfl) (by kernel_rfl) ?_; obtain ⟨w3, hw3, ht3, hb3⟩ := tab_val w2 _ 57 names8A; rw [hw3]; clear hw3; have ht1 := (hb3.block _ (Nat.lt_trans m1 m2)).trans ht1'; have ht2' := (hb3.block _ m2).trans ht2; have q1 := (hb3.block _ (Nat.lt_trans (Nat.lt_trans (by omega) m1) m2)).trans q1'; have q2 := (hb3.block _ (Nat.lt_trans (Nat.lt_trans (by omega) m1) m2)).trans q2'; obtain ⟨p0, p1, p2⟩ := cells3' q1; obtain ⟨r0, r1, r2, r3, r4⟩ := cells5 q2; have fz : ∀ o, w3.frozen? ⟨w.heap.size + 1, o, none⟩ = false := (fun o => by simp [World.frozen?, q2]); have hbw : Below w.heap.size w w3 := (hB0.trans (hb1.mono (by omega))).trans ((hb2.mono (by omega)).trans (hb3.mono (by omega))); have nc := names_cell ht3 k' hk8; clear ht1' ht2 q1' q2' q1))
        refine bodyPost_ret (by simp [results, Tryd.results14, go_sem, r0, r1, r2, r3, r4]; try rfl) rfl ?_
        exact ⟨rfl, ((((hbw.setCell (p := ⟨w.heap.size + 1, 0, none⟩) (Nat.le_succ _) _).setCell (p := ⟨w.heap.size + 1, 1, none⟩) (Nat.le_succ _) _).setCell (p := ⟨w.heap.size + 1, 2, none⟩) (Nat.le_succ _) _).setCell (p := ⟨w.heap.size + 1, 3, none⟩) (Nat.le_succ _) _).setCell (p := ⟨w.heap.size + 1, 4, none⟩) (Nat.le_succ _) _⟩
      · have d2 : decide ((k : Int) < 68) = false := decide_eq_false (by omega)
        have d2n : decide (k < 68) = false := decide_eq_false h68
        rw [if_neg h68]
        obtain ⟨k', rfl⟩ : ∃ k', k = k' + 68 := ⟨k - 68, by omega⟩
        have hk8 : k' ≤ 3 := by omega
        rw [show k' + 68 - 68 = k' by omega]
        have HD : ∀ w', Hid (Calls Tryd.prog 25 #[.int .u64 num, .int .i64 k'] w' fun e w'' => e = .returned (.string ⟨(dec num k').toArray⟩) ∧ Below w'.heap.size w' w'') := fun w' => decimal_any num k' hn hk8 w'
        go_enter Tryd.func14, Tryd.ntmps14
        go_wp2_with (first | refine wpList_buildTo rfl 58 _ rfl kinds60 (by kernel_rfl) ?_ | refine wpList_buildTo rfl 59 _ rfl texts60 (by kernel_rfl) ?_ | refine wpList_buildTo rfl 57 _ rfl names8A (by kernel_rfl) ?_ | (refine wpList_store_row rfl 58 _ _ rfl (w.heap.size + 1 + 1) kinds60 rfl rfl _ _ (hK _) (by kernel_rfl) (by kernel_rfl) (by kernel_rfl) ?_; obtain ⟨w1, hw1, ht1, hb1⟩ := tabAt ((w.alloc (.cells #[.int .i64 wh, .int .i64 gp, .int .u64 num] 39)).alloc (.cells #[.int .i64 0, .string ⟨#[]⟩, .int .u64 0, .int .i64 0, .int .i64 0] 34)) (w.heap.size + 1 + 1) (by simp) _ 58 kinds60; rw [hw1]; clear hw1 hK; have q1 := (hb1.block w.heap.size (by omega)).trans (hP0); have q2 := (hb1.block (w.heap.size + 1) (by omega)).trans (hP1); have m1 : w.heap.size + 1 + 1 < w1.heap.size := (Array.getElem?_eq_some_iff.1 ht1).1) | (refine wpList_store_row rfl 59 _ _ rfl w1.heap.size texts60 rfl rfl _ _ (World.alloc_heap_new w1 _) (by kernel_rfl) (by kernel_rfl) (by kernel_rfl) ?_; obtain ⟨w2, hw2, ht2, hb2⟩ := tab_val w1 _ 59 texts60; rw [hw2]; clear hw2; have m2 : w1.heap.size < w2.heap.size := (Array.getElem?_eq_some_iff.1 ht2).1; have ht1' := (hb2.block _ m1).trans ht1; have q1' := (hb2.block _ (Nat.lt_trans (by omega) m1)).trans q1; have q2' := (hb2.block _ (Nat.lt_trans (by omega) m1)).trans q2; clear ht1 q1 q2) | (refine wpList_store_row rfl 57 _ _ rfl w2.heap.size names8A rfl rfl _ _ (World.alloc_heap_new w2 _) (by kernel_rfl) (by kernel_rfl) (by kernel_rfl) ?_; obtain ⟨w3, hw3, ht3, hb3⟩ := tab_val w2 _ 57 names8A; rw [hw3]; clear hw3; have ht1 := (hb3.block _ (Nat.lt_trans m1 m2)).trans ht1'; have ht2' := (hb3.block _ m2).trans ht2; have q1 := (hb3.block _ (Nat.lt_trans (Nat.lt_trans (by omega) m1) m2)).trans q1'; have q2 := (hb3.block _ (Nat.lt_trans (Nat.lt_trans (by omega) m1) m2)).trans q2'; obtain ⟨p0, p1, p2⟩ := cells3' q1; obtain ⟨r0, r1, r2, r3, r4⟩ := cells5 q2; have fz : ∀ o, w3.frozen? ⟨w.heap.size + 1, o, none⟩ = false := (fun o => by simp [World.frozen?, q2]); have hbw : Below w.heap.size w w3 := (hB0.trans (hb1.mono (by omega))).trans ((hb2.mono (by omega)).trans (hb3.mono (by omega))); clear ht1' ht2 q1' q2' q1))
        have hwr : IntKind.i64.wrap (k' : Int) = (k' : Int) := by rw [IntKind.wrap_i64]; omega
        have hl1 : w.heap.size + 1 < w3.heap.size := (Array.getElem?_eq_some_iff.1 q2).1
        have hl0 : w.heap.size < w3.heap.size := Nat.lt_trans (Nat.lt_succ_self _) hl1
        clear hP0 hP1 hB0 hb1 hb2 hb3 ht1 ht2' ht3
        go_region_with (go_at_call 25; (with_reducible refine ((HD _).out).mono ?_); rintro e w4 ⟨rfl, hbd⟩; have u2 := (hbd.block (w.heap.size + 1) hl1).trans q2; obtain ⟨v0, v1, v2, v3, v4⟩ := cells5 u2; have fz4 : ∀ o, w4.frozen? ⟨w.heap.size + 1, o, none⟩ = false := (fun o => by simp [World.frozen?, u2]); have pp2 : w4.cell? ⟨w.heap.size, 2, none⟩ = some (.int .u64 num) := (by have e : w4.cell? ⟨w.heap.size, 2, none⟩ = w3.cell? ⟨w.heap.size, 2, none⟩ := (by unfold World.cell?; rw [hbd.block w.heap.size hl0]; rfl); rw [e]; exact p2); have hbw4 : Below w.heap.size w w4 := hbw.trans ((Below.refl _ w3).drew.trans (hbd.mono (Nat.le_of_lt hl0))))
        all_goals (try go_wp2)
        all_goals refine bodyPost_ret (by simp [results, Tryd.results14, go_sem, v0, v1, v2, v3, v4]; try rfl) rfl ?_
        all_goals exact ⟨rfl, ((((hbw4.setCell (p := ⟨w.heap.size + 1, 0, none⟩) (Nat.le_succ _) _).setCell (p := ⟨w.heap.size + 1, 1, none⟩) (Nat.le_succ _) _).setCell (p := ⟨w.heap.size + 1, 2, none⟩) (Nat.le_succ _) _).setCell (p := ⟨w.heap.size + 1, 3, none⟩) (Nat.le_succ _) _).setCell (p := ⟨w.heap.size + 1, 4, none⟩) (Nat.le_succ _) _⟩
end Go.Proofs.YtidffddmlaedcaaDoor
