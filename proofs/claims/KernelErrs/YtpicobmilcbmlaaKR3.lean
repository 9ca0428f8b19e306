import Derived.Test.YtpicobmilcbmlaaKR2
namespace Go.Proofs.Ytpicobmilcbmlaa
open Go.ChangeShapes Go.WideShapes Go.ChangeAt Go.RowKit
set_option linter.unusedVariables false
set_option linter.unusedSimpArgs false

set_option maxRecDepth 100000 in
set_option maxHeartbeats 4000000 in
theorem err_3 (c a0 a1 a2 m : Int) (q x : Option Addr) (n cq nx cx : Nat) (w : World) : Calls Try.prog 6 #[.agg #[.int .i64 3, .int .i64 c, .int .u64 a0, .int .i64 a1, .int .u64 a2, .int .i64 m, .slice q n cq, .slice x nx cx]] w fun e w' => e = .returned (.iface 55 (.pointer (some ⟨w.heap.size + 1, 0, none⟩))) ∧ w'.heap[w.heap.size + 1]? = some (.cells #[.int .u64 a0, .int .i64 a1, .int .u64 a2, .iface 22 (.int .i64 c)] 57 (0, 0)) ∧ Below w.heap.size w w' := by
  go_enter Try.func6, Try.ntmps6
  go_wp2
  go_ret
  exact ⟨rfl, by
    have := World.alloc_heap_new (w.alloc (.cells #[.int .i64 3, .int .i64 c, .int .u64 a0, .int .i64 a1, .int .u64 a2, .int .i64 m, .slice q n cq, .slice x nx cx] 29)) (.cells #[.int .u64 a0, .int .i64 a1, .int .u64 a2, .iface 22 (.int .i64 c)] 57)
    rwa [World.size_alloc] at this, ((Below.refl _ w).alloc (Nat.le_refl _) _).alloc (by simp) _⟩
set_option maxRecDepth 100000 in
set_option maxHeartbeats 4000000 in
theorem rerr_3 (c a0 a1 a2 m : Int) (q x : Option Addr) (n cq nx cx : Nat) (w : World) : Calls Try.prog 8 #[.agg #[.int .i64 3, .int .i64 c, .int .u64 a0, .int .i64 a1, .int .u64 a2, .int .i64 m, .slice q n cq, .slice x nx cx]] w fun e w' => e = .returned (.agg #[.int .i64 4, .int .i64 c, .int .i64 0, .int .i64 0, .int .u64 a0, .int .i64 a1, .int .u64 a2]) ∧ Below w.heap.size w w' := by
  go_enter Try.func8, Try.ntmps8
  go_wp2
  refine bodyPost_ret (by simp [results, Try.results8, go_sem]; try rfl) rfl ?_
  exact ⟨rfl, ((Below.refl _ w).alloc (Nat.le_refl _) _).alloc (by simp) _⟩
set_option maxRecDepth 100000 in
set_option maxHeartbeats 4000000 in
theorem errs_3 (c a0 a1 a2 m : Int) (q x : Option Addr) (n cq nx cx : Nat) (A : Nat → Sa) (K : Nat → Nat → Int) (X : Nat → Value) (hX : ∀ j, (X j).oneCell' = true) (hn : n * 40 ≤ 140737488355328) (hw : ∀ j, j < n → (A j).n ≤ 17592186044416) (hx : nx ≤ 2932031007402) (w : World) (h : SsAt w q n A K) (h' : CIn w x nx 6 X) : Calls Try.prog 3 #[.agg #[.int .i64 3, .int .i64 c, .int .u64 a0, .int .i64 a1, .int .u64 a2, .int .i64 m, .slice q n cq, .slice x nx cx]] w fun e w' => e = .returned (.bool true) ∧ Below w.heap.size w w' := by
  obtain ⟨wb, hwb⟩ : ∃ wb, w.alloc (.cells #[.int .i64 3, .int .i64 c, .int .u64 a0, .int .i64 a1, .int .u64 a2, .int .i64 m, .slice q n cq, .slice x nx cx] 29) = wb := ⟨_, rfl⟩
  obtain ⟨hb0, hbox, hsz⟩ := boxed _ _ _ hwb
  have HW : Hid (w.alloc (.cells #[.int .i64 3, .int .i64 c, .int .u64 a0, .int .i64 a1, .int .u64 a2, .int .i64 m, .slice q n cq, .slice x nx cx] 29) = wb) := hwb
  have hl1 := lt_of_block hbox
  have KK : ∀ w', Below wb.heap.size wb w' → Hid (w'.cell? ⟨w.heap.size, 0, none⟩ = some (.int .i64 3) ∧ w'.cell? ⟨w.heap.size, 1, none⟩ = some (.int .i64 c) ∧ w'.cell? ⟨w.heap.size, 2, none⟩ = some (.int .u64 a0) ∧ w'.cell? ⟨w.heap.size, 3, none⟩ = some (.int .i64 a1) ∧ w'.cell? ⟨w.heap.size, 4, none⟩ = some (.int .u64 a2) ∧ w'.cell? ⟨w.heap.size, 5, none⟩ = some (.int .i64 m) ∧ w'.cell? ⟨w.heap.size, 6, none⟩ = some (.slice q n cq) ∧ w'.cell? ⟨w.heap.size, 7, none⟩ = some (.slice x nx cx)) := fun w' hb => cells8k ((hb.block _ hl1).trans hbox)
  have hbd : Below wb.heap.size wb wb.drew := (Below.refl _ wb).drew
  have HC1 := copyResult_any 3 c a0 a1 a2 m q x n cq nx cx A K X hX hn hw hx wb.drew ((h.below hb0).below hbd) ((h'.below hb0).below hbd)
  have KP0 := (KK wb.drew hbd).out
  have HE : ∀ (q1 : Option Addr) (cq1 : Nat) (x1 : Option Addr) (cx1 : Nat) W, Hid (Calls Try.prog 6 #[.agg #[.int .i64 3, .int .i64 c, .int .u64 a0, .int .i64 a1, .int .u64 a2, .int .i64 m, .slice q1 n cq1, .slice x1 nx cx1]] W fun e w' => e = .returned (.iface 55 (.pointer (some ⟨W.heap.size + 1, 0, none⟩))) ∧ w'.heap[W.heap.size + 1]? = some (.cells #[.int .u64 a0, .int .i64 a1, .int .u64 a2, .iface 22 (.int .i64 c)] 57 (0, 0)) ∧ Below W.heap.size W w') := fun q1 cq1 x1 cx1 W => err_3 c a0 a1 a2 m q1 x1 n cq1 nx cx1 W
  have HR : ∀ W, Hid (Calls Try.prog 8 #[.agg #[.int .i64 3, .int .i64 c, .int .u64 a0, .int .i64 a1, .int .u64 a2, .int .i64 m, .slice q n cq, .slice x nx cx]] W fun e w' => e = .returned (.agg #[.int .i64 4, .int .i64 c, .int .i64 0, .int .i64 0, .int .u64 a0, .int .i64 a1, .int .u64 a2]) ∧ Below W.heap.size W w') := fun W => rerr_3 c a0 a1 a2 m q x n cq nx cx W
  clear hwb h h' hsz hbox hl1
  go_enter Try.func3, Try.ntmps3
  go_upto_region 1 with fail
  rw [HW.out]
  go_region_held3 (fun w' => w'.cell? ⟨w.heap.size, 0, none⟩ = some (.int .i64 3) ∧ w'.cell? ⟨w.heap.size, 1, none⟩ = some (.int .i64 c) ∧ w'.cell? ⟨w.heap.size, 2, none⟩ = some (.int .u64 a0) ∧ w'.cell? ⟨w.heap.size, 3, none⟩ = some (.int .i64 a1) ∧ w'.cell? ⟨w.heap.size, 4, none⟩ = some (.int .u64 a2) ∧ w'.cell? ⟨w.heap.size, 5, none⟩ = some (.int .i64 m) ∧ w'.cell? ⟨w.heap.size, 6, none⟩ = some (.slice q n cq) ∧ w'.cell? ⟨w.heap.size, 7, none⟩ = some (.slice x nx cx)) (first | with_reducible exact KP0 | with_reducible exact KP1 | with_reducible exact KP2 | with_reducible exact KP3 | with_reducible exact KP4 | go_keep) (first | (go_at_call 7; (with_reducible refine HC1.mono ?_); rintro e w1 ⟨q1, cq1, x1, cx1, rfl, hb1⟩; have hw1 : Below wb.heap.size wb w1 := hbd.trans (hb1.mono hbd.size); have KP1 := (KK w1 hw1).out; clear hb1) | (go_at_call 6; (with_reducible refine (HE q1 cq1 x1 cx1 w1).out.mono ?_); rintro e w2 ⟨rfl, hg, hb2⟩; have hw2 : Below wb.heap.size wb w2 := hw1.trans (hb2.mono hw1.size); have KP2 := (KK w2 hw2).out; have HS := see_key c a0 a1 a2 _ w2 hg; clear hb2 hg) | (go_at_call 5; (with_reducible refine HS.mono ?_); rintro e w3 ⟨rfl, hb3⟩; have hw3 : Below wb.heap.size wb w3 := hw2.trans (hb3.mono hw2.size); have KP3 := (KK w3 hw3).out; clear hb3) | (go_at_call 8; (with_reducible refine (HR w3).out.mono ?_); rintro e w4 ⟨rfl, hb4⟩; have hw4 : Below wb.heap.size wb w4 := hw3.trans (hb4.mono hw3.size); have KP4 := (KK w4 hw4).out; clear hb4))
  all_goals (
    go_wp2_with fail
    go_ret
    exact ⟨by simp, hb0.trans (hw4.mono hb0.size)⟩)
set_option maxRecDepth 100000 in
set_option maxHeartbeats 4000000 in
theorem err_4 (c a0 a1 a2 m : Int) (q x : Option Addr) (n cq nx cx : Nat) (w : World) : Calls Try.prog 6 #[.agg #[.int .i64 4, .int .i64 c, .int .u64 a0, .int .i64 a1, .int .u64 a2, .int .i64 m, .slice q n cq, .slice x nx cx]] w fun e w' => e = .returned (.iface 58 (.pointer (some ⟨w.heap.size + 1, 0, none⟩))) ∧ w'.heap[w.heap.size + 1]? = some (.cells #[.int .i64 m, .iface 22 (.int .i64 c)] 60 (0, 0)) ∧ Below w.heap.size w w' := by
  go_enter Try.func6, Try.ntmps6
  go_wp2
  go_ret
  exact ⟨rfl, by
    have := World.alloc_heap_new (w.alloc (.cells #[.int .i64 4, .int .i64 c, .int .u64 a0, .int .i64 a1, .int .u64 a2, .int .i64 m, .slice q n cq, .slice x nx cx] 29)) (.cells #[.int .i64 m, .iface 22 (.int .i64 c)] 60)
    rwa [World.size_alloc] at this, ((Below.refl _ w).alloc (Nat.le_refl _) _).alloc (by simp) _⟩
set_option maxRecDepth 100000 in
set_option maxHeartbeats 4000000 in
theorem rerr_4 (c a0 a1 a2 m : Int) (q x : Option Addr) (n cq nx cx : Nat) (w : World) : Calls Try.prog 8 #[.agg #[.int .i64 4, .int .i64 c, .int .u64 a0, .int .i64 a1, .int .u64 a2, .int .i64 m, .slice q n cq, .slice x nx cx]] w fun e w' => e = .returned (.agg #[.int .i64 5, .int .i64 c, .int .i64 m, .int .i64 0, .int .u64 0, .int .i64 0, .int .u64 0]) ∧ Below w.heap.size w w' := by
  go_enter Try.func8, Try.ntmps8
  go_wp2
  refine bodyPost_ret (by simp [results, Try.results8, go_sem]; try rfl) rfl ?_
  exact ⟨rfl, ((Below.refl _ w).alloc (Nat.le_refl _) _).alloc (by simp) _⟩
set_option maxRecDepth 100000 in
set_option maxHeartbeats 4000000 in
theorem errs_4 (c a0 a1 a2 m : Int) (q x : Option Addr) (n cq nx cx : Nat) (A : Nat → Sa) (K : Nat → Nat → Int) (X : Nat → Value) (hX : ∀ j, (X j).oneCell' = true) (hn : n * 40 ≤ 140737488355328) (hw : ∀ j, j < n → (A j).n ≤ 17592186044416) (hx : nx ≤ 2932031007402) (w : World) (h : SsAt w q n A K) (h' : CIn w x nx 6 X) : Calls Try.prog 3 #[.agg #[.int .i64 4, .int .i64 c, .int .u64 a0, .int .i64 a1, .int .u64 a2, .int .i64 m, .slice q n cq, .slice x nx cx]] w fun e w' => e = .returned (.bool true) ∧ Below w.heap.size w w' := by
  obtain ⟨wb, hwb⟩ : ∃ wb, w.alloc (.cells #[.int .i64 4, .int .i64 c, .int .u64 a0, .int .i64 a1, .int .u64 a2, .int .i64 m, .slice q n cq, .slice x nx cx] 29) = wb := ⟨_, rfl⟩
  obtain ⟨hb0, hbox, hsz⟩ := boxed _ _ _ hwb
  have HW : Hid (w.alloc (.cells #[.int .i64 4, .int .i64 c, .int .u64 a0, .int .i64 a1, .int .u64 a2, .int .i64 m, .slice q n cq, .slice x nx cx] 29) = wb) := hwb
  have hl1 := lt_of_block hbox
  have KK : ∀ w', Below wb.heap.size wb w' → Hid (w'.cell? ⟨w.heap.size, 0, none⟩ = some (.int .i64 4) ∧ w'.cell? ⟨w.heap.size, 1, none⟩ = some (.int .i64 c) ∧ w'.cell? ⟨w.heap.size, 2, none⟩ = some (.int .u64 a0) ∧ w'.cell? ⟨w.heap.size, 3, none⟩ = some (.int .i64 a1) ∧ w'.cell? ⟨w.heap.size, 4, none⟩ = some (.int .u64 a2) ∧ w'.cell? ⟨w.heap.size, 5, none⟩ = some (.int .i64 m) ∧ w'.cell? ⟨w.heap.size, 6, none⟩ = some (.slice q n cq) ∧ w'.cell? ⟨w.heap.size, 7, none⟩ = some (.slice x nx cx)) := fun w' hb => cells8k ((hb.block _ hl1).trans hbox)
  have hbd : Below wb.heap.size wb wb.drew := (Below.refl _ wb).drew
  have HC1 := copyResult_any 4 c a0 a1 a2 m q x n cq nx cx A K X hX hn hw hx wb.drew ((h.below hb0).below hbd) ((h'.below hb0).below hbd)
  have KP0 := (KK wb.drew hbd).out
  have HE : ∀ (q1 : Option Addr) (cq1 : Nat) (x1 : Option Addr) (cx1 : Nat) W, Hid (Calls Try.prog 6 #[.agg #[.int .i64 4, .int .i64 c, .int .u64 a0, .int .i64 a1, .int .u64 a2, .int .i64 m, .slice q1 n cq1, .slice x1 nx cx1]] W fun e w' => e = .returned (.iface 58 (.pointer (some ⟨W.heap.size + 1, 0, none⟩))) ∧ w'.heap[W.heap.size + 1]? = some (.cells #[.int .i64 m, .iface 22 (.int .i64 c)] 60 (0, 0)) ∧ Below W.heap.size W w') := fun q1 cq1 x1 cx1 W => err_4 c a0 a1 a2 m q1 x1 n cq1 nx cx1 W
  have HR : ∀ W, Hid (Calls Try.prog 8 #[.agg #[.int .i64 4, .int .i64 c, .int .u64 a0, .int .i64 a1, .int .u64 a2, .int .i64 m, .slice q n cq, .slice x nx cx]] W fun e w' => e = .returned (.agg #[.int .i64 5, .int .i64 c, .int .i64 m, .int .i64 0, .int .u64 0, .int .i64 0, .int .u64 0]) ∧ Below W.heap.size W w') := fun W => rerr_4 c a0 a1 a2 m q x n cq nx cx W
  clear hwb h h' hsz hbox hl1
  go_enter Try.func3, Try.ntmps3
  go_upto_region 1 with fail
  rw [HW.out]
  go_region_held3 (fun w' => w'.cell? ⟨w.heap.size, 0, none⟩ = some (.int .i64 4) ∧ w'.cell? ⟨w.heap.size, 1, none⟩ = some (.int .i64 c) ∧ w'.cell? ⟨w.heap.size, 2, none⟩ = some (.int .u64 a0) ∧ w'.cell? ⟨w.heap.size, 3, none⟩ = some (.int .i64 a1) ∧ w'.cell? ⟨w.heap.size, 4, none⟩ = some (.int .u64 a2) ∧ w'.cell? ⟨w.heap.size, 5, none⟩ = some (.int .i64 m) ∧ w'.cell? ⟨w.heap.size, 6, none⟩ = some (.slice q n cq) ∧ w'.cell? ⟨w.heap.size, 7, none⟩ = some (.slice x nx cx)) (first | with_reducible exact KP0 | with_reducible exact KP1 | with_reducible exact KP2 | with_reducible exact KP3 | with_reducible exact KP4 | go_keep) (first | (go_at_call 7; (with_reducible refine HC1.mono ?_); rintro e w1 ⟨q1, cq1, x1, cx1, rfl, hb1⟩; have hw1 : Below wb.heap.size wb w1 := hbd.trans (hb1.mono hbd.size); have KP1 := (KK w1 hw1).out; clear hb1) | (go_at_call 6; (with_reducible refine (HE q1 cq1 x1 cx1 w1).out.mono ?_); rintro e w2 ⟨rfl, hg, hb2⟩; have hw2 : Below wb.heap.size wb w2 := hw1.trans (hb2.mono hw1.size); have KP2 := (KK w2 hw2).out; have HS := see_win c m _ w2 hg; clear hb2 hg) | (go_at_call 5; (with_reducible refine HS.mono ?_); rintro e w3 ⟨rfl, hb3⟩; have hw3 : Below wb.heap.size wb w3 := hw2.trans (hb3.mono hw2.size); have KP3 := (KK w3 hw3).out; clear hb3) | (go_at_call 8; (with_reducible refine (HR w3).out.mono ?_); rintro e w4 ⟨rfl, hb4⟩; have hw4 : Below wb.heap.size wb w4 := hw3.trans (hb4.mono hw3.size); have KP4 := (KK w4 hw4).out; clear hb4))
  all_goals (
    go_wp2_with fail
    go_ret
    exact ⟨by simp, hb0.trans (hw4.mono hb0.size)⟩)
set_option maxRecDepth 100000 in
set_option maxHeartbeats 4000000 in
theorem err_5 (c a0 a1 a2 m : Int) (q x : Option Addr) (n cq nx cx : Nat) (w : World) : Calls Try.prog 6 #[.agg #[.int .i64 5, .int .i64 c, .int .u64 a0, .int .i64 a1, .int .u64 a2, .int .i64 m, .slice q n cq, .slice x nx cx]] w fun e w' => e = .returned (.iface 22 (.int .i64 c)) ∧ Below w.heap.size w w' := by
  go_enter Try.func6, Try.ntmps6
  go_wp2
  go_ret
  exact ⟨rfl, (Below.refl _ w).alloc (Nat.le_refl _) _⟩
set_option maxRecDepth 100000 in
set_option maxHeartbeats 4000000 in
theorem rerr_5 (c a0 a1 a2 m : Int) (q x : Option Addr) (n cq nx cx : Nat) (w : World) : Calls Try.prog 8 #[.agg #[.int .i64 5, .int .i64 c, .int .u64 a0, .int .i64 a1, .int .u64 a2, .int .i64 m, .slice q n cq, .slice x nx cx]] w fun e w' => e = .returned (.agg #[.int .i64 1, .int .i64 c, .int .i64 0, .int .i64 0, .int .u64 0, .int .i64 0, .int .u64 0]) ∧ Below w.heap.size w w' := by
  go_enter Try.func8, Try.ntmps8
  go_wp2
  refine bodyPost_ret (by simp [results, Try.results8, go_sem]; try rfl) rfl ?_
  exact ⟨rfl, ((Below.refl _ w).alloc (Nat.le_refl _) _).alloc (by simp) _⟩
set_option maxRecDepth 100000 in
set_option maxHeartbeats 4000000 in
theorem errs_5 (c a0 a1 a2 m : Int) (q x : Option Addr) (n cq nx cx : Nat) (A : Nat → Sa) (K : Nat → Nat → Int) (X : Nat → Value) (hX : ∀ j, (X j).oneCell' = true) (hn : n * 40 ≤ 140737488355328) (hw : ∀ j, j < n → (A j).n ≤ 17592186044416) (hx : nx ≤ 2932031007402) (w : World) (h : SsAt w q n A K) (h' : CIn w x nx 6 X) : Calls Try.prog 3 #[.agg #[.int .i64 5, .int .i64 c, .int .u64 a0, .int .i64 a1, .int .u64 a2, .int .i64 m, .slice q n cq, .slice x nx cx]] w fun e w' => e = .returned (.bool true) ∧ Below w.heap.size w w' := by
  obtain ⟨wb, hwb⟩ : ∃ wb, w.alloc (.cells #[.int .i64 5, .int .i64 c, .int .u64 a0, .int .i64 a1, .int .u64 a2, .int .i64 m, .slice q n cq, .slice x nx cx] 29) = wb := ⟨_, rfl⟩
  obtain ⟨hb0, hbox, hsz⟩ := boxed _ _ _ hwb
  have HW : Hid (w.alloc (.cells #[.int .i64 5, .int .i64 c, .int .u64 a0, .int .i64 a1, .int .u64 a2, .int .i64 m, .slice q n cq, .slice x nx cx] 29) = wb) := hwb
  have hl1 := lt_of_block hbox
  have KK : ∀ w', Below wb.heap.size wb w' → Hid (w'.cell? ⟨w.heap.size, 0, none⟩ = some (.int .i64 5) ∧ w'.cell? ⟨w.heap.size, 1, none⟩ = some (.int .i64 c) ∧ w'.cell? ⟨w.heap.size, 2, none⟩ = some (.int .u64 a0) ∧ w'.cell? ⟨w.heap.size, 3, none⟩ = some (.int .i64 a1) ∧ w'.cell? ⟨w.heap.size, 4, none⟩ = some (.int .u64 a2) ∧ w'.cell? ⟨w.heap.size, 5, none⟩ = some (.int .i64 m) ∧ w'.cell? ⟨w.heap.size, 6, none⟩ = some (.slice q n cq) ∧ w'.cell? ⟨w.heap.size, 7, none⟩ = some (.slice x nx cx)) := fun w' hb => cells8k ((hb.block _ hl1).trans hbox)
  have hbd : Below wb.heap.size wb wb.drew := (Below.refl _ wb).drew
  have HC1 := copyResult_any 5 c a0 a1 a2 m q x n cq nx cx A K X hX hn hw hx wb.drew ((h.below hb0).below hbd) ((h'.below hb0).below hbd)
  have KP0 := (KK wb.drew hbd).out
  have HE : ∀ (q1 : Option Addr) (cq1 : Nat) (x1 : Option Addr) (cx1 : Nat) W, Hid (Calls Try.prog 6 #[.agg #[.int .i64 5, .int .i64 c, .int .u64 a0, .int .i64 a1, .int .u64 a2, .int .i64 m, .slice q1 n cq1, .slice x1 nx cx1]] W fun e w' => e = .returned (.iface 22 (.int .i64 c)) ∧ Below W.heap.size W w') := fun q1 cq1 x1 cx1 W => err_5 c a0 a1 a2 m q1 x1 n cq1 nx cx1 W
  have HR : ∀ W, Hid (Calls Try.prog 8 #[.agg #[.int .i64 5, .int .i64 c, .int .u64 a0, .int .i64 a1, .int .u64 a2, .int .i64 m, .slice q n cq, .slice x nx cx]] W fun e w' => e = .returned (.agg #[.int .i64 1, .int .i64 c, .int .i64 0, .int .i64 0, .int .u64 0, .int .i64 0, .int .u64 0]) ∧ Below W.heap.size W w') := fun W => rerr_5 c a0 a1 a2 m q x n cq nx cx W
  clear hwb h h' hsz hbox hl1
  go_enter Try.func3, Try.ntmps3
  go_upto_region 1 with fail
  rw [HW.out]
  go_region_held3 (fun w' => w'.cell? ⟨w.heap.size, 0, none⟩ = some (.int .i64 5) ∧ w'.cell? ⟨w.heap.size, 1, none⟩ = some (.int .i64 c) ∧ w'.cell? ⟨w.heap.size, 2, none⟩ = some (.int .u64 a0) ∧ w'.cell? ⟨w.heap.size, 3, none⟩ = some (.int .i64 a1) ∧ w'.cell? ⟨w.heap.size, 4, none⟩ = some (.int .u64 a2) ∧ w'.cell? ⟨w.heap.size, 5, none⟩ = some (.int .i64 m) ∧ w'.cell? ⟨w.heap.size, 6, none⟩ = some (.slice q n cq) ∧ w'.cell? ⟨w.heap.size, 7, none⟩ = some (.slice x nx cx)) (first | with_reducible exact KP0 | with_reducible exact KP1 | with_reducible exact KP2 | with_reducible exact KP3 | with_reducible exact KP4 | go_keep) (first | (go_at_call 7; (with_reducible refine HC1.mono ?_); rintro e w1 ⟨q1, cq1, x1, cx1, rfl, hb1⟩; have hw1 : Below wb.heap.size wb w1 := hbd.trans (hb1.mono hbd.size); have KP1 := (KK w1 hw1).out; clear hb1) | (go_at_call 6; (with_reducible refine (HE q1 cq1 x1 cx1 w1).out.mono ?_); rintro e w2 ⟨rfl, hb2⟩; have hw2 : Below wb.heap.size wb w2 := hw1.trans (hb2.mono hw1.size); have KP2 := (KK w2 hw2).out; have HS := see_num c w2; clear hb2) | (go_at_call 5; (with_reducible refine HS.mono ?_); rintro e w3 ⟨rfl, hb3⟩; have hw3 : Below wb.heap.size wb w3 := hw2.trans (hb3.mono hw2.size); have KP3 := (KK w3 hw3).out; clear hb3) | (go_at_call 8; (with_reducible refine (HR w3).out.mono ?_); rintro e w4 ⟨rfl, hb4⟩; have hw4 : Below wb.heap.size wb w4 := hw3.trans (hb4.mono hw3.size); have KP4 := (KK w4 hw4).out; clear hb4))
  all_goals (
    go_wp2_with fail
    go_ret
    exact ⟨by simp, hb0.trans (hw4.mono hb0.size)⟩)
set_option maxRecDepth 100000 in
set_option maxHeartbeats 4000000 in
theorem err_6 (c a0 a1 a2 m : Int) (q x : Option Addr) (n cq nx cx : Nat) (w : World) : Calls Try.prog 6 #[.agg #[.int .i64 6, .int .i64 c, .int .u64 a0, .int .i64 a1, .int .u64 a2, .int .i64 m, .slice q n cq, .slice x nx cx]] w fun e w' => e = .returned (.iface 22 (.int .i64 c)) ∧ Below w.heap.size w w' := by
  go_enter Try.func6, Try.ntmps6
  go_wp2
  go_ret
  exact ⟨rfl, (Below.refl _ w).alloc (Nat.le_refl _) _⟩
set_option maxRecDepth 100000 in
set_option maxHeartbeats 4000000 in
theorem rerr_6 (c a0 a1 a2 m : Int) (q x : Option Addr) (n cq nx cx : Nat) (w : World) : Calls Try.prog 8 #[.agg #[.int .i64 6, .int .i64 c, .int .u64 a0, .int .i64 a1, .int .u64 a2, .int .i64 m, .slice q n cq, .slice x nx cx]] w fun e w' => e = .returned (.agg #[.int .i64 1, .int .i64 c, .int .i64 0, .int .i64 0, .int .u64 0, .int .i64 0, .int .u64 0]) ∧ Below w.heap.size w w' := by
  go_enter Try.func8, Try.ntmps8
  go_wp2
  refine bodyPost_ret (by simp [results, Try.results8, go_sem]; try rfl) rfl ?_
  exact ⟨rfl, ((Below.refl _ w).alloc (Nat.le_refl _) _).alloc (by simp) _⟩
set_option maxRecDepth 100000 in
set_option maxHeartbeats 4000000 in
theorem errs_6 (c a0 a1 a2 m : Int) (q x : Option Addr) (n cq nx cx : Nat) (A : Nat → Sa) (K : Nat → Nat → Int) (X : Nat → Value) (hX : ∀ j, (X j).oneCell' = true) (hn : n * 40 ≤ 140737488355328) (hw : ∀ j, j < n → (A j).n ≤ 17592186044416) (hx : nx ≤ 2932031007402) (w : World) (h : SsAt w q n A K) (h' : CIn w x nx 6 X) : Calls Try.prog 3 #[.agg #[.int .i64 6, .int .i64 c, .int .u64 a0, .int .i64 a1, .int .u64 a2, .int .i64 m, .slice q n cq, .slice x nx cx]] w fun e w' => e = .returned (.bool true) ∧ Below w.heap.size w w' := by
  obtain ⟨wb, hwb⟩ : ∃ wb, w.alloc (.cells #[.int .i64 6, .int .i64 c, .int .u64 a0, .int .i64 a1, .int .u64 a2, .int .i64 m, .slice q n cq, .slice x nx cx] 29) = wb := ⟨_, rfl⟩
  obtain ⟨hb0, hbox, hsz⟩ := boxed _ _ _ hwb
  have HW : Hid (w.alloc (.cells #[.int .i64 6, .int .i64 c, .int .u64 a0, .int .i64 a1, .int .u64 a2, .int .i64 m, .slice q n cq, .slice x nx cx] 29) = wb) := hwb
  have hl1 := lt_of_block hbox
  have KK : ∀ w', Below wb.heap.size wb w' → Hid (w'.cell? ⟨w.heap.size, 0, none⟩ = some (.int .i64 6) ∧ w'.cell? ⟨w.heap.size, 1, none⟩ = some (.int .i64 c) ∧ w'.cell? ⟨w.heap.size, 2, none⟩ = some (.int .u64 a0) ∧ w'.cell? ⟨w.heap.size, 3, none⟩ = some (.int .i64 a1) ∧ w'.cell? ⟨w.heap.size, 4, none⟩ = some (.int .u64 a2) ∧ w'.cell? ⟨w.heap.size, 5, none⟩ = some (.int .i64 m) ∧ w'.cell? ⟨w.heap.size, 6, none⟩ = some (.slice q n cq) ∧ w'.cell? ⟨w.heap.size, 7, none⟩ = some (.slice x nx cx)) := fun w' hb => cells8k ((hb.block _ hl1).trans hbox)
  have hbd : Below wb.heap.size wb wb.drew := (Below.refl _ wb).drew
  have HC1 := copyResult_any 6 c a0 a1 a2 m q x n cq nx cx A K X hX hn hw hx wb.drew ((h.below hb0).below hbd) ((h'.below hb0).below hbd)
  have KP0 := (KK wb.drew hbd).out
  have HE : ∀ (q1 : Option Addr) (cq1 : Nat) (x1 : Option Addr) (cx1 : Nat) W, Hid (Calls Try.prog 6 #[.agg #[.int .i64 6, .int .i64 c, .int .u64 a0, .int .i64 a1, .int .u64 a2, .int .i64 m, .slice q1 n cq1, .slice x1 nx cx1]] W fun e w' => e = .returned (.iface 22 (.int .i64 c)) ∧ Below W.heap.size W w') := fun q1 cq1 x1 cx1 W => err_6 c a0 a1 a2 m q1 x1 n cq1 nx cx1 W
  have HR : ∀ W, Hid (Calls Try.prog 8 #[.agg #[.int .i64 6, .int .i64 c, .int .u64 a0, .int .i64 a1, .int .u64 a2, .int .i64 m, .slice q n cq, .slice x nx cx]] W fun e w' => e = .returned (.agg #[.int .i64 1, .int .i64 c, .int .i64 0, .int .i64 0, .int .u64 0, .int .i64 0, .int .u64 0]) ∧ Below W.heap.size W w') := fun W => rerr_6 c a0 a1 a2 m q x n cq nx cx W
  clear hwb h h' hsz hbox hl1
  go_enter Try.func3, Try.ntmps3
  go_upto_region 1 with fail
  rw [HW.out]
  go_region_held3 (fun w' => w'.cell? ⟨w.heap.size, 0, none⟩ = some (.int .i64 6) ∧ w'.cell? ⟨w.heap.size, 1, none⟩ = some (.int .i64 c) ∧ w'.cell? ⟨w.heap.size, 2, none⟩ = some (.int .u64 a0) ∧ w'.cell? ⟨w.heap.size, 3, none⟩ = some (.int .i64 a1) ∧ w'.cell? ⟨w.heap.size, 4, none⟩ = some (.int .u64 a2) ∧ w'.cell? ⟨w.heap.size, 5, none⟩ = some (.int .i64 m) ∧ w'.cell? ⟨w.heap.size, 6, none⟩ = some (.slice q n cq) ∧ w'.cell? ⟨w.heap.size, 7, none⟩ = some (.slice x nx cx)) (first | with_reducible exact KP0 | with_reducible exact KP1 | with_reducible exact KP2 | with_reducible exact KP3 | with_reducible exact KP4 | go_keep) (first | (go_at_call 7; (with_reducible refine HC1.mono ?_); rintro e w1 ⟨q1, cq1, x1, cx1, rfl, hb1⟩; have hw1 : Below wb.heap.size wb w1 := hbd.trans (hb1.mono hbd.size); have KP1 := (KK w1 hw1).out; clear hb1) | (go_at_call 6; (with_reducible refine (HE q1 cq1 x1 cx1 w1).out.mono ?_); rintro e w2 ⟨rfl, hb2⟩; have hw2 : Below wb.heap.size wb w2 := hw1.trans (hb2.mono hw1.size); have KP2 := (KK w2 hw2).out; have HS := see_num c w2; clear hb2) | (go_at_call 5; (with_reducible refine HS.mono ?_); rintro e w3 ⟨rfl, hb3⟩; have hw3 : Below wb.heap.size wb w3 := hw2.trans (hb3.mono hw2.size); have KP3 := (KK w3 hw3).out; clear hb3) | (go_at_call 8; (with_reducible refine (HR w3).out.mono ?_); rintro e w4 ⟨rfl, hb4⟩; have hw4 : Below wb.heap.size wb w4 := hw3.trans (hb4.mono hw3.size); have KP4 := (KK w4 hw4).out; clear hb4))
  all_goals (
    go_wp2_with fail
    go_ret
    exact ⟨by simp, hb0.trans (hw4.mono hb0.size)⟩)
set_option maxRecDepth 100000 in
set_option maxHeartbeats 4000000 in
theorem err_k (k : Int) (h3 : k ≠ 3) (h4 : k ≠ 4) (h5 : k ≠ 5) (h6 : k ≠ 6) (c a0 a1 a2 m : Int) (q x : Option Addr) (n cq nx cx : Nat) (w : World) : Calls Try.prog 6 #[.agg #[.int .i64 k, .int .i64 c, .int .u64 a0, .int .i64 a1, .int .u64 a2, .int .i64 m, .slice q n cq, .slice x nx cx]] w fun e w' => e = .returned (.nilIface) ∧ Below w.heap.size w w' := by
  have e3 : (k == 3) = false := by simpa using h3
  have e4 : (k == 4) = false := by simpa using h4
  have e5 : (k == 5) = false := by simpa using h5
  have e6 : (k == 6) = false := by simpa using h6
  clear h3 h4 h5 h6
  go_enter Try.func6, Try.ntmps6
  go_wp2
  go_ret
  exact ⟨rfl, (Below.refl _ w).alloc (Nat.le_refl _) _⟩
set_option maxRecDepth 100000 in
set_option maxHeartbeats 4000000 in
theorem rerr_k (k : Int) (h3 : k ≠ 3) (h4 : k ≠ 4) (h5 : k ≠ 5) (h6 : k ≠ 6) (c a0 a1 a2 m : Int) (q x : Option Addr) (n cq nx cx : Nat) (w : World) : Calls Try.prog 8 #[.agg #[.int .i64 k, .int .i64 c, .int .u64 a0, .int .i64 a1, .int .u64 a2, .int .i64 m, .slice q n cq, .slice x nx cx]] w fun e w' => e = .returned (.agg #[.int .i64 0, .int .i64 0, .int .i64 0, .int .i64 0, .int .u64 0, .int .i64 0, .int .u64 0]) ∧ Below w.heap.size w w' := by
  have e3 : (k == 3) = false := by simpa using h3
  have e4 : (k == 4) = false := by simpa using h4
  have e5 : (k == 5) = false := by simpa using h5
  have e6 : (k == 6) = false := by simpa using h6
  clear h3 h4 h5 h6
  go_enter Try.func8, Try.ntmps8
  go_wp2
  refine bodyPost_ret (by simp [results, Try.results8, go_sem]; try rfl) rfl ?_
  exact ⟨rfl, ((Below.refl _ w).alloc (Nat.le_refl _) _).alloc (by simp) _⟩
set_option maxRecDepth 100000 in
set_option maxHeartbeats 4000000 in
theorem errs_k (k : Int) (h3 : k ≠ 3) (h4 : k ≠ 4) (h5 : k ≠ 5) (h6 : k ≠ 6) (c a0 a1 a2 m : Int) (q x : Option Addr) (n cq nx cx : Nat) (A : Nat → Sa) (K : Nat → Nat → Int) (X : Nat → Value) (hX : ∀ j, (X j).oneCell' = true) (hn : n * 40 ≤ 140737488355328) (hw : ∀ j, j < n → (A j).n ≤ 17592186044416) (hx : nx ≤ 2932031007402) (w : World) (h : SsAt w q n A K) (h' : CIn w x nx 6 X) : Calls Try.prog 3 #[.agg #[.int .i64 k, .int .i64 c, .int .u64 a0, .int .i64 a1, .int .u64 a2, .int .i64 m, .slice q n cq, .slice x nx cx]] w fun e w' => e = .returned (.bool true) ∧ Below w.heap.size w w' := by
  obtain ⟨wb, hwb⟩ : ∃ wb, w.alloc (.cells #[.int .i64 k, .int .i64 c, .int .u64 a0, .int .i64 a1, .int .u64 a2, .int .i64 m, .slice q n cq, .slice x nx cx] 29) = wb := ⟨_, rfl⟩
  obtain ⟨hb0, hbox, hsz⟩ := boxed _ _ _ hwb
  have HW : Hid (w.alloc (.cells #[.int .i64 k, .int .i64 c, .int .u64 a0, .int .i64 a1, .int .u64 a2, .int .i64 m, .slice q n cq, .slice x nx cx] 29) = wb) := hwb
  have hl1 := lt_of_block hbox
  have KK : ∀ w', Below wb.heap.size wb w' → Hid (w'.cell? ⟨w.heap.size, 0, none⟩ = some (.int .i64 k) ∧ w'.cell? ⟨w.heap.size, 1, none⟩ = some (.int .i64 c) ∧ w'.cell? ⟨w.heap.size, 2, none⟩ = some (.int .u64 a0) ∧ w'.cell? ⟨w.heap.size, 3, none⟩ = some (.int .i64 a1) ∧ w'.cell? ⟨w.heap.size, 4, none⟩ = some (.int .u64 a2) ∧ w'.cell? ⟨w.heap.size, 5, none⟩ = some (.int .i64 m) ∧ w'.cell? ⟨w.heap.size, 6, none⟩ = some (.slice q n cq) ∧ w'.cell? ⟨w.heap.size, 7, none⟩ = some (.slice x nx cx)) := fun w' hb => cells8k ((hb.block _ hl1).trans hbox)
  have hbd : Below wb.heap.size wb wb.drew := (Below.refl _ wb).drew
  have HC1 := copyResult_any k c a0 a1 a2 m q x n cq nx cx A K X hX hn hw hx wb.drew ((h.below hb0).below hbd) ((h'.below hb0).below hbd)
  have KP0 := (KK wb.drew hbd).out
  have HE : ∀ (q1 : Option Addr) (cq1 : Nat) (x1 : Option Addr) (cx1 : Nat) W, Hid (Calls Try.prog 6 #[.agg #[.int .i64 k, .int .i64 c, .int .u64 a0, .int .i64 a1, .int .u64 a2, .int .i64 m, .slice q1 n cq1, .slice x1 nx cx1]] W fun e w' => e = .returned (.nilIface) ∧ Below W.heap.size W w') := fun q1 cq1 x1 cx1 W => err_k k h3 h4 h5 h6 c a0 a1 a2 m q1 x1 n cq1 nx cx1 W
  have HR : ∀ W, Hid (Calls Try.prog 8 #[.agg #[.int .i64 k, .int .i64 c, .int .u64 a0, .int .i64 a1, .int .u64 a2, .int .i64 m, .slice q n cq, .slice x nx cx]] W fun e w' => e = .returned (.agg #[.int .i64 0, .int .i64 0, .int .i64 0, .int .i64 0, .int .u64 0, .int .i64 0, .int .u64 0]) ∧ Below W.heap.size W w') := fun W => rerr_k k h3 h4 h5 h6 c a0 a1 a2 m q x n cq nx cx W
  clear hwb h h' hsz hbox hl1
  go_enter Try.func3, Try.ntmps3
  go_upto_region 1 with fail
  rw [HW.out]
  go_region_held3 (fun w' => w'.cell? ⟨w.heap.size, 0, none⟩ = some (.int .i64 k) ∧ w'.cell? ⟨w.heap.size, 1, none⟩ = some (.int .i64 c) ∧ w'.cell? ⟨w.heap.size, 2, none⟩ = some (.int .u64 a0) ∧ w'.cell? ⟨w.heap.size, 3, none⟩ = some (.int .i64 a1) ∧ w'.cell? ⟨w.heap.size, 4, none⟩ = some (.int .u64 a2) ∧ w'.cell? ⟨w.heap.size, 5, none⟩ = some (.int .i64 m) ∧ w'.cell? ⟨w.heap.size, 6, none⟩ = some (.slice q n cq) ∧ w'.cell? ⟨w.heap.size, 7, none⟩ = some (.slice x nx cx)) (first | with_reducible exact KP0 | with_reducible exact KP1 | with_reducible exact KP2 | with_reducible exact KP3 | with_reducible exact KP4 | go_keep) (first | (go_at_call 7; (with_reducible refine HC1.mono ?_); rintro e w1 ⟨q1, cq1, x1, cx1, rfl, hb1⟩; have hw1 : Below wb.heap.size wb w1 := hbd.trans (hb1.mono hbd.size); have KP1 := (KK w1 hw1).out; clear hb1) | (go_at_call 6; (with_reducible refine (HE q1 cq1 x1 cx1 w1).out.mono ?_); rintro e w2 ⟨rfl, hb2⟩; have hw2 : Below wb.heap.size wb w2 := hw1.trans (hb2.mono hw1.size); have KP2 := (KK w2 hw2).out; have HS := see_nil w2; clear hb2) | (go_at_call 5; (with_reducible refine HS.mono ?_); rintro e w3 ⟨rfl, hb3⟩; have hw3 : Below wb.heap.size wb w3 := hw2.trans (hb3.mono hw2.size); have KP3 := (KK w3 hw3).out; clear hb3) | (go_at_call 8; (with_reducible refine (HR w3).out.mono ?_); rintro e w4 ⟨rfl, hb4⟩; have hw4 : Below wb.heap.size wb w4 := hw3.trans (hb4.mono hw3.size); have KP4 := (KK w4 hw4).out; clear hb4))
  all_goals (
    go_wp2_with fail
    go_ret
    exact ⟨by simp, hb0.trans (hw4.mono hb0.size)⟩)
theorem errs_law (k : Int) (c a0 a1 a2 m : Int) (q x : Option Addr) (n cq nx cx : Nat) (A : Nat → Sa) (K : Nat → Nat → Int) (X : Nat → Value) (hX : ∀ j, (X j).oneCell' = true) (hn : n * 40 ≤ 140737488355328) (hw : ∀ j, j < n → (A j).n ≤ 17592186044416) (hx : nx ≤ 2932031007402) (w : World) (h : SsAt w q n A K) (h' : CIn w x nx 6 X) : Calls Try.prog 3 #[.agg #[.int .i64 k, .int .i64 c, .int .u64 a0, .int .i64 a1, .int .u64 a2, .int .i64 m, .slice q n cq, .slice x nx cx]] w fun e w' => e = .returned (.bool true) ∧ Below w.heap.size w w' := by
  by_cases h3 : k = 3
  · subst h3
    exact errs_3 c a0 a1 a2 m q x n cq nx cx A K X hX hn hw hx w h h'
  by_cases h4 : k = 4
  · subst h4
    exact errs_4 c a0 a1 a2 m q x n cq nx cx A K X hX hn hw hx w h h'
  by_cases h5 : k = 5
  · subst h5
    exact errs_5 c a0 a1 a2 m q x n cq nx cx A K X hX hn hw hx w h h'
  by_cases h6 : k = 6
  · subst h6
    exact errs_6 c a0 a1 a2 m q x n cq nx cx A K X hX hn hw hx w h h'
  exact errs_k k h3 h4 h5 h6 c a0 a1 a2 m q x n cq nx cx A K X hX hn hw hx w h h'
end Go.Proofs.Ytpicobmilcbmlaa
