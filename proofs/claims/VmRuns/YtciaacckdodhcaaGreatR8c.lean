import Derived.Test.YtciaacckdodhcaaGreatR8
namespace Go.Proofs.YtciaacckdodhcaaGreat
open Go.ChangeShapes Go.WideShapes Go.ChangeAt Go.RowKit
set_option linter.unusedVariables false
set_option linter.unusedSimpArgs false

set_option maxRecDepth 100000 in
set_option maxHeartbeats 2000000 in
theorem rstep_val (w0 w : World) (base mb nw nl : Nat) (C : Nat → Value) (M : Mc) (sv lv ov : Value) (cl : Cl) (i n cb co cc : Nat) (hC : CR C cl (.slice (some ⟨cb, co, none⟩) n cc)) (h : RWs w0 w base mb nw nl C M sv lv ov (i : Int)) (hi : i < n) (hn : n ≤ 4096) (hcb : cb < base) (o a b : Int) (x0 : w.cell? ⟨cb, co + i * 3, none⟩ = some (.int .i64 o)) (x1 : w.cell? ⟨cb, co + i * 3 + 1, none⟩ = some (.int .i64 a)) (x2 : w.cell? ⟨cb, co + i * 3 + 2, none⟩ = some (.int .i64 b)) (ho : 0 ≤ o ∧ o < 42) (ht : twoI o = false) (n23 : (o == 23) = false) (n24 : (o == 24) = false) (n25 : (o == 25) = false) (n34 : (o == 34) = false) (n5 : (o == 5) = false) (n6 : (o == 6) = false) (n38 : (o == 38) = false) (n37 : (o == 37) = false) (n41 : (o == 41) = false) (n39 : (o == 39) = false) (n35 : (o == 35) = false) (n36 : (o == 36) = false) (n40 : (o == 40) = false) (X : World → Prop) (HX : ∀ W sv2 lv2 ov2, RWs w0 W base mb nw nl C M sv2 lv2 ov2 ((i : Int) + 1) → Calls Tryz.prog 71 #[.pointer (some ⟨mb, 0, none⟩), .agg #[.int .i64 o, .int .i64 a, .int .i64 b]] W fun e w' => e = .returned (.tuple #[]) ∧ X w') :
    Calls Tryz.prog 49 #[.pointer (some ⟨mb, 0, none⟩)] w fun e w' => e = .returned (.int .i64 0) ∧ X w' := by
  have hmb := h.box.lt
  have c2 := h.fix (k := 2) (by decide) hC.code
  have c22 : w.cell? ⟨mb, 22, none⟩ = some (.int .i64 (i : Int)) := h.box.cell 22 (by decide)
  have j0 : (0 : Int) ≤ (i : Int) := by omega
  have j1 : (i : Int) < (n : Int) := by omega
  have hwi : wrap64 ((i : Int) + 1) = (i : Int) + 1 := by unfold wrap64; omega
  have hwi2 : IntKind.i64.wrap ((i : Int) + 1) = (i : Int) + 1 := by rw [IntKind.wrap_i64]; omega
  have hms : w.heap.size ≠ mb := by omega
  have HT : ∀ W, Calls Tryz.prog 63 #[.int .i64 o] W fun e w' => e = .returned (.bool false) ∧ w' = W := fun W => by rw [← ht]; exact two_any o ho W
  go_enter Tryz.func49, Tryz.ntmps49
  go_wp2
  go_region_held3 (fun W => W.cell? ⟨mb, 2, none⟩ = some (.slice (some ⟨cb, co, none⟩) n cc) ∧ W.cell? ⟨mb, 22, none⟩ = some (.int .i64 (i : Int)) ∧ W.cell? ⟨cb, co + i * 3, none⟩ = some (.int .i64 o) ∧ W.cell? ⟨cb, co + i * 3 + 1, none⟩ = some (.int .i64 a) ∧ W.cell? ⟨cb, co + i * 3 + 2, none⟩ = some (.int .i64 b)) (go_keep) (fail)
  generalize hwk : World.drew (World.alloc w _) = wk
  have hbk : Below w.heap.size w wk := by rw [← hwk]; exact below_drewQ w _
  have hkx : wk.heap[w.heap.size]? = some (.cells #[.int .i64 o, .int .i64 a, .int .i64 b] 70 (0, 0)) := by rw [← hwk]; exact World.alloc_heap_new w _
  have mk := h.later hbk
  have m1 := mk.setAt ((i : Int) + 1)
  have hux : (wk.setCell ⟨mb, 22, none⟩ (.int .i64 ((i : Int) + 1))).heap[w.heap.size]? = some (.cells #[.int .i64 o, .int .i64 a, .int .i64 b] 70 (0, 0)) := (Below.heap_setCell _ ⟨mb, 22, none⟩ _ w.heap.size (by show w.heap.size ≠ mb; omega)).trans hkx
  obtain ⟨b0, b1, b2⟩ := cells3' hux
  have q22 : wk.cell? ⟨mb, 22, none⟩ = some (.int .i64 (i : Int)) := mk.box.cell 22 (by decide)
  have f22 := mk.box.frozen 22
  have hsk : w.heap.size < wk.heap.size := (Array.getElem?_eq_some_iff.1 hkx).1
  obtain ⟨wu, hwu⟩ : ∃ wu, (wk.setCell ⟨mb, 22, none⟩ (.int .i64 ((i : Int) + 1))) = wu := ⟨_, rfl⟩
  have HWU : Hid ((wk.setCell ⟨mb, 22, none⟩ (.int .i64 ((i : Int) + 1))) = wu) := hwu
  have b0' := b0
  rw [hwu] at m1 hux b0 b1 b2
  clear hwk hwu h c2 c22 x0 x1 x2 hkx
  go_wp2_with (first | (go_at_call 63; rw [HWU.out]; (with_reducible refine (HT _).mono ?_); rintro e w1 ⟨rfl, rfl⟩) | (go_at_call 71; (with_reducible refine (HX _ _ _ _ m1).mono ?_); rintro e w2 ⟨rfl, hX⟩))
  try rw [Exit.noGoto_ret]
  go_ret
  exact ⟨rfl, hX⟩
set_option maxRecDepth 100000 in
set_option maxHeartbeats 2000000 in
theorem rstep_40 (w0 w : World) (base mb nw nl : Nat) (C : Nat → Value) (M : Mc) (sv lv ov : Value) (cl : Cl) (i n cb co cc : Nat) (hC : CR C cl (.slice (some ⟨cb, co, none⟩) n cc)) (h : RWs w0 w base mb nw nl C M sv lv ov (i : Int)) (hi : i < n) (hn : n ≤ 4096) (hcb : cb < base) (a b : Int) (x0 : w.cell? ⟨cb, co + i * 3, none⟩ = some (.int .i64 40)) (x1 : w.cell? ⟨cb, co + i * 3 + 1, none⟩ = some (.int .i64 a)) (x2 : w.cell? ⟨cb, co + i * 3 + 2, none⟩ = some (.int .i64 b))  :
    Calls Tryz.prog 49 #[.pointer (some ⟨mb, 0, none⟩)] w fun e w' => e = .returned (.int .i64 209) ∧ Below base w0 w' := by
  have hmb := h.box.lt
  have c2 := h.fix (k := 2) (by decide) hC.code
  have c22 : w.cell? ⟨mb, 22, none⟩ = some (.int .i64 (i : Int)) := h.box.cell 22 (by decide)
  have j0 : (0 : Int) ≤ (i : Int) := by omega
  have j1 : (i : Int) < (n : Int) := by omega
  have hwi : wrap64 ((i : Int) + 1) = (i : Int) + 1 := by unfold wrap64; omega
  have hwi2 : IntKind.i64.wrap ((i : Int) + 1) = (i : Int) + 1 := by rw [IntKind.wrap_i64]; omega
  have hms : w.heap.size ≠ mb := by omega
  have HT : ∀ W, Calls Tryz.prog 63 #[.int .i64 40] W fun e w' => e = .returned (.bool false) ∧ w' = W := two_any 40 (by omega)
  go_enter Tryz.func49, Tryz.ntmps49
  go_wp2
  go_region_held3 (fun W => W.cell? ⟨mb, 2, none⟩ = some (.slice (some ⟨cb, co, none⟩) n cc) ∧ W.cell? ⟨mb, 22, none⟩ = some (.int .i64 (i : Int)) ∧ W.cell? ⟨cb, co + i * 3, none⟩ = some (.int .i64 40) ∧ W.cell? ⟨cb, co + i * 3 + 1, none⟩ = some (.int .i64 a) ∧ W.cell? ⟨cb, co + i * 3 + 2, none⟩ = some (.int .i64 b)) (go_keep) (fail)
  generalize hwk : World.drew (World.alloc w _) = wk
  have hbk : Below w.heap.size w wk := by rw [← hwk]; exact below_drewQ w _
  have hkx : wk.heap[w.heap.size]? = some (.cells #[.int .i64 40, .int .i64 a, .int .i64 b] 70 (0, 0)) := by rw [← hwk]; exact World.alloc_heap_new w _
  have mk := h.later hbk
  have m1 := mk.setAt ((i : Int) + 1)
  have hux : (wk.setCell ⟨mb, 22, none⟩ (.int .i64 ((i : Int) + 1))).heap[w.heap.size]? = some (.cells #[.int .i64 40, .int .i64 a, .int .i64 b] 70 (0, 0)) := (Below.heap_setCell _ ⟨mb, 22, none⟩ _ w.heap.size (by show w.heap.size ≠ mb; omega)).trans hkx
  obtain ⟨b0, b1, b2⟩ := cells3' hux
  have q22 : wk.cell? ⟨mb, 22, none⟩ = some (.int .i64 (i : Int)) := mk.box.cell 22 (by decide)
  have f22 := mk.box.frozen 22
  have hsk : w.heap.size < wk.heap.size := (Array.getElem?_eq_some_iff.1 hkx).1
  obtain ⟨wu, hwu⟩ : ∃ wu, (wk.setCell ⟨mb, 22, none⟩ (.int .i64 ((i : Int) + 1))) = wu := ⟨_, rfl⟩
  have HWU : Hid ((wk.setCell ⟨mb, 22, none⟩ (.int .i64 ((i : Int) + 1))) = wu) := hwu
  have b0' := b0
  rw [hwu] at m1 hux b0 b1 b2
  clear hwk hwu h c2 c22 x0 x1 x2 hkx
  go_wp2_with ((go_at_call 63; rw [HWU.out]; (with_reducible refine (HT _).mono ?_); rintro e w1 ⟨rfl, rfl⟩))
  try rw [Exit.noGoto_ret]
  go_ret
  exact ⟨rfl, m1.bel⟩
set_option maxRecDepth 100000 in
set_option maxHeartbeats 2000000 in
theorem rstep_35 (w0 w : World) (base mb nw nl : Nat) (C : Nat → Value) (M : Mc) (sv lv ov : Value) (cl : Cl) (i n cb co cc : Nat) (hC : CR C cl (.slice (some ⟨cb, co, none⟩) n cc)) (h : RWs w0 w base mb nw nl C M sv lv ov (i : Int)) (hi : i < n) (hn : n ≤ 4096) (hcb : cb < base) (a b : Int) (x0 : w.cell? ⟨cb, co + i * 3, none⟩ = some (.int .i64 35)) (x1 : w.cell? ⟨cb, co + i * 3 + 1, none⟩ = some (.int .i64 a)) (x2 : w.cell? ⟨cb, co + i * 3 + 2, none⟩ = some (.int .i64 b))  :
    Calls Tryz.prog 49 #[.pointer (some ⟨mb, 0, none⟩)] w fun e w' => e = .returned (.int .i64 0) ∧ RX w0 w' base mb nw nl C M a := by
  have hmb := h.box.lt
  have c2 := h.fix (k := 2) (by decide) hC.code
  have c22 : w.cell? ⟨mb, 22, none⟩ = some (.int .i64 (i : Int)) := h.box.cell 22 (by decide)
  have j0 : (0 : Int) ≤ (i : Int) := by omega
  have j1 : (i : Int) < (n : Int) := by omega
  have hwi : wrap64 ((i : Int) + 1) = (i : Int) + 1 := by unfold wrap64; omega
  have hwi2 : IntKind.i64.wrap ((i : Int) + 1) = (i : Int) + 1 := by rw [IntKind.wrap_i64]; omega
  have hms : w.heap.size ≠ mb := by omega
  have HT : ∀ W, Calls Tryz.prog 63 #[.int .i64 35] W fun e w' => e = .returned (.bool false) ∧ w' = W := two_any 35 (by omega)
  go_enter Tryz.func49, Tryz.ntmps49
  go_wp2
  go_region_held3 (fun W => W.cell? ⟨mb, 2, none⟩ = some (.slice (some ⟨cb, co, none⟩) n cc) ∧ W.cell? ⟨mb, 22, none⟩ = some (.int .i64 (i : Int)) ∧ W.cell? ⟨cb, co + i * 3, none⟩ = some (.int .i64 35) ∧ W.cell? ⟨cb, co + i * 3 + 1, none⟩ = some (.int .i64 a) ∧ W.cell? ⟨cb, co + i * 3 + 2, none⟩ = some (.int .i64 b)) (go_keep) (fail)
  generalize hwk : World.drew (World.alloc w _) = wk
  have hbk : Below w.heap.size w wk := by rw [← hwk]; exact below_drewQ w _
  have hkx : wk.heap[w.heap.size]? = some (.cells #[.int .i64 35, .int .i64 a, .int .i64 b] 70 (0, 0)) := by rw [← hwk]; exact World.alloc_heap_new w _
  have mk := h.later hbk
  have m1 := mk.setAt ((i : Int) + 1)
  have hux : (wk.setCell ⟨mb, 22, none⟩ (.int .i64 ((i : Int) + 1))).heap[w.heap.size]? = some (.cells #[.int .i64 35, .int .i64 a, .int .i64 b] 70 (0, 0)) := (Below.heap_setCell _ ⟨mb, 22, none⟩ _ w.heap.size (by show w.heap.size ≠ mb; omega)).trans hkx
  obtain ⟨b0, b1, b2⟩ := cells3' hux
  have q22 : wk.cell? ⟨mb, 22, none⟩ = some (.int .i64 (i : Int)) := mk.box.cell 22 (by decide)
  have f22 := mk.box.frozen 22
  have hsk : w.heap.size < wk.heap.size := (Array.getElem?_eq_some_iff.1 hkx).1
  obtain ⟨wu, hwu⟩ : ∃ wu, (wk.setCell ⟨mb, 22, none⟩ (.int .i64 ((i : Int) + 1))) = wu := ⟨_, rfl⟩
  have HWU : Hid ((wk.setCell ⟨mb, 22, none⟩ (.int .i64 ((i : Int) + 1))) = wu) := hwu
  have b0' := b0
  rw [hwu] at m1 hux b0 b1 b2
  clear hwk hwu h c2 c22 x0 x1 x2 hkx
  have g22 := m1.box.frozen 22
  have p22 := m1.box.cell 22 (by decide)
  go_wp2_with ((go_at_call 63; rw [HWU.out]; (with_reducible refine (HT _).mono ?_); rintro e w1 ⟨rfl, rfl⟩))
  try rw [Exit.noGoto_ret]
  go_ret
  exact ⟨rfl, _, _, _, m1.setAt a⟩
set_option maxRecDepth 100000 in
set_option maxHeartbeats 2000000 in
theorem rstep_36z (w0 w : World) (base mb nw nl : Nat) (C : Nat → Value) (M : Mc) (sv lv ov : Value) (cl : Cl) (i n cb co cc : Nat) (hC : CR C cl (.slice (some ⟨cb, co, none⟩) n cc)) (h : RWs w0 w base mb nw nl C M sv lv ov (i : Int)) (hi : i < n) (hn : n ≤ 4096) (hcb : cb < base) (a b : Int) (x0 : w.cell? ⟨cb, co + i * 3, none⟩ = some (.int .i64 36)) (x1 : w.cell? ⟨cb, co + i * 3 + 1, none⟩ = some (.int .i64 a)) (x2 : w.cell? ⟨cb, co + i * 3 + 2, none⟩ = some (.int .i64 b)) (h0 : Nat) (hh : M.hi = h0 + 1) (h64 : M.hi ≤ 64) (hT : topM M = 0) :
    Calls Tryz.prog 49 #[.pointer (some ⟨mb, 0, none⟩)] w fun e w' => e = .returned (.int .i64 0) ∧ RX w0 w' base mb nw nl C (popM M) a := by
  have hmb := h.box.lt
  have c2 := h.fix (k := 2) (by decide) hC.code
  have c22 : w.cell? ⟨mb, 22, none⟩ = some (.int .i64 (i : Int)) := h.box.cell 22 (by decide)
  have j0 : (0 : Int) ≤ (i : Int) := by omega
  have j1 : (i : Int) < (n : Int) := by omega
  have hwi : wrap64 ((i : Int) + 1) = (i : Int) + 1 := by unfold wrap64; omega
  have hwi2 : IntKind.i64.wrap ((i : Int) + 1) = (i : Int) + 1 := by rw [IntKind.wrap_i64]; omega
  have hms : w.heap.size ≠ mb := by omega
  have HT : ∀ W, Calls Tryz.prog 63 #[.int .i64 36] W fun e w' => e = .returned (.bool false) ∧ w' = W := two_any 36 (by omega)
  go_enter Tryz.func49, Tryz.ntmps49
  go_wp2
  go_region_held3 (fun W => W.cell? ⟨mb, 2, none⟩ = some (.slice (some ⟨cb, co, none⟩) n cc) ∧ W.cell? ⟨mb, 22, none⟩ = some (.int .i64 (i : Int)) ∧ W.cell? ⟨cb, co + i * 3, none⟩ = some (.int .i64 36) ∧ W.cell? ⟨cb, co + i * 3 + 1, none⟩ = some (.int .i64 a) ∧ W.cell? ⟨cb, co + i * 3 + 2, none⟩ = some (.int .i64 b)) (go_keep) (fail)
  generalize hwk : World.drew (World.alloc w _) = wk
  have hbk : Below w.heap.size w wk := by rw [← hwk]; exact below_drewQ w _
  have hkx : wk.heap[w.heap.size]? = some (.cells #[.int .i64 36, .int .i64 a, .int .i64 b] 70 (0, 0)) := by rw [← hwk]; exact World.alloc_heap_new w _
  have mk := h.later hbk
  have m1 := mk.setAt ((i : Int) + 1)
  have hux : (wk.setCell ⟨mb, 22, none⟩ (.int .i64 ((i : Int) + 1))).heap[w.heap.size]? = some (.cells #[.int .i64 36, .int .i64 a, .int .i64 b] 70 (0, 0)) := (Below.heap_setCell _ ⟨mb, 22, none⟩ _ w.heap.size (by show w.heap.size ≠ mb; omega)).trans hkx
  obtain ⟨b0, b1, b2⟩ := cells3' hux
  have q22 : wk.cell? ⟨mb, 22, none⟩ = some (.int .i64 (i : Int)) := mk.box.cell 22 (by decide)
  have f22 := mk.box.frozen 22
  have hsk : w.heap.size < wk.heap.size := (Array.getElem?_eq_some_iff.1 hkx).1
  obtain ⟨wu, hwu⟩ : ∃ wu, (wk.setCell ⟨mb, 22, none⟩ (.int .i64 ((i : Int) + 1))) = wu := ⟨_, rfl⟩
  have HWU : Hid ((wk.setCell ⟨mb, 22, none⟩ (.int .i64 ((i : Int) + 1))) = wu) := hwu
  have b0' := b0
  rw [hwu] at m1 hux b0 b1 b2
  clear hwk hwu h c2 c22 x0 x1 x2 hkx
  have HG := rtake w0 _ base mb nw nl C M sv lv ov _ m1 h0 hh h64
  rw [hT] at HG
  go_wp2_with (first | (go_at_call 63; rw [HWU.out]; (with_reducible refine (HT _).mono ?_); rintro e w1 ⟨rfl, rfl⟩) | (go_at_call 64; (with_reducible refine HG.mono ?_); rintro e w2 ⟨rfl, sv2, m2, hs2, o2⟩; have g22 := m2.box.frozen 22; have p22 : w2.cell? ⟨mb, 22, none⟩ = some (.int .i64 ((i : Int) + 1)) := m2.box.cell 22 (by decide); obtain ⟨y0, y1, y2⟩ := cells3' ((o2.far w.heap.size hms).trans hux)))
  try rw [Exit.noGoto_ret]
  go_ret
  exact ⟨rfl, _, _, _, m2.setAt a⟩
set_option maxRecDepth 100000 in
set_option maxHeartbeats 2000000 in
theorem rstep_36n (w0 w : World) (base mb nw nl : Nat) (C : Nat → Value) (M : Mc) (sv lv ov : Value) (cl : Cl) (i n cb co cc : Nat) (hC : CR C cl (.slice (some ⟨cb, co, none⟩) n cc)) (h : RWs w0 w base mb nw nl C M sv lv ov (i : Int)) (hi : i < n) (hn : n ≤ 4096) (hcb : cb < base) (a b : Int) (x0 : w.cell? ⟨cb, co + i * 3, none⟩ = some (.int .i64 36)) (x1 : w.cell? ⟨cb, co + i * 3 + 1, none⟩ = some (.int .i64 a)) (x2 : w.cell? ⟨cb, co + i * 3 + 2, none⟩ = some (.int .i64 b)) (h0 : Nat) (hh : M.hi = h0 + 1) (h64 : M.hi ≤ 64) (hT : topM M ≠ 0) :
    Calls Tryz.prog 49 #[.pointer (some ⟨mb, 0, none⟩)] w fun e w' => e = .returned (.int .i64 0) ∧ RX w0 w' base mb nw nl C (popM M) ((i : Int) + 1) := by
  have hmb := h.box.lt
  have c2 := h.fix (k := 2) (by decide) hC.code
  have c22 : w.cell? ⟨mb, 22, none⟩ = some (.int .i64 (i : Int)) := h.box.cell 22 (by decide)
  have j0 : (0 : Int) ≤ (i : Int) := by omega
  have j1 : (i : Int) < (n : Int) := by omega
  have hwi : wrap64 ((i : Int) + 1) = (i : Int) + 1 := by unfold wrap64; omega
  have hwi2 : IntKind.i64.wrap ((i : Int) + 1) = (i : Int) + 1 := by rw [IntKind.wrap_i64]; omega
  have hms : w.heap.size ≠ mb := by omega
  have HT : ∀ W, Calls Tryz.prog 63 #[.int .i64 36] W fun e w' => e = .returned (.bool false) ∧ w' = W := two_any 36 (by omega)
  go_enter Tryz.func49, Tryz.ntmps49
  go_wp2
  go_region_held3 (fun W => W.cell? ⟨mb, 2, none⟩ = some (.slice (some ⟨cb, co, none⟩) n cc) ∧ W.cell? ⟨mb, 22, none⟩ = some (.int .i64 (i : Int)) ∧ W.cell? ⟨cb, co + i * 3, none⟩ = some (.int .i64 36) ∧ W.cell? ⟨cb, co + i * 3 + 1, none⟩ = some (.int .i64 a) ∧ W.cell? ⟨cb, co + i * 3 + 2, none⟩ = some (.int .i64 b)) (go_keep) (fail)
  generalize hwk : World.drew (World.alloc w _) = wk
  have hbk : Below w.heap.size w wk := by rw [← hwk]; exact below_drewQ w _
  have hkx : wk.heap[w.heap.size]? = some (.cells #[.int .i64 36, .int .i64 a, .int .i64 b] 70 (0, 0)) := by rw [← hwk]; exact World.alloc_heap_new w _
  have mk := h.later hbk
  have m1 := mk.setAt ((i : Int) + 1)
  have hux : (wk.setCell ⟨mb, 22, none⟩ (.int .i64 ((i : Int) + 1))).heap[w.heap.size]? = some (.cells #[.int .i64 36, .int .i64 a, .int .i64 b] 70 (0, 0)) := (Below.heap_setCell _ ⟨mb, 22, none⟩ _ w.heap.size (by show w.heap.size ≠ mb; omega)).trans hkx
  obtain ⟨b0, b1, b2⟩ := cells3' hux
  have q22 : wk.cell? ⟨mb, 22, none⟩ = some (.int .i64 (i : Int)) := mk.box.cell 22 (by decide)
  have f22 := mk.box.frozen 22
  have hsk : w.heap.size < wk.heap.size := (Array.getElem?_eq_some_iff.1 hkx).1
  obtain ⟨wu, hwu⟩ : ∃ wu, (wk.setCell ⟨mb, 22, none⟩ (.int .i64 ((i : Int) + 1))) = wu := ⟨_, rfl⟩
  have HWU : Hid ((wk.setCell ⟨mb, 22, none⟩ (.int .i64 ((i : Int) + 1))) = wu) := hwu
  have b0' := b0
  rw [hwu] at m1 hux b0 b1 b2
  clear hwk hwu h c2 c22 x0 x1 x2 hkx
  have HG := rtake w0 _ base mb nw nl C M sv lv ov _ m1 h0 hh h64
  have q : (topM M == 0) = false := by simpa using hT
  generalize topM M = T at *
  go_wp2_with (first | (go_at_call 63; rw [HWU.out]; (with_reducible refine (HT _).mono ?_); rintro e w1 ⟨rfl, rfl⟩) | (go_at_call 64; (with_reducible refine HG.mono ?_); rintro e w2 ⟨rfl, sv2, m2, hs2, o2⟩; have g22 := m2.box.frozen 22; have p22 : w2.cell? ⟨mb, 22, none⟩ = some (.int .i64 ((i : Int) + 1)) := m2.box.cell 22 (by decide); obtain ⟨y0, y1, y2⟩ := cells3' ((o2.far w.heap.size hms).trans hux)))
  try rw [Exit.noGoto_ret]
  go_ret
  exact ⟨rfl, _, _, _, m2⟩
set_option maxRecDepth 100000 in
set_option maxHeartbeats 2000000 in
theorem rstep_pair (w0 w : World) (base mb nw nl : Nat) (C : Nat → Value) (M : Mc) (sv lv ov : Value) (cl : Cl) (i n cb co cc : Nat) (hC : CR C cl (.slice (some ⟨cb, co, none⟩) n cc)) (h : RWs w0 w base mb nw nl C M sv lv ov (i : Int)) (hi : i < n) (hn : n ≤ 4096) (hcb : cb < base) (o a b : Int) (x0 : w.cell? ⟨cb, co + i * 3, none⟩ = some (.int .i64 o)) (x1 : w.cell? ⟨cb, co + i * 3 + 1, none⟩ = some (.int .i64 a)) (x2 : w.cell? ⟨cb, co + i * 3 + 2, none⟩ = some (.int .i64 b)) (ho : 0 ≤ o ∧ o < 42) (hp : isPair o) (ht : twoI o = true) (h0 : Nat) (hh : M.hi = h0 + 2) (h64 : M.hi ≤ 64) (i1 : In64 (topM M)) (i2 : In64 (topM (popM M))) :
    Calls Tryz.prog 49 #[.pointer (some ⟨mb, 0, none⟩)] w fun e w' => e = .returned (.int .i64 (pairV o (topM (popM M)) (topM M)).2) ∧ RX w0 w' base mb nw nl C (pushM (popM (popM M)) (pairV o (topM (popM M)) (topM M)).1) ((i : Int) + 1) := by
  have hmb := h.box.lt
  have c2 := h.fix (k := 2) (by decide) hC.code
  have c22 : w.cell? ⟨mb, 22, none⟩ = some (.int .i64 (i : Int)) := h.box.cell 22 (by decide)
  have j0 : (0 : Int) ≤ (i : Int) := by omega
  have j1 : (i : Int) < (n : Int) := by omega
  have hwi : wrap64 ((i : Int) + 1) = (i : Int) + 1 := by unfold wrap64; omega
  have hwi2 : IntKind.i64.wrap ((i : Int) + 1) = (i : Int) + 1 := by rw [IntKind.wrap_i64]; omega
  have hms : w.heap.size ≠ mb := by omega
  have HT : ∀ W, Calls Tryz.prog 63 #[.int .i64 o] W fun e w' => e = .returned (.bool true) ∧ w' = W := fun W => by rw [← ht]; exact two_any o ho W
  have hh1 : (popM M).hi = h0 + 1 := by show M.hi - 1 = h0 + 1; omega
  have hh2 : (popM M).hi ≤ 64 := by show M.hi - 1 ≤ 64; omega
  have hh3 : (popM (popM M)).hi < 64 := by show M.hi - 1 - 1 < 64; omega
  have HJ := fun W => rjoined o _ _ hp i2 i1 W
  generalize hT1 : topM M = T1 at *
  generalize hT2 : topM (popM M) = T2 at *
  generalize pairV o T2 T1 = V at *
  go_enter Tryz.func49, Tryz.ntmps49
  go_wp2
  go_region_held3 (fun W => W.cell? ⟨mb, 2, none⟩ = some (.slice (some ⟨cb, co, none⟩) n cc) ∧ W.cell? ⟨mb, 22, none⟩ = some (.int .i64 (i : Int)) ∧ W.cell? ⟨cb, co + i * 3, none⟩ = some (.int .i64 o) ∧ W.cell? ⟨cb, co + i * 3 + 1, none⟩ = some (.int .i64 a) ∧ W.cell? ⟨cb, co + i * 3 + 2, none⟩ = some (.int .i64 b)) (go_keep) (fail)
  generalize hwk : World.drew (World.alloc w _) = wk
  have hbk : Below w.heap.size w wk := by rw [← hwk]; exact below_drewQ w _
  have hkx : wk.heap[w.heap.size]? = some (.cells #[.int .i64 o, .int .i64 a, .int .i64 b] 70 (0, 0)) := by rw [← hwk]; exact World.alloc_heap_new w _
  have mk := h.later hbk
  have m1 := mk.setAt ((i : Int) + 1)
  have hux : (wk.setCell ⟨mb, 22, none⟩ (.int .i64 ((i : Int) + 1))).heap[w.heap.size]? = some (.cells #[.int .i64 o, .int .i64 a, .int .i64 b] 70 (0, 0)) := (Below.heap_setCell _ ⟨mb, 22, none⟩ _ w.heap.size (by show w.heap.size ≠ mb; omega)).trans hkx
  obtain ⟨b0, b1, b2⟩ := cells3' hux
  have q22 : wk.cell? ⟨mb, 22, none⟩ = some (.int .i64 (i : Int)) := mk.box.cell 22 (by decide)
  have f22 := mk.box.frozen 22
  have hsk : w.heap.size < wk.heap.size := (Array.getElem?_eq_some_iff.1 hkx).1
  obtain ⟨wu, hwu⟩ : ∃ wu, (wk.setCell ⟨mb, 22, none⟩ (.int .i64 ((i : Int) + 1))) = wu := ⟨_, rfl⟩
  have HWU : Hid ((wk.setCell ⟨mb, 22, none⟩ (.int .i64 ((i : Int) + 1))) = wu) := hwu
  have b0' := b0
  rw [hwu] at m1 hux b0 b1 b2
  clear hwk hwu h c2 c22 x0 x1 x2 hkx
  have HG := rtake w0 _ base mb nw nl C M sv lv ov _ m1 (h0 + 1) (by omega) h64
  rw [hT1] at HG
  go_wp2_with (first | (go_at_call 63; rw [HWU.out]; (with_reducible refine (HT _).mono ?_); rintro e w1 ⟨rfl, rfl⟩) | (go_at_call 64; (first | ((with_reducible refine HG.mono ?_); rintro e w2 ⟨rfl, sv2, m2, hs2, o2⟩; clear HG; have HG2 := rtake w0 w2 base mb nw nl C (popM M) sv2 lv ov _ m2 h0 hh1 hh2; rw [hT2] at HG2) | ((with_reducible refine HG2.mono ?_); rintro e w3 ⟨rfl, sv3, m3, hs3, o3⟩; clear HG2; obtain ⟨y0, y1, y2⟩ := cells3' ((o3.far w.heap.size hms).trans ((o2.far w.heap.size hms).trans hux))))) | (go_at_call 65; (with_reducible refine (HJ _).mono ?_); rintro e w4 ⟨rfl, rfl⟩; have HV := rgive w0 w4 base mb nw nl C (popM (popM M)) sv3 lv ov _ m3 V.1 hh3) | (go_at_call 66; (with_reducible refine HV.mono ?_); rintro e w5 ⟨rfl, sv5, m5, f5⟩))
  try rw [Exit.noGoto_ret]
  go_ret
  exact ⟨rfl, _, _, _, m5⟩
end Go.Proofs.YtciaacckdodhcaaGreat
