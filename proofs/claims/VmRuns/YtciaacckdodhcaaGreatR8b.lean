import Derived.Test.YtciaacckdodhcaaGreatR8
namespace Go.Proofs.YtciaacckdodhcaaGreat
open Go.ChangeShapes Go.WideShapes Go.ChangeAt Go.RowKit
set_option linter.unusedVariables false
set_option linter.unusedSimpArgs false

set_option maxRecDepth 100000 in
set_option maxHeartbeats 2000000 in
theorem rstep_5 (w0 w : World) (base mb nw nl : Nat) (C : Nat → Value) (M : Mc) (sv lv ov : Value) (cl : Cl) (i n cb co cc : Nat) (hC : CR C cl (.slice (some ⟨cb, co, none⟩) n cc)) (h : RWs w0 w base mb nw nl C M sv lv ov (i : Int)) (hi : i < n) (hn : n ≤ 4096) (hcb : cb < base) (a b : Int) (x0 : w.cell? ⟨cb, co + i * 3, none⟩ = some (.int .i64 5)) (x1 : w.cell? ⟨cb, co + i * 3 + 1, none⟩ = some (.int .i64 a)) (x2 : w.cell? ⟨cb, co + i * 3 + 2, none⟩ = some (.int .i64 b))  (X : World → Prop) (f : Int) (HX : ∀ W sv2 lv2 ov2, RWs w0 W base mb nw nl C M sv2 lv2 ov2 ((i : Int) + 1) → Calls Tryz.prog 68 #[.pointer (some ⟨mb, 0, none⟩), .agg #[.int .i64 5, .int .i64 a, .int .i64 b]] W fun e w' => e = .returned (.int .i64 f) ∧ X w') :
    Calls Tryz.prog 49 #[.pointer (some ⟨mb, 0, none⟩)] w fun e w' => e = .returned (.int .i64 f) ∧ X w' := by
  have hmb := h.box.lt
  have c2 := h.fix (k := 2) (by decide) hC.code
  have c22 : w.cell? ⟨mb, 22, none⟩ = some (.int .i64 (i : Int)) := h.box.cell 22 (by decide)
  have j0 : (0 : Int) ≤ (i : Int) := by omega
  have j1 : (i : Int) < (n : Int) := by omega
  have hwi : wrap64 ((i : Int) + 1) = (i : Int) + 1 := by unfold wrap64; omega
  have hwi2 : IntKind.i64.wrap ((i : Int) + 1) = (i : Int) + 1 := by rw [IntKind.wrap_i64]; omega
  have hms : w.heap.size ≠ mb := by omega
  have HT : ∀ W, Calls Tryz.prog 63 #[.int .i64 5] W fun e w' => e = .returned (.bool false) ∧ w' = W := two_any 5 (by omega)
  go_enter Tryz.func49, Tryz.ntmps49
  go_wp2
  go_region_held3 (fun W => W.cell? ⟨mb, 2, none⟩ = some (.slice (some ⟨cb, co, none⟩) n cc) ∧ W.cell? ⟨mb, 22, none⟩ = some (.int .i64 (i : Int)) ∧ W.cell? ⟨cb, co + i * 3, none⟩ = some (.int .i64 5) ∧ W.cell? ⟨cb, co + i * 3 + 1, none⟩ = some (.int .i64 a) ∧ W.cell? ⟨cb, co + i * 3 + 2, none⟩ = some (.int .i64 b)) (go_keep) (fail)
  generalize hwk : World.drew (World.alloc w _) = wk
  have hbk : Below w.heap.size w wk := by rw [← hwk]; exact below_drewQ w _
  have hkx : wk.heap[w.heap.size]? = some (.cells #[.int .i64 5, .int .i64 a, .int .i64 b] 70 (0, 0)) := by rw [← hwk]; exact World.alloc_heap_new w _
  have mk := h.later hbk
  have m1 := mk.setAt ((i : Int) + 1)
  have hux : (wk.setCell ⟨mb, 22, none⟩ (.int .i64 ((i : Int) + 1))).heap[w.heap.size]? = some (.cells #[.int .i64 5, .int .i64 a, .int .i64 b] 70 (0, 0)) := (Below.heap_setCell _ ⟨mb, 22, none⟩ _ w.heap.size (by show w.heap.size ≠ mb; omega)).trans hkx
  obtain ⟨b0, b1, b2⟩ := cells3' hux
  have q22 : wk.cell? ⟨mb, 22, none⟩ = some (.int .i64 (i : Int)) := mk.box.cell 22 (by decide)
  have f22 := mk.box.frozen 22
  have hsk : w.heap.size < wk.heap.size := (Array.getElem?_eq_some_iff.1 hkx).1
  obtain ⟨wu, hwu⟩ : ∃ wu, (wk.setCell ⟨mb, 22, none⟩ (.int .i64 ((i : Int) + 1))) = wu := ⟨_, rfl⟩
  have HWU : Hid ((wk.setCell ⟨mb, 22, none⟩ (.int .i64 ((i : Int) + 1))) = wu) := hwu
  have b0' := b0
  rw [hwu] at m1 hux b0 b1 b2
  clear hwk hwu h c2 c22 x0 x1 x2 hkx
  go_wp2_with (first | (go_at_call 63; rw [HWU.out]; (with_reducible refine (HT _).mono ?_); rintro e w1 ⟨rfl, rfl⟩) | (go_at_call 68; (with_reducible refine (HX _ _ _ _ m1).mono ?_); rintro e w2 ⟨rfl, hX⟩))
  try rw [Exit.noGoto_ret]
  go_ret
  exact ⟨rfl, hX⟩
set_option maxRecDepth 100000 in
set_option maxHeartbeats 2000000 in
theorem rstep_6 (w0 w : World) (base mb nw nl : Nat) (C : Nat → Value) (M : Mc) (sv lv ov : Value) (cl : Cl) (i n cb co cc : Nat) (hC : CR C cl (.slice (some ⟨cb, co, none⟩) n cc)) (h : RWs w0 w base mb nw nl C M sv lv ov (i : Int)) (hi : i < n) (hn : n ≤ 4096) (hcb : cb < base) (a b : Int) (x0 : w.cell? ⟨cb, co + i * 3, none⟩ = some (.int .i64 6)) (x1 : w.cell? ⟨cb, co + i * 3 + 1, none⟩ = some (.int .i64 a)) (x2 : w.cell? ⟨cb, co + i * 3 + 2, none⟩ = some (.int .i64 b))  (X : World → Prop) (f : Int) (HX : ∀ W sv2 lv2 ov2, RWs w0 W base mb nw nl C M sv2 lv2 ov2 ((i : Int) + 1) → Calls Tryz.prog 68 #[.pointer (some ⟨mb, 0, none⟩), .agg #[.int .i64 6, .int .i64 a, .int .i64 b]] W fun e w' => e = .returned (.int .i64 f) ∧ X w') :
    Calls Tryz.prog 49 #[.pointer (some ⟨mb, 0, none⟩)] w fun e w' => e = .returned (.int .i64 f) ∧ X w' := by
  have hmb := h.box.lt
  have c2 := h.fix (k := 2) (by decide) hC.code
  have c22 : w.cell? ⟨mb, 22, none⟩ = some (.int .i64 (i : Int)) := h.box.cell 22 (by decide)
  have j0 : (0 : Int) ≤ (i : Int) := by omega
  have j1 : (i : Int) < (n : Int) := by omega
  have hwi : wrap64 ((i : Int) + 1) = (i : Int) + 1 := by unfold wrap64; omega
  have hwi2 : IntKind.i64.wrap ((i : Int) + 1) = (i : Int) + 1 := by rw [IntKind.wrap_i64]; omega
  have hms : w.heap.size ≠ mb := by omega
  have HT : ∀ W, Calls Tryz.prog 63 #[.int .i64 6] W fun e w' => e = .returned (.bool false) ∧ w' = W := two_any 6 (by omega)
  go_enter Tryz.func49, Tryz.ntmps49
  go_wp2
  go_region_held3 (fun W => W.cell? ⟨mb, 2, none⟩ = some (.slice (some ⟨cb, co, none⟩) n cc) ∧ W.cell? ⟨mb, 22, none⟩ = some (.int .i64 (i : Int)) ∧ W.cell? ⟨cb, co + i * 3, none⟩ = some (.int .i64 6) ∧ W.cell? ⟨cb, co + i * 3 + 1, none⟩ = some (.int .i64 a) ∧ W.cell? ⟨cb, co + i * 3 + 2, none⟩ = some (.int .i64 b)) (go_keep) (fail)
  generalize hwk : World.drew (World.alloc w _) = wk
  have hbk : Below w.heap.size w wk := by rw [← hwk]; exact below_drewQ w _
  have hkx : wk.heap[w.heap.size]? = some (.cells #[.int .i64 6, .int .i64 a, .int .i64 b] 70 (0, 0)) := by rw [← hwk]; exact World.alloc_heap_new w _
  have mk := h.later hbk
  have m1 := mk.setAt ((i : Int) + 1)
  have hux : (wk.setCell ⟨mb, 22, none⟩ (.int .i64 ((i : Int) + 1))).heap[w.heap.size]? = some (.cells #[.int .i64 6, .int .i64 a, .int .i64 b] 70 (0, 0)) := (Below.heap_setCell _ ⟨mb, 22, none⟩ _ w.heap.size (by show w.heap.size ≠ mb; omega)).trans hkx
  obtain ⟨b0, b1, b2⟩ := cells3' hux
  have q22 : wk.cell? ⟨mb, 22, none⟩ = some (.int .i64 (i : Int)) := mk.box.cell 22 (by decide)
  have f22 := mk.box.frozen 22
  have hsk : w.heap.size < wk.heap.size := (Array.getElem?_eq_some_iff.1 hkx).1
  obtain ⟨wu, hwu⟩ : ∃ wu, (wk.setCell ⟨mb, 22, none⟩ (.int .i64 ((i : Int) + 1))) = wu := ⟨_, rfl⟩
  have HWU : Hid ((wk.setCell ⟨mb, 22, none⟩ (.int .i64 ((i : Int) + 1))) = wu) := hwu
  have b0' := b0
  rw [hwu] at m1 hux b0 b1 b2
  clear hwk hwu h c2 c22 x0 x1 x2 hkx
  go_wp2_with (first | (go_at_call 63; rw [HWU.out]; (with_reducible refine (HT _).mono ?_); rintro e w1 ⟨rfl, rfl⟩) | (go_at_call 68; (with_reducible refine (HX _ _ _ _ m1).mono ?_); rintro e w2 ⟨rfl, hX⟩))
  try rw [Exit.noGoto_ret]
  go_ret
  exact ⟨rfl, hX⟩
set_option maxRecDepth 100000 in
set_option maxHeartbeats 2000000 in
theorem rstep_38 (w0 w : World) (base mb nw nl : Nat) (C : Nat → Value) (M : Mc) (sv lv ov : Value) (cl : Cl) (i n cb co cc : Nat) (hC : CR C cl (.slice (some ⟨cb, co, none⟩) n cc)) (h : RWs w0 w base mb nw nl C M sv lv ov (i : Int)) (hi : i < n) (hn : n ≤ 4096) (hcb : cb < base) (a b : Int) (x0 : w.cell? ⟨cb, co + i * 3, none⟩ = some (.int .i64 38)) (x1 : w.cell? ⟨cb, co + i * 3 + 1, none⟩ = some (.int .i64 a)) (x2 : w.cell? ⟨cb, co + i * 3 + 2, none⟩ = some (.int .i64 b))  (X : World → Prop) (f : Int) (HX : ∀ W sv2 lv2 ov2, RWs w0 W base mb nw nl C M sv2 lv2 ov2 ((i : Int) + 1) → Calls Tryz.prog 68 #[.pointer (some ⟨mb, 0, none⟩), .agg #[.int .i64 38, .int .i64 a, .int .i64 b]] W fun e w' => e = .returned (.int .i64 f) ∧ X w') :
    Calls Tryz.prog 49 #[.pointer (some ⟨mb, 0, none⟩)] w fun e w' => e = .returned (.int .i64 f) ∧ X w' := by
  have hmb := h.box.lt
  have c2 := h.fix (k := 2) (by decide) hC.code
  have c22 : w.cell? ⟨mb, 22, none⟩ = some (.int .i64 (i : Int)) := h.box.cell 22 (by decide)
  have j0 : (0 : Int) ≤ (i : Int) := by omega
  have j1 : (i : Int) < (n : Int) := by omega
  have hwi : wrap64 ((i : Int) + 1) = (i : Int) + 1 := by unfold wrap64; omega
  have hwi2 : IntKind.i64.wrap ((i : Int) + 1) = (i : Int) + 1 := by rw [IntKind.wrap_i64]; omega
  have hms : w.heap.size ≠ mb := by omega
  have HT : ∀ W, Calls Tryz.prog 63 #[.int .i64 38] W fun e w' => e = .returned (.bool false) ∧ w' = W := two_any 38 (by omega)
  go_enter Tryz.func49, Tryz.ntmps49
  go_wp2
  go_region_held3 (fun W => W.cell? ⟨mb, 2, none⟩ = some (.slice (some ⟨cb, co, none⟩) n cc) ∧ W.cell? ⟨mb, 22, none⟩ = some (.int .i64 (i : Int)) ∧ W.cell? ⟨cb, co + i * 3, none⟩ = some (.int .i64 38) ∧ W.cell? ⟨cb, co + i * 3 + 1, none⟩ = some (.int .i64 a) ∧ W.cell? ⟨cb, co + i * 3 + 2, none⟩ = some (.int .i64 b)) (go_keep) (fail)
  generalize hwk : World.drew (World.alloc w _) = wk
  have hbk : Below w.heap.size w wk := by rw [← hwk]; exact below_drewQ w _
  have hkx : wk.heap[w.heap.size]? = some (.cells #[.int .i64 38, .int .i64 a, .int .i64 b] 70 (0, 0)) := by rw [← hwk]; exact World.alloc_heap_new w _
  have mk := h.later hbk
  have m1 := mk.setAt ((i : Int) + 1)
  have hux : (wk.setCell ⟨mb, 22, none⟩ (.int .i64 ((i : Int) + 1))).heap[w.heap.size]? = some (.cells #[.int .i64 38, .int .i64 a, .int .i64 b] 70 (0, 0)) := (Below.heap_setCell _ ⟨mb, 22, none⟩ _ w.heap.size (by show w.heap.size ≠ mb; omega)).trans hkx
  obtain ⟨b0, b1, b2⟩ := cells3' hux
  have q22 : wk.cell? ⟨mb, 22, none⟩ = some (.int .i64 (i : Int)) := mk.box.cell 22 (by decide)
  have f22 := mk.box.frozen 22
  have hsk : w.heap.size < wk.heap.size := (Array.getElem?_eq_some_iff.1 hkx).1
  obtain ⟨wu, hwu⟩ : ∃ wu, (wk.setCell ⟨mb, 22, none⟩ (.int .i64 ((i : Int) + 1))) = wu := ⟨_, rfl⟩
  have HWU : Hid ((wk.setCell ⟨mb, 22, none⟩ (.int .i64 ((i : Int) + 1))) = wu) := hwu
  have b0' := b0
  rw [hwu] at m1 hux b0 b1 b2
  clear hwk hwu h c2 c22 x0 x1 x2 hkx
  go_wp2_with (first | (go_at_call 63; rw [HWU.out]; (with_reducible refine (HT _).mono ?_); rintro e w1 ⟨rfl, rfl⟩) | (go_at_call 68; (with_reducible refine (HX _ _ _ _ m1).mono ?_); rintro e w2 ⟨rfl, hX⟩))
  try rw [Exit.noGoto_ret]
  go_ret
  exact ⟨rfl, hX⟩
set_option maxRecDepth 100000 in
set_option maxHeartbeats 2000000 in
theorem rstep_37 (w0 w : World) (base mb nw nl : Nat) (C : Nat → Value) (M : Mc) (sv lv ov : Value) (cl : Cl) (i n cb co cc : Nat) (hC : CR C cl (.slice (some ⟨cb, co, none⟩) n cc)) (h : RWs w0 w base mb nw nl C M sv lv ov (i : Int)) (hi : i < n) (hn : n ≤ 4096) (hcb : cb < base) (a b : Int) (x0 : w.cell? ⟨cb, co + i * 3, none⟩ = some (.int .i64 37)) (x1 : w.cell? ⟨cb, co + i * 3 + 1, none⟩ = some (.int .i64 a)) (x2 : w.cell? ⟨cb, co + i * 3 + 2, none⟩ = some (.int .i64 b))  (X : World → Prop) (f : Int) (HX : ∀ W sv2 lv2 ov2, RWs w0 W base mb nw nl C M sv2 lv2 ov2 ((i : Int) + 1) → Calls Tryz.prog 69 #[.pointer (some ⟨mb, 0, none⟩), .int .i64 37] W fun e w' => e = .returned (.int .i64 f) ∧ X w') :
    Calls Tryz.prog 49 #[.pointer (some ⟨mb, 0, none⟩)] w fun e w' => e = .returned (.int .i64 f) ∧ X w' := by
  have hmb := h.box.lt
  have c2 := h.fix (k := 2) (by decide) hC.code
  have c22 : w.cell? ⟨mb, 22, none⟩ = some (.int .i64 (i : Int)) := h.box.cell 22 (by decide)
  have j0 : (0 : Int) ≤ (i : Int) := by omega
  have j1 : (i : Int) < (n : Int) := by omega
  have hwi : wrap64 ((i : Int) + 1) = (i : Int) + 1 := by unfold wrap64; omega
  have hwi2 : IntKind.i64.wrap ((i : Int) + 1) = (i : Int) + 1 := by rw [IntKind.wrap_i64]; omega
  have hms : w.heap.size ≠ mb := by omega
  have HT : ∀ W, Calls Tryz.prog 63 #[.int .i64 37] W fun e w' => e = .returned (.bool false) ∧ w' = W := two_any 37 (by omega)
  go_enter Tryz.func49, Tryz.ntmps49
  go_wp2
  go_region_held3 (fun W => W.cell? ⟨mb, 2, none⟩ = some (.slice (some ⟨cb, co, none⟩) n cc) ∧ W.cell? ⟨mb, 22, none⟩ = some (.int .i64 (i : Int)) ∧ W.cell? ⟨cb, co + i * 3, none⟩ = some (.int .i64 37) ∧ W.cell? ⟨cb, co + i * 3 + 1, none⟩ = some (.int .i64 a) ∧ W.cell? ⟨cb, co + i * 3 + 2, none⟩ = some (.int .i64 b)) (go_keep) (fail)
  generalize hwk : World.drew (World.alloc w _) = wk
  have hbk : Below w.heap.size w wk := by rw [← hwk]; exact below_drewQ w _
  have hkx : wk.heap[w.heap.size]? = some (.cells #[.int .i64 37, .int .i64 a, .int .i64 b] 70 (0, 0)) := by rw [← hwk]; exact World.alloc_heap_new w _
  have mk := h.later hbk
  have m1 := mk.setAt ((i : Int) + 1)
  have hux : (wk.setCell ⟨mb, 22, none⟩ (.int .i64 ((i : Int) + 1))).heap[w.heap.size]? = some (.cells #[.int .i64 37, .int .i64 a, .int .i64 b] 70 (0, 0)) := (Below.heap_setCell _ ⟨mb, 22, none⟩ _ w.heap.size (by show w.heap.size ≠ mb; omega)).trans hkx
  obtain ⟨b0, b1, b2⟩ := cells3' hux
  have q22 : wk.cell? ⟨mb, 22, none⟩ = some (.int .i64 (i : Int)) := mk.box.cell 22 (by decide)
  have f22 := mk.box.frozen 22
  have hsk : w.heap.size < wk.heap.size := (Array.getElem?_eq_some_iff.1 hkx).1
  obtain ⟨wu, hwu⟩ : ∃ wu, (wk.setCell ⟨mb, 22, none⟩ (.int .i64 ((i : Int) + 1))) = wu := ⟨_, rfl⟩
  have HWU : Hid ((wk.setCell ⟨mb, 22, none⟩ (.int .i64 ((i : Int) + 1))) = wu) := hwu
  have b0' := b0
  rw [hwu] at m1 hux b0 b1 b2
  clear hwk hwu h c2 c22 x0 x1 x2 hkx
  go_wp2_with (first | (go_at_call 63; rw [HWU.out]; (with_reducible refine (HT _).mono ?_); rintro e w1 ⟨rfl, rfl⟩) | (go_at_call 69; (with_reducible refine (HX _ _ _ _ m1).mono ?_); rintro e w2 ⟨rfl, hX⟩))
  try rw [Exit.noGoto_ret]
  go_ret
  exact ⟨rfl, hX⟩
set_option maxRecDepth 100000 in
set_option maxHeartbeats 2000000 in
theorem rstep_41 (w0 w : World) (base mb nw nl : Nat) (C : Nat → Value) (M : Mc) (sv lv ov : Value) (cl : Cl) (i n cb co cc : Nat) (hC : CR C cl (.slice (some ⟨cb, co, none⟩) n cc)) (h : RWs w0 w base mb nw nl C M sv lv ov (i : Int)) (hi : i < n) (hn : n ≤ 4096) (hcb : cb < base) (a b : Int) (x0 : w.cell? ⟨cb, co + i * 3, none⟩ = some (.int .i64 41)) (x1 : w.cell? ⟨cb, co + i * 3 + 1, none⟩ = some (.int .i64 a)) (x2 : w.cell? ⟨cb, co + i * 3 + 2, none⟩ = some (.int .i64 b))  (X : World → Prop) (f : Int) (HX : ∀ W sv2 lv2 ov2, RWs w0 W base mb nw nl C M sv2 lv2 ov2 ((i : Int) + 1) → Calls Tryz.prog 69 #[.pointer (some ⟨mb, 0, none⟩), .int .i64 41] W fun e w' => e = .returned (.int .i64 f) ∧ X w') :
    Calls Tryz.prog 49 #[.pointer (some ⟨mb, 0, none⟩)] w fun e w' => e = .returned (.int .i64 f) ∧ X w' := by
  have hmb := h.box.lt
  have c2 := h.fix (k := 2) (by decide) hC.code
  have c22 : w.cell? ⟨mb, 22, none⟩ = some (.int .i64 (i : Int)) := h.box.cell 22 (by decide)
  have j0 : (0 : Int) ≤ (i : Int) := by omega
  have j1 : (i : Int) < (n : Int) := by omega
  have hwi : wrap64 ((i : Int) + 1) = (i : Int) + 1 := by unfold wrap64; omega
  have hwi2 : IntKind.i64.wrap ((i : Int) + 1) = (i : Int) + 1 := by rw [IntKind.wrap_i64]; omega
  have hms : w.heap.size ≠ mb := by omega
  have HT : ∀ W, Calls Tryz.prog 63 #[.int .i64 41] W fun e w' => e = .returned (.bool false) ∧ w' = W := two_any 41 (by omega)
  go_enter Tryz.func49, Tryz.ntmps49
  go_wp2
  go_region_held3 (fun W => W.cell? ⟨mb, 2, none⟩ = some (.slice (some ⟨cb, co, none⟩) n cc) ∧ W.cell? ⟨mb, 22, none⟩ = some (.int .i64 (i : Int)) ∧ W.cell? ⟨cb, co + i * 3, none⟩ = some (.int .i64 41) ∧ W.cell? ⟨cb, co + i * 3 + 1, none⟩ = some (.int .i64 a) ∧ W.cell? ⟨cb, co + i * 3 + 2, none⟩ = some (.int .i64 b)) (go_keep) (fail)
  generalize hwk : World.drew (World.alloc w _) = wk
  have hbk : Below w.heap.size w wk := by rw [← hwk]; exact below_drewQ w _
  have hkx : wk.heap[w.heap.size]? = some (.cells #[.int .i64 41, .int .i64 a, .int .i64 b] 70 (0, 0)) := by rw [← hwk]; exact World.alloc_heap_new w _
  have mk := h.later hbk
  have m1 := mk.setAt ((i : Int) + 1)
  have hux : (wk.setCell ⟨mb, 22, none⟩ (.int .i64 ((i : Int) + 1))).heap[w.heap.size]? = some (.cells #[.int .i64 41, .int .i64 a, .int .i64 b] 70 (0, 0)) := (Below.heap_setCell _ ⟨mb, 22, none⟩ _ w.heap.size (by show w.heap.size ≠ mb; omega)).trans hkx
  obtain ⟨b0, b1, b2⟩ := cells3' hux
  have q22 : wk.cell? ⟨mb, 22, none⟩ = some (.int .i64 (i : Int)) := mk.box.cell 22 (by decide)
  have f22 := mk.box.frozen 22
  have hsk : w.heap.size < wk.heap.size := (Array.getElem?_eq_some_iff.1 hkx).1
  obtain ⟨wu, hwu⟩ : ∃ wu, (wk.setCell ⟨mb, 22, none⟩ (.int .i64 ((i : Int) + 1))) = wu := ⟨_, rfl⟩
  have HWU : Hid ((wk.setCell ⟨mb, 22, none⟩ (.int .i64 ((i : Int) + 1))) = wu) := hwu
  have b0' := b0
  rw [hwu] at m1 hux b0 b1 b2
  clear hwk hwu h c2 c22 x0 x1 x2 hkx
  go_wp2_with (first | (go_at_call 63; rw [HWU.out]; (with_reducible refine (HT _).mono ?_); rintro e w1 ⟨rfl, rfl⟩) | (go_at_call 69; (with_reducible refine (HX _ _ _ _ m1).mono ?_); rintro e w2 ⟨rfl, hX⟩))
  try rw [Exit.noGoto_ret]
  go_ret
  exact ⟨rfl, hX⟩
set_option maxRecDepth 100000 in
set_option maxHeartbeats 2000000 in
theorem rstep_39 (w0 w : World) (base mb nw nl : Nat) (C : Nat → Value) (M : Mc) (sv lv ov : Value) (cl : Cl) (i n cb co cc : Nat) (hC : CR C cl (.slice (some ⟨cb, co, none⟩) n cc)) (h : RWs w0 w base mb nw nl C M sv lv ov (i : Int)) (hi : i < n) (hn : n ≤ 4096) (hcb : cb < base) (a b : Int) (x0 : w.cell? ⟨cb, co + i * 3, none⟩ = some (.int .i64 39)) (x1 : w.cell? ⟨cb, co + i * 3 + 1, none⟩ = some (.int .i64 a)) (x2 : w.cell? ⟨cb, co + i * 3 + 2, none⟩ = some (.int .i64 b))  (X : World → Prop) (f : Int) (HX : ∀ W sv2 lv2 ov2, RWs w0 W base mb nw nl C M sv2 lv2 ov2 ((i : Int) + 1) → Calls Tryz.prog 70 #[.pointer (some ⟨mb, 0, none⟩), .int .i64 a] W fun e w' => e = .returned (.int .i64 f) ∧ X w') :
    Calls Tryz.prog 49 #[.pointer (some ⟨mb, 0, none⟩)] w fun e w' => e = .returned (.int .i64 f) ∧ X w' := by
  have hmb := h.box.lt
  have c2 := h.fix (k := 2) (by decide) hC.code
  have c22 : w.cell? ⟨mb, 22, none⟩ = some (.int .i64 (i : Int)) := h.box.cell 22 (by decide)
  have j0 : (0 : Int) ≤ (i : Int) := by omega
  have j1 : (i : Int) < (n : Int) := by omega
  have hwi : wrap64 ((i : Int) + 1) = (i : Int) + 1 := by unfold wrap64; omega
  have hwi2 : IntKind.i64.wrap ((i : Int) + 1) = (i : Int) + 1 := by rw [IntKind.wrap_i64]; omega
  have hms : w.heap.size ≠ mb := by omega
  have HT : ∀ W, Calls Tryz.prog 63 #[.int .i64 39] W fun e w' => e = .returned (.bool false) ∧ w' = W := two_any 39 (by omega)
  go_enter Tryz.func49, Tryz.ntmps49
  go_wp2
  go_region_held3 (fun W => W.cell? ⟨mb, 2, none⟩ = some (.slice (some ⟨cb, co, none⟩) n cc) ∧ W.cell? ⟨mb, 22, none⟩ = some (.int .i64 (i : Int)) ∧ W.cell? ⟨cb, co + i * 3, none⟩ = some (.int .i64 39) ∧ W.cell? ⟨cb, co + i * 3 + 1, none⟩ = some (.int .i64 a) ∧ W.cell? ⟨cb, co + i * 3 + 2, none⟩ = some (.int .i64 b)) (go_keep) (fail)
  generalize hwk : World.drew (World.alloc w _) = wk
  have hbk : Below w.heap.size w wk := by rw [← hwk]; exact below_drewQ w _
  have hkx : wk.heap[w.heap.size]? = some (.cells #[.int .i64 39, .int .i64 a, .int .i64 b] 70 (0, 0)) := by rw [← hwk]; exact World.alloc_heap_new w _
  have mk := h.later hbk
  have m1 := mk.setAt ((i : Int) + 1)
  have hux : (wk.setCell ⟨mb, 22, none⟩ (.int .i64 ((i : Int) + 1))).heap[w.heap.size]? = some (.cells #[.int .i64 39, .int .i64 a, .int .i64 b] 70 (0, 0)) := (Below.heap_setCell _ ⟨mb, 22, none⟩ _ w.heap.size (by show w.heap.size ≠ mb; omega)).trans hkx
  obtain ⟨b0, b1, b2⟩ := cells3' hux
  have q22 : wk.cell? ⟨mb, 22, none⟩ = some (.int .i64 (i : Int)) := mk.box.cell 22 (by decide)
  have f22 := mk.box.frozen 22
  have hsk : w.heap.size < wk.heap.size := (Array.getElem?_eq_some_iff.1 hkx).1
  obtain ⟨wu, hwu⟩ : ∃ wu, (wk.setCell ⟨mb, 22, none⟩ (.int .i64 ((i : Int) + 1))) = wu := ⟨_, rfl⟩
  have HWU : Hid ((wk.setCell ⟨mb, 22, none⟩ (.int .i64 ((i : Int) + 1))) = wu) := hwu
  have b0' := b0
  rw [hwu] at m1 hux b0 b1 b2
  clear hwk hwu h c2 c22 x0 x1 x2 hkx
  go_wp2_with (first | (go_at_call 63; rw [HWU.out]; (with_reducible refine (HT _).mono ?_); rintro e w1 ⟨rfl, rfl⟩) | (go_at_call 70; (with_reducible refine (HX _ _ _ _ m1).mono ?_); rintro e w2 ⟨rfl, hX⟩))
  try rw [Exit.noGoto_ret]
  go_ret
  exact ⟨rfl, hX⟩
end Go.Proofs.YtciaacckdodhcaaGreat
