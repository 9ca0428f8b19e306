import Derived.Test.YtciaacckdodhcaaGreatR7c
import Derived.Test.YtciaacckdodhcaaGreatV9
namespace Go.Proofs.YtciaacckdodhcaaGreat
open Go.ChangeShapes Go.WideShapes Go.ChangeAt Go.RowKit
set_option linter.unusedVariables false
set_option linter.unusedSimpArgs false

/-- where the machine stands, written -/
theorem RWs.setAt {w0 W : World} {base mb nw nl : Nat} {C : Nat → Value} {M : Mc} {sv lv ov : Value} {at_ : Int} (h : RWs w0 W base mb nw nl C M sv lv ov at_) (d : Int) : RWs w0 (W.setCell ⟨mb, 22, none⟩ (.int .i64 d)) base mb nw nl C M sv lv ov d := by
  refine h.cells (grown_set W mb 22 _) ?_ rfl rfl rfl rfl rfl h.st rfl
  refine h.box.put 22 _ rfl fun j hj hne => ?_
  unfold rF
  repeat' split
  all_goals first | rfl | omega
theorem below_drewQ (w : World) (o : Obj) : Below w.heap.size w (World.drew (World.alloc w o)) := ((Below.refl _ w).alloc (Nat.le_refl _) _).trans ⟨rfl, rfl, rfl, Nat.le_refl _, fun _ _ => rfl⟩
set_option maxRecDepth 100000 in
set_option maxHeartbeats 2000000 in
theorem rstep_23 (w0 w : World) (base mb nw nl : Nat) (C : Nat → Value) (M : Mc) (sv lv ov : Value) (cl : Cl) (i n cb co cc : Nat) (hC : CR C cl (.slice (some ⟨cb, co, none⟩) n cc)) (h : RWs w0 w base mb nw nl C M sv lv ov (i : Int)) (hi : i < n) (hn : n ≤ 4096) (hcb : cb < base) (a b : Int) (x0 : w.cell? ⟨cb, co + i * 3, none⟩ = some (.int .i64 23)) (x1 : w.cell? ⟨cb, co + i * 3 + 1, none⟩ = some (.int .i64 a)) (x2 : w.cell? ⟨cb, co + i * 3 + 2, none⟩ = some (.int .i64 b))  (X : World → Prop) (HX : ∀ W sv2 lv2 ov2, RWs w0 W base mb nw nl C M sv2 lv2 ov2 ((i : Int) + 1) → Calls Tryz.prog 67 #[.pointer (some ⟨mb, 0, none⟩), .int .i64 23] W fun e w' => e = .returned (.tuple #[]) ∧ X w') :
    Calls Tryz.prog 49 #[.pointer (some ⟨mb, 0, none⟩)] w fun e w' => e = .returned (.int .i64 0) ∧ X w' := by
  have hmb := h.box.lt
  have c2 := h.fix (k := 2) (by decide) hC.code
  have c22 : w.cell? ⟨mb, 22, none⟩ = some (.int .i64 (i : Int)) := h.box.cell 22 (by decide)
  have j0 : (0 : Int) ≤ (i : Int) := by omega
  have j1 : (i : Int) < (n : Int) := by omega
  have hwi : wrap64 ((i : Int) + 1) = (i : Int) + 1 := by unfold wrap64; omega
  have hwi2 : IntKind.i64.wrap ((i : Int) + 1) = (i : Int) + 1 := by rw [IntKind.wrap_i64]; omega
  have hms : w.heap.size ≠ mb := by omega
  have HT : ∀ W, Calls Tryz.prog 63 #[.int .i64 23] W fun e w' => e = .returned (.bool false) ∧ w' = W := two_any 23 (by omega)
  go_enter Tryz.func49, Tryz.ntmps49
  go_wp2
  go_region_held3 (fun W => W.cell? ⟨mb, 2, none⟩ = some (.slice (some ⟨cb, co, none⟩) n cc) ∧ W.cell? ⟨mb, 22, none⟩ = some (.int .i64 (i : Int)) ∧ W.cell? ⟨cb, co + i * 3, none⟩ = some (.int .i64 23) ∧ W.cell? ⟨cb, co + i * 3 + 1, none⟩ = some (.int .i64 a) ∧ W.cell? ⟨cb, co + i * 3 + 2, none⟩ = some (.int .i64 b)) (go_keep) (fail)
  generalize hwk : World.drew (World.alloc w _) = wk
  have hbk : Below w.heap.size w wk := by rw [← hwk]; exact below_drewQ w _
  have hkx : wk.heap[w.heap.size]? = some (.cells #[.int .i64 23, .int .i64 a, .int .i64 b] 70 (0, 0)) := by rw [← hwk]; exact World.alloc_heap_new w _
  have mk := h.later hbk
  have m1 := mk.setAt ((i : Int) + 1)
  have hux : (wk.setCell ⟨mb, 22, none⟩ (.int .i64 ((i : Int) + 1))).heap[w.heap.size]? = some (.cells #[.int .i64 23, .int .i64 a, .int .i64 b] 70 (0, 0)) := (Below.heap_setCell _ ⟨mb, 22, none⟩ _ w.heap.size (by show w.heap.size ≠ mb; omega)).trans hkx
  obtain ⟨b0, b1, b2⟩ := cells3' hux
  have q22 : wk.cell? ⟨mb, 22, none⟩ = some (.int .i64 (i : Int)) := mk.box.cell 22 (by decide)
  have f22 := mk.box.frozen 22
  have hsk : w.heap.size < wk.heap.size := (Array.getElem?_eq_some_iff.1 hkx).1
  obtain ⟨wu, hwu⟩ : ∃ wu, (wk.setCell ⟨mb, 22, none⟩ (.int .i64 ((i : Int) + 1))) = wu := ⟨_, rfl⟩
  have HWU : Hid ((wk.setCell ⟨mb, 22, none⟩ (.int .i64 ((i : Int) + 1))) = wu) := hwu
  have b0' := b0
  rw [hwu] at m1 hux b0 b1 b2
  clear hwk hwu h c2 c22 x0 x1 x2 hkx
  go_wp2_with (first | (go_at_call 63; rw [HWU.out]; (with_reducible refine (HT _).mono ?_); rintro e w1 ⟨rfl, rfl⟩) | (go_at_call 67; (with_reducible refine (HX _ _ _ _ m1).mono ?_); rintro e w2 ⟨rfl, hX⟩))
  try rw [Exit.noGoto_ret]
  go_ret
  exact ⟨rfl, hX⟩
set_option maxRecDepth 100000 in
set_option maxHeartbeats 2000000 in
theorem rstep_24 (w0 w : World) (base mb nw nl : Nat) (C : Nat → Value) (M : Mc) (sv lv ov : Value) (cl : Cl) (i n cb co cc : Nat) (hC : CR C cl (.slice (some ⟨cb, co, none⟩) n cc)) (h : RWs w0 w base mb nw nl C M sv lv ov (i : Int)) (hi : i < n) (hn : n ≤ 4096) (hcb : cb < base) (a b : Int) (x0 : w.cell? ⟨cb, co + i * 3, none⟩ = some (.int .i64 24)) (x1 : w.cell? ⟨cb, co + i * 3 + 1, none⟩ = some (.int .i64 a)) (x2 : w.cell? ⟨cb, co + i * 3 + 2, none⟩ = some (.int .i64 b))  (X : World → Prop) (HX : ∀ W sv2 lv2 ov2, RWs w0 W base mb nw nl C M sv2 lv2 ov2 ((i : Int) + 1) → Calls Tryz.prog 67 #[.pointer (some ⟨mb, 0, none⟩), .int .i64 24] W fun e w' => e = .returned (.tuple #[]) ∧ X w') :
    Calls Tryz.prog 49 #[.pointer (some ⟨mb, 0, none⟩)] w fun e w' => e = .returned (.int .i64 0) ∧ X w' := by
  have hmb := h.box.lt
  have c2 := h.fix (k := 2) (by decide) hC.code
  have c22 : w.cell? ⟨mb, 22, none⟩ = some (.int .i64 (i : Int)) := h.box.cell 22 (by decide)
  have j0 : (0 : Int) ≤ (i : Int) := by omega
  have j1 : (i : Int) < (n : Int) := by omega
  have hwi : wrap64 ((i : Int) + 1) = (i : Int) + 1 := by unfold wrap64; omega
  have hwi2 : IntKind.i64.wrap ((i : Int) + 1) = (i : Int) + 1 := by rw [IntKind.wrap_i64]; omega
  have hms : w.heap.size ≠ mb := by omega
  have HT : ∀ W, Calls Tryz.prog 63 #[.int .i64 24] W fun e w' => e = .returned (.bool false) ∧ w' = W := two_any 24 (by omega)
  go_enter Tryz.func49, Tryz.ntmps49
  go_wp2
  go_region_held3 (fun W => W.cell? ⟨mb, 2, none⟩ = some (.slice (some ⟨cb, co, none⟩) n cc) ∧ W.cell? ⟨mb, 22, none⟩ = some (.int .i64 (i : Int)) ∧ W.cell? ⟨cb, co + i * 3, none⟩ = some (.int .i64 24) ∧ W.cell? ⟨cb, co + i * 3 + 1, none⟩ = some (.int .i64 a) ∧ W.cell? ⟨cb, co + i * 3 + 2, none⟩ = some (.int .i64 b)) (go_keep) (fail)
  generalize hwk : World.drew (World.alloc w _) = wk
  have hbk : Below w.heap.size w wk := by rw [← hwk]; exact below_drewQ w _
  have hkx : wk.heap[w.heap.size]? = some (.cells #[.int .i64 24, .int .i64 a, .int .i64 b] 70 (0, 0)) := by rw [← hwk]; exact World.alloc_heap_new w _
  have mk := h.later hbk
  have m1 := mk.setAt ((i : Int) + 1)
  have hux : (wk.setCell ⟨mb, 22, none⟩ (.int .i64 ((i : Int) + 1))).heap[w.heap.size]? = some (.cells #[.int .i64 24, .int .i64 a, .int .i64 b] 70 (0, 0)) := (Below.heap_setCell _ ⟨mb, 22, none⟩ _ w.heap.size (by show w.heap.size ≠ mb; omega)).trans hkx
  obtain ⟨b0, b1, b2⟩ := cells3' hux
  have q22 : wk.cell? ⟨mb, 22, none⟩ = some (.int .i64 (i : Int)) := mk.box.cell 22 (by decide)
  have f22 := mk.box.frozen 22
  have hsk : w.heap.size < wk.heap.size := (Array.getElem?_eq_some_iff.1 hkx).1
  obtain ⟨wu, hwu⟩ : ∃ wu, (wk.setCell ⟨mb, 22, none⟩ (.int .i64 ((i : Int) + 1))) = wu := ⟨_, rfl⟩
  have HWU : Hid ((wk.setCell ⟨mb, 22, none⟩ (.int .i64 ((i : Int) + 1))) = wu) := hwu
  have b0' := b0
  rw [hwu] at m1 hux b0 b1 b2
  clear hwk hwu h c2 c22 x0 x1 x2 hkx
  go_wp2_with (first | (go_at_call 63; rw [HWU.out]; (with_reducible refine (HT _).mono ?_); rintro e w1 ⟨rfl, rfl⟩) | (go_at_call 67; (with_reducible refine (HX _ _ _ _ m1).mono ?_); rintro e w2 ⟨rfl, hX⟩))
  try rw [Exit.noGoto_ret]
  go_ret
  exact ⟨rfl, hX⟩
set_option maxRecDepth 100000 in
set_option maxHeartbeats 2000000 in
theorem rstep_25 (w0 w : World) (base mb nw nl : Nat) (C : Nat → Value) (M : Mc) (sv lv ov : Value) (cl : Cl) (i n cb co cc : Nat) (hC : CR C cl (.slice (some ⟨cb, co, none⟩) n cc)) (h : RWs w0 w base mb nw nl C M sv lv ov (i : Int)) (hi : i < n) (hn : n ≤ 4096) (hcb : cb < base) (a b : Int) (x0 : w.cell? ⟨cb, co + i * 3, none⟩ = some (.int .i64 25)) (x1 : w.cell? ⟨cb, co + i * 3 + 1, none⟩ = some (.int .i64 a)) (x2 : w.cell? ⟨cb, co + i * 3 + 2, none⟩ = some (.int .i64 b))  (X : World → Prop) (HX : ∀ W sv2 lv2 ov2, RWs w0 W base mb nw nl C M sv2 lv2 ov2 ((i : Int) + 1) → Calls Tryz.prog 67 #[.pointer (some ⟨mb, 0, none⟩), .int .i64 25] W fun e w' => e = .returned (.tuple #[]) ∧ X w') :
    Calls Tryz.prog 49 #[.pointer (some ⟨mb, 0, none⟩)] w fun e w' => e = .returned (.int .i64 0) ∧ X w' := by
  have hmb := h.box.lt
  have c2 := h.fix (k := 2) (by decide) hC.code
  have c22 : w.cell? ⟨mb, 22, none⟩ = some (.int .i64 (i : Int)) := h.box.cell 22 (by decide)
  have j0 : (0 : Int) ≤ (i : Int) := by omega
  have j1 : (i : Int) < (n : Int) := by omega
  have hwi : wrap64 ((i : Int) + 1) = (i : Int) + 1 := by unfold wrap64; omega
  have hwi2 : IntKind.i64.wrap ((i : Int) + 1) = (i : Int) + 1 := by rw [IntKind.wrap_i64]; omega
  have hms : w.heap.size ≠ mb := by omega
  have HT : ∀ W, Calls Tryz.prog 63 #[.int .i64 25] W fun e w' => e = .returned (.bool false) ∧ w' = W := two_any 25 (by omega)
  go_enter Tryz.func49, Tryz.ntmps49
  go_wp2
  go_region_held3 (fun W => W.cell? ⟨mb, 2, none⟩ = some (.slice (some ⟨cb, co, none⟩) n cc) ∧ W.cell? ⟨mb, 22, none⟩ = some (.int .i64 (i : Int)) ∧ W.cell? ⟨cb, co + i * 3, none⟩ = some (.int .i64 25) ∧ W.cell? ⟨cb, co + i * 3 + 1, none⟩ = some (.int .i64 a) ∧ W.cell? ⟨cb, co + i * 3 + 2, none⟩ = some (.int .i64 b)) (go_keep) (fail)
  generalize hwk : World.drew (World.alloc w _) = wk
  have hbk : Below w.heap.size w wk := by rw [← hwk]; exact below_drewQ w _
  have hkx : wk.heap[w.heap.size]? = some (.cells #[.int .i64 25, .int .i64 a, .int .i64 b] 70 (0, 0)) := by rw [← hwk]; exact World.alloc_heap_new w _
  have mk := h.later hbk
  have m1 := mk.setAt ((i : Int) + 1)
  have hux : (wk.setCell ⟨mb, 22, none⟩ (.int .i64 ((i : Int) + 1))).heap[w.heap.size]? = some (.cells #[.int .i64 25, .int .i64 a, .int .i64 b] 70 (0, 0)) := (Below.heap_setCell _ ⟨mb, 22, none⟩ _ w.heap.size (by show w.heap.size ≠ mb; omega)).trans hkx
  obtain ⟨b0, b1, b2⟩ := cells3' hux
  have q22 : wk.cell? ⟨mb, 22, none⟩ = some (.int .i64 (i : Int)) := mk.box.cell 22 (by decide)
  have f22 := mk.box.frozen 22
  have hsk : w.heap.size < wk.heap.size := (Array.getElem?_eq_some_iff.1 hkx).1
  obtain ⟨wu, hwu⟩ : ∃ wu, (wk.setCell ⟨mb, 22, none⟩ (.int .i64 ((i : Int) + 1))) = wu := ⟨_, rfl⟩
  have HWU : Hid ((wk.setCell ⟨mb, 22, none⟩ (.int .i64 ((i : Int) + 1))) = wu) := hwu
  have b0' := b0
  rw [hwu] at m1 hux b0 b1 b2
  clear hwk hwu h c2 c22 x0 x1 x2 hkx
  go_wp2_with (first | (go_at_call 63; rw [HWU.out]; (with_reducible refine (HT _).mono ?_); rintro e w1 ⟨rfl, rfl⟩) | (go_at_call 67; (with_reducible refine (HX _ _ _ _ m1).mono ?_); rintro e w2 ⟨rfl, hX⟩))
  try rw [Exit.noGoto_ret]
  go_ret
  exact ⟨rfl, hX⟩
set_option maxRecDepth 100000 in
set_option maxHeartbeats 2000000 in
theorem rstep_34 (w0 w : World) (base mb nw nl : Nat) (C : Nat → Value) (M : Mc) (sv lv ov : Value) (cl : Cl) (i n cb co cc : Nat) (hC : CR C cl (.slice (some ⟨cb, co, none⟩) n cc)) (h : RWs w0 w base mb nw nl C M sv lv ov (i : Int)) (hi : i < n) (hn : n ≤ 4096) (hcb : cb < base) (a b : Int) (x0 : w.cell? ⟨cb, co + i * 3, none⟩ = some (.int .i64 34)) (x1 : w.cell? ⟨cb, co + i * 3 + 1, none⟩ = some (.int .i64 a)) (x2 : w.cell? ⟨cb, co + i * 3 + 2, none⟩ = some (.int .i64 b))  (X : World → Prop) (HX : ∀ W sv2 lv2 ov2, RWs w0 W base mb nw nl C M sv2 lv2 ov2 ((i : Int) + 1) → Calls Tryz.prog 67 #[.pointer (some ⟨mb, 0, none⟩), .int .i64 34] W fun e w' => e = .returned (.tuple #[]) ∧ X w') :
    Calls Tryz.prog 49 #[.pointer (some ⟨mb, 0, none⟩)] w fun e w' => e = .returned (.int .i64 0) ∧ X w' := by
  have hmb := h.box.lt
  have c2 := h.fix (k := 2) (by decide) hC.code
  have c22 : w.cell? ⟨mb, 22, none⟩ = some (.int .i64 (i : Int)) := h.box.cell 22 (by decide)
  have j0 : (0 : Int) ≤ (i : Int) := by omega
  have j1 : (i : Int) < (n : Int) := by omega
  have hwi : wrap64 ((i : Int) + 1) = (i : Int) + 1 := by unfold wrap64; omega
  have hwi2 : IntKind.i64.wrap ((i : Int) + 1) = (i : Int) + 1 := by rw [IntKind.wrap_i64]; omega
  have hms : w.heap.size ≠ mb := by omega
  have HT : ∀ W, Calls Tryz.prog 63 #[.int .i64 34] W fun e w' => e = .returned (.bool false) ∧ w' = W := two_any 34 (by omega)
  go_enter Tryz.func49, Tryz.ntmps49
  go_wp2
  go_region_held3 (fun W => W.cell? ⟨mb, 2, none⟩ = some (.slice (some ⟨cb, co, none⟩) n cc) ∧ W.cell? ⟨mb, 22, none⟩ = some (.int .i64 (i : Int)) ∧ W.cell? ⟨cb, co + i * 3, none⟩ = some (.int .i64 34) ∧ W.cell? ⟨cb, co + i * 3 + 1, none⟩ = some (.int .i64 a) ∧ W.cell? ⟨cb, co + i * 3 + 2, none⟩ = some (.int .i64 b)) (go_keep) (fail)
  generalize hwk : World.drew (World.alloc w _) = wk
  have hbk : Below w.heap.size w wk := by rw [← hwk]; exact below_drewQ w _
  have hkx : wk.heap[w.heap.size]? = some (.cells #[.int .i64 34, .int .i64 a, .int .i64 b] 70 (0, 0)) := by rw [← hwk]; exact World.alloc_heap_new w _
  have mk := h.later hbk
  have m1 := mk.setAt ((i : Int) + 1)
  have hux : (wk.setCell ⟨mb, 22, none⟩ (.int .i64 ((i : Int) + 1))).heap[w.heap.size]? = some (.cells #[.int .i64 34, .int .i64 a, .int .i64 b] 70 (0, 0)) := (Below.heap_setCell _ ⟨mb, 22, none⟩ _ w.heap.size (by show w.heap.size ≠ mb; omega)).trans hkx
  obtain ⟨b0, b1, b2⟩ := cells3' hux
  have q22 : wk.cell? ⟨mb, 22, none⟩ = some (.int .i64 (i : Int)) := mk.box.cell 22 (by decide)
  have f22 := mk.box.frozen 22
  have hsk : w.heap.size < wk.heap.size := (Array.getElem?_eq_some_iff.1 hkx).1
  obtain ⟨wu, hwu⟩ : ∃ wu, (wk.setCell ⟨mb, 22, none⟩ (.int .i64 ((i : Int) + 1))) = wu := ⟨_, rfl⟩
  have HWU : Hid ((wk.setCell ⟨mb, 22, none⟩ (.int .i64 ((i : Int) + 1))) = wu) := hwu
  have b0' := b0
  rw [hwu] at m1 hux b0 b1 b2
  clear hwk hwu h c2 c22 x0 x1 x2 hkx
  go_wp2_with (first | (go_at_call 63; rw [HWU.out]; (with_reducible refine (HT _).mono ?_); rintro e w1 ⟨rfl, rfl⟩) | (go_at_call 67; (with_reducible refine (HX _ _ _ _ m1).mono ?_); rintro e w2 ⟨rfl, hX⟩))
  try rw [Exit.noGoto_ret]
  go_ret
  exact ⟨rfl, hX⟩
end Go.Proofs.YtciaacckdodhcaaGreat
