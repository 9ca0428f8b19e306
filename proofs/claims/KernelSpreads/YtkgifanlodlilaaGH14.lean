import Derived.Test.YtkgifanlodlilaaGH13
import Derived.Test.YtkgifanlodlilaaSV4
import Derived.Deep.RegionLaw
import Derived.Deep.RegionHeld3
import Derived.Deep.Cut
import Derived.Deep.DeepCutAuto
import Derived.Deep.CutBlock
import Derived.Deep.CutRange
import Derived.BigQuiet
import Derived.Handy
namespace Go.Proofs.Ytkgifanlodlilaa
open Go.ChangeShapes Go.WideShapes Go.ChangeAt Go.RowKit
set_option linter.unusedVariables false
set_option linter.unusedSimpArgs false

set_option maxRecDepth 100000 in
set_option maxHeartbeats 2000000 in
theorem rspread_bad (p : Pl) (v : PlV) (wk way : Int) (cv : Int) (hc : cv ≠ 0) (hV : VC p cv) (w : World) (h : PlAt w p v) :
    Calls Try.prog 8 #[.agg #[.int .i64 p.ki, .slice v.pp p.np v.pc, .slice v.tp p.nq v.tc, .slice v.sp p.ns v.sc, .int .u64 p.sd, .int .u64 p.lk, .int .u64 p.en, .int .i64 p.bu, .int .i64 p.fu], .int .i64 wk, .int .i64 way] w fun e w' => e = .returned (.tuple #[.agg #[.int .i64 0, .slice none 0 0, .int .i64 0, .int .i64 0, .int .i64 0], .int .i64 cv]) ∧ Below w.heap.size w w' := by
  obtain ⟨wb, hwb⟩ : ∃ wb, w.alloc (.cells #[.int .i64 p.ki, .slice v.pp p.np v.pc, .slice v.tp p.nq v.tc, .slice v.sp p.ns v.sc, .int .u64 p.sd, .int .u64 p.lk, .int .u64 p.en, .int .i64 p.bu, .int .i64 p.fu] 27) = wb := ⟨_, rfl⟩
  obtain ⟨hb0, hbox, hsz⟩ := boxed _ _ _ hwb
  have HW : Hid (w.alloc (.cells #[.int .i64 p.ki, .slice v.pp p.np v.pc, .slice v.tp p.nq v.tc, .slice v.sp p.ns v.sc, .int .u64 p.sd, .int .u64 p.lk, .int .u64 p.en, .int .i64 p.bu, .int .i64 p.fu] 27) = wb) := hwb
  obtain ⟨wl, hwl⟩ : ∃ wl, wb.alloc (.cells #[.int .i64 0, .slice none 0 0, .int .i64 0, .int .i64 0, .int .i64 0] 30) = wl := ⟨_, rfl⟩
  have HL : Hid (wb.alloc (.cells #[.int .i64 0, .slice none 0 0, .int .i64 0, .int .i64 0, .int .i64 0] 30) = wl) := hwl
  have hb1 : Below wb.heap.size wb wl := by rw [← hwl]; exact (Below.refl _ wb).alloc (Nat.le_refl _) _
  have hbw : Below w.heap.size w wl := hb0.trans (hb1.mono hb0.size)
  have hlay : wl.heap[w.heap.size + 1]? = some (.cells #[.int .i64 0, .slice none 0 0, .int .i64 0, .int .i64 0, .int .i64 0] 30 (0, 0)) := by rw [← hwl, ← hsz]; exact World.alloc_heap_new wb _
  have HV := rvalid_any p v wl (h.below hbw)
  have hszl : wl.heap.size = w.heap.size + 2 := by rw [← hwl, World.size_alloc, hsz]
  obtain ⟨⟨c0, c1, c2, c3⟩, c4, c5, c6, c7, c8⟩ := cells9 hbox
  rw [← hwb] at c0 c1 c2 c3 c4 c5 c6 c7 c8
  have HB : Hid (Below w.heap.size w wl ∧ wl.heap[w.heap.size + 1]? = some (.cells #[.int .i64 0, .slice none 0 0, .int .i64 0, .int .i64 0, .int .i64 0] 30 (0, 0)) ∧ wl.heap.size = w.heap.size + 2) := ⟨hbw, hlay, hszl⟩
  have HVC := hid6 hV
  have d0 : (cv != 0) = true := by simp [hc]
  have d0b : (cv == 0) = false := by simp [hc]
  clear h hwb hwl hb0 hb1 hbox hsz hV hbw hlay hszl
  go_enter Try.func8, Try.ntmps8
  go_upto_region 2 with (go_at_call 6; rw [HW.out, HL.out]; (with_reducible refine HV.mono ?_); rintro e w1 ⟨cc, rfl, h5, h6⟩; obtain rfl : cv = cc := HVC.out.one h5; have H1 : Hid (Below wl.heap.size wl w1) := h6; clear h5 h6)
  clear c0 c1 c2 c3 c4 c5 c6 c7 c8 HV
  have hly := (H1.out.block _ (by have := HB.out.2.2; omega)).trans HB.out.2.1
  obtain ⟨e0, e1, e2, e3, e4⟩ := cells5q hly
  have fz := frz5q hly
  have HLL : Hid (w1.heap[w.heap.size + 1]? = some (.cells #[.int .i64 0, .slice none 0 0, .int .i64 0, .int .i64 0, .int .i64 0] 30 (0, 0)) ∧ Below w.heap.size w w1) := ⟨hly, HB.out.1.trans (H1.out.mono HB.out.1.size)⟩
  clear hly
  go_wp2_with fail
  generalize hWF : (World.setCell (World.setCell (World.setCell (World.setCell (World.setCell w1 _ _) _ _) _ _) _ _) _ _) = wF
  obtain ⟨q1, q2, q3, q4⟩ := put5 HLL.out.1 _ _ _ _ _ wF hWF
  obtain ⟨f0, f1, f2, f3, f4⟩ := cells5q q1
  refine bodyPost_ret (v := .tuple #[.agg #[.int .i64 0, .slice none 0 0, .int .i64 0, .int .i64 0, .int .i64 0], .int .i64 cv]) (by simp [results, Try.results8, go_sem, f0, f1, f2, f3, f4]; try rfl) rfl ?_
  exact ⟨rfl, q3 _ _ HLL.out.2 (by omega)⟩
set_option maxRecDepth 100000 in
set_option maxHeartbeats 2000000 in
theorem rspread_wkLo (p : Pl) (v : PlV) (wk way : Int) (hV : VC p 0) (hk : wk < 1) (w : World) (h : PlAt w p v) :
    Calls Try.prog 8 #[.agg #[.int .i64 p.ki, .slice v.pp p.np v.pc, .slice v.tp p.nq v.tc, .slice v.sp p.ns v.sc, .int .u64 p.sd, .int .u64 p.lk, .int .u64 p.en, .int .i64 p.bu, .int .i64 p.fu], .int .i64 wk, .int .i64 way] w fun e w' => e = .returned (.tuple #[.agg #[.int .i64 0, .slice none 0 0, .int .i64 0, .int .i64 0, .int .i64 0], .int .i64 100]) ∧ Below w.heap.size w w' := by
  obtain ⟨wb, hwb⟩ : ∃ wb, w.alloc (.cells #[.int .i64 p.ki, .slice v.pp p.np v.pc, .slice v.tp p.nq v.tc, .slice v.sp p.ns v.sc, .int .u64 p.sd, .int .u64 p.lk, .int .u64 p.en, .int .i64 p.bu, .int .i64 p.fu] 27) = wb := ⟨_, rfl⟩
  obtain ⟨hb0, hbox, hsz⟩ := boxed _ _ _ hwb
  have HW : Hid (w.alloc (.cells #[.int .i64 p.ki, .slice v.pp p.np v.pc, .slice v.tp p.nq v.tc, .slice v.sp p.ns v.sc, .int .u64 p.sd, .int .u64 p.lk, .int .u64 p.en, .int .i64 p.bu, .int .i64 p.fu] 27) = wb) := hwb
  obtain ⟨wl, hwl⟩ : ∃ wl, wb.alloc (.cells #[.int .i64 0, .slice none 0 0, .int .i64 0, .int .i64 0, .int .i64 0] 30) = wl := ⟨_, rfl⟩
  have HL : Hid (wb.alloc (.cells #[.int .i64 0, .slice none 0 0, .int .i64 0, .int .i64 0, .int .i64 0] 30) = wl) := hwl
  have hb1 : Below wb.heap.size wb wl := by rw [← hwl]; exact (Below.refl _ wb).alloc (Nat.le_refl _) _
  have hbw : Below w.heap.size w wl := hb0.trans (hb1.mono hb0.size)
  have hlay : wl.heap[w.heap.size + 1]? = some (.cells #[.int .i64 0, .slice none 0 0, .int .i64 0, .int .i64 0, .int .i64 0] 30 (0, 0)) := by rw [← hwl, ← hsz]; exact World.alloc_heap_new wb _
  have HV := rvalid_any p v wl (h.below hbw)
  have hszl : wl.heap.size = w.heap.size + 2 := by rw [← hwl, World.size_alloc, hsz]
  obtain ⟨⟨c0, c1, c2, c3⟩, c4, c5, c6, c7, c8⟩ := cells9 hbox
  rw [← hwb] at c0 c1 c2 c3 c4 c5 c6 c7 c8
  have HB : Hid (Below w.heap.size w wl ∧ wl.heap[w.heap.size + 1]? = some (.cells #[.int .i64 0, .slice none 0 0, .int .i64 0, .int .i64 0, .int .i64 0] 30 (0, 0)) ∧ wl.heap.size = w.heap.size + 2) := ⟨hbw, hlay, hszl⟩
  have HVC := hid6 hV
  have d1 : decide (wk < 1) = true := by simp; omega
  clear h hwb hwl hb0 hb1 hbox hsz hV hbw hlay hszl
  go_enter Try.func8, Try.ntmps8
  go_upto_region 2 with (go_at_call 6; rw [HW.out, HL.out]; (with_reducible refine HV.mono ?_); rintro e w1 ⟨cc, rfl, h5, h6⟩; obtain rfl : 0 = cc := HVC.out.one h5; have H1 : Hid (Below wl.heap.size wl w1) := h6; clear h5 h6)
  clear c0 c1 c2 c3 c4 c5 c6 c7 c8 HV
  have hly := (H1.out.block _ (by have := HB.out.2.2; omega)).trans HB.out.2.1
  obtain ⟨e0, e1, e2, e3, e4⟩ := cells5q hly
  have fz := frz5q hly
  have HLL : Hid (w1.heap[w.heap.size + 1]? = some (.cells #[.int .i64 0, .slice none 0 0, .int .i64 0, .int .i64 0, .int .i64 0] 30 (0, 0)) ∧ Below w.heap.size w w1) := ⟨hly, HB.out.1.trans (H1.out.mono HB.out.1.size)⟩
  clear hly
  go_wp2_with fail
  generalize hWF : (World.setCell (World.setCell (World.setCell (World.setCell (World.setCell w1 _ _) _ _) _ _) _ _) _ _) = wF
  obtain ⟨q1, q2, q3, q4⟩ := put5 HLL.out.1 _ _ _ _ _ wF hWF
  obtain ⟨f0, f1, f2, f3, f4⟩ := cells5q q1
  refine bodyPost_ret (v := .tuple #[.agg #[.int .i64 0, .slice none 0 0, .int .i64 0, .int .i64 0, .int .i64 0], .int .i64 100]) (by simp [results, Try.results8, go_sem, f0, f1, f2, f3, f4]; try rfl) rfl ?_
  exact ⟨rfl, q3 _ _ HLL.out.2 (by omega)⟩
set_option maxRecDepth 100000 in
set_option maxHeartbeats 2000000 in
theorem rspread_wkHi (p : Pl) (v : PlV) (wk way : Int) (hV : VC p 0) (hk : 64 < wk) (w : World) (h : PlAt w p v) :
    Calls Try.prog 8 #[.agg #[.int .i64 p.ki, .slice v.pp p.np v.pc, .slice v.tp p.nq v.tc, .slice v.sp p.ns v.sc, .int .u64 p.sd, .int .u64 p.lk, .int .u64 p.en, .int .i64 p.bu, .int .i64 p.fu], .int .i64 wk, .int .i64 way] w fun e w' => e = .returned (.tuple #[.agg #[.int .i64 0, .slice none 0 0, .int .i64 0, .int .i64 0, .int .i64 0], .int .i64 100]) ∧ Below w.heap.size w w' := by
  obtain ⟨wb, hwb⟩ : ∃ wb, w.alloc (.cells #[.int .i64 p.ki, .slice v.pp p.np v.pc, .slice v.tp p.nq v.tc, .slice v.sp p.ns v.sc, .int .u64 p.sd, .int .u64 p.lk, .int .u64 p.en, .int .i64 p.bu, .int .i64 p.fu] 27) = wb := ⟨_, rfl⟩
  obtain ⟨hb0, hbox, hsz⟩ := boxed _ _ _ hwb
  have HW : Hid (w.alloc (.cells #[.int .i64 p.ki, .slice v.pp p.np v.pc, .slice v.tp p.nq v.tc, .slice v.sp p.ns v.sc, .int .u64 p.sd, .int .u64 p.lk, .int .u64 p.en, .int .i64 p.bu, .int .i64 p.fu] 27) = wb) := hwb
  obtain ⟨wl, hwl⟩ : ∃ wl, wb.alloc (.cells #[.int .i64 0, .slice none 0 0, .int .i64 0, .int .i64 0, .int .i64 0] 30) = wl := ⟨_, rfl⟩
  have HL : Hid (wb.alloc (.cells #[.int .i64 0, .slice none 0 0, .int .i64 0, .int .i64 0, .int .i64 0] 30) = wl) := hwl
  have hb1 : Below wb.heap.size wb wl := by rw [← hwl]; exact (Below.refl _ wb).alloc (Nat.le_refl _) _
  have hbw : Below w.heap.size w wl := hb0.trans (hb1.mono hb0.size)
  have hlay : wl.heap[w.heap.size + 1]? = some (.cells #[.int .i64 0, .slice none 0 0, .int .i64 0, .int .i64 0, .int .i64 0] 30 (0, 0)) := by rw [← hwl, ← hsz]; exact World.alloc_heap_new wb _
  have HV := rvalid_any p v wl (h.below hbw)
  have hszl : wl.heap.size = w.heap.size + 2 := by rw [← hwl, World.size_alloc, hsz]
  obtain ⟨⟨c0, c1, c2, c3⟩, c4, c5, c6, c7, c8⟩ := cells9 hbox
  rw [← hwb] at c0 c1 c2 c3 c4 c5 c6 c7 c8
  have HB : Hid (Below w.heap.size w wl ∧ wl.heap[w.heap.size + 1]? = some (.cells #[.int .i64 0, .slice none 0 0, .int .i64 0, .int .i64 0, .int .i64 0] 30 (0, 0)) ∧ wl.heap.size = w.heap.size + 2) := ⟨hbw, hlay, hszl⟩
  have HVC := hid6 hV
  have d1 : decide (wk < 1) = false := by simp; omega
  have d2 : decide (64 < wk) = true := by simp; omega
  clear h hwb hwl hb0 hb1 hbox hsz hV hbw hlay hszl
  go_enter Try.func8, Try.ntmps8
  go_upto_region 2 with (go_at_call 6; rw [HW.out, HL.out]; (with_reducible refine HV.mono ?_); rintro e w1 ⟨cc, rfl, h5, h6⟩; obtain rfl : 0 = cc := HVC.out.one h5; have H1 : Hid (Below wl.heap.size wl w1) := h6; clear h5 h6)
  clear c0 c1 c2 c3 c4 c5 c6 c7 c8 HV
  have hly := (H1.out.block _ (by have := HB.out.2.2; omega)).trans HB.out.2.1
  obtain ⟨e0, e1, e2, e3, e4⟩ := cells5q hly
  have fz := frz5q hly
  have HLL : Hid (w1.heap[w.heap.size + 1]? = some (.cells #[.int .i64 0, .slice none 0 0, .int .i64 0, .int .i64 0, .int .i64 0] 30 (0, 0)) ∧ Below w.heap.size w w1) := ⟨hly, HB.out.1.trans (H1.out.mono HB.out.1.size)⟩
  clear hly
  go_wp2_with fail
  generalize hWF : (World.setCell (World.setCell (World.setCell (World.setCell (World.setCell w1 _ _) _ _) _ _) _ _) _ _) = wF
  obtain ⟨q1, q2, q3, q4⟩ := put5 HLL.out.1 _ _ _ _ _ wF hWF
  obtain ⟨f0, f1, f2, f3, f4⟩ := cells5q q1
  refine bodyPost_ret (v := .tuple #[.agg #[.int .i64 0, .slice none 0 0, .int .i64 0, .int .i64 0, .int .i64 0], .int .i64 100]) (by simp [results, Try.results8, go_sem, f0, f1, f2, f3, f4]; try rfl) rfl ?_
  exact ⟨rfl, q3 _ _ HLL.out.2 (by omega)⟩
set_option maxRecDepth 100000 in
set_option maxHeartbeats 2000000 in
theorem rspread_wayLo (p : Pl) (v : PlV) (wk way : Int) (hV : VC p 0) (hk : 1 ≤ wk ∧ wk ≤ 64) (hy : way < 1) (w : World) (h : PlAt w p v) :
    Calls Try.prog 8 #[.agg #[.int .i64 p.ki, .slice v.pp p.np v.pc, .slice v.tp p.nq v.tc, .slice v.sp p.ns v.sc, .int .u64 p.sd, .int .u64 p.lk, .int .u64 p.en, .int .i64 p.bu, .int .i64 p.fu], .int .i64 wk, .int .i64 way] w fun e w' => e = .returned (.tuple #[.agg #[.int .i64 0, .slice none 0 0, .int .i64 0, .int .i64 0, .int .i64 0], .int .i64 63]) ∧ Below w.heap.size w w' := by
  obtain ⟨wb, hwb⟩ : ∃ wb, w.alloc (.cells #[.int .i64 p.ki, .slice v.pp p.np v.pc, .slice v.tp p.nq v.tc, .slice v.sp p.ns v.sc, .int .u64 p.sd, .int .u64 p.lk, .int .u64 p.en, .int .i64 p.bu, .int .i64 p.fu] 27) = wb := ⟨_, rfl⟩
  obtain ⟨hb0, hbox, hsz⟩ := boxed _ _ _ hwb
  have HW : Hid (w.alloc (.cells #[.int .i64 p.ki, .slice v.pp p.np v.pc, .slice v.tp p.nq v.tc, .slice v.sp p.ns v.sc, .int .u64 p.sd, .int .u64 p.lk, .int .u64 p.en, .int .i64 p.bu, .int .i64 p.fu] 27) = wb) := hwb
  obtain ⟨wl, hwl⟩ : ∃ wl, wb.alloc (.cells #[.int .i64 0, .slice none 0 0, .int .i64 0, .int .i64 0, .int .i64 0] 30) = wl := ⟨_, rfl⟩
  have HL : Hid (wb.alloc (.cells #[.int .i64 0, .slice none 0 0, .int .i64 0, .int .i64 0, .int .i64 0] 30) = wl) := hwl
  have hb1 : Below wb.heap.size wb wl := by rw [← hwl]; exact (Below.refl _ wb).alloc (Nat.le_refl _) _
  have hbw : Below w.heap.size w wl := hb0.trans (hb1.mono hb0.size)
  have hlay : wl.heap[w.heap.size + 1]? = some (.cells #[.int .i64 0, .slice none 0 0, .int .i64 0, .int .i64 0, .int .i64 0] 30 (0, 0)) := by rw [← hwl, ← hsz]; exact World.alloc_heap_new wb _
  have HV := rvalid_any p v wl (h.below hbw)
  have hszl : wl.heap.size = w.heap.size + 2 := by rw [← hwl, World.size_alloc, hsz]
  obtain ⟨⟨c0, c1, c2, c3⟩, c4, c5, c6, c7, c8⟩ := cells9 hbox
  rw [← hwb] at c0 c1 c2 c3 c4 c5 c6 c7 c8
  have HB : Hid (Below w.heap.size w wl ∧ wl.heap[w.heap.size + 1]? = some (.cells #[.int .i64 0, .slice none 0 0, .int .i64 0, .int .i64 0, .int .i64 0] 30 (0, 0)) ∧ wl.heap.size = w.heap.size + 2) := ⟨hbw, hlay, hszl⟩
  have HVC := hid6 hV
  have d1 : decide (wk < 1) = false := by simp; omega
  have d2 : decide (64 < wk) = false := by simp; omega
  have d3 : decide (way < 1) = true := by simp; omega
  clear h hwb hwl hb0 hb1 hbox hsz hV hbw hlay hszl
  go_enter Try.func8, Try.ntmps8
  go_upto_region 2 with (go_at_call 6; rw [HW.out, HL.out]; (with_reducible refine HV.mono ?_); rintro e w1 ⟨cc, rfl, h5, h6⟩; obtain rfl : 0 = cc := HVC.out.one h5; have H1 : Hid (Below wl.heap.size wl w1) := h6; clear h5 h6)
  clear c0 c1 c2 c3 c4 c5 c6 c7 c8 HV
  have hly := (H1.out.block _ (by have := HB.out.2.2; omega)).trans HB.out.2.1
  obtain ⟨e0, e1, e2, e3, e4⟩ := cells5q hly
  have fz := frz5q hly
  have HLL : Hid (w1.heap[w.heap.size + 1]? = some (.cells #[.int .i64 0, .slice none 0 0, .int .i64 0, .int .i64 0, .int .i64 0] 30 (0, 0)) ∧ Below w.heap.size w w1) := ⟨hly, HB.out.1.trans (H1.out.mono HB.out.1.size)⟩
  clear hly
  go_wp2_with fail
  generalize hWF : (World.setCell (World.setCell (World.setCell (World.setCell (World.setCell w1 _ _) _ _) _ _) _ _) _ _) = wF
  obtain ⟨q1, q2, q3, q4⟩ := put5 HLL.out.1 _ _ _ _ _ wF hWF
  obtain ⟨f0, f1, f2, f3, f4⟩ := cells5q q1
  refine bodyPost_ret (v := .tuple #[.agg #[.int .i64 0, .slice none 0 0, .int .i64 0, .int .i64 0, .int .i64 0], .int .i64 63]) (by simp [results, Try.results8, go_sem, f0, f1, f2, f3, f4]; try rfl) rfl ?_
  exact ⟨rfl, q3 _ _ HLL.out.2 (by omega)⟩
set_option maxRecDepth 100000 in
set_option maxHeartbeats 2000000 in
theorem rspread_wayHi (p : Pl) (v : PlV) (wk way : Int) (hV : VC p 0) (hk : 1 ≤ wk ∧ wk ≤ 64) (hy : 4 < way) (w : World) (h : PlAt w p v) :
    Calls Try.prog 8 #[.agg #[.int .i64 p.ki, .slice v.pp p.np v.pc, .slice v.tp p.nq v.tc, .slice v.sp p.ns v.sc, .int .u64 p.sd, .int .u64 p.lk, .int .u64 p.en, .int .i64 p.bu, .int .i64 p.fu], .int .i64 wk, .int .i64 way] w fun e w' => e = .returned (.tuple #[.agg #[.int .i64 0, .slice none 0 0, .int .i64 0, .int .i64 0, .int .i64 0], .int .i64 63]) ∧ Below w.heap.size w w' := by
  obtain ⟨wb, hwb⟩ : ∃ wb, w.alloc (.cells #[.int .i64 p.ki, .slice v.pp p.np v.pc, .slice v.tp p.nq v.tc, .slice v.sp p.ns v.sc, .int .u64 p.sd, .int .u64 p.lk, .int .u64 p.en, .int .i64 p.bu, .int .i64 p.fu] 27) = wb := ⟨_, rfl⟩
  obtain ⟨hb0, hbox, hsz⟩ := boxed _ _ _ hwb
  have HW : Hid (w.alloc (.cells #[.int .i64 p.ki, .slice v.pp p.np v.pc, .slice v.tp p.nq v.tc, .slice v.sp p.ns v.sc, .int .u64 p.sd, .int .u64 p.lk, .int .u64 p.en, .int .i64 p.bu, .int .i64 p.fu] 27) = wb) := hwb
  obtain ⟨wl, hwl⟩ : ∃ wl, wb.alloc (.cells #[.int .i64 0, .slice none 0 0, .int .i64 0, .int .i64 0, .int .i64 0] 30) = wl := ⟨_, rfl⟩
  have HL : Hid (wb.alloc (.cells #[.int .i64 0, .slice none 0 0, .int .i64 0, .int .i64 0, .int .i64 0] 30) = wl) := hwl
  have hb1 : Below wb.heap.size wb wl := by rw [← hwl]; exact (Below.refl _ wb).alloc (Nat.le_refl _) _
  have hbw : Below w.heap.size w wl := hb0.trans (hb1.mono hb0.size)
  have hlay : wl.heap[w.heap.size + 1]? = some (.cells #[.int .i64 0, .slice none 0 0, .int .i64 0, .int .i64 0, .int .i64 0] 30 (0, 0)) := by rw [← hwl, ← hsz]; exact World.alloc_heap_new wb _
  have HV := rvalid_any p v wl (h.below hbw)
  have hszl : wl.heap.size = w.heap.size + 2 := by rw [← hwl, World.size_alloc, hsz]
  obtain ⟨⟨c0, c1, c2, c3⟩, c4, c5, c6, c7, c8⟩ := cells9 hbox
  rw [← hwb] at c0 c1 c2 c3 c4 c5 c6 c7 c8
  have HB : Hid (Below w.heap.size w wl ∧ wl.heap[w.heap.size + 1]? = some (.cells #[.int .i64 0, .slice none 0 0, .int .i64 0, .int .i64 0, .int .i64 0] 30 (0, 0)) ∧ wl.heap.size = w.heap.size + 2) := ⟨hbw, hlay, hszl⟩
  have HVC := hid6 hV
  have d1 : decide (wk < 1) = false := by simp; omega
  have d2 : decide (64 < wk) = false := by simp; omega
  have d3 : decide (way < 1) = false := by simp; omega
  have d4 : decide (4 < way) = true := by simp; omega
  clear h hwb hwl hb0 hb1 hbox hsz hV hbw hlay hszl
  go_enter Try.func8, Try.ntmps8
  go_upto_region 2 with (go_at_call 6; rw [HW.out, HL.out]; (with_reducible refine HV.mono ?_); rintro e w1 ⟨cc, rfl, h5, h6⟩; obtain rfl : 0 = cc := HVC.out.one h5; have H1 : Hid (Below wl.heap.size wl w1) := h6; clear h5 h6)
  clear c0 c1 c2 c3 c4 c5 c6 c7 c8 HV
  have hly := (H1.out.block _ (by have := HB.out.2.2; omega)).trans HB.out.2.1
  obtain ⟨e0, e1, e2, e3, e4⟩ := cells5q hly
  have fz := frz5q hly
  have HLL : Hid (w1.heap[w.heap.size + 1]? = some (.cells #[.int .i64 0, .slice none 0 0, .int .i64 0, .int .i64 0, .int .i64 0] 30 (0, 0)) ∧ Below w.heap.size w w1) := ⟨hly, HB.out.1.trans (H1.out.mono HB.out.1.size)⟩
  clear hly
  go_wp2_with fail
  generalize hWF : (World.setCell (World.setCell (World.setCell (World.setCell (World.setCell w1 _ _) _ _) _ _) _ _) _ _) = wF
  obtain ⟨q1, q2, q3, q4⟩ := put5 HLL.out.1 _ _ _ _ _ wF hWF
  obtain ⟨f0, f1, f2, f3, f4⟩ := cells5q q1
  refine bodyPost_ret (v := .tuple #[.agg #[.int .i64 0, .slice none 0 0, .int .i64 0, .int .i64 0, .int .i64 0], .int .i64 63]) (by simp [results, Try.results8, go_sem, f0, f1, f2, f3, f4]; try rfl) rfl ?_
  exact ⟨rfl, q3 _ _ HLL.out.2 (by omega)⟩
end Go.Proofs.Ytkgifanlodlilaa
