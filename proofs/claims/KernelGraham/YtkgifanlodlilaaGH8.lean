import Derived.Test.YtkgifanlodlilaaGH7
import Derived.Test.YtkgifanlodlilaaSV4
import Derived.Deep.RegionLaw
import Derived.Deep.RegionHeld3
import Derived.Deep.Cut
import Derived.Deep.DeepCutAuto
import Derived.Deep.CutBlock
import Derived.Deep.CutRange
import Derived.BigQuiet
import Derived.Handy
namespace Go.Proofs.Ytkgifanlodlilaa
open Go.ChangeShapes Go.WideShapes Go.ChangeAt Go.RowKit
set_option linter.unusedVariables false
set_option linter.unusedSimpArgs false

set_option maxRecDepth 100000 in
set_option maxHeartbeats 2000000 in
theorem graham_bad (p : Pl) (v : PlV) (wk : Int) (cv : Int) (hc : cv ≠ 0) (hV : VC p cv) (w : World) (h : PlAt w p v) : Calls Try.prog 3 #[.agg #[.int .i64 p.ki, .slice v.pp p.np v.pc, .slice v.tp p.nq v.tc, .slice v.sp p.ns v.sc, .int .u64 p.sd, .int .u64 p.lk, .int .u64 p.en, .int .i64 p.bu, .int .i64 p.fu], .int .i64 wk] w fun e w' => e = .returned (.bool true) ∧ Below w.heap.size w w' := by
  obtain ⟨wb, hwb⟩ : ∃ wb, w.alloc (.cells #[.int .i64 p.ki, .slice v.pp p.np v.pc, .slice v.tp p.nq v.tc, .slice v.sp p.ns v.sc, .int .u64 p.sd, .int .u64 p.lk, .int .u64 p.en, .int .i64 p.bu, .int .i64 p.fu] 27) = wb := ⟨_, rfl⟩
  obtain ⟨hb0, hbox, hsz⟩ := boxed _ _ _ hwb
  have HW : Hid (w.alloc (.cells #[.int .i64 p.ki, .slice v.pp p.np v.pc, .slice v.tp p.nq v.tc, .slice v.sp p.ns v.sc, .int .u64 p.sd, .int .u64 p.lk, .int .u64 p.en, .int .i64 p.bu, .int .i64 p.fu] 27) = wb) := hwb
  have HS := spread_bad p v wk 3 cv hc hV wb (h.below hb0)
  have HV := fun W hW => rvalid_any p v W ((h.below hb0).below (show Below wb.heap.size wb W from hW))
  obtain ⟨⟨c0, c1, c2, c3⟩, c4, c5, c6, c7, c8⟩ := cells9 hbox
  rw [← hwb] at c0 c1 c2 c3 c4 c5 c6 c7 c8
  have HB : Hid (Below w.heap.size w wb ∧ wb.heap[w.heap.size]? = some (.cells #[.int .i64 p.ki, .slice v.pp p.np v.pc, .slice v.tp p.nq v.tc, .slice v.sp p.ns v.sc, .int .u64 p.sd, .int .u64 p.lk, .int .u64 p.en, .int .i64 p.bu, .int .i64 p.fu] 27 (0, 0)) ∧ wb.heap.size = w.heap.size + 1) := ⟨hb0, hbox, hsz⟩
  have HVC := hid6 hV
  have d0 : (cv != 0) = true := by simp [hc]
  have d0b : (cv == 0) = false := by simp [hc]
  clear h hwb hb0 hbox hsz hV
  go_enter Try.func3, Try.ntmps3
  go_upto_region 2 with (go_at_call 5; rw [HW.out]; (with_reducible refine HS.mono ?_); rintro e w1 ⟨rfl, h6⟩; have H1 : Hid (Below wb.heap.size wb w1) := h6; clear h6)
  clear c0 c1 c2 c3 c4 c5 c6 c7 c8 HS
  obtain ⟨w2, hw2⟩ : ∃ w2, w1.alloc (.cells #[.int .i64 0, .slice none 0 0, .int .i64 0, .int .i64 0, .int .i64 0] 30) = w2 := ⟨_, rfl⟩
  have hb2 : Below wb.heap.size wb w2 := by rw [← hw2]; exact H1.out.alloc H1.out.size _
  have hbx := (hb2.block _ (by have := HB.out.2.2; omega)).trans HB.out.2.1
  obtain ⟨⟨c0, c1, c2, c3⟩, c4, c5, c6, c7, c8⟩ := cells9 hbx
  rw [hw2]
  have HV2 := HV w2 hb2
  have H2 : Hid (Below wb.heap.size wb w2) := hb2
  clear hw2 hb2 hbx HV
  go_upto_region 3 with fail
  go_wp2_with (go_at_call 6; (with_reducible refine HV2.mono ?_); rintro e w3 ⟨cc, rfl, h5, h6⟩; obtain rfl : cv = cc := HVC.out.one h5; have H3 : Hid (Below w2.heap.size w2 w3) := h6; clear h5 h6)
  go_ret
  have hb3 : Below wb.heap.size wb w3 := H2.out.trans (H3.out.mono H2.out.size)
  exact ⟨rfl, HB.out.1.trans (hb3.mono HB.out.1.size)⟩
set_option maxRecDepth 100000 in
set_option maxHeartbeats 2000000 in
theorem graham_lo (p : Pl) (v : PlV) (wk : Int) (hV : VC p 0) (hk : wk < 1) (w : World) (h : PlAt w p v) : Calls Try.prog 3 #[.agg #[.int .i64 p.ki, .slice v.pp p.np v.pc, .slice v.tp p.nq v.tc, .slice v.sp p.ns v.sc, .int .u64 p.sd, .int .u64 p.lk, .int .u64 p.en, .int .i64 p.bu, .int .i64 p.fu], .int .i64 wk] w fun e w' => e = .returned (.bool true) ∧ Below w.heap.size w w' := by
  obtain ⟨wb, hwb⟩ : ∃ wb, w.alloc (.cells #[.int .i64 p.ki, .slice v.pp p.np v.pc, .slice v.tp p.nq v.tc, .slice v.sp p.ns v.sc, .int .u64 p.sd, .int .u64 p.lk, .int .u64 p.en, .int .i64 p.bu, .int .i64 p.fu] 27) = wb := ⟨_, rfl⟩
  obtain ⟨hb0, hbox, hsz⟩ := boxed _ _ _ hwb
  have HW : Hid (w.alloc (.cells #[.int .i64 p.ki, .slice v.pp p.np v.pc, .slice v.tp p.nq v.tc, .slice v.sp p.ns v.sc, .int .u64 p.sd, .int .u64 p.lk, .int .u64 p.en, .int .i64 p.bu, .int .i64 p.fu] 27) = wb) := hwb
  have HS := spread_wkLo p v wk 3 hV hk wb (h.below hb0)
  have HV := fun W hW => rvalid_any p v W ((h.below hb0).below (show Below wb.heap.size wb W from hW))
  obtain ⟨⟨c0, c1, c2, c3⟩, c4, c5, c6, c7, c8⟩ := cells9 hbox
  rw [← hwb] at c0 c1 c2 c3 c4 c5 c6 c7 c8
  have HB : Hid (Below w.heap.size w wb ∧ wb.heap[w.heap.size]? = some (.cells #[.int .i64 p.ki, .slice v.pp p.np v.pc, .slice v.tp p.nq v.tc, .slice v.sp p.ns v.sc, .int .u64 p.sd, .int .u64 p.lk, .int .u64 p.en, .int .i64 p.bu, .int .i64 p.fu] 27 (0, 0)) ∧ wb.heap.size = w.heap.size + 1) := ⟨hb0, hbox, hsz⟩
  have HVC := hid6 hV
  have d1 : decide (wk < 1) = true := by simp; omega
  clear h hwb hb0 hbox hsz hV
  go_enter Try.func3, Try.ntmps3
  go_upto_region 2 with (go_at_call 5; rw [HW.out]; (with_reducible refine HS.mono ?_); rintro e w1 ⟨rfl, h6⟩; have H1 : Hid (Below wb.heap.size wb w1) := h6; clear h6)
  clear c0 c1 c2 c3 c4 c5 c6 c7 c8 HS
  obtain ⟨w2, hw2⟩ : ∃ w2, w1.alloc (.cells #[.int .i64 0, .slice none 0 0, .int .i64 0, .int .i64 0, .int .i64 0] 30) = w2 := ⟨_, rfl⟩
  have hb2 : Below wb.heap.size wb w2 := by rw [← hw2]; exact H1.out.alloc H1.out.size _
  have hbx := (hb2.block _ (by have := HB.out.2.2; omega)).trans HB.out.2.1
  obtain ⟨⟨c0, c1, c2, c3⟩, c4, c5, c6, c7, c8⟩ := cells9 hbx
  rw [hw2]
  have HV2 := HV w2 hb2
  have H2 : Hid (Below wb.heap.size wb w2) := hb2
  clear hw2 hb2 hbx HV
  go_upto_region 3 with fail
  go_wp2_with (go_at_call 6; (with_reducible refine HV2.mono ?_); rintro e w3 ⟨cc, rfl, h5, h6⟩; obtain rfl : 0 = cc := HVC.out.one h5; have H3 : Hid (Below w2.heap.size w2 w3) := h6; clear h5 h6)
  go_ret
  have hb3 : Below wb.heap.size wb w3 := H2.out.trans (H3.out.mono H2.out.size)
  exact ⟨rfl, HB.out.1.trans (hb3.mono HB.out.1.size)⟩
set_option maxRecDepth 100000 in
set_option maxHeartbeats 2000000 in
theorem graham_hi (p : Pl) (v : PlV) (wk : Int) (hV : VC p 0) (hk : 64 < wk) (w : World) (h : PlAt w p v) : Calls Try.prog 3 #[.agg #[.int .i64 p.ki, .slice v.pp p.np v.pc, .slice v.tp p.nq v.tc, .slice v.sp p.ns v.sc, .int .u64 p.sd, .int .u64 p.lk, .int .u64 p.en, .int .i64 p.bu, .int .i64 p.fu], .int .i64 wk] w fun e w' => e = .returned (.bool true) ∧ Below w.heap.size w w' := by
  obtain ⟨wb, hwb⟩ : ∃ wb, w.alloc (.cells #[.int .i64 p.ki, .slice v.pp p.np v.pc, .slice v.tp p.nq v.tc, .slice v.sp p.ns v.sc, .int .u64 p.sd, .int .u64 p.lk, .int .u64 p.en, .int .i64 p.bu, .int .i64 p.fu] 27) = wb := ⟨_, rfl⟩
  obtain ⟨hb0, hbox, hsz⟩ := boxed _ _ _ hwb
  have HW : Hid (w.alloc (.cells #[.int .i64 p.ki, .slice v.pp p.np v.pc, .slice v.tp p.nq v.tc, .slice v.sp p.ns v.sc, .int .u64 p.sd, .int .u64 p.lk, .int .u64 p.en, .int .i64 p.bu, .int .i64 p.fu] 27) = wb) := hwb
  have HS := spread_wkHi p v wk 3 hV hk wb (h.below hb0)
  have HV := fun W hW => rvalid_any p v W ((h.below hb0).below (show Below wb.heap.size wb W from hW))
  obtain ⟨⟨c0, c1, c2, c3⟩, c4, c5, c6, c7, c8⟩ := cells9 hbox
  rw [← hwb] at c0 c1 c2 c3 c4 c5 c6 c7 c8
  have HB : Hid (Below w.heap.size w wb ∧ wb.heap[w.heap.size]? = some (.cells #[.int .i64 p.ki, .slice v.pp p.np v.pc, .slice v.tp p.nq v.tc, .slice v.sp p.ns v.sc, .int .u64 p.sd, .int .u64 p.lk, .int .u64 p.en, .int .i64 p.bu, .int .i64 p.fu] 27 (0, 0)) ∧ wb.heap.size = w.heap.size + 1) := ⟨hb0, hbox, hsz⟩
  have HVC := hid6 hV
  have d1 : decide (wk < 1) = false := by simp; omega
  have d2 : decide (64 < wk) = true := by simp; omega
  clear h hwb hb0 hbox hsz hV
  go_enter Try.func3, Try.ntmps3
  go_upto_region 2 with (go_at_call 5; rw [HW.out]; (with_reducible refine HS.mono ?_); rintro e w1 ⟨rfl, h6⟩; have H1 : Hid (Below wb.heap.size wb w1) := h6; clear h6)
  clear c0 c1 c2 c3 c4 c5 c6 c7 c8 HS
  obtain ⟨w2, hw2⟩ : ∃ w2, w1.alloc (.cells #[.int .i64 0, .slice none 0 0, .int .i64 0, .int .i64 0, .int .i64 0] 30) = w2 := ⟨_, rfl⟩
  have hb2 : Below wb.heap.size wb w2 := by rw [← hw2]; exact H1.out.alloc H1.out.size _
  have hbx := (hb2.block _ (by have := HB.out.2.2; omega)).trans HB.out.2.1
  obtain ⟨⟨c0, c1, c2, c3⟩, c4, c5, c6, c7, c8⟩ := cells9 hbx
  rw [hw2]
  have HV2 := HV w2 hb2
  have H2 : Hid (Below wb.heap.size wb w2) := hb2
  clear hw2 hb2 hbx HV
  go_upto_region 3 with fail
  go_wp2_with (go_at_call 6; (with_reducible refine HV2.mono ?_); rintro e w3 ⟨cc, rfl, h5, h6⟩; obtain rfl : 0 = cc := HVC.out.one h5; have H3 : Hid (Below w2.heap.size w2 w3) := h6; clear h5 h6)
  go_ret
  have hb3 : Below wb.heap.size wb w3 := H2.out.trans (H3.out.mono H2.out.size)
  exact ⟨rfl, HB.out.1.trans (hb3.mono HB.out.1.size)⟩
end Go.Proofs.Ytkgifanlodlilaa
