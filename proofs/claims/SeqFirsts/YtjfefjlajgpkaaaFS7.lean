import Derived.Test.YtjfefjlajgpkaaaFS6
namespace Go.Proofs.Ytjfefjlajgpkaaa
open Go.ChangeShapes Go.WideShapes Go.ChangeAt Go.RowKit
set_option linter.unusedVariables false
set_option linter.unusedSimpArgs false

theorem first_good (p : Pl) (v : PlV) (w : World) (h : PlAt w p v) (hr : RoomyL p) (hv : VC p 0) : Calls Try.prog 16 #[.agg #[.int .i64 p.ki, .slice v.pp p.np v.pc, .slice v.tp p.nq v.tc, .slice v.sp p.ns v.sc, .int .u64 p.sd, .int .u64 p.lk, .int .u64 p.en, .int .i64 p.bu, .int .i64 p.fu]] w fun e w' => ∃ q c q2 c2, e = .returned (.tuple #[.agg #[.slice q p.nq c, .slice q2 p.ns c2, .slice none 0 0], .int .i64 0]) ∧ FP w' p q q2 ∧ Below w.heap.size w w' := by
  refine (first_any p v w h hr).mono ?_
  rintro e w' ⟨cd, h1, h2, ⟨h3, _⟩ | ⟨_, q, c, q2, c2, h4, h5⟩⟩
  · exact absurd (VC.one h1 hv) h3
  · exact ⟨q, c, q2, c2, h4, h5, h2⟩
theorem first_bad (p : Pl) (v : PlV) (w : World) (h : PlAt w p v) (hr : RoomyL p) (hv : ¬ VC p 0) : Calls Try.prog 16 #[.agg #[.int .i64 p.ki, .slice v.pp p.np v.pc, .slice v.tp p.nq v.tc, .slice v.sp p.ns v.sc, .int .u64 p.sd, .int .u64 p.lk, .int .u64 p.en, .int .i64 p.bu, .int .i64 p.fu]] w fun e w' => ∃ cd, cd ≠ 0 ∧ VC p cd ∧ e = .returned (.tuple #[.agg #[.slice none 0 0, .slice none 0 0, .slice none 0 0], .int .i64 cd]) ∧ Below w.heap.size w w' := by
  refine (first_any p v w h hr).mono ?_
  rintro e w' ⟨cd, h1, h2, ⟨h3, h4⟩ | ⟨h3, _⟩⟩
  · exact ⟨cd, h3, h1, h4, h2⟩
  · rw [h3] at h1
    exact absurd h1 hv
theorem rfirst_fp (p : Pl) (v : PlV) (w : World) (h : PlAt w p v) (hr : RoomyL p) (hT : GT p) (hS : GS p) : Calls Try.prog 20 #[.agg #[.int .i64 p.ki, .slice v.pp p.np v.pc, .slice v.tp p.nq v.tc, .slice v.sp p.ns v.sc, .int .u64 p.sd, .int .u64 p.lk, .int .u64 p.en, .int .i64 p.bu, .int .i64 p.fu]] w fun e w' => ∃ q c q2 c2, e = .returned (.agg #[.slice q p.nq c, .slice q2 p.ns c2, .slice none 0 0]) ∧ FP w' p q q2 ∧ Below w.heap.size w w' := by
  refine (rfirst_any p v w h hr hT hS).mono ?_
  rintro e w' ⟨q, c, A, q2, c2, d, h1, h2, h3, h4, h5, h6, h7⟩
  exact ⟨q, c, q2, c2, h1, ⟨A, d, h2, h3, h4, h5, h6⟩, h7⟩
set_option maxRecDepth 100000 in
set_option maxHeartbeats 4000000 in
theorem firsts_bad (p : Pl) (v : PlV) (w : World) (h : PlAt w p v) (hr : RoomyL p) (hv : ¬ VC p 0) : Calls Try.prog 4 #[.agg #[.int .i64 p.ki, .slice v.pp p.np v.pc, .slice v.tp p.nq v.tc, .slice v.sp p.ns v.sc, .int .u64 p.sd, .int .u64 p.lk, .int .u64 p.en, .int .i64 p.bu, .int .i64 p.fu]] w fun e w' => e = .returned (.bool true) ∧ Below w.heap.size w w' := by
  obtain ⟨wb, hwb⟩ : ∃ wb, w.alloc (.cells #[.int .i64 p.ki, .slice v.pp p.np v.pc, .slice v.tp p.nq v.tc, .slice v.sp p.ns v.sc, .int .u64 p.sd, .int .u64 p.lk, .int .u64 p.en, .int .i64 p.bu, .int .i64 p.fu] 35) = wb := ⟨_, rfl⟩
  obtain ⟨hb0, hbox, hsz⟩ := boxed _ _ _ hwb
  have HW : Hid (w.alloc (.cells #[.int .i64 p.ki, .slice v.pp p.np v.pc, .slice v.tp p.nq v.tc, .slice v.sp p.ns v.sc, .int .u64 p.sd, .int .u64 p.lk, .int .u64 p.en, .int .i64 p.bu, .int .i64 p.fu] 35) = wb) := hwb
  have HC := copyPlan_any p v wb (h.below hb0) hr
  have HP : Hid (PlAt wb p v ∧ RoomyL p ∧ Below w.heap.size w wb) := ⟨h.below hb0, hr, hb0⟩
  have HVV : Hid (¬ VC p 0) := hv
  clear h hr hsz hb0 hv
  obtain ⟨⟨c0, c1, c2, c3⟩, c4, c5, c6, c7, c8⟩ := cells9 hbox
  rw [← hwb] at c0 c1 c2 c3 c4 c5 c6 c7 c8
  clear hwb
  go_enter Try.func4, Try.ntmps4
  go_upto_region 2 with (go_at_call 15; rw [HW.out]; (with_reducible refine HC.mono ?_); rintro e w1 ⟨u, rfl, hu, hb1⟩)
  obtain ⟨w2, hw2⟩ : ∃ w2, w1.alloc (.cells #[.int .i64 p.ki, .slice u.pp p.np u.pc, .slice u.tp p.nq u.tc, .slice u.sp p.ns u.sc, .int .u64 p.sd, .int .u64 p.lk, .int .u64 p.en, .int .i64 p.bu, .int .i64 p.fu] 35) = w2 := ⟨_, rfl⟩
  obtain ⟨hb2, hbx2, hsz2⟩ := boxed _ _ _ hw2
  rw [hw2]
  have h12 : Below wb.heap.size wb w2 := hb1.trans (hb2.mono hb1.size)
  have hu2 := hu.below hb2
  have HF := first_bad p u w2 hu2 HP.out.2.1 HVV.out
  have HU : Hid (PlAt w2 p u ∧ PlAt w2 p v ∧ Below wb.heap.size wb w2) := ⟨hu2, HP.out.1.below h12, h12⟩
  have hbo2 := (h12.block _ (lt_of_block hbox)).trans hbox
  clear c0 c1 c2 c3 c4 c5 c6 c7 c8 HC hu hu2 hw2 hb1 hb2 hsz2 h12 hbox
  obtain ⟨⟨d0, d1, d2, d3⟩, d4, d5, d6, d7, d8⟩ := cells9 hbx2
  go_upto_region 3 with (go_at_call 16; (with_reducible refine HF.mono ?_); rintro e w3 ⟨cd, hcd, hvc, rfl, hb3⟩)
  obtain ⟨w4, hw4⟩ : ∃ w4, w3.alloc (.cells #[.slice none 0 0, .slice none 0 0, .slice none 0 0] 39) = w4 := ⟨_, rfl⟩
  obtain ⟨hb4, hbx4, hsz4⟩ := boxed _ _ _ hw4
  rw [hw4]
  have h24 : Below w2.heap.size w2 w4 := hb3.trans (hb4.mono hb3.size)
  have HR := rvalid_any p v w4 (HU.out.2.1.below h24)
  have HV4 : Hid (Below w2.heap.size w2 w4 ∧ VC p cd ∧ cd ≠ 0) := ⟨h24, hvc, hcd⟩
  have hbg4 := (h24.block _ (lt_of_block hbx2)).trans hbx2
  have hbo4 := (h24.block _ (lt_of_block hbo2)).trans hbo2
  clear d0 d1 d2 d3 d4 d5 d6 d7 d8 hw4 hsz4 h24 hb3 hb4 hvc hcd
  obtain ⟨⟨c0, c1, c2', c3⟩, c4, c5, c6, c7, c8⟩ := cells9 hbo4
  go_upto_region 4 with (go_at_call 17; (with_reducible refine HR.mono ?_); rintro e w5 ⟨cr, rfl, hvr, hb5⟩)
  obtain rfl : cr = cd := VC.one hvr HV4.out.2.1
  have H5 : Hid (Below w4.heap.size w4 w5 ∧ PlAt w5 p u ∧ PlAt w5 p v) := ⟨hb5, (HU.out.1.below HV4.out.1).below hb5, (HU.out.2.1.below HV4.out.1).below hb5⟩
  have HSP := samePlan_yes p u v w5 H5.out.2.1 H5.out.2.2 HP.out.2.1
  have hbx5 := (hb5.block _ (lt_of_block hbx4)).trans hbx4
  have hbg5 := (hb5.block _ (lt_of_block hbg4)).trans hbg4
  have hbo5 := (hb5.block _ (lt_of_block hbo4)).trans hbo4
  clear c0 c1 c2' c3 c4 c5 c6 c7 c8 hvr hb5 HR
  obtain ⟨⟨c0, c1, c2', c3⟩, c4, c5, c6, c7, c8⟩ := cells9 hbo5
  obtain ⟨⟨d0, d1, d2, d3⟩, d4, d5, d6, d7, d8⟩ := cells9 hbg5
  have g0 : (cr == 0) = false := by simpa using HV4.out.2.2
  have HSM : ∀ w9, Hid (Calls Try.prog 19 #[.agg #[.slice none 0 0, .slice none 0 0, .slice none 0 0], .agg #[.slice none 0 0, .slice none 0 0, .slice none 0 0]] w9 fun e w' => e = .returned (.bool true) ∧ Below w9.heap.size w9 w') := fun w9 => samePoint_yes 0 (fun _ => ⟨none, 0, 0, 0, 0⟩) (fun _ => ⟨none, 0, 0, 0, 0⟩) (fun _ _ => 0) none none 0 0 0 (fun _ => ⟨0, 0, 0, 0, 0, 0⟩) none none 0 0 (by omega) (fun j hj => absurd hj (Nat.not_lt_zero _)) (fun j hj => absurd hj (Nat.not_lt_zero _)) (by omega) w9 (.inl rfl) (.inl rfl) (.inl rfl) (.inl rfl)
  go_wp2_with (first | (go_at_call 18; (with_reducible refine HSP.mono ?_); rintro e w6 ⟨rfl, hb6⟩; have hbx6 := (hb6.block _ (lt_of_block hbx5)).trans hbx5; obtain ⟨e0, e1, e2⟩ := cells3p hbx6) | (go_at_call 19; (with_reducible refine (HSM w6).out.mono ?_); rintro e w7 ⟨rfl, hb7⟩))
  go_ret
  obtain ⟨f1, f2, f3⟩ := HP.out
  have k1 := HU.out.2.2
  have k2 := HV4.out.1
  have k3 := H5.out.1
  have g1 : Below w.heap.size w w2 := f3.trans (k1.mono f3.size)
  have g2 : Below w.heap.size w w4 := g1.trans (k2.mono g1.size)
  have g3 : Below w.heap.size w w5 := g2.trans (k3.mono g2.size)
  have g4 : Below w.heap.size w w6 := g3.trans (hb6.mono g3.size)
  exact ⟨rfl, g4.trans (hb7.mono g4.size)⟩
set_option maxRecDepth 100000 in
set_option maxHeartbeats 4000000 in
theorem firsts_good (p : Pl) (v : PlV) (w : World) (h : PlAt w p v) (hr : RoomyL p) (hv : VC p 0) : Calls Try.prog 4 #[.agg #[.int .i64 p.ki, .slice v.pp p.np v.pc, .slice v.tp p.nq v.tc, .slice v.sp p.ns v.sc, .int .u64 p.sd, .int .u64 p.lk, .int .u64 p.en, .int .i64 p.bu, .int .i64 p.fu]] w fun e w' => e = .returned (.bool true) ∧ Below w.heap.size w w' := by
  obtain ⟨wb, hwb⟩ : ∃ wb, w.alloc (.cells #[.int .i64 p.ki, .slice v.pp p.np v.pc, .slice v.tp p.nq v.tc, .slice v.sp p.ns v.sc, .int .u64 p.sd, .int .u64 p.lk, .int .u64 p.en, .int .i64 p.bu, .int .i64 p.fu] 35) = wb := ⟨_, rfl⟩
  obtain ⟨hb0, hbox, hsz⟩ := boxed _ _ _ hwb
  have HW : Hid (w.alloc (.cells #[.int .i64 p.ki, .slice v.pp p.np v.pc, .slice v.tp p.nq v.tc, .slice v.sp p.ns v.sc, .int .u64 p.sd, .int .u64 p.lk, .int .u64 p.en, .int .i64 p.bu, .int .i64 p.fu] 35) = wb) := hwb
  have HC := copyPlan_any p v wb (h.below hb0) hr
  have HP : Hid (PlAt wb p v ∧ RoomyL p ∧ Below w.heap.size w wb) := ⟨h.below hb0, hr, hb0⟩
  have HVV : Hid (VC p 0) := hv
  clear h hr hsz hb0 hv
  obtain ⟨⟨c0, c1, c2, c3⟩, c4, c5, c6, c7, c8⟩ := cells9 hbox
  rw [← hwb] at c0 c1 c2 c3 c4 c5 c6 c7 c8
  clear hwb
  go_enter Try.func4, Try.ntmps4
  go_upto_region 2 with (go_at_call 15; rw [HW.out]; (with_reducible refine HC.mono ?_); rintro e w1 ⟨u, rfl, hu, hb1⟩)
  obtain ⟨w2, hw2⟩ : ∃ w2, w1.alloc (.cells #[.int .i64 p.ki, .slice u.pp p.np u.pc, .slice u.tp p.nq u.tc, .slice u.sp p.ns u.sc, .int .u64 p.sd, .int .u64 p.lk, .int .u64 p.en, .int .i64 p.bu, .int .i64 p.fu] 35) = w2 := ⟨_, rfl⟩
  obtain ⟨hb2, hbx2, hsz2⟩ := boxed _ _ _ hw2
  rw [hw2]
  have h12 : Below wb.heap.size wb w2 := hb1.trans (hb2.mono hb1.size)
  have hu2 := hu.below hb2
  have HF := first_good p u w2 hu2 HP.out.2.1 HVV.out
  have HU : Hid (PlAt w2 p u ∧ PlAt w2 p v ∧ Below wb.heap.size wb w2) := ⟨hu2, HP.out.1.below h12, h12⟩
  have hbo2 := (h12.block _ (lt_of_block hbox)).trans hbox
  clear c0 c1 c2 c3 c4 c5 c6 c7 c8 HC hu hu2 hw2 hb1 hb2 hsz2 h12 hbox
  obtain ⟨⟨d0, d1, d2, d3⟩, d4, d5, d6, d7, d8⟩ := cells9 hbx2
  go_upto_region 3 with (go_at_call 16; (with_reducible refine HF.mono ?_); rintro e w3 ⟨q, c, q2, c2, rfl, hfp, hb3⟩)
  obtain ⟨w4, hw4⟩ : ∃ w4, w3.alloc (.cells #[.slice q p.nq c, .slice q2 p.ns c2, .slice none 0 0] 39) = w4 := ⟨_, rfl⟩
  obtain ⟨hb4, hbx4, hsz4⟩ := boxed _ _ _ hw4
  rw [hw4]
  have h24 : Below w2.heap.size w2 w4 := hb3.trans (hb4.mono hb3.size)
  have HR := rvalid_any p v w4 (HU.out.2.1.below h24)
  have HV4 : Hid (Below w2.heap.size w2 w4 ∧ FP w4 p q q2) := ⟨h24, hfp.below hb4⟩
  have hbg4 := (h24.block _ (lt_of_block hbx2)).trans hbx2
  have hbo4 := (h24.block _ (lt_of_block hbo2)).trans hbo2
  clear d0 d1 d2 d3 d4 d5 d6 d7 d8 hw4 hsz4 h24 hb3 hb4 hfp
  obtain ⟨⟨c0, c1, c2', c3⟩, c4, c5, c6, c7, c8⟩ := cells9 hbo4
  go_upto_region 4 with (go_at_call 17; (with_reducible refine HR.mono ?_); rintro e w5 ⟨cr, rfl, hvr, hb5⟩)
  obtain rfl : cr = 0 := VC.one hvr HVV.out
  have H5 : Hid (Below w4.heap.size w4 w5 ∧ PlAt w5 p u ∧ PlAt w5 p v) := ⟨hb5, (HU.out.1.below HV4.out.1).below hb5, (HU.out.2.1.below HV4.out.1).below hb5⟩
  have HSP := samePlan_yes p u v w5 H5.out.2.1 H5.out.2.2 HP.out.2.1
  have hbx5 := (hb5.block _ (lt_of_block hbx4)).trans hbx4
  have hbg5 := (hb5.block _ (lt_of_block hbg4)).trans hbg4
  have hbo5 := (hb5.block _ (lt_of_block hbo4)).trans hbo4
  clear c0 c1 c2' c3 c4 c5 c6 c7 c8 hvr hb5 HR
  obtain ⟨⟨c0, c1, c2', c3⟩, c4, c5, c6, c7, c8⟩ := cells9 hbo5
  obtain ⟨⟨d0, d1, d2, d3⟩, d4, d5, d6, d7, d8⟩ := cells9 hbg5
  go_upto_region 8 with (go_at_call 18; (with_reducible refine HSP.mono ?_); rintro e w6 ⟨rfl, hb6⟩)
  have hbx6 := (hb6.block _ (lt_of_block hbx5)).trans hbx5
  have hbo6 := (hb6.block _ (lt_of_block hbo5)).trans hbo5
  obtain ⟨hT, hS⟩ := HVV.out.good
  have hd6 : Below w6.heap.size w6 w6.drew := drewS w6
  have HRF := rfirst_fp p v w6.drew ((H5.out.2.2.below hb6).below hd6) HP.out.2.1 hT hS
  have HFP6 : Hid (FP w6 p q q2 ∧ Below w5.heap.size w5 w6) := ⟨(HV4.out.2.below H5.out.1).below hb6, hb6⟩
  have KK : ∀ w9, Below w6.heap.size w6 w9 → Hid (((w9.cell? ⟨w.heap.size, 0, none⟩ = some (.int .i64 p.ki) ∧ w9.cell? ⟨w.heap.size, 1, none⟩ = some (.slice v.pp p.np v.pc) ∧ w9.cell? ⟨w.heap.size, 2, none⟩ = some (.slice v.tp p.nq v.tc) ∧ w9.cell? ⟨w.heap.size, 3, none⟩ = some (.slice v.sp p.ns v.sc)) ∧ w9.cell? ⟨w.heap.size, 4, none⟩ = some (.int .u64 p.sd) ∧ w9.cell? ⟨w.heap.size, 5, none⟩ = some (.int .u64 p.lk) ∧ w9.cell? ⟨w.heap.size, 6, none⟩ = some (.int .u64 p.en) ∧ w9.cell? ⟨w.heap.size, 7, none⟩ = some (.int .i64 p.bu) ∧ w9.cell? ⟨w.heap.size, 8, none⟩ = some (.int .i64 p.fu)) ∧ w9.cell? ⟨w3.heap.size, 0, none⟩ = some (.slice q p.nq c) ∧ w9.cell? ⟨w3.heap.size, 1, none⟩ = some (.slice q2 p.ns c2) ∧ w9.cell? ⟨w3.heap.size, 2, none⟩ = some (.slice none 0 0)) := fun w9 hb9 => ⟨cells9 ((hb9.block _ (lt_of_block hbo6)).trans hbo6), cells3p ((hb9.block _ (lt_of_block hbx6)).trans hbx6)⟩
  have KP0 := (KK w6.drew hd6).out
  have HTS : Hid (GT p ∧ GS p) := ⟨hT, hS⟩
  clear c0 c1 c2' c3 c4 c5 c6 c7 c8 d0 d1 d2 d3 d4 d5 d6 d7 d8 hT hS hb6
  go_region_held3 (fun w9 => ((w9.cell? ⟨w.heap.size, 0, none⟩ = some (.int .i64 p.ki) ∧ w9.cell? ⟨w.heap.size, 1, none⟩ = some (.slice v.pp p.np v.pc) ∧ w9.cell? ⟨w.heap.size, 2, none⟩ = some (.slice v.tp p.nq v.tc) ∧ w9.cell? ⟨w.heap.size, 3, none⟩ = some (.slice v.sp p.ns v.sc)) ∧ w9.cell? ⟨w.heap.size, 4, none⟩ = some (.int .u64 p.sd) ∧ w9.cell? ⟨w.heap.size, 5, none⟩ = some (.int .u64 p.lk) ∧ w9.cell? ⟨w.heap.size, 6, none⟩ = some (.int .u64 p.en) ∧ w9.cell? ⟨w.heap.size, 7, none⟩ = some (.int .i64 p.bu) ∧ w9.cell? ⟨w.heap.size, 8, none⟩ = some (.int .i64 p.fu)) ∧ w9.cell? ⟨w3.heap.size, 0, none⟩ = some (.slice q p.nq c) ∧ w9.cell? ⟨w3.heap.size, 1, none⟩ = some (.slice q2 p.ns c2) ∧ w9.cell? ⟨w3.heap.size, 2, none⟩ = some (.slice none 0 0)) (first | with_reducible exact KP0 | with_reducible exact KP | with_reducible exact KP8 | go_keep) (first | (go_at_call 20; (with_reducible refine HRF.mono ?_); rintro e w7 ⟨q', c', q2', c2', rfl, hfp7, hb7⟩; have hb67 : Below w6.heap.size w6 w7 := hd6.trans hb7; have KP := (KK w7 hb67).out; have HSM := samePoint_fp HP.out.2.1 HTS.out.1 HTS.out.2 q q2 q' q2' c c2 c' c2' w7 (HFP6.out.1.below hb67) hfp7) | (go_at_call 19; (with_reducible refine HSM.mono ?_); rintro e w8 ⟨rfl, hb8⟩; have KP8 := (KK w8 (hb67.trans (hb8.mono hb67.size))).out))
  all_goals (
    go_wp2_with fail
    go_ret
    obtain ⟨f1, f2, f3⟩ := HP.out
    have k1 := HU.out.2.2
    have k2 := HV4.out.1
    have k3 := H5.out.1
    have k4 := HFP6.out.2
    have g1 : Below w.heap.size w w2 := f3.trans (k1.mono f3.size)
    have g2 : Below w.heap.size w w4 := g1.trans (k2.mono g1.size)
    have g3 : Below w.heap.size w w5 := g2.trans (k3.mono g2.size)
    have g4 : Below w.heap.size w w6 := g3.trans (k4.mono g3.size)
    have g5 : Below w.heap.size w w7 := g4.trans (hb67.mono g4.size)
    exact ⟨rfl, g5.trans (hb8.mono g5.size)⟩)
theorem firsts_law (p : Pl) (v : PlV) (w : World) (h : PlAt w p v) (hr : RoomyL p) : Calls Try.prog 4 #[.agg #[.int .i64 p.ki, .slice v.pp p.np v.pc, .slice v.tp p.nq v.tc, .slice v.sp p.ns v.sc, .int .u64 p.sd, .int .u64 p.lk, .int .u64 p.en, .int .i64 p.bu, .int .i64 p.fu]] w fun e w' => e = .returned (.bool true) ∧ Below w.heap.size w w' := by
  by_cases hv : VC p 0
  · exact firsts_good p v w h hr hv
  · exact firsts_bad p v w h hr hv
end Go.Proofs.Ytjfefjlajgpkaaa
