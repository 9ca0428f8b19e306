import Derived.Test.YtpicobmilcbmlaaKE5
import Derived.Test.YtpicobmilcbmlaaSV6
namespace Go.Proofs.Ytpicobmilcbmlaa
open Go.ChangeShapes Go.WideShapes Go.ChangeAt Go.RowKit
set_option linter.unusedVariables false
set_option linter.unusedSimpArgs false

set_option maxRecDepth 100000 in
set_option maxHeartbeats 4000000 in
theorem enoughs_law (p : Pl) (v : PlV) (l : Ly) (u : LyV) (w : World) (h : PlAt w p v) (hr : RoomyL p) (hn : l.n ≤ 17592186044416) (hO : KAt w u.op l.n l.O) : Calls Try.prog 4 #[.agg #[.int .i64 p.ki, .slice v.pp p.np v.pc, .slice v.tp p.nq v.tc, .slice v.sp p.ns v.sc, .int .u64 p.sd, .int .u64 p.lk, .int .u64 p.en, .int .i64 p.bu, .int .i64 p.fu], .agg #[.int .i64 l.wk, .slice u.op l.n u.oc, .int .i64 l.ar, .int .i64 l.bx, .int .i64 l.un]] w fun e w' => e = .returned (.bool true) ∧ Below w.heap.size w w' := by
  obtain ⟨wb, hwb, hb0, hbox, hbx2, hsz⟩ := boxed2 w #[.int .i64 p.ki, .slice v.pp p.np v.pc, .slice v.tp p.nq v.tc, .slice v.sp p.ns v.sc, .int .u64 p.sd, .int .u64 p.lk, .int .u64 p.en, .int .i64 p.bu, .int .i64 p.fu] #[.int .i64 l.wk, .slice u.op l.n u.oc, .int .i64 l.ar, .int .i64 l.bx, .int .i64 l.un] 43 46
  have HW : Hid ((w.alloc (.cells #[.int .i64 p.ki, .slice v.pp p.np v.pc, .slice v.tp p.nq v.tc, .slice v.sp p.ns v.sc, .int .u64 p.sd, .int .u64 p.lk, .int .u64 p.en, .int .i64 p.bu, .int .i64 p.fu] 43)).alloc (.cells #[.int .i64 l.wk, .slice u.op l.n u.oc, .int .i64 l.ar, .int .i64 l.bx, .int .i64 l.un] 46) = wb) := hwb
  have HSZ : Hid (wb.heap.size = w.heap.size + 2) := hsz
  obtain ⟨⟨c0, c1, c2, c3⟩, c4, c5, c6, c7, c8⟩ := cells9 hbox
  obtain ⟨d0, d1, d2, d3, d4⟩ := cells5p hbx2
  have hl1 := lt_of_block hbox
  have hl2 := lt_of_block hbx2
  have KK : ∀ w', Below wb.heap.size wb w' → Hid ((w'.cell? ⟨w.heap.size, 0, none⟩ = some (.int .i64 p.ki) ∧ w'.cell? ⟨w.heap.size, 1, none⟩ = some (.slice v.pp p.np v.pc) ∧ w'.cell? ⟨w.heap.size, 2, none⟩ = some (.slice v.tp p.nq v.tc) ∧ w'.cell? ⟨w.heap.size, 3, none⟩ = some (.slice v.sp p.ns v.sc) ∧ w'.cell? ⟨w.heap.size, 4, none⟩ = some (.int .u64 p.sd) ∧ w'.cell? ⟨w.heap.size, 5, none⟩ = some (.int .u64 p.lk) ∧ w'.cell? ⟨w.heap.size, 6, none⟩ = some (.int .u64 p.en) ∧ w'.cell? ⟨w.heap.size, 7, none⟩ = some (.int .i64 p.bu) ∧ w'.cell? ⟨w.heap.size, 8, none⟩ = some (.int .i64 p.fu)) ∧ (w'.cell? ⟨w.heap.size + 1, 0, none⟩ = some (.int .i64 l.wk) ∧ w'.cell? ⟨w.heap.size + 1, 1, none⟩ = some (.slice u.op l.n u.oc) ∧ w'.cell? ⟨w.heap.size + 1, 2, none⟩ = some (.int .i64 l.ar) ∧ w'.cell? ⟨w.heap.size + 1, 3, none⟩ = some (.int .i64 l.bx) ∧ w'.cell? ⟨w.heap.size + 1, 4, none⟩ = some (.int .i64 l.un))) := fun w' hb => by
    obtain ⟨⟨c0, c1, c2, c3⟩, c4, c5, c6, c7, c8⟩ := cells9 ((hb.block _ hl1).trans hbox)
    exact ⟨⟨c0, c1, c2, c3, c4, c5, c6, c7, c8⟩, cells5p ((hb.block _ hl2).trans hbx2)⟩
  have hbd : Below wb.heap.size wb wb.drew := (Below.refl _ wb).drew
  have HC1 := copyPlan_any p v wb.drew ((h.below hb0).below hbd) hr
  have HC2 : ∀ W, Below wb.heap.size wb W → Hid (Calls Try.prog 11 #[.agg #[.int .i64 l.wk, .slice u.op l.n u.oc, .int .i64 l.ar, .int .i64 l.bx, .int .i64 l.un]] W fun e w' => ∃ u : LyV, e = .returned (.agg #[.int .i64 l.wk, .slice u.op l.n u.oc, .int .i64 l.ar, .int .i64 l.bx, .int .i64 l.un]) ∧ KAt w' u.op l.n l.O ∧ Below W.heap.size W w') := fun W hb => copyLayout_any l u W hn ((hO.below hb0).below hb)
  have HC4 : ∀ W, Below wb.heap.size wb W → Hid (Calls Try.prog 12 #[.agg #[.int .i64 p.ki, .slice v.pp p.np v.pc, .slice v.tp p.nq v.tc, .slice v.sp p.ns v.sc, .int .u64 p.sd, .int .u64 p.lk, .int .u64 p.en, .int .i64 p.bu, .int .i64 p.fu], .agg #[.int .i64 l.wk, .slice u.op l.n u.oc, .int .i64 l.ar, .int .i64 l.bx, .int .i64 l.un]] W fun e w' => ∃ r, e = .returned (.int .i64 r) ∧ EN p l r ∧ Below W.heap.size W w') := fun W hb => renough_any p v l u W ((h.below hb0).below hb) ((hO.below hb0).below hb)
  have KP0 := (KK wb.drew hbd).out
  clear hwb h hr hO hsz hbox hbx2 hl1 hl2 c0 c1 c2 c3 c4 c5 c6 c7 c8 d0 d1 d2 d3 d4
  go_enter Try.func4, Try.ntmps4
  go_upto_region 1 with fail
  rw [HW.out]
  go_region_held3 (fun w' => (w'.cell? ⟨w.heap.size, 0, none⟩ = some (.int .i64 p.ki) ∧ w'.cell? ⟨w.heap.size, 1, none⟩ = some (.slice v.pp p.np v.pc) ∧ w'.cell? ⟨w.heap.size, 2, none⟩ = some (.slice v.tp p.nq v.tc) ∧ w'.cell? ⟨w.heap.size, 3, none⟩ = some (.slice v.sp p.ns v.sc) ∧ w'.cell? ⟨w.heap.size, 4, none⟩ = some (.int .u64 p.sd) ∧ w'.cell? ⟨w.heap.size, 5, none⟩ = some (.int .u64 p.lk) ∧ w'.cell? ⟨w.heap.size, 6, none⟩ = some (.int .u64 p.en) ∧ w'.cell? ⟨w.heap.size, 7, none⟩ = some (.int .i64 p.bu) ∧ w'.cell? ⟨w.heap.size, 8, none⟩ = some (.int .i64 p.fu)) ∧ (w'.cell? ⟨w.heap.size + 1, 0, none⟩ = some (.int .i64 l.wk) ∧ w'.cell? ⟨w.heap.size + 1, 1, none⟩ = some (.slice u.op l.n u.oc) ∧ w'.cell? ⟨w.heap.size + 1, 2, none⟩ = some (.int .i64 l.ar) ∧ w'.cell? ⟨w.heap.size + 1, 3, none⟩ = some (.int .i64 l.bx) ∧ w'.cell? ⟨w.heap.size + 1, 4, none⟩ = some (.int .i64 l.un))) (first | with_reducible exact KP0 | with_reducible exact KP1 | with_reducible exact KP2 | with_reducible exact KP3 | with_reducible exact KP4 | go_keep) (first | (go_at_call 10; (with_reducible refine HC1.mono ?_); rintro e w1 ⟨v1, rfl, hp1, hb1⟩; have hw1 : Below wb.heap.size wb w1 := hbd.trans (hb1.mono hbd.size); have KP1 := (KK w1 hw1).out; have H1 : Hid (PlAt w1 p v1) := hp1; clear hp1 hb1) | (go_at_call 11; (with_reducible refine (HC2 w1 hw1).out.mono ?_); rintro e w2 ⟨u2, rfl, hk2, hb2⟩; have hw2 : Below wb.heap.size wb w2 := hw1.trans (hb2.mono hw1.size); have KP2 := (KK w2 hw2).out; have HC3 := enough_any p v1 l u2 w2 (H1.out.below hb2) hk2; clear hk2 hb2) | (go_at_call 9; (with_reducible refine HC3.mono ?_); rintro e w3 ⟨r3, rfl, hr3, hb3⟩; have hw3 : Below wb.heap.size wb w3 := hw2.trans (hb3.mono hw2.size); have KP3 := (KK w3 hw3).out; have H3 : Hid (EN p l r3) := hr3; clear hr3 hb3) | (go_at_call 12; (with_reducible refine (HC4 w3 hw3).out.mono ?_); rintro e w4 ⟨r4, rfl, hr4, hb4⟩; have hw4 : Below wb.heap.size wb w4 := hw3.trans (hb4.mono hw3.size); have KP4 := (KK w4 hw4).out; obtain rfl := EN.one hr4 H3.out; clear hr4 hb4))
  all_goals (
    go_wp2_with fail
    go_ret
    exact ⟨by simp, hb0.trans (hw4.mono hb0.size)⟩)
end Go.Proofs.Ytpicobmilcbmlaa
