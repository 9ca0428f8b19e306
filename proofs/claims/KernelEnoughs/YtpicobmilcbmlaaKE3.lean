import Derived.Test.YtpicobmilcbmlaaKE2
namespace Go.Proofs.Ytpicobmilcbmlaa
open Go.ChangeShapes Go.WideShapes Go.ChangeAt Go.RowKit
set_option linter.unusedVariables false
set_option linter.unusedSimpArgs false

set_option maxRecDepth 100000 in
set_option maxHeartbeats 4000000 in
theorem wvalid_any (p : Pl) (v : PlV) (l : Ly) (u : LyV) (w : World) (h : PlAt w p v) (hO : KAt w u.op l.n l.O) : Calls Try.prog 16 #[.agg #[.int .i64 p.ki, .slice v.pp p.np v.pc, .slice v.tp p.nq v.tc, .slice v.sp p.ns v.sc, .int .u64 p.sd, .int .u64 p.lk, .int .u64 p.en, .int .i64 p.bu, .int .i64 p.fu], .agg #[.int .i64 l.wk, .slice u.op l.n u.oc, .int .i64 l.ar, .int .i64 l.bx, .int .i64 l.un]] w fun e w' => ∃ c, e = .returned (.int .i64 c) ∧ LC p l c ∧ Below w.heap.size w w' := by
  obtain ⟨wb, hwb, hb0, hbox, hbx2, hsz⟩ := boxed2 w #[.int .i64 p.ki, .slice v.pp p.np v.pc, .slice v.tp p.nq v.tc, .slice v.sp p.ns v.sc, .int .u64 p.sd, .int .u64 p.lk, .int .u64 p.en, .int .i64 p.bu, .int .i64 p.fu] #[.int .i64 l.wk, .slice u.op l.n u.oc, .int .i64 l.ar, .int .i64 l.bx, .int .i64 l.un] 43 46
  have HW : Hid ((w.alloc (.cells #[.int .i64 p.ki, .slice v.pp p.np v.pc, .slice v.tp p.nq v.tc, .slice v.sp p.ns v.sc, .int .u64 p.sd, .int .u64 p.lk, .int .u64 p.en, .int .i64 p.bu, .int .i64 p.fu] 43)).alloc (.cells #[.int .i64 l.wk, .slice u.op l.n u.oc, .int .i64 l.ar, .int .i64 l.bx, .int .i64 l.un] 46) = wb) := hwb
  have HSZ : Hid (wb.heap.size = w.heap.size + 2) := hsz
  obtain ⟨⟨c0, c1, c2, c3⟩, c4, c5, c6, c7, c8⟩ := cells9 hbox
  obtain ⟨d0, d1, d2, d3, d4⟩ := cells5p hbx2
  have hl1 := lt_of_block hbox
  have hl2 := lt_of_block hbx2
  have HV := valid_any p v wb (h.below hb0)
  have KK : ∀ w', Below wb.heap.size wb w' → Hid ((w'.cell? ⟨w.heap.size, 0, none⟩ = some (.int .i64 p.ki) ∧ w'.cell? ⟨w.heap.size, 1, none⟩ = some (.slice v.pp p.np v.pc) ∧ w'.cell? ⟨w.heap.size, 2, none⟩ = some (.slice v.tp p.nq v.tc) ∧ w'.cell? ⟨w.heap.size, 3, none⟩ = some (.slice v.sp p.ns v.sc) ∧ w'.cell? ⟨w.heap.size, 4, none⟩ = some (.int .u64 p.sd) ∧ w'.cell? ⟨w.heap.size, 5, none⟩ = some (.int .u64 p.lk) ∧ w'.cell? ⟨w.heap.size, 6, none⟩ = some (.int .u64 p.en) ∧ w'.cell? ⟨w.heap.size, 7, none⟩ = some (.int .i64 p.bu) ∧ w'.cell? ⟨w.heap.size, 8, none⟩ = some (.int .i64 p.fu)) ∧ (w'.cell? ⟨w.heap.size + 1, 0, none⟩ = some (.int .i64 l.wk) ∧ w'.cell? ⟨w.heap.size + 1, 1, none⟩ = some (.slice u.op l.n u.oc) ∧ w'.cell? ⟨w.heap.size + 1, 2, none⟩ = some (.int .i64 l.ar) ∧ w'.cell? ⟨w.heap.size + 1, 3, none⟩ = some (.int .i64 l.bx) ∧ w'.cell? ⟨w.heap.size + 1, 4, none⟩ = some (.int .i64 l.un))) := fun w' hb => by
    obtain ⟨⟨c0, c1, c2, c3⟩, c4, c5, c6, c7, c8⟩ := cells9 ((hb.block _ hl1).trans hbox)
    exact ⟨⟨c0, c1, c2, c3, c4, c5, c6, c7, c8⟩, cells5p ((hb.block _ hl2).trans hbx2)⟩
  have HF : p.nq ≤ 64 → ∀ w', Below wb.heap.size wb w' → Hid (Calls Try.prog 26 #[.agg #[.int .i64 p.ki, .slice v.pp p.np v.pc, .slice v.tp p.nq v.tc, .slice v.sp p.ns v.sc, .int .u64 p.sd, .int .u64 p.lk, .int .u64 p.en, .int .i64 p.bu, .int .i64 p.fu], .agg #[.int .i64 l.wk, .slice u.op l.n u.oc, .int .i64 l.ar, .int .i64 l.bx, .int .i64 l.un]] w' fun e w9 => ∃ b, e = .returned (.bool b) ∧ (b = true ↔ GO p l) ∧ Below w'.heap.size w' w9) := fun hq w' hb => ownersFit_any p v l u w' ((hO.below hb0).below hb) hq
  have HM : GS p → GO p l → 1 ≤ l.wk ∧ l.wk ≤ 64 → ∀ w', Below wb.heap.size wb w' → Hid (Calls Try.prog 27 #[.agg #[.int .i64 p.ki, .slice v.pp p.np v.pc, .slice v.tp p.nq v.tc, .slice v.sp p.ns v.sc, .int .u64 p.sd, .int .u64 p.lk, .int .u64 p.en, .int .i64 p.bu, .int .i64 p.fu], .agg #[.int .i64 l.wk, .slice u.op l.n u.oc, .int .i64 l.ar, .int .i64 l.bx, .int .i64 l.un]] w' fun e w9 => ∃ m, e = .returned (.int .i64 m) ∧ (∀ a, m ≤ a ↔ ∀ k : Nat, (k : Int) < l.wk → (cO p l p.ns k : Int) ≤ a) ∧ Below w'.heap.size w' w9) := fun g1 g2 g3 w' hb => mostStarts_any p v l u w' ((h.below hb0).below hb) ((hO.below hb0).below hb) g1 g2 g3
  have HMH : Hid (GS p → GO p l → 1 ≤ l.wk ∧ l.wk ≤ 64 → ∀ w', Below wb.heap.size wb w' → Hid (Calls Try.prog 27 #[.agg #[.int .i64 p.ki, .slice v.pp p.np v.pc, .slice v.tp p.nq v.tc, .slice v.sp p.ns v.sc, .int .u64 p.sd, .int .u64 p.lk, .int .u64 p.en, .int .i64 p.bu, .int .i64 p.fu], .agg #[.int .i64 l.wk, .slice u.op l.n u.oc, .int .i64 l.ar, .int .i64 l.bx, .int .i64 l.un]] w' fun e w9 => ∃ m, e = .returned (.int .i64 m) ∧ (∀ a, m ≤ a ↔ ∀ k : Nat, (k : Int) < l.wk → (cO p l p.ns k : Int) ≤ a) ∧ Below w'.heap.size w' w9)) := HM
  rw [← hwb] at c0 c1 c2 c3 c4 c5 c6 c7 c8 d0 d1 d2 d3 d4
  clear hwb h hO hsz HM hbox hbx2
  go_enter Try.func16, Try.ntmps16
  go_upto_region 2 with (go_at_call 25; rw [HW.out]; (with_reducible refine HV.mono ?_); rintro e w1 ⟨ce, rfl, hvc, hb1⟩)
  have HVC : Hid (VC p ce) := hvc
  clear c0 c1 c2 c3 c4 c5 c6 c7 c8 d0 d1 d2 d3 d4 hvc HV
  obtain ⟨⟨c0, c1, c2, c3, c4, c5, c6, c7, c8⟩, d0, d1, d2, d3, d4⟩ := (KK w1 hb1).out
  have HB1 : Hid (Below w.heap.size w w1) := hb0.trans (hb1.mono hb0.size)
  by_cases hz : ce = 0
  case neg =>
    have g0 : (ce != 0) = true := by simpa using hz
    have g1 : (ce == 0) = false := by simpa using hz
    go_wp2_with fail
    go_ret
    exact ⟨ce, rfl, ⟨ce, HVC.out, .inl ⟨hz, rfl⟩⟩, HB1.out⟩
  subst hz
  have HX : ∀ c, Hid (((l.wk < 1 ∨ 64 < l.wk) ∧ c = 100 ∨ ¬ (l.wk < 1 ∨ 64 < l.wk) ∧ (¬ GO p l ∧ c = 130 ∨ GO p l ∧ (¬ GA p l ∧ c = 131 ∨ GA p l ∧ ((l.bx < 1 ∨ 1024 < l.bx) ∧ c = 132 ∨ ¬ (l.bx < 1 ∨ 1024 < l.bx) ∧ ((l.un < 1 ∨ 4096 < l.un) ∧ c = 133 ∨ ¬ (l.un < 1 ∨ 4096 < l.un) ∧ c = 0))))) → LC p l c) := fun c h => ⟨0, HVC.out, .inr ⟨rfl, h⟩⟩
  by_cases hw1 : l.wk < 1
  case pos =>
    have k0 : decide (l.wk < 1) = true := by simp; omega
    go_wp2_with fail
    go_ret
    exact ⟨_, rfl, (HX 100).out (.inl ⟨.inl hw1, rfl⟩), HB1.out⟩
  have k0 : decide (l.wk < 1) = false := by simp; omega
  by_cases hw2 : 64 < l.wk
  case pos =>
    have k1 : decide ((64 : Int) < l.wk) = true := by simp; omega
    go_wp2_with fail
    go_ret
    exact ⟨_, rfl, (HX 100).out (.inl ⟨.inr hw2, rfl⟩), HB1.out⟩
  have k1 : decide ((64 : Int) < l.wk) = false := by simp; omega
  have hwk : ¬ (l.wk < 1 ∨ 64 < l.wk) := by omega
  have hwk2 : 1 ≤ l.wk ∧ l.wk ≤ 64 := by omega
  have HWK : Hid (¬ (l.wk < 1 ∨ 64 < l.wk) ∧ 1 ≤ l.wk ∧ l.wk ≤ 64) := ⟨hwk, hwk2⟩
  clear hwk hwk2 hw1 hw2
  have H1 := (HF (VC.fit HVC.out).1.2 w1 hb1).out
  by_cases hgo : GO p l
  case neg =>
    have H2 := callB (b0 := false) H1 ⟨fun e => (by cases e), fun e => absurd e hgo⟩
    clear H1
    go_wp2_with (go_at_call 26; (with_reducible refine H2.mono ?_); rintro e w2 ⟨rfl, hb2⟩)
    go_ret
    exact ⟨_, rfl, (HX 130).out (.inr ⟨HWK.out.1, .inl ⟨hgo, rfl⟩⟩), HB1.out.trans (hb2.mono HB1.out.size)⟩
  have H2 := callB (b0 := true) H1 ⟨fun _ => hgo, fun _ => rfl⟩
  clear H1
  go_upto_region 8 with (go_at_call 26; (with_reducible refine H2.mono ?_); rintro e w2 ⟨rfl, hb2⟩)
  clear c0 c1 c2 c3 c4 c5 c6 c7 c8 d0 d1 d2 d3 d4
  have hb12 : Below wb.heap.size wb w2 := hb1.trans (hb2.mono hb1.size)
  have HB2 : Hid (Below w.heap.size w w2) := hb0.trans (hb12.mono hb0.size)
  have HGO : Hid (GO p l) := hgo
  clear hgo hb1 hb2 H2
  obtain ⟨⟨c0, c1, c2, c3, c4, c5, c6, c7, c8⟩, d0, d1, d2, d3, d4⟩ := (KK w2 hb12).out
  by_cases ha1 : l.ar < 1
  case pos =>
    have a0 : decide (l.ar < 1) = true := by simp; omega
    have HN : Hid (¬ GA p l) := fun h => by have := h.1.1; omega
    go_quiet (fail)
    go_wp2_with fail
    go_ret
    exact ⟨_, rfl, (HX 131).out (.inr ⟨HWK.out.1, .inr ⟨HGO.out, .inl ⟨HN.out, rfl⟩⟩⟩), HB2.out.trans (below_drewNq _ _ _)⟩
  have a0 : decide (l.ar < 1) = false := by simp; omega
  by_cases ha2 : 8192 < l.ar
  case pos =>
    have a1 : decide ((8192 : Int) < l.ar) = true := by simp; omega
    have HN : Hid (¬ GA p l) := fun h => by have := h.1.2; omega
    go_quiet (fail)
    go_wp2_with fail
    go_ret
    exact ⟨_, rfl, (HX 131).out (.inr ⟨HWK.out.1, .inr ⟨HGO.out, .inl ⟨HN.out, rfl⟩⟩⟩), HB2.out.trans (below_drewNq _ _ _)⟩
  have a1 : decide ((8192 : Int) < l.ar) = false := by simp; omega
  have hbd : Below wb.heap.size wb w2.drew := hb12.drew
  have HM := (HMH.out (VC.fit HVC.out).1.1 HGO.out HWK.out.2 w2.drew hbd).out
  have KP0 := (KK w2.drew hbd).out
  clear c0 c1 c2 c3 c4 c5 c6 c7 c8 d0 d1 d2 d3 d4
  by_cases hga : ∀ k : Nat, (k : Int) < l.wk → (cO p l p.ns k : Int) ≤ l.ar
  case neg =>
    have HN : Hid (¬ GA p l) := fun h => hga h.2
    have HNG : Hid (¬ ∀ k : Nat, (k : Int) < l.wk → (cO p l p.ns k : Int) ≤ l.ar) := hga
    clear hga ha1 ha2
    go_region_held3 (fun w' => (w'.cell? ⟨w.heap.size, 0, none⟩ = some (.int .i64 p.ki) ∧ w'.cell? ⟨w.heap.size, 1, none⟩ = some (.slice v.pp p.np v.pc) ∧ w'.cell? ⟨w.heap.size, 2, none⟩ = some (.slice v.tp p.nq v.tc) ∧ w'.cell? ⟨w.heap.size, 3, none⟩ = some (.slice v.sp p.ns v.sc) ∧ w'.cell? ⟨w.heap.size, 4, none⟩ = some (.int .u64 p.sd) ∧ w'.cell? ⟨w.heap.size, 5, none⟩ = some (.int .u64 p.lk) ∧ w'.cell? ⟨w.heap.size, 6, none⟩ = some (.int .u64 p.en) ∧ w'.cell? ⟨w.heap.size, 7, none⟩ = some (.int .i64 p.bu) ∧ w'.cell? ⟨w.heap.size, 8, none⟩ = some (.int .i64 p.fu)) ∧ (w'.cell? ⟨w.heap.size + 1, 0, none⟩ = some (.int .i64 l.wk) ∧ w'.cell? ⟨w.heap.size + 1, 1, none⟩ = some (.slice u.op l.n u.oc) ∧ w'.cell? ⟨w.heap.size + 1, 2, none⟩ = some (.int .i64 l.ar) ∧ w'.cell? ⟨w.heap.size + 1, 3, none⟩ = some (.int .i64 l.bx) ∧ w'.cell? ⟨w.heap.size + 1, 4, none⟩ = some (.int .i64 l.un))) (first | with_reducible exact KP0 | with_reducible exact KP1 | go_keep) ((go_at_call 27; (with_reducible refine HM.mono ?_); rintro e w3 ⟨m, rfl, hm, hb3⟩; have dm : decide (l.ar < m) = true := (decide_eq_true (Int.not_le.1 fun h9 => HNG.out ((hm _).1 h9))); have hw3 : Below wb.heap.size wb w3 := hbd.trans (hb3.mono hbd.size); have KP1 := (KK w3 hw3).out; clear hm hb3))
    all_goals (
      go_wp2_with fail
      go_ret
      exact ⟨_, rfl, (HX 131).out (.inr ⟨HWK.out.1, .inr ⟨HGO.out, .inl ⟨HN.out, rfl⟩⟩⟩), hb0.trans (hw3.mono hb0.size)⟩)
  have HGA : Hid (GA p l) := ⟨⟨by omega, by omega⟩, hga⟩
  have HNG : Hid (∀ k : Nat, (k : Int) < l.wk → (cO p l p.ns k : Int) ≤ l.ar) := hga
  clear hga ha1 ha2
  go_region_held3 (fun w' => (w'.cell? ⟨w.heap.size, 0, none⟩ = some (.int .i64 p.ki) ∧ w'.cell? ⟨w.heap.size, 1, none⟩ = some (.slice v.pp p.np v.pc) ∧ w'.cell? ⟨w.heap.size, 2, none⟩ = some (.slice v.tp p.nq v.tc) ∧ w'.cell? ⟨w.heap.size, 3, none⟩ = some (.slice v.sp p.ns v.sc) ∧ w'.cell? ⟨w.heap.size, 4, none⟩ = some (.int .u64 p.sd) ∧ w'.cell? ⟨w.heap.size, 5, none⟩ = some (.int .u64 p.lk) ∧ w'.cell? ⟨w.heap.size, 6, none⟩ = some (.int .u64 p.en) ∧ w'.cell? ⟨w.heap.size, 7, none⟩ = some (.int .i64 p.bu) ∧ w'.cell? ⟨w.heap.size, 8, none⟩ = some (.int .i64 p.fu)) ∧ (w'.cell? ⟨w.heap.size + 1, 0, none⟩ = some (.int .i64 l.wk) ∧ w'.cell? ⟨w.heap.size + 1, 1, none⟩ = some (.slice u.op l.n u.oc) ∧ w'.cell? ⟨w.heap.size + 1, 2, none⟩ = some (.int .i64 l.ar) ∧ w'.cell? ⟨w.heap.size + 1, 3, none⟩ = some (.int .i64 l.bx) ∧ w'.cell? ⟨w.heap.size + 1, 4, none⟩ = some (.int .i64 l.un))) (first | with_reducible exact KP0 | with_reducible exact KP1 | go_keep) ((go_at_call 27; (with_reducible refine HM.mono ?_); rintro e w3 ⟨m, rfl, hm, hb3⟩; have dm : decide (l.ar < m) = false := (decide_eq_false (Int.not_lt.2 ((hm _).2 HNG.out))); have hw3 : Below wb.heap.size wb w3 := hbd.trans (hb3.mono hbd.size); have KP1 := (KK w3 hw3).out; clear hm hb3))
  all_goals (
    have HB3 : Hid (Below w.heap.size w w3) := hb0.trans (hw3.mono hb0.size)
    obtain ⟨⟨c0, c1, c2, c3, c4, c5, c6, c7, c8⟩, d0, d1, d2, d3, d4⟩ := KP1
    by_cases hx1 : l.bx < 1
    case pos =>
      have x0 : decide (l.bx < 1) = true := by simp; omega
      go_wp2_with fail
      go_ret
      exact ⟨_, rfl, (HX 132).out (.inr ⟨HWK.out.1, .inr ⟨HGO.out, .inr ⟨HGA.out, .inl ⟨.inl hx1, rfl⟩⟩⟩⟩), HB3.out⟩
    have x0 : decide (l.bx < 1) = false := by simp; omega
    by_cases hx2 : 1024 < l.bx
    case pos =>
      have x1 : decide ((1024 : Int) < l.bx) = true := by simp; omega
      go_wp2_with fail
      go_ret
      exact ⟨_, rfl, (HX 132).out (.inr ⟨HWK.out.1, .inr ⟨HGO.out, .inr ⟨HGA.out, .inl ⟨.inr hx2, rfl⟩⟩⟩⟩), HB3.out⟩
    have x1 : decide ((1024 : Int) < l.bx) = false := by simp; omega
    by_cases hy1 : l.un < 1
    case pos =>
      have y0 : decide (l.un < 1) = true := by simp; omega
      go_wp2_with fail
      go_ret
      exact ⟨_, rfl, (HX 133).out (.inr ⟨HWK.out.1, .inr ⟨HGO.out, .inr ⟨HGA.out, .inr ⟨by omega, .inl ⟨.inl hy1, rfl⟩⟩⟩⟩⟩), HB3.out⟩
    have y0 : decide (l.un < 1) = false := by simp; omega
    by_cases hy2 : 4096 < l.un
    case pos =>
      have y1 : decide ((4096 : Int) < l.un) = true := by simp; omega
      go_wp2_with fail
      go_ret
      exact ⟨_, rfl, (HX 133).out (.inr ⟨HWK.out.1, .inr ⟨HGO.out, .inr ⟨HGA.out, .inr ⟨by omega, .inl ⟨.inr hy2, rfl⟩⟩⟩⟩⟩), HB3.out⟩
    have y1 : decide ((4096 : Int) < l.un) = false := by simp; omega
    go_wp2_with fail
    go_ret
    exact ⟨_, rfl, (HX 0).out (.inr ⟨HWK.out.1, .inr ⟨HGO.out, .inr ⟨HGA.out, .inr ⟨by omega, .inr ⟨by omega, rfl⟩⟩⟩⟩⟩), HB3.out⟩)
end Go.Proofs.Ytpicobmilcbmlaa
