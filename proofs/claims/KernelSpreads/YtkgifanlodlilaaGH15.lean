import Derived.Test.YtkgifanlodlilaaGH14
import Derived.Deep.RegionLaw
import Derived.Deep.RegionHeld3
import Derived.Deep.Cut
import Derived.Deep.DeepCutAuto
import Derived.Deep.CutBlock
import Derived.Deep.CutRange
import Derived.BigQuiet
import Derived.BigRegion
import Derived.Handy
namespace Go.Proofs.Ytkgifanlodlilaa
open Go.ChangeShapes Go.WideShapes Go.ChangeAt Go.RowKit
set_option linter.unusedVariables false
set_option linter.unusedSimpArgs false


theorem step_app {ops : Array Oper} {o : Oper} {a : Act} {w : World} {K : Act → World → Prop} {Q : Exit → Act → World → Prop} {E : Prop} (hg : o.guard = none) (s x : Operand)
    (hop : o.op = .call { callee := .builtin .append, args := #[s, x], argTypes := #[28, 28] }) (hty : o.type = 28) {v x' v' : Value} {W' : World} (hs : a.eval s = v) (hx : a.eval x = x')
    (hr : (Builtin.append_ #[28, 28] 28 #[v, x']).run Try.prog w = .ok v' W') (hK : K (a.put o.dst v') W') :
    if Region.wanted o (yielded ops a.tmps) = true then Oper.wp Try.prog o a w K Q else E := by
  have hw : Region.wanted o (yielded ops a.tmps) = true := by simp [Region.wanted, hg]
  rw [if_pos hw]
  unfold Oper.wp
  simp [execOp, hop, hty, resolve, invoke, builtin, hs, hx, hr, Result.andThen]
  exact hK
set_option maxRecDepth 100000 in
set_option maxHeartbeats 8000000 in
theorem rspread1_any (p : Pl) (v : PlV) (wk : Nat) (hV : VC p 0) (hw1 : 1 ≤ wk) (hw2 : wk ≤ 64) (w : World) (h : PlAt w p v) :
    Calls Try.prog 8 #[.agg #[.int .i64 p.ki, .slice v.pp p.np v.pc, .slice v.tp p.nq v.tc, .slice v.sp p.ns v.sc, .int .u64 p.sd, .int .u64 p.lk, .int .u64 p.en, .int .i64 p.bu, .int .i64 p.fu], .int .i64 (wk : Int), .int .i64 1] w fun e w' => ∃ (x : Value) (f : Nat → Int), e = .returned (.tuple #[.agg #[.int .i64 (wk : Int), x, .int .i64 8192, .int .i64 1024, .int .i64 4096], .int .i64 0]) ∧ OI w' w.heap.size x p.nq f ∧ f = owF p wk 1 ∧ Below w.heap.size w w' := by
  obtain ⟨wb, hwb⟩ : ∃ wb, w.alloc (.cells #[.int .i64 p.ki, .slice v.pp p.np v.pc, .slice v.tp p.nq v.tc, .slice v.sp p.ns v.sc, .int .u64 p.sd, .int .u64 p.lk, .int .u64 p.en, .int .i64 p.bu, .int .i64 p.fu] 27) = wb := ⟨_, rfl⟩
  obtain ⟨hb0, hbox, hsz⟩ := boxed _ _ _ hwb
  have HW : Hid (w.alloc (.cells #[.int .i64 p.ki, .slice v.pp p.np v.pc, .slice v.tp p.nq v.tc, .slice v.sp p.ns v.sc, .int .u64 p.sd, .int .u64 p.lk, .int .u64 p.en, .int .i64 p.bu, .int .i64 p.fu] 27) = wb) := hwb
  obtain ⟨wl, hwl⟩ : ∃ wl, wb.alloc (.cells #[.int .i64 0, .slice none 0 0, .int .i64 0, .int .i64 0, .int .i64 0] 30) = wl := ⟨_, rfl⟩
  have HL : Hid (wb.alloc (.cells #[.int .i64 0, .slice none 0 0, .int .i64 0, .int .i64 0, .int .i64 0] 30) = wl) := hwl
  have hb1 : Below wb.heap.size wb wl := by rw [← hwl]; exact (Below.refl _ wb).alloc (Nat.le_refl _) _
  have hbw : Below w.heap.size w wl := hb0.trans (hb1.mono hb0.size)
  have hlay : wl.heap[w.heap.size + 1]? = some (.cells #[.int .i64 0, .slice none 0 0, .int .i64 0, .int .i64 0, .int .i64 0] 30 (0, 0)) := by rw [← hwl, ← hsz]; exact World.alloc_heap_new wb _
  have HV := rvalid_any p v wl (h.below hbw)
  have hboxl : wl.heap[w.heap.size]? = some (.cells #[.int .i64 p.ki, .slice v.pp p.np v.pc, .slice v.tp p.nq v.tc, .slice v.sp p.ns v.sc, .int .u64 p.sd, .int .u64 p.lk, .int .u64 p.en, .int .i64 p.bu, .int .i64 p.fu] 27 (0, 0)) := (hb1.block _ (by omega)).trans hbox
  have hszl : wl.heap.size = w.heap.size + 2 := by rw [← hwl, World.size_alloc, hsz]
  obtain ⟨⟨c0, c1, c2, c3⟩, c4, c5, c6, c7, c8⟩ := cells9 hbox
  rw [← hwb] at c0 c1 c2 c3 c4 c5 c6 c7 c8
  have HB : Hid (Below w.heap.size w wl ∧ wl.heap[w.heap.size]? = some (.cells #[.int .i64 p.ki, .slice v.pp p.np v.pc, .slice v.tp p.nq v.tc, .slice v.sp p.ns v.sc, .int .u64 p.sd, .int .u64 p.lk, .int .u64 p.en, .int .i64 p.bu, .int .i64 p.fu] 27 (0, 0)) ∧ wl.heap[w.heap.size + 1]? = some (.cells #[.int .i64 0, .slice none 0 0, .int .i64 0, .int .i64 0, .int .i64 0] 30 (0, 0)) ∧ wl.heap.size = w.heap.size + 2 ∧ PlAt w p v ∧ VC p 0) := ⟨hbw, hboxl, hlay, hszl, h, hV⟩
  obtain ⟨⟨⟨hns, hgs⟩, hq, hgt⟩, -⟩ := hV.fit6
  have HGT : Hid (∀ j, j < p.nq → gt1 p j) := hgt
  have d1 : decide ((wk : Int) < 1) = false := by simp; omega
  have d2 : decide ((64 : Int) < (wk : Int)) = false := by simp; omega
  have d2' : decide (64 < wk) = false := by simp; omega
  have hwz : ((wk : Int) == 0) = false := by simp; omega
  clear h hwb hwl hb0 hb1 hbox hsz hV hbw hlay hboxl hszl hgs hgt
  go_enter Try.func8, Try.ntmps8
  go_upto_region 2 with (go_at_call 6; rw [HW.out, HL.out]; (with_reducible refine HV.mono ?_); rintro e w1 ⟨cc, rfl, h5, h6⟩; obtain rfl : cc = 0 := h5.one HB.out.2.2.2.2.2; have H1 : Hid (Below wl.heap.size wl w1) := h6; clear h5 h6)
  clear c0 c1 c2 c3 c4 c5 c6 c7 c8 HV
  go_upto_region 9 with fail
  obtain ⟨w2, hw2e⟩ : ∃ w2, w1.alloc (.cells #[.int .i64 (wk : Int), .slice none 0 0, .int .i64 8192, .int .i64 1024, .int .i64 4096] 30) = w2 := ⟨_, rfl⟩
  obtain ⟨lv, hlv⟩ : ∃ lv, w1.heap.size = lv := ⟨_, rfl⟩
  rw [hw2e, hlv]
  have hb12 : Below w1.heap.size w1 w2 := by rw [← hw2e]; exact (Below.refl _ w1).alloc (Nat.le_refl _) _
  have hbl2 : Below wl.heap.size wl w2 := H1.out.trans (hb12.mono H1.out.size)
  have hbx2 : w2.heap[w.heap.size]? = some (.cells #[.int .i64 p.ki, .slice v.pp p.np v.pc, .slice v.tp p.nq v.tc, .slice v.sp p.ns v.sc, .int .u64 p.sd, .int .u64 p.lk, .int .u64 p.en, .int .i64 p.bu, .int .i64 p.fu] 27 (0, 0)) := (hbl2.block _ (by have := HB.out.2.2.2.1; omega)).trans HB.out.2.1
  have hly2 : w2.heap[w.heap.size + 1]? = some (.cells #[.int .i64 0, .slice none 0 0, .int .i64 0, .int .i64 0, .int .i64 0] 30 (0, 0)) := (hbl2.block _ (by have := HB.out.2.2.2.1; omega)).trans HB.out.2.2.1
  have hlv2 : w2.heap[lv]? = some (.cells #[.int .i64 (wk : Int), .slice none 0 0, .int .i64 8192, .int .i64 1024, .int .i64 4096] 30 (0, 0)) := by rw [← hw2e, ← hlv]; exact World.alloc_heap_new w1 _
  have hs2 : w2.heap.size = lv + 1 := by rw [← hw2e, World.size_alloc, hlv]
  have hlvge : w.heap.size + 2 ≤ lv := by have := H1.out.size; have := HB.out.2.2.2.1; omega
  have H2 : Hid (Below w.heap.size w w2 ∧ w2.heap[w.heap.size]? = some (.cells #[.int .i64 p.ki, .slice v.pp p.np v.pc, .slice v.tp p.nq v.tc, .slice v.sp p.ns v.sc, .int .u64 p.sd, .int .u64 p.lk, .int .u64 p.en, .int .i64 p.bu, .int .i64 p.fu] 27 (0, 0)) ∧ w2.heap[w.heap.size + 1]? = some (.cells #[.int .i64 0, .slice none 0 0, .int .i64 0, .int .i64 0, .int .i64 0] 30 (0, 0)) ∧ w2.heap[lv]? = some (.cells #[.int .i64 (wk : Int), .slice none 0 0, .int .i64 8192, .int .i64 1024, .int .i64 4096] 30 (0, 0)) ∧ w2.heap.size = lv + 1 ∧ w.heap.size + 2 ≤ lv ∧ PlAt w p v) := ⟨HB.out.1.trans (hbl2.mono HB.out.1.size), hbx2, hly2, hlv2, hs2, hlvge, HB.out.2.2.2.2.1⟩
  obtain ⟨⟨k0, k1, k2, k3⟩, k4, k5, k6, k7, k8⟩ := cells9 hbx2
  clear hw2e hlv hb12 hbl2 hbx2 hly2 hlv2 hs2 hlvge H1
  go_wp2_with fail
  clear k0 k1 k2 k3 k4 k5 k6 k7 k8
  go_loopw [11] (fun y wr => ∃ (i : Nat) (qx : Option Addr) (cx : Nat), y = .int .i64 (i : Int) ∧ i ≤ p.nq ∧ wr.heap[lv]? = some (.cells #[.int .i64 (wk : Int), .slice qx i cx, .int .i64 8192, .int .i64 1024, .int .i64 4096] 30 (0, 0)) ∧ OI wr (lv + 1) (.slice qx i cx) i (owF p wk 1) ∧ Below lv w2 wr ∧ lv < wr.heap.size) (fun y _ => p.nq - (intOf y).toNat)
  case atStart => exact ⟨0, none, 0, rfl, Nat.zero_le _, H2.out.2.2.2.1, OI.nil _ _ _, Below.refl _ _, by have := H2.out.2.2.2.2.1; omega⟩
  case round =>
  obtain ⟨i, qx, cx, rfl, hi, hlx, hox, hbr, hlvl⟩ := hrel
  have hbxr := (hbr.block _ (by have := H2.out.2.2.2.2.2.1; omega)).trans H2.out.2.1
  have hlyr := (hbr.block _ (by have := H2.out.2.2.2.2.2.1; omega)).trans H2.out.2.2.1
  obtain ⟨e0, e1, e2, e3, e4⟩ := cells5q hlx
  have fzl := frz5q hlx
  by_cases hlt : i < p.nq
  case pos =>
    have dlt : decide ((i : Int) < (p.nq : Int)) = true := by simp; omega
    have hm := gmeas hlt
    have ei : IntKind.i64.wrap ((i : Int) + 1) = (i : Int) + 1 := by rw [IntKind.wrap_i64]; omega
    have i0 : (0 : Int) ≤ (i : Int) := by omega
    have i1 : (i : Int) < (p.nq : Int) := by omega
    have hgt1 := HGT.out i hlt
    obtain ⟨⟨-, -, k2, -⟩, -⟩ := cells9 hbxr
    have hts := (H2.out.2.2.2.2.2.2.below H2.out.1).ts
    have htr : TsAt wr v.tp p.nq p.pr p.nw p.K v.wp v.wc := (H2.out.2.2.2.2.2.2.below (H2.out.1.trans (hbr.mono (by have := H2.out.2.2.2.2.2.1; omega)))).ts
    obtain hz | ⟨gt, ot, hp, hl, hc, -⟩ := htr
    · omega
    obtain ⟨x0, x1⟩ := hc i hlt
    rw [hp] at k2
    clear hts hc hl hp
    have hwz2 : ¬ wk = 0 := by omega
    have hov : owF p wk 1 i = (i : Int).tmod (wk : Int) := by unfold owF; rw [if_pos rfl, Int.tmod_eq_emod_of_nonneg (by omega)]
    have hbdr : Below lv w2 wr.drew := hbr.trans ((drewG wr).mono (Nat.le_of_lt hlvl))
    obtain ⟨v', w3, hr3, ho3, hb3, hk3, hs3⟩ := app_own (W := wr.drew) (hox.later (drewG _)) (by show lv + 1 ≤ wr.heap.size; omega) (by omega) ((i : Int).tmod (wk : Int))
    obtain ⟨q3, c3, rfl, -⟩ := ho3.kat
    have hl3 : w3.heap[lv]? = some (.cells #[.int .i64 (wk : Int), .slice qx i cx, .int .i64 8192, .int .i64 1024, .int .i64 4096] 30 (0, 0)) := (hk3 lv (by show lv < wr.heap.size; omega) (fun e => by have := (Own.lt hox lv e).1; omega)).trans hlx
    obtain ⟨f0, f1, f2, f3, f4⟩ := cells5q hl3
    have fz3 := frz5q hl3
    have H3 : Hid (OI w3 (lv + 1) (.slice q3 (i + 1) c3) (i + 1) (owF p wk 1) ∧ w3.heap[lv]? = some (.cells #[.int .i64 (wk : Int), .slice qx i cx, .int .i64 8192, .int .i64 1024, .int .i64 4096] 30 (0, 0)) ∧ Below lv w2 w3 ∧ lv < w3.heap.size) := ⟨Own.congr ho3 fun j hj => by
      show Value.int .i64 (snc (owF p wk 1) i ((i : Int).tmod (wk : Int)) j) = _
      unfold snc
      split
      · rfl
      · rw [← hov, show j = i by omega], hl3, hbdr.trans (hb3.mono (by omega)), by have : wr.heap.size ≤ w3.heap.size := hs3; omega⟩
    have HR3 := hid6 hr3
    have HOV := hid6 hov
    clear hbr hbdr hr3 ho3 hb3 hk3 hs3 hl3 hbxr hlyr hox hlx hgt1
    go_upto_region 15 with fail
    go_region_law (refine step_app rfl (.tmp 46) (.tmp 50) rfl rfl (by simp [Act.eval, Act.put]) (by simp [Act.eval, Act.put]) HR3.out ?_)
    all_goals (
      go_wp2_with fail
      have hz := H3.out
      exact ⟨⟨i + 1, q3, c3, rfl, hlt, by rw [setCell_block _ _ _ _ hz.2.1]; rfl, Own.far hz.1 fun j hj => Below.heap_setCell _ _ _ _ (by have := (Own.lt hz.1 j hj).1; show j ≠ lv; omega), hz.2.2.1.setCell (Nat.le_refl _) _, by simp [World.setCell]; exact hz.2.2.2⟩, hm⟩)
  case neg =>
  have dlt : decide ((i : Int) < (p.nq : Int)) = false := by simp; omega
  obtain rfl : i = p.nq := by omega
  obtain ⟨z0, z1, z2, z3, z4⟩ := cells5q hlyr
  have fzy := frz5q hlyr
  have H4 : Hid (OI wr (lv + 1) (.slice qx p.nq cx) p.nq (owF p wk 1) ∧ Below lv w2 wr ∧ wr.heap[w.heap.size + 1]? = some (.cells #[.int .i64 0, .slice none 0 0, .int .i64 0, .int .i64 0, .int .i64 0] 30 (0, 0))) := ⟨hox, hbr, hlyr⟩
  clear hlx hox hbr hbxr hlyr
  go_wp2_with fail
  generalize hWF : (World.setCell (World.setCell (World.setCell (World.setCell (World.setCell wr _ _) _ _) _ _) _ _) _ _) = wF
  obtain ⟨q1, q2, q3, q4⟩ := put5 H4.out.2.2 _ _ _ _ _ wF hWF
  obtain ⟨y0, y1, y2, y3, y4⟩ := cells5q q1
  refine bodyPost_ret (v := .tuple #[.agg #[.int .i64 (wk : Int), .slice qx p.nq cx, .int .i64 8192, .int .i64 1024, .int .i64 4096], .int .i64 0]) (by simp [results, Try.results8, go_sem, y0, y1, y2, y3, y4]; try rfl) rfl ?_
  have hge := H2.out.2.2.2.2.2.1
  have hb9 : Below w.heap.size w wr := H2.out.1.trans (H4.out.2.1.mono (by omega))
  exact ⟨.slice qx p.nq cx, _, rfl, (Own.far H4.out.1 fun j hj => q2 _ (by have := (Own.lt H4.out.1 j hj).1; omega)).lower (by omega), rfl, q3 _ _ hb9 (by omega)⟩
set_option maxRecDepth 100000 in
set_option maxHeartbeats 8000000 in
theorem rspread2_any (p : Pl) (v : PlV) (wk : Nat) (hV : VC p 0) (hw1 : 1 ≤ wk) (hw2 : wk ≤ 64) (w : World) (h : PlAt w p v) :
    Calls Try.prog 8 #[.agg #[.int .i64 p.ki, .slice v.pp p.np v.pc, .slice v.tp p.nq v.tc, .slice v.sp p.ns v.sc, .int .u64 p.sd, .int .u64 p.lk, .int .u64 p.en, .int .i64 p.bu, .int .i64 p.fu], .int .i64 (wk : Int), .int .i64 2] w fun e w' => ∃ (x : Value) (f : Nat → Int), e = .returned (.tuple #[.agg #[.int .i64 (wk : Int), x, .int .i64 8192, .int .i64 1024, .int .i64 4096], .int .i64 0]) ∧ OI w' w.heap.size x p.nq f ∧ f = owF p wk 2 ∧ Below w.heap.size w w' := by
  obtain ⟨wb, hwb⟩ : ∃ wb, w.alloc (.cells #[.int .i64 p.ki, .slice v.pp p.np v.pc, .slice v.tp p.nq v.tc, .slice v.sp p.ns v.sc, .int .u64 p.sd, .int .u64 p.lk, .int .u64 p.en, .int .i64 p.bu, .int .i64 p.fu] 27) = wb := ⟨_, rfl⟩
  obtain ⟨hb0, hbox, hsz⟩ := boxed _ _ _ hwb
  have HW : Hid (w.alloc (.cells #[.int .i64 p.ki, .slice v.pp p.np v.pc, .slice v.tp p.nq v.tc, .slice v.sp p.ns v.sc, .int .u64 p.sd, .int .u64 p.lk, .int .u64 p.en, .int .i64 p.bu, .int .i64 p.fu] 27) = wb) := hwb
  obtain ⟨wl, hwl⟩ : ∃ wl, wb.alloc (.cells #[.int .i64 0, .slice none 0 0, .int .i64 0, .int .i64 0, .int .i64 0] 30) = wl := ⟨_, rfl⟩
  have HL : Hid (wb.alloc (.cells #[.int .i64 0, .slice none 0 0, .int .i64 0, .int .i64 0, .int .i64 0] 30) = wl) := hwl
  have hb1 : Below wb.heap.size wb wl := by rw [← hwl]; exact (Below.refl _ wb).alloc (Nat.le_refl _) _
  have hbw : Below w.heap.size w wl := hb0.trans (hb1.mono hb0.size)
  have hlay : wl.heap[w.heap.size + 1]? = some (.cells #[.int .i64 0, .slice none 0 0, .int .i64 0, .int .i64 0, .int .i64 0] 30 (0, 0)) := by rw [← hwl, ← hsz]; exact World.alloc_heap_new wb _
  have HV := rvalid_any p v wl (h.below hbw)
  have hboxl : wl.heap[w.heap.size]? = some (.cells #[.int .i64 p.ki, .slice v.pp p.np v.pc, .slice v.tp p.nq v.tc, .slice v.sp p.ns v.sc, .int .u64 p.sd, .int .u64 p.lk, .int .u64 p.en, .int .i64 p.bu, .int .i64 p.fu] 27 (0, 0)) := (hb1.block _ (by omega)).trans hbox
  have hszl : wl.heap.size = w.heap.size + 2 := by rw [← hwl, World.size_alloc, hsz]
  obtain ⟨⟨c0, c1, c2, c3⟩, c4, c5, c6, c7, c8⟩ := cells9 hbox
  rw [← hwb] at c0 c1 c2 c3 c4 c5 c6 c7 c8
  have HB : Hid (Below w.heap.size w wl ∧ wl.heap[w.heap.size]? = some (.cells #[.int .i64 p.ki, .slice v.pp p.np v.pc, .slice v.tp p.nq v.tc, .slice v.sp p.ns v.sc, .int .u64 p.sd, .int .u64 p.lk, .int .u64 p.en, .int .i64 p.bu, .int .i64 p.fu] 27 (0, 0)) ∧ wl.heap[w.heap.size + 1]? = some (.cells #[.int .i64 0, .slice none 0 0, .int .i64 0, .int .i64 0, .int .i64 0] 30 (0, 0)) ∧ wl.heap.size = w.heap.size + 2 ∧ PlAt w p v ∧ VC p 0) := ⟨hbw, hboxl, hlay, hszl, h, hV⟩
  obtain ⟨⟨⟨hns, hgs⟩, hq, hgt⟩, -⟩ := hV.fit6
  have HGT : Hid (∀ j, j < p.nq → gt1 p j) := hgt
  have d1 : decide ((wk : Int) < 1) = false := by simp; omega
  have d2 : decide ((64 : Int) < (wk : Int)) = false := by simp; omega
  have d2' : decide (64 < wk) = false := by simp; omega
  have hwz : ((wk : Int) == 0) = false := by simp; omega
  clear h hwb hwl hb0 hb1 hbox hsz hV hbw hlay hboxl hszl hgs hgt
  go_enter Try.func8, Try.ntmps8
  go_upto_region 2 with (go_at_call 6; rw [HW.out, HL.out]; (with_reducible refine HV.mono ?_); rintro e w1 ⟨cc, rfl, h5, h6⟩; obtain rfl : cc = 0 := h5.one HB.out.2.2.2.2.2; have H1 : Hid (Below wl.heap.size wl w1) := h6; clear h5 h6)
  clear c0 c1 c2 c3 c4 c5 c6 c7 c8 HV
  go_upto_region 9 with fail
  obtain ⟨w2, hw2e⟩ : ∃ w2, w1.alloc (.cells #[.int .i64 (wk : Int), .slice none 0 0, .int .i64 8192, .int .i64 1024, .int .i64 4096] 30) = w2 := ⟨_, rfl⟩
  obtain ⟨lv, hlv⟩ : ∃ lv, w1.heap.size = lv := ⟨_, rfl⟩
  rw [hw2e, hlv]
  have hb12 : Below w1.heap.size w1 w2 := by rw [← hw2e]; exact (Below.refl _ w1).alloc (Nat.le_refl _) _
  have hbl2 : Below wl.heap.size wl w2 := H1.out.trans (hb12.mono H1.out.size)
  have hbx2 : w2.heap[w.heap.size]? = some (.cells #[.int .i64 p.ki, .slice v.pp p.np v.pc, .slice v.tp p.nq v.tc, .slice v.sp p.ns v.sc, .int .u64 p.sd, .int .u64 p.lk, .int .u64 p.en, .int .i64 p.bu, .int .i64 p.fu] 27 (0, 0)) := (hbl2.block _ (by have := HB.out.2.2.2.1; omega)).trans HB.out.2.1
  have hly2 : w2.heap[w.heap.size + 1]? = some (.cells #[.int .i64 0, .slice none 0 0, .int .i64 0, .int .i64 0, .int .i64 0] 30 (0, 0)) := (hbl2.block _ (by have := HB.out.2.2.2.1; omega)).trans HB.out.2.2.1
  have hlv2 : w2.heap[lv]? = some (.cells #[.int .i64 (wk : Int), .slice none 0 0, .int .i64 8192, .int .i64 1024, .int .i64 4096] 30 (0, 0)) := by rw [← hw2e, ← hlv]; exact World.alloc_heap_new w1 _
  have hs2 : w2.heap.size = lv + 1 := by rw [← hw2e, World.size_alloc, hlv]
  have hlvge : w.heap.size + 2 ≤ lv := by have := H1.out.size; have := HB.out.2.2.2.1; omega
  have H2 : Hid (Below w.heap.size w w2 ∧ w2.heap[w.heap.size]? = some (.cells #[.int .i64 p.ki, .slice v.pp p.np v.pc, .slice v.tp p.nq v.tc, .slice v.sp p.ns v.sc, .int .u64 p.sd, .int .u64 p.lk, .int .u64 p.en, .int .i64 p.bu, .int .i64 p.fu] 27 (0, 0)) ∧ w2.heap[w.heap.size + 1]? = some (.cells #[.int .i64 0, .slice none 0 0, .int .i64 0, .int .i64 0, .int .i64 0] 30 (0, 0)) ∧ w2.heap[lv]? = some (.cells #[.int .i64 (wk : Int), .slice none 0 0, .int .i64 8192, .int .i64 1024, .int .i64 4096] 30 (0, 0)) ∧ w2.heap.size = lv + 1 ∧ w.heap.size + 2 ≤ lv ∧ PlAt w p v) := ⟨HB.out.1.trans (hbl2.mono HB.out.1.size), hbx2, hly2, hlv2, hs2, hlvge, HB.out.2.2.2.2.1⟩
  obtain ⟨⟨k0, k1, k2, k3⟩, k4, k5, k6, k7, k8⟩ := cells9 hbx2
  clear hw2e hlv hb12 hbl2 hbx2 hly2 hlv2 hs2 hlvge H1
  go_wp2_with fail
  clear k0 k1 k2 k3 k4 k5 k6 k7 k8
  go_loopw [11] (fun y wr => ∃ (i : Nat) (qx : Option Addr) (cx : Nat), y = .int .i64 (i : Int) ∧ i ≤ p.nq ∧ wr.heap[lv]? = some (.cells #[.int .i64 (wk : Int), .slice qx i cx, .int .i64 8192, .int .i64 1024, .int .i64 4096] 30 (0, 0)) ∧ OI wr (lv + 1) (.slice qx i cx) i (owF p wk 2) ∧ Below lv w2 wr ∧ lv < wr.heap.size) (fun y _ => p.nq - (intOf y).toNat)
  case atStart => exact ⟨0, none, 0, rfl, Nat.zero_le _, H2.out.2.2.2.1, OI.nil _ _ _, Below.refl _ _, by have := H2.out.2.2.2.2.1; omega⟩
  case round =>
  obtain ⟨i, qx, cx, rfl, hi, hlx, hox, hbr, hlvl⟩ := hrel
  have hbxr := (hbr.block _ (by have := H2.out.2.2.2.2.2.1; omega)).trans H2.out.2.1
  have hlyr := (hbr.block _ (by have := H2.out.2.2.2.2.2.1; omega)).trans H2.out.2.2.1
  obtain ⟨e0, e1, e2, e3, e4⟩ := cells5q hlx
  have fzl := frz5q hlx
  by_cases hlt : i < p.nq
  case pos =>
    have dlt : decide ((i : Int) < (p.nq : Int)) = true := by simp; omega
    have hm := gmeas hlt
    have ei : IntKind.i64.wrap ((i : Int) + 1) = (i : Int) + 1 := by rw [IntKind.wrap_i64]; omega
    have i0 : (0 : Int) ≤ (i : Int) := by omega
    have i1 : (i : Int) < (p.nq : Int) := by omega
    have hgt1 := HGT.out i hlt
    obtain ⟨⟨-, -, k2, -⟩, -⟩ := cells9 hbxr
    have hts := (H2.out.2.2.2.2.2.2.below H2.out.1).ts
    have htr : TsAt wr v.tp p.nq p.pr p.nw p.K v.wp v.wc := (H2.out.2.2.2.2.2.2.below (H2.out.1.trans (hbr.mono (by have := H2.out.2.2.2.2.2.1; omega)))).ts
    obtain hz | ⟨gt, ot, hp, hl, hc, -⟩ := htr
    · omega
    obtain ⟨x0, x1⟩ := hc i hlt
    rw [hp] at k2
    clear hts hc hl hp
    have hnz2 : ¬ p.nq = 0 := by omega
    have hmul : i * wk ≤ 64 * 64 := Nat.mul_le_mul (by omega) hw2
    have hmul2 : (i : Int) * (wk : Int) = ((i * wk : Nat) : Int) := by rw [Int.natCast_mul]
    have em : IntKind.i64.wrap ((i : Int) * (wk : Int)) = (i : Int) * (wk : Int) := by rw [hmul2, IntKind.wrap_i64]; omega
    have hm0 : (0 : Int) ≤ (i : Int) * (wk : Int) := by rw [hmul2]; omega
    have hm4 : (i : Int) * (wk : Int) ≤ 4096 := by rw [hmul2]; omega
    have hx1 := Int.ediv_nonneg hm0 (show (0 : Int) ≤ (p.nq : Int) by omega)
    have hx2 := Int.ediv_le_self (p.nq : Int) hm0
    have etd : ((i : Int) * (wk : Int)).tdiv (p.nq : Int) = (i : Int) * (wk : Int) / (p.nq : Int) := Int.tdiv_eq_ediv_of_nonneg hm0
    have ewd : IntKind.i64.wrap ((i : Int) * (wk : Int) / (p.nq : Int)) = (i : Int) * (wk : Int) / (p.nq : Int) := by rw [IntKind.wrap_i64]; omega
    clear hmul hmul2
    have hov : owF p wk 2 i = (i : Int) * (wk : Int) / (p.nq : Int) := by unfold owF; rw [if_neg (by decide), if_pos rfl]
    have hbdr : Below lv w2 wr.drew := hbr.trans ((drewG wr).mono (Nat.le_of_lt hlvl))
    obtain ⟨v', w3, hr3, ho3, hb3, hk3, hs3⟩ := app_own (W := wr.drew) (hox.later (drewG _)) (by show lv + 1 ≤ wr.heap.size; omega) (by omega) ((i : Int) * (wk : Int) / (p.nq : Int))
    obtain ⟨q3, c3, rfl, -⟩ := ho3.kat
    have hl3 : w3.heap[lv]? = some (.cells #[.int .i64 (wk : Int), .slice qx i cx, .int .i64 8192, .int .i64 1024, .int .i64 4096] 30 (0, 0)) := (hk3 lv (by show lv < wr.heap.size; omega) (fun e => by have := (Own.lt hox lv e).1; omega)).trans hlx
    obtain ⟨f0, f1, f2, f3, f4⟩ := cells5q hl3
    have fz3 := frz5q hl3
    have H3 : Hid (OI w3 (lv + 1) (.slice q3 (i + 1) c3) (i + 1) (owF p wk 2) ∧ w3.heap[lv]? = some (.cells #[.int .i64 (wk : Int), .slice qx i cx, .int .i64 8192, .int .i64 1024, .int .i64 4096] 30 (0, 0)) ∧ Below lv w2 w3 ∧ lv < w3.heap.size) := ⟨Own.congr ho3 fun j hj => by
      show Value.int .i64 (snc (owF p wk 2) i ((i : Int) * (wk : Int) / (p.nq : Int)) j) = _
      unfold snc
      split
      · rfl
      · rw [← hov, show j = i by omega], hl3, hbdr.trans (hb3.mono (by omega)), by have : wr.heap.size ≤ w3.heap.size := hs3; omega⟩
    have HR3 := hid6 hr3
    have HOV := hid6 hov
    clear hbr hbdr hr3 ho3 hb3 hk3 hs3 hl3 hbxr hlyr hox hlx hgt1
    go_upto_region 17 with fail
    go_region_law (refine step_app rfl (.tmp 56) (.tmp 62) rfl rfl (by simp [Act.eval, Act.put]) (by simp [Act.eval, Act.put]) HR3.out ?_)
    all_goals (
      go_wp2_with fail
      have hz := H3.out
      exact ⟨⟨i + 1, q3, c3, rfl, hlt, by rw [setCell_block _ _ _ _ hz.2.1]; rfl, Own.far hz.1 fun j hj => Below.heap_setCell _ _ _ _ (by have := (Own.lt hz.1 j hj).1; show j ≠ lv; omega), hz.2.2.1.setCell (Nat.le_refl _) _, by simp [World.setCell]; exact hz.2.2.2⟩, hm⟩)
  case neg =>
  have dlt : decide ((i : Int) < (p.nq : Int)) = false := by simp; omega
  obtain rfl : i = p.nq := by omega
  obtain ⟨z0, z1, z2, z3, z4⟩ := cells5q hlyr
  have fzy := frz5q hlyr
  have H4 : Hid (OI wr (lv + 1) (.slice qx p.nq cx) p.nq (owF p wk 2) ∧ Below lv w2 wr ∧ wr.heap[w.heap.size + 1]? = some (.cells #[.int .i64 0, .slice none 0 0, .int .i64 0, .int .i64 0, .int .i64 0] 30 (0, 0))) := ⟨hox, hbr, hlyr⟩
  clear hlx hox hbr hbxr hlyr
  go_wp2_with fail
  generalize hWF : (World.setCell (World.setCell (World.setCell (World.setCell (World.setCell wr _ _) _ _) _ _) _ _) _ _) = wF
  obtain ⟨q1, q2, q3, q4⟩ := put5 H4.out.2.2 _ _ _ _ _ wF hWF
  obtain ⟨y0, y1, y2, y3, y4⟩ := cells5q q1
  refine bodyPost_ret (v := .tuple #[.agg #[.int .i64 (wk : Int), .slice qx p.nq cx, .int .i64 8192, .int .i64 1024, .int .i64 4096], .int .i64 0]) (by simp [results, Try.results8, go_sem, y0, y1, y2, y3, y4]; try rfl) rfl ?_
  have hge := H2.out.2.2.2.2.2.1
  have hb9 : Below w.heap.size w wr := H2.out.1.trans (H4.out.2.1.mono (by omega))
  exact ⟨.slice qx p.nq cx, _, rfl, (Own.far H4.out.1 fun j hj => q2 _ (by have := (Own.lt H4.out.1 j hj).1; omega)).lower (by omega), rfl, q3 _ _ hb9 (by omega)⟩
set_option maxRecDepth 100000 in
set_option maxHeartbeats 8000000 in
theorem rspread4_any (p : Pl) (v : PlV) (wk : Nat) (hV : VC p 0) (hw1 : 1 ≤ wk) (hw2 : wk ≤ 64) (w : World) (h : PlAt w p v) :
    Calls Try.prog 8 #[.agg #[.int .i64 p.ki, .slice v.pp p.np v.pc, .slice v.tp p.nq v.tc, .slice v.sp p.ns v.sc, .int .u64 p.sd, .int .u64 p.lk, .int .u64 p.en, .int .i64 p.bu, .int .i64 p.fu], .int .i64 (wk : Int), .int .i64 4] w fun e w' => ∃ (x : Value) (f : Nat → Int), e = .returned (.tuple #[.agg #[.int .i64 (wk : Int), x, .int .i64 8192, .int .i64 1024, .int .i64 4096], .int .i64 0]) ∧ OI w' w.heap.size x p.nq f ∧ f = owF p wk 4 ∧ Below w.heap.size w w' := by
  obtain ⟨wb, hwb⟩ : ∃ wb, w.alloc (.cells #[.int .i64 p.ki, .slice v.pp p.np v.pc, .slice v.tp p.nq v.tc, .slice v.sp p.ns v.sc, .int .u64 p.sd, .int .u64 p.lk, .int .u64 p.en, .int .i64 p.bu, .int .i64 p.fu] 27) = wb := ⟨_, rfl⟩
  obtain ⟨hb0, hbox, hsz⟩ := boxed _ _ _ hwb
  have HW : Hid (w.alloc (.cells #[.int .i64 p.ki, .slice v.pp p.np v.pc, .slice v.tp p.nq v.tc, .slice v.sp p.ns v.sc, .int .u64 p.sd, .int .u64 p.lk, .int .u64 p.en, .int .i64 p.bu, .int .i64 p.fu] 27) = wb) := hwb
  obtain ⟨wl, hwl⟩ : ∃ wl, wb.alloc (.cells #[.int .i64 0, .slice none 0 0, .int .i64 0, .int .i64 0, .int .i64 0] 30) = wl := ⟨_, rfl⟩
  have HL : Hid (wb.alloc (.cells #[.int .i64 0, .slice none 0 0, .int .i64 0, .int .i64 0, .int .i64 0] 30) = wl) := hwl
  have hb1 : Below wb.heap.size wb wl := by rw [← hwl]; exact (Below.refl _ wb).alloc (Nat.le_refl _) _
  have hbw : Below w.heap.size w wl := hb0.trans (hb1.mono hb0.size)
  have hlay : wl.heap[w.heap.size + 1]? = some (.cells #[.int .i64 0, .slice none 0 0, .int .i64 0, .int .i64 0, .int .i64 0] 30 (0, 0)) := by rw [← hwl, ← hsz]; exact World.alloc_heap_new wb _
  have HV := rvalid_any p v wl (h.below hbw)
  have hboxl : wl.heap[w.heap.size]? = some (.cells #[.int .i64 p.ki, .slice v.pp p.np v.pc, .slice v.tp p.nq v.tc, .slice v.sp p.ns v.sc, .int .u64 p.sd, .int .u64 p.lk, .int .u64 p.en, .int .i64 p.bu, .int .i64 p.fu] 27 (0, 0)) := (hb1.block _ (by omega)).trans hbox
  have hszl : wl.heap.size = w.heap.size + 2 := by rw [← hwl, World.size_alloc, hsz]
  obtain ⟨⟨c0, c1, c2, c3⟩, c4, c5, c6, c7, c8⟩ := cells9 hbox
  rw [← hwb] at c0 c1 c2 c3 c4 c5 c6 c7 c8
  have HB : Hid (Below w.heap.size w wl ∧ wl.heap[w.heap.size]? = some (.cells #[.int .i64 p.ki, .slice v.pp p.np v.pc, .slice v.tp p.nq v.tc, .slice v.sp p.ns v.sc, .int .u64 p.sd, .int .u64 p.lk, .int .u64 p.en, .int .i64 p.bu, .int .i64 p.fu] 27 (0, 0)) ∧ wl.heap[w.heap.size + 1]? = some (.cells #[.int .i64 0, .slice none 0 0, .int .i64 0, .int .i64 0, .int .i64 0] 30 (0, 0)) ∧ wl.heap.size = w.heap.size + 2 ∧ PlAt w p v ∧ VC p 0) := ⟨hbw, hboxl, hlay, hszl, h, hV⟩
  obtain ⟨⟨⟨hns, hgs⟩, hq, hgt⟩, -⟩ := hV.fit6
  have HGT : Hid (∀ j, j < p.nq → gt1 p j) := hgt
  have d1 : decide ((wk : Int) < 1) = false := by simp; omega
  have d2 : decide ((64 : Int) < (wk : Int)) = false := by simp; omega
  have d2' : decide (64 < wk) = false := by simp; omega
  have hwz : ((wk : Int) == 0) = false := by simp; omega
  clear h hwb hwl hb0 hb1 hbox hsz hV hbw hlay hboxl hszl hgs hgt
  go_enter Try.func8, Try.ntmps8
  go_upto_region 2 with (go_at_call 6; rw [HW.out, HL.out]; (with_reducible refine HV.mono ?_); rintro e w1 ⟨cc, rfl, h5, h6⟩; obtain rfl : cc = 0 := h5.one HB.out.2.2.2.2.2; have H1 : Hid (Below wl.heap.size wl w1) := h6; clear h5 h6)
  clear c0 c1 c2 c3 c4 c5 c6 c7 c8 HV
  go_upto_region 9 with fail
  obtain ⟨w2, hw2e⟩ : ∃ w2, w1.alloc (.cells #[.int .i64 (wk : Int), .slice none 0 0, .int .i64 8192, .int .i64 1024, .int .i64 4096] 30) = w2 := ⟨_, rfl⟩
  obtain ⟨lv, hlv⟩ : ∃ lv, w1.heap.size = lv := ⟨_, rfl⟩
  rw [hw2e, hlv]
  have hb12 : Below w1.heap.size w1 w2 := by rw [← hw2e]; exact (Below.refl _ w1).alloc (Nat.le_refl _) _
  have hbl2 : Below wl.heap.size wl w2 := H1.out.trans (hb12.mono H1.out.size)
  have hbx2 : w2.heap[w.heap.size]? = some (.cells #[.int .i64 p.ki, .slice v.pp p.np v.pc, .slice v.tp p.nq v.tc, .slice v.sp p.ns v.sc, .int .u64 p.sd, .int .u64 p.lk, .int .u64 p.en, .int .i64 p.bu, .int .i64 p.fu] 27 (0, 0)) := (hbl2.block _ (by have := HB.out.2.2.2.1; omega)).trans HB.out.2.1
  have hly2 : w2.heap[w.heap.size + 1]? = some (.cells #[.int .i64 0, .slice none 0 0, .int .i64 0, .int .i64 0, .int .i64 0] 30 (0, 0)) := (hbl2.block _ (by have := HB.out.2.2.2.1; omega)).trans HB.out.2.2.1
  have hlv2 : w2.heap[lv]? = some (.cells #[.int .i64 (wk : Int), .slice none 0 0, .int .i64 8192, .int .i64 1024, .int .i64 4096] 30 (0, 0)) := by rw [← hw2e, ← hlv]; exact World.alloc_heap_new w1 _
  have hs2 : w2.heap.size = lv + 1 := by rw [← hw2e, World.size_alloc, hlv]
  have hlvge : w.heap.size + 2 ≤ lv := by have := H1.out.size; have := HB.out.2.2.2.1; omega
  have H2 : Hid (Below w.heap.size w w2 ∧ w2.heap[w.heap.size]? = some (.cells #[.int .i64 p.ki, .slice v.pp p.np v.pc, .slice v.tp p.nq v.tc, .slice v.sp p.ns v.sc, .int .u64 p.sd, .int .u64 p.lk, .int .u64 p.en, .int .i64 p.bu, .int .i64 p.fu] 27 (0, 0)) ∧ w2.heap[w.heap.size + 1]? = some (.cells #[.int .i64 0, .slice none 0 0, .int .i64 0, .int .i64 0, .int .i64 0] 30 (0, 0)) ∧ w2.heap[lv]? = some (.cells #[.int .i64 (wk : Int), .slice none 0 0, .int .i64 8192, .int .i64 1024, .int .i64 4096] 30 (0, 0)) ∧ w2.heap.size = lv + 1 ∧ w.heap.size + 2 ≤ lv ∧ PlAt w p v) := ⟨HB.out.1.trans (hbl2.mono HB.out.1.size), hbx2, hly2, hlv2, hs2, hlvge, HB.out.2.2.2.2.1⟩
  obtain ⟨⟨k0, k1, k2, k3⟩, k4, k5, k6, k7, k8⟩ := cells9 hbx2
  clear hw2e hlv hb12 hbl2 hbx2 hly2 hlv2 hs2 hlvge H1
  go_wp2_with fail
  clear k0 k1 k2 k3 k4 k5 k6 k7 k8
  go_loopw [11] (fun y wr => ∃ (i : Nat) (qx : Option Addr) (cx : Nat), y = .int .i64 (i : Int) ∧ i ≤ p.nq ∧ wr.heap[lv]? = some (.cells #[.int .i64 (wk : Int), .slice qx i cx, .int .i64 8192, .int .i64 1024, .int .i64 4096] 30 (0, 0)) ∧ OI wr (lv + 1) (.slice qx i cx) i (owF p wk 4) ∧ Below lv w2 wr ∧ lv < wr.heap.size) (fun y _ => p.nq - (intOf y).toNat)
  case atStart => exact ⟨0, none, 0, rfl, Nat.zero_le _, H2.out.2.2.2.1, OI.nil _ _ _, Below.refl _ _, by have := H2.out.2.2.2.2.1; omega⟩
  case round =>
  obtain ⟨i, qx, cx, rfl, hi, hlx, hox, hbr, hlvl⟩ := hrel
  have hbxr := (hbr.block _ (by have := H2.out.2.2.2.2.2.1; omega)).trans H2.out.2.1
  have hlyr := (hbr.block _ (by have := H2.out.2.2.2.2.2.1; omega)).trans H2.out.2.2.1
  obtain ⟨e0, e1, e2, e3, e4⟩ := cells5q hlx
  have fzl := frz5q hlx
  by_cases hlt : i < p.nq
  case pos =>
    have dlt : decide ((i : Int) < (p.nq : Int)) = true := by simp; omega
    have hm := gmeas hlt
    have ei : IntKind.i64.wrap ((i : Int) + 1) = (i : Int) + 1 := by rw [IntKind.wrap_i64]; omega
    have i0 : (0 : Int) ≤ (i : Int) := by omega
    have i1 : (i : Int) < (p.nq : Int) := by omega
    have hgt1 := HGT.out i hlt
    obtain ⟨⟨-, -, k2, -⟩, -⟩ := cells9 hbxr
    have hts := (H2.out.2.2.2.2.2.2.below H2.out.1).ts
    have htr : TsAt wr v.tp p.nq p.pr p.nw p.K v.wp v.wc := (H2.out.2.2.2.2.2.2.below (H2.out.1.trans (hbr.mono (by have := H2.out.2.2.2.2.2.1; omega)))).ts
    obtain hz | ⟨gt, ot, hp, hl, hc, -⟩ := htr
    · omega
    obtain ⟨x0, x1⟩ := hc i hlt
    rw [hp] at k2
    clear hts hc hl hp
    have hwz2 : ¬ wk = 0 := by omega
    have hp0 : 0 ≤ p.pr i := hgt1.1
    have hov : owF p wk 4 i = (p.pr i).tmod (wk : Int) := by unfold owF; rw [if_neg (by decide), if_neg (by decide), Int.tmod_eq_emod_of_nonneg hp0]
    have hbdr : Below lv w2 wr.drew := hbr.trans ((drewG wr).mono (Nat.le_of_lt hlvl))
    obtain ⟨v', w3, hr3, ho3, hb3, hk3, hs3⟩ := app_own (W := wr.drew) (hox.later (drewG _)) (by show lv + 1 ≤ wr.heap.size; omega) (by omega) ((p.pr i).tmod (wk : Int))
    obtain ⟨q3, c3, rfl, -⟩ := ho3.kat
    have hl3 : w3.heap[lv]? = some (.cells #[.int .i64 (wk : Int), .slice qx i cx, .int .i64 8192, .int .i64 1024, .int .i64 4096] 30 (0, 0)) := (hk3 lv (by show lv < wr.heap.size; omega) (fun e => by have := (Own.lt hox lv e).1; omega)).trans hlx
    obtain ⟨f0, f1, f2, f3, f4⟩ := cells5q hl3
    have fz3 := frz5q hl3
    have H3 : Hid (OI w3 (lv + 1) (.slice q3 (i + 1) c3) (i + 1) (owF p wk 4) ∧ w3.heap[lv]? = some (.cells #[.int .i64 (wk : Int), .slice qx i cx, .int .i64 8192, .int .i64 1024, .int .i64 4096] 30 (0, 0)) ∧ Below lv w2 w3 ∧ lv < w3.heap.size) := ⟨Own.congr ho3 fun j hj => by
      show Value.int .i64 (snc (owF p wk 4) i ((p.pr i).tmod (wk : Int)) j) = _
      unfold snc
      split
      · rfl
      · rw [← hov, show j = i by omega], hl3, hbdr.trans (hb3.mono (by omega)), by have : wr.heap.size ≤ w3.heap.size := hs3; omega⟩
    have HR3 := hid6 hr3
    have HOV := hid6 hov
    clear hbr hbdr hr3 ho3 hb3 hk3 hs3 hl3 hbxr hlyr hox hlx hgt1
    go_upto_region 19 with fail
    go_region_law (refine step_app rfl (.tmp 68) (.tmp 77) rfl rfl (by simp [Act.eval, Act.put]) (by simp [Act.eval, Act.put]) HR3.out ?_)
    all_goals (
      go_wp2_with fail
      have hz := H3.out
      exact ⟨⟨i + 1, q3, c3, rfl, hlt, by rw [setCell_block _ _ _ _ hz.2.1]; rfl, Own.far hz.1 fun j hj => Below.heap_setCell _ _ _ _ (by have := (Own.lt hz.1 j hj).1; show j ≠ lv; omega), hz.2.2.1.setCell (Nat.le_refl _) _, by simp [World.setCell]; exact hz.2.2.2⟩, hm⟩)
  case neg =>
  have dlt : decide ((i : Int) < (p.nq : Int)) = false := by simp; omega
  obtain rfl : i = p.nq := by omega
  obtain ⟨z0, z1, z2, z3, z4⟩ := cells5q hlyr
  have fzy := frz5q hlyr
  have H4 : Hid (OI wr (lv + 1) (.slice qx p.nq cx) p.nq (owF p wk 4) ∧ Below lv w2 wr ∧ wr.heap[w.heap.size + 1]? = some (.cells #[.int .i64 0, .slice none 0 0, .int .i64 0, .int .i64 0, .int .i64 0] 30 (0, 0))) := ⟨hox, hbr, hlyr⟩
  clear hlx hox hbr hbxr hlyr
  go_wp2_with fail
  generalize hWF : (World.setCell (World.setCell (World.setCell (World.setCell (World.setCell wr _ _) _ _) _ _) _ _) _ _) = wF
  obtain ⟨q1, q2, q3, q4⟩ := put5 H4.out.2.2 _ _ _ _ _ wF hWF
  obtain ⟨y0, y1, y2, y3, y4⟩ := cells5q q1
  refine bodyPost_ret (v := .tuple #[.agg #[.int .i64 (wk : Int), .slice qx p.nq cx, .int .i64 8192, .int .i64 1024, .int .i64 4096], .int .i64 0]) (by simp [results, Try.results8, go_sem, y0, y1, y2, y3, y4]; try rfl) rfl ?_
  have hge := H2.out.2.2.2.2.2.1
  have hb9 : Below w.heap.size w wr := H2.out.1.trans (H4.out.2.1.mono (by omega))
  exact ⟨.slice qx p.nq cx, _, rfl, (Own.far H4.out.1 fun j hj => q2 _ (by have := (Own.lt H4.out.1 j hj).1; omega)).lower (by omega), rfl, q3 _ _ hb9 (by omega)⟩
end Go.Proofs.Ytkgifanlodlilaa
