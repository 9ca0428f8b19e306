import Derived.Test.YtkgifanlodlilaaGH15
import Derived.Test.YtkgifanlodlilaaG1
import Derived.Deep.RegionLaw
import Derived.Deep.RegionHeld3
import Derived.Deep.Cut
import Derived.Deep.DeepCutAuto
import Derived.Deep.CutBlock
import Derived.Deep.CutRange
import Derived.BigQuiet
import Derived.Handy
namespace Go.Proofs.Ytkgifanlodlilaa
open Go.ChangeShapes Go.WideShapes Go.ChangeAt Go.RowKit
set_option linter.unusedVariables false
set_option linter.unusedSimpArgs false

set_option maxRecDepth 100000 in
set_option maxHeartbeats 8000000 in
theorem rspread3_any (p : Pl) (v : PlV) (wk : Nat) (d : Nat → Nat) (hd : Hvy p.nq (wtF p.S p.ns) d) (hV : VC p 0) (hw1 : 1 ≤ wk) (hw2 : wk ≤ 64) (w : World) (h : PlAt w p v) :
    Calls Try.prog 8 #[.agg #[.int .i64 p.ki, .slice v.pp p.np v.pc, .slice v.tp p.nq v.tc, .slice v.sp p.ns v.sc, .int .u64 p.sd, .int .u64 p.lk, .int .u64 p.en, .int .i64 p.bu, .int .i64 p.fu], .int .i64 (wk : Int), .int .i64 3] w fun e w' => ∃ (x : Value) (f : Nat → Int), e = .returned (.tuple #[.agg #[.int .i64 (wk : Int), x, .int .i64 8192, .int .i64 1024, .int .i64 4096], .int .i64 0]) ∧ OI w' w.heap.size x p.nq f ∧ f = (dl (wtF p.S p.ns) d (wk - 1) p.nq).1 ∧ Below w.heap.size w w' := by
  obtain ⟨wb, hwb⟩ : ∃ wb, w.alloc (.cells #[.int .i64 p.ki, .slice v.pp p.np v.pc, .slice v.tp p.nq v.tc, .slice v.sp p.ns v.sc, .int .u64 p.sd, .int .u64 p.lk, .int .u64 p.en, .int .i64 p.bu, .int .i64 p.fu] 27) = wb := ⟨_, rfl⟩
  obtain ⟨hb0, hbox, hsz⟩ := boxed _ _ _ hwb
  have HW : Hid (w.alloc (.cells #[.int .i64 p.ki, .slice v.pp p.np v.pc, .slice v.tp p.nq v.tc, .slice v.sp p.ns v.sc, .int .u64 p.sd, .int .u64 p.lk, .int .u64 p.en, .int .i64 p.bu, .int .i64 p.fu] 27) = wb) := hwb
  obtain ⟨wl, hwl⟩ : ∃ wl, wb.alloc (.cells #[.int .i64 0, .slice none 0 0, .int .i64 0, .int .i64 0, .int .i64 0] 30) = wl := ⟨_, rfl⟩
  have HL : Hid (wb.alloc (.cells #[.int .i64 0, .slice none 0 0, .int .i64 0, .int .i64 0, .int .i64 0] 30) = wl) := hwl
  have hb1 : Below wb.heap.size wb wl := by rw [← hwl]; exact (Below.refl _ wb).alloc (Nat.le_refl _) _
  have hbw : Below w.heap.size w wl := hb0.trans (hb1.mono hb0.size)
  have hlay : wl.heap[w.heap.size + 1]? = some (.cells #[.int .i64 0, .slice none 0 0, .int .i64 0, .int .i64 0, .int .i64 0] 30 (0, 0)) := by rw [← hwl, ← hsz]; exact World.alloc_heap_new wb _
  have HV := rvalid_any p v wl (h.below hbw)
  have hboxl : wl.heap[w.heap.size]? = some (.cells #[.int .i64 p.ki, .slice v.pp p.np v.pc, .slice v.tp p.nq v.tc, .slice v.sp p.ns v.sc, .int .u64 p.sd, .int .u64 p.lk, .int .u64 p.en, .int .i64 p.bu, .int .i64 p.fu] 27 (0, 0)) := (hb1.block _ (by omega)).trans hbox
  have hszl : wl.heap.size = w.heap.size + 2 := by rw [← hwl, World.size_alloc, hsz]
  obtain ⟨⟨c0, c1, c2, c3⟩, c4, c5, c6, c7, c8⟩ := cells9 hbox
  rw [← hwb] at c0 c1 c2 c3 c4 c5 c6 c7 c8
  have HB : Hid (Below w.heap.size w wl ∧ wl.heap[w.heap.size]? = some (.cells #[.int .i64 p.ki, .slice v.pp p.np v.pc, .slice v.tp p.nq v.tc, .slice v.sp p.ns v.sc, .int .u64 p.sd, .int .u64 p.lk, .int .u64 p.en, .int .i64 p.bu, .int .i64 p.fu] 27 (0, 0)) ∧ wl.heap[w.heap.size + 1]? = some (.cells #[.int .i64 0, .slice none 0 0, .int .i64 0, .int .i64 0, .int .i64 0] 30 (0, 0)) ∧ wl.heap.size = w.heap.size + 2 ∧ PlAt w p v ∧ VC p 0) := ⟨hbw, hboxl, hlay, hszl, h, hV⟩
  obtain ⟨⟨⟨hns, hgs⟩, hq, hgt⟩, -⟩ := hV.fit6
  have HGT : Hid (∀ j, j < p.nq → gt1 p j) := hgt
  have d1 : decide ((wk : Int) < 1) = false := by simp; omega
  have d2 : decide ((64 : Int) < (wk : Int)) = false := by simp; omega
  have d2' : decide (64 < wk) = false := by simp; omega
  have hwz : ((wk : Int) == 0) = false := by simp; omega
  clear h hwb hwl hb0 hb1 hbox hsz hV hbw hlay hboxl hszl hgs hgt
  go_enter Try.func8, Try.ntmps8
  go_upto_region 2 with (go_at_call 6; rw [HW.out, HL.out]; (with_reducible refine HV.mono ?_); rintro e w1 ⟨cc, rfl, h5, h6⟩; obtain rfl : cc = 0 := h5.one HB.out.2.2.2.2.2; have H1 : Hid (Below wl.heap.size wl w1) := h6; clear h5 h6)
  clear c0 c1 c2 c3 c4 c5 c6 c7 c8 HV
  go_upto_region 9 with fail
  obtain ⟨w2, hw2e⟩ : ∃ w2, w1.alloc (.cells #[.int .i64 (wk : Int), .slice none 0 0, .int .i64 8192, .int .i64 1024, .int .i64 4096] 30) = w2 := ⟨_, rfl⟩
  obtain ⟨lv, hlv⟩ : ∃ lv, w1.heap.size = lv := ⟨_, rfl⟩
  rw [hw2e, hlv]
  have hb12 : Below w1.heap.size w1 w2 := by rw [← hw2e]; exact (Below.refl _ w1).alloc (Nat.le_refl _) _
  have hbl2 : Below wl.heap.size wl w2 := H1.out.trans (hb12.mono H1.out.size)
  have hbx2 : w2.heap[w.heap.size]? = some (.cells #[.int .i64 p.ki, .slice v.pp p.np v.pc, .slice v.tp p.nq v.tc, .slice v.sp p.ns v.sc, .int .u64 p.sd, .int .u64 p.lk, .int .u64 p.en, .int .i64 p.bu, .int .i64 p.fu] 27 (0, 0)) := (hbl2.block _ (by have := HB.out.2.2.2.1; omega)).trans HB.out.2.1
  have hly2 : w2.heap[w.heap.size + 1]? = some (.cells #[.int .i64 0, .slice none 0 0, .int .i64 0, .int .i64 0, .int .i64 0] 30 (0, 0)) := (hbl2.block _ (by have := HB.out.2.2.2.1; omega)).trans HB.out.2.2.1
  have hlv2 : w2.heap[lv]? = some (.cells #[.int .i64 (wk : Int), .slice none 0 0, .int .i64 8192, .int .i64 1024, .int .i64 4096] 30 (0, 0)) := by rw [← hw2e, ← hlv]; exact World.alloc_heap_new w1 _
  have hs2 : w2.heap.size = lv + 1 := by rw [← hw2e, World.size_alloc, hlv]
  have hlvge : w.heap.size + 2 ≤ lv := by have := H1.out.size; have := HB.out.2.2.2.1; omega
  have H2 : Hid (Below w.heap.size w w2 ∧ w2.heap[w.heap.size]? = some (.cells #[.int .i64 p.ki, .slice v.pp p.np v.pc, .slice v.tp p.nq v.tc, .slice v.sp p.ns v.sc, .int .u64 p.sd, .int .u64 p.lk, .int .u64 p.en, .int .i64 p.bu, .int .i64 p.fu] 27 (0, 0)) ∧ w2.heap[w.heap.size + 1]? = some (.cells #[.int .i64 0, .slice none 0 0, .int .i64 0, .int .i64 0, .int .i64 0] 30 (0, 0)) ∧ w2.heap[lv]? = some (.cells #[.int .i64 (wk : Int), .slice none 0 0, .int .i64 8192, .int .i64 1024, .int .i64 4096] 30 (0, 0)) ∧ w2.heap.size = lv + 1 ∧ w.heap.size + 2 ≤ lv ∧ PlAt w p v) := ⟨HB.out.1.trans (hbl2.mono HB.out.1.size), hbx2, hly2, hlv2, hs2, hlvge, HB.out.2.2.2.2.1⟩
  obtain ⟨⟨k0, k1, k2, k3⟩, k4, k5, k6, k7, k8⟩ := cells9 hbx2
  clear hw2e hlv hb12 hbl2 hbx2 hly2 hlv2 hs2 hlvge H1
  go_wp2_with fail
  clear k0 k1 k2 k3 k4 k5 k6 k7 k8
  go_loopw [11] (fun y wr => ∃ (i : Nat), y = .int .i64 (i : Int) ∧ i ≤ p.nq ∧ wr = w2) (fun y _ => p.nq - (intOf y).toNat)
  case atStart => exact ⟨0, rfl, Nat.zero_le _, rfl⟩
  case round =>
  obtain ⟨i, rfl, hi, hwr⟩ := hrel
  subst wr
  by_cases hlt : i < p.nq
  case pos =>
    have dlt : decide ((i : Int) < (p.nq : Int)) = true := by simp; omega
    have hm := gmeas hlt
    have ei : IntKind.i64.wrap ((i : Int) + 1) = (i : Int) + 1 := by rw [IntKind.wrap_i64]; omega
    go_wp2_with fail
    exact ⟨⟨i + 1, rfl, hlt, (by first | exact rfl | exact trivial)⟩, hm⟩
  case neg =>
  have dlt : decide ((i : Int) < (p.nq : Int)) = false := by simp; omega
  obtain rfl : i = p.nq := by omega
  obtain ⟨⟨k0, k1, k2, k3⟩, k4, k5, k6, k7, k8⟩ := cells9 H2.out.2.1
  have HRD := rdealt_any p v wk d HB.out.2.2.2.2.2 hw1 hw2 hd w2 (H2.out.2.2.2.2.2.2.below H2.out.1)
  go_upto_region 22 with (go_at_call 18; (with_reducible refine HRD.mono ?_); rintro e w3 ⟨g, rfl, h5, h6⟩; have hl3 := (h6.block _ (by have := H2.out.2.2.2.2.1; omega)).trans H2.out.2.2.2.1; have hy3 := (h6.block _ (by have := H2.out.2.2.2.2.1; have := H2.out.2.2.2.2.2.1; omega)).trans H2.out.2.2.1; obtain ⟨e0, e1, e2, e3, e4⟩ := cells5q hl3; have fzl := frz5q hl3; have H3 : Hid (IRow w3 w2.heap.size g p.nq p.nq (dl (wtF p.S p.ns) d (wk - 1) p.nq).1 ∧ Below w2.heap.size w2 w3 ∧ w3.heap[lv]? = some (.cells #[.int .i64 (wk : Int), .slice none 0 0, .int .i64 8192, .int .i64 1024, .int .i64 4096] 30 (0, 0)) ∧ w3.heap[w.heap.size + 1]? = some (.cells #[.int .i64 0, .slice none 0 0, .int .i64 0, .int .i64 0, .int .i64 0] 30 (0, 0))) := ⟨h5, h6, hl3, hy3⟩; clear h5 h6 hl3 hy3 k0 k1 k2 k3 k4 k5 k6 k7 k8)
  clear e0 e1 e2 e3 e4 fzl HRD
  obtain ⟨w4, hw4⟩ : ∃ w4, w3.setCell ⟨lv, 1, none⟩ (.slice (some ⟨g, 0, none⟩) p.nq p.nq) = w4 := ⟨_, rfl⟩
  have hl4 : w4.heap[lv]? = some (.cells #[.int .i64 (wk : Int), .slice (some ⟨g, 0, none⟩) p.nq p.nq, .int .i64 8192, .int .i64 1024, .int .i64 4096] 30 (0, 0)) := by rw [← hw4, setCell_block _ _ _ _ H3.out.2.2.1]; rfl
  have hlvg := H2.out.2.2.2.2
  have hgg := H3.out.1.lt
  have hy4 : w4.heap[w.heap.size + 1]? = some (.cells #[.int .i64 0, .slice none 0 0, .int .i64 0, .int .i64 0, .int .i64 0] 30 (0, 0)) := by rw [← hw4]; exact (Below.heap_setCell _ _ _ _ (by show w.heap.size + 1 ≠ lv; omega)).trans H3.out.2.2.2
  have hr4 : IRow w4 w2.heap.size g p.nq p.nq (dl (wtF p.S p.ns) d (wk - 1) p.nq).1 := by rw [← hw4]; exact H3.out.1.off (by omega)
  have hb4 : Below w.heap.size w w4 := by rw [← hw4]; exact (H2.out.1.trans (H3.out.2.1.mono H2.out.1.size)).setCell (by show w.heap.size ≤ lv; omega) _
  rw [hw4]
  obtain ⟨e0, e1, e2, e3, e4⟩ := cells5q hl4
  obtain ⟨z0, z1, z2, z3, z4⟩ := cells5q hy4
  have fzy := frz5q hy4
  have H4 : Hid (w4.heap[w.heap.size + 1]? = some (.cells #[.int .i64 0, .slice none 0 0, .int .i64 0, .int .i64 0, .int .i64 0] 30 (0, 0)) ∧ IRow w4 w2.heap.size g p.nq p.nq (dl (wtF p.S p.ns) d (wk - 1) p.nq).1 ∧ Below w.heap.size w w4 ∧ w.heap.size + 1 < g ∧ w.heap.size ≤ w2.heap.size) := ⟨hy4, hr4, hb4, by omega, by omega⟩
  clear hw4 hl4 hlvg hgg hy4 hr4 hb4
  go_wp2_with fail
  generalize hWF : (World.setCell (World.setCell (World.setCell (World.setCell (World.setCell w4 _ _) _ _) _ _) _ _) _ _) = wF
  obtain ⟨q1, q2, q3, q4⟩ := put5 H4.out.1 _ _ _ _ _ wF hWF
  obtain ⟨y0, y1, y2, y3, y4⟩ := cells5q q1
  refine bodyPost_ret (v := .tuple #[.agg #[.int .i64 (wk : Int), .slice (some ⟨g, 0, none⟩) p.nq p.nq, .int .i64 8192, .int .i64 1024, .int .i64 4096], .int .i64 0]) (by simp [results, Try.results8, go_sem, y0, y1, y2, y3, y4]; try rfl) rfl ?_
  have hgx := H4.out.2.2.2
  exact ⟨.slice (some ⟨g, 0, none⟩) p.nq p.nq, _, rfl, (Own.far H4.out.2.1 fun j hj => by
    have e : j = g := by injection hj with hj; exact hj.symm
    subst e
    exact q2 _ (by omega)).lower hgx.2, rfl, q3 _ _ H4.out.2.2.1 (by omega)⟩
set_option maxRecDepth 100000 in
set_option maxHeartbeats 2000000 in
theorem sameLayout_any (a b c e : Int) (q r : Option Addr) (n cq cr : Nat) (f g : Nat → Int) (hn : n ≤ 64) (hfg : ∀ i, i < n → f i = g i) (w : World) (hq : KAt w q n f) (hr : KAt w r n g) :
    Calls Try.prog 9 #[.agg #[.int .i64 a, .slice q n cq, .int .i64 b, .int .i64 c, .int .i64 e], .agg #[.int .i64 a, .slice r n cr, .int .i64 b, .int .i64 c, .int .i64 e]] w fun x w' => x = .returned (.bool true) ∧ Below w.heap.size w w' := by
  obtain ⟨wb, hwb⟩ : ∃ wb, w.alloc (.cells #[.int .i64 a, .slice q n cq, .int .i64 b, .int .i64 c, .int .i64 e] 30) = wb := ⟨_, rfl⟩
  obtain ⟨hb0, hbox, hsz⟩ := boxed _ _ _ hwb
  have HW : Hid (w.alloc (.cells #[.int .i64 a, .slice q n cq, .int .i64 b, .int .i64 c, .int .i64 e] 30) = wb) := hwb
  obtain ⟨wc, hwc⟩ : ∃ wc, wb.alloc (.cells #[.int .i64 a, .slice r n cr, .int .i64 b, .int .i64 c, .int .i64 e] 30) = wc := ⟨_, rfl⟩
  obtain ⟨hb1, hbox2, hsz2⟩ := boxed _ _ _ hwc
  have HC : Hid (wb.alloc (.cells #[.int .i64 a, .slice r n cr, .int .i64 b, .int .i64 c, .int .i64 e] 30) = wc) := hwc
  have hbw : Below w.heap.size w wc := hb0.trans (hb1.mono hb0.size)
  have hs : sameF n f g = true := sameF_yes hfg
  have HS := sameInts_any q r n n cq cr f g (by omega) wc (hq.below hbw) (hr.below hbw)
  rw [hs] at HS
  simp only [decide_true, Bool.and_true] at HS
  obtain ⟨x0, x1, x2, x3, x4⟩ := cells5q ((hb1.block _ (by omega)).trans hbox)
  obtain ⟨y0, y1, y2, y3, y4⟩ := cells5q hbox2
  rw [show wb.heap.size = w.heap.size + 1 from hsz] at y0 y1 y2 y3 y4
  have ea : (a == a) = true := by simp
  have eb : (b == b) = true := by simp
  have ec : (c == c) = true := by simp
  have ee : (e == e) = true := by simp
  have HB : Hid (Below w.heap.size w wc) := hbw
  rw [← hwc, ← hwb] at x0 x1 x2 x3 x4 y0 y1 y2 y3 y4
  clear hwb hwc hb0 hb1 hbox hbox2 hsz hsz2 hq hr hbw hs hfg
  go_enter Try.func9, Try.ntmps9
  go_wp2_with (go_at_call 12; rw [HW.out, HC.out]; (with_reducible refine HS.mono ?_); rintro x9 w2 ⟨rfl, h6⟩; have H2 : Hid (Below wc.heap.size wc w2) := h6; clear h6)
  go_ret
  exact ⟨rfl, HB.out.trans (H2.out.mono HB.out.size)⟩
end Go.Proofs.Ytkgifanlodlilaa
