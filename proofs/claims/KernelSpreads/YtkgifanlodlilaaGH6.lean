import Derived.Test.YtkgifanlodlilaaGH5
import Derived.Test.YtkgifanlodlilaaSV3
import Derived.Deep.RegionLaw
import Derived.Deep.RegionHeld3
import Derived.Deep.Cut
import Derived.Deep.DeepCutAuto
import Derived.Deep.CutBlock
import Derived.Deep.CutRange
import Derived.BigQuiet
import Derived.Handy
namespace Go.Proofs.Ytkgifanlodlilaa
open Go.ChangeShapes Go.WideShapes Go.ChangeAt Go.RowKit
set_option linter.unusedVariables false
set_option linter.unusedSimpArgs false


theorem VC.fit6 {p : Pl} (h : VC p 0) : (GS p ∧ GT p) ∧ 0 ≤ p.bu ∧ p.bu ≤ 4096 := by
  rcases h with ⟨_, h⟩ | ⟨_, ⟨_, h⟩ | ⟨_, ⟨_, h⟩ | ⟨gt, ⟨_, h⟩ | ⟨g, ⟨_, h⟩ | ⟨_, ⟨_, h⟩ | ⟨h, _⟩⟩⟩⟩⟩⟩
  all_goals first | (cases h; done) | exact ⟨⟨g, gt⟩, by omega⟩
theorem cells5q {W : World} {b : Nat} {c0 c1 c2 c3 c4 : Value} {t : TypeId} (h : W.heap[b]? = some (.cells #[c0, c1, c2, c3, c4] t (0, 0))) : W.cell? ⟨b, 0, none⟩ = some c0 ∧ W.cell? ⟨b, 1, none⟩ = some c1 ∧ W.cell? ⟨b, 2, none⟩ = some c2 ∧ W.cell? ⟨b, 3, none⟩ = some c3 ∧ W.cell? ⟨b, 4, none⟩ = some c4 := by
  refine ⟨?_, ?_, ?_, ?_, ?_⟩
  all_goals (unfold World.cell?; rw [h]; rfl)
theorem put5 {W : World} {b : Nat} {a0 a1 a2 a3 a4 : Value} {t : TypeId} (h : W.heap[b]? = some (.cells #[a0, a1, a2, a3, a4] t (0, 0))) (c0 c1 c2 c3 c4 : Value) (W' : World) (e : ((((W.setCell ⟨b, 0, none⟩ c0).setCell ⟨b, 1, none⟩ c1).setCell ⟨b, 2, none⟩ c2).setCell ⟨b, 3, none⟩ c3).setCell ⟨b, 4, none⟩ c4 = W') : W'.heap[b]? = some (.cells #[c0, c1, c2, c3, c4] t (0, 0)) ∧ (∀ k, k ≠ b → W'.heap[k]? = W.heap[k]?) ∧ (∀ B w0, Below B w0 W → B ≤ b → Below B w0 W') ∧ W'.heap.size = W.heap.size := by
  subst e
  have h0 : (W.setCell ⟨b, 0, none⟩ c0).heap[b]? = some (.cells #[c0, a1, a2, a3, a4] t (0, 0)) := by rw [setCell_block _ _ _ _ h]; rfl
  have h1 : ((W.setCell ⟨b, 0, none⟩ c0).setCell ⟨b, 1, none⟩ c1).heap[b]? = some (.cells #[c0, c1, a2, a3, a4] t (0, 0)) := by rw [setCell_block _ _ _ _ h0]; rfl
  have h2 : (((W.setCell ⟨b, 0, none⟩ c0).setCell ⟨b, 1, none⟩ c1).setCell ⟨b, 2, none⟩ c2).heap[b]? = some (.cells #[c0, c1, c2, a3, a4] t (0, 0)) := by rw [setCell_block _ _ _ _ h1]; rfl
  have h3 : ((((W.setCell ⟨b, 0, none⟩ c0).setCell ⟨b, 1, none⟩ c1).setCell ⟨b, 2, none⟩ c2).setCell ⟨b, 3, none⟩ c3).heap[b]? = some (.cells #[c0, c1, c2, c3, a4] t (0, 0)) := by rw [setCell_block _ _ _ _ h2]; rfl
  refine ⟨by rw [setCell_block _ _ _ _ h3]; rfl, fun k hk => ?_, fun B w0 hb hB => ?_, by simp [World.setCell]⟩
  · rw [Below.heap_setCell _ _ _ _ hk, Below.heap_setCell _ _ _ _ hk, Below.heap_setCell _ _ _ _ hk, Below.heap_setCell _ _ _ _ hk, Below.heap_setCell _ _ _ _ hk]
  · exact ((((hb.setCell (p := ⟨b, 0, none⟩) hB _).setCell (p := ⟨b, 1, none⟩) hB _).setCell (p := ⟨b, 2, none⟩) hB _).setCell (p := ⟨b, 3, none⟩) hB _).setCell (p := ⟨b, 4, none⟩) hB _
theorem hid6 {q : Prop} (h : q) : Hid q := h
theorem frz5q {W : World} {b : Nat} {cs : Array Value} {t : TypeId} (h : W.heap[b]? = some (.cells cs t (0, 0))) (k : Nat) : W.frozen? ⟨b, k, none⟩ = false := by
  simp [World.frozen?, h]
/-- the parts' weights are dealt -/
def Dealt (p : Pl) (wk : Nat) (f : Nat → Int) : Prop := ∃ d, Hvy p.nq (wtF p.S p.ns) d ∧ f = (dl (wtF p.S p.ns) d (wk - 1) p.nq).1
set_option maxRecDepth 100000 in
set_option maxHeartbeats 2000000 in
theorem owners3_any (p : Pl) (v : PlV) (wk : Nat) (hV : VC p 0) (hw1 : 1 ≤ wk) (hw2 : wk ≤ 64) (w : World) (h : PlAt w p v) : Calls Try.prog 14 #[.agg #[.int .i64 p.ki, .slice v.pp p.np v.pc, .slice v.tp p.nq v.tc, .slice v.sp p.ns v.sc, .int .u64 p.sd, .int .u64 p.lk, .int .u64 p.en, .int .i64 p.bu, .int .i64 p.fu], .int .i64 (wk : Int), .int .i64 3] w fun e w' => ∃ (g : Nat) (f : Nat → Int), e = .returned (.slice (some ⟨g, 0, none⟩) p.nq p.nq) ∧ IRow w' w.heap.size g p.nq p.nq f ∧ Dealt p wk f ∧ Below w.heap.size w w' := by
  obtain ⟨wb, hwb⟩ : ∃ wb, w.alloc (.cells #[.int .i64 p.ki, .slice v.pp p.np v.pc, .slice v.tp p.nq v.tc, .slice v.sp p.ns v.sc, .int .u64 p.sd, .int .u64 p.lk, .int .u64 p.en, .int .i64 p.bu, .int .i64 p.fu] 27) = wb := ⟨_, rfl⟩
  obtain ⟨hb0, hbox, hsz⟩ := boxed _ _ _ hwb
  have HW : Hid (w.alloc (.cells #[.int .i64 p.ki, .slice v.pp p.np v.pc, .slice v.tp p.nq v.tc, .slice v.sp p.ns v.sc, .int .u64 p.sd, .int .u64 p.lk, .int .u64 p.en, .int .i64 p.bu, .int .i64 p.fu] 27) = wb) := hwb
  obtain ⟨⟨⟨hns, hgs⟩, hq, hgt⟩, -⟩ := hV.fit6
  have HR := weights_any p v ⟨hns, hgs⟩ hq wb (h.below hb0)
  obtain ⟨⟨c0, c1, c2, c3⟩, c4, c5, c6, c7, c8⟩ := cells9 hbox
  rw [← hwb] at c0 c1 c2 c3 c4 c5 c6 c7 c8
  have HD := fun W g (hK : KAt W (some ⟨g, 0, none⟩) p.nq (wtF p.S p.ns)) => dealt_any (some ⟨g, 0, none⟩) p.nq p.nq wk (wtF p.S p.ns) hq hw1 hw2 (fun i _ => by have := wtF_pos p.S p.ns i; omega) W hK
  have HB : Hid (Below w.heap.size w wb) := hb0
  clear h hwb hb0 hbox hsz hV hgs hgt
  go_enter Try.func14, Try.ntmps14
  go_wp2_with (first | (go_at_call 26; rw [HW.out]; (with_reducible refine HR.mono ?_); rintro e w1 ⟨g1, rfl, h5, h6⟩; have H1 : Hid (IRow w1 wb.heap.size g1 p.nq p.nq (wtF p.S p.ns) ∧ Below wb.heap.size wb w1) := ⟨h5, h6⟩; clear h5 h6) | (go_at_call 25; (with_reducible refine (HD _ _ H1.out.1.kat).mono ?_); rintro e w2 ⟨g2, d, rfl, h5, h6, h7⟩; have H2 : Hid (IRow w2 w1.heap.size g2 p.nq p.nq (dl (wtF p.S p.ns) d (wk - 1) p.nq).1 ∧ Hvy p.nq (wtF p.S p.ns) d ∧ Below w1.heap.size w1 w2) := ⟨h5, h6, h7⟩; clear h5 h6 h7))
  go_ret
  have hb1 : Below w.heap.size w w1 := HB.out.trans (H1.out.2.mono HB.out.size)
  exact ⟨g2, _, rfl, H2.out.1.lower hb1.size, ⟨d, H2.out.2.1, rfl⟩, hb1.trans (H2.out.2.2.mono hb1.size)⟩
set_option maxRecDepth 100000 in
set_option maxHeartbeats 2000000 in
theorem spread_good (p : Pl) (v : PlV) (wk : Nat) (way : Int) (hV : VC p 0) (hw1 : 1 ≤ wk) (hw2 : wk ≤ 64) (hy : 1 ≤ way ∧ way ≤ 4) (R : (Nat → Int) → Prop)
    (HO : ∀ w, PlAt w p v → Calls Try.prog 14 #[.agg #[.int .i64 p.ki, .slice v.pp p.np v.pc, .slice v.tp p.nq v.tc, .slice v.sp p.ns v.sc, .int .u64 p.sd, .int .u64 p.lk, .int .u64 p.en, .int .i64 p.bu, .int .i64 p.fu], .int .i64 (wk : Int), .int .i64 way] w fun e w' => ∃ (g : Nat) (f : Nat → Int), e = .returned (.slice (some ⟨g, 0, none⟩) p.nq p.nq) ∧ IRow w' w.heap.size g p.nq p.nq f ∧ R f ∧ Below w.heap.size w w') (w : World) (h : PlAt w p v) :
    Calls Try.prog 5 #[.agg #[.int .i64 p.ki, .slice v.pp p.np v.pc, .slice v.tp p.nq v.tc, .slice v.sp p.ns v.sc, .int .u64 p.sd, .int .u64 p.lk, .int .u64 p.en, .int .i64 p.bu, .int .i64 p.fu], .int .i64 (wk : Int), .int .i64 way] w fun e w' => ∃ (g : Nat) (f : Nat → Int), e = .returned (.tuple #[.agg #[.int .i64 (wk : Int), .slice (some ⟨g, 0, none⟩) p.nq p.nq, .int .i64 8192, .int .i64 1024, .int .i64 4096], .int .i64 0]) ∧ IRow w' w.heap.size g p.nq p.nq f ∧ R f ∧ Below w.heap.size w w' := by
  obtain ⟨wb, hwb⟩ : ∃ wb, w.alloc (.cells #[.int .i64 p.ki, .slice v.pp p.np v.pc, .slice v.tp p.nq v.tc, .slice v.sp p.ns v.sc, .int .u64 p.sd, .int .u64 p.lk, .int .u64 p.en, .int .i64 p.bu, .int .i64 p.fu] 27) = wb := ⟨_, rfl⟩
  obtain ⟨hb0, hbox, hsz⟩ := boxed _ _ _ hwb
  have HW : Hid (w.alloc (.cells #[.int .i64 p.ki, .slice v.pp p.np v.pc, .slice v.tp p.nq v.tc, .slice v.sp p.ns v.sc, .int .u64 p.sd, .int .u64 p.lk, .int .u64 p.en, .int .i64 p.bu, .int .i64 p.fu] 27) = wb) := hwb
  obtain ⟨wl, hwl⟩ : ∃ wl, wb.alloc (.cells #[.int .i64 0, .slice none 0 0, .int .i64 0, .int .i64 0, .int .i64 0] 30) = wl := ⟨_, rfl⟩
  have HL : Hid (wb.alloc (.cells #[.int .i64 0, .slice none 0 0, .int .i64 0, .int .i64 0, .int .i64 0] 30) = wl) := hwl
  have hb1 : Below wb.heap.size wb wl := by rw [← hwl]; exact (Below.refl _ wb).alloc (Nat.le_refl _) _
  have hbw : Below w.heap.size w wl := hb0.trans (hb1.mono hb0.size)
  have hlay : wl.heap[w.heap.size + 1]? = some (.cells #[.int .i64 0, .slice none 0 0, .int .i64 0, .int .i64 0, .int .i64 0] 30 (0, 0)) := by rw [← hwl, ← hsz]; exact World.alloc_heap_new wb _
  have HV := valid_any p v wl (h.below hbw)
  have hboxl : wl.heap[w.heap.size]? = some (.cells #[.int .i64 p.ki, .slice v.pp p.np v.pc, .slice v.tp p.nq v.tc, .slice v.sp p.ns v.sc, .int .u64 p.sd, .int .u64 p.lk, .int .u64 p.en, .int .i64 p.bu, .int .i64 p.fu] 27 (0, 0)) := (hb1.block _ (by omega)).trans hbox
  have hszl : wl.heap.size = w.heap.size + 2 := by rw [← hwl, World.size_alloc, hsz]
  obtain ⟨⟨c0, c1, c2, c3⟩, c4, c5, c6, c7, c8⟩ := cells9 hbox
  rw [← hwb] at c0 c1 c2 c3 c4 c5 c6 c7 c8
  have HB : Hid (Below w.heap.size w wl ∧ wl.heap[w.heap.size]? = some (.cells #[.int .i64 p.ki, .slice v.pp p.np v.pc, .slice v.tp p.nq v.tc, .slice v.sp p.ns v.sc, .int .u64 p.sd, .int .u64 p.lk, .int .u64 p.en, .int .i64 p.bu, .int .i64 p.fu] 27 (0, 0)) ∧ wl.heap[w.heap.size + 1]? = some (.cells #[.int .i64 0, .slice none 0 0, .int .i64 0, .int .i64 0, .int .i64 0] 30 (0, 0)) ∧ wl.heap.size = w.heap.size + 2 ∧ PlAt w p v ∧ VC p 0) := ⟨hbw, hboxl, hlay, hszl, h, hV⟩
  have d1 : decide ((wk : Int) < 1) = false := by simp; omega
  have d2 : decide ((64 : Int) < (wk : Int)) = false := by simp; omega
  have d2' : decide (64 < wk) = false := by simp; omega
  have d3 : decide (way < 1) = false := by simp; omega
  have d4 : decide (4 < way) = false := by simp; omega
  have HOH : Hid (∀ w, PlAt w p v → Calls Try.prog 14 #[.agg #[.int .i64 p.ki, .slice v.pp p.np v.pc, .slice v.tp p.nq v.tc, .slice v.sp p.ns v.sc, .int .u64 p.sd, .int .u64 p.lk, .int .u64 p.en, .int .i64 p.bu, .int .i64 p.fu], .int .i64 (wk : Int), .int .i64 way] w fun e w' => ∃ (g : Nat) (f : Nat → Int), e = .returned (.slice (some ⟨g, 0, none⟩) p.nq p.nq) ∧ IRow w' w.heap.size g p.nq p.nq f ∧ R f ∧ Below w.heap.size w w') := HO
  clear h hwb hwl hb0 hb1 hbox hsz hV hbw hlay hboxl hszl HO
  go_enter Try.func5, Try.ntmps5
  go_upto_region 2 with (go_at_call 13; rw [HW.out, HL.out]; (with_reducible refine HV.mono ?_); rintro e w1 ⟨cc, rfl, h5, h6⟩; obtain rfl : cc = 0 := h5.one HB.out.2.2.2.2.2; have H1 : Hid (Below wl.heap.size wl w1) := h6; clear h5 h6)
  clear c0 c1 c2 c3 c4 c5 c6 c7 c8 HV
  have hbx := (H1.out.block _ (by have := HB.out.2.2.2.1; omega)).trans HB.out.2.1
  have hly := (H1.out.block _ (by have := HB.out.2.2.2.1; omega)).trans HB.out.2.2.1
  have hbw1 : Below w.heap.size w w1 := HB.out.1.trans (H1.out.mono HB.out.1.size)
  obtain ⟨⟨c0, c1, c2, c3⟩, c4, c5, c6, c7, c8⟩ := cells9 hbx
  have HO := HOH.out w1 (HB.out.2.2.2.2.1.below hbw1)
  have HQ : Hid (w1.heap[w.heap.size + 1]? = some (.cells #[.int .i64 0, .slice none 0 0, .int .i64 0, .int .i64 0, .int .i64 0] 30 (0, 0)) ∧ Below w.heap.size w w1 ∧ w.heap.size + 1 < w1.heap.size) := ⟨hly, hbw1, by have := HB.out.2.2.2.1; have := H1.out.size; omega⟩
  clear hbx hly hbw1 HOH
  go_upto_region 8 with fail
  go_wp2_with (go_at_call 14; (with_reducible refine HO.mono ?_); rintro e w2 ⟨g, f, rfl, h5, h6, h7⟩; have H2 : Hid (IRow w2 w1.heap.size g p.nq p.nq f ∧ R f ∧ Below w1.heap.size w1 w2) := ⟨h5, h6, h7⟩; have hl2 := (h7.block _ HQ.out.2.2).trans HQ.out.1; obtain ⟨e0, e1, e2, e3, e4⟩ := cells5q hl2; have fz := frz5q hl2; have HLL : Hid (w2.heap[w.heap.size + 1]? = some (.cells #[.int .i64 0, .slice none 0 0, .int .i64 0, .int .i64 0, .int .i64 0] 30 (0, 0))) := hl2; clear h5 h6 h7 hl2)
  generalize hWF : (World.setCell (World.setCell (World.setCell (World.setCell (World.setCell w2 _ _) _ _) _ _) _ _) _ _) = wF
  obtain ⟨q1, q2, q3, q4⟩ := put5 HLL.out _ _ _ _ _ wF hWF
  obtain ⟨e0, e1, e2, e3, e4⟩ := cells5q q1
  refine bodyPost_ret (v := .tuple #[.agg #[.int .i64 (wk : Int), .slice (some ⟨g, 0, none⟩) p.nq p.nq, .int .i64 8192, .int .i64 1024, .int .i64 4096], .int .i64 0]) (by simp [results, Try.results5, go_sem, e0, e1, e2, e3, e4]; try rfl) rfl ?_
  have hg1 := H2.out.1.lt
  have hq1 := HQ.out.2.2
  have hb2 : Below w.heap.size w w2 := HQ.out.2.1.trans (H2.out.2.2.mono HQ.out.2.1.size)
  exact ⟨g, f, rfl, (Own.far H2.out.1 fun j hj => by
    have e : j = g := by injection hj with hj; exact hj.symm
    subst e
    exact q2 _ (by omega)).lower HQ.out.2.1.size, H2.out.2.1, q3 _ _ hb2 (by omega)⟩
set_option maxRecDepth 100000 in
set_option maxHeartbeats 2000000 in
theorem spread_bad (p : Pl) (v : PlV) (wk way : Int) (cv : Int) (hc : cv ≠ 0) (hV : VC p cv) (w : World) (h : PlAt w p v) :
    Calls Try.prog 5 #[.agg #[.int .i64 p.ki, .slice v.pp p.np v.pc, .slice v.tp p.nq v.tc, .slice v.sp p.ns v.sc, .int .u64 p.sd, .int .u64 p.lk, .int .u64 p.en, .int .i64 p.bu, .int .i64 p.fu], .int .i64 wk, .int .i64 way] w fun e w' => e = .returned (.tuple #[.agg #[.int .i64 0, .slice none 0 0, .int .i64 0, .int .i64 0, .int .i64 0], .int .i64 cv]) ∧ Below w.heap.size w w' := by
  obtain ⟨wb, hwb⟩ : ∃ wb, w.alloc (.cells #[.int .i64 p.ki, .slice v.pp p.np v.pc, .slice v.tp p.nq v.tc, .slice v.sp p.ns v.sc, .int .u64 p.sd, .int .u64 p.lk, .int .u64 p.en, .int .i64 p.bu, .int .i64 p.fu] 27) = wb := ⟨_, rfl⟩
  obtain ⟨hb0, hbox, hsz⟩ := boxed _ _ _ hwb
  have HW : Hid (w.alloc (.cells #[.int .i64 p.ki, .slice v.pp p.np v.pc, .slice v.tp p.nq v.tc, .slice v.sp p.ns v.sc, .int .u64 p.sd, .int .u64 p.lk, .int .u64 p.en, .int .i64 p.bu, .int .i64 p.fu] 27) = wb) := hwb
  obtain ⟨wl, hwl⟩ : ∃ wl, wb.alloc (.cells #[.int .i64 0, .slice none 0 0, .int .i64 0, .int .i64 0, .int .i64 0] 30) = wl := ⟨_, rfl⟩
  have HL : Hid (wb.alloc (.cells #[.int .i64 0, .slice none 0 0, .int .i64 0, .int .i64 0, .int .i64 0] 30) = wl) := hwl
  have hb1 : Below wb.heap.size wb wl := by rw [← hwl]; exact (Below.refl _ wb).alloc (Nat.le_refl _) _
  have hbw : Below w.heap.size w wl := hb0.trans (hb1.mono hb0.size)
  have hlay : wl.heap[w.heap.size + 1]? = some (.cells #[.int .i64 0, .slice none 0 0, .int .i64 0, .int .i64 0, .int .i64 0] 30 (0, 0)) := by rw [← hwl, ← hsz]; exact World.alloc_heap_new wb _
  have HV := valid_any p v wl (h.below hbw)
  have hszl : wl.heap.size = w.heap.size + 2 := by rw [← hwl, World.size_alloc, hsz]
  obtain ⟨⟨c0, c1, c2, c3⟩, c4, c5, c6, c7, c8⟩ := cells9 hbox
  rw [← hwb] at c0 c1 c2 c3 c4 c5 c6 c7 c8
  have HB : Hid (Below w.heap.size w wl ∧ wl.heap[w.heap.size + 1]? = some (.cells #[.int .i64 0, .slice none 0 0, .int .i64 0, .int .i64 0, .int .i64 0] 30 (0, 0)) ∧ wl.heap.size = w.heap.size + 2) := ⟨hbw, hlay, hszl⟩
  have HVC := hid6 hV
  have d0 : (cv != 0) = true := by simp [hc]
  have d0b : (cv == 0) = false := by simp [hc]
  clear h hwb hwl hb0 hb1 hbox hsz hV hbw hlay hszl
  go_enter Try.func5, Try.ntmps5
  go_upto_region 2 with (go_at_call 13; rw [HW.out, HL.out]; (with_reducible refine HV.mono ?_); rintro e w1 ⟨cc, rfl, h5, h6⟩; obtain rfl : cv = cc := HVC.out.one h5; have H1 : Hid (Below wl.heap.size wl w1) := h6; clear h5 h6)
  clear c0 c1 c2 c3 c4 c5 c6 c7 c8 HV
  have hly := (H1.out.block _ (by have := HB.out.2.2; omega)).trans HB.out.2.1
  obtain ⟨e0, e1, e2, e3, e4⟩ := cells5q hly
  have fz := frz5q hly
  have HLL : Hid (w1.heap[w.heap.size + 1]? = some (.cells #[.int .i64 0, .slice none 0 0, .int .i64 0, .int .i64 0, .int .i64 0] 30 (0, 0)) ∧ Below w.heap.size w w1) := ⟨hly, HB.out.1.trans (H1.out.mono HB.out.1.size)⟩
  clear hly
  go_wp2_with fail
  generalize hWF : (World.setCell (World.setCell (World.setCell (World.setCell (World.setCell w1 _ _) _ _) _ _) _ _) _ _) = wF
  obtain ⟨q1, q2, q3, q4⟩ := put5 HLL.out.1 _ _ _ _ _ wF hWF
  obtain ⟨f0, f1, f2, f3, f4⟩ := cells5q q1
  refine bodyPost_ret (v := .tuple #[.agg #[.int .i64 0, .slice none 0 0, .int .i64 0, .int .i64 0, .int .i64 0], .int .i64 cv]) (by simp [results, Try.results5, go_sem, f0, f1, f2, f3, f4]; try rfl) rfl ?_
  exact ⟨rfl, q3 _ _ HLL.out.2 (by omega)⟩
set_option maxRecDepth 100000 in
set_option maxHeartbeats 2000000 in
theorem spread_wkLo (p : Pl) (v : PlV) (wk way : Int) (hV : VC p 0) (hk : wk < 1) (w : World) (h : PlAt w p v) :
    Calls Try.prog 5 #[.agg #[.int .i64 p.ki, .slice v.pp p.np v.pc, .slice v.tp p.nq v.tc, .slice v.sp p.ns v.sc, .int .u64 p.sd, .int .u64 p.lk, .int .u64 p.en, .int .i64 p.bu, .int .i64 p.fu], .int .i64 wk, .int .i64 way] w fun e w' => e = .returned (.tuple #[.agg #[.int .i64 0, .slice none 0 0, .int .i64 0, .int .i64 0, .int .i64 0], .int .i64 100]) ∧ Below w.heap.size w w' := by
  obtain ⟨wb, hwb⟩ : ∃ wb, w.alloc (.cells #[.int .i64 p.ki, .slice v.pp p.np v.pc, .slice v.tp p.nq v.tc, .slice v.sp p.ns v.sc, .int .u64 p.sd, .int .u64 p.lk, .int .u64 p.en, .int .i64 p.bu, .int .i64 p.fu] 27) = wb := ⟨_, rfl⟩
  obtain ⟨hb0, hbox, hsz⟩ := boxed _ _ _ hwb
  have HW : Hid (w.alloc (.cells #[.int .i64 p.ki, .slice v.pp p.np v.pc, .slice v.tp p.nq v.tc, .slice v.sp p.ns v.sc, .int .u64 p.sd, .int .u64 p.lk, .int .u64 p.en, .int .i64 p.bu, .int .i64 p.fu] 27) = wb) := hwb
  obtain ⟨wl, hwl⟩ : ∃ wl, wb.alloc (.cells #[.int .i64 0, .slice none 0 0, .int .i64 0, .int .i64 0, .int .i64 0] 30) = wl := ⟨_, rfl⟩
  have HL : Hid (wb.alloc (.cells #[.int .i64 0, .slice none 0 0, .int .i64 0, .int .i64 0, .int .i64 0] 30) = wl) := hwl
  have hb1 : Below wb.heap.size wb wl := by rw [← hwl]; exact (Below.refl _ wb).alloc (Nat.le_refl _) _
  have hbw : Below w.heap.size w wl := hb0.trans (hb1.mono hb0.size)
  have hlay : wl.heap[w.heap.size + 1]? = some (.cells #[.int .i64 0, .slice none 0 0, .int .i64 0, .int .i64 0, .int .i64 0] 30 (0, 0)) := by rw [← hwl, ← hsz]; exact World.alloc_heap_new wb _
  have HV := valid_any p v wl (h.below hbw)
  have hszl : wl.heap.size = w.heap.size + 2 := by rw [← hwl, World.size_alloc, hsz]
  obtain ⟨⟨c0, c1, c2, c3⟩, c4, c5, c6, c7, c8⟩ := cells9 hbox
  rw [← hwb] at c0 c1 c2 c3 c4 c5 c6 c7 c8
  have HB : Hid (Below w.heap.size w wl ∧ wl.heap[w.heap.size + 1]? = some (.cells #[.int .i64 0, .slice none 0 0, .int .i64 0, .int .i64 0, .int .i64 0] 30 (0, 0)) ∧ wl.heap.size = w.heap.size + 2) := ⟨hbw, hlay, hszl⟩
  have HVC := hid6 hV
  have d1 : decide (wk < 1) = true := by simp; omega
  clear h hwb hwl hb0 hb1 hbox hsz hV hbw hlay hszl
  go_enter Try.func5, Try.ntmps5
  go_upto_region 2 with (go_at_call 13; rw [HW.out, HL.out]; (with_reducible refine HV.mono ?_); rintro e w1 ⟨cc, rfl, h5, h6⟩; obtain rfl : 0 = cc := HVC.out.one h5; have H1 : Hid (Below wl.heap.size wl w1) := h6; clear h5 h6)
  clear c0 c1 c2 c3 c4 c5 c6 c7 c8 HV
  have hly := (H1.out.block _ (by have := HB.out.2.2; omega)).trans HB.out.2.1
  obtain ⟨e0, e1, e2, e3, e4⟩ := cells5q hly
  have fz := frz5q hly
  have HLL : Hid (w1.heap[w.heap.size + 1]? = some (.cells #[.int .i64 0, .slice none 0 0, .int .i64 0, .int .i64 0, .int .i64 0] 30 (0, 0)) ∧ Below w.heap.size w w1) := ⟨hly, HB.out.1.trans (H1.out.mono HB.out.1.size)⟩
  clear hly
  go_wp2_with fail
  generalize hWF : (World.setCell (World.setCell (World.setCell (World.setCell (World.setCell w1 _ _) _ _) _ _) _ _) _ _) = wF
  obtain ⟨q1, q2, q3, q4⟩ := put5 HLL.out.1 _ _ _ _ _ wF hWF
  obtain ⟨f0, f1, f2, f3, f4⟩ := cells5q q1
  refine bodyPost_ret (v := .tuple #[.agg #[.int .i64 0, .slice none 0 0, .int .i64 0, .int .i64 0, .int .i64 0], .int .i64 100]) (by simp [results, Try.results5, go_sem, f0, f1, f2, f3, f4]; try rfl) rfl ?_
  exact ⟨rfl, q3 _ _ HLL.out.2 (by omega)⟩
set_option maxRecDepth 100000 in
set_option maxHeartbeats 2000000 in
theorem spread_wkHi (p : Pl) (v : PlV) (wk way : Int) (hV : VC p 0) (hk : 64 < wk) (w : World) (h : PlAt w p v) :
    Calls Try.prog 5 #[.agg #[.int .i64 p.ki, .slice v.pp p.np v.pc, .slice v.tp p.nq v.tc, .slice v.sp p.ns v.sc, .int .u64 p.sd, .int .u64 p.lk, .int .u64 p.en, .int .i64 p.bu, .int .i64 p.fu], .int .i64 wk, .int .i64 way] w fun e w' => e = .returned (.tuple #[.agg #[.int .i64 0, .slice none 0 0, .int .i64 0, .int .i64 0, .int .i64 0], .int .i64 100]) ∧ Below w.heap.size w w' := by
  obtain ⟨wb, hwb⟩ : ∃ wb, w.alloc (.cells #[.int .i64 p.ki, .slice v.pp p.np v.pc, .slice v.tp p.nq v.tc, .slice v.sp p.ns v.sc, .int .u64 p.sd, .int .u64 p.lk, .int .u64 p.en, .int .i64 p.bu, .int .i64 p.fu] 27) = wb := ⟨_, rfl⟩
  obtain ⟨hb0, hbox, hsz⟩ := boxed _ _ _ hwb
  have HW : Hid (w.alloc (.cells #[.int .i64 p.ki, .slice v.pp p.np v.pc, .slice v.tp p.nq v.tc, .slice v.sp p.ns v.sc, .int .u64 p.sd, .int .u64 p.lk, .int .u64 p.en, .int .i64 p.bu, .int .i64 p.fu] 27) = wb) := hwb
  obtain ⟨wl, hwl⟩ : ∃ wl, wb.alloc (.cells #[.int .i64 0, .slice none 0 0, .int .i64 0, .int .i64 0, .int .i64 0] 30) = wl := ⟨_, rfl⟩
  have HL : Hid (wb.alloc (.cells #[.int .i64 0, .slice none 0 0, .int .i64 0, .int .i64 0, .int .i64 0] 30) = wl) := hwl
  have hb1 : Below wb.heap.size wb wl := by rw [← hwl]; exact (Below.refl _ wb).alloc (Nat.le_refl _) _
  have hbw : Below w.heap.size w wl := hb0.trans (hb1.mono hb0.size)
  have hlay : wl.heap[w.heap.size + 1]? = some (.cells #[.int .i64 0, .slice none 0 0, .int .i64 0, .int .i64 0, .int .i64 0] 30 (0, 0)) := by rw [← hwl, ← hsz]; exact World.alloc_heap_new wb _
  have HV := valid_any p v wl (h.below hbw)
  have hszl : wl.heap.size = w.heap.size + 2 := by rw [← hwl, World.size_alloc, hsz]
  obtain ⟨⟨c0, c1, c2, c3⟩, c4, c5, c6, c7, c8⟩ := cells9 hbox
  rw [← hwb] at c0 c1 c2 c3 c4 c5 c6 c7 c8
  have HB : Hid (Below w.heap.size w wl ∧ wl.heap[w.heap.size + 1]? = some (.cells #[.int .i64 0, .slice none 0 0, .int .i64 0, .int .i64 0, .int .i64 0] 30 (0, 0)) ∧ wl.heap.size = w.heap.size + 2) := ⟨hbw, hlay, hszl⟩
  have HVC := hid6 hV
  have d1 : decide (wk < 1) = false := by simp; omega
  have d2 : decide (64 < wk) = true := by simp; omega
  clear h hwb hwl hb0 hb1 hbox hsz hV hbw hlay hszl
  go_enter Try.func5, Try.ntmps5
  go_upto_region 2 with (go_at_call 13; rw [HW.out, HL.out]; (with_reducible refine HV.mono ?_); rintro e w1 ⟨cc, rfl, h5, h6⟩; obtain rfl : 0 = cc := HVC.out.one h5; have H1 : Hid (Below wl.heap.size wl w1) := h6; clear h5 h6)
  clear c0 c1 c2 c3 c4 c5 c6 c7 c8 HV
  have hly := (H1.out.block _ (by have := HB.out.2.2; omega)).trans HB.out.2.1
  obtain ⟨e0, e1, e2, e3, e4⟩ := cells5q hly
  have fz := frz5q hly
  have HLL : Hid (w1.heap[w.heap.size + 1]? = some (.cells #[.int .i64 0, .slice none 0 0, .int .i64 0, .int .i64 0, .int .i64 0] 30 (0, 0)) ∧ Below w.heap.size w w1) := ⟨hly, HB.out.1.trans (H1.out.mono HB.out.1.size)⟩
  clear hly
  go_wp2_with fail
  generalize hWF : (World.setCell (World.setCell (World.setCell (World.setCell (World.setCell w1 _ _) _ _) _ _) _ _) _ _) = wF
  obtain ⟨q1, q2, q3, q4⟩ := put5 HLL.out.1 _ _ _ _ _ wF hWF
  obtain ⟨f0, f1, f2, f3, f4⟩ := cells5q q1
  refine bodyPost_ret (v := .tuple #[.agg #[.int .i64 0, .slice none 0 0, .int .i64 0, .int .i64 0, .int .i64 0], .int .i64 100]) (by simp [results, Try.results5, go_sem, f0, f1, f2, f3, f4]; try rfl) rfl ?_
  exact ⟨rfl, q3 _ _ HLL.out.2 (by omega)⟩
set_option maxRecDepth 100000 in
set_option maxHeartbeats 2000000 in
theorem spread_wayLo (p : Pl) (v : PlV) (wk way : Int) (hV : VC p 0) (hk : 1 ≤ wk ∧ wk ≤ 64) (hy : way < 1) (w : World) (h : PlAt w p v) :
    Calls Try.prog 5 #[.agg #[.int .i64 p.ki, .slice v.pp p.np v.pc, .slice v.tp p.nq v.tc, .slice v.sp p.ns v.sc, .int .u64 p.sd, .int .u64 p.lk, .int .u64 p.en, .int .i64 p.bu, .int .i64 p.fu], .int .i64 wk, .int .i64 way] w fun e w' => e = .returned (.tuple #[.agg #[.int .i64 0, .slice none 0 0, .int .i64 0, .int .i64 0, .int .i64 0], .int .i64 63]) ∧ Below w.heap.size w w' := by
  obtain ⟨wb, hwb⟩ : ∃ wb, w.alloc (.cells #[.int .i64 p.ki, .slice v.pp p.np v.pc, .slice v.tp p.nq v.tc, .slice v.sp p.ns v.sc, .int .u64 p.sd, .int .u64 p.lk, .int .u64 p.en, .int .i64 p.bu, .int .i64 p.fu] 27) = wb := ⟨_, rfl⟩
  obtain ⟨hb0, hbox, hsz⟩ := boxed _ _ _ hwb
  have HW : Hid (w.alloc (.cells #[.int .i64 p.ki, .slice v.pp p.np v.pc, .slice v.tp p.nq v.tc, .slice v.sp p.ns v.sc, .int .u64 p.sd, .int .u64 p.lk, .int .u64 p.en, .int .i64 p.bu, .int .i64 p.fu] 27) = wb) := hwb
  obtain ⟨wl, hwl⟩ : ∃ wl, wb.alloc (.cells #[.int .i64 0, .slice none 0 0, .int .i64 0, .int .i64 0, .int .i64 0] 30) = wl := ⟨_, rfl⟩
  have HL : Hid (wb.alloc (.cells #[.int .i64 0, .slice none 0 0, .int .i64 0, .int .i64 0, .int .i64 0] 30) = wl) := hwl
  have hb1 : Below wb.heap.size wb wl := by rw [← hwl]; exact (Below.refl _ wb).alloc (Nat.le_refl _) _
  have hbw : Below w.heap.size w wl := hb0.trans (hb1.mono hb0.size)
  have hlay : wl.heap[w.heap.size + 1]? = some (.cells #[.int .i64 0, .slice none 0 0, .int .i64 0, .int .i64 0, .int .i64 0] 30 (0, 0)) := by rw [← hwl, ← hsz]; exact World.alloc_heap_new wb _
  have HV := valid_any p v wl (h.below hbw)
  have hszl : wl.heap.size = w.heap.size + 2 := by rw [← hwl, World.size_alloc, hsz]
  obtain ⟨⟨c0, c1, c2, c3⟩, c4, c5, c6, c7, c8⟩ := cells9 hbox
  rw [← hwb] at c0 c1 c2 c3 c4 c5 c6 c7 c8
  have HB : Hid (Below w.heap.size w wl ∧ wl.heap[w.heap.size + 1]? = some (.cells #[.int .i64 0, .slice none 0 0, .int .i64 0, .int .i64 0, .int .i64 0] 30 (0, 0)) ∧ wl.heap.size = w.heap.size + 2) := ⟨hbw, hlay, hszl⟩
  have HVC := hid6 hV
  have d1 : decide (wk < 1) = false := by simp; omega
  have d2 : decide (64 < wk) = false := by simp; omega
  have d3 : decide (way < 1) = true := by simp; omega
  clear h hwb hwl hb0 hb1 hbox hsz hV hbw hlay hszl
  go_enter Try.func5, Try.ntmps5
  go_upto_region 2 with (go_at_call 13; rw [HW.out, HL.out]; (with_reducible refine HV.mono ?_); rintro e w1 ⟨cc, rfl, h5, h6⟩; obtain rfl : 0 = cc := HVC.out.one h5; have H1 : Hid (Below wl.heap.size wl w1) := h6; clear h5 h6)
  clear c0 c1 c2 c3 c4 c5 c6 c7 c8 HV
  have hly := (H1.out.block _ (by have := HB.out.2.2; omega)).trans HB.out.2.1
  obtain ⟨e0, e1, e2, e3, e4⟩ := cells5q hly
  have fz := frz5q hly
  have HLL : Hid (w1.heap[w.heap.size + 1]? = some (.cells #[.int .i64 0, .slice none 0 0, .int .i64 0, .int .i64 0, .int .i64 0] 30 (0, 0)) ∧ Below w.heap.size w w1) := ⟨hly, HB.out.1.trans (H1.out.mono HB.out.1.size)⟩
  clear hly
  go_wp2_with fail
  generalize hWF : (World.setCell (World.setCell (World.setCell (World.setCell (World.setCell w1 _ _) _ _) _ _) _ _) _ _) = wF
  obtain ⟨q1, q2, q3, q4⟩ := put5 HLL.out.1 _ _ _ _ _ wF hWF
  obtain ⟨f0, f1, f2, f3, f4⟩ := cells5q q1
  refine bodyPost_ret (v := .tuple #[.agg #[.int .i64 0, .slice none 0 0, .int .i64 0, .int .i64 0, .int .i64 0], .int .i64 63]) (by simp [results, Try.results5, go_sem, f0, f1, f2, f3, f4]; try rfl) rfl ?_
  exact ⟨rfl, q3 _ _ HLL.out.2 (by omega)⟩
set_option maxRecDepth 100000 in
set_option maxHeartbeats 2000000 in
theorem spread_wayHi (p : Pl) (v : PlV) (wk way : Int) (hV : VC p 0) (hk : 1 ≤ wk ∧ wk ≤ 64) (hy : 4 < way) (w : World) (h : PlAt w p v) :
    Calls Try.prog 5 #[.agg #[.int .i64 p.ki, .slice v.pp p.np v.pc, .slice v.tp p.nq v.tc, .slice v.sp p.ns v.sc, .int .u64 p.sd, .int .u64 p.lk, .int .u64 p.en, .int .i64 p.bu, .int .i64 p.fu], .int .i64 wk, .int .i64 way] w fun e w' => e = .returned (.tuple #[.agg #[.int .i64 0, .slice none 0 0, .int .i64 0, .int .i64 0, .int .i64 0], .int .i64 63]) ∧ Below w.heap.size w w' := by
  obtain ⟨wb, hwb⟩ : ∃ wb, w.alloc (.cells #[.int .i64 p.ki, .slice v.pp p.np v.pc, .slice v.tp p.nq v.tc, .slice v.sp p.ns v.sc, .int .u64 p.sd, .int .u64 p.lk, .int .u64 p.en, .int .i64 p.bu, .int .i64 p.fu] 27) = wb := ⟨_, rfl⟩
  obtain ⟨hb0, hbox, hsz⟩ := boxed _ _ _ hwb
  have HW : Hid (w.alloc (.cells #[.int .i64 p.ki, .slice v.pp p.np v.pc, .slice v.tp p.nq v.tc, .slice v.sp p.ns v.sc, .int .u64 p.sd, .int .u64 p.lk, .int .u64 p.en, .int .i64 p.bu, .int .i64 p.fu] 27) = wb) := hwb
  obtain ⟨wl, hwl⟩ : ∃ wl, wb.alloc (.cells #[.int .i64 0, .slice none 0 0, .int .i64 0, .int .i64 0, .int .i64 0] 30) = wl := ⟨_, rfl⟩
  have HL : Hid (wb.alloc (.cells #[.int .i64 0, .slice none 0 0, .int .i64 0, .int .i64 0, .int .i64 0] 30) = wl) := hwl
  have hb1 : Below wb.heap.size wb wl := by rw [← hwl]; exact (Below.refl _ wb).alloc (Nat.le_refl _) _
  have hbw : Below w.heap.size w wl := hb0.trans (hb1.mono hb0.size)
  have hlay : wl.heap[w.heap.size + 1]? = some (.cells #[.int .i64 0, .slice none 0 0, .int .i64 0, .int .i64 0, .int .i64 0] 30 (0, 0)) := by rw [← hwl, ← hsz]; exact World.alloc_heap_new wb _
  have HV := valid_any p v wl (h.below hbw)
  have hszl : wl.heap.size = w.heap.size + 2 := by rw [← hwl, World.size_alloc, hsz]
  obtain ⟨⟨c0, c1, c2, c3⟩, c4, c5, c6, c7, c8⟩ := cells9 hbox
  rw [← hwb] at c0 c1 c2 c3 c4 c5 c6 c7 c8
  have HB : Hid (Below w.heap.size w wl ∧ wl.heap[w.heap.size + 1]? = some (.cells #[.int .i64 0, .slice none 0 0, .int .i64 0, .int .i64 0, .int .i64 0] 30 (0, 0)) ∧ wl.heap.size = w.heap.size + 2) := ⟨hbw, hlay, hszl⟩
  have HVC := hid6 hV
  have d1 : decide (wk < 1) = false := by simp; omega
  have d2 : decide (64 < wk) = false := by simp; omega
  have d3 : decide (way < 1) = false := by simp; omega
  have d4 : decide (4 < way) = true := by simp; omega
  clear h hwb hwl hb0 hb1 hbox hsz hV hbw hlay hszl
  go_enter Try.func5, Try.ntmps5
  go_upto_region 2 with (go_at_call 13; rw [HW.out, HL.out]; (with_reducible refine HV.mono ?_); rintro e w1 ⟨cc, rfl, h5, h6⟩; obtain rfl : 0 = cc := HVC.out.one h5; have H1 : Hid (Below wl.heap.size wl w1) := h6; clear h5 h6)
  clear c0 c1 c2 c3 c4 c5 c6 c7 c8 HV
  have hly := (H1.out.block _ (by have := HB.out.2.2; omega)).trans HB.out.2.1
  obtain ⟨e0, e1, e2, e3, e4⟩ := cells5q hly
  have fz := frz5q hly
  have HLL : Hid (w1.heap[w.heap.size + 1]? = some (.cells #[.int .i64 0, .slice none 0 0, .int .i64 0, .int .i64 0, .int .i64 0] 30 (0, 0)) ∧ Below w.heap.size w w1) := ⟨hly, HB.out.1.trans (H1.out.mono HB.out.1.size)⟩
  clear hly
  go_wp2_with fail
  generalize hWF : (World.setCell (World.setCell (World.setCell (World.setCell (World.setCell w1 _ _) _ _) _ _) _ _) _ _) = wF
  obtain ⟨q1, q2, q3, q4⟩ := put5 HLL.out.1 _ _ _ _ _ wF hWF
  obtain ⟨f0, f1, f2, f3, f4⟩ := cells5q q1
  refine bodyPost_ret (v := .tuple #[.agg #[.int .i64 0, .slice none 0 0, .int .i64 0, .int .i64 0, .int .i64 0], .int .i64 63]) (by simp [results, Try.results5, go_sem, f0, f1, f2, f3, f4]; try rfl) rfl ?_
  exact ⟨rfl, q3 _ _ HLL.out.2 (by omega)⟩
end Go.Proofs.Ytkgifanlodlilaa
