import Derived.Test.YtkgifanlodlilaaGH17
import Derived.Test.YtkgifanlodlilaaSV8
import Derived.Deep.RegionLaw
import Derived.Deep.RegionHeld3
import Derived.Deep.Cut
import Derived.Deep.DeepCutAuto
import Derived.Deep.CutBlock
import Derived.Deep.CutRange
import Derived.BigQuiet
import Derived.Handy
namespace Go.Proofs.Ytkgifanlodlilaa
open Go.ChangeShapes Go.WideShapes Go.ChangeAt Go.RowKit
set_option linter.unusedVariables false
set_option linter.unusedSimpArgs false


set_option maxRecDepth 100000 in
set_option maxHeartbeats 16000000 in
theorem spreads_law (p : Pl) (v : PlV) (wk way : Int) (w : World) (h : PlAt w p v) (hroom : RoomyL p) : Calls Try.prog 4 #[.agg #[.int .i64 p.ki, .slice v.pp p.np v.pc, .slice v.tp p.nq v.tc, .slice v.sp p.ns v.sc, .int .u64 p.sd, .int .u64 p.lk, .int .u64 p.en, .int .i64 p.bu, .int .i64 p.fu], .int .i64 wk, .int .i64 way] w fun e w' => e = .returned (.bool true) ∧ Below w.heap.size w w' := by
  obtain ⟨wb, hwb⟩ : ∃ wb, w.alloc (.cells #[.int .i64 p.ki, .slice v.pp p.np v.pc, .slice v.tp p.nq v.tc, .slice v.sp p.ns v.sc, .int .u64 p.sd, .int .u64 p.lk, .int .u64 p.en, .int .i64 p.bu, .int .i64 p.fu] 27) = wb := ⟨_, rfl⟩
  obtain ⟨hb0, hbox, hsz⟩ := boxed _ _ _ hwb
  have HW : Hid (w.alloc (.cells #[.int .i64 p.ki, .slice v.pp p.np v.pc, .slice v.tp p.nq v.tc, .slice v.sp p.ns v.sc, .int .u64 p.sd, .int .u64 p.lk, .int .u64 p.en, .int .i64 p.bu, .int .i64 p.fu] 27) = wb) := hwb
  have HC := copyPlan_any p v wb (h.below hb0) hroom
  have HR0 : Hid (RoomyL p) := hroom
  have HB : Hid (Below w.heap.size w wb ∧ wb.heap[w.heap.size]? = some (.cells #[.int .i64 p.ki, .slice v.pp p.np v.pc, .slice v.tp p.nq v.tc, .slice v.sp p.ns v.sc, .int .u64 p.sd, .int .u64 p.lk, .int .u64 p.en, .int .i64 p.bu, .int .i64 p.fu] 27 (0, 0)) ∧ wb.heap.size = w.heap.size + 1 ∧ PlAt wb p v) := ⟨hb0, hbox, hsz, h.below hb0⟩
  obtain ⟨⟨c0, c1, c2, c3⟩, c4, c5, c6, c7, c8⟩ := cells9 hbox
  rw [← hwb] at c0 c1 c2 c3 c4 c5 c6 c7 c8
  clear h hwb hb0 hbox hsz hroom
  go_enter Try.func4, Try.ntmps4
  go_upto_region 2 with (go_at_call 7; rw [HW.out]; (with_reducible refine HC.mono ?_); rintro r w1 ⟨u, rfl, h5, h6⟩; have H1 : Hid (PlAt w1 p u ∧ Below wb.heap.size wb w1) := ⟨h5, h6⟩; clear h5 h6)
  clear c0 c1 c2 c3 c4 c5 c6 c7 c8 HC
  obtain ⟨w2, hw2⟩ : ∃ x, w1.alloc (.cells #[.int .i64 p.ki, .slice u.pp p.np u.pc, .slice u.tp p.nq u.tc, .slice u.sp p.ns u.sc, .int .u64 p.sd, .int .u64 p.lk, .int .u64 p.en, .int .i64 p.bu, .int .i64 p.fu] 27) = x := ⟨_, rfl⟩
  obtain ⟨bu, hbu⟩ : ∃ x, w1.heap.size = x := ⟨_, rfl⟩
  rw [hw2, hbu]
  have b2 : Below w1.heap.size w1 w2 := by rw [← hw2]; exact (Below.refl _ w1).alloc (Nat.le_refl _) _
  have n2 : w2.heap[bu]? = some (.cells #[.int .i64 p.ki, .slice u.pp p.np u.pc, .slice u.tp p.nq u.tc, .slice u.sp p.ns u.sc, .int .u64 p.sd, .int .u64 p.lk, .int .u64 p.en, .int .i64 p.bu, .int .i64 p.fu] 27 (0, 0)) := by rw [← hw2, ← hbu]; exact World.alloc_heap_new w1 _
  have s2 : w2.heap.size = bu + 1 := by rw [← hw2, World.size_alloc, hbu]
  have bb2 : Below wb.heap.size wb w2 := H1.out.2.trans (b2.mono H1.out.2.size)
  have H2 : Hid (PlAt w2 p u ∧ Below wb.heap.size wb w2 ∧ w2.heap[bu]? = some (.cells #[.int .i64 p.ki, .slice u.pp p.np u.pc, .slice u.tp p.nq u.tc, .slice u.sp p.ns u.sc, .int .u64 p.sd, .int .u64 p.lk, .int .u64 p.en, .int .i64 p.bu, .int .i64 p.fu] 27 (0, 0)) ∧ w2.heap.size = bu + 1 ∧ w.heap.size < bu) := ⟨H1.out.1.below b2, bb2, n2, s2, by have := H1.out.2.size; have := HB.out.2.2.1; omega⟩
  obtain ⟨⟨c0, c1, c2, c3⟩, c4, c5, c6, c7, c8⟩ := cells9 n2
  have HS1 := spread_all p u wk way w2 H2.out.1
  clear hw2 hbu b2 n2 s2 bb2 H1
  go_upto_region 3 with (go_at_call 5; (with_reducible refine HS1.mono ?_); rintro r w3 ⟨la, lb, lc, le, lcd, lq, n, lcq, lg, f, rfl, h5, h6, h7⟩; have H3 : Hid (LOk p wk way la lb lc le lcd n f ∧ LR w3 w2.heap.size lq n lcq f lg ∧ Below w2.heap.size w2 w3) := ⟨h5, h6, h7⟩; clear h5 h6 h7 c0 c1 c2 c3 c4 c5 c6 c7 c8)
  obtain ⟨w4, hw4⟩ : ∃ x, w3.alloc (.cells #[.int .i64 la, .slice lq n lcq, .int .i64 lb, .int .i64 lc, .int .i64 le] 30) = x := ⟨_, rfl⟩
  obtain ⟨bl, hbl⟩ : ∃ x, w3.heap.size = x := ⟨_, rfl⟩
  rw [hw4, hbl]
  have bw4 : Below w3.heap.size w3 w4 := by rw [← hw4]; exact (Below.refl _ w3).alloc (Nat.le_refl _) _
  have nw4 : w4.heap[bl]? = some (.cells #[.int .i64 la, .slice lq n lcq, .int .i64 lb, .int .i64 lc, .int .i64 le] 30 (0, 0)) := by rw [← hw4, ← hbl]; exact World.alloc_heap_new w3 _
  have sw4 : w4.heap.size = bl + 1 := by rw [← hw4, World.size_alloc, hbl]
  have c24 : Below w2.heap.size w2 w4 := H3.out.2.2.trans (bw4.mono H3.out.2.2.size)
  have H4 : Hid (LR w4 w2.heap.size lq n lcq f lg ∧ Below w2.heap.size w2 w4 ∧ w4.heap[bl]? = some (.cells #[.int .i64 la, .slice lq n lcq, .int .i64 lb, .int .i64 lc, .int .i64 le] 30 (0, 0)) ∧ w4.heap.size = bl + 1 ∧ bu < bl) := ⟨H3.out.2.1.later bw4, c24, nw4, sw4, by have := H3.out.2.2.size; have := H2.out.2.2.2.1; omega⟩
  have HLG : Hid (n ≠ 0 → lg < bl) := fun h0 => by
    rcases H3.out.2.1 with ⟨_, h9, _⟩ | ⟨_, _, h9⟩
    · exact absurd h9 h0
    · have := h9.lt.2; omega
  have HL1 : Hid (LOk p wk way la lb lc le lcd n f) := H3.out.1
  obtain ⟨⟨c0, c1, c2, c3⟩, c4, c5, c6, c7, c8⟩ := cells9 ((c24.block _ (by have := H2.out.2.2.2.1; omega)).trans H2.out.2.2.1)
  have HS2 := spread_all p u 1 1 w4 (H2.out.1.below c24)
  clear hw4 hbl bw4 nw4 sw4 c24 H3 HS1
  go_upto_region 4 with (go_at_call 5; (with_reducible refine HS2.mono ?_); rintro r w5 ⟨oa, ob, oc, oe, ocd, oq, no, ocq, og, fo, rfl, h5, h6, h7⟩; have H5 : Hid (LOk p 1 1 oa ob oc oe ocd no fo ∧ LR w5 w4.heap.size oq no ocq fo og ∧ Below w4.heap.size w4 w5) := ⟨h5, h6, h7⟩; clear h5 h6 h7 c0 c1 c2 c3 c4 c5 c6 c7 c8)
  obtain ⟨w6, hw6⟩ : ∃ x, w5.alloc (.cells #[.int .i64 oa, .slice oq no ocq, .int .i64 ob, .int .i64 oc, .int .i64 oe] 30) = x := ⟨_, rfl⟩
  obtain ⟨bo, hbo⟩ : ∃ x, w5.heap.size = x := ⟨_, rfl⟩
  rw [hw6, hbo]
  have bw6 : Below w5.heap.size w5 w6 := by rw [← hw6]; exact (Below.refl _ w5).alloc (Nat.le_refl _) _
  have nw6 : w6.heap[bo]? = some (.cells #[.int .i64 oa, .slice oq no ocq, .int .i64 ob, .int .i64 oc, .int .i64 oe] 30 (0, 0)) := by rw [← hw6, ← hbo]; exact World.alloc_heap_new w5 _
  have sw6 : w6.heap.size = bo + 1 := by rw [← hw6, World.size_alloc, hbo]
  have c46 : Below w4.heap.size w4 w6 := H5.out.2.2.trans (bw6.mono H5.out.2.2.size)
  have c26 : Below w2.heap.size w2 w6 := H4.out.2.1.trans (c46.mono H4.out.2.1.size)
  have H6 : Hid (LR w6 w4.heap.size oq no ocq fo og ∧ Below w4.heap.size w4 w6 ∧ w6.heap[bo]? = some (.cells #[.int .i64 oa, .slice oq no ocq, .int .i64 ob, .int .i64 oc, .int .i64 oe] 30 (0, 0)) ∧ w6.heap.size = bo + 1 ∧ bl < bo) := ⟨H5.out.2.1.later bw6, c46, nw6, sw6, by have := H5.out.2.2.size; have := H4.out.2.2.2.1; omega⟩
  have HL2 : Hid (LOk p 1 1 oa ob oc oe ocd no fo) := H5.out.1
  obtain ⟨⟨c0, c1, c2, c3⟩, c4, c5, c6, c7, c8⟩ := cells9 ((c26.block _ (by have := H2.out.2.2.2.1; omega)).trans H2.out.2.2.1)
  have HS3 := spread_all p u wk way w6 (H2.out.1.below c26)
  clear hw6 hbo bw6 nw6 sw6 c46 c26 H5 HS2
  go_upto_region 5 with (go_at_call 5; (with_reducible refine HS3.mono ?_); rintro r w7 ⟨ka, kb, kc, ke, kcd, kq, nk, kcq, kg, fk, rfl, h5, h6, h7⟩; obtain ⟨⟨rfl, rfl, rfl, rfl, rfl, rfl⟩, hfk⟩ := h5.one HL1.out; have H7 : Hid ((∀ i, i < n → f i = fk i) ∧ LR w7 w6.heap.size kq n kcq fk kg ∧ Below w6.heap.size w6 w7) := ⟨hfk, h6, h7⟩; clear h5 h6 h7 hfk c0 c1 c2 c3 c4 c5 c6 c7 c8)
  obtain ⟨w8, hw8⟩ : ∃ x, w7.alloc (.cells #[.int .i64 la, .slice kq n kcq, .int .i64 lb, .int .i64 lc, .int .i64 le] 30) = x := ⟨_, rfl⟩
  obtain ⟨bk, hbk⟩ : ∃ x, w7.heap.size = x := ⟨_, rfl⟩
  rw [hw8, hbk]
  have bw8 : Below w7.heap.size w7 w8 := by rw [← hw8]; exact (Below.refl _ w7).alloc (Nat.le_refl _) _
  have nw8 : w8.heap[bk]? = some (.cells #[.int .i64 la, .slice kq n kcq, .int .i64 lb, .int .i64 lc, .int .i64 le] 30 (0, 0)) := by rw [← hw8, ← hbk]; exact World.alloc_heap_new w7 _
  have sw8 : w8.heap.size = bk + 1 := by rw [← hw8, World.size_alloc, hbk]
  have c68 : Below w6.heap.size w6 w8 := H7.out.2.2.trans (bw8.mono H7.out.2.2.size)
  have c48 : Below w4.heap.size w4 w8 := H6.out.2.1.trans (c68.mono H6.out.2.1.size)
  have c28 : Below w2.heap.size w2 w8 := H4.out.2.1.trans (c48.mono H4.out.2.1.size)
  have cb8 : Below wb.heap.size wb w8 := H2.out.2.1.trans (c28.mono H2.out.2.1.size)
  have H8 : Hid ((∀ i, i < n → f i = fk i) ∧ LR w8 w6.heap.size kq n kcq fk kg ∧ Below w6.heap.size w6 w8 ∧ w8.heap[bk]? = some (.cells #[.int .i64 la, .slice kq n kcq, .int .i64 lb, .int .i64 lc, .int .i64 le] 30 (0, 0)) ∧ w8.heap.size = bk + 1 ∧ bo < bk ∧ Below w4.heap.size w4 w8 ∧ Below w2.heap.size w2 w8 ∧ Below wb.heap.size wb w8) := ⟨H7.out.1, H7.out.2.1.later bw8, c68, nw8, sw8, by have := H7.out.2.2.size; have := H6.out.2.2.2.1; omega, c48, c28, cb8⟩
  obtain ⟨⟨c0, c1, c2, c3⟩, c4, c5, c6, c7, c8⟩ := cells9 ((cb8.block _ (by have := HB.out.2.2.1; omega)).trans HB.out.2.1)
  have HS4 := rspread_as p v wk way la lb lc le lcd HL1.out w8 (HB.out.2.2.2.below cb8)
  clear hw8 hbk bw8 nw8 sw8 c68 c48 c28 cb8 H7 HS3
  go_upto_region 6 with (go_at_call 8; (with_reducible refine HS4.mono ?_); rintro r w9 ⟨mq, mcq, rfl, h5, h6⟩; have H9 : Hid (OI w9 w8.heap.size (.slice mq n mcq) n f ∧ Below w8.heap.size w8 w9) := ⟨h5, h6⟩; clear h5 h6 c0 c1 c2 c3 c4 c5 c6 c7 c8)
  obtain ⟨w10, hw10⟩ : ∃ x, w9.alloc (.cells #[.int .i64 la, .slice mq n mcq, .int .i64 lb, .int .i64 lc, .int .i64 le] 30) = x := ⟨_, rfl⟩
  obtain ⟨bm, hbm⟩ : ∃ x, w9.heap.size = x := ⟨_, rfl⟩
  rw [hw10, hbm]
  have bw10 : Below w9.heap.size w9 w10 := by rw [← hw10]; exact (Below.refl _ w9).alloc (Nat.le_refl _) _
  have nw10 : w10.heap[bm]? = some (.cells #[.int .i64 la, .slice mq n mcq, .int .i64 lb, .int .i64 lc, .int .i64 le] 30 (0, 0)) := by rw [← hw10, ← hbm]; exact World.alloc_heap_new w9 _
  have sw10 : w10.heap.size = bm + 1 := by rw [← hw10, World.size_alloc, hbm]
  have c810 : Below w8.heap.size w8 w10 := H9.out.2.trans (bw10.mono H9.out.2.size)
  have cb10 : Below wb.heap.size wb w10 := H8.out.2.2.2.2.2.2.2.2.trans (c810.mono H8.out.2.2.2.2.2.2.2.2.size)
  have H10 : Hid (OI w10 w8.heap.size (.slice mq n mcq) n f ∧ Below w8.heap.size w8 w10 ∧ w10.heap[bm]? = some (.cells #[.int .i64 la, .slice mq n mcq, .int .i64 lb, .int .i64 lc, .int .i64 le] 30 (0, 0)) ∧ w10.heap.size = bm + 1 ∧ bk < bm ∧ Below wb.heap.size wb w10) := ⟨H9.out.1.later bw10, c810, nw10, sw10, by have := H9.out.2.size; have := H8.out.2.2.2.2.1; omega, cb10⟩
  obtain ⟨⟨c0, c1, c2, c3⟩, c4, c5, c6, c7, c8⟩ := cells9 ((cb10.block _ (by have := HB.out.2.2.1; omega)).trans HB.out.2.1)
  have HS5 := rspread_as p v 1 1 oa ob oc oe ocd HL2.out w10 (HB.out.2.2.2.below cb10)
  clear hw10 hbm bw10 nw10 sw10 c810 cb10 H9 HS4
  go_upto_region 7 with (go_at_call 8; (with_reducible refine HS5.mono ?_); rintro r w11 ⟨qq, qcq, rfl, h5, h6⟩; have H11 : Hid (OI w11 w10.heap.size (.slice qq no qcq) no fo ∧ Below w10.heap.size w10 w11) := ⟨h5, h6⟩; clear h5 h6 c0 c1 c2 c3 c4 c5 c6 c7 c8)
  obtain ⟨w12, hw12⟩ : ∃ x, w11.alloc (.cells #[.int .i64 oa, .slice qq no qcq, .int .i64 ob, .int .i64 oc, .int .i64 oe] 30) = x := ⟨_, rfl⟩
  obtain ⟨bq, hbq⟩ : ∃ x, w11.heap.size = x := ⟨_, rfl⟩
  rw [hw12, hbq]
  have bw12 : Below w11.heap.size w11 w12 := by rw [← hw12]; exact (Below.refl _ w11).alloc (Nat.le_refl _) _
  have nw12 : w12.heap[bq]? = some (.cells #[.int .i64 oa, .slice qq no qcq, .int .i64 ob, .int .i64 oc, .int .i64 oe] 30 (0, 0)) := by rw [← hw12, ← hbq]; exact World.alloc_heap_new w11 _
  have sw12 : w12.heap.size = bq + 1 := by rw [← hw12, World.size_alloc, hbq]
  have c1012 : Below w10.heap.size w10 w12 := H11.out.2.trans (bw12.mono H11.out.2.size)
  have c812 : Below w8.heap.size w8 w12 := H10.out.2.1.trans (c1012.mono H10.out.2.1.size)
  have c612 : Below w6.heap.size w6 w12 := H8.out.2.2.1.trans (c812.mono H8.out.2.2.1.size)
  have c412 : Below w4.heap.size w4 w12 := H6.out.2.1.trans (c612.mono H6.out.2.1.size)
  have c212 : Below w2.heap.size w2 w12 := H4.out.2.1.trans (c412.mono H4.out.2.1.size)
  have cb12 : Below wb.heap.size wb w12 := H2.out.2.1.trans (c212.mono H2.out.2.1.size)
  have z2 := H2.out
  have z4 := H4.out
  have z6 := H6.out
  have z8 := H8.out
  have z10 := H10.out
  have HZ : Hid ((fun W => (W.heap[w.heap.size]? = some (.cells #[.int .i64 p.ki, .slice v.pp p.np v.pc, .slice v.tp p.nq v.tc, .slice v.sp p.ns v.sc, .int .u64 p.sd, .int .u64 p.lk, .int .u64 p.en, .int .i64 p.bu, .int .i64 p.fu] 27 (0, 0)) ∧ W.heap[bu]? = some (.cells #[.int .i64 p.ki, .slice u.pp p.np u.pc, .slice u.tp p.nq u.tc, .slice u.sp p.ns u.sc, .int .u64 p.sd, .int .u64 p.lk, .int .u64 p.en, .int .i64 p.bu, .int .i64 p.fu] 27 (0, 0)) ∧ W.heap[bl]? = some (.cells #[.int .i64 la, .slice lq n lcq, .int .i64 lb, .int .i64 lc, .int .i64 le] 30 (0, 0)) ∧ W.heap[bo]? = some (.cells #[.int .i64 oa, .slice oq no ocq, .int .i64 ob, .int .i64 oc, .int .i64 oe] 30 (0, 0)) ∧ W.heap[bk]? = some (.cells #[.int .i64 la, .slice kq n kcq, .int .i64 lb, .int .i64 lc, .int .i64 le] 30 (0, 0)) ∧ W.heap[bm]? = some (.cells #[.int .i64 la, .slice mq n mcq, .int .i64 lb, .int .i64 lc, .int .i64 le] 30 (0, 0)) ∧ W.heap[bq]? = some (.cells #[.int .i64 oa, .slice qq no qcq, .int .i64 ob, .int .i64 oc, .int .i64 oe] 30 (0, 0)))) w12 ∧ (LR w12 w2.heap.size lq n lcq f lg ∧ LR w12 w4.heap.size oq no ocq fo og ∧ LR w12 w6.heap.size kq n kcq fk kg ∧ OI w12 w8.heap.size (.slice mq n mcq) n f ∧ OI w12 w10.heap.size (.slice qq no qcq) no fo) ∧ (∀ i, i < n → f i = fk i) ∧ (PlAt w12 p u ∧ PlAt w12 p v) ∧ Below w.heap.size w w12 ∧ (w2.heap.size = bu + 1 ∧ w4.heap.size = bl + 1 ∧ w6.heap.size = bo + 1 ∧ w8.heap.size = bk + 1 ∧ w10.heap.size = bm + 1 ∧ w12.heap.size = bq + 1) ∧ w.heap.size < bu ∧ bu < bl ∧ bl < bo ∧ bo < bk ∧ bk < bm ∧ bm < bq) :=
    ⟨⟨(cb12.block _ (by have := HB.out.2.2.1; omega)).trans HB.out.2.1, (c212.block _ (by omega)).trans z2.2.2.1, (c412.block _ (by omega)).trans z4.2.2.1, (c612.block _ (by omega)).trans z6.2.2.1, (c812.block _ (by omega)).trans z8.2.2.2.1, (c1012.block _ (by omega)).trans z10.2.2.1, nw12⟩, ⟨z4.1.later c412, z6.1.later c612, z8.2.1.later c812, z10.1.later c1012, H11.out.1.later bw12⟩, z8.1, ⟨z2.1.below c212, HB.out.2.2.2.below cb12⟩, HB.out.1.trans (cb12.mono HB.out.1.size), ⟨z2.2.2.2.1, z4.2.2.2.1, z6.2.2.2.1, z8.2.2.2.2.1, z10.2.2.2.1, sw12⟩, z2.2.2.2.2, z4.2.2.2.2, z6.2.2.2.2, z8.2.2.2.2.2.1, z10.2.2.2.2.1, by have := H11.out.2.size; omega⟩
  clear hw12 hbq bw12 nw12 sw12 c1012 c812 c612 c412 c212 cb12 z2 z4 z6 z8 z10 H11 H10 H8 H6 H4 H2 HB HS5
  have hn := HL1.out.le
  have hno := HL2.out.le
  have KF : ∀ W, Below w12.heap.size w12 W → (W.heap[w.heap.size]? = some (.cells #[.int .i64 p.ki, .slice v.pp p.np v.pc, .slice v.tp p.nq v.tc, .slice v.sp p.ns v.sc, .int .u64 p.sd, .int .u64 p.lk, .int .u64 p.en, .int .i64 p.bu, .int .i64 p.fu] 27 (0, 0)) ∧ W.heap[bu]? = some (.cells #[.int .i64 p.ki, .slice u.pp p.np u.pc, .slice u.tp p.nq u.tc, .slice u.sp p.ns u.sc, .int .u64 p.sd, .int .u64 p.lk, .int .u64 p.en, .int .i64 p.bu, .int .i64 p.fu] 27 (0, 0)) ∧ W.heap[bl]? = some (.cells #[.int .i64 la, .slice lq n lcq, .int .i64 lb, .int .i64 lc, .int .i64 le] 30 (0, 0)) ∧ W.heap[bo]? = some (.cells #[.int .i64 oa, .slice oq no ocq, .int .i64 ob, .int .i64 oc, .int .i64 oe] 30 (0, 0)) ∧ W.heap[bk]? = some (.cells #[.int .i64 la, .slice kq n kcq, .int .i64 lb, .int .i64 lc, .int .i64 le] 30 (0, 0)) ∧ W.heap[bm]? = some (.cells #[.int .i64 la, .slice mq n mcq, .int .i64 lb, .int .i64 lc, .int .i64 le] 30 (0, 0)) ∧ W.heap[bq]? = some (.cells #[.int .i64 oa, .slice qq no qcq, .int .i64 ob, .int .i64 oc, .int .i64 oe] 30 (0, 0))) := fun W hW => by
    have hz := HZ.out
    obtain ⟨x1, x2, x3, x4, x5, x6, x7⟩ := hz.1
    exact ⟨(hW.block _ (by omega)).trans x1, (hW.block _ (by omega)).trans x2, (hW.block _ (by omega)).trans x3, (hW.block _ (by omega)).trans x4, (hW.block _ (by omega)).trans x5, (hW.block _ (by omega)).trans x6, (hW.block _ (by omega)).trans x7⟩
  have HKF := hid6 KF
  have HY1 : Hid (∀ W, Below w12.heap.size w12 W → _) := fun W hW => sameLayout_any la lb lc le lq mq n lcq mcq f f hn (fun _ _ => rfl) W (HZ.out.2.1.1.later hW).kat (by obtain ⟨q9, c9, e9, h9⟩ := (HZ.out.2.1.2.2.2.1.later hW).kat; injection e9 with e9; subst e9; exact h9)
  have HY2 : Hid (∀ W, Below w12.heap.size w12 W → _) := fun W hW => sameLayout_any la lb lc le kq mq n kcq mcq fk f hn (fun i hi => (HZ.out.2.2.1 i hi).symm) W (HZ.out.2.1.2.2.1.later hW).kat (by obtain ⟨q9, c9, e9, h9⟩ := (HZ.out.2.1.2.2.2.1.later hW).kat; injection e9 with e9; subst e9; exact h9)
  have HY3 : Hid (∀ W, Below w12.heap.size w12 W → _) := fun W hW => sameLayout_any oa ob oc oe oq qq no ocq qcq fo fo hno (fun _ _ => rfl) W (HZ.out.2.1.2.1.later hW).kat (by obtain ⟨q9, c9, e9, h9⟩ := (HZ.out.2.1.2.2.2.2.later hW).kat; injection e9 with e9; subst e9; exact h9)
  have HY4 : Hid (∀ W, Below w12.heap.size w12 W → _) := fun W hW => samePlan_yes p u v W (HZ.out.2.2.2.1.1.below hW) (HZ.out.2.2.2.1.2.below hW) HR0.out
  have hbz : Below w12.heap.size w12 w12 := Below.refl _ _
  obtain ⟨x1, x2, x3, x4, x5, x6, x7⟩ := HKF.out _ hbz
  obtain ⟨⟨p0, p1, p2, p3⟩, p4, p5, p6, p7, p8⟩ := cells9 x1
  obtain ⟨⟨y0, y1, y2, y3⟩, y4, y5, y6, y7, y8⟩ := cells9 x2
  obtain ⟨l0, l1, l2, l3, l4⟩ := cells5q x3
  obtain ⟨o0, o1, o2, o3, o4⟩ := cells5q x4
  obtain ⟨k0, k1, k2, k3, k4⟩ := cells5q x5
  obtain ⟨m0, m1, m2, m3, m4⟩ := cells5q x6
  obtain ⟨q0, q1, q2, q3, q4⟩ := cells5q x7
  clear x1 x2 x3 x4 x5 x6 x7
  have en1 : (lcd != lcd) = false := by simp
  clear KF
  go_upto_region 9 with (first | (go_at_call 9; (first | (with_reducible refine (HY1.out _ hbz).mono ?_) | (with_reducible refine (HY2.out _ hbz).mono ?_) | (with_reducible refine (HY3.out _ hbz).mono ?_)); rintro r9 x9 ⟨rfl, h6⟩; have hbz := hbz.trans (h6.mono hbz.size); clear h6; clear p0 p1 p2 p3 p4 p5 p6 p7 p8 y0 y1 y2 y3 y4 y5 y6 y7 y8 l0 l1 l2 l3 l4 o0 o1 o2 o3 o4 k0 k1 k2 k3 k4 m0 m1 m2 m3 m4 q0 q1 q2 q3 q4; obtain ⟨x1, x2, x3, x4, x5, x6, x7⟩ := HKF.out _ hbz; obtain ⟨⟨p0, p1, p2, p3⟩, p4, p5, p6, p7, p8⟩ := cells9 x1; obtain ⟨⟨y0, y1, y2, y3⟩, y4, y5, y6, y7, y8⟩ := cells9 x2; obtain ⟨l0, l1, l2, l3, l4⟩ := cells5q x3; obtain ⟨o0, o1, o2, o3, o4⟩ := cells5q x4; obtain ⟨k0, k1, k2, k3, k4⟩ := cells5q x5; obtain ⟨m0, m1, m2, m3, m4⟩ := cells5q x6; obtain ⟨q0, q1, q2, q3, q4⟩ := cells5q x7; clear x1 x2 x3 x4 x5 x6 x7) | (go_at_call 10; (with_reducible refine (HY4.out _ hbz).mono ?_); rintro r9 x9 ⟨rfl, h6⟩; have hbz := hbz.trans (h6.mono hbz.size); clear h6; clear p0 p1 p2 p3 p4 p5 p6 p7 p8 y0 y1 y2 y3 y4 y5 y6 y7 y8 l0 l1 l2 l3 l4 o0 o1 o2 o3 o4 k0 k1 k2 k3 k4 m0 m1 m2 m3 m4 q0 q1 q2 q3 q4; obtain ⟨x1, x2, x3, x4, x5, x6, x7⟩ := HKF.out _ hbz; obtain ⟨⟨p0, p1, p2, p3⟩, p4, p5, p6, p7, p8⟩ := cells9 x1; obtain ⟨⟨y0, y1, y2, y3⟩, y4, y5, y6, y7, y8⟩ := cells9 x2; obtain ⟨l0, l1, l2, l3, l4⟩ := cells5q x3; obtain ⟨o0, o1, o2, o3, o4⟩ := cells5q x4; obtain ⟨k0, k1, k2, k3, k4⟩ := cells5q x5; obtain ⟨m0, m1, m2, m3, m4⟩ := cells5q x6; obtain ⟨q0, q1, q2, q3, q4⟩ := cells5q x7; clear x1 x2 x3 x4 x5 x6 x7))
  obtain ⟨wz, rfl⟩ : ∃ wz, wz = x9 := ⟨_, rfl⟩
  have hz := HZ.out
  have zsz := hbz.size
  obtain ⟨gl, hgl⟩ : ∃ gl, (n = 0 ∧ gl = wz.heap.size) ∨ (n ≠ 0 ∧ gl = lg ∧ lg < bl) := by
    by_cases h0 : n = 0
    · exact ⟨wz.heap.size, .inl ⟨h0, rfl⟩⟩
    · exact ⟨lg, .inr ⟨h0, rfl, HLG.out h0⟩⟩
  have hlgb := hz.2.1.1.ge
  have hogb := hz.2.1.2.1.ge
  have hkgb := hz.2.1.2.2.1.ge
  have KP : ∀ W, SI.Kp gl wz W → (W.heap[w.heap.size]? = some (.cells #[.int .i64 p.ki, .slice v.pp p.np v.pc, .slice v.tp p.nq v.tc, .slice v.sp p.ns v.sc, .int .u64 p.sd, .int .u64 p.lk, .int .u64 p.en, .int .i64 p.bu, .int .i64 p.fu] 27 (0, 0)) ∧ W.heap[bu]? = some (.cells #[.int .i64 p.ki, .slice u.pp p.np u.pc, .slice u.tp p.nq u.tc, .slice u.sp p.ns u.sc, .int .u64 p.sd, .int .u64 p.lk, .int .u64 p.en, .int .i64 p.bu, .int .i64 p.fu] 27 (0, 0)) ∧ W.heap[bl]? = some (.cells #[.int .i64 la, .slice lq n lcq, .int .i64 lb, .int .i64 lc, .int .i64 le] 30 (0, 0)) ∧ W.heap[bo]? = some (.cells #[.int .i64 oa, .slice oq no ocq, .int .i64 ob, .int .i64 oc, .int .i64 oe] 30 (0, 0)) ∧ W.heap[bk]? = some (.cells #[.int .i64 la, .slice kq n kcq, .int .i64 lb, .int .i64 lc, .int .i64 le] 30 (0, 0)) ∧ W.heap[bm]? = some (.cells #[.int .i64 la, .slice mq n mcq, .int .i64 lb, .int .i64 lc, .int .i64 le] 30 (0, 0)) ∧ W.heap[bq]? = some (.cells #[.int .i64 oa, .slice qq no qcq, .int .i64 ob, .int .i64 oc, .int .i64 oe] 30 (0, 0))) := fun W hW => by
    obtain ⟨x1, x2, x3, x4, x5, x6, x7⟩ := HKF.out wz hbz
    exact ⟨(hW.block _ (by omega) (by omega)).trans x1, (hW.block _ (by omega) (by omega)).trans x2, (hW.block _ (by omega) (by omega)).trans x3, (hW.block _ (by omega) (by omega)).trans x4, (hW.block _ (by omega) (by omega)).trans x5, (hW.block _ (by omega) (by omega)).trans x6, (hW.block _ (by omega) (by omega)).trans x7⟩
  have HKP := hid6 KP
  have HRW : Hid (LR wz w2.heap.size lq n lcq f lg ∧ (∀ W, SI.Kp gl wz W → LR W w4.heap.size oq no ocq fo og ∧ LR W w6.heap.size kq n kcq fk kg ∧ KAt W mq n f ∧ KAt W qq no fo) ∧ Below w.heap.size w wz ∧ ((n = 0 ∧ gl = wz.heap.size) ∨ (n ≠ 0 ∧ gl = lg ∧ lg < bl)) ∧ w.heap.size ≤ gl) := ⟨hz.2.1.1.later hbz, fun W hW => ⟨(hz.2.1.2.1.later hbz).kp hW (by omega), (hz.2.1.2.2.1.later hbz).kp hW (by omega), (hz.2.1.2.2.2.1.later hbz).kpk hW (fun k _ _ => by omega), (hz.2.1.2.2.2.2.later hbz).kpk hW (fun k _ _ => by omega)⟩, hz.2.2.2.2.1.trans (hbz.mono hz.2.2.2.2.1.size), hgl, by omega⟩
  have HFK : Hid (∀ i, i < n → f i = fk i) := hz.2.2.1
  clear hz zsz hgl hlgb hogb hkgb KP hbz p0 p1 p2 p3 p4 p5 p6 p7 p8 y0 y1 y2 y3 y4 y5 y6 y7 y8 l0 l1 l2 l3 l4 o0 o1 o2 o3 o4 k0 k1 k2 k3 k4 m0 m1 m2 m3 m4 q0 q1 q2 q3 q4
  obtain ⟨x1, x2, x3, x4, x5, x6, x7⟩ := HKP.out wz (SI.Kp.refl _ _)
  obtain ⟨l0, l1, -⟩ := cells5q x3
  obtain ⟨o0, o1, -⟩ := cells5q x4
  obtain ⟨k0, k1, -⟩ := cells5q x5
  obtain ⟨m0, m1, -⟩ := cells5q x6
  obtain ⟨q0, q1, -⟩ := cells5q x7
  clear x1 x2 x3 x4 x5 x6 x7 l0 o0 k0 m0 q0
  go_wp2_with fail
  clear l1 o1 k1 m1 q1
  go_loopw [93] (fun y wr => ∃ (i : Nat), y = .int .i64 (i : Int) ∧ i ≤ n ∧ LR wr w2.heap.size lq n lcq (fun j => if j < i then -5 - (j : Int) else f j) lg ∧ SI.Kp gl wz wr) (fun y _ => n - (intOf y).toNat)
  case atStart => exact ⟨0, rfl, Nat.zero_le _, HRW.out.1.congr fun j hj => by rw [if_neg (by omega)], SI.Kp.refl _ _⟩
  case round =>
  obtain ⟨i, rfl, hi, hlr, hkp⟩ := hrel
  by_cases hlt : i < n
  case pos =>
    have dlt : decide ((i : Int) < (n : Int)) = true := by simp; omega
    have hm := gmeas hlt
    have ei : IntKind.i64.wrap ((i : Int) + 1) = (i : Int) + 1 := by rw [IntKind.wrap_i64]; omega
    have e5 : IntKind.i64.wrap (-5 - (i : Int)) = -5 - (i : Int) := by rw [IntKind.wrap_i64]; omega
    have i0 : (0 : Int) ≤ (i : Int) := by omega
    have i1 : (i : Int) < (n : Int) := by omega
    rcases hlr with ⟨_, h0, _⟩ | ⟨hq, hc, hr⟩
    · omega
    subst hq hc
    have hgl : gl = lg := by rcases HRW.out.2.2.2.1 with h9 | h9 <;> omega
    obtain ⟨x1, x2, x3, x4, x5, x6, x7⟩ := HKP.out wr hkp
    obtain ⟨l0, l1, -⟩ := cells5q x3
    obtain ⟨o0, o1, -⟩ := cells5q x4
    obtain ⟨k0, k1, -⟩ := cells5q x5
    obtain ⟨m0, m1, -⟩ := cells5q x6
    obtain ⟨q0, q1, -⟩ := cells5q x7
    clear x1 x2 x3 x4 x5 x6 x7 l0 o0 k0 m0 q0
    have y0 := hr.cell hlt
    have fz := hr.fz
    have hput := (hr.put i (-5 - (i : Int))).congr (mark_next f i)
    have HP : Hid (IRow (wr.setCell ⟨lg, i, none⟩ (.int .i64 (-5 - (i : Int)))) w2.heap.size lg lcq lcq (fun j => if j < i + 1 then -5 - (j : Int) else f j) ∧ SI.Kp gl wz (wr.setCell ⟨lg, i, none⟩ (.int .i64 (-5 - (i : Int))))) := ⟨hput, hkp.trans (by rw [hgl]; exact SI.Kp.set _ _ _ _)⟩
    clear hr hput hkp hgl
    go_wp2_with fail
    exact ⟨⟨i + 1, rfl, hlt, .inr ⟨rfl, rfl, HP.out.1⟩, HP.out.2⟩, hm⟩
  case neg =>
  have dlt : decide ((i : Int) < (n : Int)) = false := by simp; omega
  obtain rfl : n = i := by omega
  obtain ⟨wL, rfl⟩ : ∃ wL, wL = wr := ⟨_, rfl⟩
  have HLL : Hid (LR wL w2.heap.size lq n lcq (fun j => -5 - (j : Int)) lg) := hlr.congr fun j hj => if_pos hj
  have HOO := hid6 (HRW.out.2.1 wL hkp)
  have KL : Hid (∀ W, Below wL.heap.size wL W → (W.heap[w.heap.size]? = some (.cells #[.int .i64 p.ki, .slice v.pp p.np v.pc, .slice v.tp p.nq v.tc, .slice v.sp p.ns v.sc, .int .u64 p.sd, .int .u64 p.lk, .int .u64 p.en, .int .i64 p.bu, .int .i64 p.fu] 27 (0, 0)) ∧ W.heap[bu]? = some (.cells #[.int .i64 p.ki, .slice u.pp p.np u.pc, .slice u.tp p.nq u.tc, .slice u.sp p.ns u.sc, .int .u64 p.sd, .int .u64 p.lk, .int .u64 p.en, .int .i64 p.bu, .int .i64 p.fu] 27 (0, 0)) ∧ W.heap[bl]? = some (.cells #[.int .i64 la, .slice lq n lcq, .int .i64 lb, .int .i64 lc, .int .i64 le] 30 (0, 0)) ∧ W.heap[bo]? = some (.cells #[.int .i64 oa, .slice oq no ocq, .int .i64 ob, .int .i64 oc, .int .i64 oe] 30 (0, 0)) ∧ W.heap[bk]? = some (.cells #[.int .i64 la, .slice kq n kcq, .int .i64 lb, .int .i64 lc, .int .i64 le] 30 (0, 0)) ∧ W.heap[bm]? = some (.cells #[.int .i64 la, .slice mq n mcq, .int .i64 lb, .int .i64 lc, .int .i64 le] 30 (0, 0)) ∧ W.heap[bq]? = some (.cells #[.int .i64 oa, .slice qq no qcq, .int .i64 ob, .int .i64 oc, .int .i64 oe] 30 (0, 0)))) := fun W hW => by
    obtain ⟨x1, x2, x3, x4, x5, x6, x7⟩ := HKP.out wL hkp
    exact ⟨(hW.block _ (lt_of_block x1)).trans x1, (hW.block _ (lt_of_block x2)).trans x2, (hW.block _ (lt_of_block x3)).trans x3, (hW.block _ (lt_of_block x4)).trans x4, (hW.block _ (lt_of_block x5)).trans x5, (hW.block _ (lt_of_block x6)).trans x6, (hW.block _ (lt_of_block x7)).trans x7⟩
  have HBW : Hid (Below w.heap.size w wL) := HRW.out.2.2.1.trans (hkp.toBelow HRW.out.2.2.1.size HRW.out.2.2.2.2)
  have HO1 : Hid (∀ W, Below wL.heap.size wL W → _) := fun W hW => lowners_any lq n lcq (fun j => -5 - (j : Int)) (-1) HLL.out.shape hn W (HLL.out.later hW).kat
  have HO2 : Hid (∀ W, Below wL.heap.size wL W → _) := fun W hW => lowners_any kq n kcq fk (-2) HOO.out.2.1.shape hn W (HOO.out.2.1.later hW).kat
  have HO3 : Hid (∀ W, Below wL.heap.size wL W → _) := fun W hW => lowners_any oq no ocq fo (-3) HOO.out.1.shape hno W (HOO.out.1.later hW).kat
  have hby : Below wL.heap.size wL wL := Below.refl _ _
  obtain ⟨x1, x2, x3, x4, x5, x6, x7⟩ := KL.out _ hby
  obtain ⟨l0, l1, -⟩ := cells5q x3
  obtain ⟨o0, o1, -⟩ := cells5q x4
  obtain ⟨k0, k1, -⟩ := cells5q x5
  obtain ⟨m0, m1, -⟩ := cells5q x6
  obtain ⟨q0, q1, -⟩ := cells5q x7
  clear x1 x2 x3 x4 x5 x6 x7 l0 o0 k0 m0 q0
  clear hlr hkp
  go_upto_region 17 with (first | (go_at_call 11; (with_reducible refine (HO1.out _ hby).mono ?_); rintro r9 xa ⟨vl, rfl, h5, h6⟩; have hby := hby.trans (h6.mono hby.size); have HA : Hid (OI xa wL.heap.size vl (n + 64) (snc (fun j => -5 - (j : Int)) n (-1)) ∧ Below wL.heap.size wL xa) := ⟨h5, hby⟩; clear h5 h6; clear l1 o1 k1 m1 q1; obtain ⟨x1, x2, x3, x4, x5, x6, x7⟩ := KL.out _ hby; obtain ⟨l0, l1, -⟩ := cells5q x3; obtain ⟨o0, o1, -⟩ := cells5q x4; obtain ⟨k0, k1, -⟩ := cells5q x5; obtain ⟨m0, m1, -⟩ := cells5q x6; obtain ⟨q0, q1, -⟩ := cells5q x7; clear x1 x2 x3 x4 x5 x6 x7 l0 o0 k0 m0 q0) | (go_at_call 11; (with_reducible refine (HO2.out _ hby).mono ?_); rintro r9 xb ⟨vk, rfl, h5, h6⟩; have HAB : Hid (Below xa.heap.size xa xb) := h6; have hby := hby.trans (h6.mono hby.size); have HB2 : Hid (OI xb xa.heap.size vk (n + 64) (snc fk n (-2)) ∧ Below wL.heap.size wL xb) := ⟨h5, hby⟩; clear h5 h6; clear l1 o1 k1 m1 q1; obtain ⟨x1, x2, x3, x4, x5, x6, x7⟩ := KL.out _ hby; obtain ⟨l0, l1, -⟩ := cells5q x3; obtain ⟨o0, o1, -⟩ := cells5q x4; obtain ⟨k0, k1, -⟩ := cells5q x5; obtain ⟨m0, m1, -⟩ := cells5q x6; obtain ⟨q0, q1, -⟩ := cells5q x7; clear x1 x2 x3 x4 x5 x6 x7 l0 o0 k0 m0 q0) | (go_at_call 11; (with_reducible refine (HO3.out _ hby).mono ?_); rintro r9 xc ⟨vo, rfl, h5, h6⟩; have HBC : Hid (Below xb.heap.size xb xc) := h6; have hby := hby.trans (h6.mono hby.size); have HC3 : Hid (OI xc xb.heap.size vo (no + 64) (snc fo no (-3)) ∧ Below wL.heap.size wL xc) := ⟨h5, hby⟩; clear h5 h6; clear l1 o1 k1 m1 q1; obtain ⟨x1, x2, x3, x4, x5, x6, x7⟩ := KL.out _ hby; obtain ⟨l0, l1, -⟩ := cells5q x3; obtain ⟨o0, o1, -⟩ := cells5q x4; obtain ⟨k0, k1, -⟩ := cells5q x5; obtain ⟨m0, m1, -⟩ := cells5q x6; obtain ⟨q0, q1, -⟩ := cells5q x7; clear x1 x2 x3 x4 x5 x6 x7 l0 o0 k0 m0 q0))
  rcases HA.out.1.form with ⟨_, h0⟩ | ⟨ga, ca, hva, _, _⟩
  · omega
  rcases HB2.out.1.form with ⟨_, h0⟩ | ⟨gb, cb, hvb, _, _⟩
  · omega
  rcases HC3.out.1.form with ⟨_, h0⟩ | ⟨gc, cc, hvc, _, _⟩
  · omega
  subst hva hvb hvc
  have HV : Hid (OI xc wL.heap.size (.slice (some ⟨ga, 0, none⟩) (n + 64) ca) (n + 64) (snc (fun j => -5 - (j : Int)) n (-1)) ∧ OI xc xa.heap.size (.slice (some ⟨gb, 0, none⟩) (n + 64) cb) (n + 64) (snc fk n (-2)) ∧ OI xc xb.heap.size (.slice (some ⟨gc, 0, none⟩) (no + 64) cc) (no + 64) (snc fo no (-3)) ∧ Below wL.heap.size wL xc) := ⟨(HA.out.1.later HAB.out).later HBC.out, HB2.out.1.later HBC.out, HC3.out.1, hby⟩
  clear HA HB2 HC3 HAB HBC hby HO1 HO2 HO3
  go_wp2_with fail
  clear l1 o1 k1 m1 q1
  go_loopw [115] (fun y wr => ∃ (i : Nat), y = .int .i64 (i : Int) ∧ i ≤ n ∧ Below xc.heap.size xc wr) (fun y _ => n - (intOf y).toNat)
  case atStart => exact ⟨0, rfl, Nat.zero_le _, Below.refl _ _⟩
  case round =>
  obtain ⟨i, rfl, hi, hbc⟩ := hrel
  have hbL : Below wL.heap.size wL wr := HV.out.2.2.2.trans (hbc.mono HV.out.2.2.2.size)
  obtain ⟨x1, x2, x3, x4, x5, x6, x7⟩ := KL.out _ hbL
  obtain ⟨l0, l1, -⟩ := cells5q x3
  obtain ⟨o0, o1, -⟩ := cells5q x4
  obtain ⟨k0, k1, -⟩ := cells5q x5
  obtain ⟨m0, m1, -⟩ := cells5q x6
  obtain ⟨q0, q1, -⟩ := cells5q x7
  clear x1 x2 x3 x4 x5 x6 x7 l0 o0 k0 m0 q0
  by_cases hlt2 : i < n
  case pos =>
    have dlt2 : decide ((i : Int) < (n : Int)) = true := by simp; omega
    have hm := gmeas hlt2
    have ei : IntKind.i64.wrap ((i : Int) + 1) = (i : Int) + 1 := by rw [IntKind.wrap_i64]; omega
    have e5 : IntKind.i64.wrap (-5 - (i : Int)) = -5 - (i : Int) := by rw [IntKind.wrap_i64]; omega
    have i0 : (0 : Int) ≤ (i : Int) := by omega
    have i1 : (i : Int) < (n : Int) := by omega
    have i2 : (i : Int) < ((n + 64 : Nat) : Int) := by omega
    have i3 : (i : Int) < (n : Int) + 64 := by omega
    rcases (HLL.out.later hbL).kat with h0 | ⟨g1, o1', hq1, _, hc1⟩
    · omega
    rcases (HOO.out.2.1.later hbL).kat with h0 | ⟨g2, o2', hq2, _, hc2⟩
    · omega
    rcases HOO.out.2.2.1.below hbL with h0 | ⟨g3, o3', hq3, _, hc3⟩
    · omega
    have a1 := hc1 i hlt2
    have a2 := hc2 i hlt2
    have a3 := hc3 i hlt2
    have b1 := (HV.out.1.later hbc).cell (show i < n + 64 by omega)
    have b2 := (HV.out.2.1.later hbc).cell (show i < n + 64 by omega)
    rw [show snc (fun j => -5 - (j : Int)) n (-1) i = -5 - (i : Int) from if_pos hlt2] at b1
    rw [show snc fk n (-2) i = fk i from if_pos hlt2] at b2
    rw [HFK.out i hlt2] at a3
    obtain ⟨xk, hxk⟩ : ∃ xk, fk i = xk := ⟨_, rfl⟩
    rw [hxk] at a2 a3 b2
    rw [hq1] at l1
    rw [hq2] at k1
    rw [hq3] at m1
    have ne1 : ((-5 - (i : Int)) != (-5 - (i : Int))) = false := by simp
    have ne2 : (xk != xk) = false := by simp
    have HQ : Hid (Below xc.heap.size xc wr) := hbc
    clear hbc hbL hc1 hc2 hc3 hxk hq1 hq2 hq3 o1 q1
    go_upto_region 20 with fail
    go_quiet (fail)
    go_wp2_with fail
    exact ⟨⟨i + 1, rfl, hlt2, HQ.out.trans (below_drewNq _ _ _)⟩, hm⟩
  case neg =>
  have dlt2 : decide ((i : Int) < (n : Int)) = false := by simp; omega
  obtain rfl : n = i := by omega
  have HQ : Hid (Below xc.heap.size xc wr ∧ Below wL.heap.size wL wr) := ⟨hbc, hbL⟩
  clear hbc hbL
  go_wp2_with fail
  clear l1 o1 k1 m1 q1
  obtain ⟨wd, rfl⟩ : ∃ wd, wd = wr := ⟨_, rfl⟩
  go_loopw [24] (fun y wr => ∃ (j : Nat), y = .int .i64 (j : Int) ∧ j ≤ 64 ∧ wr = wd) (fun y _ => 64 - (intOf y).toNat)
  case atStart => exact ⟨0, rfl, Nat.zero_le _, rfl⟩
  case round =>
  obtain ⟨j, rfl, hj, hwr⟩ := hrel
  subst wr
  have hbc := HQ.out.1
  obtain ⟨x1, x2, x3, x4, x5, x6, x7⟩ := KL.out _ HQ.out.2
  obtain ⟨l0, l1, -⟩ := cells5q x3
  obtain ⟨o0, o1, -⟩ := cells5q x4
  obtain ⟨k0, k1, -⟩ := cells5q x5
  obtain ⟨m0, m1, -⟩ := cells5q x6
  obtain ⟨q0, q1, -⟩ := cells5q x7
  clear x1 x2 x3 x4 x5 x6 x7 l0 o0 k0 m0 q0
  by_cases hlt3 : j < 64
  case pos =>
    have dlt3 : decide ((j : Int) < 64) = true := by simp; omega
    have hm := gmeas hlt3
    have ei : IntKind.i64.wrap ((j : Int) + 1) = (j : Int) + 1 := by rw [IntKind.wrap_i64]; omega
    have e1 : IntKind.i64.wrap ((n : Int) + (j : Int)) = ((n + j : Nat) : Int) := by rw [IntKind.wrap_i64]; omega
    have e2 : IntKind.i64.wrap ((no : Int) + (j : Int)) = ((no + j : Nat) : Int) := by rw [IntKind.wrap_i64]; omega
    obtain ⟨nj, hnj⟩ : ∃ nj, n + j = nj := ⟨_, rfl⟩
    obtain ⟨oj, hoj⟩ : ∃ oj, no + j = oj := ⟨_, rfl⟩
    obtain ⟨n6, hn6⟩ : ∃ n6, n + 64 = n6 := ⟨_, rfl⟩
    obtain ⟨o6, ho6⟩ : ∃ o6, no + 64 = o6 := ⟨_, rfl⟩
    have b1 := (HV.out.1.later hbc).cell (show n + j < n + 64 by omega)
    have b2 := (HV.out.2.1.later hbc).cell (show n + j < n + 64 by omega)
    have b3 := (HV.out.2.2.1.later hbc).cell (show no + j < no + 64 by omega)
    rw [show snc (fun j => -5 - (j : Int)) n (-1) (n + j) = -1 from if_neg (by omega)] at b1
    rw [show snc fk n (-2) (n + j) = -2 from if_neg (by omega)] at b2
    rw [show snc fo no (-3) (no + j) = -3 from if_neg (by omega)] at b3
    rw [hnj] at b1 b2 e1
    rw [hoj] at b3 e2
    have j0 : (0 : Int) ≤ (nj : Int) := by omega
    have j1 : (nj : Int) < ((n + 64 : Nat) : Int) := by omega
    have j1b : (nj : Int) < (n : Int) + 64 := by omega
    have j2 : (0 : Int) ≤ (oj : Int) := by omega
    have j3 : (oj : Int) < ((no + 64 : Nat) : Int) := by omega
    have j3b : (oj : Int) < (no : Int) + 64 := by omega
    clear hnj hoj hn6 ho6 hbc l1 m1 q1
    go_wp2_with fail
    exact ⟨⟨j + 1, rfl, hlt3, (by first | exact rfl | exact trivial)⟩, hm⟩
  case neg =>
  have dlt3 : decide ((j : Int) < 64) = false := by simp; omega
  have HI1 : Hid (∀ W, Below wL.heap.size wL W → _) := fun W hW => sameInts_any oq qq no no ocq qcq fo fo (by omega) W (HOO.out.1.later hW).kat (HOO.out.2.2.2.below hW)
  have HI2 : Hid (∀ W, Below wL.heap.size wL W → _) := fun W hW => sameInts_any kq mq n n kcq mcq fk f (by omega) W (HOO.out.2.1.later hW).kat (HOO.out.2.2.1.below hW)
  have sf1 : sameF no fo fo = true := sameF_yes fun _ _ => rfl
  have sf2 : sameF n fk f = true := sameF_yes fun i hi => (HFK.out i hi).symm
  rw [sf1] at HI1
  rw [sf2] at HI2
  simp only [decide_true, Bool.and_true] at HI1 HI2
  have hby := HQ.out.2
  clear sf1 sf2 hbc
  go_wp2_with (first | (go_at_call 12; (with_reducible refine (HI1.out _ hby).mono ?_); rintro r9 xd ⟨rfl, h6⟩; have hby := hby.trans (h6.mono hby.size); clear h6; clear l1 o1 k1 m1 q1; obtain ⟨x1, x2, x3, x4, x5, x6, x7⟩ := KL.out _ hby; obtain ⟨l0, l1, -⟩ := cells5q x3; obtain ⟨o0, o1, -⟩ := cells5q x4; obtain ⟨k0, k1, -⟩ := cells5q x5; obtain ⟨m0, m1, -⟩ := cells5q x6; obtain ⟨q0, q1, -⟩ := cells5q x7; clear x1 x2 x3 x4 x5 x6 x7 l0 o0 k0 m0 q0) | (go_at_call 12; (with_reducible refine (HI2.out _ hby).mono ?_); rintro r9 xe ⟨rfl, h6⟩; have hby := hby.trans (h6.mono hby.size); clear h6))
  go_ret
  exact ⟨rfl, HBW.out.trans (hby.mono HBW.out.size)⟩
end Go.Proofs.Ytkgifanlodlilaa
