import Derived.Test.YtbcnlnigenpiiaaOP7
import Derived.Test.YtbcnlnigenpiiaaSV4
import Derived.Test.YtbcnlnigenpiiaaSV3
import Derived.Test.YtbcnlnigenpiiaaOP4
namespace Go.Proofs.Ytbcnlnigenpiiaa
open Go.ChangeShapes Go.WideShapes Go.ChangeAt Go.RowKit
set_option linter.unusedVariables false
set_option linter.unusedSimpArgs false

theorem VC.good' {p : Pl} (h : VC p 0) : GT p ∧ GS p := by
  unfold VC at h
  rcases h with ⟨_, h⟩ | ⟨_, ⟨_, h⟩ | ⟨_, ⟨_, h⟩ | ⟨hT, ⟨_, h⟩ | ⟨hS, _⟩⟩⟩⟩
  · omega
  · omega
  · omega
  · omega
  · exact ⟨hT, hS⟩
set_option maxRecDepth 100000 in
set_option maxHeartbeats 8000000 in
theorem take_bad (p : Pl) (v : PlV) (o : Pn) (u : PnV) (hv : ¬ VC p 0) (w : World) (h : PlAt w p v) :
    Calls Try.prog 7 #[.agg #[.int .i64 p.ki, .slice v.pp p.np v.pc, .slice v.tp p.nq v.tc, .slice v.sp p.ns v.sc, .int .u64 p.sd, .int .u64 p.lk, .int .u64 p.en, .int .i64 p.bu, .int .i64 p.fu], .agg #[.slice u.q o.n u.c, .slice u.q2 o.m u.c2, .slice u.q3 o.l u.c3]] w fun e w' => ∃ c, e = .returned (.int .i64 c) ∧ (VC p c ∧ c ≠ 0) ∧ Below w.heap.size w w' := by
  obtain ⟨wb, hwb⟩ : ∃ wb, (w.alloc (.cells #[.int .i64 p.ki, .slice v.pp p.np v.pc, .slice v.tp p.nq v.tc, .slice v.sp p.ns v.sc, .int .u64 p.sd, .int .u64 p.lk, .int .u64 p.en, .int .i64 p.bu, .int .i64 p.fu] 27)).alloc (.cells #[.slice u.q o.n u.c, .slice u.q2 o.m u.c2, .slice u.q3 o.l u.c3] 31) = wb := ⟨_, rfl⟩
  have hb0 : Below w.heap.size w wb := by rw [← hwb]; exact ((Below.refl _ w).alloc (Nat.le_refl _) _).alloc (by simp) _
  have hbox : wb.heap[w.heap.size]? = some (.cells #[.int .i64 p.ki, .slice v.pp p.np v.pc, .slice v.tp p.nq v.tc, .slice v.sp p.ns v.sc, .int .u64 p.sd, .int .u64 p.lk, .int .u64 p.en, .int .i64 p.bu, .int .i64 p.fu] 27 (0, 0)) := by
    rw [← hwb, Below.heap_alloc _ _ _ (by simp)]
    exact World.alloc_heap_new w _
  have HW : Hid ((w.alloc (.cells #[.int .i64 p.ki, .slice v.pp p.np v.pc, .slice v.tp p.nq v.tc, .slice v.sp p.ns v.sc, .int .u64 p.sd, .int .u64 p.lk, .int .u64 p.en, .int .i64 p.bu, .int .i64 p.fu] 27)).alloc (.cells #[.slice u.q o.n u.c, .slice u.q2 o.m u.c2, .slice u.q3 o.l u.c3] 31) = wb) := hwb
  have HV := rvalid_any p v wb (h.below hb0)
  have HB : Hid (Below w.heap.size w wb ∧ ¬ VC p 0) := ⟨hb0, hv⟩
  obtain ⟨⟨c0, c1, c2, c3⟩, c4, c5, c6, c7, c8⟩ := cells9 hbox
  rw [← hwb] at c0 c1 c2 c3 c4 c5 c6 c7 c8
  clear hwb h hb0 hbox hv
  go_enter Try.func7, Try.ntmps7
  go_upto_region 2 with (go_at_call 18; rw [HW.out]; (with_reducible refine HV.mono ?_); rintro e w1 ⟨cr, rfl, hvc, hb1⟩)
  have hcr : cr ≠ 0 := fun e => HB.out.2 (by rw [← e]; exact hvc)
  have g0 : (cr == 0) = false := by simpa using hcr
  have H1 : Hid ((VC p cr ∧ cr ≠ 0) ∧ Below w.heap.size w w1) := ⟨⟨hvc, hcr⟩, HB.out.1.trans (hb1.mono HB.out.1.size)⟩
  clear hcr hvc hb1
  go_wp2_with fail
  go_ret
  exact ⟨cr, rfl, H1.out⟩
set_option maxRecDepth 100000 in
set_option maxHeartbeats 8000000 in
theorem take_good (p : Pl) (v : PlV) (o : Pn) (u : PnV) (hv : VC p 0) (hn : RoomyN o) (w : World) (h : PlAt w p v) (ho : PnAt w o u) :
    Calls Try.prog 7 #[.agg #[.int .i64 p.ki, .slice v.pp p.np v.pc, .slice v.tp p.nq v.tc, .slice v.sp p.ns v.sc, .int .u64 p.sd, .int .u64 p.lk, .int .u64 p.en, .int .i64 p.bu, .int .i64 p.fu], .agg #[.slice u.q o.n u.c, .slice u.q2 o.m u.c2, .slice u.q3 o.l u.c3]] w fun e w' => ∃ c, e = .returned (.int .i64 c) ∧ (PF p o ∧ c = 0 ∨ ¬ PF p o ∧ c = 127) ∧ Below w.heap.size w w' := by
  obtain ⟨wb, hwb⟩ : ∃ wb, (w.alloc (.cells #[.int .i64 p.ki, .slice v.pp p.np v.pc, .slice v.tp p.nq v.tc, .slice v.sp p.ns v.sc, .int .u64 p.sd, .int .u64 p.lk, .int .u64 p.en, .int .i64 p.bu, .int .i64 p.fu] 27)).alloc (.cells #[.slice u.q o.n u.c, .slice u.q2 o.m u.c2, .slice u.q3 o.l u.c3] 31) = wb := ⟨_, rfl⟩
  have hb0 : Below w.heap.size w wb := by rw [← hwb]; exact ((Below.refl _ w).alloc (Nat.le_refl _) _).alloc (by simp) _
  have hbox : wb.heap[w.heap.size]? = some (.cells #[.int .i64 p.ki, .slice v.pp p.np v.pc, .slice v.tp p.nq v.tc, .slice v.sp p.ns v.sc, .int .u64 p.sd, .int .u64 p.lk, .int .u64 p.en, .int .i64 p.bu, .int .i64 p.fu] 27 (0, 0)) := by
    rw [← hwb, Below.heap_alloc _ _ _ (by simp)]
    exact World.alloc_heap_new w _
  have hbx2 : wb.heap[w.heap.size + 1]? = some (.cells #[.slice u.q o.n u.c, .slice u.q2 o.m u.c2, .slice u.q3 o.l u.c3] 31 (0, 0)) := by
    rw [← hwb]
    have := World.alloc_heap_new (w.alloc (.cells #[.int .i64 p.ki, .slice v.pp p.np v.pc, .slice v.tp p.nq v.tc, .slice v.sp p.ns v.sc, .int .u64 p.sd, .int .u64 p.lk, .int .u64 p.en, .int .i64 p.bu, .int .i64 p.fu] 27)) (.cells #[.slice u.q o.n u.c, .slice u.q2 o.m u.c2, .slice u.q3 o.l u.c3] 31)
    rwa [World.size_alloc] at this
  have HW : Hid ((w.alloc (.cells #[.int .i64 p.ki, .slice v.pp p.np v.pc, .slice v.tp p.nq v.tc, .slice v.sp p.ns v.sc, .int .u64 p.sd, .int .u64 p.lk, .int .u64 p.en, .int .i64 p.bu, .int .i64 p.fu] 27)).alloc (.cells #[.slice u.q o.n u.c, .slice u.q2 o.m u.c2, .slice u.q3 o.l u.c3] 31) = wb) := hwb
  obtain ⟨⟨C, hC, hS0⟩, hX0, hZ0⟩ := ho.below hb0
  have hp := h.below hb0
  have HP : Hid (PlAt wb p v ∧ SsAt wb u.q o.n C o.K ∧ SIn wb u.q2 o.m o.X ∧ Below w.heap.size w wb ∧ SaEq o.n o.A C) := ⟨hp, hS0, hX0, hb0, hC⟩
  have HBX : Hid (wb.heap[w.heap.size]? = some (.cells #[.int .i64 p.ki, .slice v.pp p.np v.pc, .slice v.tp p.nq v.tc, .slice v.sp p.ns v.sc, .int .u64 p.sd, .int .u64 p.lk, .int .u64 p.en, .int .i64 p.bu, .int .i64 p.fu] 27 (0, 0)) ∧ wb.heap[w.heap.size + 1]? = some (.cells #[.slice u.q o.n u.c, .slice u.q2 o.m u.c2, .slice u.q3 o.l u.c3] 31 (0, 0))) := ⟨hbox, hbx2⟩
  have HV := rvalid_any p v wb hp
  obtain ⟨hGT, hGS⟩ := hv.good'
  have HG : Hid (VC p 0 ∧ GT p) := ⟨hv, hGT⟩
  have HRI : ∀ W, Below wb.heap.size wb W → Hid (Calls Try.prog 19 #[.slice u.q2 o.m u.c2] W fun e w' => ∃ b, e = .returned (.bool b) ∧ (b = true ↔ Rsg o.m o.X) ∧ Below W.heap.size W w') := fun W hb => rrising_any u.q2 o.m u.c2 o.X hn.m W (hX0.below hb)
  have hom := hn.m
  have hol := hn.l
  have hon := hn.n
  have hnq := hGT.1
  obtain ⟨⟨c0, c1, c2, c3⟩, c4, c5, c6, c7, c8⟩ := cells9 hbox
  rw [← hwb] at c0 c1 c2 c3 c4 c5 c6 c7 c8
  clear hwb h ho hb0 hbox hbx2 hC hS0 hX0 hZ0 hp hn hv hGT hGS
  go_enter Try.func7, Try.ntmps7
  go_upto_region 2 with (go_at_call 18; rw [HW.out]; (with_reducible refine HV.mono ?_); rintro e w1 ⟨cr, rfl, hvc, hb1⟩)
  obtain rfl : cr = 0 := VC.one hvc HG.out.1
  have H1 : Hid (Below wb.heap.size wb w1) := hb1
  clear hvc c0 c1 c2 c3 c4 c5 c6 c7 c8 HV
  obtain ⟨⟨c0, c1, c2, c3⟩, c4, c5, c6, c7, c8⟩ := cells9 ((hb1.block _ (lt_of_block HBX.out.1)).trans HBX.out.1)
  obtain ⟨e0, e1, e2⟩ := cells3p ((hb1.block _ (lt_of_block HBX.out.2)).trans HBX.out.2)
  clear hb1
  have HY1 : Hid (Below w.heap.size w w1) := HP.out.2.2.2.1.trans (H1.out.mono HP.out.2.2.2.1.size)
  by_cases he : o.n = p.nq
  case neg =>
    have g0 : ((o.n : Int) == (p.nq : Int)) = false := by simp; omega
    have g1 : ((o.n : Int) != (p.nq : Int)) = true := by simp; omega
    have g2 : (o.n != p.nq) = true := by simp; omega
    have g3 : (o.n == p.nq) = false := by simp; omega
    have HX : Hid (¬ PF p o) := fun hG => he hG.1.1
    clear he
    go_wp2_with fail
    go_ret
    exact ⟨127, rfl, .inr ⟨HX.out, rfl⟩, HY1.out⟩
  have g0 : ((o.n : Int) == (p.nq : Int)) = true := by simp; omega
  have g1 : ((o.n : Int) != (p.nq : Int)) = false := by simp; omega
  have g2 : (o.n != p.nq) = false := by simp; omega
  have g3 : (o.n == p.nq) = true := by simp; omega
  have HE : Hid (o.n = p.nq) := he
  clear he
  by_cases hbu : (o.l : Int) ≤ p.bu
  case neg =>
    have d0 : decide (p.bu < (o.l : Int)) = true := by simp; omega
    have HX : Hid (¬ PF p o) := fun hG => hbu hG.2.2.1
    clear hbu
    go_wp2_with fail
    go_ret
    exact ⟨127, rfl, .inr ⟨HX.out, rfl⟩, HY1.out⟩
  have d0 : decide (p.bu < (o.l : Int)) = false := by simp; omega
  have HBU : Hid ((o.l : Int) ≤ p.bu) := hbu
  clear hbu
  go_wp2_with fail
  clear c0 c1 c2 c3 c4 c5 c6 c7 c8 e0 e1 e2
  go_loopw [6] (fun x wr => ∃ i : Nat, x = .int .i64 (i : Int) ∧ i ≤ o.n ∧ (∀ j, j < i → sf1 p C j) ∧ Below wb.heap.size wb wr) (fun x _ => o.n - (intOf x).toNat)
  case atStart => exact ⟨0, rfl, Nat.zero_le _, fun j hj => absurd hj (Nat.not_lt_zero _), H1.out⟩
  case round =>
    obtain ⟨i, rfl, hi, hall, hbr⟩ := hrel
    obtain ⟨⟨c0, c1, c2, c3⟩, c4, c5, c6, c7, c8⟩ := cells9 ((hbr.block _ (lt_of_block HBX.out.1)).trans HBX.out.1)
    obtain ⟨e0, e1, e2⟩ := cells3p ((hbr.block _ (lt_of_block HBX.out.2)).trans HBX.out.2)
    by_cases hlt : i < o.n
    case pos =>
      have dlt : decide ((i : Int) < (o.n : Int)) = true := by simp; omega
      have i0 : (0 : Int) ≤ (i : Int) := by omega
      have i1 : (i : Int) < (o.n : Int) := by omega
      have i2 : (i : Int) < (p.nq : Int) := by rw [← HE.out]; exact i1
      have ei : IntKind.i64.wrap ((i : Int) + 1) = (i : Int) + 1 := by rw [IntKind.wrap_i64]; omega
      have hme := meas hlt
      obtain hz | ⟨gs, os, hse, hls, hcs, _⟩ := HP.out.2.1.below hbr
      · omega
      obtain ⟨x0, x1, x2⟩ := hcs i hlt
      have hlq : i < p.nq := by rw [← HE.out]; exact hlt
      obtain hz | ⟨gt, ot, hpp, hlt', hct, _⟩ := (HP.out.1.below hbr).ts
      · omega
      obtain ⟨y0, y1⟩ := hct i hlq
      obtain ⟨hr0, hr1, hr2⟩ := HG.out.2.2 i hlq
      obtain ⟨pn, hpn⟩ : ∃ pn : Nat, p.pr i = (pn : Int) := ⟨(p.pr i).toNat, by omega⟩
      have hpl : pn < p.np := by omega
      have j0 : (0 : Int) ≤ (pn : Int) := by omega
      have j1 : (pn : Int) < (p.np : Int) := by omega
      rw [hpn] at y0 hr2
      rw [Int.toNat_natCast] at hr2
      obtain hz | ⟨gq, oq, hqe, hlq', hcq, _⟩ := (HP.out.1.below hbr).ps
      · omega
      obtain ⟨z0, z1, z2, z3⟩ := hcq pn hpl
      obtain ⟨wd, hwd⟩ : ∃ wd, (p.P pn).words = wd := ⟨_, rfl⟩
      rw [hwd] at z0 hr2
      have HA : Hid ((∀ j, j < i → sf1 p C j) ∧ Below wb.heap.size wb wr) := ⟨hall, hbr⟩
      have HY : Hid (∀ q, Below w.heap.size w (wr.drewN q)) := fun q => HP.out.2.2.2.1.trans ((hbr.trans ((below_drewNq _ _ q).mono hbr.size)).mono HP.out.2.2.2.1.size)
      rw [hpp] at c2
      rw [hqe] at c1
      rw [hse] at e0
      rw [hpp, hqe, hse]
      have HNW : Hid ((p.nw i : Int) = wd) := hr2
      have heq : (((C i).n : Int) = wd) ↔ (C i).n = p.nw i := by rw [← hr2]; omega
      clear hcs hct hcq hall hbr hpp hqe hse hls hlt' hlq' hwd hr0 hr1 hr2 hpn
      by_cases h1 : (C i).n = p.nw i
      case neg =>
        have k0 : (((C i).n : Int) == wd) = false := by simp; rw [heq]; exact h1
        have k1 : (((C i).n : Int) != wd) = true := by simp; rw [heq]; exact h1
        have HX : Hid (¬ PF p o) := fun hG => h1 ((((SF.eqv HP.out.2.2.2.2).2 hG.1).2 i hlt).1)
        clear h1 heq
        go_upto_region 9 with fail
        go_quiet (fail)
        go_wp2_with fail
        go_ret
        exact ⟨127, rfl, .inr ⟨HX.out, rfl⟩, HY.out _⟩
      have k0 : (((C i).n : Int) == wd) = true := by simp; rw [heq]; exact h1
      have k1 : (((C i).n : Int) != wd) = false := by simp; rw [heq]; exact h1
      by_cases h2 : (C i).s ≤ 4611686018427387904
      case neg =>
        have k4 : decide (4611686018427387904 < (C i).s) = true := by simp; omega
        have HX : Hid (¬ PF p o) := fun hG => h2 ((((SF.eqv HP.out.2.2.2.2).2 hG.1).2 i hlt).2)
        clear h2 h1 heq
        go_upto_region 9 with fail
        go_quiet (fail)
        go_wp2_with fail
        go_ret
        exact ⟨127, rfl, .inr ⟨HX.out, rfl⟩, HY.out _⟩
      have k4 : decide (4611686018427387904 < (C i).s) = false := by simp; omega
      have HN : Hid (sf1 p C i) := ⟨h1, h2⟩
      clear h1 h2 heq
      go_upto_region 9 with fail
      go_quiet (fail)
      go_wp2_with fail
      refine ⟨⟨i + 1, rfl, hlt, fun j hj => ?_, HA.out.2.trans ((below_drewNq _ _ _).mono HA.out.2.size)⟩, hme⟩
      by_cases e : j = i
      · rw [e]
        exact HN.out
      · exact HA.out.1 j (by omega)
    have dlt : decide ((i : Int) < (o.n : Int)) = false := by simp; omega
    obtain rfl : i = o.n := by omega
    have HSS : Hid (SF p o.n C ∧ Below wb.heap.size wb wr) := ⟨⟨HE.out, hall⟩, hbr⟩
    clear hall hbr
    go_wp2_with fail
    clear c0 c1 c2 c3 c4 c5 c6 c7 c8 e0 e1 e2
    obtain ⟨wy, rfl⟩ : ∃ wy, wy = wr := ⟨_, rfl⟩
    go_loopw [7] (fun x wr => ∃ i : Nat, x = .int .i64 (i : Int) ∧ i ≤ o.m ∧ (∀ j, j < i → ef1 p o.A (o.X j)) ∧ Below wb.heap.size wb wr) (fun x _ => o.m - (intOf x).toNat)
    case atStart => exact ⟨0, rfl, Nat.zero_le _, fun j hj => absurd hj (Nat.not_lt_zero _), HSS.out.2⟩
    case round =>
      obtain ⟨i, rfl, hi, hall, hbr⟩ := hrel
      by_cases hlt : i < o.m
      case pos =>
        have dlt : decide ((i : Int) < (o.m : Int)) = true := by simp; omega
        have i0 : (0 : Int) ≤ (i : Int) := by omega
        have i1 : (i : Int) < (o.m : Int) := by omega
        have ei : IntKind.i64.wrap ((i : Int) + 1) = (i : Int) + 1 := by rw [IntKind.wrap_i64]; omega
        have hme := meas hlt
        obtain ⟨f0, f1, f2⟩ := cells3p ((hbr.block _ (lt_of_block HBX.out.2)).trans HBX.out.2)
        obtain ⟨ge, oe, hqe, hle, x0, x1, x2, x3, x4, x5⟩ := (HP.out.2.2.1.below hbr).at hlt
        have hba : Below wr.heap.size wr (wr.alloc (.cells #[.int .u64 (o.X i).t, .int .i64 (o.X i).s, .int .u64 (o.X i).q, .int .i64 (o.X i).d, .int .i64 (o.X i).k, .int .i64 (o.X i).v] 65)) := (Below.refl _ wr).alloc (Nat.le_refl _) _
        obtain ⟨wa, hwa⟩ : ∃ wa, wr.alloc (.cells #[.int .u64 (o.X i).t, .int .i64 (o.X i).s, .int .u64 (o.X i).q, .int .i64 (o.X i).d, .int .i64 (o.X i).k, .int .i64 (o.X i).v] 65) = wa := ⟨_, rfl⟩
        have hbn : (wr.alloc (.cells #[.int .u64 (o.X i).t, .int .i64 (o.X i).s, .int .u64 (o.X i).q, .int .i64 (o.X i).d, .int .i64 (o.X i).k, .int .i64 (o.X i).v] 65)).heap[wr.heap.size]? = some (.cells #[.int .u64 (o.X i).t, .int .i64 (o.X i).s, .int .u64 (o.X i).q, .int .i64 (o.X i).d, .int .i64 (o.X i).k, .int .i64 (o.X i).v] 65 (0, 0)) := World.alloc_heap_new wr _
        rw [hwa] at hba hbn
        have hbwa : Below wb.heap.size wb wa := hbr.trans (hba.mono hbr.size)
        obtain ⟨⟨c0, c1, c2, c3⟩, c4, c5, c6, c7, c8⟩ := cells9 ((hbwa.block _ (lt_of_block HBX.out.1)).trans HBX.out.1)
        obtain ⟨e0, e1, e2⟩ := cells3p ((hbwa.block _ (lt_of_block HBX.out.2)).trans HBX.out.2)
        obtain ⟨y0, y1, y2, y3, y4, y5⟩ := cells6p hbn
        have HWA : Hid (wr.alloc (.cells #[.int .u64 (o.X i).t, .int .i64 (o.X i).s, .int .u64 (o.X i).q, .int .i64 (o.X i).d, .int .i64 (o.X i).k, .int .i64 (o.X i).v] 65) = wa) := hwa
        have HA : Hid ((∀ j, j < i → ef1 p o.A (o.X j)) ∧ Below wb.heap.size wb wa) := ⟨hall, hbwa⟩
        have HY : Hid (∀ q, Below w.heap.size w (wa.drewN q)) := fun q => HP.out.2.2.2.1.trans ((hbwa.trans ((below_drewNq _ _ q).mono hbwa.size)).mono HP.out.2.2.2.1.size)
        rw [hqe] at f1 e1
        rw [hqe]
        clear hqe hle hall hbr hba hbwa hwa hbn
        by_cases g0 : (o.X i).d < 0
        case pos =>
          have k0 : decide ((o.X i).d < 0) = true := by simpa using g0
          have hX : ¬ PF p o := fun hG => by have := (hG.2.2.2 i hlt).1.1; omega
          have HX : Hid (¬ PF p o) := hX
          clear hX g0
          go_upto_region 15 with fail
          rw [HWA.out]
          clear x0 x1 x2 x3 x4 x5
          go_wp2_with fail
          go_ret
          have hX := HX.out
          have hY := HY.out 0
          exact ⟨127, rfl, .inr ⟨hX, rfl⟩, hY⟩
        have k0 : decide ((o.X i).d < 0) = false := by simpa using g0
        by_cases g1 : (p.nq : Int) ≤ (o.X i).d
        case pos =>
          have k1 : decide ((p.nq : Int) ≤ (o.X i).d) = true := by simpa using g1
          have hX : ¬ PF p o := fun hG => by have := (hG.2.2.2 i hlt).1.2; omega
          have HX : Hid (¬ PF p o) := hX
          clear hX g1
          go_upto_region 15 with fail
          rw [HWA.out]
          clear x0 x1 x2 x3 x4 x5
          go_wp2_with fail
          go_ret
          have hX := HX.out
          have hY := HY.out 0
          exact ⟨127, rfl, .inr ⟨hX, rfl⟩, hY⟩
        have k1 : decide ((p.nq : Int) ≤ (o.X i).d) = false := by simpa using g1
        by_cases g2 : (o.X i).k < 0
        case pos =>
          have k2 : decide ((o.X i).k < 0) = true := by simpa using g2
          have hX : ¬ PF p o := fun hG => by have := (hG.2.2.2 i hlt).2.1.1; omega
          have HX : Hid (¬ PF p o) := hX
          clear hX g2
          go_upto_region 15 with fail
          rw [HWA.out]
          clear x0 x1 x2 x3 x4 x5
          go_wp2_with fail
          go_ret
          have hX := HX.out
          have hY := HY.out 0
          exact ⟨127, rfl, .inr ⟨hX, rfl⟩, hY⟩
        have k2 : decide ((o.X i).k < 0) = false := by simpa using g2
        by_cases g3 : p.ki ≤ (o.X i).k
        case pos =>
          have k3 : decide (p.ki ≤ (o.X i).k) = true := by simpa using g3
          have hX : ¬ PF p o := fun hG => by have := (hG.2.2.2 i hlt).2.1.2; omega
          have HX : Hid (¬ PF p o) := hX
          clear hX g3
          go_upto_region 15 with fail
          rw [HWA.out]
          clear x0 x1 x2 x3 x4 x5
          go_wp2_with fail
          go_ret
          have hX := HX.out
          have hY := HY.out 0
          exact ⟨127, rfl, .inr ⟨hX, rfl⟩, hY⟩
        have k3 : decide (p.ki ≤ (o.X i).k) = false := by simpa using g3
        by_cases g4 : (o.X i).s < 0
        case pos =>
          have k4 : decide ((o.X i).s < 0) = true := by simpa using g4
          have hX : ¬ PF p o := fun hG => by have := (hG.2.2.2 i hlt).2.2.1.1; omega
          have HX : Hid (¬ PF p o) := hX
          clear hX g4
          go_upto_region 15 with fail
          rw [HWA.out]
          clear x0 x1 x2 x3 x4 x5
          go_wp2_with fail
          go_ret
          have hX := HX.out
          have hY := HY.out 0
          exact ⟨127, rfl, .inr ⟨hX, rfl⟩, hY⟩
        have k4 : decide ((o.X i).s < 0) = false := by simpa using g4
        by_cases g5 : (p.nq : Int) ≤ (o.X i).s
        case pos =>
          have k5 : decide ((p.nq : Int) ≤ (o.X i).s) = true := by simpa using g5
          have hX : ¬ PF p o := fun hG => by have := (hG.2.2.2 i hlt).2.2.1.2; omega
          have HX : Hid (¬ PF p o) := hX
          clear hX g5
          go_upto_region 15 with fail
          rw [HWA.out]
          clear x0 x1 x2 x3 x4 x5
          go_wp2_with fail
          go_ret
          have hX := HX.out
          have hY := HY.out 0
          exact ⟨127, rfl, .inr ⟨hX, rfl⟩, hY⟩
        have k5 : decide ((p.nq : Int) ≤ (o.X i).s) = false := by simpa using g5
        obtain ⟨sn, hsn⟩ : ∃ sn : Nat, (o.X i).s = (sn : Int) := ⟨(o.X i).s.toNat, by omega⟩
        have hsl : sn < o.n := by have := HE.out; omega
        obtain hz | ⟨gs, os, hse, hls, hcs, _⟩ := HP.out.2.1.below HA.out.2
        · omega
        obtain ⟨z0, z1, z2⟩ := hcs sn hsl
        have j0 : (0 : Int) ≤ (sn : Int) := by omega
        have j1 : (sn : Int) < (o.n : Int) := by omega
        have HRG : Hid ((0 ≤ (o.X i).d ∧ (o.X i).d < (p.nq : Int)) ∧ (0 ≤ (o.X i).k ∧ (o.X i).k < p.ki) ∧ (0 ≤ (o.X i).s ∧ (o.X i).s < (p.nq : Int))) := ⟨⟨by omega, by omega⟩, ⟨by omega, by omega⟩, by omega, by omega⟩
        have k5n : decide (p.nq ≤ sn) = false := by simp; omega
        rw [hsn] at y1 x1 k4 k5 HWA
        rw [hse] at e0
        have HSN : Hid ((o.X i).s = (sn : Int) ∧ (C sn).s = (o.A sn).s) := ⟨hsn, (HP.out.2.2.2.2 sn hsl).2.2⟩
        rw [hse]
        clear hcs hls hse hsn g0 g1 g2 g3 g4 g5 hsl
        by_cases hq : (o.X i).q < (C sn).s
        case neg =>
          have k6 : decide ((C sn).s ≤ (o.X i).q) = true := by simp; omega
          have HQ : Hid ((C sn).s ≤ (o.X i).q) := by show (C sn).s ≤ (o.X i).q; omega
          clear hq
          go_upto_region 15 with fail
          rw [HWA.out]
          clear x0 x1 x2 x3 x4 x5
          go_upto_region 17 with fail
          go_quiet (fail)
          go_wp2_with fail
          go_ret
          have hX : ¬ PF p o := fun hG => by
            have h7 := (hG.2.2.2 i hlt).2.2.2
            rw [HSN.out.1, Int.toNat_natCast, ← HSN.out.2] at h7
            have := HQ.out
            omega
          exact ⟨127, rfl, .inr ⟨hX, rfl⟩, HY.out _⟩
        have k6 : decide ((C sn).s ≤ (o.X i).q) = false := by simp; omega
        have HQ : Hid ((o.X i).q < (C sn).s) := hq
        clear hq
        go_upto_region 15 with fail
        rw [HWA.out]
        clear x0 x1 x2 x3 x4 x5
        go_upto_region 17 with fail
        go_quiet (fail)
        go_wp2_with fail
        refine ⟨⟨i + 1, rfl, hlt, fun j hj => ?_, HA.out.2.trans ((below_drewNq _ _ _).mono HA.out.2.size)⟩, hme⟩
        by_cases e : j = i
        · rw [e]
          refine ⟨HRG.out.1, HRG.out.2.1, HRG.out.2.2, ?_⟩
          rw [HSN.out.1, Int.toNat_natCast, ← HSN.out.2]
          exact HQ.out
        · exact HA.out.1 j (by omega)
      have dlt : decide ((i : Int) < (o.m : Int)) = false := by simp; omega
      obtain rfl : i = o.m := by omega
      obtain ⟨f0, f1, f2⟩ := cells3p ((hbr.block _ (lt_of_block HBX.out.2)).trans HBX.out.2)
      have HBR : Hid (Below wb.heap.size wb wr) := hbr
      have HALL : Hid (SF p o.n o.A ∧ (o.l : Int) ≤ p.bu ∧ ∀ j, j < o.m → ef1 p o.A (o.X j)) := ⟨(SF.eqv HP.out.2.2.2.2).1 HSS.out.1, HBU.out, hall⟩
      clear hall hbr
      by_cases hri : Rsg o.m o.X
      case neg =>
        have HRN := calls_no (HRI wr HBR.out).out hri
        have HX : Hid (¬ PF p o) := fun hG => hri hG.2.1
        clear hri
        go_wp2_with (go_at_call 19; (with_reducible refine HRN.mono ?_); rintro e w5 ⟨rfl, hb5⟩)
        go_ret
        have h5 : Below wb.heap.size wb w5 := HBR.out.trans (hb5.mono HBR.out.size)
        exact ⟨127, rfl, .inr ⟨HX.out, rfl⟩, HP.out.2.2.2.1.trans (h5.mono HP.out.2.2.2.1.size)⟩
      have HRY := calls_yes (HRI wr HBR.out).out hri
      have HX : Hid (PF p o) := ⟨HALL.out.1, hri, HALL.out.2.1, HALL.out.2.2⟩
      clear hri
      go_wp2_with (go_at_call 19; (with_reducible refine HRY.mono ?_); rintro e w5 ⟨rfl, hb5⟩)
      go_ret
      have h5 : Below wb.heap.size wb w5 := HBR.out.trans (hb5.mono HBR.out.size)
      exact ⟨0, rfl, .inl ⟨HX.out, rfl⟩, HP.out.2.2.2.1.trans (h5.mono HP.out.2.2.2.1.size)⟩
end Go.Proofs.Ytbcnlnigenpiiaa
namespace Go.Proofs.Ytbcnlnigenpiiaa
open Go.ChangeShapes Go.WideShapes Go.ChangeAt Go.RowKit
set_option linter.unusedVariables false
set_option linter.unusedSimpArgs false

/-- what Open tells -/
def OpenOk (w w' : World) (p : Pl) (o : Pn) (e : Ending) : Prop := (∃ c, e = .returned (.tuple #[.pointer none, .int .i64 c]) ∧ c ≠ 0 ∧ (VC p c ∨ VC p 0 ∧ ¬ PF p o ∧ c = 127)) ∨ (VC p 0 ∧ PF p o ∧ ∃ sb, e = .returned (.tuple #[.pointer (some ⟨sb, 0, none⟩), .int .i64 0]) ∧ SimAt w' sb p o)
theorem VC.gt {p : Pl} (h : VC p 0) : GT p := by
  unfold VC at h
  rcases h with ⟨_, h⟩ | ⟨_, ⟨_, h⟩ | ⟨_, ⟨_, h⟩ | ⟨hT, _⟩⟩⟩
  · omega
  · omega
  · omega
  · exact hT
set_option maxRecDepth 100000 in
set_option maxHeartbeats 8000000 in
theorem open_any (p : Pl) (v : PlV) (o : Pn) (u : PnV) (hr : RoomyL p) (hn : RoomyN o) (w : World) (h : PlAt w p v) (ho : PnAt w o u) :
    Calls Try.prog 6 #[.agg #[.int .i64 p.ki, .slice v.pp p.np v.pc, .slice v.tp p.nq v.tc, .slice v.sp p.ns v.sc, .int .u64 p.sd, .int .u64 p.lk, .int .u64 p.en, .int .i64 p.bu, .int .i64 p.fu], .agg #[.slice u.q o.n u.c, .slice u.q2 o.m u.c2, .slice u.q3 o.l u.c3]] w fun e w' => OpenOk w w' p o e ∧ Below w.heap.size w w' := by
  obtain ⟨wb, hwb⟩ : ∃ wb, (w.alloc (.cells #[.int .i64 p.ki, .slice v.pp p.np v.pc, .slice v.tp p.nq v.tc, .slice v.sp p.ns v.sc, .int .u64 p.sd, .int .u64 p.lk, .int .u64 p.en, .int .i64 p.bu, .int .i64 p.fu] 27)).alloc (.cells #[.slice u.q o.n u.c, .slice u.q2 o.m u.c2, .slice u.q3 o.l u.c3] 31) = wb := ⟨_, rfl⟩
  have hb0 : Below w.heap.size w wb := by rw [← hwb]; exact ((Below.refl _ w).alloc (Nat.le_refl _) _).alloc (by simp) _
  have hbox : wb.heap[w.heap.size]? = some (.cells #[.int .i64 p.ki, .slice v.pp p.np v.pc, .slice v.tp p.nq v.tc, .slice v.sp p.ns v.sc, .int .u64 p.sd, .int .u64 p.lk, .int .u64 p.en, .int .i64 p.bu, .int .i64 p.fu] 27 (0, 0)) := by
    rw [← hwb, Below.heap_alloc _ _ _ (by simp)]
    exact World.alloc_heap_new w _
  have hbx2 : wb.heap[w.heap.size + 1]? = some (.cells #[.slice u.q o.n u.c, .slice u.q2 o.m u.c2, .slice u.q3 o.l u.c3] 31 (0, 0)) := by
    rw [← hwb]
    have := World.alloc_heap_new (w.alloc (.cells #[.int .i64 p.ki, .slice v.pp p.np v.pc, .slice v.tp p.nq v.tc, .slice v.sp p.ns v.sc, .int .u64 p.sd, .int .u64 p.lk, .int .u64 p.en, .int .i64 p.bu, .int .i64 p.fu] 27)) (.cells #[.slice u.q o.n u.c, .slice u.q2 o.m u.c2, .slice u.q3 o.l u.c3] 31)
    rwa [World.size_alloc] at this
  have HW : Hid ((w.alloc (.cells #[.int .i64 p.ki, .slice v.pp p.np v.pc, .slice v.tp p.nq v.tc, .slice v.sp p.ns v.sc, .int .u64 p.sd, .int .u64 p.lk, .int .u64 p.en, .int .i64 p.bu, .int .i64 p.fu] 27)).alloc (.cells #[.slice u.q o.n u.c, .slice u.q2 o.m u.c2, .slice u.q3 o.l u.c3] 31) = wb) := hwb
  have HP : Hid (PlAt wb p v ∧ PnAt wb o u ∧ Below w.heap.size w wb ∧ RoomyL p ∧ RoomyN o) := ⟨h.below hb0, ho.below hb0, hb0, hr, hn⟩
  have HBX : Hid (wb.heap[w.heap.size]? = some (.cells #[.int .i64 p.ki, .slice v.pp p.np v.pc, .slice v.tp p.nq v.tc, .slice v.sp p.ns v.sc, .int .u64 p.sd, .int .u64 p.lk, .int .u64 p.en, .int .i64 p.bu, .int .i64 p.fu] 27 (0, 0)) ∧ wb.heap[w.heap.size + 1]? = some (.cells #[.slice u.q o.n u.c, .slice u.q2 o.m u.c2, .slice u.q3 o.l u.c3] 31 (0, 0))) := ⟨hbox, hbx2⟩
  have HV := valid_any p v wb (h.below hb0)
  obtain ⟨⟨c0, c1, c2, c3⟩, c4, c5, c6, c7, c8⟩ := cells9 hbox
  rw [← hwb] at c0 c1 c2 c3 c4 c5 c6 c7 c8
  clear hwb h ho hb0 hbox hbx2 hn hr
  go_enter Try.func6, Try.ntmps6
  go_upto_region 2 with (go_at_call 15; rw [HW.out]; (with_reducible refine HV.mono ?_); rintro e w1 ⟨cd, rfl, hvc, hb1⟩)
  have H1 : Hid (VC p cd ∧ Below wb.heap.size wb w1) := ⟨hvc, hb1⟩
  clear hvc c0 c1 c2 c3 c4 c5 c6 c7 c8 HV
  by_cases hcd : cd = 0
  case neg =>
    have g0 : (cd == 0) = false := by simpa using hcd
    have HN : Hid (cd ≠ 0) := hcd
    clear hb1 hcd
    go_wp2_with fail
    go_ret2
    exact ⟨.inl ⟨cd, rfl, HN.out, .inl H1.out.1⟩, HP.out.2.2.1.trans (H1.out.2.mono HP.out.2.2.1.size)⟩
  subst hcd
  obtain ⟨⟨c0, c1, c2, c3⟩, c4, c5, c6, c7, c8⟩ := cells9 ((hb1.block _ (lt_of_block HBX.out.1)).trans HBX.out.1)
  obtain ⟨e0, e1, e2⟩ := cells3p ((hb1.block _ (lt_of_block HBX.out.2)).trans HBX.out.2)
  have HGT : Hid (GT p) := H1.out.1.gt
  have HF := pointFits_any p v o u HGT.out.1 HP.out.2.2.2.2 w1 (HP.out.1.below hb1) (HP.out.2.1.below hb1)
  clear hb1
  by_cases hpf : PF p o
  case neg =>
    have HFN := calls_no HF hpf
    have HN : Hid (¬ PF p o) := hpf
    clear hpf HF
    go_wp2_with (go_at_call 16; (with_reducible refine HFN.mono ?_); rintro e w2 ⟨rfl, hb2⟩)
    go_ret2
    have h12 : Below wb.heap.size wb w2 := H1.out.2.trans (hb2.mono H1.out.2.size)
    exact ⟨.inl ⟨127, rfl, by omega, .inr ⟨H1.out.1, HN.out, rfl⟩⟩, HP.out.2.2.1.trans (h12.mono HP.out.2.2.1.size)⟩
  have HFY := calls_yes HF hpf
  have HPF : Hid (PF p o) := hpf
  clear hpf HF
  go_wp2_with (first | (go_at_call 16; (with_reducible refine HFY.mono ?_); rintro e w2 ⟨rfl, hb2⟩; have h12 : Below wb.heap.size wb w2 := H1.out.2.trans (hb2.mono H1.out.2.size); clear c0 c1 c2 c3 c4 c5 c6 c7 c8 e0 e1 e2; obtain ⟨⟨c0, c1, c2, c3⟩, c4, c5, c6, c7, c8⟩ := cells9 ((h12.block _ (lt_of_block HBX.out.1)).trans HBX.out.1); obtain ⟨e0, e1, e2⟩ := cells3p ((h12.block _ (lt_of_block HBX.out.2)).trans HBX.out.2); have HGO := simOn_any p v o u w2 (HP.out.1.below h12) HP.out.2.2.2.1 HGT.out (HP.out.2.1.below h12) HP.out.2.2.2.2) | (go_at_call 17; (with_reducible refine HGO.mono ?_); rintro e w3 ⟨sb, rfl, hsb, hsim, hb3⟩))
  go_ret2
  have h13 : Below wb.heap.size wb w3 := h12.trans (hb3.mono h12.size)
  exact ⟨.inr ⟨H1.out.1, HPF.out, sb, rfl, hsim⟩, HP.out.2.2.1.trans (h13.mono HP.out.2.2.1.size)⟩
end Go.Proofs.Ytbcnlnigenpiiaa
namespace Go.Proofs.Ytbcnlnigenpiiaa
open Go.ChangeShapes Go.WideShapes Go.ChangeAt Go.RowKit
set_option linter.unusedVariables false
set_option linter.unusedSimpArgs false

set_option maxRecDepth 100000 in
set_option maxHeartbeats 4000000 in
/-- the same point, wherever its lists lie -/
theorem samePn_yes (o : Pn) (u v : PnV) (hr : RoomyN o) (w : World) (h1 : PnAt w o u) (h2 : PnAt w o v) :
    Calls Try.prog 8 #[.agg #[.slice u.q o.n u.c, .slice u.q2 o.m u.c2, .slice u.q3 o.l u.c3], .agg #[.slice v.q o.n v.c, .slice v.q2 o.m v.c2, .slice v.q3 o.l v.c3]] w fun e w' => e = .returned (.bool true) ∧ Below w.heap.size w w' := by
  obtain ⟨wb, hwb⟩ : ∃ wb, (w.alloc (.cells #[.slice u.q o.n u.c, .slice u.q2 o.m u.c2, .slice u.q3 o.l u.c3] 31)).alloc (.cells #[.slice v.q o.n v.c, .slice v.q2 o.m v.c2, .slice v.q3 o.l v.c3] 31) = wb := ⟨_, rfl⟩
  have hb0 : Below w.heap.size w wb := by rw [← hwb]; exact ((Below.refl _ w).alloc (Nat.le_refl _) _).alloc (by simp) _
  have hbox : wb.heap[w.heap.size]? = some (.cells #[.slice u.q o.n u.c, .slice u.q2 o.m u.c2, .slice u.q3 o.l u.c3] 31 (0, 0)) := by
    rw [← hwb, Below.heap_alloc _ _ _ (by simp)]
    exact World.alloc_heap_new w _
  have hbx2 : wb.heap[w.heap.size + 1]? = some (.cells #[.slice v.q o.n v.c, .slice v.q2 o.m v.c2, .slice v.q3 o.l v.c3] 31 (0, 0)) := by
    rw [← hwb]
    have := World.alloc_heap_new (w.alloc (.cells #[.slice u.q o.n u.c, .slice u.q2 o.m u.c2, .slice u.q3 o.l u.c3] 31)) (.cells #[.slice v.q o.n v.c, .slice v.q2 o.m v.c2, .slice v.q3 o.l v.c3] 31)
    rwa [World.size_alloc] at this
  have hsz : wb.heap.size = w.heap.size + 2 := by rw [← hwb]; simp
  have HW : Hid ((w.alloc (.cells #[.slice u.q o.n u.c, .slice u.q2 o.m u.c2, .slice u.q3 o.l u.c3] 31)).alloc (.cells #[.slice v.q o.n v.c, .slice v.q2 o.m v.c2, .slice v.q3 o.l v.c3] 31) = wb) := hwb
  obtain ⟨⟨C, hC, hS⟩, hX, hZ⟩ := h1.below hb0
  obtain ⟨⟨D, hD, hT⟩, hX', hZ'⟩ := h2.below hb0
  have H1 : ∀ w', Below wb.heap.size wb w' → Hid (Calls Try.prog 20 #[.slice u.q o.n u.c, .slice v.q o.n v.c] w' fun e w9 => e = .returned (.bool true) ∧ Below w'.heap.size w' w9) := fun w' hb => sameStates_yes o.n C D o.K _ _ _ _ (by have := hr.n; omega) (fun j hj => by rw [(hC j hj).1]; exact hr.w j hj) (fun j hj => ⟨(hD j hj).1.trans (hC j hj).1.symm, (hD j hj).2.1.trans (hC j hj).2.1.symm, (hD j hj).2.2.trans (hC j hj).2.2.symm⟩) w' (hS.below hb) (hT.below hb)
  have H2 : ∀ w', Below wb.heap.size wb w' → Hid (Calls Try.prog 21 #[.slice u.q2 o.m u.c2, .slice v.q2 o.m v.c2] w' fun e w9 => e = .returned (.bool true) ∧ Below w'.heap.size w' w9) := fun w' hb => sEvents_yes o.m o.X _ _ _ _ hr.m w' (hX.below hb) (hX'.below hb)
  have H3 : ∀ w', Below wb.heap.size wb w' → Hid (Calls Try.prog 21 #[.slice u.q3 o.l u.c3, .slice v.q3 o.l v.c3] w' fun e w9 => e = .returned (.bool true) ∧ Below w'.heap.size w' w9) := fun w' hb => sEvents_yes o.l o.Z _ _ _ _ hr.l w' (hZ.below hb) (hZ'.below hb)
  clear h1 h2 hr hC hS hX hZ hD hT hX' hZ'
  obtain ⟨c0, c1', c2'⟩ := cells3p hbox
  obtain ⟨e0, e1, e2⟩ := cells3p hbx2
  rw [← hwb] at c0 c1' c2' e0 e1 e2
  clear hwb
  go_enter Try.func8, Try.ntmps8
  go_wp2_with (first | (go_at_call 20; rw [HW.out]; (with_reducible refine (H1 wb (Below.refl _ _)).out.mono ?_); rintro e w1 ⟨rfl, hb1⟩; obtain ⟨c0, c1', c2'⟩ := cells3p ((hb1.block _ (by omega)).trans hbox); obtain ⟨e0, e1, e2⟩ := cells3p ((hb1.block _ (by omega)).trans hbx2)) | (go_at_call 21; (with_reducible refine (H2 w1 hb1).out.mono ?_); rintro e w2 ⟨rfl, hb2'⟩; have hb2 : Below wb.heap.size wb w2 := hb1.trans (hb2'.mono hb1.size); obtain ⟨c0, c1', c2'⟩ := cells3p ((hb2.block _ (by omega)).trans hbox); obtain ⟨e0, e1, e2⟩ := cells3p ((hb2.block _ (by omega)).trans hbx2)) | (go_at_call 21; (with_reducible refine (H3 w2 hb2).out.mono ?_); rintro e w3 ⟨rfl, hb3'⟩))
  go_ret
  have hb3 : Below wb.heap.size wb w3 := hb2.trans (hb3'.mono hb2.size)
  exact ⟨rfl, hb0.trans (hb3.mono hb0.size)⟩
end Go.Proofs.Ytbcnlnigenpiiaa
