import Derived.Test.YtkgifanlodlilaaSV2
import Derived.Test.YtkgifanlodlilaaV15
namespace Go.Proofs.Ytkgifanlodlilaa
open Go.ChangeShapes Go.WideShapes Go.ChangeAt Go.RowKit
set_option linter.unusedVariables false
set_option linter.unusedSimpArgs false

set_option maxRecDepth 100000 in
set_option maxHeartbeats 8000000 in
theorem rvalid_any (p : Pl) (v : PlV) (w : World) (h : PlAt w p v) : Calls Try.prog 6 #[.agg #[.int .i64 p.ki, .slice v.pp p.np v.pc, .slice v.tp p.nq v.tc, .slice v.sp p.ns v.sc, .int .u64 p.sd, .int .u64 p.lk, .int .u64 p.en, .int .i64 p.bu, .int .i64 p.fu]] w fun e w' => ∃ c, e = .returned (.int .i64 c) ∧ VC p c ∧ Below w.heap.size w w' := by
  obtain ⟨wb, hwb⟩ : ∃ wb, w.alloc (.cells #[.int .i64 p.ki, .slice v.pp p.np v.pc, .slice v.tp p.nq v.tc, .slice v.sp p.ns v.sc, .int .u64 p.sd, .int .u64 p.lk, .int .u64 p.en, .int .i64 p.bu, .int .i64 p.fu] 27) = wb := ⟨_, rfl⟩
  obtain ⟨hb0, hbox, hsz⟩ := boxed _ _ _ hwb
  have HW : Hid (w.alloc (.cells #[.int .i64 p.ki, .slice v.pp p.np v.pc, .slice v.tp p.nq v.tc, .slice v.sp p.ns v.sc, .int .u64 p.sd, .int .u64 p.lk, .int .u64 p.en, .int .i64 p.bu, .int .i64 p.fu] 27) = wb) := hwb
  have HP : Hid (PlAt wb p v) := h.below hb0
  clear h
  obtain ⟨⟨c0, c1, c2, c3⟩, c4, c5, c6, c7, c8⟩ := cells9 hbox
  rw [← hwb] at c0 c1 c2 c3 c4 c5 c6 c7 c8
  clear hwb
  by_cases hki : p.ki < 0 ∨ 32 < p.ki
  · by_cases hk0 : p.ki < 0
    · have k0 : decide (p.ki < 0) = true := by simp; omega
      go_enter Try.func6, Try.ntmps6
      go_wp2_with fail
      go_ret
      exact ⟨_, rfl, .inl ⟨hki, rfl⟩, by rw [HW.out]; exact hb0⟩
    · have k0 : decide (p.ki < 0) = false := by simp; omega
      have k1 : decide ((32 : Int) < p.ki) = true := by simp; omega
      go_enter Try.func6, Try.ntmps6
      go_wp2_with fail
      go_ret
      exact ⟨_, rfl, .inl ⟨hki, rfl⟩, by rw [HW.out]; exact hb0⟩
  have k0 : decide (p.ki < 0) = false := by simp; omega
  have k1 : decide ((32 : Int) < p.ki) = false := by simp; omega
  by_cases hn16 : p.np ≤ 16
  case neg =>
    have d0 : decide ((16 : Int) < (p.np : Int)) = true := by simp; omega
    go_enter Try.func6, Try.ntmps6
    go_wp2_with fail
    go_ret
    exact ⟨_, rfl, .inr ⟨hki, .inl ⟨fun hG => hn16 hG.1, rfl⟩⟩, by rw [HW.out]; exact hb0⟩
  have d0 : decide ((16 : Int) < (p.np : Int)) = false := by simp; omega
  go_enter Try.func6, Try.ntmps6
  go_wp2_with fail
  rw [HW.out]
  clear c0 c1 c2 c3 c4 c5 c6 c7 c8
  go_loopw [3] (fun x wr => ∃ i : Nat, x = .int .i64 (i : Int) ∧ i ≤ p.np ∧ (∀ j, j < i → dcode (p.P j) p.ki = 0) ∧ Below wb.heap.size wb wr) (fun x _ => p.np - (intOf x).toNat)
  case atStart => exact ⟨0, rfl, Nat.zero_le _, fun j hj => absurd hj (Nat.not_lt_zero _), Below.refl _ _⟩
  case round =>
    obtain ⟨i, rfl, hi, hall, hbr⟩ := hrel
    have hboxr := (hbr.block _ (by omega)).trans hbox
    obtain ⟨⟨c0, c1, c2, c3⟩, c4, c5, c6, c7, c8⟩ := cells9 hboxr
    by_cases hlt : i < p.np
    case pos =>
      have dlt : decide ((i : Int) < (p.np : Int)) = true := by simp; omega
      have i0 : (0 : Int) ≤ (i : Int) := by omega
      have i1 : (i : Int) < (p.np : Int) := by omega
      have ei : IntKind.i64.wrap ((i : Int) + 1) = (i : Int) + 1 := by rw [IntKind.wrap_i64]; omega
      have hm := meas hlt
      obtain hz | ⟨g, o, hpp, hl, hc, hpa⟩ := HP.out.ps.below hbr
      · omega
      obtain ⟨x0, x1, x2, x3⟩ := hc i hlt
      obtain ⟨cd, hcd⟩ : ∃ cd, dcode (p.P i) p.ki = cd := ⟨_, rfl⟩
      have HS : ∀ w', Below wr.heap.size wr w' → Hid (Calls Try.prog 15 #[.agg #[.int .i64 (p.P i).words, .int .i64 (p.P i).locals, .slice (v.V i).cp (p.P i).n (v.V i).cc, .slice (v.V i).ep (p.P i).m (v.V i).ec], .int .i64 p.ki] w' fun e w9 => e = .returned (.int .i64 cd) ∧ Below wr.heap.size wr w9) := fun w' hb => by
        refine (rverify_any (p.P i) (v.V i) p.ki w' ((hpa i hlt).below hb)).mono ?_
        rintro e w9 ⟨h1, h2⟩
        exact ⟨by rw [h1, hcd], hb.trans (h2.mono hb.size)⟩
      have HA : Hid ((∀ j, j < i → dcode (p.P j) p.ki = 0) ∧ Below wb.heap.size wb wr ∧ dcode (p.P i) p.ki = cd) := ⟨hall, hbr, hcd⟩
      rw [hpp] at c1
      clear hcd hc hpa hall hbr hboxr hl hpp
      by_cases hz : cd = 0
      · subst hz
        go_upto_region 8 with fail
        go_region_with (go_at_call 15; (with_reducible refine ((HS _ (Below.drew (Below.refl _ wr))).out).mono ?_); rintro e w1 ⟨rfl, hb1⟩)
        all_goals (try go_wp2_with fail)
        all_goals (refine ⟨⟨i + 1, rfl, hlt, fun j hj => ?_, HA.out.2.1.trans (hb1.mono HA.out.2.1.size)⟩, hm⟩; exact (if e : j < i then HA.out.1 j e else (show j = i by omega) ▸ HA.out.2.2))
      · have g0 : (cd == 0) = false := by simpa using hz
        have HGN : Hid (¬ GP p) := fun hG => hz (HA.out.2.2.symm.trans (hG.2 i hlt))
        clear hz
        go_upto_region 8 with fail
        go_region_with (go_at_call 15; (with_reducible refine ((HS _ (Below.drew (Below.refl _ wr))).out).mono ?_); rintro e w1 ⟨rfl, hb1⟩)
        all_goals (try go_wp2_with fail)
        all_goals (go_ret; exact ⟨_, rfl, .inr ⟨hki, .inl ⟨HGN.out, rfl⟩⟩, hb0.trans ((HA.out.2.1.trans (hb1.mono HA.out.2.1.size)).mono hb0.size)⟩)
    have dlt : decide ((i : Int) < (p.np : Int)) = false := by simp; omega
    obtain rfl : i = p.np := by omega
    have HGP : Hid (GP p) := ⟨hn16, hall⟩
    clear hall
    by_cases hn64 : p.nq ≤ 64
    case neg =>
      have e0 : decide ((64 : Int) < (p.nq : Int)) = true := by simp; omega
      go_wp2_with fail
      go_ret
      exact ⟨_, rfl, .inr ⟨hki, .inr ⟨HGP.out, .inl ⟨fun hG => hn64 hG.1, rfl⟩⟩⟩, hb0.trans (hbr.mono hb0.size)⟩
    have e0 : decide ((64 : Int) < (p.nq : Int)) = false := by simp; omega
    go_wp2_with fail
    clear c0 c1 c2 c3 c4 c5 c6 c7 c8 hboxr
    have HB1 : Hid (Below wb.heap.size wb wr) := hbr
    clear hbr
    go_loopw [5] (fun x wr => ∃ i : Nat, x = .int .i64 (i : Int) ∧ i ≤ p.nq ∧ (∀ j, j < i → gt1 p j) ∧ Below wb.heap.size wb wr) (fun x _ => p.nq - (intOf x).toNat)
    case atStart => exact ⟨0, rfl, Nat.zero_le _, fun j hj => absurd hj (Nat.not_lt_zero _), HB1.out⟩
    case round =>
      obtain ⟨i, rfl, hi, hall, hbr⟩ := hrel
      have hboxr := (hbr.block _ (by omega)).trans hbox
      obtain ⟨⟨c0, c1, c2, c3⟩, c4, c5, c6, c7, c8⟩ := cells9 hboxr
      by_cases hlt : i < p.nq
      case pos =>
        have dlt : decide ((i : Int) < (p.nq : Int)) = true := by simp; omega
        have i0 : (0 : Int) ≤ (i : Int) := by omega
        have i1 : (i : Int) < (p.nq : Int) := by omega
        have ei : IntKind.i64.wrap ((i : Int) + 1) = (i : Int) + 1 := by rw [IntKind.wrap_i64]; omega
        have hm := meas hlt
        obtain hz | ⟨g, o, hpp, hl, hc, hpa⟩ := HP.out.ts.below hbr
        · omega
        obtain ⟨y0, y1⟩ := hc i hlt
        have hba : Below wr.heap.size wr (wr.alloc (.cells #[.int .i64 (p.pr i), .slice (v.wp i) (p.nw i) (v.wc i)] 54)) := (Below.refl _ wr).alloc (Nat.le_refl _) _
        have hboxa := (hba.block _ (Array.getElem?_eq_some_iff.1 hboxr).1).trans hboxr
        obtain ⟨⟨a0, a1, a2, a3⟩, _⟩ := cells9 hboxa
        have HB : Hid (Below w.heap.size w (wr.alloc (.cells #[.int .i64 (p.pr i), .slice (v.wp i) (p.nw i) (v.wc i)] 54)) ∧ Below wb.heap.size wb (wr.alloc (.cells #[.int .i64 (p.pr i), .slice (v.wp i) (p.nw i) (v.wc i)] 54)) ∧ ∀ j, j < i → gt1 p j) := ⟨hb0.trans ((hbr.trans (hba.mono hbr.size)).mono hb0.size), hbr.trans (hba.mono hbr.size), hall⟩
        rw [hpp] at c2 a2
        by_cases hneg : p.pr i < 0
        case pos =>
          have n0 : decide (p.pr i < 0) = true := by simp; omega
          have HGN : Hid (¬ gt1 p i) := fun h9 => by have := h9.1; omega
          clear hc hpa hbr hba hboxr hboxa hall hl hpp
          go_upto_region 17 with fail
          go_quiet (fail)
          go_wp2_with fail
          go_ret
          exact ⟨_, rfl, .inr ⟨hki, .inr ⟨HGP.out, .inl ⟨fun hG => HGN.out (hG.2 i hlt), rfl⟩⟩⟩, HB.out.1.trans (below_drewNq _ _ _)⟩
        have n0 : decide (p.pr i < 0) = false := by simp; omega
        by_cases hbig : (p.np : Int) ≤ p.pr i
        case pos =>
          have n1 : decide ((p.np : Int) ≤ p.pr i) = true := by simp; omega
          have HGN : Hid (¬ gt1 p i) := fun h9 => by have := h9.2.1; omega
          clear hc hpa hbr hba hboxr hboxa hall hl hpp
          go_upto_region 17 with fail
          go_quiet (fail)
          go_wp2_with fail
          go_ret
          exact ⟨_, rfl, .inr ⟨hki, .inr ⟨HGP.out, .inl ⟨fun hG => HGN.out (hG.2 i hlt), rfl⟩⟩⟩, HB.out.1.trans (below_drewNq _ _ _)⟩
        obtain ⟨q, hq⟩ : ∃ q : Nat, p.pr i = (q : Int) := ⟨(p.pr i).toNat, by omega⟩
        have n1 : decide ((p.np : Int) ≤ (q : Int)) = false := by simp; omega
        have n2 : decide (p.np ≤ q) = false := by simp; omega
        have q0 : (0 : Int) ≤ (q : Int) := by omega
        have q1 : (q : Int) < (p.np : Int) := by omega
        obtain hz | ⟨g2, o2, hpp2, hl2, hc2, _⟩ := (HP.out.ps.below hbr).below hba
        · omega
        have hqn : q < p.np := by omega
        have x0 := (hc2 q hqn).1
        have HG : Hid (gt1 p i ↔ (p.nw i : Int) = (p.P q).words) := by
          have e1 : (p.pr i).toNat = q := by omega
          have : gt1 p i ↔ (p.nw i : Int) = (p.P q).words := by
            unfold gt1
            rw [e1]
            exact ⟨fun h => h.2.2, fun h => ⟨by omega, by omega, h⟩⟩
          exact this
        rw [hpp2] at a1 c1
        rw [hq] at y0 a0 a1 a2 a3 x0 HB n0
        clear hc hc2 hpa hbr hba hboxr hboxa hall hl hl2 hneg hbig hq hpp hpp2
        by_cases hw : (p.nw i : Int) = (p.P q).words
        case pos =>
          have g0 : ((p.nw i : Int) == (p.P q).words) = true := by simpa using hw
          have g1 : ((p.nw i : Int) != (p.P q).words) = false := by simp [hw]
          have HGY : Hid (gt1 p i) := HG.out.2 hw
          clear HG hw
          go_upto_region 17 with fail
          go_quiet (fail)
          go_wp2_with fail
          refine ⟨⟨i + 1, rfl, hlt, fun j hj => ?_, HB.out.2.1.trans (below_drewNq _ _ _)⟩, hm⟩
          by_cases e : j < i
          · exact HB.out.2.2 j e
          · obtain rfl : j = i := by omega
            exact HGY.out
        have g0 : ((p.nw i : Int) == (p.P q).words) = false := by simpa using hw
        have g1 : ((p.nw i : Int) != (p.P q).words) = true := by simp [hw]
        have HGN : Hid (¬ gt1 p i) := fun h9 => hw (HG.out.1 h9)
        clear HG hw
        go_upto_region 17 with fail
        go_quiet (fail)
        go_wp2_with fail
        go_ret
        exact ⟨_, rfl, .inr ⟨hki, .inr ⟨HGP.out, .inl ⟨fun hG => HGN.out (hG.2 i hlt), rfl⟩⟩⟩, HB.out.1.trans (below_drewNq _ _ _)⟩
      have dlt : decide ((i : Int) < (p.nq : Int)) = false := by simp; omega
      obtain rfl : i = p.nq := by omega
      have HGT : Hid (GT p) := ⟨hn64, hall⟩
      clear hall
      by_cases hn256 : p.ns ≤ 256
      case neg =>
        have s0 : decide ((256 : Int) < (p.ns : Int)) = true := by simp; omega
        go_wp2_with fail
        go_ret
        exact ⟨_, rfl, .inr ⟨hki, .inr ⟨HGP.out, .inr ⟨HGT.out, .inl ⟨fun hG => hn256 hG.1, rfl⟩⟩⟩⟩, hb0.trans (hbr.mono hb0.size)⟩
      have s0 : decide ((256 : Int) < (p.ns : Int)) = false := by simp; omega
      go_wp2_with fail
      clear c0 c1 c2 c3 c4 c5 c6 c7 c8 hboxr
      have HB2 : Hid (Below wb.heap.size wb wr) := hbr
      clear hbr
      go_loopw [7] (fun x wr => ∃ i : Nat, x = .int .i64 (i : Int) ∧ i ≤ p.ns ∧ (∀ j, j < i → gs1 p j) ∧ Below wb.heap.size wb wr) (fun x _ => p.ns - (intOf x).toNat)
      case atStart => exact ⟨0, rfl, Nat.zero_le _, fun j hj => absurd hj (Nat.not_lt_zero _), HB2.out⟩
      case round =>
        obtain ⟨i, rfl, hi, hall, hbr⟩ := hrel
        have hboxr := (hbr.block _ (by omega)).trans hbox
        obtain ⟨⟨c0, c1, c2, c3⟩, c4, c5, c6, c7, c8⟩ := cells9 hboxr
        by_cases hlt : i < p.ns
        case pos =>
          have dlt : decide ((i : Int) < (p.ns : Int)) = true := by simp; omega
          have i0 : (0 : Int) ≤ (i : Int) := by omega
          have i1 : (i : Int) < (p.ns : Int) := by omega
          have ei : IntKind.i64.wrap ((i : Int) + 1) = (i : Int) + 1 := by rw [IntKind.wrap_i64]; omega
          have hm := meas hlt
          obtain hz | ⟨g, o, hpp, hl, hc⟩ := HP.out.st.below hbr
          · omega
          obtain ⟨y0, y1, y2, y3⟩ := hc i hlt
          have hba : Below wr.heap.size wr (wr.alloc (.cells #[.int .u64 (p.S i).t, .int .i64 (p.S i).d, .int .i64 (p.S i).k, .int .i64 (p.S i).v] 36)) := (Below.refl _ wr).alloc (Nat.le_refl _) _
          have hboxa := (hba.block _ (Array.getElem?_eq_some_iff.1 hboxr).1).trans hboxr
          obtain ⟨⟨a0, a1, a2, a3⟩, _⟩ := cells9 hboxa
          have HB : Hid (Below w.heap.size w (wr.alloc (.cells #[.int .u64 (p.S i).t, .int .i64 (p.S i).d, .int .i64 (p.S i).k, .int .i64 (p.S i).v] 36)) ∧ Below wb.heap.size wb (wr.alloc (.cells #[.int .u64 (p.S i).t, .int .i64 (p.S i).d, .int .i64 (p.S i).k, .int .i64 (p.S i).v] 36)) ∧ ∀ j, j < i → gs1 p j) := ⟨hb0.trans ((hbr.trans (hba.mono hbr.size)).mono hb0.size), hbr.trans (hba.mono hbr.size), hall⟩
          rw [hpp] at c3 a3
          clear hc hbr hba hboxr hboxa hall hl hpp
          by_cases hz0 : (p.S i).d < 0
          case pos =>
            have z0 : decide ((p.S i).d < 0) = true := by simp; omega
            have HGN : Hid (¬ gs1 p i) := fun h9 => by have := h9.1.1; omega
            clear hz0
            go_wp2_with fail
            go_ret
            exact ⟨_, rfl, .inr ⟨hki, .inr ⟨HGP.out, .inr ⟨HGT.out, .inl ⟨fun hG => HGN.out (hG.2 i hlt), rfl⟩⟩⟩⟩, HB.out.1⟩
          have z0 : decide ((p.S i).d < 0) = false := by simp; omega
          by_cases hz1 : (p.nq : Int) ≤ (p.S i).d
          case pos =>
            have z1 : decide ((p.nq : Int) ≤ (p.S i).d) = true := by simp; omega
            have HGN : Hid (¬ gs1 p i) := fun h9 => by have := h9.1.2; omega
            clear hz1
            go_wp2_with fail
            go_ret
            exact ⟨_, rfl, .inr ⟨hki, .inr ⟨HGP.out, .inr ⟨HGT.out, .inl ⟨fun hG => HGN.out (hG.2 i hlt), rfl⟩⟩⟩⟩, HB.out.1⟩
          have z1 : decide ((p.nq : Int) ≤ (p.S i).d) = false := by simp; omega
          by_cases hz2 : (p.S i).k < 0
          case pos =>
            have z2 : decide ((p.S i).k < 0) = true := by simp; omega
            have HGN : Hid (¬ gs1 p i) := fun h9 => by have := h9.2.1; omega
            clear hz2
            go_wp2_with fail
            go_ret
            exact ⟨_, rfl, .inr ⟨hki, .inr ⟨HGP.out, .inr ⟨HGT.out, .inl ⟨fun hG => HGN.out (hG.2 i hlt), rfl⟩⟩⟩⟩, HB.out.1⟩
          have z2 : decide ((p.S i).k < 0) = false := by simp; omega
          by_cases hz3 : p.ki ≤ (p.S i).k
          case pos =>
            have z3 : decide (p.ki ≤ (p.S i).k) = true := by simp; omega
            have HGN : Hid (¬ gs1 p i) := fun h9 => by have := h9.2.2; omega
            clear hz3
            go_wp2_with fail
            go_ret
            exact ⟨_, rfl, .inr ⟨hki, .inr ⟨HGP.out, .inr ⟨HGT.out, .inl ⟨fun hG => HGN.out (hG.2 i hlt), rfl⟩⟩⟩⟩, HB.out.1⟩
          have z3 : decide (p.ki ≤ (p.S i).k) = false := by simp; omega
          have HGY : Hid (gs1 p i) := ⟨⟨by omega, by omega⟩, by omega, by omega⟩
          clear hz0 hz1 hz2 hz3
          go_wp2_with fail
          refine ⟨⟨i + 1, rfl, hlt, fun j hj => ?_, HB.out.2.1⟩, hm⟩
          by_cases e : j < i
          · exact HB.out.2.2 j e
          · obtain rfl : j = i := by omega
            exact HGY.out
        have dlt : decide ((i : Int) < (p.ns : Int)) = false := by simp; omega
        obtain rfl : i = p.ns := by omega
        have HGS : Hid (GS p) := ⟨hn256, hall⟩
        have HBF : Hid (Below w.heap.size w wr) := hb0.trans (hbr.mono hb0.size)
        clear hall hboxr hbr
        by_cases hlk : p.lk = 0
        case pos =>
          have l0 : (p.lk == 0) = true := by simpa using hlk
          have HLK : Hid (p.lk = 0) := hlk
          clear hlk
          go_wp2_with fail
          go_ret
          exact ⟨_, rfl, .inr ⟨hki, .inr ⟨HGP.out, .inr ⟨HGT.out, .inr ⟨HGS.out, .inl ⟨HLK.out, rfl⟩⟩⟩⟩⟩, HBF.out⟩
        have l0 : (p.lk == 0) = false := by simpa using hlk
        by_cases hbu : p.bu < 0 ∨ 4096 < p.bu
        case pos =>
          by_cases hb9 : p.bu < 0
          · have b0 : decide (p.bu < 0) = true := by simp; omega
            go_wp2_with fail
            go_ret
            exact ⟨_, rfl, .inr ⟨hki, .inr ⟨HGP.out, .inr ⟨HGT.out, .inr ⟨HGS.out, .inr ⟨hlk, .inl ⟨hbu, rfl⟩⟩⟩⟩⟩⟩, HBF.out⟩
          · have b0 : decide (p.bu < 0) = false := by simp; omega
            have b1 : decide ((4096 : Int) < p.bu) = true := by simp; omega
            go_wp2_with fail
            go_ret
            exact ⟨_, rfl, .inr ⟨hki, .inr ⟨HGP.out, .inr ⟨HGT.out, .inr ⟨HGS.out, .inr ⟨hlk, .inl ⟨hbu, rfl⟩⟩⟩⟩⟩⟩, HBF.out⟩
        have b0 : decide (p.bu < 0) = false := by simp; omega
        have b1 : decide ((4096 : Int) < p.bu) = false := by simp; omega
        by_cases hfu : p.fu < 1 ∨ 4096 < p.fu
        case pos =>
          by_cases hf9 : p.fu < 1
          · have f0 : decide (p.fu < 1) = true := by simp; omega
            go_wp2_with fail
            go_ret
            exact ⟨_, rfl, .inr ⟨hki, .inr ⟨HGP.out, .inr ⟨HGT.out, .inr ⟨HGS.out, .inr ⟨hlk, .inr ⟨hbu, .inl ⟨hfu, rfl⟩⟩⟩⟩⟩⟩⟩, HBF.out⟩
          · have f0 : decide (p.fu < 1) = false := by simp; omega
            have f1 : decide ((4096 : Int) < p.fu) = true := by simp; omega
            go_wp2_with fail
            go_ret
            exact ⟨_, rfl, .inr ⟨hki, .inr ⟨HGP.out, .inr ⟨HGT.out, .inr ⟨HGS.out, .inr ⟨hlk, .inr ⟨hbu, .inl ⟨hfu, rfl⟩⟩⟩⟩⟩⟩⟩, HBF.out⟩
        have f0 : decide (p.fu < 1) = false := by simp; omega
        have f1 : decide ((4096 : Int) < p.fu) = false := by simp; omega
        go_wp2_with fail
        go_ret
        exact ⟨_, rfl, .inr ⟨hki, .inr ⟨HGP.out, .inr ⟨HGT.out, .inr ⟨HGS.out, .inr ⟨hlk, .inr ⟨hbu, .inr ⟨hfu, rfl⟩⟩⟩⟩⟩⟩⟩, HBF.out⟩
end Go.Proofs.Ytkgifanlodlilaa
