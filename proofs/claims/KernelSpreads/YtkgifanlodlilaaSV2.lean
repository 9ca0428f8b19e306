import Derived.Test.YtkgifanlodlilaaSV1
namespace Go.Proofs.Ytkgifanlodlilaa
open Go.ChangeShapes Go.WideShapes Go.ChangeAt Go.RowKit
set_option linter.unusedVariables false
set_option linter.unusedSimpArgs false

set_option maxRecDepth 100000 in
set_option maxHeartbeats 1000000 in
theorem partsFit_any (p : Pl) (v : PlV) (w : World) (h : PlAt w p v) : Calls Try.prog 23 #[.agg #[.int .i64 p.ki, .slice v.pp p.np v.pc, .slice v.tp p.nq v.tc, .slice v.sp p.ns v.sc, .int .u64 p.sd, .int .u64 p.lk, .int .u64 p.en, .int .i64 p.bu, .int .i64 p.fu]] w fun e w' => ∃ b, e = .returned (.bool b) ∧ (b = true ↔ GT p) ∧ Below w.heap.size w w' := by
  obtain ⟨wb, hwb⟩ : ∃ wb, w.alloc (.cells #[.int .i64 p.ki, .slice v.pp p.np v.pc, .slice v.tp p.nq v.tc, .slice v.sp p.ns v.sc, .int .u64 p.sd, .int .u64 p.lk, .int .u64 p.en, .int .i64 p.bu, .int .i64 p.fu] 27) = wb := ⟨_, rfl⟩
  obtain ⟨hb0, hbox, hsz⟩ := boxed _ _ _ hwb
  have HW : Hid (w.alloc (.cells #[.int .i64 p.ki, .slice v.pp p.np v.pc, .slice v.tp p.nq v.tc, .slice v.sp p.ns v.sc, .int .u64 p.sd, .int .u64 p.lk, .int .u64 p.en, .int .i64 p.bu, .int .i64 p.fu] 27) = wb) := hwb
  have hP := h.below hb0
  have HP : Hid (PlAt wb p v) := hP
  clear h hP
  obtain ⟨⟨c0, c1, c2, c3⟩, c4, c5, c6, c7, c8⟩ := cells9 hbox
  rw [← hwb] at c0 c1 c2 c3 c4 c5 c6 c7 c8
  by_cases hlim : p.nq ≤ 64
  · have d0 : decide ((64 : Int) < (p.nq : Int)) = false := by simp; omega
    clear hwb
    go_enter Try.func23, Try.ntmps23
    go_wp2_with fail
    rw [HW.out]
    clear c0 c1 c2 c3 c4 c5 c6 c7 c8
    go_loopw [12] (fun x wr => ∃ i : Nat, x = .int .i64 (i : Int) ∧ i ≤ p.nq ∧ (∀ j, j < i → gt1 p j) ∧ Below wb.heap.size wb wr) (fun x _ => p.nq - (intOf x).toNat)
    case atStart => exact ⟨0, rfl, Nat.zero_le _, fun j hj => absurd hj (Nat.not_lt_zero _), Below.refl _ _⟩
    case round =>
      obtain ⟨i, rfl, hi, hall, hbr⟩ := hrel
      by_cases hlt : i < p.nq
      · have dlt : decide ((i : Int) < (p.nq : Int)) = true := by simp; omega
        have i0 : (0 : Int) ≤ (i : Int) := by omega
        have i1 : (i : Int) < (p.nq : Int) := by omega
        have ei : IntKind.i64.wrap ((i : Int) + 1) = (i : Int) + 1 := by rw [IntKind.wrap_i64]; omega
        have hm := meas hlt
        obtain hz | ⟨g, o, hpp, hl, hc, hpa⟩ := HP.out.ts.below hbr
        · omega
        obtain ⟨y0, y1⟩ := hc i hlt
        have hboxr := (hbr.block _ (by omega)).trans hbox
        have hba : Below wr.heap.size wr (wr.alloc (.cells #[.int .i64 (p.pr i), .slice (v.wp i) (p.nw i) (v.wc i)] 54)) := (Below.refl _ wr).alloc (Nat.le_refl _) _
        have hboxa := (hba.block _ (Array.getElem?_eq_some_iff.1 hboxr).1).trans hboxr
        obtain ⟨⟨c0, c1, _, _⟩, _⟩ := cells9 hboxa
        have HB : Hid (Below w.heap.size w (wr.alloc (.cells #[.int .i64 (p.pr i), .slice (v.wp i) (p.nw i) (v.wc i)] 54)) ∧ Below wb.heap.size wb (wr.alloc (.cells #[.int .i64 (p.pr i), .slice (v.wp i) (p.nw i) (v.wc i)] 54)) ∧ ∀ j, j < i → gt1 p j) := ⟨hb0.trans ((hbr.trans (hba.mono hbr.size)).mono hb0.size), hbr.trans (hba.mono hbr.size), hall⟩
        by_cases hin : 0 ≤ p.pr i ∧ p.pr i < (p.np : Int)
        · obtain ⟨q, hq⟩ : ∃ q : Nat, p.pr i = (q : Int) := ⟨(p.pr i).toNat, by omega⟩
          have HI := isIn_any (q : Int) (p.np : Int)
          rw [decide_eq_true (by omega)] at HI
          have q0 : (0 : Int) ≤ (q : Int) := by omega
          have q1 : (q : Int) < (p.np : Int) := by omega
          obtain hz | ⟨g2, o2, hpp2, hl2, hc2, _⟩ := (HP.out.ps.below hbr).below hba
          · omega
          have hqn : q < p.np := by omega
          have x0 := (hc2 q hqn).1
          have HG : Hid (gt1 p i ↔ (p.nw i : Int) = (p.P q).words) := by
            have e1 : (p.pr i).toNat = q := by omega
            have : gt1 p i ↔ (p.nw i : Int) = (p.P q).words := by
              unfold gt1
              rw [e1]
              exact ⟨fun h => h.2.2, fun h => ⟨hin.1, hin.2, h⟩⟩
            exact this
          rw [hpp]
          rw [hpp2] at c1
          rw [hq] at y0 c0 c1 x0 HB
          clear hc hc2 hpa hbr hba hboxr hboxa hall hl hl2 hin hq hpp hpp2
          by_cases hw : (p.nw i : Int) = (p.P q).words
          · have g0 : ((p.nw i : Int) == (p.P q).words) = true := by simpa using hw
            have HGY : Hid (gt1 p i) := HG.out.2 hw
            clear HG hw
            go_upto_region 6 with fail
            go_quiet ((go_at_call 33; refine Calls.quiet_of_same (HI _)))
            go_wp2_with fail
            refine ⟨⟨i + 1, rfl, hlt, fun j hj => ?_, HB.out.2.1.trans (below_drewNq _ _ _)⟩, hm⟩
            by_cases e : j < i
            · exact HB.out.2.2 j e
            · obtain rfl : j = i := by omega
              exact HGY.out
          · have g0 : ((p.nw i : Int) == (p.P q).words) = false := by simpa using hw
            have HGN : Hid (¬ gt1 p i) := fun h9 => hw (HG.out.1 h9)
            clear HG hw
            go_upto_region 6 with fail
            go_quiet ((go_at_call 33; refine Calls.quiet_of_same (HI _)))
            go_wp2_with fail
            go_ret
            exact ⟨false, rfl, ⟨fun e => (by cases e), fun hG => absurd (hG.2 i hlt) HGN.out⟩, HB.out.1.trans (below_drewNq _ _ _)⟩
        · have HI := isIn_any (p.pr i) (p.np : Int)
          rw [decide_eq_false hin] at HI
          have HGN : Hid (¬ gt1 p i) := fun h9 => hin ⟨h9.1, h9.2.1⟩
          rw [hpp]
          clear hc hpa hbr hba hboxr hboxa hall hl hin hpp
          go_upto_region 6 with fail
          go_quiet ((go_at_call 33; refine Calls.quiet_of_same (HI _)))
          go_wp2_with fail
          go_ret
          exact ⟨false, rfl, ⟨fun e => (by cases e), fun hG => absurd (hG.2 i hlt) HGN.out⟩, HB.out.1.trans (below_drewNq _ _ _)⟩
      · have dlt : decide ((i : Int) < (p.nq : Int)) = false := by simp; omega
        obtain rfl : i = p.nq := by omega
        go_wp2_with fail
        go_ret
        exact ⟨true, rfl, ⟨fun _ => ⟨hlim, hall⟩, fun _ => rfl⟩, hb0.trans (hbr.mono hb0.size)⟩
  · have d0 : decide ((64 : Int) < (p.nq : Int)) = true := by simp; omega
    clear hwb
    go_enter Try.func23, Try.ntmps23
    go_wp2_with fail
    go_ret
    rw [HW.out]
    exact ⟨false, rfl, ⟨fun e => (by cases e), fun hG => absurd hG.1 hlim⟩, hb0⟩
set_option maxRecDepth 100000 in
set_option maxHeartbeats 1000000 in
theorem startsFit_any (p : Pl) (v : PlV) (w : World) (h : PlAt w p v) : Calls Try.prog 24 #[.agg #[.int .i64 p.ki, .slice v.pp p.np v.pc, .slice v.tp p.nq v.tc, .slice v.sp p.ns v.sc, .int .u64 p.sd, .int .u64 p.lk, .int .u64 p.en, .int .i64 p.bu, .int .i64 p.fu]] w fun e w' => ∃ b, e = .returned (.bool b) ∧ (b = true ↔ GS p) ∧ Below w.heap.size w w' := by
  obtain ⟨wb, hwb⟩ : ∃ wb, w.alloc (.cells #[.int .i64 p.ki, .slice v.pp p.np v.pc, .slice v.tp p.nq v.tc, .slice v.sp p.ns v.sc, .int .u64 p.sd, .int .u64 p.lk, .int .u64 p.en, .int .i64 p.bu, .int .i64 p.fu] 27) = wb := ⟨_, rfl⟩
  obtain ⟨hb0, hbox, hsz⟩ := boxed _ _ _ hwb
  have HW : Hid (w.alloc (.cells #[.int .i64 p.ki, .slice v.pp p.np v.pc, .slice v.tp p.nq v.tc, .slice v.sp p.ns v.sc, .int .u64 p.sd, .int .u64 p.lk, .int .u64 p.en, .int .i64 p.bu, .int .i64 p.fu] 27) = wb) := hwb
  have hP := h.below hb0
  have HP : Hid (PlAt wb p v) := hP
  clear h hP
  obtain ⟨⟨c0, c1, c2, c3⟩, c4, c5, c6, c7, c8⟩ := cells9 hbox
  rw [← hwb] at c0 c1 c2 c3 c4 c5 c6 c7 c8
  by_cases hlim : p.ns ≤ 256
  · have d0 : decide ((256 : Int) < (p.ns : Int)) = false := by simp; omega
    clear hwb
    go_enter Try.func24, Try.ntmps24
    go_wp2_with fail
    rw [HW.out]
    clear c0 c1 c2 c3 c4 c5 c6 c7 c8
    go_loopw [12] (fun x wr => ∃ i : Nat, x = .int .i64 (i : Int) ∧ i ≤ p.ns ∧ (∀ j, j < i → gs1 p j) ∧ Below wb.heap.size wb wr) (fun x _ => p.ns - (intOf x).toNat)
    case atStart => exact ⟨0, rfl, Nat.zero_le _, fun j hj => absurd hj (Nat.not_lt_zero _), Below.refl _ _⟩
    case round =>
      obtain ⟨i, rfl, hi, hall, hbr⟩ := hrel
      by_cases hlt : i < p.ns
      · have dlt : decide ((i : Int) < (p.ns : Int)) = true := by simp; omega
        have i0 : (0 : Int) ≤ (i : Int) := by omega
        have i1 : (i : Int) < (p.ns : Int) := by omega
        have ei : IntKind.i64.wrap ((i : Int) + 1) = (i : Int) + 1 := by rw [IntKind.wrap_i64]; omega
        have hm := meas hlt
        obtain hz | ⟨g, o, hpp, hl, hc⟩ := HP.out.st.below hbr
        · omega
        obtain ⟨y0, y1, y2, y3⟩ := hc i hlt
        have hboxr := (hbr.block _ (by omega)).trans hbox
        have hba : Below wr.heap.size wr (wr.alloc (.cells #[.int .u64 (p.S i).t, .int .i64 (p.S i).d, .int .i64 (p.S i).k, .int .i64 (p.S i).v] 36)) := (Below.refl _ wr).alloc (Nat.le_refl _) _
        have hboxa := (hba.block _ (Array.getElem?_eq_some_iff.1 hboxr).1).trans hboxr
        obtain ⟨⟨c0, c1, c2, _⟩, _⟩ := cells9 hboxa
        have HB : Hid (Below w.heap.size w (wr.alloc (.cells #[.int .u64 (p.S i).t, .int .i64 (p.S i).d, .int .i64 (p.S i).k, .int .i64 (p.S i).v] 36)) ∧ Below wb.heap.size wb (wr.alloc (.cells #[.int .u64 (p.S i).t, .int .i64 (p.S i).d, .int .i64 (p.S i).k, .int .i64 (p.S i).v] 36)) ∧ ∀ j, j < i → gs1 p j) := ⟨hb0.trans ((hbr.trans (hba.mono hbr.size)).mono hb0.size), hbr.trans (hba.mono hbr.size), hall⟩
        have HI := isIn_any (p.S i).d (p.nq : Int)
        have HJ := isIn_any (p.S i).k p.ki
        rw [hpp]
        clear hc hbr hba hboxr hboxa hall hl hpp
        by_cases hin : 0 ≤ (p.S i).d ∧ (p.S i).d < (p.nq : Int)
        · rw [decide_eq_true hin] at HI
          by_cases hjn : 0 ≤ (p.S i).k ∧ (p.S i).k < p.ki
          · rw [decide_eq_true hjn] at HJ
            have HGY : Hid (gs1 p i) := ⟨hin, hjn⟩
            clear hin hjn
            go_wp2_with (go_at_call 33; first | ((with_reducible refine (HI _).mono ?_); rintro e w9 ⟨rfl, h9⟩; subst w9) | ((with_reducible refine (HJ _).mono ?_); rintro e w9 ⟨rfl, h9⟩; subst w9))
            refine ⟨⟨i + 1, rfl, hlt, fun j hj => ?_, HB.out.2.1⟩, hm⟩
            by_cases e : j < i
            · exact HB.out.2.2 j e
            · obtain rfl : j = i := by omega
              exact HGY.out
          · rw [decide_eq_false hjn] at HJ
            have HGN : Hid (¬ gs1 p i) := fun h9 => hjn h9.2
            clear hin hjn
            go_wp2_with (go_at_call 33; first | ((with_reducible refine (HI _).mono ?_); rintro e w9 ⟨rfl, h9⟩; subst w9) | ((with_reducible refine (HJ _).mono ?_); rintro e w9 ⟨rfl, h9⟩; subst w9))
            go_ret
            exact ⟨false, rfl, ⟨fun e => (by cases e), fun hG => absurd (hG.2 i hlt) HGN.out⟩, HB.out.1⟩
        · rw [decide_eq_false hin] at HI
          have HGN : Hid (¬ gs1 p i) := fun h9 => hin h9.1
          clear hin
          go_wp2_with (go_at_call 33; first | ((with_reducible refine (HI _).mono ?_); rintro e w9 ⟨rfl, h9⟩; subst w9) | ((with_reducible refine (HJ _).mono ?_); rintro e w9 ⟨rfl, h9⟩; subst w9))
          go_ret
          exact ⟨false, rfl, ⟨fun e => (by cases e), fun hG => absurd (hG.2 i hlt) HGN.out⟩, HB.out.1⟩
      · have dlt : decide ((i : Int) < (p.ns : Int)) = false := by simp; omega
        obtain rfl : i = p.ns := by omega
        go_wp2_with fail
        go_ret
        exact ⟨true, rfl, ⟨fun _ => ⟨hlim, hall⟩, fun _ => rfl⟩, hb0.trans (hbr.mono hb0.size)⟩
  · have d0 : decide ((256 : Int) < (p.ns : Int)) = true := by simp; omega
    clear hwb
    go_enter Try.func24, Try.ntmps24
    go_wp2_with fail
    go_ret
    rw [HW.out]
    exact ⟨false, rfl, ⟨fun e => (by cases e), fun hG => absurd hG.1 hlim⟩, hb0⟩
end Go.Proofs.Ytkgifanlodlilaa
