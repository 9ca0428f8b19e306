import Derived.Test.YtpicobmilcbmlaaKE1
import Derived.Test.YtpicobmilcbmlaaSV4
namespace Go.Proofs.Ytpicobmilcbmlaa
open Go.ChangeShapes Go.WideShapes Go.ChangeAt Go.RowKit
set_option linter.unusedVariables false
set_option linter.unusedSimpArgs false

set_option maxRecDepth 100000 in
set_option maxHeartbeats 4000000 in
theorem rlvalid_any (p : Pl) (v : PlV) (l : Ly) (u : LyV) (w : World) (h : PlAt w p v) (hO : KAt w u.op l.n l.O) : Calls Try.prog 21 #[.agg #[.int .i64 p.ki, .slice v.pp p.np v.pc, .slice v.tp p.nq v.tc, .slice v.sp p.ns v.sc, .int .u64 p.sd, .int .u64 p.lk, .int .u64 p.en, .int .i64 p.bu, .int .i64 p.fu], .agg #[.int .i64 l.wk, .slice u.op l.n u.oc, .int .i64 l.ar, .int .i64 l.bx, .int .i64 l.un]] w fun e w' => ∃ c, e = .returned (.int .i64 c) ∧ LC p l c ∧ Below w.heap.size w w' := by
  obtain ⟨wb, hwb, hb0, hbox, hbx2, hsz⟩ := boxed2 w #[.int .i64 p.ki, .slice v.pp p.np v.pc, .slice v.tp p.nq v.tc, .slice v.sp p.ns v.sc, .int .u64 p.sd, .int .u64 p.lk, .int .u64 p.en, .int .i64 p.bu, .int .i64 p.fu] #[.int .i64 l.wk, .slice u.op l.n u.oc, .int .i64 l.ar, .int .i64 l.bx, .int .i64 l.un] 43 46
  have HW : Hid ((w.alloc (.cells #[.int .i64 p.ki, .slice v.pp p.np v.pc, .slice v.tp p.nq v.tc, .slice v.sp p.ns v.sc, .int .u64 p.sd, .int .u64 p.lk, .int .u64 p.en, .int .i64 p.bu, .int .i64 p.fu] 43)).alloc (.cells #[.int .i64 l.wk, .slice u.op l.n u.oc, .int .i64 l.ar, .int .i64 l.bx, .int .i64 l.un] 46) = wb) := hwb
  have HSZ : Hid (wb.heap.size = w.heap.size + 2) := hsz
  obtain ⟨⟨c0, c1, c2, c3⟩, c4, c5, c6, c7, c8⟩ := cells9 hbox
  obtain ⟨d0, d1, d2, d3, d4⟩ := cells5p hbx2
  have hl1 := lt_of_block hbox
  have hl2 := lt_of_block hbx2
  have HV := rvalid_any p v wb (h.below hb0)
  have KK : ∀ w', Below wb.heap.size wb w' → Hid ((w'.cell? ⟨w.heap.size, 0, none⟩ = some (.int .i64 p.ki) ∧ w'.cell? ⟨w.heap.size, 1, none⟩ = some (.slice v.pp p.np v.pc) ∧ w'.cell? ⟨w.heap.size, 2, none⟩ = some (.slice v.tp p.nq v.tc) ∧ w'.cell? ⟨w.heap.size, 3, none⟩ = some (.slice v.sp p.ns v.sc) ∧ w'.cell? ⟨w.heap.size, 4, none⟩ = some (.int .u64 p.sd) ∧ w'.cell? ⟨w.heap.size, 5, none⟩ = some (.int .u64 p.lk) ∧ w'.cell? ⟨w.heap.size, 6, none⟩ = some (.int .u64 p.en) ∧ w'.cell? ⟨w.heap.size, 7, none⟩ = some (.int .i64 p.bu) ∧ w'.cell? ⟨w.heap.size, 8, none⟩ = some (.int .i64 p.fu)) ∧ (w'.cell? ⟨w.heap.size + 1, 0, none⟩ = some (.int .i64 l.wk) ∧ w'.cell? ⟨w.heap.size + 1, 1, none⟩ = some (.slice u.op l.n u.oc) ∧ w'.cell? ⟨w.heap.size + 1, 2, none⟩ = some (.int .i64 l.ar) ∧ w'.cell? ⟨w.heap.size + 1, 3, none⟩ = some (.int .i64 l.bx) ∧ w'.cell? ⟨w.heap.size + 1, 4, none⟩ = some (.int .i64 l.un))) := fun w' hb => by
    obtain ⟨⟨c0, c1, c2, c3⟩, c4, c5, c6, c7, c8⟩ := cells9 ((hb.block _ hl1).trans hbox)
    exact ⟨⟨c0, c1, c2, c3, c4, c5, c6, c7, c8⟩, cells5p ((hb.block _ hl2).trans hbx2)⟩
  have HP : Hid (PlAt wb p v ∧ KAt wb u.op l.n l.O) := ⟨h.below hb0, hO.below hb0⟩
  rw [← hwb] at c0 c1 c2 c3 c4 c5 c6 c7 c8 d0 d1 d2 d3 d4
  clear hwb h hO hsz hbox hbx2
  go_enter Try.func21, Try.ntmps21
  go_upto_region 2 with (go_at_call 29; rw [HW.out]; (with_reducible refine HV.mono ?_); rintro e w1 ⟨ce, rfl, hvc, hb1⟩)
  have HVC : Hid (VC p ce) := hvc
  clear c0 c1 c2 c3 c4 c5 c6 c7 c8 d0 d1 d2 d3 d4 hvc HV
  obtain ⟨⟨c0, c1, c2, c3, c4, c5, c6, c7, c8⟩, d0, d1, d2, d3, d4⟩ := (KK w1 hb1).out
  have HB1 : Hid (Below w.heap.size w w1) := hb0.trans (hb1.mono hb0.size)
  by_cases hz : ce = 0
  case neg =>
    have g0 : (ce != 0) = true := by simpa using hz
    have g1 : (ce == 0) = false := by simpa using hz
    go_wp2_with fail
    go_ret
    exact ⟨ce, rfl, ⟨ce, HVC.out, .inl ⟨hz, rfl⟩⟩, HB1.out⟩
  subst hz
  have HX : ∀ c, Hid (((l.wk < 1 ∨ 64 < l.wk) ∧ c = 100 ∨ ¬ (l.wk < 1 ∨ 64 < l.wk) ∧ (¬ GO p l ∧ c = 130 ∨ GO p l ∧ (¬ GA p l ∧ c = 131 ∨ GA p l ∧ ((l.bx < 1 ∨ 1024 < l.bx) ∧ c = 132 ∨ ¬ (l.bx < 1 ∨ 1024 < l.bx) ∧ ((l.un < 1 ∨ 4096 < l.un) ∧ c = 133 ∨ ¬ (l.un < 1 ∨ 4096 < l.un) ∧ c = 0))))) → LC p l c) := fun c h => ⟨0, HVC.out, .inr ⟨rfl, h⟩⟩
  by_cases hw1 : l.wk < 1
  case pos =>
    have k0 : decide (l.wk < 1) = true := by simp; omega
    go_wp2_with fail
    go_ret
    exact ⟨_, rfl, (HX 100).out (.inl ⟨.inl hw1, rfl⟩), HB1.out⟩
  have k0 : decide (l.wk < 1) = false := by simp; omega
  by_cases hw2 : 64 < l.wk
  case pos =>
    have k1 : decide ((64 : Int) < l.wk) = true := by simp; omega
    go_wp2_with fail
    go_ret
    exact ⟨_, rfl, (HX 100).out (.inl ⟨.inr hw2, rfl⟩), HB1.out⟩
  have k1 : decide ((64 : Int) < l.wk) = false := by simp; omega
  have hwk : ¬ (l.wk < 1 ∨ 64 < l.wk) := by omega
  have hwk2 : 1 ≤ l.wk ∧ l.wk ≤ 64 := by omega
  have HWK : Hid (¬ (l.wk < 1 ∨ 64 < l.wk) ∧ 1 ≤ l.wk ∧ l.wk ≤ 64) := ⟨hwk, hwk2⟩
  clear hwk hwk2 hw1 hw2
  by_cases hn : l.n = p.nq
  case neg =>
    have e0 : ((l.n : Int) != (p.nq : Int)) = true := by simp; omega
    have e1 : ((l.n : Int) == (p.nq : Int)) = false := by simp; omega
    go_wp2_with fail
    go_ret
    exact ⟨_, rfl, (HX 130).out (.inr ⟨HWK.out.1, .inl ⟨fun h => hn h.1, rfl⟩⟩), HB1.out⟩
  have e0 : ((l.n : Int) != (p.nq : Int)) = false := by simp; omega
  have e1 : ((l.n : Int) == (p.nq : Int)) = true := by simp; omega
  have HN : Hid (l.n = p.nq) := hn
  clear hn
  go_wp2_with fail
  clear c0 c1 c2 c3 c4 c5 c6 c7 c8 d0 d1 d2 d3 d4
  go_loopw [35] (fun x wr => ∃ i : Nat, x = .int .i64 (i : Int) ∧ i ≤ l.n ∧ (∀ j, j < i → go1 l j) ∧ wr = w1) (fun x _ => l.n - (intOf x).toNat)
  case atStart => exact ⟨0, rfl, Nat.zero_le _, fun j hj => absurd hj (Nat.not_lt_zero _), rfl⟩
  case round =>
    obtain ⟨i, rfl, hi, hall, hwr⟩ := hrel
    subst wr
    obtain ⟨⟨c0, c1, c2, c3, c4, c5, c6, c7, c8⟩, d0, d1, d2, d3, d4⟩ := (KK w1 hb1).out
    by_cases hlt : i < l.n
    case pos =>
      have dlt : decide ((i : Int) < (l.n : Int)) = true := by simp; omega
      have i0 : (0 : Int) ≤ (i : Int) := by omega
      have i1 : (i : Int) < (l.n : Int) := by omega
      have ei : IntKind.i64.wrap ((i : Int) + 1) = (i : Int) + 1 := by rw [IntKind.wrap_i64]; have := HN.out; have := (VC.fit HVC.out).1.2; omega
      have hm := meas hlt
      obtain hz | ⟨g, o, hpp, hl, hc⟩ := HP.out.2.below hb1
      · omega
      have x0 := hc i hlt
      rw [hpp] at d1 ⊢
      have HA : Hid (∀ j, j < i → go1 l j) := hall
      clear hc hall hl hpp
      by_cases h1 : l.O i < 0
      · have n0 : decide (l.O i < 0) = true := by simp; omega
        have HG : Hid (¬ go1 l i) := fun h9 => by have := h9.1; omega
        go_wp2_with fail
        go_ret
        exact ⟨_, rfl, (HX 130).out (.inr ⟨HWK.out.1, .inl ⟨fun hG => absurd (hG.2 i hlt) HG.out, rfl⟩⟩), HB1.out⟩
      · have n0 : decide (l.O i < 0) = false := by simp; omega
        by_cases h2 : l.wk ≤ l.O i
        · have n1 : decide (l.wk ≤ l.O i) = true := by simp; omega
          have HG : Hid (¬ go1 l i) := fun h9 => by have := h9.2; omega
          clear h1 h2
          go_wp2_with fail
          go_ret
          exact ⟨_, rfl, (HX 130).out (.inr ⟨HWK.out.1, .inl ⟨fun hG => absurd (hG.2 i hlt) HG.out, rfl⟩⟩), HB1.out⟩
        · have n1 : decide (l.wk ≤ l.O i) = false := by simp; omega
          have HG : Hid (go1 l i) := ⟨by omega, by omega⟩
          clear h1 h2
          go_wp2_with fail
          refine ⟨⟨i + 1, rfl, hlt, fun j hj => ?_, trivial⟩, hm⟩
          by_cases e : j < i
          · exact HA.out j e
          · obtain rfl : j = i := by omega
            exact HG.out
    have dlt : decide ((i : Int) < (l.n : Int)) = false := by simp; omega
    obtain rfl : i = l.n := by omega
    have HGO : Hid (GO p l) := ⟨HN.out, hall⟩
    clear hall
    by_cases ha1 : l.ar < 1
    case pos =>
      have a0 : decide (l.ar < 1) = true := by simp; omega
      have HNA : Hid (¬ GA p l) := fun h => by have := h.1.1; omega
      go_wp2_with fail
      go_ret
      exact ⟨_, rfl, (HX 131).out (.inr ⟨HWK.out.1, .inr ⟨HGO.out, .inl ⟨HNA.out, rfl⟩⟩⟩), HB1.out⟩
    have a0 : decide (l.ar < 1) = false := by simp; omega
    by_cases ha2 : 8192 < l.ar
    case pos =>
      have a1 : decide ((8192 : Int) < l.ar) = true := by simp; omega
      have HNA : Hid (¬ GA p l) := fun h => by have := h.1.2; omega
      go_wp2_with fail
      go_ret
      exact ⟨_, rfl, (HX 131).out (.inr ⟨HWK.out.1, .inr ⟨HGO.out, .inl ⟨HNA.out, rfl⟩⟩⟩), HB1.out⟩
    have a1 : decide ((8192 : Int) < l.ar) = false := by simp; omega
    have HAR : Hid (1 ≤ l.ar ∧ l.ar ≤ 8192) := ⟨by omega, by omega⟩
    clear ha1 ha2
    go_wp2_with fail
    clear c0 c1 c2 c3 c4 c5 c6 c7 c8 d0 d1 d2 d3 d4
    obtain ⟨kk, hkk⟩ : ∃ kk : Nat, l.wk = (kk : Int) := ⟨l.wk.toNat, by have := HWK.out.2.1; omega⟩
    have HK : Hid (l.wk = (kk : Int) ∧ kk ≤ 64) := ⟨hkk, by have := HWK.out.2.2; omega⟩
    clear hkk
    have HB1' : Hid (Below wb.heap.size wb w1) := hb1
    clear hb1
    go_loopw [8] (fun x wr => ∃ k : Nat, x = .int .i64 (k : Int) ∧ k ≤ kk ∧ (∀ j : Nat, j < k → (cO p l p.ns j : Int) ≤ l.ar) ∧ Below wb.heap.size wb wr) (fun x _ => kk - (intOf x).toNat)
    case atStart => exact ⟨0, rfl, Nat.zero_le _, fun j hj => absurd hj (Nat.not_lt_zero _), HB1'.out⟩
    case round =>
      obtain ⟨k, rfl, hkl, hka, hbr⟩ := hrel
      obtain ⟨wo, rfl⟩ : ∃ wo, wo = wr := ⟨_, rfl⟩
      obtain ⟨⟨c0, c1, c2, c3, c4, c5, c6, c7, c8⟩, d0, d1, d2, d3, d4⟩ := (KK wo hbr).out
      by_cases hlt : k < kk
      case pos =>
        have dlt : decide ((k : Int) < l.wk) = true := by have := HK.out.1; simp; omega
        have ek : IntKind.i64.wrap ((k : Int) + 1) = (k : Int) + 1 := by rw [IntKind.wrap_i64]; have := HK.out.2; omega
        have hm := meas hlt
        have HKA : Hid ((∀ j : Nat, j < k → (cO p l p.ns j : Int) ≤ l.ar) ∧ Below wb.heap.size wb wo) := ⟨hka, hbr⟩
        go_wp2_with fail
        clear c0 c1 c2 c3 c4 c5 c6 c7 c8 d0 d1 d2 d3 d4 hka hbr
        go_loopw [9, 65] (fun x y wr => ∃ i : Nat, x = .int .i64 (cO p l i k : Int) ∧ y = .int .i64 (i : Int) ∧ i ≤ p.ns ∧ Below wb.heap.size wb wr) (fun _ y _ => p.ns - (intOf y).toNat)
        case atStart => exact ⟨0, rfl, rfl, Nat.zero_le _, HKA.out.2⟩
        case round =>
          obtain ⟨i, rfl, rfl, hi2, hbr⟩ := hrel
          by_cases hlt2 : i < p.ns
          case pos =>
            have dlt2 : decide ((i : Int) < (p.ns : Int)) = true := by simp; omega
            have i0 : (0 : Int) ≤ (i : Int) := by omega
            have i1 : (i : Int) < (p.ns : Int) := by omega
            have ei : IntKind.i64.wrap ((i : Int) + 1) = (i : Int) + 1 := by rw [IntKind.wrap_i64]; have := (VC.fit HVC.out).1.1.1; omega
            have hm2 := meas hlt2
            obtain hz | ⟨g2, o2, hpp, hl, hc⟩ := HP.out.1.st.below hbr
            · omega
            obtain ⟨y0, y1, y2, y3⟩ := hc i hlt2
            obtain ⟨hgs, _⟩ := (VC.fit HVC.out).1.1.2 i hlt2
            have hgo := HGO.out
            obtain ⟨dn, hdn⟩ : ∃ dn : Nat, (p.S i).d = (dn : Int) := ⟨(p.S i).d.toNat, by omega⟩
            have hdq : dn < l.n := by have := hgo.1; omega
            rw [hdn] at y1
            obtain ⟨wa, hwa⟩ : ∃ wa, wr.alloc (.cells #[.int .u64 (p.S i).t, .int .i64 (dn : Int), .int .i64 (p.S i).k, .int .i64 (p.S i).v] 91) = wa := ⟨_, rfl⟩
            obtain ⟨hba, hsb, hsz2⟩ := boxed _ _ _ hwa
            have hbw : Below wb.heap.size wb wa := hbr.trans (hba.mono hbr.size)
            obtain ⟨⟨c0, c1, c2, c3, c4, c5, c6, c7, c8⟩, d0, d1, d2, d3, d4⟩ := (KK wa hbw).out
            obtain hz | ⟨g3, o3, hpp3, hl3, hc3⟩ := (HP.out.2.below hbr).below hba
            · omega
            have z0 := hc3 dn hdq
            have HB : Hid (Below wb.heap.size wb wa) := hbw
            have j0 : (0 : Int) ≤ (dn : Int) := by omega
            have j1 : (dn : Int) < (l.n : Int) := by omega
            obtain ⟨e0, e1, e2, e3⟩ := cells4k hsb
            have hcl := cO_le p l i k
            have hst : cO p l (i + 1) k = cO p l i k + (if l.O dn = (k : Int) then 1 else 0) := by
              show cO p l i k + (if l.O (p.S i).d.toNat = (k : Int) then 1 else 0) = _
              rw [hdn, Int.toNat_natCast]
            have ec : IntKind.i64.wrap ((cO p l i k : Int) + 1) = (cO p l i k : Int) + 1 := by rw [IntKind.wrap_i64]; have := (VC.fit HVC.out).1.1.1; omega
            rw [hpp] at c3 ⊢
            rw [hpp3] at d1
            rw [← hwa] at c0 c1 c2 c3 c4 c5 c6 c7 c8 d0 d1 d2 d3 d4 z0 HB e0 e1 e2 e3
            obtain ⟨ca, hca⟩ : ∃ ca : Nat, cO p l i k = ca := ⟨_, rfl⟩
            obtain ⟨cb, hcb⟩ : ∃ cb : Nat, cO p l (i + 1) k = cb := ⟨_, rfl⟩
            rw [hca, hcb] at hst
            rw [hca] at ec ⊢
            have HCB : Hid (cO p l (i + 1) k = cb) := hcb
            obtain ⟨ow, how⟩ : ∃ ow, l.O dn = ow := ⟨_, rfl⟩
            rw [how] at z0 hst
            clear hc hc3 hl hl3 hpp hpp3 hgs hgo hwa hba hsb hsz2 hbw hbr hdn hcl hca hcb how
            by_cases he : ow = (k : Int)
            · have q0 : (ow == (k : Int)) = true := by simpa using he
              rw [if_pos he] at hst
              clear he
              have HST : Hid (cb = ca + 1) := hst
              clear hst
              go_wp2_with fail
              refine ⟨⟨i + 1, ?_, rfl, hlt2, HB.out⟩, hm2⟩
              rw [HCB.out, HST.out]
              rfl
            · have q0 : (ow == (k : Int)) = false := by simpa using he
              rw [if_neg he] at hst
              clear he
              have HST : Hid (cb = ca + 0) := hst
              clear hst
              go_wp2_with fail
              refine ⟨⟨i + 1, ?_, rfl, hlt2, HB.out⟩, hm2⟩
              rw [HCB.out, HST.out]
              rfl
          have dlt2 : decide ((i : Int) < (p.ns : Int)) = false := by simp; omega
          obtain rfl : i = p.ns := by omega
          obtain ⟨⟨c0, c1, c2, c3, c4, c5, c6, c7, c8⟩, d0, d1, d2, d3, d4⟩ := (KK wr hbr).out
          obtain ⟨ca, hca⟩ : ∃ ca : Nat, cO p l p.ns k = ca := ⟨_, rfl⟩
          rw [hca]
          have HCA : Hid (cO p l p.ns k = ca) := hca
          clear hca
          by_cases hgt : l.ar < (ca : Int)
          · have q0 : decide (l.ar < (ca : Int)) = true := by simp; omega
            have HNA : Hid (¬ GA p l) := fun h => by have := h.2 k (by have := HK.out.1; omega); rw [HCA.out] at this; omega
            clear hgt
            go_wp2_with fail
            go_ret
            exact ⟨_, rfl, (HX 131).out (.inr ⟨HWK.out.1, .inr ⟨HGO.out, .inl ⟨HNA.out, rfl⟩⟩⟩), hb0.trans (hbr.mono hb0.size)⟩
          · have q0 : decide (l.ar < (ca : Int)) = false := by simp; omega
            have HLE : Hid ((ca : Int) ≤ l.ar) := by show (ca : Int) ≤ l.ar; omega
            clear hgt
            go_wp2_with fail
            refine ⟨⟨k + 1, rfl, hlt, fun j hj => ?_, hbr⟩, hm⟩
            by_cases e : j < k
            · exact HKA.out.1 j e
            · obtain rfl : j = k := by omega
              rw [HCA.out]
              exact HLE.out
      have dlt : decide ((k : Int) < l.wk) = false := by have := HK.out.1; simp; omega
      obtain rfl : k = kk := by omega
      have HGA : Hid (GA p l) := ⟨HAR.out, fun j hj => hka j (by have := HK.out.1; omega)⟩
      have HB3 : Hid (Below w.heap.size w wo) := hb0.trans (hbr.mono hb0.size)
      clear hka hbr
      by_cases hx1 : l.bx < 1
      case pos =>
        have x0 : decide (l.bx < 1) = true := by simp; omega
        go_wp2_with fail
        go_ret
        exact ⟨_, rfl, (HX 132).out (.inr ⟨HWK.out.1, .inr ⟨HGO.out, .inr ⟨HGA.out, .inl ⟨.inl hx1, rfl⟩⟩⟩⟩), HB3.out⟩
      have x0 : decide (l.bx < 1) = false := by simp; omega
      by_cases hx2 : 1024 < l.bx
      case pos =>
        have x1 : decide ((1024 : Int) < l.bx) = true := by simp; omega
        go_wp2_with fail
        go_ret
        exact ⟨_, rfl, (HX 132).out (.inr ⟨HWK.out.1, .inr ⟨HGO.out, .inr ⟨HGA.out, .inl ⟨.inr hx2, rfl⟩⟩⟩⟩), HB3.out⟩
      have x1 : decide ((1024 : Int) < l.bx) = false := by simp; omega
      by_cases hy1 : l.un < 1
      case pos =>
        have y0 : decide (l.un < 1) = true := by simp; omega
        go_wp2_with fail
        go_ret
        exact ⟨_, rfl, (HX 133).out (.inr ⟨HWK.out.1, .inr ⟨HGO.out, .inr ⟨HGA.out, .inr ⟨by omega, .inl ⟨.inl hy1, rfl⟩⟩⟩⟩⟩), HB3.out⟩
      have y0 : decide (l.un < 1) = false := by simp; omega
      by_cases hy2 : 4096 < l.un
      case pos =>
        have y1 : decide ((4096 : Int) < l.un) = true := by simp; omega
        go_wp2_with fail
        go_ret
        exact ⟨_, rfl, (HX 133).out (.inr ⟨HWK.out.1, .inr ⟨HGO.out, .inr ⟨HGA.out, .inr ⟨by omega, .inl ⟨.inr hy2, rfl⟩⟩⟩⟩⟩), HB3.out⟩
      have y1 : decide ((4096 : Int) < l.un) = false := by simp; omega
      go_wp2_with fail
      go_ret
      exact ⟨_, rfl, (HX 0).out (.inr ⟨HWK.out.1, .inr ⟨HGO.out, .inr ⟨HGA.out, .inr ⟨by omega, .inr ⟨by omega, rfl⟩⟩⟩⟩⟩), HB3.out⟩
end Go.Proofs.Ytpicobmilcbmlaa
