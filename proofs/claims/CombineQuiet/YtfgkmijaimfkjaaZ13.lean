import Derived.Test.YtfgkmijaimfkjaaZ12
namespace Go.Proofs.Ytfgkmijaimfkjaa
open Go.ChangeShapes Go.WideShapes Go.ChangeAt Go.RowKit
set_option linter.unusedVariables false
set_option linter.unusedSimpArgs false

theorem ns_cell {wr Wp w7 : World} {wb cb : Nat} {kd x v : Int} {T : TypeId} (hc : Ch (S2 wb cb) Wp w7) (hp : Wp.heap[wr.heap.size]? = some (.cells #[.int .i64 kd, .int .i64 x, .int .i64 v] T (0, 0))) (h1 : wb < wr.heap.size) (h2 : cb < wr.heap.size) : w7.cell? ⟨wr.heap.size, 1, none⟩ = some (.int .i64 x) := by
  have h3 := hc.block _ (lt_of_block hp) (fun e => by rcases e with e | e <;> omega)
  unfold World.cell?
  rw [h3, hp]
  rfl
set_option maxRecDepth 100000 in
set_option maxHeartbeats 4000000 in
theorem quiet_good (n : Nat) (h1 : 1 ≤ n) (h2 : n ≤ 64) (p : Option Addr) (m c : Nat) (X : Nat → NsV) (W : World) (hk : NsIn W p m X) (hm : m ≤ 10000000000000) : Calls Try.prog 3 #[.int .i64 (n : Int), .slice p m c] W fun e W' => e = .returned (.bool true) ∧ Below W.heap.size W W' := by
  have HB := znewB_any n h1 h2 W
  have d1 : decide ((n : Int) < 1) = false := by simp; omega
  have d2 : decide (64 < (n : Int)) = false := by simp; omega
  have nn : ((n : Int) != (n : Int)) = false := by simp
  have HKK : Hid (NsIn W p m X) := hk
  obtain ⟨iC, hC1, hC2, hC3, hC4⟩ := binfo infoCL
  have rC : ∀ w : World, (Instr.makeSlice 27 (.int .i64 (n : Int)) (.int .i64 (n : Int))).run Try.prog w = .ok (.slice (some ⟨w.heap.size, 0, none⟩) n n) (w.alloc (.cells (zA (.agg #[.bool false, .bool false]) n 2) 35)) := run_make_eq _ _ iC _ 2 Try.underlying27 hC1 hC2 hC3 n (by rw [hC4]; omega) (by omega)
  have eN : IntKind.i64.wrap ((n : Int) - 1) = ((n - 1 : Nat) : Int) := by rw [IntKind.wrap_i64]; omega
  have HN1 : Hid (1 ≤ n ∧ n ≤ 64) := ⟨h1, h2⟩
  clear hC1 hC2 hC3 hC4 hk h1 h2
  obtain ⟨q1, hq1⟩ : ∃ q, decide (1 < (n : Int)) = q := ⟨_, rfl⟩
  obtain ⟨q2, hq2⟩ : ∃ q, ((n : Int) == 1) = q := ⟨_, rfl⟩
  have qq : (q2 != q2) = false := by simp
  obtain ⟨n1, hn1⟩ : ∃ n1, n - 1 = n1 := ⟨_, rfl⟩
  have HQ : Hid (decide (1 < n) = q1 ∧ decide (n = 1) = q2) := ⟨by rw [← hq1]; simp; omega, by rw [← hq2]; by_cases e : n = 1 <;> simp [e]; omega⟩
  rw [hn1] at eN
  have HNN : Hid (n - 1 = n1) := hn1
  clear hn1
  go_enter Try.func3, Try.ntmps3
  go_upto_region 6 with (go_at_call 9; (with_reducible refine HB.mono ?_); rintro e w1 ⟨pb, hb, wb, cb, rfl, hz, hbl⟩; have HZ : Hid (BZ W.heap.size pb hb wb cb n Nt.new w1 ∧ Below W.heap.size W w1) := ⟨hz, hbl⟩; clear hz hbl)
  go_cut [7] (fun l wc => ∃ g, l = .slice (some ⟨g, 0, none⟩) n n ∧ BZ W.heap.size pb hb wb cb n Nt.new wc ∧ CList wc W.heap.size g n (fun _ => false) (fun _ => false) ∧ Below W.heap.size W wc)
  case first =>
    go_wp2_with fail
    go_meet
    have o1 := own_new w1 35 (.agg #[.bool false, .bool false]) n 2 (by have := HN1.out.2; unfold maxLen; omega)
    have b1 : Below w1.heap.size w1 (w1.alloc (.cells (zA (.agg #[.bool false, .bool false]) n 2) 35)) := (Below.refl _ w1).alloc (Nat.le_refl _) _
    refine ⟨_, rfl, HZ.out.1.later b1, ?_, HZ.out.2.trans (b1.mono HZ.out.2.size)⟩
    exact Own.lower (o1.congr fun j hj => by
      rw [made2 _ _ _ hj]
      unfold flC
      split <;> rfl) HZ.out.2.size
  case rest =>
    obtain ⟨g, rfl, hz, hcl, hbl⟩ := hcut
    clear HZ HB rC
    have pc := hz.cell
    have HC1 := zcells_any HN1.out.2 wc hz.net
    have HZ : Hid (BZ W.heap.size pb hb wb cb n Nt.new wc ∧ CList wc W.heap.size g n (fun _ => false) (fun _ => false) ∧ Below W.heap.size W wc) := ⟨hz, hcl, hbl⟩
    clear hz hcl hbl
    go_upto_region 9 with (first | (go_at_call 11; (with_reducible refine HC1.mono ?_); rintro e w2 ⟨g2, rfl, hcl2, hb2⟩; have HSC := sameC_yes HN1.out.2 w2 hcl2 (HZ.out.2.1.below hb2); have HB2 : Hid (Below wc.heap.size wc w2) := hb2; clear hcl2 hb2) | (go_at_call 10; (with_reducible refine HSC.mono ?_); rintro e w3 ⟨rfl, hb3⟩; have HB3 : Hid (Below w2.heap.size w2 w3) := hb3; clear hb3))
    have hz3 := (HZ.out.1.later HB2.out).later HB3.out
    have hc3 := (HZ.out.2.1.below HB2.out).below HB3.out
    have hb3 : Below W.heap.size W w3 := (HZ.out.2.2.trans (HB2.out.mono HZ.out.2.2.size)).trans (HB3.out.mono (Nat.le_trans HZ.out.2.2.size HB2.out.size))
    have HZ3 : Hid (BZ W.heap.size pb hb wb cb n Nt.new w3 ∧ CList w3 W.heap.size g n (fun _ => false) (fun _ => false) ∧ Below W.heap.size W w3) := ⟨hz3, hc3, hb3⟩
    have i0 : (0 : Int) ≤ (n1 : Int) := by omega
    have i1 : (n1 : Int) < (n : Int) := by have := HNN.out; have := HN1.out.1; omega
    have y0 := (hc3.cells (k := n1) (by omega)).1
    have y1 := (hc3.cells (k := n1) (by omega)).2
    have yf := own_frozen hc3
    have yl := (Own.lt hc3 g rfl).2
    clear HZ HC1 HSC HB2 HB3 hz3 hc3 hb3 pc
    go_cut [] (fun wc => BZ W.heap.size pb hb wb cb n Nt.new wc ∧ CList wc W.heap.size g n (upF (fun _ => false) n1 q1) (upF (fun _ => false) n1 q2) ∧ Below W.heap.size W wc)
    case first =>
      go_wp2_with fail
      go_meet
      have hc : Ch (fun b => b = g) w3 ((w3.setCell ⟨g, n1 * 2, none⟩ (.bool q1)).setCell ⟨g, n1 * 2 + 1, none⟩ (.bool q2)) := (Ch.set (fun b => b = g) _ _ _ _ rfl).trans (Ch.set (fun b => b = g) _ _ _ _ rfl)
      obtain ⟨hz3, hc3, hb3⟩ := HZ3.out
      obtain ⟨cu, hcu, _⟩ := Own.block hc3
      obtain ⟨c1, hr1, _⟩ := hz3.net.row.block
      obtain ⟨c2, hr2, _⟩ := hz3.net.cel.block
      have a1 : hb ≠ g := typ_ne hz3.net.box hcu (by decide)
      have a2 : wb ≠ g := typ_ne hr1 hcu (by decide)
      have a3 : cb ≠ g := typ_ne hr2 hcu (by decide)
      have a4 : pb ≠ g := typ_ne hz3.box hcu (by decide)
      refine ⟨⟨hz3.net.keep hc a1 a2 a3, (hc.block _ (lt_of_block hz3.box) a4).trans hz3.box, hz3.bs⟩, ?_, hb3.trans (hc.toBelow hb3.size fun k e => by rw [e]; exact (Own.lt hc3 g rfl).1)⟩
      have := CList.put (k := n1) (U' := upF (fun _ => false) n1 q1) (D' := upF (fun _ => false) n1 q2) hc3 (fun i hi => upF_ne _ _ hi) (fun i hi => upF_ne _ _ hi)
      simpa [upF_at] using this
    case rest =>
      obtain ⟨hz, hcl, hbl⟩ := hcut
      clear HZ3 y0 y1 yf yl
      have HWT := zwait_any JZ (n1 : Int) HN1.out.2 (N := Nt.new) (fun _ _ => Nat.zero_le _) (fun _ _ => by show 0 < _; decide) wc hz
      obtain ⟨f0, f1, f2, f3⟩ := first_wai n HN1.out.1
      rw [HQ.out.1, HNN.out] at f2
      rw [HQ.out.2, HNN.out] at f1 f3
      rw [HNN.out] at f0
      rw [f0, f1] at HWT
      have hsm : Sm (waiN JZ n Nt.new (n1 : Int)) (0 + 1) := Sm.wai ⟨fun _ => Nat.zero_le _, fun _ => Nat.le_refl _⟩ _
      generalize waiN JZ n Nt.new (n1 : Int) = N1 at *
      have HZ : Hid (BZ W.heap.size pb hb wb cb n Nt.new wc ∧ CList wc W.heap.size g n N1.up N1.dn ∧ Below W.heap.size W wc ∧ Sm N1 (0 + 1)) := ⟨hz, by rw [f2, f3]; exact hcl, hbl, hsm⟩
      clear hz hcl hbl f0 f1 f2 f3 hsm
      go_wp2_with (first | (go_at_call 12; (with_reducible refine HWT.mono ?_); rintro e w4 ⟨rfl, hzc⟩; have hbz := HZ.out.1.step hzc; have hcl4 := HZ.out.2.1.ch (N' := N1) HZ.out.1 hzc.2; have HC4 := zcells_any HN1.out.2 w4 hbz.net; have pc4 := hbz.cell; have HZ4 : Hid (QI W pb hb wb cb g n 0 N1 w4) := ⟨hbz, hcl4, HZ.out.2.2.2, HZ.out.2.2.1.trans (hzc.2.toBelow HZ.out.2.2.1.size fun i e => by have := hbz.net.bl; rcases e with e | e <;> omega)⟩; clear hzc hbz hcl4) | (go_at_call 11; (with_reducible refine HC4.mono ?_); rintro e w5 ⟨g5, rfl, hcl5, hb5⟩; have HSC := sameC_yes HN1.out.2 w5 hcl5 (HZ4.out.cl.below hb5); have HB5 : Hid (Below w4.heap.size w4 w5) := hb5; clear hcl5 hb5) | (go_at_call 10; (with_reducible refine HSC.mono ?_); rintro e w6 ⟨rfl, hb6⟩; have HB6 : Hid (Below w5.heap.size w5 w6) := hb6; clear hb6))
      have HI0 : Hid (QI W pb hb wb cb g n 0 N1 w6) := (HZ4.out.later HB5.out).later HB6.out
      clear HZ4 HZ HB5 HB6 HSC HC4 HWT pc4
      go_loopw [7, 85] (fun l x wr => ∃ (k g : Nat) (N : Nt), x = .int .i64 (k : Int) ∧ k ≤ m ∧ l = .slice (some ⟨g, 0, none⟩) n n ∧ QI W pb hb wb cb g n k N wr) (fun _ x _ => m - (intOf x).toNat)
      case atStart => exact ⟨0, g, N1, rfl, Nat.zero_le _, rfl, HI0.out⟩
      case round =>
        obtain ⟨k, g, N, rfl, hkm, rfl, hI⟩ := hrel
        clear HI0
        by_cases hlt : k < m
        · have dl : decide ((k : Int) < (m : Int)) = true := by simp; omega
          have hmm := meas hlt
          have k0 : (0 : Int) ≤ (k : Int) := by omega
          have k1 : (k : Int) < (m : Int) := by omega
          have ek : IntKind.i64.wrap ((k : Int) + 1) = (k : Int) + 1 := by rw [IntKind.wrap_i64]; omega
          rcases HKK.out with h0 | ⟨b, o, rfl, hbl, hck⟩
          · omega
          have kc0 : wr.cell? ⟨b, o + k * 3, none⟩ = some (.int .i64 (X k).k) := (hI.bl.cell hbl).trans (hck k 0 hlt (by decide))
          have kc1 : wr.cell? ⟨b, o + k * 3 + 1, none⟩ = some (.int .i64 (X k).x) := (hI.bl.cell hbl).trans (hck k 1 hlt (by decide))
          have kc2 : wr.cell? ⟨b, o + k * 3 + 2, none⟩ = some (.int .i64 (X k).v) := (hI.bl.cell hbl).trans (hck k 2 hlt (by decide))
          generalize (X k).k = kd at *
          generalize (X k).x = x at *
          generalize (X k).v = v at *
          have HI : Hid (QI W pb hb wb cb g n k N wr) := hI
          have HBL : Hid (b < wr.heap.size) := Nat.lt_of_lt_of_le hbl hI.bl.size
          clear hI hck hbl
          have pc := HI.out.bz.cell
          have pl := lt_of_block HI.out.bz.box
          go_upto_block 2 with fail
          go_cut [11] (fun mv wc => mv = .int .i64 (qmv kd x) ∧ QJ W pb hb wb cb g n k N (qop n N kd x) wc)
          case first =>
            have HB1 : Hid (Below wr.heap.size wr (wr.alloc (.cells #[.int .i64 kd, .int .i64 x, .int .i64 v] 39))) := (Below.refl _ wr).alloc (Nat.le_refl _) _
            have HSM : Hid (Sm (qop n N kd x) (k + 1 + 1)) := HI.out.sm.op kd x
            have HPR : Hid ((∀ w, w < n → N.pl w ≤ 5) ∧ ∀ w, w < n → N.rd w < 1000000000000000000) := ⟨fun w _ => HI.out.sm.p w, fun w _ => by have := HI.out.sm.r w; omega⟩
            have HQI : Hid (∀ W', Below wr.heap.size wr W' → QI W pb hb wb cb g n k N W') := fun W' h' => HI.out.later h'
            have HLT : Hid (wb < wr.heap.size ∧ cb < wr.heap.size) := ⟨HI.out.bz.net.lt.2.1, HI.out.bz.net.lt.2.2⟩
            clear kc0 kc1 kc2 HBL
            by_cases a0 : kd = 0
            · subst a0
              have HC := fun W' h' => zenter_any x W' (HQI.out W' h').bz.net
              go_wp2_with fail
              go_region_with (go_at_call 13; (with_reducible refine (HC _ ?_).mono ?_); (first | exact HB1.out | exact HB1.out.trans ((drewB _).mono HB1.out.size) | exact HB1.out.trans ((below_drewNq _ _ _).mono HB1.out.size)); rintro e w7 ⟨rfl, hz7⟩; have HZ7 : Hid (_ ∧ True) := ⟨hz7, trivial⟩; clear hz7)
              all_goals (
                go_wp2_with fail
                go_meet
                exact ⟨rfl, (HQI.out _ (by first | exact HB1.out | exact HB1.out.trans ((drewB _).mono HB1.out.size) | exact HB1.out.trans ((below_drewNq _ _ _).mono HB1.out.size))).step HZ7.out.1 HSM.out⟩)
            · have b0 : (kd == 0) = false := by simpa using a0
              by_cases a1 : kd = 1
              · subst a1
                have HC := fun W' h' => zStep_any JZ x HN1.out.2 HPR.out.1 HPR.out.2 W' (HQI.out W' h').bz.net
                go_wp2_with fail
                go_region_with (go_at_call 14; (with_reducible refine (HC _ ?_).mono ?_); (first | exact HB1.out | exact HB1.out.trans ((drewB _).mono HB1.out.size) | exact HB1.out.trans ((below_drewNq _ _ _).mono HB1.out.size)); rintro e w7 ⟨rfl, hz7⟩; have HZ7 : Hid (_ ∧ True) := ⟨hz7, trivial⟩; have oc := ns_cell (x := x) hz7.2 (World.alloc_heap_new wr _) HLT.out.1 HLT.out.2; clear hz7)
                all_goals (
                  go_wp2_with fail
                  go_meet
                  exact ⟨rfl, (HQI.out _ (by first | exact HB1.out | exact HB1.out.trans ((drewB _).mono HB1.out.size) | exact HB1.out.trans ((below_drewNq _ _ _).mono HB1.out.size))).step HZ7.out.1 HSM.out⟩)
              · have b1 : (kd == 1) = false := by simpa using a1
                by_cases a6 : kd = 6
                · subst a6
                  have HC := fun W' h' => zwait_any JZ x HN1.out.2 HPR.out.1 HPR.out.2 W' (HQI.out W' h').bz
                  go_wp2_with (go_at_call 12; (with_reducible refine (HC _ ?_).mono ?_); (first | exact HB1.out | exact HB1.out.trans ((drewB _).mono HB1.out.size) | exact HB1.out.trans ((below_drewNq _ _ _).mono HB1.out.size)); rintro e w7 ⟨rfl, hz7⟩; have HZ7 : Hid (_ ∧ True) := ⟨hz7, trivial⟩; have oc := ns_cell (x := x) hz7.2 (World.alloc_heap_new wr _) HLT.out.1 HLT.out.2; clear hz7)
                  go_meet
                  exact ⟨rfl, (HQI.out _ (by first | exact HB1.out | exact HB1.out.trans ((drewB _).mono HB1.out.size) | exact HB1.out.trans ((below_drewNq _ _ _).mono HB1.out.size))).step HZ7.out.1 HSM.out⟩
                · have b6 : (kd == 6) = false := by simpa using a6
                  have hqo : qop n N kd x = N := by unfold qop; rw [if_neg a0, if_neg a1, if_neg a6]
                  have hqm : qmv kd x = -1 := by unfold qmv; rw [if_neg (by omega)]
                  have HQ0 : Hid (qmv kd x = -1 ∧ qop n N kd x = N) := ⟨hqm, hqo⟩
                  clear HSM hqo hqm
                  by_cases a2 : kd = 2
                  · subst a2
                    have HC := fun W' h' => zvalue_any x W' (HQI.out W' h').bz.net
                    go_wp2_with fail
                    go_region_with (go_at_call 15; (with_reducible refine (HC _ ?_).mono ?_); (first | exact HB1.out | exact HB1.out.trans ((drewB _).mono HB1.out.size) | exact HB1.out.trans ((below_drewNq _ _ _).mono HB1.out.size)); rintro e w7 ⟨rfl, hz7⟩; have HZ7 : Hid (_ ∧ True) := ⟨hz7, trivial⟩; clear hz7)
                    all_goals (
                      go_wp2_with fail
                      go_meet
                      exact ⟨by rw [HQ0.out.1], by rw [HQ0.out.2]; exact ((HQI.out _ (by first | exact HB1.out | exact HB1.out.trans ((drewB _).mono HB1.out.size) | exact HB1.out.trans ((below_drewNq _ _ _).mono HB1.out.size))).later HZ7.out.1).same⟩)
                  · have b2 : (kd == 2) = false := by simpa using a2
                    by_cases a3 : kd = 3
                    · subst a3
                      have HC := fun W' h' => zrounds_any x W' (HQI.out W' h').bz.net
                      obtain ⟨rv, hrv⟩ : ∃ rv : Int, (if inN n x = true then (N.rd x.toNat : Int) else 0) = rv := ⟨_, rfl⟩
                      rw [hrv] at HC
                      clear hrv
                      go_wp2_with fail
                      go_region_with (go_at_call 16; (with_reducible refine (HC _ ?_).mono ?_); (first | exact HB1.out | exact HB1.out.trans ((drewB _).mono HB1.out.size) | exact HB1.out.trans ((below_drewNq _ _ _).mono HB1.out.size)); rintro e w7 ⟨rfl, h9⟩; subst h9)
                      all_goals (
                        go_wp2_with fail
                        go_meet
                        exact ⟨by rw [HQ0.out.1], by rw [HQ0.out.2]; exact (HQI.out _ (by first | exact HB1.out | exact HB1.out.trans ((drewB _).mono HB1.out.size) | exact HB1.out.trans ((below_drewNq _ _ _).mono HB1.out.size))).same⟩)
                    · have b3 : (kd == 3) = false := by simpa using a3
                      by_cases a4 : kd = 4
                      · subst a4
                        have HC := fun W' h' => zinside_any x W' (HQI.out W' h').bz.net
                        go_wp2_with fail
                        go_region_with (go_at_call 17; (with_reducible refine (HC _ ?_).mono ?_); (first | exact HB1.out | exact HB1.out.trans ((drewB _).mono HB1.out.size) | exact HB1.out.trans ((below_drewNq _ _ _).mono HB1.out.size)); rintro e w7 ⟨rfl, h9⟩; subst h9)
                        all_goals (
                          go_wp2_with fail
                          go_meet
                          exact ⟨by rw [HQ0.out.1], by rw [HQ0.out.2]; exact (HQI.out _ (by first | exact HB1.out | exact HB1.out.trans ((drewB _).mono HB1.out.size) | exact HB1.out.trans ((below_drewNq _ _ _).mono HB1.out.size))).same⟩)
                      · have b4 : (kd == 4) = false := by simpa using a4
                        go_wp2_with fail
                        go_meet
                        exact ⟨by rw [HQ0.out.1], by rw [HQ0.out.2]; exact (HQI.out _ (by first | exact HB1.out | exact HB1.out.trans ((drewB _).mono HB1.out.size) | exact HB1.out.trans ((below_drewNq _ _ _).mono HB1.out.size))).same⟩
          case rest =>
            obtain ⟨rfl, hJ⟩ := hcut
            have hqt := qt_op n N kd x
            generalize qmv kd x = mv at *
            generalize qop n N kd x = N2 at *
            have HQT : Hid (Qt N N2 mv) := hqt
            clear hqt HI pc pl kc0 kc1 kc2 HBL
            have pc := hJ.bz.cell
            have HC8 := zcells_any HN1.out.2 wc hJ.bz.net
            have HJ : Hid (QJ W pb hb wb cb g n k N N2 wc) := hJ
            clear hJ
            go_wp2_with (go_at_call 11; (with_reducible refine HC8.mono ?_); rintro e w8 ⟨g8, rfl, hcl8, hb8⟩; have HJ8 : Hid (QJ W pb hb wb cb g n k N N2 w8 ∧ CList w8 W.heap.size g8 n N2.up N2.dn) := ⟨HJ.out.later hb8, Own.lower hcl8 HJ.out.bl.size⟩; clear hcl8 hb8)
            clear HC8 HJ pc
            go_loopw [158] (fun y wr' => ∃ j : Nat, y = .int .i64 (j : Int) ∧ j ≤ n ∧ Below w8.heap.size w8 wr') (fun y _ => n - (intOf y).toNat)
            case atStart => exact ⟨0, rfl, Nat.zero_le _, Below.refl _ _⟩
            case round =>
              obtain ⟨j, rfl, hjn, hb9⟩ := hrel
              by_cases hjl : j < n
              · have dj : decide ((j : Int) < (n : Int)) = true := by simp; omega
                have hmj := meas hjl
                have j0 : (0 : Int) ≤ (j : Int) := by omega
                have j1 : (j : Int) < (n : Int) := by omega
                have ej : IntKind.i64.wrap ((j : Int) + 1) = (j : Int) + 1 := by have := HN1.out.2; rw [IntKind.wrap_i64]; omega
                obtain ⟨u0, v0⟩ := (HJ8.out.1.cl.below hb9).cells hjl
                obtain ⟨u1, v1⟩ := (HJ8.out.2.below hb9).cells hjl
                have HB9 : Hid (Below w8.heap.size w8 wr) := hb9
                obtain ⟨t1, t2⟩ := HQT.out j
                clear hb9
                generalize N.up j = ua at *
                generalize N.dn j = da at *
                generalize N2.up j = ub at *
                generalize N2.dn j = db at *
                by_cases hne : (j : Int) = mv
                · have hnb : ((j : Int) != mv) = false := by simp [hne]
                  have HT : Hid (((ub != ua) && (db != da)) = false) := t1
                  clear t1 t2 hne
                  cases ua <;> cases ub <;> cases da <;> cases db <;> first | (exact absurd HT.out (by decide)) | (
                    go_wp2_with fail
                    go_quiet (fail)
                    go_wp2_with fail
                    exact ⟨⟨j + 1, rfl, hjl, HB9.out.trans ((below_drewNq _ _ _).mono HB9.out.size)⟩, hmj⟩)
                · obtain ⟨rfl, rfl⟩ := t2 hne
                  clear t1 t2 hne
                  cases ub <;> cases db <;> (
                    go_wp2_with fail
                    go_quiet (fail)
                    go_wp2_with fail
                    exact ⟨⟨j + 1, rfl, hjl, HB9.out.trans ((below_drewNq _ _ _).mono HB9.out.size)⟩, hmj⟩)
              · have dj : decide ((j : Int) < (n : Int)) = false := by simp; omega
                have hJ9 := HJ8.out.1.later hb9
                go_wp2_with fail
                exact ⟨⟨k + 1, g8, N2, rfl, hlt, rfl, hJ9.bz, HJ8.out.2.below hb9, hJ9.sm, hJ9.bl⟩, hmm⟩
        · have dl : decide ((k : Int) < (m : Int)) = false := by simp; omega
          go_wp2_with fail
          go_ret
          exact ⟨rfl, hI.bl⟩
theorem quiet_law (x : Int) (p : Option Addr) (m c : Nat) (X : Nat → NsV) (W : World) (hk : NsIn W p m X) (hm : m ≤ 10000000000000) : Calls Try.prog 3 #[.int .i64 x, .slice p m c] W fun e W' => e = .returned (.bool true) ∧ Below W.heap.size W W' := by
  by_cases hx : x < 1 ∨ 64 < x
  · exact quiet_bad x p m c hx W
  · obtain ⟨n, rfl⟩ : ∃ n : Nat, x = (n : Int) := ⟨x.toNat, by omega⟩
    exact quiet_good n (by omega) (by omega) p m c X W hk hm
end Go.Proofs.Ytfgkmijaimfkjaa
