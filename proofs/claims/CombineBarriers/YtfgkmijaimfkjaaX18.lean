import Derived.Test.YtfgkmijaimfkjaaX17
import Derived.Test.YtfgkmijaimfkjaaX11
namespace Go.Proofs.Ytfgkmijaimfkjaa
open Go.ChangeShapes Go.WideShapes Go.ChangeAt Go.RowKit
set_option linter.unusedVariables false
set_option linter.unusedSimpArgs false

/-- the barrier and the reference's net side by side -/
structure PB (W0 : World) (pb hb wb cb : Nat) (B : RB) (n k : Nat) (N : Nt) (R : Rt) (W : World) : Prop where
  bz : BZ W0.heap.size pb hb wb cb n N W
  rn : RN W0.heap.size n 0 B R W
  rl : RL n N R
  sm : Sm N k
  bl : Below W0.heap.size W0 W
variable {W0 W W' : World} {pb hb wb cb n k : Nat} {B : RB} {N N' : Nt} {R R' : Rt}
theorem PB.later (h : PB W0 pb hb wb cb B n k N R W) (hb' : Below W.heap.size W W') : PB W0 pb hb wb cb B n k N R W' := ⟨h.bz.later hb', h.rn.later hb', h.rl, h.sm, h.bl.trans (hb'.mono h.bl.size)⟩
theorem PB.mono {m : Nat} (h : PB W0 pb hb wb cb B n k N R W) (hk : k ≤ m) : PB W0 pb hb wb cb B n m N R W := ⟨h.bz, h.rn, h.rl, h.sm.mono hk, h.bl⟩
structure PG (W0 : World) (pb hb wb cb : Nat) (B : RB) (n : Nat) (N' : Nt) (R : Rt) (W : World) : Prop where
  bz : BZ W0.heap.size pb hb wb cb n N' W
  rn : RN W0.heap.size n 0 B R W
  bl : Below W0.heap.size W0 W
theorem PB.half (h : PB W0 pb hb wb cb B n k N R W) (hz : ZC W W0.heap.size hb wb cb n N' W') : PG W0 pb hb wb cb B n N' R W' := by
  obtain ⟨_, a1⟩ := own_typ h.bz.net.row
  obtain ⟨_, a2⟩ := own_typ h.bz.net.cel
  have hl := h.bz.net.bl
  exact ⟨h.bz.step hz, h.rn.apart a1 a2 (by decide) (by decide) hz.2, h.bl.trans (hz.2.toBelow h.bl.size fun i e => by rcases e with e | e <;> omega)⟩
theorem PG.whole (h : PG W0 pb hb wb cb B n N' R W) (hr : RC W W0.heap.size n 0 B R' W') (hl : RL n N' R') (hs : Sm N' k) : PB W0 pb hb wb cb B n k N' R' W' := by
  obtain ⟨_, a1⟩ := own_typ h.bz.net.row
  obtain ⟨_, a2⟩ := own_typ h.bz.net.cel
  refine ⟨⟨h.bz.net.keep hr.2 (h.rn.not h.bz.net.box (by decide)) (h.rn.not a1 (by decide)) (h.rn.not a2 (by decide)), (hr.2.block _ (lt_of_block h.bz.box) (h.rn.not h.bz.box (by decide))).trans h.bz.box, h.bz.bs⟩, hr.1, hl, hs, h.bl.trans (hr.2.toBelow h.bl.size h.rn.bl)⟩
theorem PG.later (h : PG W0 pb hb wb cb B n N' R W) (hb' : Below W.heap.size W W') : PG W0 pb hb wb cb B n N' R W' := ⟨h.bz.later hb', h.rn.later hb', h.bl.trans (hb'.mono h.bl.size)⟩
theorem bel_tr {a b c : World} (h : Below a.heap.size a b) (h' : Below b.heap.size b c) : Below a.heap.size a c := h.trans (h'.mono h.size)
set_option maxRecDepth 100000 in
set_option maxHeartbeats 1000000 in
theorem bar_bad (x : Int) (p : Option Addr) (m c : Nat) (X : Nat → NsV) (h : x < 1 ∨ 64 < x) (W : World) (hk : NsIn W p m X) (hm : m ≤ 10000000000000) : Calls Try.prog 6 #[.int .i64 x, .slice p m c] W fun e W' => e = .returned (.bool true) ∧ Below W.heap.size W W' := by
  have HB := znewB_bad x h W
  have HR := rnew_bad x 0 h W
  have HKK : Hid (NsIn W p m X) := hk
  clear hk
  go_enter Try.func6, Try.ntmps6
  go_wp2_with (first | (go_at_call 9; (with_reducible refine HB.mono ?_); rintro e w1 ⟨rfl, h9⟩; have h8 := h9.symm; subst h8; clear h9) | (go_at_call 19; (with_reducible refine HR.mono ?_); rintro e w1 ⟨rfl, h9⟩; have h8 := h9.symm; subst h8; clear h9))
  go_loopw [46] (fun y wr => ∃ k : Nat, y = .int .i64 (k : Int) ∧ k ≤ m ∧ Below W.heap.size W wr) (fun y _ => m - (intOf y).toNat)
  case atStart => exact ⟨0, rfl, Nat.zero_le _, Below.refl _ _⟩
  case round =>
    obtain ⟨k, rfl, hkm, hbr⟩ := hrel
    by_cases hlt : k < m
    · have dl : decide ((k : Int) < (m : Int)) = true := by simp; omega
      have hmm := meas hlt
      have k0 : (0 : Int) ≤ (k : Int) := by omega
      have k1 : (k : Int) < (m : Int) := by omega
      have ek : IntKind.i64.wrap ((k : Int) + 1) = (k : Int) + 1 := by rw [IntKind.wrap_i64]; omega
      rcases HKK.out with h0 | ⟨b, o, rfl, hbl, hck⟩
      · omega
      have kc0 : wr.cell? ⟨b, o + k * 3, none⟩ = some (.int .i64 (X k).k) := (hbr.cell hbl).trans (hck k 0 hlt (by decide))
      have kc1 : wr.cell? ⟨b, o + k * 3 + 1, none⟩ = some (.int .i64 (X k).x) := (hbr.cell hbl).trans (hck k 1 hlt (by decide))
      have kc2 : wr.cell? ⟨b, o + k * 3 + 2, none⟩ = some (.int .i64 (X k).v) := (hbr.cell hbl).trans (hck k 2 hlt (by decide))
      have HBR : Hid (Below W.heap.size W wr) := hbr
      clear hck hbl hbr
      go_wp2_with fail
      go_ret
      exact ⟨rfl, HBR.out.alloc HBR.out.size _⟩
    · have dl : decide ((k : Int) < (m : Int)) = false := by simp; omega
      go_wp2_with fail
      go_ret
      exact ⟨rfl, hbr⟩
set_option maxRecDepth 100000 in
set_option maxHeartbeats 4000000 in
theorem bar_good (n : Nat) (h1 : 1 ≤ n) (h2 : n ≤ 64) (p : Option Addr) (m c : Nat) (X : Nat → NsV) (W : World) (hk : NsIn W p m X) (hm : m ≤ 10000000000000) : Calls Try.prog 6 #[.int .i64 (n : Int), .slice p m c] W fun e W' => e = .returned (.bool true) ∧ Below W.heap.size W W' := by
  have HB := znewB_any n h1 h2 W
  have HR := fun W' => rnew_any n 0 h1 h2 W'
  simp only [show ((0 : Nat) : Int) = 0 from rfl] at HR
  have HKK : Hid (NsIn W p m X) := hk
  clear hk
  go_enter Try.func6, Try.ntmps6
  go_wp2_with (first | (go_at_call 9; (with_reducible refine HB.mono ?_); rintro e w1 ⟨pb, hb, wb, cb, rfl, hN, hbl⟩; have HN : Hid (BZ W.heap.size pb hb wb cb n Nt.new w1 ∧ Below W.heap.size W w1) := ⟨hN, hbl⟩; clear hN hbl) | (go_at_call 19; (with_reducible refine (HR _).mono ?_); rintro e w2 ⟨rfl, hR2, hb2⟩; have HI0 : Hid (PB W pb hb wb cb (RB.new w1.heap.size) n 0 Nt.new Rt.new w2) := ⟨HN.out.1.later hb2, hR2.lower HN.out.2.size, rl_new n, ⟨fun _ => Nat.zero_le _, fun _ => Nat.le_refl _⟩, HN.out.2.trans (hb2.mono HN.out.2.size)⟩; clear hR2 hb2))
  obtain ⟨B, hB⟩ : ∃ B, RB.new w1.heap.size = B := ⟨_, rfl⟩
  have hBr : w1.heap.size = B.rb := by rw [← hB]; rfl
  rw [hB] at HI0
  rw [hBr]
  clear hB hBr HN HB HR
  go_loopw [46] (fun y wr => ∃ (k : Nat) (N : Nt) (R : Rt), y = .int .i64 (k : Int) ∧ k ≤ m ∧ PB W pb hb wb cb B n k N R wr) (fun y _ => m - (intOf y).toNat)
  case atStart => exact ⟨0, _, _, rfl, Nat.zero_le _, HI0.out⟩
  case round =>
    obtain ⟨k, N, R, rfl, hkm, hI⟩ := hrel
    clear HI0
    by_cases hlt : k < m
    · have dl : decide ((k : Int) < (m : Int)) = true := by simp; omega
      have hmm := meas hlt
      have k0 : (0 : Int) ≤ (k : Int) := by omega
      have k1 : (k : Int) < (m : Int) := by omega
      have ek : IntKind.i64.wrap ((k : Int) + 1) = (k : Int) + 1 := by rw [IntKind.wrap_i64]; omega
      rcases HKK.out with h0 | ⟨b, o, rfl, hbl, hck⟩
      · omega
      have kc0 : wr.cell? ⟨b, o + k * 3, none⟩ = some (.int .i64 (X k).k) := (hI.bl.cell hbl).trans (hck k 0 hlt (by decide))
      have kc1 : wr.cell? ⟨b, o + k * 3 + 1, none⟩ = some (.int .i64 (X k).x) := (hI.bl.cell hbl).trans (hck k 1 hlt (by decide))
      have kc2 : wr.cell? ⟨b, o + k * 3 + 2, none⟩ = some (.int .i64 (X k).v) := (hI.bl.cell hbl).trans (hck k 2 hlt (by decide))
      generalize (X k).k = kd at *
      generalize (X k).x = x at *
      generalize (X k).v = v at *
      have HI : Hid (PB W pb hb wb cb B n k N R wr) := hI
      have pc := hI.bz.cell
      have pl := lt_of_block hI.bz.box
      clear hI hck hbl
      go_upto_block 2 with fail
      go_cut [11] (fun ok wc => ok = .bool true ∧ ∃ N' R', PB W pb hb wb cb B n (k + 1) N' R' wc)
      case first =>
        have HB1 : Hid (Below wr.heap.size wr (wr.alloc (.cells #[.int .i64 kd, .int .i64 x, .int .i64 v] 39))) := (Below.refl _ wr).alloc (Nat.le_refl _) _
        have HPR : Hid ((∀ w, w < n → N.pl w ≤ 5) ∧ ∀ w, w < n → N.rd w < 1000000000000000000) := ⟨fun w _ => HI.out.sm.p w, fun w _ => by have := HI.out.sm.r w; omega⟩
        have HP : Hid (∀ W', Below wr.heap.size wr W' → PB W pb hb wb cb B n k N R W') := fun W' h' => HI.out.later h'
        have HBX : Hid ((wr.alloc (.cells #[.int .i64 kd, .int .i64 x, .int .i64 v] 39)).heap[wr.heap.size]? = some (.cells #[.int .i64 kd, .int .i64 x, .int .i64 v] 39 (0, 0))) := World.alloc_heap_new wr _
        have HLT : Hid (wb < wr.heap.size ∧ cb < wr.heap.size) := ⟨HI.out.bz.net.lt.2.1, HI.out.bz.net.lt.2.2⟩
        clear kc0 kc1 kc2
        by_cases a0 : kd = 0
        · subst a0
          have HE := fun W' h' => zenter_any x W' (HP.out W' h').bz.net
          have HF := fun W' N' (h' : PG W pb hb wb cb B n N' R W') => renter_any HI.out.rl h2 x 0 W' h'.rn h'.bl.size
          unfold rvA at HF
          obtain ⟨y, hy⟩ : ∃ y, entE n N x = y := ⟨_, rfl⟩
          simp only [hy] at HE HF
          clear hy
          go_upto_region 13 with fail
          go_region_held3 (fun w' => w'.cell? ⟨pb, 0, none⟩ = some (.pointer (some ⟨hb, 0, none⟩)) ∧ w'.cell? ⟨wr.heap.size, 1, none⟩ = some (.int .i64 x)) (first | exact ⟨pc1, b1⟩ | exact ⟨pd1, d1⟩ | go_keep) ((first | (go_at_call 13; (with_reducible refine (HE _ ?_).mono ?_); (first | exact HB1.out | exact HB1.out.drew | exact HB1.out.trans ((below_drewNq _ _ _).mono HB1.out.size)); rintro e w1 ⟨rfl, hc1⟩; have hx1 := box_ch hc1.2 HBX.out (fun e => by have := HLT.out; rcases e with e | e <;> omega); have b1 := box_cell (r := 1) hx1 rfl; have hh1 := (HP.out _ (by first | exact HB1.out | exact HB1.out.drew | exact HB1.out.trans ((below_drewNq _ _ _).mono HB1.out.size))).half hc1; have pc1 := hh1.bz.cell; have HF1 := HF _ _ hh1; have HX1 : Hid (PG W pb hb wb cb B n (entN n N x 0) R w1 ∧ w1.heap[wr.heap.size]? = some (.cells #[.int .i64 0, .int .i64 x, .int .i64 v] 39 (0, 0))) := ⟨hh1, hx1⟩; clear hc1 hx1 hh1) | (go_at_call 27; (with_reducible refine HF1.mono ?_); rintro e w2 ⟨rfl, R2, hl2, hc2⟩; have hx2 := box_ch hc2.2 HX1.out.2 (HX1.out.1.rn.not HX1.out.2 (by decide)); have d1 := box_cell (r := 1) hx2 rfl; have hw2 := HX1.out.1.whole hc2 hl2 ((HI.out.sm.ent x).mono (Nat.le_succ _)); have pd1 := hw2.bz.cell; have HX2 : Hid (∃ N' R', PB W pb hb wb cb B n (k + 1) N' R' w2) := ⟨_, R2, hw2⟩; clear hc2 hl2 hx2 hw2)))
          all_goals (
            go_wp2_with fail
            go_meet
            first | exact ⟨rfl, HX2.out⟩ | exact ⟨by simp, HX2.out⟩)
        have b0 : (kd == 0) = false := by simpa using a0
        by_cases a1 : kd = 1
        · subst a1
          have HE := fun W' h' => zStep_any J0 x h2 HPR.out.1 HPR.out.2 W' (HP.out W' h').bz.net
          have HF := fun W' N' (h' : PG W pb hb wb cb B n N' R W') => rstep_any HI.out.rl h2 x HPR.out.1 HPR.out.2 W' h'.rn
          obtain ⟨q, hq⟩ : ∃ q, stpB J0 n N x = q := ⟨_, rfl⟩
          simp only [hq] at HE HF
          obtain ⟨y, hy⟩ : ∃ y, stpE n N x = y := ⟨_, rfl⟩
          simp only [hy] at HE HF
          clear hq hy
          go_upto_region 15 with fail
          go_region_held3 (fun w' => w'.cell? ⟨pb, 0, none⟩ = some (.pointer (some ⟨hb, 0, none⟩)) ∧ w'.cell? ⟨wr.heap.size, 1, none⟩ = some (.int .i64 x)) (first | exact ⟨pc1, b1⟩ | go_keep) ((go_at_call 14; (with_reducible refine (HE _ ?_).mono ?_); (first | exact HB1.out | exact HB1.out.drew | exact HB1.out.trans ((below_drewNq _ _ _).mono HB1.out.size)); rintro e w1 ⟨rfl, hc1⟩; have hx1 := box_ch hc1.2 HBX.out (fun e => by have := HLT.out; rcases e with e | e <;> omega); have b1 := box_cell (r := 1) hx1 rfl; have hh1 := (HP.out _ (by first | exact HB1.out | exact HB1.out.drew | exact HB1.out.trans ((below_drewNq _ _ _).mono HB1.out.size))).half hc1; have pc1 := hh1.bz.cell; have HF1 := HF _ _ hh1; have HX1 : Hid (PG W pb hb wb cb B n (stpN J0 n N x) R w1) := hh1; clear hc1 hx1 hh1))
          all_goals (
            go_wp2_with (go_at_call 28; (with_reducible refine HF1.mono ?_); rintro e w2 ⟨rfl, R2, hl2, hc2⟩; have HX2 : Hid (∃ N' R', PB W pb hb wb cb B n (k + 1) N' R' w2) := ⟨_, R2, HX1.out.whole hc2 hl2 (HI.out.sm.stp x)⟩; clear hc2 hl2)
            go_meet
            first | exact ⟨rfl, HX2.out⟩ | exact ⟨by simp, HX2.out⟩)
        have b1 : (kd == 1) = false := by simpa using a1
        by_cases a2 : kd = 2
        · subst a2
          have HE := fun W' h' => zvalue_any x W' (HP.out W' h').bz.net
          have HF := fun W' h' => rvalue_any x W' (HP.out W' h').rn
          simp only [HI.out.rl.valV, HI.out.rl.valE] at HF
          unfold rvA at HF
          obtain ⟨q, hq⟩ : ∃ q, valV n N x = q := ⟨_, rfl⟩
          simp only [hq] at HF
          obtain ⟨y, hy⟩ : ∃ y, valE n N x = y := ⟨_, rfl⟩
          simp only [hy] at HE HF
          clear hq hy
          go_upto_region 19 with fail
          go_region_with (go_at_call 15; (with_reducible refine (HE _ ?_).mono ?_); (first | exact HB1.out | exact HB1.out.drew | exact (HB1.out.alloc HB1.out.size _).drew | exact HB1.out.alloc HB1.out.size _); rintro e w1 ⟨rfl, hb1⟩; have hq1 : Below (wr.alloc (.cells #[.int .i64 2, .int .i64 x, .int .i64 v] 39)).heap.size (wr.alloc (.cells #[.int .i64 2, .int .i64 x, .int .i64 v] 39)) w1 := (by first | exact bel_tr (Below.refl _ _).drew hb1 | exact bel_tr ((Below.refl _ _).alloc (Nat.le_refl _) _).drew hb1 | exact bel_tr ((Below.refl _ _).alloc (Nat.le_refl _) _) hb1 | exact hb1); have b1 := box_cell (r := 1) ((hq1.block _ (lt_of_block HBX.out)).trans HBX.out) rfl; have bl1 : wr.heap.size < w1.heap.size := Nat.lt_of_lt_of_le (lt_of_block HBX.out) hq1.size; have HX1 : Hid (Below wr.heap.size wr w1) := bel_tr HB1.out hq1; clear hb1 hq1)
          all_goals (
            go_wp2_with (go_at_call 29; (with_reducible refine (HF _ ?_).mono ?_); (first | exact HX1.out.alloc HX1.out.size _ | exact (HX1.out.alloc HX1.out.size _).drew | exact HX1.out); rintro e w2 ⟨rfl, hb2⟩; have HX2 : Hid (Below wr.heap.size wr w2) := (by first | exact bel_tr HX1.out hb2 | exact bel_tr (HX1.out.alloc HX1.out.size _) hb2 | exact bel_tr (HX1.out.alloc HX1.out.size _).drew hb2); clear hb2)
            go_meet
            first | exact ⟨rfl, N, R, (HP.out _ (HX2.out.alloc HX2.out.size _)).mono (Nat.le_succ k)⟩ | exact ⟨by simp, N, R, (HP.out _ (HX2.out.alloc HX2.out.size _)).mono (Nat.le_succ k)⟩)
        have b2 : (kd == 2) = false := by simpa using a2
        by_cases a3 : kd = 3
        · subst a3
          have HE := fun W' h' => zrounds_any x W' (HP.out W' h').bz.net
          have HF := fun W' h' => rrounds_any x W' (HP.out W' h').rn
          simp only [HI.out.rl.rdE] at HF
          obtain ⟨q, hq⟩ : ∃ q, (if inN n x = true then (N.rd x.toNat : Int) else 0) = q := ⟨_, rfl⟩
          simp only [hq] at HE HF
          clear hq
          go_upto_region 23 with fail
          go_quiet ((first | (go_at_call 16; refine Calls.quiet_of_same (HE _ ?_); (first | exact HB1.out | exact HB1.out.drew | exact HB1.out.trans ((below_drewNq _ _ _).mono HB1.out.size))) | (go_at_call 30; refine Calls.quiet_of_same (HF _ ?_); (first | exact HB1.out | exact HB1.out.drew | exact HB1.out.trans ((below_drewNq _ _ _).mono HB1.out.size)))))
          go_wp2_with fail
          go_meet
          first | exact ⟨rfl, N, R, (HP.out _ (HB1.out.trans ((below_drewNq _ _ nq).mono HB1.out.size))).mono (Nat.le_succ k)⟩ | exact ⟨by simp, N, R, (HP.out _ (HB1.out.trans ((below_drewNq _ _ nq).mono HB1.out.size))).mono (Nat.le_succ k)⟩
        have b3 : (kd == 3) = false := by simpa using a3
        by_cases a4 : kd = 4
        · subst a4
          have HE := fun W' h' => zinside_any x W' (HP.out W' h').bz.net
          have HF := fun W' h' => rinside_any x W' (HP.out W' h').rn
          simp only [HI.out.rl.inE] at HF
          obtain ⟨q, hq⟩ : ∃ q, (inN n x && (N.pl x.toNat != 0)) = q := ⟨_, rfl⟩
          simp only [hq] at HE HF
          clear hq
          go_upto_region 25 with fail
          go_quiet ((first | (go_at_call 17; refine Calls.quiet_of_same (HE _ ?_); (first | exact HB1.out | exact HB1.out.drew | exact HB1.out.trans ((below_drewNq _ _ _).mono HB1.out.size))) | (go_at_call 31; refine Calls.quiet_of_same (HF _ ?_); (first | exact HB1.out | exact HB1.out.drew | exact HB1.out.trans ((below_drewNq _ _ _).mono HB1.out.size)))))
          go_wp2_with fail
          go_meet
          first | exact ⟨rfl, N, R, (HP.out _ (HB1.out.trans ((below_drewNq _ _ nq).mono HB1.out.size))).mono (Nat.le_succ k)⟩ | exact ⟨by simp, N, R, (HP.out _ (HB1.out.trans ((below_drewNq _ _ nq).mono HB1.out.size))).mono (Nat.le_succ k)⟩
        have b4 : (kd == 4) = false := by simpa using a4
        by_cases a5 : kd = 5
        · subst a5
          have HE := fun W' h' => zcells_any h2 W' (HP.out W' h').bz.net
          have HF := fun W' h' => rcells_any h2 W' (HP.out W' h').rn
          have HFL := HI.out.rl.fl
          go_wp2_with (first | (go_at_call 11; (with_reducible refine (HE _ ?_).mono ?_); (first | exact HB1.out | exact HB1.out.drew | exact HB1.out.trans ((below_drewNq _ _ _).mono HB1.out.size)); rintro e w1 ⟨g1, rfl, hcl1, hb1⟩; have hB1' : Below wr.heap.size wr w1 := HB1.out.trans (hb1.mono HB1.out.size); have HF1 := HF w1 hB1'; have HX1 : Hid (CList w1 (wr.alloc (.cells #[.int .i64 5, .int .i64 x, .int .i64 v] 39)).heap.size g1 n N.up N.dn ∧ Below wr.heap.size wr w1 ∧ (wr.alloc (.cells #[.int .i64 5, .int .i64 x, .int .i64 v] 39)).heap.size ≤ w1.heap.size) := ⟨hcl1, hB1', hb1.size⟩; clear hcl1 hb1 hB1') | (go_at_call 25; (with_reducible refine HF1.mono ?_); rintro e w2 ⟨v2, rfl, ho2, hb2⟩; obtain ⟨g2, c2, rfl⟩ : ∃ g c, v2 = .slice (some ⟨g, 0, none⟩) n c := (by rcases Own.form ho2 with ⟨_, h2⟩ | ⟨g, c, h2, _⟩; omega; exact ⟨g, c, h2⟩); have HTK := taken_any h1 h2 w2 (Own.later HX1.out.1 hb2) (ho2.congr HFL) (Nat.le_trans HX1.out.2.2 hb2.size); have HX2 : Hid (Below wr.heap.size wr w2) := HX1.out.2.1.trans (hb2.mono HX1.out.2.1.size); clear ho2 hb2) | (go_at_call 32; (with_reducible refine HTK.mono ?_); rintro e w3 ⟨rfl, hb3⟩; have HX3 : Hid (Below wr.heap.size wr w3) := HX2.out.trans (hb3.mono (by rw [World.size_alloc]; omega)); clear hb3))
          go_meet
          exact ⟨rfl, N, R, (HP.out _ HX3.out).mono (Nat.le_succ k)⟩
        have b5 : (kd == 5) = false := by simpa using a5
        by_cases a6 : kd = 6
        · subst a6
          have HE := fun W' h' => zwait_any J0 x h2 HPR.out.1 HPR.out.2 W' (HP.out W' h').bz
          have HF := fun W' N' (h' : PG W pb hb wb cb B n N' R W') => rwait_any HI.out.rl h2 x HI.out.sm (by omega) W' h'.rn h'.bl.size
          unfold rvA at HF
          obtain ⟨q, hq⟩ : ∃ q, waiB J0 n N x = q := ⟨_, rfl⟩
          simp only [hq] at HE HF
          obtain ⟨y, hy⟩ : ∃ y, waiE n N x = y := ⟨_, rfl⟩
          simp only [hy] at HE HF
          clear hq hy
          go_wp2_with (first | (go_at_call 12; (with_reducible refine (HE _ ?_).mono ?_); (first | exact HB1.out | exact HB1.out.drew | exact HB1.out.trans ((below_drewNq _ _ _).mono HB1.out.size)); rintro e w1 ⟨rfl, hc1⟩; have hx1 := box_ch hc1.2 HBX.out (fun e => by have := HLT.out; rcases e with e | e <;> omega); have b1 := box_cell (r := 1) hx1 rfl; have hh1 := (HP.out _ (by first | exact HB1.out | exact HB1.out.drew | exact HB1.out.trans ((below_drewNq _ _ _).mono HB1.out.size))).half hc1; have pc1 := hh1.bz.cell; have HF1 := HF _ _ hh1; have HX1 : Hid (PG W pb hb wb cb B n (waiN J0 n N x) R w1) := hh1; clear hc1 hx1 hh1) | (go_at_call 33; (with_reducible refine HF1.mono ?_); rintro e w2 ⟨rfl, R2, hl2, hc2⟩; have HX2 : Hid (∃ N' R', PB W pb hb wb cb B n (k + 1) N' R' w2) := ⟨_, R2, HX1.out.whole hc2 hl2 (HI.out.sm.wai x)⟩; clear hc2 hl2))
          go_meet
          first | exact ⟨rfl, HX2.out⟩ | exact ⟨by simp, HX2.out⟩
        have b6 : (kd == 6) = false := by simpa using a6
        go_wp2_with fail
        go_meet
        exact ⟨rfl, N, R, (HP.out _ HB1.out).mono (Nat.le_succ k)⟩
      case rest =>
        obtain ⟨rfl, N2, R2, hJ⟩ := hcut
        have HJ : Hid (PB W pb hb wb cb B n (k + 1) N2 R2 wc) := hJ
        clear hJ HI pc pl kc0 kc1 kc2
        go_wp2_with fail
        exact ⟨⟨k + 1, N2, R2, rfl, hlt, HJ.out⟩, hmm⟩
    · have dl : decide ((k : Int) < (m : Int)) = false := by simp; omega
      go_wp2_with fail
      go_ret
      exact ⟨rfl, hI.bl⟩
theorem bar_law (x : Int) (p : Option Addr) (m c : Nat) (X : Nat → NsV) (W : World) (hk : NsIn W p m X) (hm : m ≤ 10000000000000) : Calls Try.prog 6 #[.int .i64 x, .slice p m c] W fun e W' => e = .returned (.bool true) ∧ Below W.heap.size W W' := by
  by_cases hx : x < 1 ∨ 64 < x
  · exact bar_bad x p m c X hx W hk hm
  · obtain ⟨n, rfl⟩ : ∃ n : Nat, x = (n : Int) := ⟨x.toNat, by omega⟩
    exact bar_good n (by omega) (by omega) p m c X W hk hm
end Go.Proofs.Ytfgkmijaimfkjaa
