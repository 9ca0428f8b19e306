import Derived.Test.YtkgifanlodlilaaGH12
import Derived.Deep.RegionLaw
import Derived.Deep.RegionHeld3
import Derived.Deep.Cut
import Derived.Deep.DeepCutAuto
import Derived.Deep.CutBlock
import Derived.Deep.CutRange
import Derived.BigQuiet
import Derived.BigRegion
import Derived.Handy
namespace Go.Proofs.Ytkgifanlodlilaa
open Go.ChangeShapes Go.WideShapes Go.ChangeAt Go.RowKit
set_option linter.unusedVariables false
set_option linter.unusedSimpArgs false


/-- the first of the heaviest -/
def bst (x : Nat → Int) : Nat → Int
  | 0 => -1
  | k + 1 => if 0 < x k ∧ (bst x k < 0 ∨ x (bst x k).toNat < x k) then (k : Int) else bst x k
theorem bst_form (x : Nat → Int) : ∀ k, bst x k = -1 ∨ ∃ b : Nat, b < k ∧ bst x k = (b : Int)
  | 0 => .inl rfl
  | k + 1 => by
    unfold bst
    split
    · exact .inr ⟨k, by omega, rfl⟩
    · rcases bst_form x k with h | ⟨b, h1, h2⟩
      · exact .inl h
      · exact .inr ⟨b, by omega, h2⟩
theorem bst_is {x : Nat → Int} {n a : Nat} (ha : a < n) (h0 : 0 < x a) (h1 : ∀ k, k < a → x k < x a) (h2 : ∀ k, k < n → x k ≤ x a) : ∀ k, a < k → k ≤ n → bst x k = (a : Int)
  | 0, h, _ => by omega
  | k + 1, h, hk => by
    unfold bst
    by_cases e : a = k
    · subst e
      have hc : bst x a < 0 ∨ x (bst x a).toNat < x a := by
        rcases bst_form x a with h | ⟨b, hb, h⟩
        · left; omega
        · right
          rw [h]
          exact h1 b hb
      rw [if_pos ⟨h0, hc⟩]
    · have ih := bst_is ha h0 h1 h2 k (by omega) (by omega)
      have := h2 k (by omega)
      rw [if_neg (by
        rw [ih]
        rintro ⟨_, h | h⟩
        · omega
        · rw [Int.toNat_natCast] at h
          omega), ih]
/-- the weights of those that are left -/
def wz (K : Nat → Int) (d : Nat → Nat) : Nat → Nat → Int
  | 0 => K
  | j + 1 => setF (wz K d j) (d j) 0
theorem wz_old {n : Nat} {K : Nat → Int} {d : Nat → Nat} (h : Hvy n K d) : ∀ j, j ≤ n → ∀ i, i < j → wz K d j (d i) = 0
  | 0, _, i, hi => by omega
  | j + 1, hj, i, hi => by
    show setF (wz K d j) (d j) 0 (d i) = 0
    unfold setF
    split
    · rfl
    · rename_i e
      exact wz_old h j (by omega) i (by
        by_cases e2 : i = j
        · subst e2; exact absurd rfl e
        · omega)
theorem wz_new {n : Nat} {K : Nat → Int} {d : Nat → Nat} (h : Hvy n K d) : ∀ j, j ≤ n → ∀ i, j ≤ i → i < n → wz K d j (d i) = K (d i)
  | 0, _, i, _, _ => rfl
  | j + 1, hj, i, hi, hn => by
    show setF (wz K d j) (d j) 0 (d i) = K (d i)
    unfold setF
    rw [if_neg fun e => by have := h.inj i j hn (by omega) e; omega]
    exact wz_new h j (by omega) i (by omega) hn
theorem wz_bst {n : Nat} {K : Nat → Int} {d : Nat → Nat} (h : Hvy n K d) (hK : ∀ i, 1 ≤ K i) {j : Nat} (hj : j < n) : bst (wz K d j) n = (d j : Int) := by
  have e0 := wz_new h j (by omega) j (Nat.le_refl _) hj
  have hk := hK (d j)
  have hx : ∀ k, k < n → wz K d j k ≤ wz K d j (d j) ∧ (k < d j → wz K d j k < wz K d j (d j)) := fun k hkn => by
    obtain ⟨i, hi, rfl⟩ := h.inv k hkn
    rcases Nat.lt_trichotomy i j with l | l | l
    · rw [wz_old h j (by omega) i l, e0]
      exact ⟨by omega, fun _ => by omega⟩
    · subst l
      exact ⟨Int.le_refl _, fun h => by omega⟩
    · rw [wz_new h j (by omega) i (by omega) hi, e0]
      have := h.srt j i l hi
      exact ⟨by omega, fun _ => by omega⟩
  exact bst_is (h.lt j hj) (by rw [e0]; omega) (fun k hka => (hx k (by have := h.lt j hj; omega)).2 hka) (fun k hkn => (hx k hkn).1) n (h.lt j hj) (Nat.le_refl _)
theorem wz_bound {K : Nat → Int} {d : Nat → Nat} (hK : ∀ i, 0 ≤ K i ∧ K i ≤ 1000) : ∀ j i, 0 ≤ wz K d j i ∧ wz K d j i ≤ 1000
  | 0, i => hK i
  | j + 1, i => by
    show 0 ≤ setF (wz K d j) (d j) 0 i ∧ setF (wz K d j) (d j) 0 i ≤ 1000
    unfold setF
    split
    · omega
    · exact wz_bound hK j i
set_option maxRecDepth 100000 in
set_option maxHeartbeats 8000000 in
theorem rdealt_any (p : Pl) (v : PlV) (wk : Nat) (d : Nat → Nat) (hV : VC p 0) (hw1 : 1 ≤ wk) (hw2 : wk ≤ 64) (hd : Hvy p.nq (wtF p.S p.ns) d) (w : World) (h : PlAt w p v) : Calls Try.prog 18 #[.agg #[.int .i64 p.ki, .slice v.pp p.np v.pc, .slice v.tp p.nq v.tc, .slice v.sp p.ns v.sc, .int .u64 p.sd, .int .u64 p.lk, .int .u64 p.en, .int .i64 p.bu, .int .i64 p.fu], .int .i64 (wk : Int)] w fun e w' => ∃ g, e = .returned (.slice (some ⟨g, 0, none⟩) p.nq p.nq) ∧ IRow w' w.heap.size g p.nq p.nq (dl (wtF p.S p.ns) d (wk - 1) p.nq).1 ∧ Below w.heap.size w w' := by
  obtain ⟨wb, hwb⟩ : ∃ wb, w.alloc (.cells #[.int .i64 p.ki, .slice v.pp p.np v.pc, .slice v.tp p.nq v.tc, .slice v.sp p.ns v.sc, .int .u64 p.sd, .int .u64 p.lk, .int .u64 p.en, .int .i64 p.bu, .int .i64 p.fu] 27) = wb := ⟨_, rfl⟩
  obtain ⟨hb0, hbox, hsz⟩ := boxed _ _ _ hwb
  have HW : Hid (w.alloc (.cells #[.int .i64 p.ki, .slice v.pp p.np v.pc, .slice v.tp p.nq v.tc, .slice v.sp p.ns v.sc, .int .u64 p.sd, .int .u64 p.lk, .int .u64 p.en, .int .i64 p.bu, .int .i64 p.fu] 27) = wb) := hwb
  obtain ⟨⟨⟨hns, hgs⟩, hq, hgt⟩, -⟩ := hV.fit6
  have HR := rweights_any p v ⟨hns, hgs⟩ hq wb (h.below hb0)
  obtain ⟨⟨c0, c1, c2, c3⟩, c4, c5, c6, c7, c8⟩ := cells9 hbox
  rw [← hwb] at c0 c1 c2 c3 c4 c5 c6 c7 c8
  obtain ⟨i5, hi5, hz0, hz1, hz2⟩ := info_parts infoInt1
  have hrun := fun W => run_make_row (P := Try.prog) 28 3 i5 (.int .i64 0) Try.underlying28 hi5 hz0 hz1 rfl .i64 .i64 p.nq (by rw [hz2]; omega) (by omega) W
  have hrun2 := fun W => run_make_row (P := Try.prog) 28 3 i5 (.int .i64 0) Try.underlying28 hi5 hz0 hz1 rfl .i64 .i64 wk (by rw [hz2]; omega) (by omega) W
  obtain ⟨K, hK⟩ : ∃ K, wtF p.S p.ns = K := ⟨_, rfl⟩
  have hKb : ∀ i, 1 ≤ K i ∧ K i ≤ 1000 := fun i => by rw [← hK]; have := wtF_pos p.S p.ns i; omega
  rw [hK] at hd HR
  rw [hK]
  have HB : Hid (Below w.heap.size w wb) := hb0
  have HD : Hid (Hvy p.nq K d ∧ ∀ i, 1 ≤ K i ∧ K i ≤ 1000) := ⟨hd, hKb⟩
  clear h hwb hb0 hbox hsz hV hgs hgt hi5 hz0 hz1 hz2 hK hKb hd
  go_enter Try.func18, Try.ntmps18
  go_upto_region 2 with (go_at_call 29; rw [HW.out]; (with_reducible refine HR.mono ?_); rintro e w1 ⟨x1, rfl, h5, h6⟩; have H1 : Hid (OI w1 wb.heap.size x1 p.nq K ∧ Below wb.heap.size wb w1) := ⟨h5, h6⟩; clear h5 h6)
  clear c0 c1 c2 c3 c4 c5 c6 c7 c8 HR
  obtain ⟨qx, cx, hx1, -⟩ := H1.out.1.kat
  have HX1 : Hid (x1 = .slice qx p.nq cx) := hx1
  rw [hx1]
  clear hx1
  obtain ⟨w2, hw2e⟩ : ∃ w2, w1.alloc (.cells (madeCells #[Value.int .i64 0] p.nq) 3) = w2 := ⟨_, rfl⟩
  obtain ⟨w3, hw3e⟩ : ∃ w3, w2.alloc (.cells (madeCells #[Value.int .i64 0] wk) 3) = w3 := ⟨_, rfl⟩
  have r2 := zero_row (W := w1) hq
  rw [hw2e] at r2
  have r3 := zero_row (W := w2) hw2
  rw [hw3e] at r3
  have b2 : Below w1.heap.size w1 w2 := by rw [← hw2e]; exact (Below.refl _ w1).alloc (Nat.le_refl _) _
  have b3 : Below w2.heap.size w2 w3 := by rw [← hw3e]; exact (Below.refl _ w2).alloc (Nat.le_refl _) _
  have s2 : w2.heap.size = w1.heap.size + 1 := by rw [← hw2e, World.size_alloc]
  obtain ⟨bo, hbo⟩ : ∃ bo, w1.heap.size = bo := ⟨_, rfl⟩
  obtain ⟨bl, hbl⟩ : ∃ bl, w1.heap.size + 1 = bl := ⟨_, rfl⟩
  have b13 : Below w1.heap.size w1 w3 := b2.trans (b3.mono b2.size)
  have HM : Hid (w1.alloc (.cells (madeCells #[Value.int .i64 0] p.nq) 3) = w2 ∧ w2.alloc (.cells (madeCells #[Value.int .i64 0] wk) 3) = w3 ∧ w1.heap.size = bo ∧ w1.heap.size + 1 = bl) := ⟨hw2e, hw3e, hbo, hbl⟩
  have r2' := (r2.later b3)
  rw [hbo] at r2'
  rw [s2, hbl] at r3
  have ox : OI w3 wb.heap.size (.slice qx p.nq cx) p.nq K := by have := H1.out.1.later b13; rw [HX1.out] at this; exact this
  have hboblx : ∀ g, qx = some ⟨g, 0, none⟩ → g < bo := fun g e => by
    rcases H1.out.1.form with ⟨e9, _⟩ | ⟨g9, c9, e9, _, h9⟩
    · rw [HX1.out, e] at e9; cases e9
    · rw [HX1.out, e] at e9
      injection e9 with e9
      injection e9 with e9
      injection e9 with e9
      omega
  have H3 : Hid (OI w3 wb.heap.size (.slice qx p.nq cx) p.nq K ∧ IRow w3 bo bo p.nq p.nq (fun _ => 0) ∧ IRow w3 bl bl wk wk (fun _ => 0) ∧ Below wb.heap.size wb w3 ∧ wb.heap.size ≤ bo ∧ bl = bo + 1 ∧ ∀ g, qx = some ⟨g, 0, none⟩ → g < bo) := ⟨ox, r2', r3, H1.out.2.trans (b13.mono H1.out.2.size), by have := H1.out.2.size; omega, by omega, hboblx⟩
  clear hw2e hw3e r2 r3 b2 b3 s2 hbo hbl b13 r2' ox hboblx H1 HX1
  go_wp2_with fail
  rw [HM.out.1, HM.out.2.1, HM.out.2.2.2, HM.out.2.2.1]
  clear hrun hrun2 HM
  go_loopw [8] (fun y wr => ∃ (j : Nat), y = .int .i64 (j : Int) ∧ j ≤ p.nq ∧ OI wr wb.heap.size (.slice qx p.nq cx) p.nq (wz K d j) ∧ IRow wr bo bo p.nq p.nq (dl K d (wk - 1) j).1 ∧ IRow wr bl bl wk wk (dl K d (wk - 1) j).2 ∧ Below wb.heap.size wb wr) (fun y _ => p.nq - (intOf y).toNat)
  case atStart => exact ⟨0, rfl, Nat.zero_le _, H3.out.1, H3.out.2.1, H3.out.2.2.1, H3.out.2.2.2.1⟩
  case round =>
  obtain ⟨j, rfl, hj, ox, ro, rl, hbr⟩ := hrel
  by_cases hlt : j < p.nq
  case neg =>
    have dlt : decide ((j : Int) < (p.nq : Int)) = false := by simp; omega
    obtain rfl : j = p.nq := by omega
    have H4 : Hid (IRow wr bo bo p.nq p.nq (dl K d (wk - 1) p.nq).1 ∧ Below wb.heap.size wb wr) := ⟨ro, hbr⟩
    clear ox ro rl hbr
    go_wp2_with fail
    go_ret
    exact ⟨bo, rfl, H4.out.1.lower (by have := HB.out.size; have := H3.out.2.2.2.2.1; omega), HB.out.trans (H4.out.2.mono HB.out.size)⟩
  case pos =>
  have dlt : decide ((j : Int) < (p.nq : Int)) = true := by simp; omega
  have hm := gmeas hlt
  have ei : IntKind.i64.wrap ((j : Int) + 1) = (j : Int) + 1 := by rw [IntKind.wrap_i64]; omega
  rcases ox.form with ⟨_, hz⟩ | ⟨g, cg, hqx, hg1, hg2⟩
  · omega
  injection hqx with hqx hqn hqc
  subst hqx hqc
  have hgbo := H3.out.2.2.2.2.2.2 g rfl
  have HO : Hid (OI wr wb.heap.size (.slice (some ⟨g, 0, none⟩) p.nq cx) p.nq (wz K d j) ∧ IRow wr bo bo p.nq p.nq (dl K d (wk - 1) j).1 ∧ IRow wr bl bl wk wk (dl K d (wk - 1) j).2 ∧ Below wb.heap.size wb wr ∧ wb.heap.size ≤ g ∧ g < bo) := ⟨ox, ro, rl, hbr, hg1, hgbo⟩
  clear ox ro rl hbr hg1 hg2 hgbo hqn
  go_wp2_with fail
  obtain ⟨wq, rfl⟩ : ∃ wq, wq = wr := ⟨_, rfl⟩
  go_loopw [9, 10] (fun x y wr => ∃ (k : Nat), x = .int .i64 (bst (wz K d j) k) ∧ y = .int .i64 (k : Int) ∧ k ≤ p.nq ∧ Below wq.heap.size wq wr) (fun _ y _ => p.nq - (intOf y).toNat)
  case atStart => exact ⟨0, rfl, rfl, Nat.zero_le _, Below.refl _ _⟩
  case round =>
  obtain ⟨k, rfl, rfl, hk, hbq⟩ := hrel
  by_cases hlk : k < p.nq
  case pos =>
    have dlk : decide ((k : Int) < (p.nq : Int)) = true := by simp; omega
    have hmk := gmeas hlk
    have ek : IntKind.i64.wrap ((k : Int) + 1) = (k : Int) + 1 := by rw [IntKind.wrap_i64]; omega
    have k0 : (0 : Int) ≤ (k : Int) := by omega
    have k1 : (k : Int) < (p.nq : Int) := by omega
    have hoq := HO.out.1.later hbq
    have y0 := hoq.cell hlk
    have hstep : bst (wz K d j) (k + 1) = if 0 < wz K d j k ∧ (bst (wz K d j) k < 0 ∨ wz K d j (bst (wz K d j) k).toNat < wz K d j k) then (k : Int) else bst (wz K d j) k := rfl
    have HQ : Hid (Below wq.heap.size wq wr) := hbq
    rcases bst_form (wz K d j) k with hb | ⟨b, hbk, hb⟩
    · rw [hb] at hstep
      obtain ⟨xk, hxk⟩ : ∃ xk, wz K d j k = xk := ⟨_, rfl⟩
      rw [hxk] at y0 hstep
      by_cases hp : 0 < xk
      · rw [if_pos ⟨hp, .inl (by omega)⟩] at hstep
        have dp : decide (0 < xk) = true := by simpa using hp
        have HSt := hid6 hstep
        rw [hb]
        clear hstep hb hp hxk hoq hbq
        go_upto_region 11 with fail
        go_quiet (fail)
        go_wp2_with fail
        exact ⟨⟨k + 1, by rw [HSt.out], rfl, hlk, HQ.out.trans (below_drewNq _ _ _)⟩, hmk⟩
      · rw [if_neg fun h => hp h.1] at hstep
        have dp : decide (0 < xk) = false := by simpa using hp
        have HSt := hid6 hstep
        rw [hb]
        clear hstep hb hp hxk hoq hbq
        go_upto_region 11 with fail
        go_quiet (fail)
        go_wp2_with fail
        exact ⟨⟨k + 1, by rw [HSt.out], rfl, hlk, HQ.out.trans (below_drewNq _ _ _)⟩, hmk⟩
    · rw [hb, Int.toNat_natCast] at hstep
      have yb := hoq.cell (show b < p.nq by omega)
      obtain ⟨xk, hxk⟩ : ∃ xk, wz K d j k = xk := ⟨_, rfl⟩
      obtain ⟨xb, hxb⟩ : ∃ xb, wz K d j b = xb := ⟨_, rfl⟩
      rw [hxk] at y0 hstep
      rw [hxb] at yb hstep
      have b0 : (0 : Int) ≤ (b : Int) := by omega
      have b1 : (b : Int) < (p.nq : Int) := by omega
      have db : decide ((b : Int) < 0) = false := by simp
      by_cases hp : 0 < xk
      · have dp : decide (0 < xk) = true := by simpa using hp
        by_cases hgt : xb < xk
        · rw [if_pos ⟨hp, .inr hgt⟩] at hstep
          have dg : decide (xb < xk) = true := by simpa using hgt
          have HSt := hid6 hstep
          rw [hb]
          clear hstep hb hp hgt hxk hxb hoq hbq
          go_upto_region 11 with fail
          go_quiet (fail)
          go_wp2_with fail
          exact ⟨⟨k + 1, by rw [HSt.out], rfl, hlk, HQ.out.trans (below_drewNq _ _ _)⟩, hmk⟩
        · rw [if_neg fun h => by rcases h.2 with h | h <;> omega] at hstep
          have dg : decide (xb < xk) = false := by simpa using hgt
          have HSt := hid6 hstep
          rw [hb]
          clear hstep hb hp hgt hxk hxb hoq hbq
          go_upto_region 11 with fail
          go_quiet (fail)
          go_wp2_with fail
          exact ⟨⟨k + 1, by rw [HSt.out], rfl, hlk, HQ.out.trans (below_drewNq _ _ _)⟩, hmk⟩
      · rw [if_neg fun h => hp h.1] at hstep
        have dp : decide (0 < xk) = false := by simpa using hp
        have HSt := hid6 hstep
        rw [hb]
        clear hstep hb hp hxk hxb hoq hbq
        go_upto_region 11 with fail
        go_quiet (fail)
        go_wp2_with fail
        exact ⟨⟨k + 1, by rw [HSt.out], rfl, hlk, HQ.out.trans (below_drewNq _ _ _)⟩, hmk⟩
  case neg =>
  have dlk : decide ((k : Int) < (p.nq : Int)) = false := by simp; omega
  obtain rfl : k = p.nq := by omega
  have hbs := wz_bst HD.out.1 (fun i => (HD.out.2 i).1) hlt
  rw [hbs]
  have HQ : Hid (Below wq.heap.size wq wr) := hbq
  clear hbs hbq
  go_wp2_with fail
  obtain ⟨wp, rfl⟩ : ∃ wp, wp = wr := ⟨_, rfl⟩
  obtain ⟨ld, hld⟩ : ∃ ld, (dl K d (wk - 1) j).2 = ld := ⟨_, rfl⟩
  have HLD : Hid ((dl K d (wk - 1) j).2 = ld) := hld
  clear hld
  go_loopw [11, 12] (fun x y wr => ∃ (k : Nat), x = .int .i64 ((lowI ld (k - 1) : Nat) : Int) ∧ y = .int .i64 (k : Int) ∧ 1 ≤ k ∧ k ≤ wk ∧ Below wp.heap.size wp wr) (fun _ y _ => wk - (intOf y).toNat)
  case atStart => exact ⟨1, rfl, rfl, Nat.le_refl _, hw1, Below.refl _ _⟩
  case round =>
  obtain ⟨k, rfl, rfl, hk1, hk, hbq⟩ := hrel
  have hbw := HQ.out.trans (hbq.mono HQ.out.size)
  have hrl := HO.out.2.2.1.later hbw
  rw [HLD.out] at hrl
  have hlow := lowI_le ld (k - 1)
  by_cases hlk : k < wk
  case pos =>
    have dlk : decide ((k : Int) < (wk : Int)) = true := by simp; omega
    have hmk := gmeas hlk
    have ek : IntKind.i64.wrap ((k : Int) + 1) = (k : Int) + 1 := by rw [IntKind.wrap_i64]; omega
    have k0 : (0 : Int) ≤ (k : Int) := by omega
    have k1 : (k : Int) < (wk : Int) := by omega
    have hst : lowI ld k = if ld k < ld (lowI ld (k - 1)) then k else lowI ld (k - 1) := by
      obtain ⟨k', rfl⟩ : ∃ k', k = k' + 1 := ⟨k - 1, by omega⟩
      rfl
    obtain ⟨l, hl⟩ : ∃ l, lowI ld (k - 1) = l := ⟨_, rfl⟩
    rw [hl] at hst hlow
    rw [hl]
    have y0 := hrl.cell hlk
    have y1 := hrl.cell (show l < wk by omega)
    have l0 : (0 : Int) ≤ (l : Int) := by omega
    have l1 : (l : Int) < (wk : Int) := by omega
    obtain ⟨xk, hxk⟩ : ∃ xk, ld k = xk := ⟨_, rfl⟩
    obtain ⟨xl, hxl⟩ : ∃ xl, ld l = xl := ⟨_, rfl⟩
    rw [hxk] at y0 hst
    rw [hxl] at y1 hst
    have HQ2 : Hid (Below wp.heap.size wp wr) := hbq
    by_cases hg : xk < xl
    · have dg : decide (xk < xl) = true := by simpa using hg
      rw [if_pos hg] at hst
      have HSt := hid6 hst
      clear hst hl hg hxk hxl hrl hbq hbw hlow
      go_upto_region 17 with fail
      go_quiet (fail)
      go_wp2_with fail
      exact ⟨⟨k + 1, by rw [show k + 1 - 1 = k by omega, HSt.out], rfl, by omega, hlk, HQ2.out.trans (below_drewNq _ _ _)⟩, hmk⟩
    · have dg : decide (xk < xl) = false := by simpa using hg
      rw [if_neg hg] at hst
      have HSt := hid6 hst
      clear hst hl hg hxk hxl hrl hbq hbw hlow
      go_upto_region 17 with fail
      go_quiet (fail)
      go_wp2_with fail
      exact ⟨⟨k + 1, by rw [show k + 1 - 1 = k by omega, HSt.out], rfl, by omega, hlk, HQ2.out.trans (below_drewNq _ _ _)⟩, hmk⟩
  case neg =>
  have dlk : decide ((k : Int) < (wk : Int)) = false := by simp; omega
  obtain rfl : wk = k := by omega
  have hro := HO.out.2.1.later hbw
  have hox := HO.out.1.later hbw
  have hbb : Below wb.heap.size wb wr := HO.out.2.2.2.1.trans (hbw.mono HO.out.2.2.2.1.size)
  have hdj := HD.out.1.lt j hlt
  have hwzv := wz_new HD.out.1 j (by omega) j (Nat.le_refl _) hlt
  have hbd := dl_bound (K := K) (d := d) (m := wk - 1) (n := p.nq) (fun i hi => ⟨by have := (HD.out.2 (d i)).1; omega, (HD.out.2 (d i)).2⟩) j (by omega) (lowI ld (wk - 1))
  have hkb := HD.out.2 (d j)
  have hnx : dl K d (wk - 1) (j + 1) = (setF (dl K d (wk - 1) j).1 (d j) ((lowI (dl K d (wk - 1) j).2 (wk - 1) : Nat) : Int), setF (dl K d (wk - 1) j).2 (lowI (dl K d (wk - 1) j).2 (wk - 1)) ((dl K d (wk - 1) j).2 (lowI (dl K d (wk - 1) j).2 (wk - 1)) + K (d j))) := rfl
  have hwx : wz K d (j + 1) = setF (wz K d j) (d j) 0 := rfl
  rw [HLD.out] at hnx hbd
  obtain ⟨l, hl⟩ : ∃ l, lowI ld (wk - 1) = l := ⟨_, rfl⟩
  rw [hl] at hnx hlow hbd
  rw [hl]
  obtain ⟨pd, hpd⟩ : ∃ pd, d j = pd := ⟨_, rfl⟩
  rw [hpd] at hdj hwzv hkb hnx hwx
  rw [hpd]
  obtain ⟨vl, hvl⟩ : ∃ vl, ld l = vl := ⟨_, rfl⟩
  obtain ⟨vk, hvk⟩ : ∃ vk, K pd = vk := ⟨_, rfl⟩
  rw [hvl] at hbd hnx
  rw [hvk] at hwzv hkb hnx
  have hnn := H3.out.2.2.2.2
  have hoo := HO.out.2.2.2.2
  have x0 := hox.cell hdj
  rw [hwzv] at x0
  have l0c := hrl.cell (show l < wk by omega)
  rw [hvl] at l0c
  have p0 : (0 : Int) ≤ (pd : Int) := by omega
  have p1 : (pd : Int) < (p.nq : Int) := by omega
  have l0 : (0 : Int) ≤ (l : Int) := by omega
  have l1 : (l : Int) < (wk : Int) := by omega
  have e9 : IntKind.i64.wrap (vl + vk) = vl + vk := by rw [IntKind.wrap_i64]; omega
  have ro2 := hro.put pd (l : Int)
  have rl2 := hrl.off (k := bo) (i := pd) (v := .int .i64 (l : Int)) (by omega)
  have ox2 := IRow.off (hox : IRow wr wb.heap.size g p.nq cx (wz K d j)) (k := bo) (i := pd) (v := .int .i64 (l : Int)) (by omega)
  have l0' := rl2.cell (show l < wk by omega)
  rw [hvl] at l0'
  have x0' := ox2.cell hdj
  rw [hwzv] at x0'
  have fo := hro.fz
  have o0 := hro.cell hdj
  have fl := rl2.fz
  have rl3 := rl2.put l (vl + vk)
  have ro3 := ro2.off (k := bl) (i := l) (v := .int .i64 (vl + vk)) (by omega)
  have ox3 := ox2.off (k := bl) (i := l) (v := .int .i64 (vl + vk)) (by omega)
  have hb3 : Below wb.heap.size wb ((wr.setCell ⟨bo, pd, none⟩ (.int .i64 (l : Int))).setCell ⟨bl, l, none⟩ (.int .i64 (vl + vk))) := (hbb.setCell (by show wb.heap.size ≤ bo; omega) _).setCell (by show wb.heap.size ≤ bl; omega) _
  obtain ⟨w5, hw5⟩ : ∃ w5, (wr.setCell ⟨bo, pd, none⟩ (.int .i64 (l : Int))).setCell ⟨bl, l, none⟩ (.int .i64 (vl + vk)) = w5 := ⟨_, rfl⟩
  rw [hw5] at rl3 ro3 ox3 hb3
  have hf1 : (dl K d (wk - 1) (j + 1)).1 = setF (dl K d (wk - 1) j).1 pd (l : Int) := by rw [hnx]
  have hf2 : (dl K d (wk - 1) (j + 1)).2 = setF ld l (vl + vk) := by rw [hnx]
  rw [← hf1] at ro3
  rw [← hf2] at rl3
  have H5 : Hid (IRow w5 wb.heap.size g p.nq cx (wz K d j) ∧ IRow w5 bo bo p.nq p.nq (dl K d (wk - 1) (j + 1)).1 ∧ IRow w5 bl bl wk wk (dl K d (wk - 1) (j + 1)).2 ∧ Below wb.heap.size wb w5 ∧ (wr.setCell ⟨bo, pd, none⟩ (.int .i64 (l : Int))).setCell ⟨bl, l, none⟩ (.int .i64 (vl + vk)) = w5 ∧ wz K d (j + 1) = setF (wz K d j) pd 0 ∧ (wb.heap.size ≤ g ∧ g < bo ∧ bl = bo + 1)) := ⟨ox3, ro3, rl3, hb3, hw5, hwx, hoo.1, hoo.2, by omega⟩
  clear hw5 hro hrl hox hbb hbw hbq hl hpd hvl hvk hnx hf1 hf2 ro2 rl2 ox2 ro3 rl3 ox3 hb3 hbd hkb hwzv hwx hnn hoo hlow
  go_upto_region 20 with fail
  clear x0 l0c fo o0
  go_region
  all_goals (
    rw [H5.out.2.2.2.2.1]
    have hz := H5.out
    have x5 := (hz.1.later (drewG _)).cell hdj
    have f5 := (hz.1.later (drewG _)).fz
    clear x0' l0' fl hz
    go_wp2_with fail
    obtain ⟨z1, z2, z3, z4, -, z6, z7, z8, z9⟩ := H5.out
    have hp1 := z1.put pd 0
    rw [← z6] at hp1
    have hb9 := z4.setCell (p := ⟨g, pd, none⟩) z7 (.int .i64 0)
    exact ⟨⟨j + 1, rfl, hlt, IRow.later hp1 (drewG _), (z2.off (by omega)).later (drewG _), (z3.off (by omega)).later (drewG _), hb9.trans ((drewG _).mono hb9.size)⟩, hm⟩)
end Go.Proofs.Ytkgifanlodlilaa
