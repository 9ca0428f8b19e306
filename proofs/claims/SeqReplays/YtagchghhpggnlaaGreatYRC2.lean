import Derived.Test.YtagchghhpggnlaaGreatYRB1
import Derived.Test.YtagchghhpggnlaaGreatYSV6
import Derived.Test.YtagchghhpggnlaaGreatYRN5
import Derived.OwnWalk
namespace Go.Proofs.YtagchghhpggnlaaGreat
open Go.ChangeShapes Go.WideShapes Go.ChangeAt Go.RowKit
set_option linter.unusedVariables false
set_option linter.unusedSimpArgs false

theorem SIn.six {W : World} {b o m : Nat} {X : Nat → Se} (h : ∀ j, j < m * 6 → W.cell? ⟨b, o + j, none⟩ = some (seF X j)) {i : Nat} (hi : i < m) : W.cell? ⟨b, o + i * 6, none⟩ = some (.int .u64 (X i).t) ∧ W.cell? ⟨b, o + i * 6 + 1, none⟩ = some (.int .i64 (X i).s) ∧ W.cell? ⟨b, o + i * 6 + 2, none⟩ = some (.int .u64 (X i).q) ∧ W.cell? ⟨b, o + i * 6 + 3, none⟩ = some (.int .i64 (X i).d) ∧ W.cell? ⟨b, o + i * 6 + 4, none⟩ = some (.int .i64 (X i).k) ∧ W.cell? ⟨b, o + i * 6 + 5, none⟩ = some (.int .i64 (X i).v) := by
  have hh : ∀ r, r < 6 → W.cell? ⟨b, o + i * 6 + r, none⟩ = some (seC (X i) r) := fun r hr => by
    have := h (i * 6 + r) (by omega)
    rw [seF_at _ _ _ hr] at this
    rw [show o + i * 6 + r = o + (i * 6 + r) by omega]
    exact this
  exact ⟨hh 0 (by decide), hh 1 (by decide), hh 2 (by decide), hh 3 (by decide), hh 4 (by decide), hh 5 (by decide)⟩
theorem eql_se_no (x y : Se) (hne : x ≠ y) (W : World) : (binOp .eql 39 (.agg #[.int .u64 x.t, .int .i64 x.s, .int .u64 x.q, .int .i64 x.d, .int .i64 x.k, .int .i64 x.v]) (.agg #[.int .u64 y.t, .int .i64 y.s, .int .u64 y.q, .int .i64 y.d, .int .i64 y.k, .int .i64 y.v])).run Tryz.prog W = .ok (.bool false) W := by
  by_cases h0 : x.t = y.t
  · have g0 : (x.t == y.t) = true := by simpa using h0
    by_cases h1 : x.s = y.s
    · have g1 : (x.s == y.s) = true := by simpa using h1
      by_cases h2 : x.q = y.q
      · have g2 : (x.q == y.q) = true := by simpa using h2
        by_cases h3 : x.d = y.d
        · have g3 : (x.d == y.d) = true := by simpa using h3
          by_cases h4 : x.k = y.k
          · have g4 : (x.k == y.k) = true := by simpa using h4
            by_cases h5 : x.v = y.v
            · have g5 : (x.v == y.v) = true := by simpa using h5
              exact absurd (by cases x; cases y; simp_all) hne
            · have g5 : (x.v == y.v) = false := by simpa using h5
              go_simp
          · have g4 : (x.k == y.k) = false := by simpa using h4
            go_simp
        · have g3 : (x.d == y.d) = false := by simpa using h3
          go_simp
      · have g2 : (x.q == y.q) = false := by simpa using h2
        go_simp
    · have g1 : (x.s == y.s) = false := by simpa using h1
      go_simp
  · have g0 : (x.t == y.t) = false := by simpa using h0
    go_simp
theorem eql_se_yes (x : Se) (W : World) : (binOp .eql 39 (.agg #[.int .u64 x.t, .int .i64 x.s, .int .u64 x.q, .int .i64 x.d, .int .i64 x.k, .int .i64 x.v]) (.agg #[.int .u64 x.t, .int .i64 x.s, .int .u64 x.q, .int .i64 x.d, .int .i64 x.k, .int .i64 x.v])).run Tryz.prog W = .ok (.bool true) W := by
  go_simp
set_option maxRecDepth 100000 in
set_option maxHeartbeats 4000000 in
attribute [-go_sem] run_eql_struct in
theorem at_any (q : Option Addr) (m c : Nat) (X : Nat → Se) (e : Se) (hm : m ≤ 2932031007402) (w : World) (h : SIn w q m X) : Calls Tryz.prog 23 #[.slice q m c, .agg #[.int .u64 e.t, .int .i64 e.s, .int .u64 e.q, .int .i64 e.d, .int .i64 e.k, .int .i64 e.v]] w fun r w' => (∃ n : Int, r = .returned (.int .i64 n) ∧ ((∃ j, j < m ∧ X j = e) → 0 ≤ n) ∧ (n < 0 → ∀ j, j < m → X j ≠ e)) ∧ Below w.heap.size w w' := by
  obtain ⟨wb, hwb⟩ : ∃ wb, w.alloc (.cells #[.int .u64 e.t, .int .i64 e.s, .int .u64 e.q, .int .i64 e.d, .int .i64 e.k, .int .i64 e.v] 39) = wb := ⟨_, rfl⟩
  obtain ⟨hb0, hbox, hsz⟩ := boxed _ _ _ hwb
  have HW : Hid (w.alloc (.cells #[.int .u64 e.t, .int .i64 e.s, .int .u64 e.q, .int .i64 e.d, .int .i64 e.k, .int .i64 e.v] 39) = wb) := hwb
  have HB : Hid (Below w.heap.size w wb ∧ wb.heap[w.heap.size]? = some (.cells #[.int .u64 e.t, .int .i64 e.s, .int .u64 e.q, .int .i64 e.d, .int .i64 e.k, .int .i64 e.v] 39 (0, 0)) ∧ SIn wb q m X) := ⟨hb0, hbox, h.below hb0⟩
  clear hwb hb0 hbox hsz h
  go_enter Tryz.func23, Tryz.ntmps23
  go_wp2_with fail
  rw [HW.out]
  go_loopw [5] (fun v5 wr => ∃ i : Nat, v5 = .int .i64 (i : Int) ∧ i ≤ m ∧ (∀ j, j < i → X j ≠ e) ∧ Below wb.heap.size wb wr) (fun v5 _ => m - (intOf v5).toNat)
  case atStart => exact ⟨0, rfl, Nat.zero_le _, fun j hj => absurd hj (Nat.not_lt_zero _), Below.refl _ _⟩
  case round =>
    obtain ⟨i, rfl, hi, hne, hbr⟩ := hrel
    have HN : Hid ((∀ j, j < i → X j ≠ e) ∧ Below wb.heap.size wb wr) := ⟨hne, hbr⟩
    by_cases hlt : i < m
    case pos =>
      have d1 : decide ((i : Int) < (m : Int)) = true := decide_eq_true (by omega)
      have d2 : decide (i < m) = true := decide_eq_true hlt
      have i0 : (0 : Int) ≤ (i : Int) := by omega
      have i1 : (i : Int) < (m : Int) := by omega
      have ei : IntKind.i64.wrap ((i : Int) + 1) = (i : Int) + 1 := by rw [IntKind.wrap_i64]; omega
      have HM := meas hlt
      obtain hz | ⟨bq, oq, hq, hlq, hcq⟩ := HB.out.2.2.below hbr
      · omega
      have hbd : Below wr.heap.size wr wr.drew := (Below.refl _ wr).drew
      have hxb := (hbr.block _ (lt_of_block HB.out.2.1)).trans HB.out.2.1
      obtain ⟨y0, y1, y2, y3, y4, y5⟩ := SIn.six hcq hlt
      have z0 : wr.cell? ⟨w.heap.size, 0, none⟩ = some (.int .u64 e.t) := cell_in hxb rfl
      have z1 : wr.cell? ⟨w.heap.size, 1, none⟩ = some (.int .i64 e.s) := cell_in hxb rfl
      have z2 : wr.cell? ⟨w.heap.size, 2, none⟩ = some (.int .u64 e.q) := cell_in hxb rfl
      have z3 : wr.cell? ⟨w.heap.size, 3, none⟩ = some (.int .i64 e.d) := cell_in hxb rfl
      have z4 : wr.cell? ⟨w.heap.size, 4, none⟩ = some (.int .i64 e.k) := cell_in hxb rfl
      have z5 : wr.cell? ⟨w.heap.size, 5, none⟩ = some (.int .i64 e.v) := cell_in hxb rfl
      rw [hq]
      by_cases he : X i = e
      case pos =>
        have ne1 : ∀ W, (binOp .eql 39 (.agg #[.int .u64 (X i).t, .int .i64 (X i).s, .int .u64 (X i).q, .int .i64 (X i).d, .int .i64 (X i).k, .int .i64 (X i).v]) (.agg #[.int .u64 e.t, .int .i64 e.s, .int .u64 e.q, .int .i64 e.d, .int .i64 e.k, .int .i64 e.v])).run Tryz.prog W = .ok (.bool true) W := fun W => by rw [he]; exact eql_se_yes e W
        have HE : Hid (X i = e) := he
        clear hq hlq hcq hbr hxb hne he
        go_upto_region 4 with fail
        go_quiet (fail)
        go_wp2_with fail
        go_ret
        exact ⟨⟨(i : Int), rfl, fun _ => by omega, fun h9 => absurd h9 (by omega)⟩, HB.out.1.trans ((HN.out.2.trans ((below_drewNq _ wr _).mono HN.out.2.size)).mono HB.out.1.size)⟩
      have ne1 : ∀ W, (binOp .eql 39 (.agg #[.int .u64 (X i).t, .int .i64 (X i).s, .int .u64 (X i).q, .int .i64 (X i).d, .int .i64 (X i).k, .int .i64 (X i).v]) (.agg #[.int .u64 e.t, .int .i64 e.s, .int .u64 e.q, .int .i64 e.d, .int .i64 e.k, .int .i64 e.v])).run Tryz.prog W = .ok (.bool false) W := fun W => eql_se_no (X i) e he W
      have HE : Hid (X i ≠ e) := he
      clear hq hlq hcq hbr hxb hne he
      go_upto_region 4 with fail
      go_quiet (fail)
      go_wp2_with fail
      refine ⟨⟨i + 1, rfl, hlt, fun j hj => ?_, HN.out.2.trans ((below_drewNq _ wr _).mono HN.out.2.size)⟩, HM⟩
      by_cases e9 : j = i
      · rw [e9]; exact HE.out
      · exact HN.out.1 j (by omega)
    have d1 : decide ((i : Int) < (m : Int)) = false := decide_eq_false (by omega)
    have d2 : decide (i < m) = false := decide_eq_false hlt
    obtain rfl : i = m := by omega
    clear hne hbr
    go_wp2_with fail
    go_ret
    exact ⟨⟨-1, rfl, fun ⟨j, hj, h9⟩ => absurd h9 (HN.out.1 j hj), fun _ => HN.out.1⟩, HB.out.1.trans (HN.out.2.mono HB.out.1.size)⟩
end Go.Proofs.YtagchghhpggnlaaGreat
namespace Go.Proofs.YtagchghhpggnlaaGreat
open Go.ChangeShapes Go.WideShapes Go.ChangeAt Go.RowKit
set_option linter.unusedVariables false
set_option linter.unusedSimpArgs false

theorem made1u (z : Value) (hz : z.cells = #[z]) (n j : Nat) (hj : j < n * 1) : (madeCells z.cells (n * 1)).toList.getD j undef = z := by
  rw [Nat.mul_one] at hj
  unfold madeCells
  rw [hz]
  simp [hj, Nat.mod_one]
theorem madeU (n j : Nat) (hj : j < n * 1) : (madeCells (Value.int .u64 0).cells (n * 1)).toList.getD j undef = .int .u64 0 := made1u (Value.int .u64 0) rfl n j hj
theorem infoU8 : (Tryz.prog.info? 25).map (fun i => (i.zero, i.size, i.bytes)) = some (some (.int .u64 0), 1, 8) := by kernel_rfl
theorem cnt_put {W : World} {b g n cap : Nat} {S : Nat → St} {i dn : Nat} (h : Own W b 25 1 (.slice (some ⟨g, 0, none⟩) n cap) n (fun j => .int .u64 ((cntS S i ((j : Nat) : Int) : Nat) : Int))) (hd : (S i).d = (dn : Int)) : Own (W.setCell ⟨g, dn, none⟩ (.int .u64 (((cntS S i (dn : Int) : Nat) : Int) + 1))) b 25 1 (.slice (some ⟨g, 0, none⟩) n cap) n (fun j => .int .u64 ((cntS S (i + 1) ((j : Nat) : Int) : Nat) : Int)) := by
  refine Own.congr (Own.put h dn [.int .u64 (((cntS S i (dn : Int) : Nat) : Int) + 1)]) fun j hj => ?_
  unfold putF
  have e : cntS S (i + 1) ((j : Nat) : Int) = cntS S i ((j : Nat) : Int) + (if (S i).d = ((j : Nat) : Int) then 1 else 0) := rfl
  by_cases x : dn ≤ j ∧ j < dn + [Value.int .u64 (((cntS S i (dn : Int) : Nat) : Int) + 1)].length
  · have hl : [Value.int .u64 (((cntS S i (dn : Int) : Nat) : Int) + 1)].length = 1 := rfl
    obtain rfl : j = dn := by omega
    rw [if_pos x, show j - j = 0 by omega]
    rw [e, if_pos hd]
    rfl
  · have hl : [Value.int .u64 (((cntS S i (dn : Int) : Nat) : Int) + 1)].length = 1 := rfl
    rw [if_neg x]
    dsimp only
    rw [e, if_neg (by omega)]
    rfl
set_option maxRecDepth 100000 in
set_option maxHeartbeats 8000000 in
theorem there_any (p : Pl) (v : PlV) (w : World) (h : PlAt w p v) (hT : GT p) (hS : GS p) : Calls Tryz.prog 21 #[.agg #[.int .i64 p.ki, .slice v.pp p.np v.pc, .slice v.tp p.nq v.tc, .slice v.sp p.ns v.sc, .int .u64 p.sd, .int .u64 p.lk, .int .u64 p.en, .int .i64 p.bu, .int .i64 p.fu]] w fun e w' => ∃ (q : Option Addr) (c : Nat), e = .returned (.slice q p.ns c) ∧ Own w' w.heap.size 39 6 (.slice q p.ns c) p.ns (seF (evS p.S)) ∧ Below w.heap.size w w' := by
  obtain ⟨iE, hE1, hE2, hE3, hE4⟩ := sinfo infoSE
  obtain ⟨iU, hU1, hU2, hU3, hU4⟩ := sinfo infoU8
  obtain ⟨wb, hwb⟩ : ∃ wb, w.alloc (.cells #[.int .i64 p.ki, .slice v.pp p.np v.pc, .slice v.tp p.nq v.tc, .slice v.sp p.ns v.sc, .int .u64 p.sd, .int .u64 p.lk, .int .u64 p.en, .int .i64 p.bu, .int .i64 p.fu] 27) = wb := ⟨_, rfl⟩
  obtain ⟨hb0, hbox, hsz⟩ := boxed _ _ _ hwb
  have HW : Hid (w.alloc (.cells #[.int .i64 p.ki, .slice v.pp p.np v.pc, .slice v.tp p.nq v.tc, .slice v.sp p.ns v.sc, .int .u64 p.sd, .int .u64 p.lk, .int .u64 p.en, .int .i64 p.bu, .int .i64 p.fu] 27) = wb) := hwb
  have HSZ : Hid (wb.heap.size = w.heap.size + 1) := hsz
  have HP : Hid (PlAt w p v) := h
  have HS : Hid (GS p) := hS
  have HB0 : Hid (Below w.heap.size w wb ∧ wb.heap[w.heap.size]? = some (.cells #[.int .i64 p.ki, .slice v.pp p.np v.pc, .slice v.tp p.nq v.tc, .slice v.sp p.ns v.sc, .int .u64 p.sd, .int .u64 p.lk, .int .u64 p.en, .int .i64 p.bu, .int .i64 p.fu] 27 (0, 0))) := ⟨hb0, hbox⟩
  have hnq := hT.1
  have hns := hS.1
  have c2 : wb.cell? ⟨w.heap.size, 2, none⟩ = some (.slice v.tp p.nq v.tc) := cell_in hbox rfl
  clear h hT hS hwb hb0 hbox hsz
  go_enter Tryz.func21, Tryz.ntmps21
  go_upto_region 1 with fail
  rw [HW.out]
  go_upto_region 2 with (at_make; refine wpList_make_full _ rfl (.tmp 9) (.tmp 9) 96 rfl wb.heap.size 25 iU _ 1 Tryz.underlying96 hU1 hU2 hU3 .i64 .i64 p.nq p.nq p.nq rfl rfl rfl rfl ?c1 ?c2 ?c3 ?_)
  case c1 => rw [hU4]; omega
  case c2 => unfold maxLen; omega
  case c3 => exact Nat.le_refl _
  intro w1 hown hgrow
  have hb1 : Below wb.heap.size wb w1 := (Below.refl _ _).grown hgrow (Nat.le_refl _) (by simp)
  have ho1 : Own w1 wb.heap.size 25 1 (.slice (some ⟨wb.heap.size, 0, none⟩) p.nq p.nq) p.nq (fun j => .int .u64 ((cntS p.S 0 ((j : Nat) : Int) : Nat) : Int)) := by
    refine Own.congr (own_of_row hown) fun j hj => ?_
    have h9 := madeU p.nq j hj
    rw [Nat.mul_one] at h9
    exact h9
  obtain ⟨gs, hgs⟩ : ∃ gs, wb.heap.size = gs := ⟨_, rfl⟩
  have hgl := (Own.lt ho1 wb.heap.size rfl).2
  have H1 : Hid (Below wb.heap.size wb w1 ∧ Own w1 wb.heap.size 25 1 (.slice (some ⟨gs, 0, none⟩) p.nq p.nq) p.nq (fun j => .int .u64 ((cntS p.S 0 ((j : Nat) : Int) : Nat) : Int)) ∧ wb.heap.size = gs ∧ gs < w1.heap.size) := ⟨hb1, by rw [← hgs]; rw [← hgs] at *; exact ho1, hgs, by omega⟩
  rw [hgs]
  clear hown hgrow hb1 ho1 hgs hgl c2
  go_upto_region 4 with fail
  go_loopw [4, 5] (fun l x wr => ∃ (i : Nat), x = .int .i64 (i : Int) ∧ i ≤ p.ns ∧ Own wr w1.heap.size 39 6 l i (seF (evS p.S)) ∧ Own wr wb.heap.size 25 1 (.slice (some ⟨gs, 0, none⟩) p.nq p.nq) p.nq (fun j => .int .u64 ((cntS p.S i ((j : Nat) : Int) : Nat) : Int)) ∧ Below wb.heap.size wb wr ∧ w1.heap.size ≤ wr.heap.size) (fun _ x _ => p.ns - (intOf x).toNat)
  case atStart => exact ⟨0, rfl, Nat.zero_le _, World.ownsRow_nil _ _ _ _, H1.out.2.1, H1.out.1, Nat.le_refl _⟩
  case round =>
    obtain ⟨i, rfl, hi, hev, hct, hbr, hsz1⟩ := hrel
    have hboxr := (hbr.block w.heap.size (lt_of_block HB0.out.2)).trans HB0.out.2
    have hbw : Below w.heap.size w wr := HB0.out.1.trans (hbr.mono HB0.out.1.size)
    have c3 : wr.cell? ⟨w.heap.size, 3, none⟩ = some (.slice v.sp p.ns v.sc) := cell_in hboxr rfl
    by_cases hlt : i < p.ns
    case pos =>
      have dlt : decide ((i : Int) < (p.ns : Int)) = true := by simp; omega
      have i0 : (0 : Int) ≤ (i : Int) := by omega
      have i1 : (i : Int) < (p.ns : Int) := by omega
      have ei : IntKind.i64.wrap ((i : Int) + 1) = (i : Int) + 1 := by rw [IntKind.wrap_i64]; omega
      have hm := meas hlt
      obtain hz | ⟨gt, ot, hpp, hl, hc⟩ := (HP.out.below hbw).st
      · omega
      obtain ⟨y0, y1, y2, y3⟩ := hc i hlt
      obtain ⟨⟨hd0, hd1⟩, _, _⟩ := HS.out.2 i hlt
      obtain ⟨dn, hdn⟩ : ∃ dn : Nat, (p.S i).d = (dn : Int) := ⟨(p.S i).d.toNat, by omega⟩
      have hdl : dn < p.nq := by omega
      have j0 : (0 : Int) ≤ (dn : Int) := by omega
      have j1 : (dn : Int) < (p.nq : Int) := by omega
      rw [hdn] at y1
      obtain ⟨cn, hcn⟩ : ∃ cn, cntS p.S i (dn : Int) = cn := ⟨_, rfl⟩
      have hcl := cntS_le p.S i (dn : Int)
      have eu : IntKind.u64.wrap ((cn : Int) + 1) = (cn : Int) + 1 := by simp only [IntKind.wrap, IntKind.bits, IntKind.signed]; simp; omega
      obtain ⟨w2, hw2⟩ : ∃ w2, wr.alloc (.cells #[.int .u64 (p.S i).t, .int .i64 (dn : Int), .int .i64 (p.S i).k, .int .i64 (p.S i).v] 72) = w2 := ⟨_, rfl⟩
      obtain ⟨hb2, hx2, hsz2⟩ := boxed _ _ _ hw2
      have HW2 : Hid (wr.alloc (.cells #[.int .u64 (p.S i).t, .int .i64 (dn : Int), .int .i64 (p.S i).k, .int .i64 (p.S i).v] 72) = w2) := hw2
      obtain ⟨g2, hg2⟩ : ∃ g2, wr.heap.size = g2 := ⟨_, rfl⟩
      have HG2 : Hid (wr.heap.size = g2) := hg2
      rw [hg2] at hx2
      have hev2 := Own.later hev hb2
      have hct2 := Own.later hct hb2
      have hgsl := (Own.lt hct gs rfl)
      have hcell : w2.cell? ⟨gs, dn, none⟩ = some (.int .u64 (cn : Int)) := by
        rw [← hcn]
        exact Own.cell hct2 (j := dn) (by omega)
      have hbd : Below w2.heap.size w2 w2.drew := (Below.refl _ w2).drew
      have hb24 : Below w2.heap.size w2 (w2.alloc (.cells (seL ⟨(p.S i).t, (dn : Int), (cn : Int), (dn : Int), (p.S i).k, (p.S i).v⟩).toArray 39)).drew := ((Below.refl _ w2).alloc (Nat.le_refl _) _).drew
      have HA : Hid (Own w2 w1.heap.size 39 6 u4 i (seF (evS p.S)) ∧ Own w2 wb.heap.size 25 1 (.slice (some ⟨gs, 0, none⟩) p.nq p.nq) p.nq (fun j => .int .u64 ((cntS p.S i ((j : Nat) : Int) : Nat) : Int)) ∧ Below wb.heap.size wb w2 ∧ w1.heap.size ≤ w2.heap.size ∧ (p.S i).d = (dn : Int) ∧ cntS p.S i (dn : Int) = cn ∧ w2.heap[g2]? = some (.cells #[.int .u64 (p.S i).t, .int .i64 (dn : Int), .int .i64 (p.S i).k, .int .i64 (p.S i).v] 72 (0, 0)) ∧ w1.heap.size ≤ g2 ∧ (∀ k, u4.ownBlock = some k → k < g2)) := ⟨hev2, hct2, hbr.trans (hb2.mono hbr.size), by omega, hdn, hcn, hx2, by omega, fun k hk => by have := (Own.lt hev k hk).2; omega⟩
      have KK : ∀ W, Below w2.heap.size w2 W → ((W.cell? ⟨g2, 0, none⟩ = some (.int .u64 (p.S i).t) ∧ W.cell? ⟨g2, 1, none⟩ = some (.int .i64 (dn : Int)) ∧ W.cell? ⟨g2, 2, none⟩ = some (.int .i64 (p.S i).k) ∧ W.cell? ⟨g2, 3, none⟩ = some (.int .i64 (p.S i).v)) ∧ W.cell? ⟨gs, dn, none⟩ = some (.int .u64 (cn : Int))) := fun W hb => by
        have e2 := (hb.block _ (lt_of_block hx2)).trans hx2
        exact ⟨⟨cell_in e2 rfl, cell_in e2 rfl, cell_in e2 rfl, cell_in e2 rfl⟩, (cell_below (a := ⟨gs, dn, none⟩) hb (by show gs < w2.heap.size; omega)).trans hcell⟩
      have HKGR : Hid (∀ W W', Below w2.heap.size w2 W → W.grownBy W' u4.ownBlock → ((W'.cell? ⟨g2, 0, none⟩ = some (.int .u64 (p.S i).t) ∧ W'.cell? ⟨g2, 1, none⟩ = some (.int .i64 (dn : Int)) ∧ W'.cell? ⟨g2, 2, none⟩ = some (.int .i64 (p.S i).k) ∧ W'.cell? ⟨g2, 3, none⟩ = some (.int .i64 (p.S i).v)) ∧ W'.cell? ⟨gs, dn, none⟩ = some (.int .u64 (cn : Int)))) := fun W W' hb hg => by
        obtain ⟨⟨k0, k1, k2, k3⟩, k4⟩ := KK W hb
        have n1 : ¬ (some g2 = u4.ownBlock) := fun e => by have := HA.out.2.2.2.2.2.2.2.2 g2 e.symm; omega
        have n2 : ¬ (some gs = u4.ownBlock) := fun e => by have := (Own.lt HA.out.1 gs e.symm).1; have := H1.out.2.2.2; omega
        have q1 := hg.block g2 (Nat.lt_of_lt_of_le (lt_of_block hx2) hb.size) n1
        have q2 := hg.block gs (by have := hb.size; omega) n2
        exact ⟨⟨(World.cell?_of_block q1).trans k0, (World.cell?_of_block q1).trans k1, (World.cell?_of_block q1).trans k2, (World.cell?_of_block q1).trans k3⟩, (World.cell?_of_block q2).trans k4⟩
      have KP0 := KK w2.drew hbd
      have KP1 : (((w2.alloc (.cells #[.int .u64 (p.S i).t, .int .i64 (dn : Int), .int .u64 (cn : Int), .int .i64 (dn : Int), .int .i64 (p.S i).k, .int .i64 (p.S i).v] 39)).drew.cell? ⟨g2, 0, none⟩ = some (.int .u64 (p.S i).t) ∧ (w2.alloc (.cells #[.int .u64 (p.S i).t, .int .i64 (dn : Int), .int .u64 (cn : Int), .int .i64 (dn : Int), .int .i64 (p.S i).k, .int .i64 (p.S i).v] 39)).drew.cell? ⟨g2, 1, none⟩ = some (.int .i64 (dn : Int)) ∧ (w2.alloc (.cells #[.int .u64 (p.S i).t, .int .i64 (dn : Int), .int .u64 (cn : Int), .int .i64 (dn : Int), .int .i64 (p.S i).k, .int .i64 (p.S i).v] 39)).drew.cell? ⟨g2, 2, none⟩ = some (.int .i64 (p.S i).k) ∧ (w2.alloc (.cells #[.int .u64 (p.S i).t, .int .i64 (dn : Int), .int .u64 (cn : Int), .int .i64 (dn : Int), .int .i64 (p.S i).k, .int .i64 (p.S i).v] 39)).drew.cell? ⟨g2, 3, none⟩ = some (.int .i64 (p.S i).v)) ∧ (w2.alloc (.cells #[.int .u64 (p.S i).t, .int .i64 (dn : Int), .int .u64 (cn : Int), .int .i64 (dn : Int), .int .i64 (p.S i).k, .int .i64 (p.S i).v] 39)).drew.cell? ⟨gs, dn, none⟩ = some (.int .u64 (cn : Int))) := KK (w2.alloc (.cells (seL ⟨(p.S i).t, (dn : Int), (cn : Int), (dn : Int), (p.S i).k, (p.S i).v⟩).toArray 39)).drew hb24
      have p1 : i + 1 ≤ maxLen := by unfold maxLen; omega
      have p2 : (i + 1) * 48 ≤ 140737488355328 := by omega
      have H3 : Hid ((w2.alloc (.cells (seL ⟨(p.S i).t, (dn : Int), (cn : Int), (dn : Int), (p.S i).k, (p.S i).v⟩).toArray 39)).drew.ownsRow w1.heap.size 39 6 u4 i (cellsF (seF (evS p.S)) (i * 6)) ∧ (∀ j y, (seL ⟨(p.S i).t, (dn : Int), (cn : Int), (dn : Int), (p.S i).k, (p.S i).v⟩)[j]? = some y → (w2.alloc (.cells (seL ⟨(p.S i).t, (dn : Int), (cn : Int), (dn : Int), (p.S i).k, (p.S i).v⟩).toArray 39)).drew.cell? ((⟨w2.heap.size, 0, none⟩ : Addr).add j) = some y) ∧ w1.heap.size ≤ (w2.alloc (.cells (seL ⟨(p.S i).t, (dn : Int), (cn : Int), (dn : Int), (p.S i).k, (p.S i).v⟩).toArray 39)).drew.heap.size) := ⟨srow_later HA.out.1 hb24, scells_new w2 (seL ⟨(p.S i).t, (dn : Int), (cn : Int), (dn : Int), (p.S i).k, (p.S i).v⟩) _, by have := hb24.size; have := HA.out.2.2.2.1; omega⟩
      rw [hpp] at c3
      have HB24 : Hid (Below w2.heap.size w2 (w2.alloc (.cells (seL ⟨(p.S i).t, (dn : Int), (cn : Int), (dn : Int), (p.S i).k, (p.S i).v⟩).toArray 39)).drew) := hb24
      clear hw2 hb2 hx2 hsz2 hg2 hev hct hev2 hct2 hgsl hcell hc hl hpp hbw hbr hboxr hdn hcn hcl hd0 hd1 hsz1
      go_upto_region 7 with fail
      rw [HW2.out, HG2.out]
      go_region_held3 (fun W => ((W.cell? ⟨g2, 0, none⟩ = some (.int .u64 (p.S i).t) ∧ W.cell? ⟨g2, 1, none⟩ = some (.int .i64 (dn : Int)) ∧ W.cell? ⟨g2, 2, none⟩ = some (.int .i64 (p.S i).k) ∧ W.cell? ⟨g2, 3, none⟩ = some (.int .i64 (p.S i).v)) ∧ W.cell? ⟨gs, dn, none⟩ = some (.int .u64 (cn : Int)))) (first | with_reducible exact KP0 | with_reducible exact KP1 | with_reducible exact KP2 | go_keep) (first | (refine step_ap rfl (.tmp 23) (.tmp 41) 34 rfl w1.heap.size 39 iE _ 6 48 Tryz.underlying34 hE1 hE2 hE3 hE4 rfl (by decide) u4 i (cellsF (seF (evS p.S)) (i * 6)) (by simp [Act.eval]) H3.out.1 ⟨w2.heap.size, 0, none⟩ 1 1 (seL ⟨(p.S i).t, (dn : Int), (cn : Int), (dn : Int), (p.S i).k, (p.S i).v⟩) (by simp [Act.eval, seL]) rfl H3.out.2.1 (by simp [seL, Value.oneCell']) p1 p2 H3.out.2.2 ?_; intro v' w9 hown9 hgrow9 hnb9; have KP2 := HKGR.out _ w9 HB24.out hgrow9; have H9 : Hid (w9.ownsRow w1.heap.size 39 6 v' (i + 1) (cellsF (seF (evS p.S)) (i * 6) ++ (seL ⟨(p.S i).t, (dn : Int), (cn : Int), (dn : Int), (p.S i).k, (p.S i).v⟩)) ∧ (w2.alloc (.cells (seL ⟨(p.S i).t, (dn : Int), (cn : Int), (dn : Int), (p.S i).k, (p.S i).v⟩).toArray 39)).drew.grownBy w9 u4.ownBlock ∧ (v'.ownBlock = u4.ownBlock ∨ v'.ownBlock = some (w2.alloc (.cells (seL ⟨(p.S i).t, (dn : Int), (cn : Int), (dn : Int), (p.S i).k, (p.S i).v⟩).toArray 39)).drew.heap.size)) := ⟨hown9, hgrow9, hnb9⟩; clear hown9 hgrow9 hnb9))
      all_goals (
        obtain ⟨hown9, hgrow9, hnb9⟩ := H9.out
        obtain ⟨a1, a2, a3, a4, a5, a6, a7, a8, a9⟩ := HA.out
        have ho9 : Own w9 w1.heap.size 39 6 v' (i + 1) (seF (evS p.S)) := by
          unfold Own
          rw [← se_app (evS p.S) (evS p.S) i ⟨(p.S i).t, (dn : Int), (cn : Int), (dn : Int), (p.S i).k, (p.S i).v⟩ (fun _ _ => rfl) (by unfold evS; rw [a5, a6])]
          exact hown9
        have hgl := H1.out.2.2.2
        have hct9 : Own w9 wb.heap.size 25 1 (.slice (some ⟨gs, 0, none⟩) p.nq p.nq) p.nq (fun j => .int .u64 ((cntS p.S i ((j : Nat) : Int) : Nat) : Int)) := Own.far (Own.later a2 HB24.out) fun k hk => by
          have e9 : gs = k := by injection hk
          exact hgrow9.block k (by have := HB24.out.size; omega) (fun e => by have := (Own.lt a1 k e.symm).1; omega)
        have hb9 : Below wb.heap.size wb w9 := (a3.trans (HB24.out.mono a3.size)).grown hgrow9 (by have := HB24.out.size; have := a3.size; omega) (fun k hk => by have := (Own.lt a1 k hk).1; have := H1.out.1.size; omega)
        have hz9 : w1.heap.size ≤ w9.heap.size := by have := hgrow9.size; have := HB24.out.size; omega
        have r0 : w9.cell? ⟨gs, dn, none⟩ = some (.int .u64 (cn : Int)) := KP2.2
        obtain ⟨cur, hblk, _⟩ := Own.block hct9
        have fz : w9.frozen? ⟨gs, dn, none⟩ = false := by simp [World.frozen?, hblk]
        have x1 : w9.cell? ⟨g2, 1, none⟩ = some (.int .i64 (dn : Int)) := KP2.1.2.1
        have H10 : Hid (Own w9 w1.heap.size 39 6 v' (i + 1) (seF (evS p.S)) ∧ Own w9 wb.heap.size 25 1 (.slice (some ⟨gs, 0, none⟩) p.nq p.nq) p.nq (fun j => .int .u64 ((cntS p.S i ((j : Nat) : Int) : Nat) : Int)) ∧ Below wb.heap.size wb w9 ∧ w1.heap.size ≤ w9.heap.size) := ⟨ho9, hct9, hb9, hz9⟩
        clear KP0 KP1 KP2 hown9 hgrow9 hnb9 a1 a2 a3 a4 a5 a6 a7 a8 a9 ho9 hct9 hb9 hz9 hblk y0 y1 y2 y3 c3 hgl
        go_wp2_with fail
        obtain ⟨b1, b2, b3, b4⟩ := H10.out
        obtain ⟨a1, a2, a3, a4, a5, a6, a7, a8, a9⟩ := HA.out
        have hgl := H1.out.2.2
        refine ⟨⟨i + 1, rfl, hlt, Own.far b1 fun k hk => Below.heap_setCell _ _ _ _ (by have := (Own.lt b1 k hk).1; show k ≠ gs; omega), ?_, b3.setCell (p := ⟨gs, dn, none⟩) (by show wb.heap.size ≤ gs; omega) _, by simp [World.setCell]; exact b4⟩, hm⟩
        have h9 := cnt_put b2 a5
        rw [a6] at h9
        exact h9)
    have dlt : decide ((i : Int) < (p.ns : Int)) = false := by simp; omega
    obtain rfl : i = p.ns := by omega
    obtain ⟨lp, lc, rfl⟩ := own_slice hev
    have HF : Hid (Own wr w1.heap.size 39 6 (.slice lp p.ns lc) p.ns (seF (evS p.S)) ∧ Below w.heap.size w wr) := ⟨hev, hbw⟩
    clear hev hct hbr hboxr hbw
    go_wp2_with fail
    go_ret
    exact ⟨lp, lc, rfl, HF.out.1.lower (by have := H1.out.1.size; have := HB0.out.1.size; omega), HF.out.2⟩
end Go.Proofs.YtagchghhpggnlaaGreat
