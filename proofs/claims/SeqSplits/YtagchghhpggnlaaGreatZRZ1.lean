import Derived.Test.YtagchghhpggnlaaGreatZRN20
import Derived.Test.YtagchghhpggnlaaGreatZRN24a
import Derived.Test.YtagchghhpggnlaaGreatZRP6
import Derived.Test.YtagchghhpggnlaaGreatZOP9n
import Derived.BigQuiet
namespace Go.Proofs.YtagchghhpggnlaaGreat
open Go.ChangeShapes Go.WideShapes Go.ChangeAt Go.RowKit
set_option linter.unusedVariables false
set_option linter.unusedSimpArgs false

theorem SimR.skipS {S : Nat → Prop} {W W' : World} {b0 sb : Nat} {p : Pl} {A : Ab} {R : Rv} (h : SimR W b0 sb p A R) (hk : Kq S W W') (ha : ∀ r, S r → Av p R sb r) : SimR W' b0 sb p A R := by
  have n0 : ¬ S sb := fun e => (ha sb e).1 (.inl rfl)
  refine ⟨(hk.block sb h.lt n0).trans h.box, h.b, h.ps.kb0 hk.kb (fun g o e hn e9 => (ha g e9).2.1 g o e hn rfl) (fun j hj => ⟨fun g o e hn e9 => ((ha g e9).2.2 j hj).1 g o e hn rfl, fun g o e hn e9 => ((ha g e9).2.2 j hj).2.1 g o e hn rfl⟩), h.st.far fun k e => hk.block k (Own.lt h.st k e).2 fun e9 => (ha k e9).1 (.inr (.inl e.symm)), fun j hj => ⟨(h.wd j hj).1, (h.wd j hj).2.1.kb0 hk.kb (fun g o e hn e9 => ((ha g e9).2.2 j hj).2.2 g o e hn rfl), (h.wd j hj).2.2⟩, h.q.far fun k e => hk.block k (Own.lt h.q k e).2 fun e9 => (ha k e9).1 (.inr (.inr (.inl e.symm))), h.tr.far fun k e => hk.block k (Own.lt h.tr k e).2 fun e9 => (ha k e9).1 (.inr (.inr (.inr e.symm))), h.hp, h.inj, h.set, h.nb, h.n1, h.n2, h.n3, h.n4, h.n5, h.r0, h.r1⟩
/-- a run's states, as a point has them -/
def saO (p : Pl) (A : Ab) (R : Rv) : Nat → Sa := fun j => if j < p.nq then R.C j else ⟨none, p.nw j, 0, A.d j, A.s j⟩
theorem saO_eq {W : World} {b0 sb : Nat} {p : Pl} {A : Ab} {R : Rv} (h : SimR W b0 sb p A R) : ∀ j, ((saO p A R j).n = p.nw j ∧ (saO p A R j).d = A.d j ∧ (saO p A R j).s = A.s j) := fun j => by
  unfold saO
  by_cases e : j < p.nq
  · rw [if_pos e]; exact (h.wd j e).1
  · rw [if_neg e]; exact ⟨rfl, rfl, rfl⟩
theorem SimR.atF {W : World} {b0 sb : Nat} {p : Pl} {A : Ab} {R : Rv} (h : SimR W b0 sb p A R) : SimAtF W sb p ⟨p.nq, saO p A R, A.K, R.n, R.X, A.m, A.Z⟩ A.f := by
  obtain ⟨q1, c1, e1⟩ := own_slice h.st
  obtain ⟨q2, c2, e2⟩ := own_slice h.q
  obtain ⟨q3, c3, e3⟩ := own_slice h.tr
  have hb := h.box
  have hst := h.st
  have hq := h.q
  have htr := h.tr
  rw [e1] at hst
  rw [e2] at hq
  rw [e3] at htr
  rw [e1, e2, e3] at hb
  obtain ⟨q1', c1', e9, hss⟩ := own_ss (K := A.K) hst (fun j hj => by rw [(h.wd j hj).1.1]; exact (h.wd j hj).2.1)
  injection e9 with a b c
  subst a
  subst c
  exact ⟨R.pq, R.pc, R.U, ⟨q1, c1, q2, c2, q3, c3⟩, hb, h.ps, ⟨R.C, fun j hj => by
    have e : saO p A R j = R.C j := by unfold saO; rw [if_pos hj]
    show (R.C j).n = (saO p A R j).n ∧ (R.C j).d = (saO p A R j).d ∧ (R.C j).s = (saO p A R j).s
    rw [e]
    exact ⟨rfl, rfl, rfl⟩, hss⟩, own_sin0 hq, own_sin0 htr⟩
theorem SimR.roomyN {W : World} {b0 sb : Nat} {p : Pl} {A : Ab} {R : Rv} (h : SimR W b0 sb p A R) (ho : AOk2 p A) (hr : RoomyL p) (hT : GT p) : RoomyN ⟨p.nq, saO p A R, A.K, R.n, R.X, A.m, A.Z⟩ := by
  have h1 := hT.1
  have h2 := h.nb
  have h3 := ho.m
  refine ⟨by show p.nq * 40 ≤ _; omega, fun j hj => by show (saO p A R j).n ≤ _; rw [(saO_eq h j).1]; exact hr.nw j hj, by show R.n ≤ _; omega, by show A.m ≤ _; omega⟩
theorem ab_point {W : World} {b0 sb : Nat} {p : Pl} {A : Ab} {R : Rv} (h : SimR W b0 sb p A R) {d : Nat → Se} (hs : Stb klt 0 R.n R.X d) : abO ⟨p.nq, saO p A R, A.K, R.n, d, A.m, A.Z⟩ = { A with f := 0 } := by
  have e1 : (fun j => (saO p A R j).d) = A.d := funext fun j => (saO_eq h j).2.1
  have e2 : (fun j => (saO p A R j).s) = A.s := funext fun j => (saO_eq h j).2.2
  have e3 : InX R.n d = A.M := funext fun x => propext ((stb_set hs x).trans (h.set x).symm)
  show (⟨A.K, fun j => (saO p A R j).d, fun j => (saO p A R j).s, InX R.n d, A.m, A.Z, 0⟩ : Ab) = _
  rw [e1, e2, e3]
set_option maxRecDepth 100000 in
set_option maxHeartbeats 4000000 in
theorem splits_far (p : Pl) (v : PlV) (w : World) (n : Int) (hn : 5000 < n) : Calls Tryz.prog 6 #[.agg #[.int .i64 p.ki, .slice v.pp p.np v.pc, .slice v.tp p.nq v.tc, .slice v.sp p.ns v.sc, .int .u64 p.sd, .int .u64 p.lk, .int .u64 p.en, .int .i64 p.bu, .int .i64 p.fu], .int .i64 n] w fun e w' => e = .returned (.bool true) ∧ Below w.heap.size w w' := by
  obtain ⟨wb, hwb⟩ : ∃ wb, w.alloc (.cells #[.int .i64 p.ki, .slice v.pp p.np v.pc, .slice v.tp p.nq v.tc, .slice v.sp p.ns v.sc, .int .u64 p.sd, .int .u64 p.lk, .int .u64 p.en, .int .i64 p.bu, .int .i64 p.fu] 27) = wb := ⟨_, rfl⟩
  obtain ⟨hb0, hbox, hsz⟩ := boxed _ _ _ hwb
  have HH : Hid (w.alloc (.cells #[.int .i64 p.ki, .slice v.pp p.np v.pc, .slice v.tp p.nq v.tc, .slice v.sp p.ns v.sc, .int .u64 p.sd, .int .u64 p.lk, .int .u64 p.en, .int .i64 p.bu, .int .i64 p.fu] 27) = wb) := hwb
  have HA := awake_any wb
  have HB : Hid (Below w.heap.size w wb) := hb0
  have d0 : decide (n > 5000) = true := decide_eq_true hn
  have d1 : decide (5000 < n) = true := decide_eq_true hn
  clear hwb hb0 hbox hsz hn
  go_enter Tryz.func6, Tryz.ntmps6
  go_wp2_with (go_at_call 13; rw [HH.out]; (with_reducible refine HA.mono ?_); rintro e w1 ⟨rfl, hb1⟩)
  go_ret
  exact ⟨rfl, HB.out.trans (hb1.mono HB.out.size)⟩
set_option maxRecDepth 100000 in
set_option maxHeartbeats 4000000 in
theorem splits_bad (p : Pl) (v : PlV) (w : World) (h : PlAt w p v) (hr : RoomyL p) (c0 : Int) (hc0 : VC p c0) (hz : c0 ≠ 0) (n : Int) (hn : ¬ 5000 < n) : Calls Tryz.prog 6 #[.agg #[.int .i64 p.ki, .slice v.pp p.np v.pc, .slice v.tp p.nq v.tc, .slice v.sp p.ns v.sc, .int .u64 p.sd, .int .u64 p.lk, .int .u64 p.en, .int .i64 p.bu, .int .i64 p.fu], .int .i64 n] w fun e w' => e = .returned (.bool true) ∧ Below w.heap.size w w' := by
  obtain ⟨wb, hwb⟩ : ∃ wb, w.alloc (.cells #[.int .i64 p.ki, .slice v.pp p.np v.pc, .slice v.tp p.nq v.tc, .slice v.sp p.ns v.sc, .int .u64 p.sd, .int .u64 p.lk, .int .u64 p.en, .int .i64 p.bu, .int .i64 p.fu] 27) = wb := ⟨_, rfl⟩
  obtain ⟨hb0, hbox, hsz⟩ := boxed _ _ _ hwb
  have HH : Hid (w.alloc (.cells #[.int .i64 p.ki, .slice v.pp p.np v.pc, .slice v.tp p.nq v.tc, .slice v.sp p.ns v.sc, .int .u64 p.sd, .int .u64 p.lk, .int .u64 p.en, .int .i64 p.bu, .int .i64 p.fu] 27) = wb) := hwb
  have HA := awake_any wb
  have HV : ∀ W, Below wb.heap.size wb W → Hid (Calls Tryz.prog 14 #[.agg #[.int .i64 p.ki, .slice v.pp p.np v.pc, .slice v.tp p.nq v.tc, .slice v.sp p.ns v.sc, .int .u64 p.sd, .int .u64 p.lk, .int .u64 p.en, .int .i64 p.bu, .int .i64 p.fu]] W fun e w' => e = .returned (.int .i64 c0) ∧ Below W.heap.size W w') := fun W hb => by
    refine (valid_any p v W ((h.below hb0).below hb)).mono ?_
    rintro e w' ⟨c, rfl, k1, k2⟩
    rw [k1.one hc0]
    exact ⟨rfl, k2⟩
  have KK : ∀ W, Below wb.heap.size wb W → Hid (W.cell? ⟨w.heap.size, 0, none⟩ = some (.int .i64 p.ki) ∧ W.cell? ⟨w.heap.size, 1, none⟩ = some (.slice v.pp p.np v.pc) ∧ W.cell? ⟨w.heap.size, 2, none⟩ = some (.slice v.tp p.nq v.tc) ∧ W.cell? ⟨w.heap.size, 3, none⟩ = some (.slice v.sp p.ns v.sc) ∧ W.cell? ⟨w.heap.size, 4, none⟩ = some (.int .u64 p.sd) ∧ W.cell? ⟨w.heap.size, 5, none⟩ = some (.int .u64 p.lk) ∧ W.cell? ⟨w.heap.size, 6, none⟩ = some (.int .u64 p.en) ∧ W.cell? ⟨w.heap.size, 7, none⟩ = some (.int .i64 p.bu) ∧ W.cell? ⟨w.heap.size, 8, none⟩ = some (.int .i64 p.fu)) := fun W hb => by
    have hx := (hb.block _ (lt_of_block hbox)).trans hbox
    exact ⟨cell_in hx rfl, cell_in hx rfl, cell_in hx rfl, cell_in hx rfl, cell_in hx rfl, cell_in hx rfl, cell_in hx rfl, cell_in hx rfl, cell_in hx rfl⟩
  have HB : Hid (Below w.heap.size w wb ∧ wb.heap[w.heap.size]? = some (.cells #[.int .i64 p.ki, .slice v.pp p.np v.pc, .slice v.tp p.nq v.tc, .slice v.sp p.ns v.sc, .int .u64 p.sd, .int .u64 p.lk, .int .u64 p.en, .int .i64 p.bu, .int .i64 p.fu] 27 (0, 0))) := ⟨hb0, hbox⟩
  have HF : ∀ W, Below wb.heap.size wb W → Hid (Calls Tryz.prog 24 #[.agg #[.int .i64 p.ki, .slice v.pp p.np v.pc, .slice v.tp p.nq v.tc, .slice v.sp p.ns v.sc, .int .u64 p.sd, .int .u64 p.lk, .int .u64 p.en, .int .i64 p.bu, .int .i64 p.fu]] W fun e w' => e = .returned (.tuple #[.agg #[.slice none 0 0, .slice none 0 0, .slice none 0 0], .int .i64 c0]) ∧ Below W.heap.size W w') := fun W hb => by
    refine (first_any p v W ((h.below hb0).below hb) hr).mono ?_
    rintro e w' ⟨c, k1, k2, ⟨k3, k4⟩ | ⟨k3, _⟩⟩
    · rw [k1.one hc0] at k4
      exact ⟨k4, k2⟩
    · exact absurd ((k1.one hc0).symm.trans k3) hz
  have q0 : (c0 != 0) = true := by simpa using hz
  have q1 : (c0 == 0) = false := by simpa using hz
  have q2 : (c0 == c0) = true := by simp
  have d0 : decide (n > 5000) = false := decide_eq_false hn
  have d1 : decide (5000 < n) = false := decide_eq_false hn
  clear hwb hb0 hbox hsz h hc0 hz hn
  go_enter Tryz.func6, Tryz.ntmps6
  go_upto_region 6 with (first | (go_at_call 13; rw [HH.out]; (with_reducible refine HA.mono ?_); rintro e w1 ⟨rfl, hb1⟩; obtain ⟨f0, f1, f2, f3, f4, f5, f6, f7, f8⟩ := (KK w1 hb1).out) | (go_at_call 24; (with_reducible refine (HF w1 hb1).out.mono ?_); rintro e w2 ⟨rfl, hb2'⟩; have hb2 : Below wb.heap.size wb w2 := hb1.trans (hb2'.mono hb1.size)))
  obtain ⟨w3, hw3⟩ : ∃ w3, w2.alloc (.cells #[.slice none 0 0, .slice none 0 0, .slice none 0 0] 56) = w3 := ⟨_, rfl⟩
  obtain ⟨hb3', hx3, hsz3⟩ := boxed _ _ _ hw3
  rw [hw3]
  have hb3 : Below wb.heap.size wb w3 := hb2.trans (hb3'.mono hb2.size)
  clear f0 f1 f2 f3 f4 f5 f6 f7 f8
  obtain ⟨f0, f1, f2, f3, f4, f5, f6, f7, f8⟩ := (KK w3 hb3).out
  clear hw3 hb3' hx3 hsz3 hb2 hb2' hb1
  go_wp2_with (go_at_call 14; (with_reducible refine (HV w3 hb3).out.mono ?_); rintro e w4 ⟨rfl, hb4⟩)
  go_ret
  exact ⟨rfl, HB.out.1.trans ((hb3.trans (hb4.mono hb3.size)).mono HB.out.1.size)⟩
set_option maxRecDepth 100000 in
set_option maxHeartbeats 16000000 in
theorem splits_good (p : Pl) (v : PlV) (w : World) (h : PlAt w p v) (hr : RoomyL p) (hpl : PlOk p) (n : Int) (hn : ¬ 5000 < n) : Calls Tryz.prog 6 #[.agg #[.int .i64 p.ki, .slice v.pp p.np v.pc, .slice v.tp p.nq v.tc, .slice v.sp p.ns v.sc, .int .u64 p.sd, .int .u64 p.lk, .int .u64 p.en, .int .i64 p.bu, .int .i64 p.fu], .int .i64 n] w fun e w' => e = .returned (.bool true) ∧ Below w.heap.size w w' := by
  obtain ⟨c0, hcc⟩ : ∃ c0 : Int, c0 = 0 := ⟨_, rfl⟩
  have hc0 : VC p c0 := by rw [hcc]; exact okVC hpl
  obtain ⟨wb, hwb⟩ : ∃ wb, w.alloc (.cells #[.int .i64 p.ki, .slice v.pp p.np v.pc, .slice v.tp p.nq v.tc, .slice v.sp p.ns v.sc, .int .u64 p.sd, .int .u64 p.lk, .int .u64 p.en, .int .i64 p.bu, .int .i64 p.fu] 27) = wb := ⟨_, rfl⟩
  obtain ⟨hb0, hbox, hsz⟩ := boxed _ _ _ hwb
  have HH : Hid (w.alloc (.cells #[.int .i64 p.ki, .slice v.pp p.np v.pc, .slice v.tp p.nq v.tc, .slice v.sp p.ns v.sc, .int .u64 p.sd, .int .u64 p.lk, .int .u64 p.en, .int .i64 p.bu, .int .i64 p.fu] 27) = wb) := hwb
  have HA := awake_any wb
  have HV : ∀ W, Below wb.heap.size wb W → Hid (Calls Tryz.prog 14 #[.agg #[.int .i64 p.ki, .slice v.pp p.np v.pc, .slice v.tp p.nq v.tc, .slice v.sp p.ns v.sc, .int .u64 p.sd, .int .u64 p.lk, .int .u64 p.en, .int .i64 p.bu, .int .i64 p.fu]] W fun e w' => e = .returned (.int .i64 c0) ∧ Below W.heap.size W w') := fun W hb => by
    refine (valid_any p v W ((h.below hb0).below hb)).mono ?_
    rintro e w' ⟨c, rfl, k1, k2⟩
    rw [k1.one hc0]
    exact ⟨rfl, k2⟩
  have KK : ∀ W, Below wb.heap.size wb W → Hid (W.cell? ⟨w.heap.size, 0, none⟩ = some (.int .i64 p.ki) ∧ W.cell? ⟨w.heap.size, 1, none⟩ = some (.slice v.pp p.np v.pc) ∧ W.cell? ⟨w.heap.size, 2, none⟩ = some (.slice v.tp p.nq v.tc) ∧ W.cell? ⟨w.heap.size, 3, none⟩ = some (.slice v.sp p.ns v.sc) ∧ W.cell? ⟨w.heap.size, 4, none⟩ = some (.int .u64 p.sd) ∧ W.cell? ⟨w.heap.size, 5, none⟩ = some (.int .u64 p.lk) ∧ W.cell? ⟨w.heap.size, 6, none⟩ = some (.int .u64 p.en) ∧ W.cell? ⟨w.heap.size, 7, none⟩ = some (.int .i64 p.bu) ∧ W.cell? ⟨w.heap.size, 8, none⟩ = some (.int .i64 p.fu)) := fun W hb => by
    have hx := (hb.block _ (lt_of_block hbox)).trans hbox
    exact ⟨cell_in hx rfl, cell_in hx rfl, cell_in hx rfl, cell_in hx rfl, cell_in hx rfl, cell_in hx rfl, cell_in hx rfl, cell_in hx rfl, cell_in hx rfl⟩
  have HB : Hid (Below w.heap.size w wb ∧ wb.heap[w.heap.size]? = some (.cells #[.int .i64 p.ki, .slice v.pp p.np v.pc, .slice v.tp p.nq v.tc, .slice v.sp p.ns v.sc, .int .u64 p.sd, .int .u64 p.lk, .int .u64 p.en, .int .i64 p.bu, .int .i64 p.fu] 27 (0, 0))) := ⟨hb0, hbox⟩
  subst hcc
  have HF : ∀ W, Below wb.heap.size wb W → Hid (Calls Tryz.prog 24 #[.agg #[.int .i64 p.ki, .slice v.pp p.np v.pc, .slice v.tp p.nq v.tc, .slice v.sp p.ns v.sc, .int .u64 p.sd, .int .u64 p.lk, .int .u64 p.en, .int .i64 p.bu, .int .i64 p.fu]] W fun e w' => ∃ q c q2 c2, e = .returned (.tuple #[.agg #[.slice q p.nq c, .slice q2 p.ns c2, .slice none 0 0], .int .i64 0]) ∧ FP w' p q q2 ∧ Below W.heap.size W w') := fun W hb => by
    refine (first_any p v W ((h.below hb0).below hb) hr).mono ?_
    rintro e w' ⟨c, k1, k2, ⟨k3, k4⟩ | ⟨k3, q, c9, q2, c2, k4, k5⟩⟩
    · exact absurd (k1.one hc0) k3
    · exact ⟨q, c9, q2, c2, k4, k5, k2⟩
  have HR : ∀ W, Below wb.heap.size wb W → Hid (Calls Tryz.prog 15 #[.agg #[.int .i64 p.ki, .slice v.pp p.np v.pc, .slice v.tp p.nq v.tc, .slice v.sp p.ns v.sc, .int .u64 p.sd, .int .u64 p.lk, .int .u64 p.en, .int .i64 p.bu, .int .i64 p.fu]] W fun r w' => ∃ (C : Ab) (kd cd : Int) (x : Se) (q1 : Option Addr) (c1 : Nat) (CC : Nat → Sa) (q3 : Option Addr) (c3 : Nat), EndR p (fstA p) C ∧ AOk2 p C ∧ ResK p C kd cd x ∧ r = .returned (.agg #[.int .i64 kd, .int .i64 cd, .int .u64 x.t, .int .i64 x.s, .int .u64 x.q, .int .i64 0, .slice q1 p.nq c1, .slice q3 C.m c3]) ∧ (∃ b rb, W.heap.size < b ∧ RsA w' b rb p C q1 CC q3 c3) ∧ Below W.heap.size W w') := fun W hb => sqRun_good p v W ((h.below hb0).below hb) hr (okVC hpl) hpl
  have HPL : Hid (PlAt wb p v ∧ RoomyL p ∧ PlOk p ∧ w.heap.size < wb.heap.size) := ⟨h.below hb0, hr, hpl, lt_of_block hbox⟩
  have hnq := hpl.gt.1
  have hns := hpl.gs.1
  have hbuu := hpl.bu
  have d0 : decide (n > 5000) = false := decide_eq_false hn
  have d1 : decide (5000 < n) = false := decide_eq_false hn
  clear hwb hb0 hbox hsz h hr hpl hc0
  go_enter Tryz.func6, Tryz.ntmps6
  go_upto_region 6 with (first | (go_at_call 13; rw [HH.out]; (with_reducible refine HA.mono ?_); rintro e w1 ⟨rfl, hb1⟩; obtain ⟨f0, f1, f2, f3, f4, f5, f6, f7, f8⟩ := (KK w1 hb1).out) | (go_at_call 24; (with_reducible refine (HF w1 hb1).out.mono ?_); rintro e w2 ⟨q, c, q2, c2, rfl, hfp, hb2'⟩; have hb2 : Below wb.heap.size wb w2 := hb1.trans (hb2'.mono hb1.size)))
  obtain ⟨w3, hw3⟩ : ∃ w3, w2.alloc (.cells #[.slice q p.nq c, .slice q2 p.ns c2, .slice none 0 0] 56) = w3 := ⟨_, rfl⟩
  obtain ⟨hb3', hx3, hsz3⟩ := boxed _ _ _ hw3
  rw [hw3]
  obtain ⟨g5, hg5⟩ : ∃ g5, w2.heap.size = g5 := ⟨_, rfl⟩
  rw [hg5] at hx3 ⊢
  have hb3 : Below wb.heap.size wb w3 := hb2.trans (hb3'.mono hb2.size)
  clear f0 f1 f2 f3 f4 f5 f6 f7 f8
  obtain ⟨f0, f1, f2, f3, f4, f5, f6, f7, f8⟩ := (KK w3 hb3).out
  obtain ⟨e0, e1, e2⟩ := cells3p hx3
  obtain ⟨SA, d, hA1, hA2, hA3, hA4, hA5⟩ := hfp.below hb3'
  have hpnd := Pnd.fst hA4 hA5
  have hPF : PF p (fstO p d) := point_fits HPL.out.2.2.1 (.zero : StepsR p (fstA p) 0 (fstA p)) (SA := fun j => ⟨none, p.nw j, 0, dz p.sd j, (cntS p.S p.ns (j : Int) : Nat)⟩) hpnd (fun j hj => ⟨rfl, rfl, rfl⟩)
  have HO : Calls Tryz.prog 25 #[.agg #[.int .i64 p.ki, .slice v.pp p.np v.pc, .slice v.tp p.nq v.tc, .slice v.sp p.ns v.sc, .int .u64 p.sd, .int .u64 p.lk, .int .u64 p.en, .int .i64 p.bu, .int .i64 p.fu], .agg #[.slice q p.nq c, .slice q2 p.ns c2, .slice none 0 0]] w3 fun e w' => ∃ (sb : Nat) (R : Rv), e = .returned (.tuple #[.pointer (some ⟨sb, 0, none⟩), .int .i64 0]) ∧ SimR w' w3.heap.size sb p (abO (fstO p d)) R ∧ (∀ k, k < w3.heap.size → Av p R sb k) ∧ Below w3.heap.size w3 w' := open_new p v (fstO p d) ⟨q, c, q2, c2, none, 0⟩ HPL.out.2.1 ⟨by show p.nq * 40 ≤ _; omega, fun j hj => HPL.out.2.1.nw j hj, by show p.ns ≤ _; omega, by show 0 ≤ _; omega⟩ w3 (HPL.out.1.below hb3) ⟨⟨SA, fun j hj => ⟨(hA2 j hj).1, (hA2 j hj).2.1, (hA2 j hj).2.2⟩, hA1⟩, hA3, .inl rfl⟩ (okVC HPL.out.2.2.1) hPF ⟨fun j hj => rfl, hpnd.hp, hpnd.inj, by show p.ns + 16 * (4096 - 0) ≤ _; omega⟩
  rw [fstO_ab hA4] at HO
  have H3 : Hid (Below wb.heap.size wb w3) := hb3
  clear hw3 hb3' hx3 hsz3 hg5 hA1 hA2 hA3 hA4 hA5 hpnd hPF hfp hb2 hb2' hb1 hb3 HA HV HF
  go_upto_region 11 with (go_at_call 25; (with_reducible refine HO.mono ?_); rintro e w4 ⟨sb, R0, rfl, hsim0, _, hb4'⟩)
  obtain ⟨bs, hbs⟩ : ∃ bs, w3.heap.size = bs := ⟨_, rfl⟩
  rw [hbs] at hsim0
  have H4 : Hid (SimR w4 bs sb p (fstA p) R0 ∧ Below wb.heap.size wb w4 ∧ wb.heap.size ≤ bs ∧ bs ≤ w4.heap.size) := ⟨hsim0, H3.out.trans (hb4'.mono H3.out.size), by have := H3.out.size; omega, by have := hb4'.size; omega⟩
  clear hsim0 hb4' hbs HO f0 f1 f2 f3 f4 f5 f6 f7 f8 e0 e1 e2 H3
  go_wp2_with fail
  go_loopw [9] (fun v9 wr => ∃ (i : Nat) (A : Ab) (R : Rv), v9 = .int .i64 (i : Int) ∧ (0 < i → (i : Int) ≤ n) ∧ Sts p (fstA p) i A ∧ SimR wr bs sb p A R ∧ AOk2 p A ∧ Below bs w4 wr) (fun v9 _ => n.toNat - (intOf v9).toNat)
  case atStart => exact ⟨0, fstA p, R0, rfl, fun e => absurd e (Nat.lt_irrefl _), rfl, H4.out.1, fst_ok HPL.out.2.2.1, Below.refl _ _⟩
  case round =>
    obtain ⟨i, A, R, rfl, hi, hsts, hsim, hok, hbr⟩ := hrel
    by_cases hlt : (i : Int) < n
    case pos =>
      have dl : decide ((i : Int) < n) = true := decide_eq_true hlt
      have ei : IntKind.i64.wrap ((i : Int) + 1) = (i : Int) + 1 := by rw [IntKind.wrap_i64]; omega
      have HM : Hid (n.toNat - (i + 1) < n.toNat - i) := (by omega : n.toNat - (i + 1) < n.toNat - i)
      have HLT : Hid ((i : Int) < n) := hlt
      have HS := step_any wr bs sb p A R hsim hok HPL.out.2.2.1
      have HI : Hid (Sts p (fstA p) i A ∧ SimR wr bs sb p A R ∧ Below bs w4 wr) := ⟨hsts, hsim, hbr⟩
      clear hsts hsim hok hbr hlt hi hn
      go_wp2_with (go_at_call 26; (with_reducible refine HS.mono ?_); rintro e wz ⟨B, R', x, cx, rfl, hst, hsim', hok', hkq, _, _⟩)
      obtain ⟨i1, i2, i3⟩ := HI.out
      refine ⟨⟨i + 1, B, R', rfl, fun _ => by have := HLT.out; show ((i + 1 : Nat) : Int) ≤ n; omega, ⟨A, x, cx, i1, hst⟩, hsim', hok', below_kq i3 hkq (fun k hk => (i2.mu k hk).1) (Nat.le_trans H4.out.2.2.2 i3.size)⟩, ?_⟩
      have := HM.out
      simp [intOf]
      omega
    have dl : decide ((i : Int) < n) = false := decide_eq_false hlt
    have HS1 : Hid (Sts p (fstA p) i A ∧ SimR wr bs sb p A R ∧ AOk2 p A ∧ Below bs w4 wr) := ⟨hsts, hsim, hok, hbr⟩
    have hbwr : Below wb.heap.size wb wr := H4.out.2.1.trans (hbr.mono H4.out.2.2.1)
    have HPT : ∀ W, Below wr.heap.size wr W → Hid (Calls Tryz.prog 27 #[.pointer (some ⟨sb, 0, none⟩)] W fun e w' => ∃ (y : PnV) (d : Nat → Se), e = .returned (.agg #[.slice y.q p.nq y.c, .slice y.q2 R.n y.c2, .slice y.q3 A.m y.c3]) ∧ PnAt w' ⟨p.nq, saO p A R, A.K, R.n, d, A.m, A.Z⟩ y ∧ Stb klt 0 R.n R.X d ∧ Srt klt 0 R.n d ∧ Below W.heap.size W w') := fun W hb => pointF_any p ⟨p.nq, saO p A R, A.K, R.n, R.X, A.m, A.Z⟩ sb A.f W (hsim.below hb).atF (hsim.roomyN hok HPL.out.2.1 HPL.out.2.2.1.gt)
    have KW : ∀ W, Below wr.heap.size wr W → W.cell? ⟨w.heap.size, 0, none⟩ = some (.int .i64 p.ki) ∧ W.cell? ⟨w.heap.size, 1, none⟩ = some (.slice v.pp p.np v.pc) ∧ W.cell? ⟨w.heap.size, 2, none⟩ = some (.slice v.tp p.nq v.tc) ∧ W.cell? ⟨w.heap.size, 3, none⟩ = some (.slice v.sp p.ns v.sc) ∧ W.cell? ⟨w.heap.size, 4, none⟩ = some (.int .u64 p.sd) ∧ W.cell? ⟨w.heap.size, 5, none⟩ = some (.int .u64 p.lk) ∧ W.cell? ⟨w.heap.size, 6, none⟩ = some (.int .u64 p.en) ∧ W.cell? ⟨w.heap.size, 7, none⟩ = some (.int .i64 p.bu) ∧ W.cell? ⟨w.heap.size, 8, none⟩ = some (.int .i64 p.fu) := fun W hb => (KK W (hbwr.trans (hb.mono hbwr.size))).out
    have hbd : Below wr.heap.size wr wr.drew := (Below.refl _ wr).drew
    have HBW0 : Hid (Below wb.heap.size wb wr) := hbwr
    clear hsts hsim hok hbr hbwr hi hlt hn
    go_upto_region 15 with fail
    go_cut [8, 10] from 49 to 55 (fun x8 x10 wx => ∃ (tb : Nat) (Rt : Rv) (bt : Nat), x8 = .int .i64 0 ∧ x10 = .pointer (some ⟨tb, 0, none⟩) ∧ SimR wx bt tb p { A with f := 0 } Rt ∧ AOk2 p { A with f := 0 } ∧ wr.heap.size ≤ bt ∧ (∀ k, k < wr.heap.size → Av p Rt tb k) ∧ Below wr.heap.size wr wx)
    case first =>
      refine wp_region_held_drew (S := fun W9 => Below wr.heap.size wr W9) (by kernel_rfl) hbd (fun hHeld => ?_)
      have hS0 : Below wr.heap.size wr wr.drew := hHeld
      refine wpAnyH_take (i := 0) (v := ?hv0z) rfl (by kernel_rfl) (by kernel_rfl) (by kernel_rfl) (fun _ _ _ h => h) (Or.inl ⟨by rfl, ?hy0z⟩) (by assumption) ?hr0z
      case hy0z => ((intro W9 hSw; obtain ⟨f0, f1, f2, f3, f4, f5, f6, f7, f8⟩ := KW W9 hSw; go_simp); try with_reducible rfl)
      simp only [List.getElem_toArray, List.getElem_cons_zero, List.getElem_cons_succ, Act.put, List.setIfInBounds_toArray, List.set_cons_zero, List.set_cons_succ]
      refine wpAnyH_take (i := 1) (v := ?hv1z) rfl (by kernel_rfl) (by kernel_rfl) (by kernel_rfl) (fun _ _ _ h => h) (Or.inl ⟨by rfl, ?hy1z⟩) (by assumption) ?hr1z
      case hy1z => ((intro W9 hSw; skip; go_simp); try with_reducible rfl)
      simp only [List.getElem_toArray, List.getElem_cons_zero, List.getElem_cons_succ, Act.put, List.setIfInBounds_toArray, List.set_cons_zero, List.set_cons_succ]
      refine wpAnyH_ready (rs := [2]) (by kernel_rfl) (by simp) (AllReadyH.cons rfl (fun KK9 hK => ?_) AllReadyH.nil)
      all_goals dsimp -proj only [List.getElem_toArray, List.getElem_cons_zero, List.getElem_cons_succ]
      go_simp
      go_at_call 27
      refine (HPT wr.drew hS0).out.mono ?_
      rintro e y1 ⟨y, d, rfl, hpn, hstb, hsrt, hby1⟩
      try go_wp2_with fail
      have hy1 : Below wr.heap.size wr y1 := hS0.trans (hby1.mono hS0.size)
      refine hK.out _ _ hy1 (fun hHeld => ?_)
      clear hK KK9
      try simp only [Act.put, List.setIfInBounds_toArray, List.set_cons_zero, List.set_cons_succ]
      obtain ⟨i1, i2, i3, i4⟩ := HS1.out
      obtain ⟨C, hC⟩ := end_some HPL.out.2.2.1
      obtain ⟨hec, kk, hkk⟩ := split_end hC i1
      have hab := ab_point i2 hstb
      have hok0 := steps_ok HPL.out.2.2.1 (fst_ok HPL.out.2.2.1) hkk
      have hpnd : Pnd { A with f := 0 } R.n d := ⟨hsrt, fun x => (i2.set x).trans (stb_set hstb x).symm, stb_inj hstb i2.inj⟩
      have hPF : PF p ⟨p.nq, saO p A R, A.K, R.n, d, A.m, A.Z⟩ := point_fits HPL.out.2.2.1 hkk hpnd (fun j hj => saO_eq i2 j)
      have hrn := i2.roomyN i3 HPL.out.2.1 HPL.out.2.2.1.gt
      have HO : Calls Tryz.prog 25 #[.agg #[.int .i64 p.ki, .slice v.pp p.np v.pc, .slice v.tp p.nq v.tc, .slice v.sp p.ns v.sc, .int .u64 p.sd, .int .u64 p.lk, .int .u64 p.en, .int .i64 p.bu, .int .i64 p.fu], .agg #[.slice y.q p.nq y.c, .slice y.q2 R.n y.c2, .slice y.q3 A.m y.c3]] y1 fun e w' => ∃ (tb : Nat) (Rt : Rv), e = .returned (.tuple #[.pointer (some ⟨tb, 0, none⟩), .int .i64 0]) ∧ SimR w' y1.heap.size tb p (abO ⟨p.nq, saO p A R, A.K, R.n, d, A.m, A.Z⟩) Rt ∧ (∀ k, k < y1.heap.size → Av p Rt tb k) ∧ Below y1.heap.size y1 w' := open_new p v ⟨p.nq, saO p A R, A.K, R.n, d, A.m, A.Z⟩ y HPL.out.2.1 ⟨hrn.n, hrn.w, hrn.m, hrn.l⟩ y1 (HPL.out.1.below (HBW0.out.trans (hy1.mono HBW0.out.size))) hpn (okVC HPL.out.2.2.1) hPF ⟨fun j hj => (saO_eq i2 j).1, hpnd.hp, hpnd.inj, i2.nb⟩
      rw [hab] at HO
      refine wpAnyH_ready (rs := [3]) (by kernel_rfl) (by simp) (AllReadyH.cons rfl (fun KK9 hK => ?_) AllReadyH.nil)
      all_goals dsimp -proj only [List.getElem_toArray, List.getElem_cons_zero, List.getElem_cons_succ]
      go_simp
      go_at_call 25
      refine HO.mono ?_
      rintro e y2 ⟨tb, Rt, rfl, hsimt, hnew, hby2⟩
      try go_wp2_with fail
      have hy2 : Below wr.heap.size wr y2 := hy1.trans (hby2.mono hy1.size)
      refine hK.out _ _ hy2 (fun hHeld => ?_)
      clear hK KK9
      try simp only [Act.put, List.setIfInBounds_toArray, List.set_cons_zero, List.set_cons_succ]
      refine wpAnyH_take (i := 4) (v := ?hv4z) rfl (by kernel_rfl) (by kernel_rfl) (by kernel_rfl) (fun _ _ _ h => h) (Or.inl ⟨by rfl, ?hy4z⟩) (by assumption) ?hr4z
      case hy4z => ((intro W9 hSw; skip; go_simp); try with_reducible rfl)
      simp only [List.getElem_toArray, List.getElem_cons_zero, List.getElem_cons_succ, Act.put, List.setIfInBounds_toArray, List.set_cons_zero, List.set_cons_succ]
      refine wpAnyH_take (i := 5) (v := ?hv5z) rfl (by kernel_rfl) (by kernel_rfl) (by kernel_rfl) (fun _ _ _ h => h) (Or.inl ⟨by rfl, ?hy5z⟩) (by assumption) ?hr5z
      case hy5z => ((intro W9 hSw; skip; go_simp); try with_reducible rfl)
      simp only [List.getElem_toArray, List.getElem_cons_zero, List.getElem_cons_succ, Act.put, List.setIfInBounds_toArray, List.set_cons_zero, List.set_cons_succ]
      refine wpAnyH_take (i := 6) (v := ?hv6z) rfl (by kernel_rfl) (by kernel_rfl) (by kernel_rfl) (fun _ _ _ h => h) (Or.inl ⟨by rfl, ?hy6z⟩) (by assumption) ?hr6z
      case hy6z => ((intro W9 hSw; skip; go_simp); try with_reducible rfl)
      simp only [List.getElem_toArray, List.getElem_cons_zero, List.getElem_cons_succ, Act.put, List.setIfInBounds_toArray, List.set_cons_zero, List.set_cons_succ]
      refine wpAnyH_take (i := 7) (v := ?hv7z) rfl (by kernel_rfl) (by kernel_rfl) (by kernel_rfl) (fun _ _ _ h => h) (Or.inl ⟨by rfl, ?hy7z⟩) (by assumption) ?hr7z
      case hy7z => ((intro W9 hSw; skip; go_simp); try with_reducible rfl)
      simp only [List.getElem_toArray, List.getElem_cons_zero, List.getElem_cons_succ, Act.put, List.setIfInBounds_toArray, List.set_cons_zero, List.set_cons_succ]
      refine wpAnyH_take (i := 8) (v := ?hv8z) rfl (by kernel_rfl) (by kernel_rfl) (by kernel_rfl) (fun _ _ _ h => h) (Or.inl ⟨by rfl, ?hy8z⟩) (by assumption) ?hr8z
      case hy8z => ((intro W9 hSw; skip; go_simp); try with_reducible rfl)
      simp only [List.getElem_toArray, List.getElem_cons_zero, List.getElem_cons_succ, Act.put, List.setIfInBounds_toArray, List.set_cons_zero, List.set_cons_succ]
      refine wpAnyH_done (by kernel_rfl) ?_ _
      go_wp2_with fail
      go_meet
      case rel => exact ⟨tb, Rt, y1.heap.size, rfl, rfl, hsimt, hok0, hy1.size, fun k hk => hnew k (Nat.lt_of_lt_of_le hk hy1.size), hy2⟩
    case rest =>
      obtain ⟨tb, Rt, bt, rfl, rfl, hsimt, hokt, hbt, hnewt, hb5⟩ := hcut
      obtain ⟨w5, rfl⟩ : ∃ w5, w5 = wc := ⟨_, rfl⟩
      obtain ⟨i1, i2, i3, i4⟩ := HS1.out
      have hbs5 : Below bs w4 w5 := i4.trans (hb5.mono (by have := i4.size; have := H4.out.2.2.2; omega))
      have H5 : Hid (SimR w5 bs sb p A R ∧ SimR w5 bt tb p { A with f := 0 } Rt ∧ AOk2 p A ∧ AOk2 p { A with f := 0 } ∧ (∀ k, Mu tb Rt k → Av p R sb k) ∧ (∀ k, Mu sb R k → Av p Rt tb k) ∧ Below bs w4 w5 ∧ bs ≤ bt ∧ Sts p (fstA p) i A) := ⟨i2.below hb5, hsimt, i3, hokt, fun k hk => i2.av (by have := (hsimt.mu k hk).1; omega), fun k hk => hnewt k (i2.mu k hk).2, hbs5, by have := i4.size; have := H4.out.2.2.2; omega, i1⟩
      clear i1 i2 i3 i4 hsimt hokt hbt hnewt hb5 hbs5 HS1 HBW0 HPT KW
      go_wp2_with fail
      obtain ⟨wo, rfl⟩ : ∃ wo, wo = wr := ⟨_, rfl⟩
      obtain ⟨bu, hbu⟩ : ∃ bu : Nat, p.bu = (bu : Int) := ⟨p.bu.toNat, by omega⟩
      have HBU : Hid (p.bu = (bu : Int) ∧ bu ≤ 4096) := ⟨hbu, by omega⟩
      clear hbu
      go_loopw [11] (fun v11 wr => ∃ (j : Nat) (As At : Ab) (Rs Rt : Rv), v11 = .int .i64 (j : Int) ∧ j ≤ bu + 1 ∧ Sts p A j As ∧ Sts p { A with f := 0 } j At ∧ SimR wr bs sb p As Rs ∧ SimR wr bt tb p At Rt ∧ AOk2 p As ∧ AOk2 p At ∧ (∀ k, Mu tb Rt k → Av p Rs sb k) ∧ (∀ k, Mu sb Rs k → Av p Rt tb k) ∧ Below bs w4 wr) (fun v11 _ => bu + 1 - (intOf v11).toNat)
      case atStart => exact ⟨0, A, { A with f := 0 }, R, Rt, rfl, Nat.zero_le _, rfl, rfl, H5.out.1, H5.out.2.1, H5.out.2.2.1, H5.out.2.2.2.1, H5.out.2.2.2.2.1, H5.out.2.2.2.2.2.1, H5.out.2.2.2.2.2.2.1⟩
      case round =>
        obtain ⟨j, As, At, Rs, Rt', rfl, hj, hs1, hs2, hsm1, hsm2, ho1, ho2, hv1, hv2, hbr⟩ := hrel
        have hbwr : Below wb.heap.size wb wr := H4.out.2.1.trans (hbr.mono H4.out.2.2.1)
        obtain ⟨f0, f1, f2, f3, f4, f5, f6, f7, f8⟩ := (KK wr hbwr).out
        have hbe := HBU.out
        by_cases hle : j ≤ bu
        case pos =>
          have dl : decide ((j : Int) ≤ p.bu) = true := decide_eq_true (by omega)
          have ej : IntKind.i64.wrap ((j : Int) + 1) = (j : Int) + 1 := by rw [IntKind.wrap_i64]; omega
          have HM : Hid (bu + 1 - (j + 1) < bu + 1 - j) := (by omega : bu + 1 - (j + 1) < bu + 1 - j)
          have HLE : Hid (j ≤ bu) := hle
          have HSa := step_any wr bs sb p As Rs hsm1 ho1 HPL.out.2.2.1
          have HI : Hid (Sts p A j As ∧ Sts p { A with f := 0 } j At ∧ SimR wr bs sb p As Rs ∧ SimR wr bt tb p At Rt' ∧ AOk2 p At ∧ (∀ k, Mu tb Rt' k → Av p Rs sb k) ∧ (∀ k, Mu sb Rs k → Av p Rt' tb k) ∧ Below bs w4 wr) := ⟨hs1, hs2, hsm1, hsm2, ho2, hv1, hv2, hbr⟩
          clear hs1 hs2 hsm1 hsm2 ho1 ho2 hv1 hv2 hbr hbwr hle hj hbe
          go_wp2_with (first | (go_at_call 26; (with_reducible refine HSa.mono ?_); rintro e wz ⟨Bs, Rs2, xs, cs, rfl, hsta, hsma, hoka, hkqa, hmua, hava⟩; have hsmt : SimR wz bt tb p At Rt' := HI.out.2.2.2.1.skipS hkqa HI.out.2.2.2.2.2.2.1; have HSb := step_any wz bt tb p At Rt' hsmt HI.out.2.2.2.2.1 HPL.out.2.2.1) | (go_at_call 26; (with_reducible refine HSb.mono ?_); rintro e wy ⟨Bt, Rt2, xt, ct, rfl, hstb, hsmb, hokb, hkqb, hmub, havb⟩))
          obtain ⟨k1, k2, k3, k4, k5, k6, k7, k8⟩ := HI.out
          have hzz := hkqa.size
          have hm6 : ∀ k, Mu tb Rt' k → k < wr.heap.size := fun k hk => (k4.mu k hk).2
          have hw1 : ∀ k, Mu tb Rt' k → Av p Rs2 sb k := fun k hk => hava k (hm6 k hk) (k6 k hk)
          have hw2 : ∀ k, Mu sb Rs2 k → Av p Rt' tb k := fun k hk => by
            by_cases e : k < wr.heap.size
            · exact k7 k (hmua k e hk)
            · exact k4.av (by omega)
          have hsms : SimR wy bs sb p Bs Rs2 := hsma.skipS hkqb hw1
          have hx1 : ∀ k, Mu tb Rt2 k → Av p Rs2 sb k := fun k hk => by
            by_cases e : k < wz.heap.size
            · exact hw1 k (hmub k e hk)
            · exact hsma.av (by omega)
          have hx2 : ∀ k, Mu sb Rs2 k → Av p Rt2 tb k := fun k hk => havb k (hsma.mu k hk).2 (hw2 k hk)
          have hbz : Below bs w4 wz := below_kq k8 hkqa (fun k hk => (k3.mu k hk).1) (Nat.le_trans H4.out.2.2.2 k8.size)
          have hby : Below bs w4 wy := below_kq hbz hkqb (fun k hk => Nat.le_trans H5.out.2.2.2.2.2.2.2.1 (hsmt.mu k hk).1) (Nat.le_trans H4.out.2.2.2 hbz.size)
          refine ⟨⟨j + 1, Bs, Bt, Rs2, Rt2, rfl, by have := HLE.out; omega, ⟨As, xs, cs, k1, hsta⟩, ⟨At, xt, ct, k2, hstb⟩, hsms, hsmb, hoka, hokb, hx1, hx2, hby⟩, ?_⟩
          have := HM.out
          simp [intOf]
          omega
        have dl : decide ((j : Int) ≤ p.bu) = false := decide_eq_false (by omega)
        have hjb : j = bu + 1 := by omega
        rw [hjb] at hs1 hs2
        have HS2 : Hid (Sts p A (bu + 1) As ∧ Sts p { A with f := 0 } (bu + 1) At ∧ SimR wr bs sb p As Rs ∧ SimR wr bt tb p At Rt' ∧ AOk2 p As ∧ AOk2 p At ∧ (∀ k, Mu tb Rt' k → Av p Rs sb k) ∧ Below bs w4 wr ∧ Below wb.heap.size wb wr) := ⟨hs1, hs2, hsm1, hsm2, ho1, ho2, hv1, hbr, hbwr⟩
        have HRR := (HR wr hbwr).out
        clear hjb hs1 hs2 hsm1 hsm2 ho1 ho2 hv1 hv2 hbr hbwr hle hj hbe
        go_upto_region 24 with (go_at_call 15; (with_reducible refine HRR.mono ?_); rintro e w6 ⟨C, kd, cd, x, q1, c1, CC, q3, c3, he1, hoC, hk1, rfl, ⟨b, rb, hlb, hrs⟩, hb6'⟩)
        obtain ⟨w7, hw7⟩ : ∃ w7, w6.alloc (.cells #[.int .i64 kd, .int .i64 cd, .int .u64 x.t, .int .i64 x.s, .int .u64 x.q, .int .i64 0, .slice q1 p.nq c1, .slice q3 C.m c3] 36) = w7 := ⟨_, rfl⟩
        obtain ⟨hb7', hx7, hsz7⟩ := boxed _ _ _ hw7
        rw [hw7]
        obtain ⟨g12, hg12⟩ : ∃ g12, w6.heap.size = g12 := ⟨_, rfl⟩
        rw [hg12] at hx7 ⊢
        obtain ⟨s1, s2, s3, s4, s5, s6, s7, s8, s9⟩ := HS2.out
        have hb67 : Below wr.heap.size wr w7 := hb6'.trans (hb7'.mono hb6'.size)
        have hbu2 := HBU.out
        obtain ⟨hec, kk, hkk⟩ := split_end he1 H5.out.2.2.2.2.2.2.2.2
        have eAs : As = C := sts_all he1 HPL.out.2.2.1.bu.1 (n := i + (bu + 1)) (by rw [hbu2.1]; omega) (H5.out.2.2.2.2.2.2.2.2.add s1)
        have eAt : At = C := sts_all hec HPL.out.2.2.1.bu.1 (n := bu + 1) (by rw [hbu2.1]; omega) s2
        subst eAs
        subst eAt
        have hov : Over p At := he1.over
        have HST := step_any w7 bt tb p At Rt' (s4.below hb67) s6 HPL.out.2.2.1
        have H7 : Hid (SimR w7 bs sb p At Rs ∧ SimR w7 bt tb p At Rt' ∧ AOk2 p At ∧ (∀ k, Mu tb Rt' k → Av p Rs sb k) ∧ Below bs w4 w7 ∧ w7.heap[g12]? = some (.cells #[.int .i64 kd, .int .i64 cd, .int .u64 x.t, .int .i64 x.s, .int .u64 x.q, .int .i64 0, .slice q1 p.nq c1, .slice q3 At.m c3] 36 (0, 0)) ∧ SsAt w7 q1 p.nq CC At.K ∧ (∀ j, j < p.nq → (CC j).n = p.nw j ∧ (CC j).d = At.d j ∧ (CC j).s = At.s j) ∧ SIn w7 q3 At.m At.Z ∧ EndR p (fstA p) At ∧ ResK p At kd cd x ∧ Over p At ∧ g12 < w7.heap.size ∧ Below wr.heap.size wr w7 ∧ wr.heap.size ≤ g12 ∧ (∀ g o, q1 = some ⟨g, o, none⟩ → 0 < p.nq → wr.heap.size ≤ g) ∧ (∀ j, j < p.nq → ∀ g o, (CC j).p = some ⟨g, o, none⟩ → 0 < (CC j).n → wr.heap.size ≤ g) ∧ (∀ g o, q3 = some ⟨g, o, none⟩ → 0 < At.m → wr.heap.size ≤ g)) := ⟨s3.below hb67, s4.below hb67, s6, s7, s8.trans (hb67.mono (Nat.le_trans H4.out.2.2.2 s8.size)), hx7, hrs.ss.below hb7', hrs.eq, hrs.tr.below hb7', he1, hk1, hov, lt_of_block hx7, hb67, by have := hb6'.size; omega, fun g o e hn9 => by have := (hrs.s1 g o e hn9).1; omega, fun j hj g o e hn9 => by have := (hrs.s2 j hj g o e hn9).1; omega, fun g o e hn9 => by have := (hrs.s3 g o e hn9).1; omega⟩
        clear hw7 hb7' hx7 hsz7 hg12 hrs hlb he1 hk1 hoC hb6' hb67 hbu2 hec hkk s1 s2 s3 s4 s5 s6 s7 s8 s9 hov HRR f0 f1 f2 f3 f4 f5 f6 f7 f8
        go_upto_region 25 with (go_at_call 26; (with_reducible refine HST.mono ?_); rintro e w8 ⟨Bt, Rt2, xt, ct, rfl, hstb, hsmb, hokb, hkqb, hmub, havb⟩; obtain ⟨rfl, rfl⟩ := over_stay H7.out.2.2.2.2.2.2.2.2.2.2.2.1 hstb)
        obtain ⟨w9, hw9⟩ : ∃ w9, w8.alloc (.cells #[.int .u64 xt.t, .int .i64 xt.s, .int .u64 xt.q, .int .i64 xt.d, .int .i64 xt.k, .int .i64 xt.v] 39) = w9 := ⟨_, rfl⟩
        obtain ⟨hb9', _, _⟩ := boxed _ _ _ hw9
        rw [hw9]
        obtain ⟨h1, h2, h3, h4, h5, h6, h7, h8, h9, h10, h11, h12, h13, h14, h15, h16, h17, h18⟩ := H7.out
        have hsm9 : SimR w9 bs sb p Bt Rs := (h1.skipS hkqb h4).below hb9'
        have hst9 : SimR w9 bt tb p Bt Rt2 := hsmb.below hb9'
        have hmlt : ∀ k, Mu tb Rt' k → k < wr.heap.size := fun k e => (HS2.out.2.2.2.1.mu k e).2
        have hx9 : w9.heap[g12]? = some (.cells #[.int .i64 kd, .int .i64 cd, .int .u64 x.t, .int .i64 x.s, .int .u64 x.q, .int .i64 0, .slice q1 p.nq c1, .slice q3 Bt.m c3] 36 (0, 0)) := (hb9'.block g12 (by have := hkqb.size; omega)).trans ((hkqb.block g12 h13 (fun e => by have := hmlt g12 e; omega)).trans h6)
        have hss9 : SsAt w9 q1 p.nq CC Bt.K := (h7.kb0 hkqb.kb (fun g o e hn9 e9 => by have := hmlt g e9; have := h16 g o e hn9; omega) (fun j hj g o e hn9 e9 => by have := hmlt g e9; have := h17 j hj g o e hn9; omega)).below hb9'
        have htr9 : SIn w9 q3 Bt.m Bt.Z := (h9.kb0 hkqb.kb (fun g o e hn9 e9 => by have := hmlt g e9; have := h18 g o e hn9; omega)).below hb9'
        have KP : ∀ W, Below w9.heap.size w9 W → (W.cell? ⟨g12, 0, none⟩ = some (.int .i64 kd) ∧ W.cell? ⟨g12, 1, none⟩ = some (.int .i64 cd) ∧ W.cell? ⟨g12, 2, none⟩ = some (.int .u64 x.t) ∧ W.cell? ⟨g12, 3, none⟩ = some (.int .i64 x.s) ∧ W.cell? ⟨g12, 4, none⟩ = some (.int .u64 x.q) ∧ W.cell? ⟨g12, 5, none⟩ = some (.int .i64 0) ∧ W.cell? ⟨g12, 6, none⟩ = some (.slice q1 p.nq c1) ∧ W.cell? ⟨g12, 7, none⟩ = some (.slice q3 Bt.m c3)) := fun W hb => by
          have hx := (hb.block _ (lt_of_block hx9)).trans hx9
          exact ⟨cell_in hx rfl, cell_in hx rfl, cell_in hx rfl, cell_in hx rfl, cell_in hx rfl, cell_in hx rfl, cell_in hx rfl, cell_in hx rfl⟩
        have hbd : Below w9.heap.size w9 w9.drew := (Below.refl _ w9).drew
        have KP0 := KP _ hbd
        have HRE : ∀ (s0 b0 : Nat) (R9 : Rv), SimR w9 b0 s0 p Bt R9 → ∀ W, Below w9.heap.size w9 W → Hid (Calls Tryz.prog 28 #[.pointer (some ⟨s0, 0, none⟩)] W fun e w' => ∃ (q1' : Option Addr) (c1' : Nat) (C' : Nat → Sa) (q3' : Option Addr) (c3' : Nat), e = .returned (.agg #[.int .i64 kd, .int .i64 cd, .int .u64 x.t, .int .i64 x.s, .int .u64 x.q, .int .i64 0, .slice q1' p.nq c1', .slice q3' Bt.m c3']) ∧ (SsAt w' q1' p.nq C' Bt.K ∧ (∀ j, j < p.nq → (C' j).n = p.nw j ∧ (C' j).d = Bt.d j ∧ (C' j).s = Bt.s j) ∧ SIn w' q3' Bt.m Bt.Z) ∧ Below W.heap.size W w') := fun s0 b0 R9 hs9 W hb => by
          refine (result_any W b0 s0 p Bt R9 (hs9.below hb) h3 HPL.out.2.2.1 (h10.some rfl)).mono ?_
          rintro e w' ⟨k', cd', x', q1', c1', C', q3', c3', rfl, z1, ⟨rb', z2⟩, z3⟩
          obtain ⟨rfl, rfl, rfl⟩ := h11.one z1
          exact ⟨q1', c1', C', q3', c3', rfl, ⟨z2.ss, z2.eq, z2.tr⟩, z3⟩
        have HSR : ∀ W, Below w9.heap.size w9 W → ∀ (q1' : Option Addr) (c1' : Nat) (C' : Nat → Sa) (q3' : Option Addr) (c3' : Nat), (SsAt W q1' p.nq C' Bt.K ∧ (∀ j, j < p.nq → (C' j).n = p.nw j ∧ (C' j).d = Bt.d j ∧ (C' j).s = Bt.s j) ∧ SIn W q3' Bt.m Bt.Z) → Hid (Calls Tryz.prog 17 #[.agg #[.int .i64 kd, .int .i64 cd, .int .u64 x.t, .int .i64 x.s, .int .u64 x.q, .int .i64 0, .slice q1' p.nq c1', .slice q3' Bt.m c3'], .agg #[.int .i64 kd, .int .i64 cd, .int .u64 x.t, .int .i64 x.s, .int .u64 x.q, .int .i64 0, .slice q1 p.nq c1, .slice q3 Bt.m c3]] W fun e w' => e = .returned (.bool true) ∧ Below W.heap.size W w') := fun W hb q1' c1' C' q3' c3' hh => by
          refine sameResult_yes kd cd x.t x.s x.q p.nq Bt.m C' CC Bt.K Bt.Z q1' q3' q1 q3 c1' c3' c1 c3 (by omega) (fun j hj => by rw [(hh.2.1 j hj).1]; exact HPL.out.2.1.nw j hj) (fun j hj => ⟨(h8 j hj).1.trans (hh.2.1 j hj).1.symm, (h8 j hj).2.1.trans (hh.2.1 j hj).2.1.symm, (h8 j hj).2.2.trans (hh.2.1 j hj).2.2.symm⟩) (by have := h3.m; omega) W hh.1 (hss9.below hb) hh.2.2 (htr9.below hb)
        have HRa := (HRE sb bs Rs hsm9 w9.drew hbd).out
        have HRb := HRE tb bt Rt2 hst9
        have HB9 : Hid (Below w.heap.size w w9) := by
          have z1 : Below bs w4 w8 := below_kq h5 hkqb (fun k hk => Nat.le_trans H5.out.2.2.2.2.2.2.2.1 (h2.mu k hk).1) (Nat.le_trans H4.out.2.2.2 h5.size)
          have z2 : Below bs w4 w9 := z1.trans (hb9'.mono (Nat.le_trans H4.out.2.2.2 z1.size))
          have z3 : Below wb.heap.size wb w9 := H4.out.2.1.trans (z2.mono H4.out.2.2.1)
          exact HB.out.1.trans (z3.mono HB.out.1.size)
        clear hw9 hb9' hx9 hss9 htr9 h1 h2 h3 h4 h5 h6 h7 h8 h9 h10 h11 h12 h13 h14 h15 h16 h17 h18 hsm9 hst9 hmlt hstb hsmb hokb hkqb hmub havb HRE HS2 H5 H4 KK HR
        go_region_held3 (fun W => (W.cell? ⟨g12, 0, none⟩ = some (.int .i64 kd) ∧ W.cell? ⟨g12, 1, none⟩ = some (.int .i64 cd) ∧ W.cell? ⟨g12, 2, none⟩ = some (.int .u64 x.t) ∧ W.cell? ⟨g12, 3, none⟩ = some (.int .i64 x.s) ∧ W.cell? ⟨g12, 4, none⟩ = some (.int .u64 x.q) ∧ W.cell? ⟨g12, 5, none⟩ = some (.int .i64 0) ∧ W.cell? ⟨g12, 6, none⟩ = some (.slice q1 p.nq c1) ∧ W.cell? ⟨g12, 7, none⟩ = some (.slice q3 Bt.m c3))) (first | with_reducible exact KP0 | with_reducible exact KP1 | with_reducible exact KP2 | with_reducible exact KP3 | with_reducible exact KP4 | go_keep) (first | (go_at_call 28; (with_reducible refine HRa.mono ?_); rintro e y1 ⟨qa, ca, Ca, qb, cb, rfl, hya, hby1'⟩; have hy1 : Below w9.heap.size w9 y1 := hbd.trans (hby1'.mono hbd.size); have KP1 := KP y1 hy1; have HSa := (HSR y1 hy1 qa ca Ca qb cb hya).out) | (go_at_call 17; (with_reducible refine HSa.mono ?_); rintro e y2 ⟨rfl, hby2'⟩; have hy2 : Below w9.heap.size w9 y2 := hy1.trans (hby2'.mono hy1.size); have KP2 := KP y2 hy2; have HRc := (HRb y2 hy2).out) | (go_at_call 28; (with_reducible refine HRc.mono ?_); rintro e y3 ⟨qc, cc, Cc, qd, ce, rfl, hyc, hby3'⟩; have hy3 : Below w9.heap.size w9 y3 := hy2.trans (hby3'.mono hy2.size); have KP3 := KP y3 hy3; have HSc := (HSR y3 hy3 qc cc Cc qd ce hyc).out) | (go_at_call 17; (with_reducible refine HSc.mono ?_); rintro e y4 ⟨rfl, hby4'⟩; have hy4 : Below w9.heap.size w9 y4 := hy3.trans (hby4'.mono hy3.size); have KP4 := KP y4 hy4))
        all_goals (
          go_wp2_with fail
          go_ret
          exact ⟨rfl, HB9.out.trans (hy4.mono HB9.out.size)⟩)
theorem splits_law (p : Pl) (v : PlV) (w : World) (h : PlAt w p v) (hr : RoomyL p) (hok : VC p 0 → PlOk p) (n : Int) (_h9 : In64 n) : Calls Tryz.prog 6 #[.agg #[.int .i64 p.ki, .slice v.pp p.np v.pc, .slice v.tp p.nq v.tc, .slice v.sp p.ns v.sc, .int .u64 p.sd, .int .u64 p.lk, .int .u64 p.en, .int .i64 p.bu, .int .i64 p.fu], .int .i64 n] w fun e w' => e = .returned (.bool true) ∧ Below w.heap.size w w' := by
  by_cases hn : 5000 < n
  · exact splits_far p v w n hn
  obtain ⟨c0, hc0⟩ := VC.some p
  by_cases hz : c0 = 0
  · subst hz
    exact splits_good p v w h hr (hok hc0) n hn
  · exact splits_bad p v w h hr c0 hc0 hz n hn
end Go.Proofs.YtagchghhpggnlaaGreat
