import Derived.Test.YtagchghhpggnlaaGreatJRN12
import Derived.Test.YtagchghhpggnlaaGreatJRN20
import Derived.Test.YtagchghhpggnlaaGreatJRN24a
import Derived.Test.YtagchghhpggnlaaGreatJRP1
import Derived.Test.YtagchghhpggnlaaGreatJRB1
import Derived.Test.YtagchghhpggnlaaGreatJRC1
namespace Go.Proofs.YtagchghhpggnlaaGreat
open Go.ChangeShapes Go.WideShapes Go.ChangeAt Go.RowKit
set_option linter.unusedVariables false
set_option linter.unusedSimpArgs false

theorem four_new (w : World) (a b c d : Array Value) (t u s r : TypeId) : ∃ wb, (((w.alloc (.cells a t)).alloc (.cells b u)).alloc (.cells c s)).alloc (.cells d r) = wb ∧ Below w.heap.size w wb ∧ wb.heap[w.heap.size]? = some (.cells a t (0, 0)) ∧ wb.heap[w.heap.size + 1]? = some (.cells b u (0, 0)) ∧ wb.heap[w.heap.size + 2]? = some (.cells c s (0, 0)) ∧ wb.heap[w.heap.size + 3]? = some (.cells d r (0, 0)) ∧ wb.heap.size = w.heap.size + 4 := by
  obtain ⟨w2, h1, h2, h3, h4, h5⟩ := two_new w a b t u
  obtain ⟨w4, k1, k2, k3, k4, k5⟩ := two_new w2 c d s r
  rw [h5] at k3 k4
  refine ⟨w4, by rw [h1, k1], h2.trans (k2.mono h2.size), (k2.block _ (by omega)).trans h3, (k2.block _ (by omega)).trans h4, k3, k4, by omega⟩
set_option maxRecDepth 100000 in
set_option maxHeartbeats 4000000 in
theorem hrun_any (p : Pl) (v : PlV) (w : World) (h : PlAt w p v) (x : Se) (dn pn : Nat) (hd : x.d = (dn : Int)) (hdq : dn < p.nq) (hpr : p.pr dn = (pn : Int)) (hpn : pn < p.np) (sp : Option Addr) (sn sc : Nat) (K : Nat → Int) (d s : Int) (hca : CallAt w (clA p x) sp sn sc K d s) (ha : ∀ i, i < (p.P pn).n → In64 ((p.P pn).a i)) (E : Ef) (hE : effP (p.P pn) (clA p x) sn K d s = E) :
    Calls Tryz.prog 19 #[.agg #[.int .i64 p.ki, .slice v.pp p.np v.pc, .slice v.tp p.nq v.tc, .slice v.sp p.ns v.sc, .int .u64 p.sd, .int .u64 p.lk, .int .u64 p.en, .int .i64 p.bu, .int .i64 p.fu], .agg #[.int .u64 x.t, .int .i64 x.s, .int .u64 x.q, .int .i64 (dn : Int), .int .i64 x.k, .int .i64 x.v], .agg #[.slice sp sn sc, .int .u64 d, .int .u64 s]] w fun r w' => ∃ (wp : Option Addr) (wc : Nat) (ou : Option Addr) (oc : Nat), r = .returned (.agg #[.int .i64 E.code, .slice wp E.nw wc, .int .u64 E.dice, .int .u64 E.sent, .slice ou E.on oc, .int .i64 E.used]) ∧ Own w' w.heap.size 2 1 (.slice wp E.nw wc) E.nw (iv E.wd) ∧ Own w' w.heap.size 39 6 (.slice ou E.on oc) E.on E.oF ∧ Below w.heap.size w w' := by
  obtain ⟨wb, hwb, hb0, hx0, hx1, hx2, hx3, hsz⟩ := four_new w #[.int .i64 p.ki, .slice v.pp p.np v.pc, .slice v.tp p.nq v.tc, .slice v.sp p.ns v.sc, .int .u64 p.sd, .int .u64 p.lk, .int .u64 p.en, .int .i64 p.bu, .int .i64 p.fu] #[.int .u64 x.t, .int .i64 x.s, .int .u64 x.q, .int .i64 (dn : Int), .int .i64 x.k, .int .i64 x.v] #[.slice sp sn sc, .int .u64 d, .int .u64 s] #[.int .i64 0, .slice none 0 0, .int .u64 0, .int .u64 0, .slice none 0 0, .int .i64 0] 27 39 46 48
  have HW : Hid ((((w.alloc (.cells #[.int .i64 p.ki, .slice v.pp p.np v.pc, .slice v.tp p.nq v.tc, .slice v.sp p.ns v.sc, .int .u64 p.sd, .int .u64 p.lk, .int .u64 p.en, .int .i64 p.bu, .int .i64 p.fu] 27)).alloc (.cells #[.int .u64 x.t, .int .i64 x.s, .int .u64 x.q, .int .i64 (dn : Int), .int .i64 x.k, .int .i64 x.v] 39)).alloc (.cells #[.slice sp sn sc, .int .u64 d, .int .u64 s] 46)).alloc (.cells #[.int .i64 0, .slice none 0 0, .int .u64 0, .int .u64 0, .slice none 0 0, .int .i64 0] 48) = wb) := hwb
  obtain hz | ⟨gt, ot, hpt, hlt, hct, hkt⟩ := h.ts
  · omega
  obtain hz | ⟨gp, op, hpp, hlp, hcp, hpa⟩ := h.ps
  · omega
  have hc1 := (hct dn hdq).1
  rw [hpr] at hc1
  obtain ⟨y0, y1, y2, y3⟩ := hcp pn hpn
  have KK : ∀ W, Kq (fun k => k = w.heap.size + 3) wb W → Hid ((W.cell? ⟨w.heap.size, 1, none⟩ = some (.slice (some ⟨gp, op, none⟩) p.np v.pc) ∧ W.cell? ⟨w.heap.size, 2, none⟩ = some (.slice (some ⟨gt, ot, none⟩) p.nq v.tc) ∧ W.cell? ⟨w.heap.size, 5, none⟩ = some (.int .u64 p.lk) ∧ W.cell? ⟨w.heap.size, 8, none⟩ = some (.int .i64 p.fu)) ∧ (W.cell? ⟨w.heap.size + 1, 0, none⟩ = some (.int .u64 x.t) ∧ W.cell? ⟨w.heap.size + 1, 1, none⟩ = some (.int .i64 x.s) ∧ W.cell? ⟨w.heap.size + 1, 2, none⟩ = some (.int .u64 x.q) ∧ W.cell? ⟨w.heap.size + 1, 3, none⟩ = some (.int .i64 (dn : Int)) ∧ W.cell? ⟨w.heap.size + 1, 4, none⟩ = some (.int .i64 x.k) ∧ W.cell? ⟨w.heap.size + 1, 5, none⟩ = some (.int .i64 x.v)) ∧ (W.cell? ⟨w.heap.size + 2, 0, none⟩ = some (.slice sp sn sc) ∧ W.cell? ⟨w.heap.size + 2, 1, none⟩ = some (.int .u64 d) ∧ W.cell? ⟨w.heap.size + 2, 2, none⟩ = some (.int .u64 s)) ∧ W.cell? ⟨gt, ot + dn * 2, none⟩ = some (.int .i64 (pn : Int)) ∧ W.cell? ⟨gp, op + pn * 4, none⟩ = some (.int .i64 (p.P pn).words) ∧ W.cell? ⟨gp, op + pn * 4 + 1, none⟩ = some (.int .i64 (p.P pn).locals) ∧ W.cell? ⟨gp, op + pn * 4 + 2, none⟩ = some (.slice (v.V pn).cp (p.P pn).n (v.V pn).cc) ∧ W.cell? ⟨gp, op + pn * 4 + 3, none⟩ = some (.slice (v.V pn).ep (p.P pn).m (v.V pn).ec)) := fun W hk => by
    have e0 := (hk.block w.heap.size (by omega) (by omega)).trans hx0
    have e1 := (hk.block (w.heap.size + 1) (by omega) (by omega)).trans hx1
    have e2 := (hk.block (w.heap.size + 2) (by omega) (by omega)).trans hx2
    have e3 := (hk.block gt (by omega) (by omega)).trans (hb0.block gt hlt)
    have e4 := (hk.block gp (by omega) (by omega)).trans (hb0.block gp hlp)
    rw [hpp, hpt] at e0
    exact ⟨⟨cell_in e0 rfl, cell_in e0 rfl, cell_in e0 rfl, cell_in e0 rfl⟩, ⟨cell_in e1 rfl, cell_in e1 rfl, cell_in e1 rfl, cell_in e1 rfl, cell_in e1 rfl, cell_in e1 rfl⟩, ⟨cell_in e2 rfl, cell_in e2 rfl, cell_in e2 rfl⟩, (World.cell?_of_block e3).trans hc1, (World.cell?_of_block e4).trans y0, (World.cell?_of_block e4).trans y1, (World.cell?_of_block e4).trans y2, (World.cell?_of_block e4).trans y3⟩
  have HV : ∀ w1, Below w.heap.size w w1 → Hid (Calls Tryz.prog 47 #[.agg #[.int .i64 (p.P pn).words, .int .i64 (p.P pn).locals, .slice (v.V pn).cp (p.P pn).n (v.V pn).cc, .slice (v.V pn).ep (p.P pn).m (v.V pn).ec], .agg #[.int .u64 x.t, .int .i64 x.s, .int .u64 x.q, .int .i64 (dn : Int), .int .i64 x.k, .int .i64 x.v, .slice sp sn sc, .int .u64 d, .int .u64 s, .int .u64 p.lk, .int .i64 (p.nq : Int), .int .i64 p.fu]] w1 fun r w' => ∃ (wp : Option Addr) (wc : Nat) (ou : Option Addr) (oc : Nat), r = .returned (.agg #[.int .i64 E.code, .slice wp E.nw wc, .int .u64 E.dice, .int .u64 E.sent, .slice ou E.on oc, .int .i64 E.used]) ∧ Own w' w1.heap.size 2 1 (.slice wp E.nw wc) E.nw (iv E.wd) ∧ Own w' w1.heap.size 39 6 (.slice ou E.on oc) E.on E.oF ∧ Below w1.heap.size w1 w') := fun w1 hb => by
    have h9 := vmRun (p.P pn) (v.V pn) (clA p x) sp sn sc K d s w1 ((hpa pn hpn).below hb) (hca.below hb) ha
    rw [hE] at h9
    have e9 : (clA p x).dst = (dn : Int) := hd
    rw [e9] at h9
    refine Calls.mono h9 ?_
    rintro r w' ⟨v9, rfl, ⟨wp, wc, ou, oc, rfl, o1, o2⟩, b1⟩
    exact ⟨wp, wc, ou, oc, rfl, o1, o2, b1⟩
  have hkd : Kq (fun k => k = w.heap.size + 3) wb wb.drew := Kq.below (drewS wb)
  have hbd : Below w.heap.size w wb.drew := hb0.trans ((Below.refl _ wb).drew.mono hb0.size)
  have j0 : (0 : Int) ≤ (dn : Int) := by omega
  have j1 : (dn : Int) < (p.nq : Int) := by omega
  have j2 : (0 : Int) ≤ (pn : Int) := by omega
  have j3 : (pn : Int) < (p.np : Int) := by omega
  have HX3 : Hid (wb.heap[w.heap.size + 3]? = some (.cells #[.int .i64 0, .slice none 0 0, .int .u64 0, .int .u64 0, .slice none 0 0, .int .i64 0] 48 (0, 0)) ∧ Below w.heap.size w wb ∧ wb.heap.size = w.heap.size + 4) := ⟨hx3, hb0, hsz⟩
  rw [hpp, hpt] at HW ⊢
  clear hwb hb0 hx0 hx1 hx2 hx3 hsz h hca hkt hpa hct hcp hc1 y0 y1 y2 y3 hpp hpt hlt hlp
  go_enter Tryz.func19, Tryz.ntmps19
  go_upto_region 1 with fail
  rw [HW.out]
  refine wp_region_held_drew (S := fun W9 => Kq (fun k => k = w.heap.size + 3) wb W9) (by kernel_rfl) hkd (fun hHeld => ?_)
  have hS0 : Kq (fun k => k = w.heap.size + 3) wb wb.drew := hHeld
  refine wpAnyH_take (i := 0) (v := ?hv0a) rfl (by kernel_rfl) (by kernel_rfl) (by kernel_rfl) (fun _ _ _ h => h) (Or.inl ⟨by rfl, ?hy0a⟩) (by assumption) ?hr0a
  case hy0a => ((intro W9 hSw; obtain ⟨⟨s1, s2, s5, s8⟩, ⟨q0, q1, q2, q3, q4, q5⟩, ⟨r0, r1, r2⟩, t0, u0, u1, u2, u3⟩ := (KK W9 hSw).out; go_simp); try with_reducible rfl)
  simp only [List.getElem_toArray, List.getElem_cons_zero, List.getElem_cons_succ, Act.put, List.setIfInBounds_toArray, List.set_cons_zero, List.set_cons_succ]
  refine wpAnyH_take (i := 1) (v := ?hv1a) rfl (by kernel_rfl) (by kernel_rfl) (by kernel_rfl) (fun _ _ _ h => h) (Or.inl ⟨by rfl, ?hy1a⟩) (by assumption) ?hr1a
  case hy1a => ((intro W9 hSw; obtain ⟨⟨s1, s2, s5, s8⟩, ⟨q0, q1, q2, q3, q4, q5⟩, ⟨r0, r1, r2⟩, t0, u0, u1, u2, u3⟩ := (KK W9 hSw).out; go_simp); try with_reducible rfl)
  simp only [List.getElem_toArray, List.getElem_cons_zero, List.getElem_cons_succ, Act.put, List.setIfInBounds_toArray, List.set_cons_zero, List.set_cons_succ]
  refine wpAnyH_take (i := 2) (v := ?hv2a) rfl (by kernel_rfl) (by kernel_rfl) (by kernel_rfl) (fun _ _ _ h => h) (Or.inl ⟨by rfl, ?hy2a⟩) (by assumption) ?hr2a
  case hy2a => ((intro W9 hSw; obtain ⟨⟨s1, s2, s5, s8⟩, ⟨q0, q1, q2, q3, q4, q5⟩, ⟨r0, r1, r2⟩, t0, u0, u1, u2, u3⟩ := (KK W9 hSw).out; go_simp); try with_reducible rfl)
  simp only [List.getElem_toArray, List.getElem_cons_zero, List.getElem_cons_succ, Act.put, List.setIfInBounds_toArray, List.set_cons_zero, List.set_cons_succ]
  refine wpAnyH_take (i := 3) (v := ?hv3a) rfl (by kernel_rfl) (by kernel_rfl) (by kernel_rfl) (fun _ _ _ h => h) (Or.inl ⟨by rfl, ?hy3a⟩) (by assumption) ?hr3a
  case hy3a => ((intro W9 hSw; obtain ⟨⟨s1, s2, s5, s8⟩, ⟨q0, q1, q2, q3, q4, q5⟩, ⟨r0, r1, r2⟩, t0, u0, u1, u2, u3⟩ := (KK W9 hSw).out; go_simp); try with_reducible rfl)
  simp only [List.getElem_toArray, List.getElem_cons_zero, List.getElem_cons_succ, Act.put, List.setIfInBounds_toArray, List.set_cons_zero, List.set_cons_succ]
  refine wpAnyH_take (i := 4) (v := ?hv4a) rfl (by kernel_rfl) (by kernel_rfl) (by kernel_rfl) (fun _ _ _ h => h) (Or.inl ⟨by rfl, ?hy4a⟩) (by assumption) ?hr4a
  case hy4a => ((intro W9 hSw; obtain ⟨⟨s1, s2, s5, s8⟩, ⟨q0, q1, q2, q3, q4, q5⟩, ⟨r0, r1, r2⟩, t0, u0, u1, u2, u3⟩ := (KK W9 hSw).out; go_simp); try with_reducible rfl)
  simp only [List.getElem_toArray, List.getElem_cons_zero, List.getElem_cons_succ, Act.put, List.setIfInBounds_toArray, List.set_cons_zero, List.set_cons_succ]
  refine wpAnyH_take (i := 5) (v := ?hv5a) rfl (by kernel_rfl) (by kernel_rfl) (by kernel_rfl) (fun _ _ _ h => h) (Or.inl ⟨by rfl, ?hy5a⟩) (by assumption) ?hr5a
  case hy5a => ((intro W9 hSw; obtain ⟨⟨s1, s2, s5, s8⟩, ⟨q0, q1, q2, q3, q4, q5⟩, ⟨r0, r1, r2⟩, t0, u0, u1, u2, u3⟩ := (KK W9 hSw).out; go_simp); try with_reducible rfl)
  simp only [List.getElem_toArray, List.getElem_cons_zero, List.getElem_cons_succ, Act.put, List.setIfInBounds_toArray, List.set_cons_zero, List.set_cons_succ]
  refine wpAnyH_take (i := 6) (v := ?hv6a) rfl (by kernel_rfl) (by kernel_rfl) (by kernel_rfl) (fun _ _ _ h => h) (Or.inl ⟨by rfl, ?hy6a⟩) (by assumption) ?hr6a
  case hy6a => ((intro W9 hSw; obtain ⟨⟨s1, s2, s5, s8⟩, ⟨q0, q1, q2, q3, q4, q5⟩, ⟨r0, r1, r2⟩, t0, u0, u1, u2, u3⟩ := (KK W9 hSw).out; go_simp); try with_reducible rfl)
  simp only [List.getElem_toArray, List.getElem_cons_zero, List.getElem_cons_succ, Act.put, List.setIfInBounds_toArray, List.set_cons_zero, List.set_cons_succ]
  refine wpAnyH_take (i := 7) (v := ?hv7a) rfl (by kernel_rfl) (by kernel_rfl) (by kernel_rfl) (fun _ _ _ h => h) (Or.inl ⟨by rfl, ?hy7a⟩) (by assumption) ?hr7a
  case hy7a => ((intro W9 hSw; obtain ⟨⟨s1, s2, s5, s8⟩, ⟨q0, q1, q2, q3, q4, q5⟩, ⟨r0, r1, r2⟩, t0, u0, u1, u2, u3⟩ := (KK W9 hSw).out; go_simp); try with_reducible rfl)
  simp only [List.getElem_toArray, List.getElem_cons_zero, List.getElem_cons_succ, Act.put, List.setIfInBounds_toArray, List.set_cons_zero, List.set_cons_succ]
  refine wpAnyH_take (i := 8) (v := ?hv8a) rfl (by kernel_rfl) (by kernel_rfl) (by kernel_rfl) (fun _ _ _ h => h) (Or.inl ⟨by rfl, ?hy8a⟩) (by assumption) ?hr8a
  case hy8a => ((intro W9 hSw; obtain ⟨⟨s1, s2, s5, s8⟩, ⟨q0, q1, q2, q3, q4, q5⟩, ⟨r0, r1, r2⟩, t0, u0, u1, u2, u3⟩ := (KK W9 hSw).out; go_simp); try with_reducible rfl)
  simp only [List.getElem_toArray, List.getElem_cons_zero, List.getElem_cons_succ, Act.put, List.setIfInBounds_toArray, List.set_cons_zero, List.set_cons_succ]
  refine wpAnyH_take (i := 9) (v := ?hv9a) rfl (by kernel_rfl) (by kernel_rfl) (by kernel_rfl) (fun _ _ _ h => h) (Or.inl ⟨by rfl, ?hy9a⟩) (by assumption) ?hr9a
  case hy9a => ((intro W9 hSw; obtain ⟨⟨s1, s2, s5, s8⟩, ⟨q0, q1, q2, q3, q4, q5⟩, ⟨r0, r1, r2⟩, t0, u0, u1, u2, u3⟩ := (KK W9 hSw).out; go_simp); try with_reducible rfl)
  simp only [List.getElem_toArray, List.getElem_cons_zero, List.getElem_cons_succ, Act.put, List.setIfInBounds_toArray, List.set_cons_zero, List.set_cons_succ]
  refine wpAnyH_take (i := 10) (v := ?hv10a) rfl (by kernel_rfl) (by kernel_rfl) (by kernel_rfl) (fun _ _ _ h => h) (Or.inl ⟨by rfl, ?hy10a⟩) (by assumption) ?hr10a
  case hy10a => ((intro W9 hSw; obtain ⟨⟨s1, s2, s5, s8⟩, ⟨q0, q1, q2, q3, q4, q5⟩, ⟨r0, r1, r2⟩, t0, u0, u1, u2, u3⟩ := (KK W9 hSw).out; go_simp); try with_reducible rfl)
  simp only [List.getElem_toArray, List.getElem_cons_zero, List.getElem_cons_succ, Act.put, List.setIfInBounds_toArray, List.set_cons_zero, List.set_cons_succ]
  refine wpAnyH_take (i := 11) (v := ?hv11a) rfl (by kernel_rfl) (by kernel_rfl) (by kernel_rfl) (fun _ _ _ h => h) (Or.inl ⟨by rfl, ?hy11a⟩) (by assumption) ?hr11a
  case hy11a => ((intro W9 hSw; obtain ⟨⟨s1, s2, s5, s8⟩, ⟨q0, q1, q2, q3, q4, q5⟩, ⟨r0, r1, r2⟩, t0, u0, u1, u2, u3⟩ := (KK W9 hSw).out; go_simp); try with_reducible rfl)
  simp only [List.getElem_toArray, List.getElem_cons_zero, List.getElem_cons_succ, Act.put, List.setIfInBounds_toArray, List.set_cons_zero, List.set_cons_succ]
  refine wpAnyH_take (i := 12) (v := ?hv12a) rfl (by kernel_rfl) (by kernel_rfl) (by kernel_rfl) (fun _ _ _ h => h) (Or.inl ⟨by rfl, ?hy12a⟩) (by assumption) ?hr12a
  case hy12a => ((intro W9 hSw; obtain ⟨⟨s1, s2, s5, s8⟩, ⟨q0, q1, q2, q3, q4, q5⟩, ⟨r0, r1, r2⟩, t0, u0, u1, u2, u3⟩ := (KK W9 hSw).out; go_simp); try with_reducible rfl)
  simp only [List.getElem_toArray, List.getElem_cons_zero, List.getElem_cons_succ, Act.put, List.setIfInBounds_toArray, List.set_cons_zero, List.set_cons_succ]
  refine wpAnyH_take (i := 13) (v := ?hv13a) rfl (by kernel_rfl) (by kernel_rfl) (by kernel_rfl) (fun _ _ _ h => h) (Or.inl ⟨by rfl, ?hy13a⟩) (by assumption) ?hr13a
  case hy13a => ((intro W9 hSw; obtain ⟨⟨s1, s2, s5, s8⟩, ⟨q0, q1, q2, q3, q4, q5⟩, ⟨r0, r1, r2⟩, t0, u0, u1, u2, u3⟩ := (KK W9 hSw).out; go_simp); try with_reducible rfl)
  simp only [List.getElem_toArray, List.getElem_cons_zero, List.getElem_cons_succ, Act.put, List.setIfInBounds_toArray, List.set_cons_zero, List.set_cons_succ]
  refine wpAnyH_take (i := 14) (v := ?hv14a) rfl (by kernel_rfl) (by kernel_rfl) (by kernel_rfl) (fun _ _ _ h => h) (Or.inl ⟨by rfl, ?hy14a⟩) (by assumption) ?hr14a
  case hy14a => ((intro W9 hSw; obtain ⟨⟨s1, s2, s5, s8⟩, ⟨q0, q1, q2, q3, q4, q5⟩, ⟨r0, r1, r2⟩, t0, u0, u1, u2, u3⟩ := (KK W9 hSw).out; go_simp); try with_reducible rfl)
  simp only [List.getElem_toArray, List.getElem_cons_zero, List.getElem_cons_succ, Act.put, List.setIfInBounds_toArray, List.set_cons_zero, List.set_cons_succ]
  refine wpAnyH_take (i := 15) (v := ?hv15a) rfl (by kernel_rfl) (by kernel_rfl) (by kernel_rfl) (fun _ _ _ h => h) (Or.inl ⟨by rfl, ?hy15a⟩) (by assumption) ?hr15a
  case hy15a => ((intro W9 hSw; obtain ⟨⟨s1, s2, s5, s8⟩, ⟨q0, q1, q2, q3, q4, q5⟩, ⟨r0, r1, r2⟩, t0, u0, u1, u2, u3⟩ := (KK W9 hSw).out; go_simp); try with_reducible rfl)
  simp only [List.getElem_toArray, List.getElem_cons_zero, List.getElem_cons_succ, Act.put, List.setIfInBounds_toArray, List.set_cons_zero, List.set_cons_succ]
  refine wpAnyH_take (i := 16) (v := ?hv16a) rfl (by kernel_rfl) (by kernel_rfl) (by kernel_rfl) (fun _ _ _ h => h) (Or.inl ⟨by rfl, ?hy16a⟩) (by assumption) ?hr16a
  case hy16a => ((intro W9 hSw; obtain ⟨⟨s1, s2, s5, s8⟩, ⟨q0, q1, q2, q3, q4, q5⟩, ⟨r0, r1, r2⟩, t0, u0, u1, u2, u3⟩ := (KK W9 hSw).out; go_simp); try with_reducible rfl)
  simp only [List.getElem_toArray, List.getElem_cons_zero, List.getElem_cons_succ, Act.put, List.setIfInBounds_toArray, List.set_cons_zero, List.set_cons_succ]
  refine wpAnyH_take (i := 17) (v := ?hv17a) rfl (by kernel_rfl) (by kernel_rfl) (by kernel_rfl) (fun _ _ _ h => h) (Or.inl ⟨by rfl, ?hy17a⟩) (by assumption) ?hr17a
  case hy17a => ((intro W9 hSw; obtain ⟨⟨s1, s2, s5, s8⟩, ⟨q0, q1, q2, q3, q4, q5⟩, ⟨r0, r1, r2⟩, t0, u0, u1, u2, u3⟩ := (KK W9 hSw).out; go_simp); try with_reducible rfl)
  simp only [List.getElem_toArray, List.getElem_cons_zero, List.getElem_cons_succ, Act.put, List.setIfInBounds_toArray, List.set_cons_zero, List.set_cons_succ]
  refine wpAnyH_take (i := 18) (v := ?hv18a) rfl (by kernel_rfl) (by kernel_rfl) (by kernel_rfl) (fun _ _ _ h => h) (Or.inl ⟨by rfl, ?hy18a⟩) (by assumption) ?hr18a
  case hy18a => ((intro W9 hSw; obtain ⟨⟨s1, s2, s5, s8⟩, ⟨q0, q1, q2, q3, q4, q5⟩, ⟨r0, r1, r2⟩, t0, u0, u1, u2, u3⟩ := (KK W9 hSw).out; go_simp); try with_reducible rfl)
  simp only [List.getElem_toArray, List.getElem_cons_zero, List.getElem_cons_succ, Act.put, List.setIfInBounds_toArray, List.set_cons_zero, List.set_cons_succ]
  refine wpAnyH_take (i := 19) (v := ?hv19a) rfl (by kernel_rfl) (by kernel_rfl) (by kernel_rfl) (fun _ _ _ h => h) (Or.inl ⟨by rfl, ?hy19a⟩) (by assumption) ?hr19a
  case hy19a => ((intro W9 hSw; obtain ⟨⟨s1, s2, s5, s8⟩, ⟨q0, q1, q2, q3, q4, q5⟩, ⟨r0, r1, r2⟩, t0, u0, u1, u2, u3⟩ := (KK W9 hSw).out; go_simp); try with_reducible rfl)
  simp only [List.getElem_toArray, List.getElem_cons_zero, List.getElem_cons_succ, Act.put, List.setIfInBounds_toArray, List.set_cons_zero, List.set_cons_succ]
  refine wpAnyH_take (i := 20) (v := ?hv20a) rfl (by kernel_rfl) (by kernel_rfl) (by kernel_rfl) (fun _ _ _ h => h) (Or.inl ⟨by rfl, ?hy20a⟩) (by assumption) ?hr20a
  case hy20a => ((intro W9 hSw; obtain ⟨⟨s1, s2, s5, s8⟩, ⟨q0, q1, q2, q3, q4, q5⟩, ⟨r0, r1, r2⟩, t0, u0, u1, u2, u3⟩ := (KK W9 hSw).out; go_simp); try with_reducible rfl)
  simp only [List.getElem_toArray, List.getElem_cons_zero, List.getElem_cons_succ, Act.put, List.setIfInBounds_toArray, List.set_cons_zero, List.set_cons_succ]
  refine wpAnyH_ready (rs := [21]) (by kernel_rfl) (by simp) (AllReadyH.cons rfl (fun KK9 hK => ?_) AllReadyH.nil)
  all_goals dsimp -proj only [List.getElem_toArray, List.getElem_cons_zero, List.getElem_cons_succ]
  go_simp
  go_at_call 47
  refine (HV wb.drew hbd).out.mono ?_
  rintro e x1 ⟨wp, wc, ou, oc, rfl, o1, o2, hb1⟩
  try go_wp2_with fail
  have hs1 : Kq (fun k => k = w.heap.size + 3) wb x1 := hS0.trans (Kq.below hb1)
  have hm1 : x1.heap[w.heap.size + 3]? = some (.cells #[.int .i64 0, .slice none 0 0, .int .u64 0, .int .u64 0, .slice none 0 0, .int .i64 0] 48 (0, 0)) := (hb1.block _ (by have := HX3.out.2.2; show w.heap.size + 3 < wb.heap.size; omega)).trans HX3.out.1
  refine hK.out _ _ hs1 (fun hHeld => ?_)
  clear hK KK9
  try simp only [Act.put, List.setIfInBounds_toArray, List.set_cons_zero, List.set_cons_succ]
  refine wpAnyH_ready (rs := [22]) (by kernel_rfl) (by simp) (AllReadyH.cons rfl (fun KK9 hK => ?_) AllReadyH.nil)
  all_goals dsimp -proj only [List.getElem_toArray, List.getElem_cons_zero, List.getElem_cons_succ]
  refine step_store_row rfl 48 _ _ rfl (w.heap.size + 3) _ rfl rfl 48 _ hm1 (by kernel_rfl) rfl (by kernel_rfl) ?_
  obtain ⟨x2, hx2⟩ : ∃ x2, x1.setRow (w.heap.size + 3) #[.int .i64 E.code, .slice wp E.nw wc, .int .u64 E.dice, .int .u64 E.sent, .slice ou E.on oc, .int .i64 E.used] = x2 := ⟨_, rfl⟩
  have hm2 : x2.heap[w.heap.size + 3]? = some (.cells #[.int .i64 E.code, .slice wp E.nw wc, .int .u64 E.dice, .int .u64 E.sent, .slice ou E.on oc, .int .i64 E.used] 48 (0, 0)) := by
    rw [← hx2]
    exact setRow_heap _ _ _ _ _ _ hm1
  have hs2 : Kq (fun k => k = w.heap.size + 3) x1 x2 := by
    rw [← hx2]
    exact Kq.row _ _ _ rfl
  have hbw1 : Below w.heap.size w x1 := hbd.trans (hb1.mono hbd.size)
  have hbw : Below w.heap.size w x2 := by
    rw [← hx2]
    exact setRow_below _ hbw1 (Nat.le_add_right _ _)
  have hz4 : wb.drew.heap.size = w.heap.size + 4 := HX3.out.2.2
  have p1 : Own x2 w.heap.size 2 1 (.slice wp E.nw wc) E.nw (iv E.wd) := (Kq.own o1 hs2 fun k e e9 => by have := (Own.lt o1 k e).1; have e8 : k = w.heap.size + 3 := e9; omega).lower (by omega)
  have p2 : Own x2 w.heap.size 39 6 (.slice ou E.on oc) E.on E.oF := (Kq.own o2 hs2 fun k e e9 => by have := (Own.lt o2 k e).1; have e8 : k = w.heap.size + 3 := e9; omega).lower (by omega)
  rw [hx2]
  clear hx2
  refine hK.out _ _ (hs1.trans hs2) (fun hHeld => ?_)
  clear hK KK9
  try simp only [Act.put, List.setIfInBounds_toArray, List.set_cons_zero, List.set_cons_succ]
  refine wpAnyH_done (by kernel_rfl) ?_ _
  clear o1 o2 hb1 hm1 hs1 hs2
  go_wp2_with fail
  refine bodyPost_ret_by (v := .agg #[.int .i64 E.code, .slice wp E.nw wc, .int .u64 E.dice, .int .u64 E.sent, .slice ou E.on oc, .int .i64 E.used]) (results_cell_row (p := 6) (ty := 48) rfl _ _ (w.heap.size + 3) 48 _ (0, 0) _ rfl hm2 Tryz.underlying48 rfl (by kernel_rfl)) rfl ?_
  exact ⟨wp, wc, ou, oc, rfl, p1, p2, hbw⟩
end Go.Proofs.YtagchghhpggnlaaGreat
namespace Go.Proofs.YtagchghhpggnlaaGreat
open Go.ChangeShapes Go.WideShapes Go.ChangeAt Go.RowKit
set_option linter.unusedVariables false
set_option linter.unusedSimpArgs false

set_option maxRecDepth 100000 in
set_option maxHeartbeats 4000000 in
theorem local_bad (p : Pl) (v : PlV) (w : World) (h : PlAt w p v) (c0 : Int) (hc0 : VC p c0) (hz : c0 ≠ 0) : Calls Tryz.prog 4 #[.agg #[.int .i64 p.ki, .slice v.pp p.np v.pc, .slice v.tp p.nq v.tc, .slice v.sp p.ns v.sc, .int .u64 p.sd, .int .u64 p.lk, .int .u64 p.en, .int .i64 p.bu, .int .i64 p.fu]] w fun e w' => e = .returned (.bool true) ∧ Below w.heap.size w w' := by
  obtain ⟨wb, hwb⟩ : ∃ wb, w.alloc (.cells #[.int .i64 p.ki, .slice v.pp p.np v.pc, .slice v.tp p.nq v.tc, .slice v.sp p.ns v.sc, .int .u64 p.sd, .int .u64 p.lk, .int .u64 p.en, .int .i64 p.bu, .int .i64 p.fu] 27) = wb := ⟨_, rfl⟩
  obtain ⟨hb0, hbox, hsz⟩ := boxed _ _ _ hwb
  have HH : Hid (w.alloc (.cells #[.int .i64 p.ki, .slice v.pp p.np v.pc, .slice v.tp p.nq v.tc, .slice v.sp p.ns v.sc, .int .u64 p.sd, .int .u64 p.lk, .int .u64 p.en, .int .i64 p.bu, .int .i64 p.fu] 27) = wb) := hwb
  have HA := awake_any wb
  have HV : ∀ W, Below wb.heap.size wb W → Hid (Calls Tryz.prog 14 #[.agg #[.int .i64 p.ki, .slice v.pp p.np v.pc, .slice v.tp p.nq v.tc, .slice v.sp p.ns v.sc, .int .u64 p.sd, .int .u64 p.lk, .int .u64 p.en, .int .i64 p.bu, .int .i64 p.fu]] W fun e w' => e = .returned (.int .i64 c0) ∧ Below W.heap.size W w') := fun W hb => by
    refine (valid_any p v W ((h.below hb0).below hb)).mono ?_
    rintro e w' ⟨c, rfl, k1, k2⟩
    rw [k1.one hc0]
    exact ⟨rfl, k2⟩
  have KK : ∀ W, Below wb.heap.size wb W → Hid (W.cell? ⟨w.heap.size, 0, none⟩ = some (.int .i64 p.ki) ∧ W.cell? ⟨w.heap.size, 1, none⟩ = some (.slice v.pp p.np v.pc) ∧ W.cell? ⟨w.heap.size, 2, none⟩ = some (.slice v.tp p.nq v.tc) ∧ W.cell? ⟨w.heap.size, 3, none⟩ = some (.slice v.sp p.ns v.sc) ∧ W.cell? ⟨w.heap.size, 4, none⟩ = some (.int .u64 p.sd) ∧ W.cell? ⟨w.heap.size, 5, none⟩ = some (.int .u64 p.lk) ∧ W.cell? ⟨w.heap.size, 6, none⟩ = some (.int .u64 p.en) ∧ W.cell? ⟨w.heap.size, 7, none⟩ = some (.int .i64 p.bu) ∧ W.cell? ⟨w.heap.size, 8, none⟩ = some (.int .i64 p.fu)) := fun W hb => by
    have hx := (hb.block _ (lt_of_block hbox)).trans hbox
    exact ⟨cell_in hx rfl, cell_in hx rfl, cell_in hx rfl, cell_in hx rfl, cell_in hx rfl, cell_in hx rfl, cell_in hx rfl, cell_in hx rfl, cell_in hx rfl⟩
  have HB : Hid (Below w.heap.size w wb ∧ wb.heap[w.heap.size]? = some (.cells #[.int .i64 p.ki, .slice v.pp p.np v.pc, .slice v.tp p.nq v.tc, .slice v.sp p.ns v.sc, .int .u64 p.sd, .int .u64 p.lk, .int .u64 p.en, .int .i64 p.bu, .int .i64 p.fu] 27 (0, 0))) := ⟨hb0, hbox⟩
  have q0 : (c0 != 0) = true := by simpa using hz
  have q1 : (c0 == 0) = false := by simpa using hz
  clear hwb hb0 hbox hsz h hc0 hz
  go_enter Tryz.func4, Tryz.ntmps4
  go_wp2_with (first | (go_at_call 13; rw [HH.out]; (with_reducible refine HA.mono ?_); rintro e w1 ⟨rfl, hb1⟩; obtain ⟨f0, f1, f2, f3, f4, f5, f6, f7, f8⟩ := (KK w1 hb1).out) | (go_at_call 14; (with_reducible refine (HV w1 hb1).out.mono ?_); rintro e w2 ⟨rfl, hb2⟩))
  go_ret
  exact ⟨rfl, HB.out.1.trans ((hb1.trans (hb2.mono hb1.size)).mono HB.out.1.size)⟩
set_option maxRecDepth 100000 in
set_option maxHeartbeats 8000000 in
theorem local_good (p : Pl) (v : PlV) (w : World) (h : PlAt w p v) (hr : RoomyL p) (hpl : PlOk p) : Calls Tryz.prog 4 #[.agg #[.int .i64 p.ki, .slice v.pp p.np v.pc, .slice v.tp p.nq v.tc, .slice v.sp p.ns v.sc, .int .u64 p.sd, .int .u64 p.lk, .int .u64 p.en, .int .i64 p.bu, .int .i64 p.fu]] w fun e w' => e = .returned (.bool true) ∧ Below w.heap.size w w' := by
  obtain ⟨c0, hcc⟩ : ∃ c0 : Int, c0 = 0 := ⟨_, rfl⟩
  have hc0 : VC p c0 := by rw [hcc]; exact okVC hpl
  obtain ⟨wb, hwb⟩ : ∃ wb, w.alloc (.cells #[.int .i64 p.ki, .slice v.pp p.np v.pc, .slice v.tp p.nq v.tc, .slice v.sp p.ns v.sc, .int .u64 p.sd, .int .u64 p.lk, .int .u64 p.en, .int .i64 p.bu, .int .i64 p.fu] 27) = wb := ⟨_, rfl⟩
  obtain ⟨hb0, hbox, hsz⟩ := boxed _ _ _ hwb
  have HH : Hid (w.alloc (.cells #[.int .i64 p.ki, .slice v.pp p.np v.pc, .slice v.tp p.nq v.tc, .slice v.sp p.ns v.sc, .int .u64 p.sd, .int .u64 p.lk, .int .u64 p.en, .int .i64 p.bu, .int .i64 p.fu] 27) = wb) := hwb
  have HA := awake_any wb
  have HV : ∀ W, Below wb.heap.size wb W → Hid (Calls Tryz.prog 14 #[.agg #[.int .i64 p.ki, .slice v.pp p.np v.pc, .slice v.tp p.nq v.tc, .slice v.sp p.ns v.sc, .int .u64 p.sd, .int .u64 p.lk, .int .u64 p.en, .int .i64 p.bu, .int .i64 p.fu]] W fun e w' => e = .returned (.int .i64 c0) ∧ Below W.heap.size W w') := fun W hb => by
    refine (valid_any p v W ((h.below hb0).below hb)).mono ?_
    rintro e w' ⟨c, rfl, k1, k2⟩
    rw [k1.one hc0]
    exact ⟨rfl, k2⟩
  have KK : ∀ W, Below wb.heap.size wb W → Hid (W.cell? ⟨w.heap.size, 0, none⟩ = some (.int .i64 p.ki) ∧ W.cell? ⟨w.heap.size, 1, none⟩ = some (.slice v.pp p.np v.pc) ∧ W.cell? ⟨w.heap.size, 2, none⟩ = some (.slice v.tp p.nq v.tc) ∧ W.cell? ⟨w.heap.size, 3, none⟩ = some (.slice v.sp p.ns v.sc) ∧ W.cell? ⟨w.heap.size, 4, none⟩ = some (.int .u64 p.sd) ∧ W.cell? ⟨w.heap.size, 5, none⟩ = some (.int .u64 p.lk) ∧ W.cell? ⟨w.heap.size, 6, none⟩ = some (.int .u64 p.en) ∧ W.cell? ⟨w.heap.size, 7, none⟩ = some (.int .i64 p.bu) ∧ W.cell? ⟨w.heap.size, 8, none⟩ = some (.int .i64 p.fu)) := fun W hb => by
    have hx := (hb.block _ (lt_of_block hbox)).trans hbox
    exact ⟨cell_in hx rfl, cell_in hx rfl, cell_in hx rfl, cell_in hx rfl, cell_in hx rfl, cell_in hx rfl, cell_in hx rfl, cell_in hx rfl, cell_in hx rfl⟩
  have HB : Hid (Below w.heap.size w wb ∧ wb.heap[w.heap.size]? = some (.cells #[.int .i64 p.ki, .slice v.pp p.np v.pc, .slice v.tp p.nq v.tc, .slice v.sp p.ns v.sc, .int .u64 p.sd, .int .u64 p.lk, .int .u64 p.en, .int .i64 p.bu, .int .i64 p.fu] 27 (0, 0))) := ⟨hb0, hbox⟩
  subst hcc
  have HR : ∀ W, Below wb.heap.size wb W → Hid (Calls Tryz.prog 15 #[.agg #[.int .i64 p.ki, .slice v.pp p.np v.pc, .slice v.tp p.nq v.tc, .slice v.sp p.ns v.sc, .int .u64 p.sd, .int .u64 p.lk, .int .u64 p.en, .int .i64 p.bu, .int .i64 p.fu]] W fun r w' => ∃ (C : Ab) (kd cd : Int) (x : Se) (q1 : Option Addr) (c1 : Nat) (CC : Nat → Sa) (q3 : Option Addr) (c3 : Nat), EndR p (fstA p) C ∧ AOk2 p C ∧ ResK p C kd cd x ∧ r = .returned (.agg #[.int .i64 kd, .int .i64 cd, .int .u64 x.t, .int .i64 x.s, .int .u64 x.q, .int .i64 0, .slice q1 p.nq c1, .slice q3 C.m c3]) ∧ (∃ b rb, W.heap.size < b ∧ RsA w' b rb p C q1 CC q3 c3) ∧ Below W.heap.size W w') := fun W hb => sqRun_good p v W ((h.below hb0).below hb) hr (okVC hpl) hpl
  have HG : ∀ W, Below wb.heap.size wb W → Hid (Calls Tryz.prog 18 #[.agg #[.int .i64 p.ki, .slice v.pp p.np v.pc, .slice v.tp p.nq v.tc, .slice v.sp p.ns v.sc, .int .u64 p.sd, .int .u64 p.lk, .int .u64 p.en, .int .i64 p.bu, .int .i64 p.fu]] W fun e w' => ∃ (q : Option Addr) (c : Nat) (A : Nat → Sa), e = .returned (.slice q p.nq c) ∧ Own w' W.heap.size 46 3 (.slice q p.nq c) p.nq (saF A) ∧ (∀ j, j < p.nq → (A j).n = p.nw j ∧ (A j).d = dz p.sd j ∧ (A j).s = (cntS p.S p.ns (j : Int) : Nat) ∧ KAt w' (A j).p (p.nw j) (p.K j) ∧ EA w' (.slice q p.nq c) W.heap.size (A j).p ∧ (A j).p ≠ none) ∧ Below W.heap.size W w') := fun W hb => begun_any p v W ((h.below hb0).below hb) hr hpl.gt hpl.gs
  have HPL : Hid (PlAt w p v ∧ RoomyL p ∧ PlOk p) := ⟨h, hr, hpl⟩
  have hnq := hpl.gt.1
  clear hwb hb0 hbox hsz h hr hpl hc0
  go_enter Tryz.func4, Tryz.ntmps4
  go_upto_region 6 with (first | (go_at_call 13; rw [HH.out]; (with_reducible refine HA.mono ?_); rintro e w1 ⟨rfl, hb1⟩; obtain ⟨f0, f1, f2, f3, f4, f5, f6, f7, f8⟩ := (KK w1 hb1).out) | (go_at_call 14; (with_reducible refine (HV w1 hb1).out.mono ?_); rintro e w2 ⟨rfl, hb2'⟩; have hb2 : Below wb.heap.size wb w2 := hb1.trans (hb2'.mono hb1.size); clear f0 f1 f2 f3 f4 f5 f6 f7 f8; obtain ⟨f0, f1, f2, f3, f4, f5, f6, f7, f8⟩ := (KK w2 hb2).out) | (go_at_call 15; (with_reducible refine (HR w2 hb2).out.mono ?_); rintro e w3 ⟨C, kd, cd, x, q1, c1, CC, q3, c3, he1, ho1, hk1, rfl, ⟨b, rb, hlb, hrs⟩, hb3'⟩; have hb3 : Below wb.heap.size wb w3 := hb2.trans (hb3'.mono hb2.size); clear f0 f1 f2 f3 f4 f5 f6 f7 f8))
  obtain ⟨w4, hw4⟩ : ∃ w4, w3.alloc (.cells #[.int .i64 kd, .int .i64 cd, .int .u64 x.t, .int .i64 x.s, .int .u64 x.q, .int .i64 0, .slice q1 p.nq c1, .slice q3 C.m c3] 36) = w4 := ⟨_, rfl⟩
  obtain ⟨hb4', hx4, hsz4⟩ := boxed _ _ _ hw4
  rw [hw4]
  obtain ⟨g4, hg4⟩ : ∃ g4, w3.heap.size = g4 := ⟨_, rfl⟩
  rw [hg4] at hx4 ⊢
  have hb4 : Below wb.heap.size wb w4 := hb3.trans (hb4'.mono hb3.size)
  have hS4 := hrs.ss.below hb4'
  have hT4 := hrs.tr.below hb4'
  have H4 : Hid (EndR p (fstA p) C ∧ w4.heap[g4]? = some (.cells #[.int .i64 kd, .int .i64 cd, .int .u64 x.t, .int .i64 x.s, .int .u64 x.q, .int .i64 0, .slice q1 p.nq c1, .slice q3 C.m c3] 36 (0, 0)) ∧ SsAt w4 q1 p.nq CC C.K ∧ (∀ j, j < p.nq → (CC j).n = p.nw j ∧ (CC j).d = C.d j ∧ (CC j).s = C.s j) ∧ SIn w4 q3 C.m C.Z ∧ (C.m : Int) ≤ 4096 ∧ g4 < w4.heap.size ∧ Below wb.heap.size wb w4) := ⟨he1, hx4, hS4, hrs.eq, hT4, ho1.m, lt_of_block hx4, hb4⟩
  obtain ⟨f0, f1, f2, f3, f4, f5, f6, f7, f8⟩ := (KK w4 hb4).out
  clear hw4 hb4' hx4 hsz4 hg4 hrs hlb he1 hk1 ho1 hS4 hT4 hb3' hb3 hb2 hb2' hb1 HA HV HR
  go_upto_region 7 with (go_at_call 18; (with_reducible refine (HG w4 hb4).out.mono ?_); rintro e w5 ⟨fq, fc, A, rfl, hrow, hA, hb5'⟩)
  clear f0 f1 f2 f3 f4 f5 f6 f7 f8
  have hbx5 : Below wb.heap.size wb w5 := hb4.trans (hb5'.mono hb4.size)
  obtain ⟨z1, z2, z3, z4, z5, z6, z7, z8⟩ := H4.out
  have H5 : Hid (EndR p (fstA p) C ∧ w5.heap[g4]? = some (.cells #[.int .i64 kd, .int .i64 cd, .int .u64 x.t, .int .i64 x.s, .int .u64 x.q, .int .i64 0, .slice q1 p.nq c1, .slice q3 C.m c3] 36 (0, 0)) ∧ SsAt w5 q1 p.nq CC C.K ∧ (∀ j, j < p.nq → (CC j).n = p.nw j ∧ (CC j).d = C.d j ∧ (CC j).s = C.s j) ∧ SIn w5 q3 C.m C.Z ∧ (C.m : Int) ≤ 4096 ∧ g4 < w5.heap.size ∧ w5.heap[w.heap.size]? = some (.cells #[.int .i64 p.ki, .slice v.pp p.np v.pc, .slice v.tp p.nq v.tc, .slice v.sp p.ns v.sc, .int .u64 p.sd, .int .u64 p.lk, .int .u64 p.en, .int .i64 p.bu, .int .i64 p.fu] 27 (0, 0)) ∧ Below w.heap.size w w5) := ⟨z1, (hb5'.block _ z7).trans z2, z3.below hb5', z4, z5.below hb5', z6, Nat.lt_of_lt_of_le z7 hb5'.size, (hbx5.block _ (lt_of_block HB.out.2)).trans HB.out.2, HB.out.1.trans (hbx5.mono HB.out.1.size)⟩
  have H6 : Hid (Own w5 w4.heap.size 46 3 (.slice fq p.nq fc) p.nq (saF A) ∧ (∀ j, j < p.nq → (A j).n = p.nw j ∧ (A j).d = dz p.sd j ∧ (A j).s = (cntS p.S p.ns (j : Int) : Nat) ∧ KAt w5 (A j).p (p.nw j) (p.K j) ∧ (A j).p ≠ none)) := ⟨hrow, fun j hj => ⟨(hA j hj).1, (hA j hj).2.1, (hA j hj).2.2.1, (hA j hj).2.2.2.1, (hA j hj).2.2.2.2.2⟩⟩
  have a6 : w5.cell? ⟨g4, 6, none⟩ = some (.slice q1 p.nq c1) := cell_in H5.out.2.1 rfl
  have e0 : ((p.nq : Int) != (p.nq : Int)) = false := by simp
  clear z1 z2 z3 z4 z5 z6 z7 z8 hbx5 hb5' hrow hA hb4 HG H4 KK HB HH
  go_wp2_with fail
  go_loopw [5] (fun v5 wr => ∃ k : Nat, v5 = .int .i64 (k : Int) ∧ k ≤ p.nq ∧ Below w5.heap.size w5 wr) (fun v5 _ => p.nq - (intOf v5).toNat)
  case atStart => exact ⟨0, rfl, Nat.zero_le _, Below.refl _ _⟩
  case round =>
    obtain ⟨k, rfl, hk, hbr⟩ := hrel
    clear a6
    by_cases hlt : k < p.nq
    case pos =>
      obtain ⟨wo, rfl⟩ : ∃ wo, wo = wr := ⟨_, rfl⟩
      have dlt : decide ((k : Int) < (p.nq : Int)) = true := decide_eq_true (by omega)
      have dlt' : decide (k < p.nq) = true := decide_eq_true hlt
      have k0 : (0 : Int) ≤ (k : Int) := by omega
      have k1 : (k : Int) < (p.nq : Int) := by omega
      have ek : IntKind.i64.wrap ((k : Int) + 1) = (k : Int) + 1 := by rw [IntKind.wrap_i64]; omega
      have HM := meas hlt
      obtain ⟨gf, hfq⟩ : ∃ gf, fq = some ⟨gf, 0, none⟩ := by
        rcases Own.form H6.out.1 with ⟨_, h2⟩ | ⟨g', c', h1, h2, h3⟩
        · omega
        · injection h1 with e1 e2 e3
          exact ⟨g', e1⟩
      have hrw : ARow wo w4.heap.size gf p.nq fc A := by
        have := H6.out.1
        rw [hfq] at this
        exact Own.later this hbr
      obtain ⟨s0, s1, s2⟩ := hrw.cells hlt
      obtain ⟨y1, y2, y3, y4, y5⟩ := H6.out.2 k hlt
      have ys2 : (A k).d = (stP p C.Z k 0).2.1 := y2
      have ys3 : (A k).s = (stP p C.Z k 0).2.2 := y3
      rw [y1] at s0
      rw [ys2] at s1
      rw [ys3] at s2
      obtain ⟨w6, hw6⟩ : ∃ w6, wo.alloc (.cells #[.slice (A k).p (p.nw k) (A k).c, .int .u64 (stP p C.Z k 0).2.1, .int .u64 (stP p C.Z k 0).2.2] 46) = w6 := ⟨_, rfl⟩
      obtain ⟨hb6, hx6, hsz6⟩ := boxed _ _ _ hw6
      have HW6 : Hid (wo.alloc (.cells #[.slice (A k).p (p.nw k) (A k).c, .int .u64 (stP p C.Z k 0).2.1, .int .u64 (stP p C.Z k 0).2.2] 46) = w6) := hw6
      have HK0 : Hid (KAt w6 (A k).p (p.nw k) (stP p C.Z k 0).1 ∧ ((A k).p = none → p.nw k = 0 ∧ True) ∧ Below wo.heap.size wo w6 ∧ w6.heap[wo.heap.size]? = some (.cells #[.slice (A k).p (p.nw k) (A k).c, .int .u64 (stP p C.Z k 0).2.1, .int .u64 (stP p C.Z k 0).2.2] 46 (0, 0))) := ⟨(y4.below hbr).below hb6, fun e => absurd e y5, hb6, hx6⟩
      rw [hfq]
      have HBR : Hid (Below w5.heap.size w5 wo) := hbr
      obtain ⟨g6, hg6⟩ : ∃ g6, wo.heap.size = g6 := ⟨_, rfl⟩
      have HG6 : Hid (wo.heap.size = g6) := hg6
      clear hrw y1 y2 y3 y4 y5 ys2 ys3 hw6 hb6 hx6 hsz6 hbr hfq hg6
      go_upto_region 13 with fail
      rw [HW6.out]
      clear s0 s1 s2
      rw [HG6.out] at HK0 ⊢
      go_wp2_with fail
      go_loopw [7] (fun v7 wq => ∃ (i : Nat) (sp : Option Addr) (sc : Nat), v7 = .int .i64 (i : Int) ∧ i ≤ C.m ∧ wq.heap[g6]? = some (.cells #[.slice sp (p.nw k) sc, .int .u64 (stP p C.Z k i).2.1, .int .u64 (stP p C.Z k i).2.2] 46 (0, 0)) ∧ KAt wq sp (p.nw k) (stP p C.Z k i).1 ∧ (sp = none → p.nw k = 0 ∧ True) ∧ Below g6 wo wq) (fun v7 _ => C.m - (intOf v7).toNat)
      case atStart => exact ⟨0, (A k).p, (A k).c, rfl, Nat.zero_le _, HK0.out.2.2.2, HK0.out.1, HK0.out.2.1, HK0.out.2.2.1⟩
      case round =>
        obtain ⟨i, sp, sc, rfl, hi, hbx, hkw, hnil, hbq⟩ := hrel
        obtain ⟨wq, rfl⟩ : ∃ wq, wq = wr := ⟨_, rfl⟩
        have hb5q : Below w5.heap.size w5 wq := HBR.out.trans (hbq.mono (by have := HBR.out.size; have := HG6.out; omega))
        have hgq : g6 < wq.heap.size := lt_of_block hbx
        have KC : ∀ W, Below wq.heap.size wq W → Hid ((W.cell? ⟨w.heap.size, 0, none⟩ = some (.int .i64 p.ki) ∧ W.cell? ⟨w.heap.size, 1, none⟩ = some (.slice v.pp p.np v.pc) ∧ W.cell? ⟨w.heap.size, 2, none⟩ = some (.slice v.tp p.nq v.tc) ∧ W.cell? ⟨w.heap.size, 3, none⟩ = some (.slice v.sp p.ns v.sc) ∧ W.cell? ⟨w.heap.size, 4, none⟩ = some (.int .u64 p.sd) ∧ W.cell? ⟨w.heap.size, 5, none⟩ = some (.int .u64 p.lk) ∧ W.cell? ⟨w.heap.size, 6, none⟩ = some (.int .u64 p.en) ∧ W.cell? ⟨w.heap.size, 7, none⟩ = some (.int .i64 p.bu) ∧ W.cell? ⟨w.heap.size, 8, none⟩ = some (.int .i64 p.fu)) ∧ (W.cell? ⟨g4, 6, none⟩ = some (.slice q1 p.nq c1) ∧ W.cell? ⟨g4, 7, none⟩ = some (.slice q3 C.m c3)) ∧ (W.cell? ⟨g6, 0, none⟩ = some (.slice sp (p.nw k) sc) ∧ W.cell? ⟨g6, 1, none⟩ = some (.int .u64 (stP p C.Z k i).2.1) ∧ W.cell? ⟨g6, 2, none⟩ = some (.int .u64 (stP p C.Z k i).2.2))) := fun W hb => by
          have hb5 : Below w5.heap.size w5 W := hb5q.trans (hb.mono hb5q.size)
          have e1 := (hb5.block _ (lt_of_block H5.out.2.2.2.2.2.2.2.1)).trans H5.out.2.2.2.2.2.2.2.1
          have e2 := (hb5.block _ H5.out.2.2.2.2.2.2.1).trans H5.out.2.1
          have e3 := (hb.block _ hgq).trans hbx
          exact ⟨⟨cell_in e1 rfl, cell_in e1 rfl, cell_in e1 rfl, cell_in e1 rfl, cell_in e1 rfl, cell_in e1 rfl, cell_in e1 rfl, cell_in e1 rfl, cell_in e1 rfl⟩, ⟨cell_in e2 rfl, cell_in e2 rfl⟩, ⟨cell_in e3 rfl, cell_in e3 rfl, cell_in e3 rfl⟩⟩
        have m63 : (C.m : Int) ≤ 4096 := H5.out.2.2.2.2.2.1
        by_cases hlm : i < C.m
        case pos =>
          have dl1 : decide ((i : Int) < (C.m : Int)) = true := decide_eq_true (by omega)
          have dl2 : decide (i < C.m) = true := decide_eq_true hlm
          have i0 : (0 : Int) ≤ (i : Int) := by omega
          have i1 : (i : Int) < (C.m : Int) := by omega
          have ei : IntKind.i64.wrap ((i : Int) + 1) = (i : Int) + 1 := by rw [IntKind.wrap_i64]; omega
          have HMi := meas hlm
          obtain hz | ⟨bq, oq, hq3, hlq, hcq⟩ := H5.out.2.2.2.2.1
          · omega
          have KE : ∀ W, Below wq.heap.size wq W → W.cell? ⟨bq, oq + i * 6, none⟩ = some (.int .u64 (C.Z i).t) ∧ W.cell? ⟨bq, oq + i * 6 + 1, none⟩ = some (.int .i64 (C.Z i).s) ∧ W.cell? ⟨bq, oq + i * 6 + 2, none⟩ = some (.int .u64 (C.Z i).q) ∧ W.cell? ⟨bq, oq + i * 6 + 3, none⟩ = some (.int .i64 (C.Z i).d) ∧ W.cell? ⟨bq, oq + i * 6 + 4, none⟩ = some (.int .i64 (C.Z i).k) ∧ W.cell? ⟨bq, oq + i * 6 + 5, none⟩ = some (.int .i64 (C.Z i).v) := fun W hb => SIn.six (fun j hj => (cell_below (a := ⟨bq, oq + j, none⟩) (hb5q.trans (hb.mono hb5q.size)) hlq).trans (hcq j hj)) hlm
          have HI : Hid (KAt wq sp (p.nw k) (stP p C.Z k i).1 ∧ (sp = none → p.nw k = 0 ∧ True) ∧ Below g6 wo wq ∧ wq.heap[g6]? = some (.cells #[.slice sp (p.nw k) sc, .int .u64 (stP p C.Z k i).2.1, .int .u64 (stP p C.Z k i).2.2] 46 (0, 0)) ∧ Below w5.heap.size w5 wq) := ⟨hkw, hnil, hbq, hbx, hb5q⟩
          obtain ⟨_, ⟨a6, a7⟩, b0, b1, b2⟩ := (KC wq (Below.refl _ _)).out
          obtain ⟨_, _, _, q3', _, _⟩ := KE wq (Below.refl _ _)
          rw [hq3] at a7
          by_cases hdk : (C.Z i).d = (k : Int)
          case pos =>
            have hat := H5.out.1.atE HPL.out.2.2 hlm
            have hdn : (C.Z i).d.toNat = k := by omega
            obtain ⟨E, hE⟩ : ∃ E, efS p (C.Z i) (stP p C.Z k i) = E := ⟨_, rfl⟩
            have hpr := hat.pr
            have hok := hat.ok
            have ha64 := hat.a64
            have hwd := hat.wd
            have hdc := hat.dc
            have hsn := hat.sn
            have heo := hat.eo
            have hpg : pgA p (C.Z i) = p.P (p.pr k).toNat := by unfold pgA; rw [hdn]
            rw [hdn] at hpr hwd hdc hsn heo
            rw [hE] at heo
            rw [hpg] at ha64 heo
            obtain ⟨pn, hpn⟩ : ∃ pn : Nat, p.pr k = (pn : Int) := ⟨(p.pr k).toNat, by omega⟩
            have hpn2 : (p.pr k).toNat = pn := by omega
            rw [hpn2] at ha64 heo hpr hpg
            have hE2 : effP (p.P pn) (clA p (C.Z i)) (p.nw k) (stP p C.Z k i).1 (stP p C.Z k i).2.1 (stP p C.Z k i).2.2 = E := by
              rw [← hE]
              unfold efS
              rw [hpg, hdn]
            have HRUN : ∀ W, Below wq.heap.size wq W → Hid (Calls Tryz.prog 19 #[.agg #[.int .i64 p.ki, .slice v.pp p.np v.pc, .slice v.tp p.nq v.tc, .slice v.sp p.ns v.sc, .int .u64 p.sd, .int .u64 p.lk, .int .u64 p.en, .int .i64 p.bu, .int .i64 p.fu], .agg #[.int .u64 (C.Z i).t, .int .i64 (C.Z i).s, .int .u64 (C.Z i).q, .int .i64 (k : Int), .int .i64 (C.Z i).k, .int .i64 (C.Z i).v], .agg #[.slice sp (p.nw k) sc, .int .u64 (stP p C.Z k i).2.1, .int .u64 (stP p C.Z k i).2.2]] W fun r w' => ∃ (wp : Option Addr) (wc : Nat) (ou : Option Addr) (oc : Nat), r = .returned (.agg #[.int .i64 E.code, .slice wp E.nw wc, .int .u64 E.dice, .int .u64 E.sent, .slice ou E.on oc, .int .i64 E.used]) ∧ Own w' W.heap.size 2 1 (.slice wp E.nw wc) E.nw (iv E.wd) ∧ Own w' W.heap.size 39 6 (.slice ou E.on oc) E.on E.oF ∧ Below W.heap.size W w') := fun W hb => by
              have hb9 : Below w.heap.size w W := H5.out.2.2.2.2.2.2.2.2.trans ((HI.out.2.2.2.2.trans (hb.mono HI.out.2.2.2.2.size)).mono H5.out.2.2.2.2.2.2.2.2.size)
              exact hrun_any p v W (HPL.out.1.below hb9) (C.Z i) k pn hdk hlt hpn hpr.1 sp (p.nw k) sc (stP p C.Z k i).1 (stP p C.Z k i).2.1 (stP p C.Z k i).2.2 ⟨HI.out.1.below hb, HI.out.2.1, HPL.out.2.1.nw k hlt, hok, hwd, hdc, hsn⟩ ha64 E hE2
            have HEO : Hid (E.nw = p.nw k ∧ (∀ j, In64 (E.wd j)) ∧ efS p (C.Z i) (stP p C.Z k i) = E ∧ (C.Z i).d.toNat = k) := ⟨heo.nw, heo.wd, hE, hdn⟩
            have ddk : ((C.Z i).d == (k : Int)) = true := by simpa using hdk
            rw [hdk] at q3'
            have KE' : ∀ W, Below wq.heap.size wq W → W.cell? ⟨bq, oq + i * 6, none⟩ = some (.int .u64 (C.Z i).t) ∧ W.cell? ⟨bq, oq + i * 6 + 1, none⟩ = some (.int .i64 (C.Z i).s) ∧ W.cell? ⟨bq, oq + i * 6 + 2, none⟩ = some (.int .u64 (C.Z i).q) ∧ W.cell? ⟨bq, oq + i * 6 + 3, none⟩ = some (.int .i64 (k : Int)) ∧ W.cell? ⟨bq, oq + i * 6 + 4, none⟩ = some (.int .i64 (C.Z i).k) ∧ W.cell? ⟨bq, oq + i * 6 + 5, none⟩ = some (.int .i64 (C.Z i).v) := fun W hb => by have := KE W hb; rw [hdk] at this; exact this
            have KC' : ∀ W, Below wq.heap.size wq W → ((W.cell? ⟨w.heap.size, 0, none⟩ = some (.int .i64 p.ki) ∧ W.cell? ⟨w.heap.size, 1, none⟩ = some (.slice v.pp p.np v.pc) ∧ W.cell? ⟨w.heap.size, 2, none⟩ = some (.slice v.tp p.nq v.tc) ∧ W.cell? ⟨w.heap.size, 3, none⟩ = some (.slice v.sp p.ns v.sc) ∧ W.cell? ⟨w.heap.size, 4, none⟩ = some (.int .u64 p.sd) ∧ W.cell? ⟨w.heap.size, 5, none⟩ = some (.int .u64 p.lk) ∧ W.cell? ⟨w.heap.size, 6, none⟩ = some (.int .u64 p.en) ∧ W.cell? ⟨w.heap.size, 7, none⟩ = some (.int .i64 p.bu) ∧ W.cell? ⟨w.heap.size, 8, none⟩ = some (.int .i64 p.fu)) ∧ W.cell? ⟨g4, 7, none⟩ = some (.slice (some ⟨bq, oq, none⟩) C.m c3) ∧ (W.cell? ⟨g6, 0, none⟩ = some (.slice sp (p.nw k) sc) ∧ W.cell? ⟨g6, 1, none⟩ = some (.int .u64 (stP p C.Z k i).2.1) ∧ W.cell? ⟨g6, 2, none⟩ = some (.int .u64 (stP p C.Z k i).2.2))) := fun W hb => by have h9 := (KC W hb).out; rw [← hq3]; exact ⟨h9.1, h9.2.1.2, h9.2.2⟩
            have HDK : Hid ((C.Z i).d = (k : Int)) := hdk
            clear hat hok ha64 hwd hdc hsn heo hpg hpr hE hE2 hdn hpn hpn2 hdk hq3 hcq hlq KE KC hbx hkw hnil hbq hb5q
            obtain ⟨iF, hF1, hF2, hF3, hF4⟩ := sinfo infoEF
            have hbd : Below wq.heap.size wq wq.drew := (Below.refl _ wq).drew
            go_upto_region 17 with fail
            go_cut [8] from 49 to 58 (fun x8 wx => ∃ (fb : Nat) (wp : Option Addr) (wc : Nat) (ou : Option Addr) (oc bw : Nat), x8 = .pointer (some ⟨fb, 0, none⟩) ∧ wx.heap[fb]? = some (.cells #[.int .i64 E.code, .slice wp E.nw wc, .int .u64 E.dice, .int .u64 E.sent, .slice ou E.on oc, .int .i64 E.used] 48 (0, 0)) ∧ Own wx bw 2 1 (.slice wp E.nw wc) E.nw (iv E.wd) ∧ Own wx bw 39 6 (.slice ou E.on oc) E.on E.oF ∧ Below wq.heap.size wq wx ∧ wq.heap.size ≤ bw ∧ wq.heap.size ≤ fb)
            case first =>
              refine wp_region_held_drew (S := fun W9 => Below wq.heap.size wq W9) (by kernel_rfl) hbd (fun hHeld => ?_)
              have hS0 : Below wq.heap.size wq wq.drew := hHeld
              refine wpAnyH_take (i := 0) (v := ?hv0a) rfl (by kernel_rfl) (by kernel_rfl) (by kernel_rfl) (fun _ _ _ h => h) (Or.inl ⟨by rfl, ?hy0a⟩) (by assumption) ?hr0a
              case hy0a => ((intro W9 hSw; obtain ⟨⟨f0, f1, f2, f3, f4, f5, f6, f7, f8⟩, m7, b0, b1, b2⟩ := KC' W9 hSw; obtain ⟨y0, y1, y2, y3, y4, y5⟩ := KE' W9 hSw; go_simp); try with_reducible rfl)
              simp only [List.getElem_toArray, List.getElem_cons_zero, List.getElem_cons_succ, Act.put, List.setIfInBounds_toArray, List.set_cons_zero, List.set_cons_succ]
              refine wpAnyH_take (i := 1) (v := ?hv1a) rfl (by kernel_rfl) (by kernel_rfl) (by kernel_rfl) (fun _ _ _ h => h) (Or.inl ⟨by rfl, ?hy1a⟩) (by assumption) ?hr1a
              case hy1a => ((intro W9 hSw; obtain ⟨⟨f0, f1, f2, f3, f4, f5, f6, f7, f8⟩, m7, b0, b1, b2⟩ := KC' W9 hSw; obtain ⟨y0, y1, y2, y3, y4, y5⟩ := KE' W9 hSw; go_simp); try with_reducible rfl)
              simp only [List.getElem_toArray, List.getElem_cons_zero, List.getElem_cons_succ, Act.put, List.setIfInBounds_toArray, List.set_cons_zero, List.set_cons_succ]
              refine wpAnyH_take (i := 2) (v := ?hv2a) rfl (by kernel_rfl) (by kernel_rfl) (by kernel_rfl) (fun _ _ _ h => h) (Or.inl ⟨by rfl, ?hy2a⟩) (by assumption) ?hr2a
              case hy2a => ((intro W9 hSw; obtain ⟨⟨f0, f1, f2, f3, f4, f5, f6, f7, f8⟩, m7, b0, b1, b2⟩ := KC' W9 hSw; obtain ⟨y0, y1, y2, y3, y4, y5⟩ := KE' W9 hSw; go_simp); try with_reducible rfl)
              simp only [List.getElem_toArray, List.getElem_cons_zero, List.getElem_cons_succ, Act.put, List.setIfInBounds_toArray, List.set_cons_zero, List.set_cons_succ]
              refine wpAnyH_take (i := 3) (v := ?hv3a) rfl (by kernel_rfl) (by kernel_rfl) (by kernel_rfl) (fun _ _ _ h => h) (Or.inl ⟨by rfl, ?hy3a⟩) (by assumption) ?hr3a
              case hy3a => ((intro W9 hSw; obtain ⟨⟨f0, f1, f2, f3, f4, f5, f6, f7, f8⟩, m7, b0, b1, b2⟩ := KC' W9 hSw; obtain ⟨y0, y1, y2, y3, y4, y5⟩ := KE' W9 hSw; go_simp); try with_reducible rfl)
              simp only [List.getElem_toArray, List.getElem_cons_zero, List.getElem_cons_succ, Act.put, List.setIfInBounds_toArray, List.set_cons_zero, List.set_cons_succ]
              refine wpAnyH_take (i := 4) (v := ?hv4a) rfl (by kernel_rfl) (by kernel_rfl) (by kernel_rfl) (fun _ _ _ h => h) (Or.inl ⟨by rfl, ?hy4a⟩) (by assumption) ?hr4a
              case hy4a => ((intro W9 hSw; obtain ⟨⟨f0, f1, f2, f3, f4, f5, f6, f7, f8⟩, m7, b0, b1, b2⟩ := KC' W9 hSw; obtain ⟨y0, y1, y2, y3, y4, y5⟩ := KE' W9 hSw; go_simp); try with_reducible rfl)
              simp only [List.getElem_toArray, List.getElem_cons_zero, List.getElem_cons_succ, Act.put, List.setIfInBounds_toArray, List.set_cons_zero, List.set_cons_succ]
              refine wpAnyH_take (i := 5) (v := ?hv5a) rfl (by kernel_rfl) (by kernel_rfl) (by kernel_rfl) (fun _ _ _ h => h) (Or.inl ⟨by rfl, ?hy5a⟩) (by assumption) ?hr5a
              case hy5a => ((intro W9 hSw; obtain ⟨⟨f0, f1, f2, f3, f4, f5, f6, f7, f8⟩, m7, b0, b1, b2⟩ := KC' W9 hSw; obtain ⟨y0, y1, y2, y3, y4, y5⟩ := KE' W9 hSw; go_simp); try with_reducible rfl)
              simp only [List.getElem_toArray, List.getElem_cons_zero, List.getElem_cons_succ, Act.put, List.setIfInBounds_toArray, List.set_cons_zero, List.set_cons_succ]
              refine wpAnyH_take (i := 6) (v := ?hv6a) rfl (by kernel_rfl) (by kernel_rfl) (by kernel_rfl) (fun _ _ _ h => h) (Or.inl ⟨by rfl, ?hy6a⟩) (by assumption) ?hr6a
              case hy6a => ((intro W9 hSw; obtain ⟨⟨f0, f1, f2, f3, f4, f5, f6, f7, f8⟩, m7, b0, b1, b2⟩ := KC' W9 hSw; obtain ⟨y0, y1, y2, y3, y4, y5⟩ := KE' W9 hSw; go_simp); try with_reducible rfl)
              simp only [List.getElem_toArray, List.getElem_cons_zero, List.getElem_cons_succ, Act.put, List.setIfInBounds_toArray, List.set_cons_zero, List.set_cons_succ]
              refine wpAnyH_ready (rs := [7, 8]) (by kernel_rfl) (by simp) (AllReadyH.cons rfl (fun KK9 hK => ?_) (AllReadyH.cons rfl (fun KK9 hK => ?_) AllReadyH.nil))
              all_goals dsimp -proj only [List.getElem_toArray, List.getElem_cons_zero, List.getElem_cons_succ]
              · go_simp
                go_at_call 19
                refine (HRUN wq.drew hS0).out.mono ?_
                rintro e x1 ⟨wp, wc, ou, oc, rfl, o11, o21, hb1⟩
                try go_wp2_with fail
                have hs1 : Below wq.heap.size wq x1 := hS0.trans (hb1.mono hS0.size)
                refine hK.out _ _ hs1 (fun hHeld => ?_)
                clear hK KK9
                try simp only [Act.put, List.setIfInBounds_toArray, List.set_cons_zero, List.set_cons_succ]
                refine wpAnyH_ready (rs := [8]) (by kernel_rfl) (by simp) (AllReadyH.cons rfl (fun KK9 hK => ?_) AllReadyH.nil)
                all_goals dsimp -proj only [List.getElem_toArray, List.getElem_cons_zero, List.getElem_cons_succ]
                · refine step_alloc_row rfl 48 rfl iF _ hF1 hF2 ?_
                  obtain ⟨x2, hw2⟩ : ∃ x, (x1).alloc (.cells #[.int .i64 0, .slice none 0 0, .int .u64 0, .int .u64 0, .slice none 0 0, .int .i64 0] 48) = x := ⟨_, rfl⟩
                  obtain ⟨hb2, hm2, hz2⟩ := boxed _ _ _ hw2
                  have hs2 : Below wq.heap.size wq x2 := hs1.trans (hb2.mono hs1.size)
                  have hfl2 : wq.heap.size ≤ (x1).heap.size := hs1.size
                  have p12 := Own.later o11 hb2
                  have p22 := Own.later o21 hb2
                  show KK9 _ ((x1).alloc (.cells #[.int .i64 0, .slice none 0 0, .int .u64 0, .int .u64 0, .slice none 0 0, .int .i64 0] 48))
                  rw [hw2]
                  clear hw2
                  refine hK.out _ _ hs2 (fun hHeld => ?_)
                  clear hK KK9
                  try simp only [Act.put, List.setIfInBounds_toArray, List.set_cons_zero, List.set_cons_succ]
                  refine wpAnyH_ready (rs := [9]) (by kernel_rfl) (by simp) (AllReadyH.cons rfl (fun KK9 hK => ?_) AllReadyH.nil)
                  all_goals dsimp -proj only [List.getElem_toArray, List.getElem_cons_zero, List.getElem_cons_succ]
                  · refine step_store_row rfl 48 _ _ rfl (x1).heap.size _ rfl rfl 48 _ hm2 (by kernel_rfl) rfl (by kernel_rfl) ?_
                    obtain ⟨x3, hw3⟩ : ∃ x, (x2).setRow (x1).heap.size #[.int .i64 E.code, .slice wp E.nw wc, .int .u64 E.dice, .int .u64 E.sent, .slice ou E.on oc, .int .i64 E.used] = x := ⟨_, rfl⟩
                    have hm3 : x3.heap[(x1).heap.size]? = some (.cells #[.int .i64 E.code, .slice wp E.nw wc, .int .u64 E.dice, .int .u64 E.sent, .slice ou E.on oc, .int .i64 E.used] 48 (0, 0)) := by
                      rw [← hw3]
                      exact setRow_heap _ _ _ _ _ _ hm2
                    have hs3 : Below wq.heap.size wq x3 := by
                      rw [← hw3]
                      exact setRow_below _ hs2 hfl2
                    have r13 := Own.far (W' := x3) p12 fun k9 e9 => by
                      rw [← hw3]
                      refine setRow_far _ _ _ _ fun e8 => ?_
                      subst e8
                      have h1 := (Own.lt o11 _ e9).2
                      omega
                    have r23 := Own.far (W' := x3) p22 fun k9 e9 => by
                      rw [← hw3]
                      refine setRow_far _ _ _ _ fun e8 => ?_
                      subst e8
                      have h1 := (Own.lt o21 _ e9).2
                      omega
                    rw [hw3]
                    clear hw3
                    refine hK.out _ _ hs3 (fun hHeld => ?_)
                    clear hK KK9
                    try simp only [Act.put, List.setIfInBounds_toArray, List.set_cons_zero, List.set_cons_succ]
                    refine wpAnyH_done (by kernel_rfl) ?_ _
                    go_wp2_with fail
                    go_meet
                    case rel =>
                      exact ⟨(x1).heap.size, wp, wc, ou, oc, wq.drew.heap.size, rfl, hm3, r13, r23, hs3, hS0.size, hfl2⟩
              · refine step_alloc_row rfl 48 rfl iF _ hF1 hF2 ?_
                obtain ⟨x4, hw4⟩ : ∃ x, (wq.drew).alloc (.cells #[.int .i64 0, .slice none 0 0, .int .u64 0, .int .u64 0, .slice none 0 0, .int .i64 0] 48) = x := ⟨_, rfl⟩
                obtain ⟨hb4, hm4, hz4⟩ := boxed _ _ _ hw4
                have hs4 : Below wq.heap.size wq x4 := hS0.trans (hb4.mono hS0.size)
                have hfl4 : wq.heap.size ≤ (wq.drew).heap.size := hS0.size
                show KK9 _ ((wq.drew).alloc (.cells #[.int .i64 0, .slice none 0 0, .int .u64 0, .int .u64 0, .slice none 0 0, .int .i64 0] 48))
                rw [hw4]
                clear hw4
                refine hK.out _ _ hs4 (fun hHeld => ?_)
                clear hK KK9
                try simp only [Act.put, List.setIfInBounds_toArray, List.set_cons_zero, List.set_cons_succ]
                refine wpAnyH_ready (rs := [7]) (by kernel_rfl) (by simp) (AllReadyH.cons rfl (fun KK9 hK => ?_) AllReadyH.nil)
                all_goals dsimp -proj only [List.getElem_toArray, List.getElem_cons_zero, List.getElem_cons_succ]
                · go_simp
                  go_at_call 19
                  refine (HRUN x4 hs4).out.mono ?_
                  rintro e x5 ⟨wp, wc, ou, oc, rfl, o15, o25, hb5⟩
                  try go_wp2_with fail
                  have hs5 : Below wq.heap.size wq x5 := hs4.trans (hb5.mono hs4.size)
                  have hm5 := (hb5.block _ (lt_of_block hm4)).trans hm4
                  have hno5 : (wq.drew).heap.size < x4.heap.size := lt_of_block hm4
                  refine hK.out _ _ hs5 (fun hHeld => ?_)
                  clear hK KK9
                  try simp only [Act.put, List.setIfInBounds_toArray, List.set_cons_zero, List.set_cons_succ]
                  refine wpAnyH_ready (rs := [9]) (by kernel_rfl) (by simp) (AllReadyH.cons rfl (fun KK9 hK => ?_) AllReadyH.nil)
                  all_goals dsimp -proj only [List.getElem_toArray, List.getElem_cons_zero, List.getElem_cons_succ]
                  · refine step_store_row rfl 48 _ _ rfl (wq.drew).heap.size _ rfl rfl 48 _ hm5 (by kernel_rfl) rfl (by kernel_rfl) ?_
                    obtain ⟨x6, hw6⟩ : ∃ x, (x5).setRow (wq.drew).heap.size #[.int .i64 E.code, .slice wp E.nw wc, .int .u64 E.dice, .int .u64 E.sent, .slice ou E.on oc, .int .i64 E.used] = x := ⟨_, rfl⟩
                    have hm6 : x6.heap[(wq.drew).heap.size]? = some (.cells #[.int .i64 E.code, .slice wp E.nw wc, .int .u64 E.dice, .int .u64 E.sent, .slice ou E.on oc, .int .i64 E.used] 48 (0, 0)) := by
                      rw [← hw6]
                      exact setRow_heap _ _ _ _ _ _ hm5
                    have hs6 : Below wq.heap.size wq x6 := by
                      rw [← hw6]
                      exact setRow_below _ hs5 hfl4
                    have r16 := Own.far (W' := x6) o15 fun k9 e9 => by
                      rw [← hw6]
                      refine setRow_far _ _ _ _ fun e8 => ?_
                      subst e8
                      have h1 := (Own.lt o15 _ e9).1
                      have h2 := hno5
                      omega
                    have r26 := Own.far (W' := x6) o25 fun k9 e9 => by
                      rw [← hw6]
                      refine setRow_far _ _ _ _ fun e8 => ?_
                      subst e8
                      have h1 := (Own.lt o25 _ e9).1
                      have h2 := hno5
                      omega
                    rw [hw6]
                    clear hw6
                    refine hK.out _ _ hs6 (fun hHeld => ?_)
                    clear hK KK9
                    try simp only [Act.put, List.setIfInBounds_toArray, List.set_cons_zero, List.set_cons_succ]
                    refine wpAnyH_done (by kernel_rfl) ?_ _
                    go_wp2_with fail
                    go_meet
                    case rel =>
                      exact ⟨(wq.drew).heap.size, wp, wc, ou, oc, x4.heap.size, rfl, hm6, r16, r26, hs6, hs4.size, hfl4⟩
            case rest =>
              obtain ⟨fb, wp, wc', ou, oc, bw, rfl, hfx, ho1, ho2, hbc, hbw, hfb⟩ := hcut
              obtain ⟨g1, g2, g3, g4'⟩ := HEO.out
              obtain ⟨i1', i2, i3, i4, i5⟩ := HI.out
              rw [g1] at hfx ho1
              have t1 : wc.cell? ⟨fb, 1, none⟩ = some (.slice wp (p.nw k) wc') := cell_in hfx rfl
              have t2 : wc.cell? ⟨fb, 2, none⟩ = some (.int .u64 E.dice) := cell_in hfx rfl
              have t3 : wc.cell? ⟨fb, 3, none⟩ = some (.int .u64 E.sent) := cell_in hfx rfl
              have hs6 := (hbc.block _ hgq).trans i4
              have l0 := frz hs6 0
              have l1 := frz hs6 1
              have l2 := frz hs6 2
              obtain ⟨c0, c1', c2⟩ := cells3p hs6
              have HC9 : Hid (wc.heap[g6]? = some (.cells #[.slice sp (p.nw k) sc, .int .u64 (stP p C.Z k i).2.1, .int .u64 (stP p C.Z k i).2.2] 46 (0, 0)) ∧ Own wc bw 2 1 (.slice wp (p.nw k) wc') (p.nw k) (iv E.wd) ∧ Below wq.heap.size wq wc ∧ wq.heap.size ≤ bw) := ⟨hs6, ho1, hbc, hbw⟩
              clear hfx ho1 ho2 hbc hbw hfb hs6 i1' i2 i3 i4 i5 g1 g2 g3 g4' a6 a7 b0 b1 b2 q3'
              go_wp2_with fail
              obtain ⟨g1, g2, g3, g4'⟩ := HEO.out
              obtain ⟨i1', i2, i3, i4, i5⟩ := HI.out
              obtain ⟨u1, u2, u3, u4⟩ := HC9.out
              have hst : stP p C.Z k (i + 1) = (E.wd, E.dice, E.sent) := by
                show (if (C.Z i).d.toNat = k then _ else _) = _
                rw [if_pos g4', g3]
              obtain ⟨n1, n2, n3, n4⟩ := put3 u1 (.slice wp (p.nw k) wc') (.int .u64 E.dice) (.int .u64 E.sent) _ rfl
              refine ⟨⟨i + 1, wp, wc', rfl, hlm, by rw [hst]; exact n1, ?_, ?_, n3 _ _ (i3.trans (u3.mono (by omega))) (Nat.le_refl _)⟩, HMi⟩
              · rw [hst]
                have hfar := Own.far (W' := _) u2 fun k9 e9 => n2 k9 (by have := (Own.lt u2 k9 e9).1; omega)
                exact own_kat hfar
              · intro e
                rcases Own.form u2 with ⟨_, h2⟩ | ⟨g', c', h1, h2, h3⟩
                · exact ⟨h2, trivial⟩
                · injection h1 with e1 e2 e3
                  rw [e] at e1
                  cases e1
          have ddk : ((C.Z i).d == (k : Int)) = false := by simpa using hdk
          have HDK : Hid ((C.Z i).d ≠ (k : Int)) := hdk
          clear hdk hq3 hcq hlq KE KC hbx hkw hnil hbq hb5q b0 b1 b2
          go_wp2_with fail
          obtain ⟨i1', i2, i3, i4, i5⟩ := HI.out
          have hat := H5.out.1.atE HPL.out.2.2 hlm
          have hst : stP p C.Z k (i + 1) = stP p C.Z k i := by
            show (if (C.Z i).d.toNat = k then _ else _) = _
            rw [if_neg (by have := HDK.out; have := hat.dn.2; omega)]
          exact ⟨⟨i + 1, sp, sc, rfl, hlm, by rw [hst]; exact i4, by rw [hst]; exact i1', i2, i3⟩, HMi⟩
        have dl1 : decide ((i : Int) < (C.m : Int)) = false := decide_eq_false (by omega)
        have dl2 : decide (i < C.m) = false := decide_eq_false hlm
        obtain rfl : i = C.m := by omega
        have hst := H5.out.1.stEnd k
        rw [hst] at hbx hkw KC
        obtain hz | ⟨bs, os, hq1, hls, hcs, hks⟩ := H5.out.2.2.1
        · omega
        obtain ⟨v1, v2, v3⟩ := H5.out.2.2.2.1 k hlt
        obtain ⟨r0, r1, r2⟩ := hcs k hlt
        rw [v1] at r0
        rw [v2] at r1
        rw [v3] at r2
        have hks' := hks k hlt
        rw [v1] at hks'
        have KP : ∀ W, Below wq.heap.size wq W → (W.cell? ⟨g4, 6, none⟩ = some (.slice (some ⟨bs, os, none⟩) p.nq c1) ∧ (W.cell? ⟨g6, 0, none⟩ = some (.slice sp (p.nw k) sc) ∧ W.cell? ⟨g6, 1, none⟩ = some (.int .u64 (C.d k)) ∧ W.cell? ⟨g6, 2, none⟩ = some (.int .u64 (C.s k))) ∧ W.cell? ⟨bs, os + k * 3, none⟩ = some (.slice (CC k).p (p.nw k) (CC k).c) ∧ W.cell? ⟨bs, os + k * 3 + 1, none⟩ = some (.int .u64 (C.d k)) ∧ W.cell? ⟨bs, os + k * 3 + 2, none⟩ = some (.int .u64 (C.s k))) := fun W hb => by
          have h9 := (KC W hb).out
          have hb5 : Below w5.heap.size w5 W := hb5q.trans (hb.mono hb5q.size)
          rw [← hq1]
          exact ⟨h9.2.1.1, h9.2.2, (cell_below (a := ⟨bs, os + k * 3, none⟩) hb5 hls).trans r0, (cell_below (a := ⟨bs, os + k * 3 + 1, none⟩) hb5 hls).trans r1, (cell_below (a := ⟨bs, os + k * 3 + 2, none⟩) hb5 hls).trans r2⟩
        have hbd : Below wq.heap.size wq wq.drew := (Below.refl _ wq).drew
        have KP0 := KP _ hbd
        have HSS := sameState_yes sp (CC k).p (p.nw k) sc (CC k).c (C.K k) (C.d k) (C.s k) (HPL.out.2.1.nw k hlt) wq.drew (hkw.below hbd) ((hks'.below hb5q).below hbd)
        have HBQ : Hid (Below w5.heap.size w5 wq) := hb5q
        have a7 : wq.cell? ⟨g4, 7, none⟩ = some (.slice q3 C.m c3) := (KC wq (Below.refl _ _)).out.2.1.2
        clear hbx hkw hnil hbq hb5q KC hst hq1 hls hcs hks r0 r1 r2 hks' v1 v2 v3 hlm
        go_upto_region 19 with fail
        go_region_held3 (fun w9 => (w9.cell? ⟨g4, 6, none⟩ = some (.slice (some ⟨bs, os, none⟩) p.nq c1) ∧ (w9.cell? ⟨g6, 0, none⟩ = some (.slice sp (p.nw k) sc) ∧ w9.cell? ⟨g6, 1, none⟩ = some (.int .u64 (C.d k)) ∧ w9.cell? ⟨g6, 2, none⟩ = some (.int .u64 (C.s k))) ∧ w9.cell? ⟨bs, os + k * 3, none⟩ = some (.slice (CC k).p (p.nw k) (CC k).c) ∧ w9.cell? ⟨bs, os + k * 3 + 1, none⟩ = some (.int .u64 (C.d k)) ∧ w9.cell? ⟨bs, os + k * 3 + 2, none⟩ = some (.int .u64 (C.s k)))) (first | with_reducible exact KP0 | with_reducible exact KP1 | go_keep) (first | (go_at_call 20; (with_reducible refine HSS.mono ?_); rintro e w8 ⟨rfl, hb8'⟩; have hb8 : Below wq.heap.size wq w8 := hbd.trans (hb8'.mono hbd.size); have KP1 := KP w8 hb8))
        all_goals (
          go_wp2_with fail
          exact ⟨⟨k + 1, rfl, hlt, HBQ.out.trans (hb8.mono HBQ.out.size)⟩, HM⟩)
    have dlt : decide ((k : Int) < (p.nq : Int)) = false := decide_eq_false (by omega)
    have dlt' : decide (k < p.nq) = false := decide_eq_false hlt
    go_wp2_with fail
    go_ret
    exact ⟨rfl, H5.out.2.2.2.2.2.2.2.2.trans (hbr.mono H5.out.2.2.2.2.2.2.2.2.size)⟩
theorem local_law (p : Pl) (v : PlV) (w : World) (h : PlAt w p v) (hr : RoomyL p) (hok : VC p 0 → PlOk p) : Calls Tryz.prog 4 #[.agg #[.int .i64 p.ki, .slice v.pp p.np v.pc, .slice v.tp p.nq v.tc, .slice v.sp p.ns v.sc, .int .u64 p.sd, .int .u64 p.lk, .int .u64 p.en, .int .i64 p.bu, .int .i64 p.fu]] w fun e w' => e = .returned (.bool true) ∧ Below w.heap.size w w' := by
  obtain ⟨c0, hc0⟩ := VC.some p
  by_cases hz : c0 = 0
  · subst hz
    exact local_good p v w h hr (hok hc0)
  · exact local_bad p v w h c0 hc0 hz
end Go.Proofs.YtagchghhpggnlaaGreat
