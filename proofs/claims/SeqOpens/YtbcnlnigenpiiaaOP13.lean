import Derived.Test.YtbcnlnigenpiiaaOP10
import Derived.Test.YtbcnlnigenpiiaaSV8
import Derived.Test.YtbcnlnigenpiiaaSV9
namespace Go.Proofs.Ytbcnlnigenpiiaa
open Go.ChangeShapes Go.WideShapes Go.ChangeAt Go.RowKit
set_option linter.unusedVariables false
set_option linter.unusedSimpArgs false

theorem cells13 {W : World} {b : Nat} {c0 c1 c2 c3 c4 c5 c6 c7 c8 c9 c10 c11 c12 : Value} {t : TypeId} (h : W.heap[b]? = some (.cells #[c0, c1, c2, c3, c4, c5, c6, c7, c8, c9, c10, c11, c12] t (0, 0))) : W.cell? ⟨b, 0, none⟩ = some c0 ∧ W.cell? ⟨b, 1, none⟩ = some c1 ∧ W.cell? ⟨b, 2, none⟩ = some c2 ∧ W.cell? ⟨b, 3, none⟩ = some c3 ∧ W.cell? ⟨b, 4, none⟩ = some c4 ∧ W.cell? ⟨b, 5, none⟩ = some c5 ∧ W.cell? ⟨b, 6, none⟩ = some c6 ∧ W.cell? ⟨b, 7, none⟩ = some c7 ∧ W.cell? ⟨b, 8, none⟩ = some c8 ∧ W.cell? ⟨b, 9, none⟩ = some c9 ∧ W.cell? ⟨b, 10, none⟩ = some c10 ∧ W.cell? ⟨b, 11, none⟩ = some c11 := by
  refine ⟨?_, ?_, ?_, ?_, ?_, ?_, ?_, ?_, ?_, ?_, ?_, ?_⟩
  all_goals (unfold World.cell?; rw [h]; rfl)
/-- both copies lie in their boxes -/
def LR (W wx : World) (p : Pl) (o : Pn) (s3 s4 : Value) : Prop := ∃ bp bq g x, s3 = .pointer (some ⟨bp, 0, none⟩) ∧ s4 = .pointer (some ⟨bq, 0, none⟩) ∧ wx.heap[bp]? = some (.cells #[.int .i64 p.ki, .slice g.pp p.np g.pc, .slice g.tp p.nq g.tc, .slice g.sp p.ns g.sc, .int .u64 p.sd, .int .u64 p.lk, .int .u64 p.en, .int .i64 p.bu, .int .i64 p.fu] 27 (0, 0)) ∧ wx.heap[bq]? = some (.cells #[.slice x.q o.n x.c, .slice x.q2 o.m x.c2, .slice x.q3 o.l x.c3] 31 (0, 0)) ∧ PlAt wx p g ∧ PnAt wx o x ∧ Below W.heap.size W wx
theorem LR.mk {wb w1 w2 wf : World} {p : Pl} {o : Pn} {g : PlV} {x : PnV} {b1 b2 bp bq : Nat} (hg : PlAt w1 p g) (hgn : PlNew b1 p g) (hx : PnNew w2 b2 o x) (h12 : Below w1.heap.size w1 w2) (hsz : w2.heap.size ≤ wf.heap.size) (he : ∀ k, k < w2.heap.size → (b1 ≤ k ∧ k < w1.heap.size ∨ b2 ≤ k) → wf.heap[k]? = w2.heap[k]?) (hp : wf.heap[bp]? = some (.cells #[.int .i64 p.ki, .slice g.pp p.np g.pc, .slice g.tp p.nq g.tc, .slice g.sp p.ns g.sc, .int .u64 p.sd, .int .u64 p.lk, .int .u64 p.en, .int .i64 p.bu, .int .i64 p.fu] 27 (0, 0))) (hq : wf.heap[bq]? = some (.cells #[.slice x.q o.n x.c, .slice x.q2 o.m x.c2, .slice x.q3 o.l x.c3] 31 (0, 0))) (hb : Below wb.heap.size wb wf) : LR wb wf p o (.pointer (some ⟨bp, 0, none⟩)) (.pointer (some ⟨bq, 0, none⟩)) := by
  have hz := h12.size
  have k1 : Kb (fun k => k < b1) w1 wf := ⟨by omega, fun k hk hs => (he k (by omega) (.inl ⟨by have : ¬ k < b1 := hs; omega, hk⟩)).trans (h12.block k hk)⟩
  have k2 : Kb (fun k => k < b2) w2 wf := ⟨hsz, fun k hk hs => he k hk (.inr (by have : ¬ k < b2 := hs; omega))⟩
  exact ⟨bp, bq, g, x, rfl, rfl, hp, hq, hg.kbn hgn k1 (fun k hk => by show ¬ k < b1; omega), (hx.kb k2 (fun k hk => by show ¬ k < b2; omega)).at, hb⟩
theorem setRow_far (w : World) (g k : Nat) (cs : Array Value) (h : k ≠ g) : (w.setRow g cs).heap[k]? = w.heap[k]? := by
  unfold World.setRow
  simp [Array.getElem?_modify]
  intro e; exact absurd e.symm h
theorem setRow_below {B g : Nat} {w0 w : World} (cs : Array Value) (h : Below B w0 w) (hg : B ≤ g) : Below B w0 (w.setRow g cs) :=
  ⟨h.os, h.tape, h.output, by simp [World.setRow]; exact h.size, fun k hk => (setRow_far w g k cs (by omega)).trans (h.block k hk)⟩
theorem step_store_row {P : Program} {ops : Array Oper} {o : Oper} {a : Act} {w : World} {K : Act → World → Prop} {Q : Exit → Act → World → Prop} {E : Prop} (hg : o.guard = none) (ty : TypeId) (x y : Operand) (ho : o.op = .store ty x y)
    (g : Nat) (cells : Array Value) (hx : a.eval x = .pointer (some ⟨g, 0, none⟩)) (hy : a.eval y = .agg cells)
    (t : TypeId) (old : Array Value) (hgb : w.heap[g]? = some (.cells old t (0, 0))) (hi : (P.info? ty).map (·.size) = some cells.size)
    (hold : old.size = cells.size) (h1 : cells.all (·.oneCell') = true)
    (h : K (a.put o.dst undef) (w.setRow g cells)) : if Region.wanted o (yielded ops a.tmps) = true then Oper.wp P o a w K Q else E := by
  have hw : Region.wanted o (yielded ops a.tmps) = true := by simp [Region.wanted, hg]
  rw [if_pos hw]
  exact wp_store_row ty x y ho g cells hx hy t old hgb hi hold h1 h
/-- what an opening answers -/
def FO (p : Pl) (o : Pn) (c : Int) : Prop := (VC p c ∧ c ≠ 0) ∨ (VC p 0 ∧ ¬ PF p o ∧ c = 127) ∨ (VC p 0 ∧ PF p o ∧ c = 0)
theorem FO.one {p : Pl} {o : Pn} {c d : Int} (h : FO p o c) (h' : FO p o d) : c = d := by
  rcases h with ⟨a, b⟩ | ⟨a, b, e⟩ | ⟨a, b, e⟩ <;> rcases h' with ⟨a', b'⟩ | ⟨a', b', e'⟩ | ⟨a', b', e'⟩
  · exact VC.one a a'
  · exact absurd (VC.one a a') b
  · exact absurd (VC.one a a') b
  · exact absurd (VC.one a' a) b'
  · omega
  · exact absurd b' b
  · exact absurd (VC.one a' a) b'
  · exact absurd b b'
  · omega
theorem FO.good {p : Pl} {o : Pn} {c : Int} (h : FO p o c) (hv : VC p 0) (hf : PF p o) : c = 0 := FO.one h (.inr (.inr ⟨hv, hf, rfl⟩))
theorem take_any (p : Pl) (v : PlV) (o : Pn) (u : PnV) (hn : RoomyN o) (w : World) (h : PlAt w p v) (ho : PnAt w o u) :
    Calls Try.prog 7 #[.agg #[.int .i64 p.ki, .slice v.pp p.np v.pc, .slice v.tp p.nq v.tc, .slice v.sp p.ns v.sc, .int .u64 p.sd, .int .u64 p.lk, .int .u64 p.en, .int .i64 p.bu, .int .i64 p.fu], .agg #[.slice u.q o.n u.c, .slice u.q2 o.m u.c2, .slice u.q3 o.l u.c3]] w fun e w' => ∃ c, e = .returned (.int .i64 c) ∧ FO p o c ∧ Below w.heap.size w w' := by
  by_cases hv : VC p 0
  · refine (take_good p v o u hv hn w h ho).mono ?_
    rintro e w' ⟨c, h1, h2 | h2, h3⟩
    · exact ⟨c, h1, .inr (.inr ⟨hv, h2.1, h2.2⟩), h3⟩
    · exact ⟨c, h1, .inr (.inl ⟨hv, h2.1, h2.2⟩), h3⟩
  · refine (take_bad p v o u hv w h).mono ?_
    rintro e w' ⟨c, h1, h2, h3⟩
    exact ⟨c, h1, .inl h2, h3⟩
theorem open_bad (p : Pl) (v : PlV) (o : Pn) (u : PnV) (hr : RoomyL p) (hn : RoomyN o) (w : World) (h : PlAt w p v) (ho : PnAt w o u) (hbad : ¬ (VC p 0 ∧ PF p o)) :
    Calls Try.prog 6 #[.agg #[.int .i64 p.ki, .slice v.pp p.np v.pc, .slice v.tp p.nq v.tc, .slice v.sp p.ns v.sc, .int .u64 p.sd, .int .u64 p.lk, .int .u64 p.en, .int .i64 p.bu, .int .i64 p.fu], .agg #[.slice u.q o.n u.c, .slice u.q2 o.m u.c2, .slice u.q3 o.l u.c3]] w fun e w' => ∃ c, e = .returned (.tuple #[.pointer none, .int .i64 c]) ∧ c ≠ 0 ∧ FO p o c ∧ Below w.heap.size w w' := by
  refine (open_any p v o u hr hn w h ho).mono ?_
  rintro e w' ⟨⟨c, h1, h2, h3 | h3⟩ | ⟨h1, h2, _⟩, hb⟩
  · exact ⟨c, h1, h2, .inl ⟨h3, h2⟩, hb⟩
  · exact ⟨c, h1, h2, .inr (.inl h3), hb⟩
  · exact absurd ⟨h1, h2⟩ hbad
theorem open_good (p : Pl) (v : PlV) (o : Pn) (u : PnV) (hr : RoomyL p) (hn : RoomyN o) (w : World) (h : PlAt w p v) (ho : PnAt w o u) (hv : VC p 0) (hf : PF p o) :
    Calls Try.prog 6 #[.agg #[.int .i64 p.ki, .slice v.pp p.np v.pc, .slice v.tp p.nq v.tc, .slice v.sp p.ns v.sc, .int .u64 p.sd, .int .u64 p.lk, .int .u64 p.en, .int .i64 p.bu, .int .i64 p.fu], .agg #[.slice u.q o.n u.c, .slice u.q2 o.m u.c2, .slice u.q3 o.l u.c3]] w fun e w' => ∃ sb, e = .returned (.tuple #[.pointer (some ⟨sb, 0, none⟩), .int .i64 0]) ∧ SimAt w' sb p o ∧ Below w.heap.size w w' := by
  refine (open_any p v o u hr hn w h ho).mono ?_
  rintro e w' ⟨⟨c, h1, h2, h3 | h3⟩ | ⟨h1, h2, sb, h3, h4⟩, hb⟩
  · exact absurd (VC.one h3 hv) h2
  · exact absurd hf h3.2.1
  · exact ⟨sb, h3, h4, hb⟩
theorem Rsg.srt {n : Nat} {X : Nat → Se} (h : Rsg n X) : Srt klt 0 n X := by
  have H : ∀ d i, i + (d + 1) < n → klt (X i) (X (i + (d + 1))) = true := by
    intro d
    induction d with
    | zero => intro i hi; exact h i hi
    | succ d ih =>
      intro i hi
      have h1 := (klt_iff _ _).1 (ih i (by omega))
      have h2 := (klt_iff _ _).1 (h (i + (d + 1)) (by omega))
      rw [show i + (d + 1 + 1) = i + (d + 1) + 1 by omega]
      exact (klt_iff _ _).2 (by omega)
  intro i j _ h2 h3
  have h4 := H (j - i - 1) i (by omega)
  rw [show i + (j - i - 1 + 1) = j by omega] at h4
  exact klt_ord.asym h4
theorem point_good (p : Pl) (o : Pn) (sb : Nat) (w : World) (h : SimAt w sb p o) (hn : RoomyN o) (hf : PF p o) :
    Calls Try.prog 9 #[.pointer (some ⟨sb, 0, none⟩)] w fun e w' => ∃ y : PnV, e = .returned (.agg #[.slice y.q o.n y.c, .slice y.q2 o.m y.c2, .slice y.q3 o.l y.c3]) ∧ PnAt w' o y ∧ Below w.heap.size w w' := by
  refine (point_any p o sb w h hn).mono ?_
  rintro e w' ⟨y, d, h1, h2, h3, h4, h5⟩
  have he := stable_one klt_ord h3 h4 (Stb.refl 0 o.m o.X) hf.2.1.srt
  exact ⟨y, h1, ⟨h2.1, h2.2.1.congr he, h2.2.2⟩, h5⟩
/-- a box that was made after wb -/
def Bx (wb x : World) (b : Nat) (t : TypeId) (cs : Array Value) : Prop := wb.heap.size ≤ b ∧ x.heap[b]? = some (.cells cs t (0, 0))
theorem Bx.at {wb x : World} {b : Nat} {t : TypeId} {cs : Array Value} (h : Bx wb x b t cs) : x.heap[b]? = some (.cells cs t (0, 0)) := h.2
theorem Bx.later {wb x y : World} {b : Nat} {t : TypeId} {cs : Array Value} (h : Bx wb x b t cs) (hb : Below x.heap.size x y) : Bx wb y b t cs := ⟨h.1, (hb.block _ (lt_of_block h.2)).trans h.2⟩
theorem Bx.row {wb x y : World} {b n : Nat} {t : TypeId} {cs ds : Array Value} (h : Bx wb x b t cs) (hn : b ≠ n) (e : x.setRow n ds = y) : Bx wb y b t cs := ⟨h.1, by rw [← e]; exact (setRow_far _ _ _ _ hn).trans h.2⟩
theorem Kb.rfl {S : Nat → Prop} {x : World} : Kb S x x := ⟨Nat.le_refl _, fun _ _ _ => _root_.rfl⟩
theorem Kb.row {x0 w1 x y : World} {n : Nat} {ds : Array Value} (h : Kb (fun j => j < x0.heap.size) w1 x) (hd : n < x0.heap.size ∨ w1.heap.size ≤ n) (e : x.setRow n ds = y) : Kb (fun j => j < x0.heap.size) w1 y := by
  rw [← e]
  refine ⟨by rw [setRow_size]; exact h.size, fun k hk hs => (setRow_far _ _ _ _ ?_).trans (h.block k hk hs)⟩
  have : ¬ k < x0.heap.size := hs
  omega
theorem opens_lr {wb x w1 w2 : World} {p : Pl} {o : Pn} {g : PlV} {v : PnV} {b1 b2 n m : Nat} (hB : Below wb.heap.size wb x) (c1 : Hid (PlAt w1 p g ∧ PlNew b1 p g)) (k1 : Kb (fun j => j < b1) w1 x) (c2 : Hid (PnNew w2 b2 o v)) (k2 : Kb (fun j => j < b2) w2 x) (hp : Bx wb x n 27 #[.int .i64 p.ki, .slice g.pp p.np g.pc, .slice g.tp p.nq g.tc, .slice g.sp p.ns g.sc, .int .u64 p.sd, .int .u64 p.lk, .int .u64 p.en, .int .i64 p.bu, .int .i64 p.fu]) (hq : Bx wb x m 31 #[.slice v.q o.n v.c, .slice v.q2 o.m v.c2, .slice v.q3 o.l v.c3]) : LR wb x p o (.pointer (some ⟨n, 0, none⟩)) (.pointer (some ⟨m, 0, none⟩)) :=
  ⟨n, m, g, v, rfl, rfl, hp.2, hq.2, c1.out.1.kbn c1.out.2 k1 (fun k hk => by show ¬ k < b1; omega), (c2.out.kb k2 (fun k hk => by show ¬ k < b2; omega)).at, hB⟩
set_option maxRecDepth 100000 in
set_option maxHeartbeats 16000000 in
theorem opens_law (p : Pl) (v : PlV) (o : Pn) (u : PnV) (oq : Option Addr) (on oc : Nat) (hr : RoomyL p) (hn : RoomyN o) (w : World) (h : PlAt w p v) (ho : PnAt w o u) :
    Calls Try.prog 3 #[.agg #[.int .i64 p.ki, .slice v.pp p.np v.pc, .slice v.tp p.nq v.tc, .slice v.sp p.ns v.sc, .int .u64 p.sd, .int .u64 p.lk, .int .u64 p.en, .int .i64 p.bu, .int .i64 p.fu, .slice u.q o.n u.c, .slice u.q2 o.m u.c2, .slice u.q3 o.l u.c3, .slice oq on oc]] w fun e w' => e = .returned (.bool true) ∧ Below w.heap.size w w' := by
  obtain ⟨wb, hwb⟩ : ∃ wb, w.alloc (.cells #[.int .i64 p.ki, .slice v.pp p.np v.pc, .slice v.tp p.nq v.tc, .slice v.sp p.ns v.sc, .int .u64 p.sd, .int .u64 p.lk, .int .u64 p.en, .int .i64 p.bu, .int .i64 p.fu, .slice u.q o.n u.c, .slice u.q2 o.m u.c2, .slice u.q3 o.l u.c3, .slice oq on oc] 34) = wb := ⟨_, rfl⟩
  obtain ⟨hb0, hbox, hsz⟩ := boxed _ _ _ hwb
  have HW : Hid (w.alloc (.cells #[.int .i64 p.ki, .slice v.pp p.np v.pc, .slice v.tp p.nq v.tc, .slice v.sp p.ns v.sc, .int .u64 p.sd, .int .u64 p.lk, .int .u64 p.en, .int .i64 p.bu, .int .i64 p.fu, .slice u.q o.n u.c, .slice u.q2 o.m u.c2, .slice u.q3 o.l u.c3, .slice oq on oc] 34) = wb) := hwb
  have HP : Hid (PlAt wb p v ∧ PnAt wb o u ∧ Below w.heap.size w wb ∧ RoomyL p ∧ RoomyN o ∧ wb.heap.size = w.heap.size + 1) := ⟨h.below hb0, ho.below hb0, hb0, hr, hn, hsz⟩
  have HC1 : ∀ W, Below wb.heap.size wb W → Hid (Calls Try.prog 4 #[.agg #[.int .i64 p.ki, .slice v.pp p.np v.pc, .slice v.tp p.nq v.tc, .slice v.sp p.ns v.sc, .int .u64 p.sd, .int .u64 p.lk, .int .u64 p.en, .int .i64 p.bu, .int .i64 p.fu]] W fun e w' => ∃ g : PlV, e = .returned (.agg #[.int .i64 p.ki, .slice g.pp p.np g.pc, .slice g.tp p.nq g.tc, .slice g.sp p.ns g.sc, .int .u64 p.sd, .int .u64 p.lk, .int .u64 p.en, .int .i64 p.bu, .int .i64 p.fu]) ∧ PlAt w' p g ∧ PlNew W.heap.size p g ∧ Below W.heap.size W w') := fun W hb => copyPlan_new p v W ((h.below hb0).below hb) hr
  have HC2 : ∀ W, Below wb.heap.size wb W → Hid (Calls Try.prog 5 #[.agg #[.slice u.q o.n u.c, .slice u.q2 o.m u.c2, .slice u.q3 o.l u.c3]] W fun e w' => ∃ x : PnV, e = .returned (.agg #[.slice x.q o.n x.c, .slice x.q2 o.m x.c2, .slice x.q3 o.l x.c3]) ∧ PnNew w' W.heap.size o x ∧ Below W.heap.size W w') := fun W hb => copyPoint_new o u hn W ((ho.below hb0).below hb)
  have hwl := lt_of_block hbox
  clear hwb h ho hr hn hb0 hsz
  go_enter Try.func3, Try.ntmps3
  go_upto_region 1 with fail
  rw [HW.out]
  go_cut [3, 4] (fun s3 s4 wx => LR wb wx p o s3 s4)
  case first =>
    have B0 : Below wb.heap.size wb wb.drew := (Below.refl _ wb).drew
    refine wp_region_held_drew (S := fun W => W.heap[w.heap.size]? = wb.heap[w.heap.size]?) (by kernel_rfl) rfl (fun hHeld => ?_)
    generalize wb.drew = x0 at B0 hHeld ⊢
    refine wpAnyH_take (i := 0) (v := ?hv0u1) rfl (by kernel_rfl) (by kernel_rfl) (by kernel_rfl) (fun _ _ _ h => h) (Or.inl ⟨by rfl, ?hy0u1⟩) (by assumption) ?hr0u1
    case hy0u1 => ((intro W hSw; obtain ⟨a0, a1, a2, a3, a4, a5, a6, a7, a8, a9, a10, a11⟩ := cells13 (hSw.trans hbox); go_simp); try with_reducible rfl)
    simp only [List.getElem_toArray, List.getElem_cons_zero, List.getElem_cons_succ, Act.put, List.setIfInBounds_toArray, List.set_cons_zero, List.set_cons_succ]
    refine wpAnyH_take (i := 1) (v := ?hv1u2) rfl (by kernel_rfl) (by kernel_rfl) (by kernel_rfl) (fun _ _ _ h => h) (Or.inl ⟨by rfl, ?hy1u2⟩) (by assumption) ?hr1u2
    case hy1u2 => ((intro W hSw; obtain ⟨a0, a1, a2, a3, a4, a5, a6, a7, a8, a9, a10, a11⟩ := cells13 (hSw.trans hbox); go_simp); try with_reducible rfl)
    simp only [List.getElem_toArray, List.getElem_cons_zero, List.getElem_cons_succ, Act.put, List.setIfInBounds_toArray, List.set_cons_zero, List.set_cons_succ]
    refine wpAnyH_take (i := 3) (v := ?hv3u3) rfl (by kernel_rfl) (by kernel_rfl) (by kernel_rfl) (fun _ _ _ h => h) (Or.inl ⟨by rfl, ?hy3u3⟩) (by assumption) ?hr3u3
    case hy3u3 => ((intro W hSw; obtain ⟨a0, a1, a2, a3, a4, a5, a6, a7, a8, a9, a10, a11⟩ := cells13 (hSw.trans hbox); go_simp); try with_reducible rfl)
    simp only [List.getElem_toArray, List.getElem_cons_zero, List.getElem_cons_succ, Act.put, List.setIfInBounds_toArray, List.set_cons_zero, List.set_cons_succ]
    refine wpAnyH_take (i := 4) (v := ?hv4u4) rfl (by kernel_rfl) (by kernel_rfl) (by kernel_rfl) (fun _ _ _ h => h) (Or.inl ⟨by rfl, ?hy4u4⟩) (by assumption) ?hr4u4
    case hy4u4 => ((intro W hSw; obtain ⟨a0, a1, a2, a3, a4, a5, a6, a7, a8, a9, a10, a11⟩ := cells13 (hSw.trans hbox); go_simp); try with_reducible rfl)
    simp only [List.getElem_toArray, List.getElem_cons_zero, List.getElem_cons_succ, Act.put, List.setIfInBounds_toArray, List.set_cons_zero, List.set_cons_succ]
    refine wpAnyH_ready (rs := [2, 6, 7]) (by kernel_rfl) (by simp) (AllReadyH.cons rfl (fun KK hK => ?_) (AllReadyH.cons rfl (fun KK hK => ?_) (AllReadyH.cons rfl (fun KK hK => ?_) AllReadyH.nil)))
    all_goals dsimp -proj only [List.getElem_toArray, List.getElem_cons_zero, List.getElem_cons_succ]
    · go_simp
      go_at_call 4
      refine (HC1 _ B0).out.mono ?_
      rintro e x5 ⟨g, rfl, hg, hgn, hb5⟩
      try go_wp2_with fail
      have B5 : Below wb.heap.size wb x5 := B0.trans (hb5.mono B0.size)
      have C15 : Hid (PlAt x5 p g ∧ PlNew x0.heap.size p g) := ⟨hg, hgn⟩
      have k15 : Kb (fun j => j < x0.heap.size) x5 x5 := Kb.rfl
      refine hK.out _ _ (B5.block _ hwl) (fun hHeld => ?_)
      clear hK KK hHeld
      have hHeld := B5.block _ hwl
      try simp only [Act.put, List.setIfInBounds_toArray, List.set_cons_zero, List.set_cons_succ]
      refine wpAnyH_ready (rs := [5, 6, 7]) (by kernel_rfl) (by simp) (AllReadyH.cons rfl (fun KK hK => ?_) (AllReadyH.cons rfl (fun KK hK => ?_) (AllReadyH.cons rfl (fun KK hK => ?_) AllReadyH.nil)))
      all_goals dsimp -proj only [List.getElem_toArray, List.getElem_cons_zero, List.getElem_cons_succ]
      · go_simp
        go_at_call 5
        refine (HC2 _ B5).out.mono ?_
        rintro e x6 ⟨z, rfl, hz, hb6⟩
        try go_wp2_with fail
        have B6 : Below wb.heap.size wb x6 := B5.trans (hb6.mono B5.size)
        have k16 := k15.trans (Kb.below hb6)
        have C26 : Hid (PnNew x6 x5.heap.size o z) := hz
        have k26 : Kb (fun j => j < x5.heap.size) x6 x6 := Kb.rfl
        refine hK.out _ _ (B6.block _ hwl) (fun hHeld => ?_)
        clear hK KK hHeld
        have hHeld := B6.block _ hwl
        try simp only [Act.put, List.setIfInBounds_toArray, List.set_cons_zero, List.set_cons_succ]
        refine wpAnyH_ready (rs := [6, 7]) (by kernel_rfl) (by simp) (AllReadyH.cons rfl (fun KK hK => ?_) (AllReadyH.cons rfl (fun KK hK => ?_) AllReadyH.nil))
        all_goals dsimp -proj only [List.getElem_toArray, List.getElem_cons_zero, List.getElem_cons_succ]
        · go_simp
          obtain ⟨x7, hx7⟩ : ∃ x, x6.alloc (.cells #[.int .i64 0, .slice none 0 0, .slice none 0 0, .slice none 0 0, .int .u64 0, .int .u64 0, .int .u64 0, .int .i64 0, .int .i64 0] 27) = x := ⟨_, rfl⟩
          obtain ⟨hb7, eN7, hs7⟩ := boxed _ _ _ hx7
          rw [hx7]
          have B7 : Below wb.heap.size wb x7 := B6.trans (hb7.mono B6.size)
          have k17 := k16.trans (Kb.below hb7)
          have k27 := k26.trans (Kb.below hb7)
          obtain ⟨n7, en7⟩ : ∃ n, x6.heap.size = n := ⟨_, rfl⟩
          rw [en7]
          have bP7 : Bx wb x7 n7 27 #[.int .i64 0, .slice none 0 0, .slice none 0 0, .slice none 0 0, .int .u64 0, .int .u64 0, .int .u64 0, .int .i64 0, .int .i64 0] := ⟨by rw [← en7]; exact B6.size, by rw [← en7]; exact eN7⟩
          have dP17 : n7 < x0.heap.size ∨ x5.heap.size ≤ n7 := .inr (by rw [← en7]; exact k16.size)
          have dP27 : n7 < x5.heap.size ∨ x6.heap.size ≤ n7 := .inr (by rw [← en7]; exact k26.size)
          clear hs7 en7 hx7 eN7
          refine hK.out _ _ (B7.block _ hwl) (fun hHeld => ?_)
          clear hK KK hHeld
          have hHeld := B7.block _ hwl
          try simp only [Act.put, List.setIfInBounds_toArray, List.set_cons_zero, List.set_cons_succ]
          refine wpAnyH_ready (rs := [7]) (by kernel_rfl) (by simp) (AllReadyH.cons rfl (fun KK hK => ?_) AllReadyH.nil)
          all_goals dsimp -proj only [List.getElem_toArray, List.getElem_cons_zero, List.getElem_cons_succ]
          · go_simp
            obtain ⟨x8, hx8⟩ : ∃ x, x7.alloc (.cells #[.slice none 0 0, .slice none 0 0, .slice none 0 0] 31) = x := ⟨_, rfl⟩
            obtain ⟨hb8, eN8, hs8⟩ := boxed _ _ _ hx8
            rw [hx8]
            have B8 : Below wb.heap.size wb x8 := B7.trans (hb8.mono B7.size)
            have bP8 := bP7.later hb8
            have k18 := k17.trans (Kb.below hb8)
            have k28 := k27.trans (Kb.below hb8)
            obtain ⟨n8, en8⟩ : ∃ n, x7.heap.size = n := ⟨_, rfl⟩
            rw [en8]
            have bQ8 : Bx wb x8 n8 31 #[.slice none 0 0, .slice none 0 0, .slice none 0 0] := ⟨by rw [← en8]; exact B7.size, by rw [← en8]; exact eN8⟩
            have ne8 : n8 ≠ n7 := by have := lt_of_block bP7.at; omega
            have dQ18 : n8 < x0.heap.size ∨ x5.heap.size ≤ n8 := .inr (by rw [← en8]; exact k17.size)
            have dQ28 : n8 < x5.heap.size ∨ x6.heap.size ≤ n8 := .inr (by rw [← en8]; exact k27.size)
            clear hs8 en8 hx8 eN8
            refine hK.out _ _ (B8.block _ hwl) (fun hHeld => ?_)
            clear hK KK hHeld
            have hHeld := B8.block _ hwl
            try simp only [Act.put, List.setIfInBounds_toArray, List.set_cons_zero, List.set_cons_succ]
            refine wpAnyH_ready (rs := [8]) (by kernel_rfl) (by simp) (AllReadyH.cons rfl (fun KK hK => ?_) AllReadyH.nil)
            all_goals dsimp -proj only [List.getElem_toArray, List.getElem_cons_zero, List.getElem_cons_succ]
            · refine step_store_row rfl 27 _ _ rfl n7 #[.int .i64 p.ki, .slice g.pp p.np g.pc, .slice g.tp p.nq g.tc, .slice g.sp p.ns g.sc, .int .u64 p.sd, .int .u64 p.lk, .int .u64 p.en, .int .i64 p.bu, .int .i64 p.fu] rfl rfl 27 _ bP8.at (by kernel_rfl) rfl (by kernel_rfl) ?_
              obtain ⟨x9, hx9⟩ : ∃ x, x8.setRow n7 #[.int .i64 p.ki, .slice g.pp p.np g.pc, .slice g.tp p.nq g.tc, .slice g.sp p.ns g.sc, .int .u64 p.sd, .int .u64 p.lk, .int .u64 p.en, .int .i64 p.bu, .int .i64 p.fu] = x := ⟨_, rfl⟩
              rw [hx9]
              have B9 : Below wb.heap.size wb x9 := by rw [← hx9]; exact setRow_below _ B8 bP8.1
              have bP9 : Bx wb x9 n7 27 #[.int .i64 p.ki, .slice g.pp p.np g.pc, .slice g.tp p.nq g.tc, .slice g.sp p.ns g.sc, .int .u64 p.sd, .int .u64 p.lk, .int .u64 p.en, .int .i64 p.bu, .int .i64 p.fu] := ⟨bP8.1, by rw [← hx9]; exact setRow_heap _ _ _ _ _ _ bP8.at⟩
              have bQ9 := bQ8.row ne8.symm.symm hx9
              have k19 := k18.row dP17 hx9
              have k29 := k28.row dP27 hx9
              clear hx9
              refine hK.out _ _ (B9.block _ hwl) (fun hHeld => ?_)
              clear hK KK hHeld
              have hHeld := B9.block _ hwl
              try simp only [Act.put, List.setIfInBounds_toArray, List.set_cons_zero, List.set_cons_succ]
              refine wpAnyH_ready (rs := [9]) (by kernel_rfl) (by simp) (AllReadyH.cons rfl (fun KK hK => ?_) AllReadyH.nil)
              all_goals dsimp -proj only [List.getElem_toArray, List.getElem_cons_zero, List.getElem_cons_succ]
              · refine step_store_row rfl 31 _ _ rfl n8 #[.slice z.q o.n z.c, .slice z.q2 o.m z.c2, .slice z.q3 o.l z.c3] rfl rfl 31 _ bQ9.at (by kernel_rfl) rfl (by kernel_rfl) ?_
                obtain ⟨x10, hx10⟩ : ∃ x, x9.setRow n8 #[.slice z.q o.n z.c, .slice z.q2 o.m z.c2, .slice z.q3 o.l z.c3] = x := ⟨_, rfl⟩
                rw [hx10]
                have B10 : Below wb.heap.size wb x10 := by rw [← hx10]; exact setRow_below _ B9 bQ9.1
                have bQ10 : Bx wb x10 n8 31 #[.slice z.q o.n z.c, .slice z.q2 o.m z.c2, .slice z.q3 o.l z.c3] := ⟨bQ9.1, by rw [← hx10]; exact setRow_heap _ _ _ _ _ _ bQ9.at⟩
                have bP10 := bP9.row ne8.symm hx10
                have k110 := k19.row dQ18 hx10
                have k210 := k29.row dQ28 hx10
                clear hx10
                refine hK.out _ _ (B10.block _ hwl) (fun hHeld => ?_)
                clear hK KK hHeld
                have hHeld := B10.block _ hwl
                try simp only [Act.put, List.setIfInBounds_toArray, List.set_cons_zero, List.set_cons_succ]
                refine wpAnyH_done (by kernel_rfl) ?_ _
                have hLR := opens_lr B10 C15 k110 C26 k210 bP10 bQ10
                go_wp2_with fail; go_meet; exact hLR
        · go_simp
          obtain ⟨x11, hx11⟩ : ∃ x, x6.alloc (.cells #[.slice none 0 0, .slice none 0 0, .slice none 0 0] 31) = x := ⟨_, rfl⟩
          obtain ⟨hb11, eN11, hs11⟩ := boxed _ _ _ hx11
          rw [hx11]
          have B11 : Below wb.heap.size wb x11 := B6.trans (hb11.mono B6.size)
          have k111 := k16.trans (Kb.below hb11)
          have k211 := k26.trans (Kb.below hb11)
          obtain ⟨n11, en11⟩ : ∃ n, x6.heap.size = n := ⟨_, rfl⟩
          rw [en11]
          have bQ11 : Bx wb x11 n11 31 #[.slice none 0 0, .slice none 0 0, .slice none 0 0] := ⟨by rw [← en11]; exact B6.size, by rw [← en11]; exact eN11⟩
          have dQ111 : n11 < x0.heap.size ∨ x5.heap.size ≤ n11 := .inr (by rw [← en11]; exact k16.size)
          have dQ211 : n11 < x5.heap.size ∨ x6.heap.size ≤ n11 := .inr (by rw [← en11]; exact k26.size)
          clear hs11 en11 hx11 eN11
          refine hK.out _ _ (B11.block _ hwl) (fun hHeld => ?_)
          clear hK KK hHeld
          have hHeld := B11.block _ hwl
          try simp only [Act.put, List.setIfInBounds_toArray, List.set_cons_zero, List.set_cons_succ]
          refine wpAnyH_ready (rs := [6]) (by kernel_rfl) (by simp) (AllReadyH.cons rfl (fun KK hK => ?_) AllReadyH.nil)
          all_goals dsimp -proj only [List.getElem_toArray, List.getElem_cons_zero, List.getElem_cons_succ]
          · go_simp
            obtain ⟨x12, hx12⟩ : ∃ x, x11.alloc (.cells #[.int .i64 0, .slice none 0 0, .slice none 0 0, .slice none 0 0, .int .u64 0, .int .u64 0, .int .u64 0, .int .i64 0, .int .i64 0] 27) = x := ⟨_, rfl⟩
            obtain ⟨hb12, eN12, hs12⟩ := boxed _ _ _ hx12
            rw [hx12]
            have B12 : Below wb.heap.size wb x12 := B11.trans (hb12.mono B11.size)
            have bQ12 := bQ11.later hb12
            have k112 := k111.trans (Kb.below hb12)
            have k212 := k211.trans (Kb.below hb12)
            obtain ⟨n12, en12⟩ : ∃ n, x11.heap.size = n := ⟨_, rfl⟩
            rw [en12]
            have bP12 : Bx wb x12 n12 27 #[.int .i64 0, .slice none 0 0, .slice none 0 0, .slice none 0 0, .int .u64 0, .int .u64 0, .int .u64 0, .int .i64 0, .int .i64 0] := ⟨by rw [← en12]; exact B11.size, by rw [← en12]; exact eN12⟩
            have ne12 : n12 ≠ n11 := by have := lt_of_block bQ11.at; omega
            have dP112 : n12 < x0.heap.size ∨ x5.heap.size ≤ n12 := .inr (by rw [← en12]; exact k111.size)
            have dP212 : n12 < x5.heap.size ∨ x6.heap.size ≤ n12 := .inr (by rw [← en12]; exact k211.size)
            clear hs12 en12 hx12 eN12
            refine hK.out _ _ (B12.block _ hwl) (fun hHeld => ?_)
            clear hK KK hHeld
            have hHeld := B12.block _ hwl
            try simp only [Act.put, List.setIfInBounds_toArray, List.set_cons_zero, List.set_cons_succ]
            refine wpAnyH_ready (rs := [8]) (by kernel_rfl) (by simp) (AllReadyH.cons rfl (fun KK hK => ?_) AllReadyH.nil)
            all_goals dsimp -proj only [List.getElem_toArray, List.getElem_cons_zero, List.getElem_cons_succ]
            · refine step_store_row rfl 27 _ _ rfl n12 #[.int .i64 p.ki, .slice g.pp p.np g.pc, .slice g.tp p.nq g.tc, .slice g.sp p.ns g.sc, .int .u64 p.sd, .int .u64 p.lk, .int .u64 p.en, .int .i64 p.bu, .int .i64 p.fu] rfl rfl 27 _ bP12.at (by kernel_rfl) rfl (by kernel_rfl) ?_
              obtain ⟨x13, hx13⟩ : ∃ x, x12.setRow n12 #[.int .i64 p.ki, .slice g.pp p.np g.pc, .slice g.tp p.nq g.tc, .slice g.sp p.ns g.sc, .int .u64 p.sd, .int .u64 p.lk, .int .u64 p.en, .int .i64 p.bu, .int .i64 p.fu] = x := ⟨_, rfl⟩
              rw [hx13]
              have B13 : Below wb.heap.size wb x13 := by rw [← hx13]; exact setRow_below _ B12 bP12.1
              have bP13 : Bx wb x13 n12 27 #[.int .i64 p.ki, .slice g.pp p.np g.pc, .slice g.tp p.nq g.tc, .slice g.sp p.ns g.sc, .int .u64 p.sd, .int .u64 p.lk, .int .u64 p.en, .int .i64 p.bu, .int .i64 p.fu] := ⟨bP12.1, by rw [← hx13]; exact setRow_heap _ _ _ _ _ _ bP12.at⟩
              have bQ13 := bQ12.row ne12.symm hx13
              have k113 := k112.row dP112 hx13
              have k213 := k212.row dP212 hx13
              clear hx13
              refine hK.out _ _ (B13.block _ hwl) (fun hHeld => ?_)
              clear hK KK hHeld
              have hHeld := B13.block _ hwl
              try simp only [Act.put, List.setIfInBounds_toArray, List.set_cons_zero, List.set_cons_succ]
              refine wpAnyH_ready (rs := [9]) (by kernel_rfl) (by simp) (AllReadyH.cons rfl (fun KK hK => ?_) AllReadyH.nil)
              all_goals dsimp -proj only [List.getElem_toArray, List.getElem_cons_zero, List.getElem_cons_succ]
              · refine step_store_row rfl 31 _ _ rfl n11 #[.slice z.q o.n z.c, .slice z.q2 o.m z.c2, .slice z.q3 o.l z.c3] rfl rfl 31 _ bQ13.at (by kernel_rfl) rfl (by kernel_rfl) ?_
                obtain ⟨x14, hx14⟩ : ∃ x, x13.setRow n11 #[.slice z.q o.n z.c, .slice z.q2 o.m z.c2, .slice z.q3 o.l z.c3] = x := ⟨_, rfl⟩
                rw [hx14]
                have B14 : Below wb.heap.size wb x14 := by rw [← hx14]; exact setRow_below _ B13 bQ13.1
                have bQ14 : Bx wb x14 n11 31 #[.slice z.q o.n z.c, .slice z.q2 o.m z.c2, .slice z.q3 o.l z.c3] := ⟨bQ13.1, by rw [← hx14]; exact setRow_heap _ _ _ _ _ _ bQ13.at⟩
                have bP14 := bP13.row ne12 hx14
                have k114 := k113.row dQ111 hx14
                have k214 := k213.row dQ211 hx14
                clear hx14
                refine hK.out _ _ (B14.block _ hwl) (fun hHeld => ?_)
                clear hK KK hHeld
                have hHeld := B14.block _ hwl
                try simp only [Act.put, List.setIfInBounds_toArray, List.set_cons_zero, List.set_cons_succ]
                refine wpAnyH_done (by kernel_rfl) ?_ _
                have hLR := opens_lr B14 C15 k114 C26 k214 bP14 bQ14
                go_wp2_with fail; go_meet; exact hLR
      · go_simp
        obtain ⟨x15, hx15⟩ : ∃ x, x5.alloc (.cells #[.int .i64 0, .slice none 0 0, .slice none 0 0, .slice none 0 0, .int .u64 0, .int .u64 0, .int .u64 0, .int .i64 0, .int .i64 0] 27) = x := ⟨_, rfl⟩
        obtain ⟨hb15, eN15, hs15⟩ := boxed _ _ _ hx15
        rw [hx15]
        have B15 : Below wb.heap.size wb x15 := B5.trans (hb15.mono B5.size)
        have k115 := k15.trans (Kb.below hb15)
        obtain ⟨n15, en15⟩ : ∃ n, x5.heap.size = n := ⟨_, rfl⟩
        rw [en15]
        have bP15 : Bx wb x15 n15 27 #[.int .i64 0, .slice none 0 0, .slice none 0 0, .slice none 0 0, .int .u64 0, .int .u64 0, .int .u64 0, .int .i64 0, .int .i64 0] := ⟨by rw [← en15]; exact B5.size, by rw [← en15]; exact eN15⟩
        have dP115 : n15 < x0.heap.size ∨ x5.heap.size ≤ n15 := .inr (by rw [← en15]; exact k15.size)
        clear hs15 en15 hx15 eN15
        refine hK.out _ _ (B15.block _ hwl) (fun hHeld => ?_)
        clear hK KK hHeld
        have hHeld := B15.block _ hwl
        try simp only [Act.put, List.setIfInBounds_toArray, List.set_cons_zero, List.set_cons_succ]
        refine wpAnyH_ready (rs := [5, 7]) (by kernel_rfl) (by simp) (AllReadyH.cons rfl (fun KK hK => ?_) (AllReadyH.cons rfl (fun KK hK => ?_) AllReadyH.nil))
        all_goals dsimp -proj only [List.getElem_toArray, List.getElem_cons_zero, List.getElem_cons_succ]
        · go_simp
          go_at_call 5
          refine (HC2 _ B15).out.mono ?_
          rintro e x16 ⟨z, rfl, hz, hb16⟩
          try go_wp2_with fail
          have B16 : Below wb.heap.size wb x16 := B15.trans (hb16.mono B15.size)
          have bP16 := bP15.later hb16
          have k116 := k115.trans (Kb.below hb16)
          have C216 : Hid (PnNew x16 x15.heap.size o z) := hz
          have k216 : Kb (fun j => j < x15.heap.size) x16 x16 := Kb.rfl
          have dP216 : n15 < x15.heap.size ∨ x16.heap.size ≤ n15 := .inl (lt_of_block bP15.at)
          refine hK.out _ _ (B16.block _ hwl) (fun hHeld => ?_)
          clear hK KK hHeld
          have hHeld := B16.block _ hwl
          try simp only [Act.put, List.setIfInBounds_toArray, List.set_cons_zero, List.set_cons_succ]
          refine wpAnyH_ready (rs := [7]) (by kernel_rfl) (by simp) (AllReadyH.cons rfl (fun KK hK => ?_) AllReadyH.nil)
          all_goals dsimp -proj only [List.getElem_toArray, List.getElem_cons_zero, List.getElem_cons_succ]
          · go_simp
            obtain ⟨x17, hx17⟩ : ∃ x, x16.alloc (.cells #[.slice none 0 0, .slice none 0 0, .slice none 0 0] 31) = x := ⟨_, rfl⟩
            obtain ⟨hb17, eN17, hs17⟩ := boxed _ _ _ hx17
            rw [hx17]
            have B17 : Below wb.heap.size wb x17 := B16.trans (hb17.mono B16.size)
            have bP17 := bP16.later hb17
            have k117 := k116.trans (Kb.below hb17)
            have k217 := k216.trans (Kb.below hb17)
            obtain ⟨n17, en17⟩ : ∃ n, x16.heap.size = n := ⟨_, rfl⟩
            rw [en17]
            have bQ17 : Bx wb x17 n17 31 #[.slice none 0 0, .slice none 0 0, .slice none 0 0] := ⟨by rw [← en17]; exact B16.size, by rw [← en17]; exact eN17⟩
            have ne17 : n17 ≠ n15 := by have := lt_of_block bP16.at; omega
            have dQ117 : n17 < x0.heap.size ∨ x5.heap.size ≤ n17 := .inr (by rw [← en17]; exact k116.size)
            have dQ217 : n17 < x15.heap.size ∨ x16.heap.size ≤ n17 := .inr (by rw [← en17]; exact k216.size)
            clear hs17 en17 hx17 eN17
            refine hK.out _ _ (B17.block _ hwl) (fun hHeld => ?_)
            clear hK KK hHeld
            have hHeld := B17.block _ hwl
            try simp only [Act.put, List.setIfInBounds_toArray, List.set_cons_zero, List.set_cons_succ]
            refine wpAnyH_ready (rs := [8]) (by kernel_rfl) (by simp) (AllReadyH.cons rfl (fun KK hK => ?_) AllReadyH.nil)
            all_goals dsimp -proj only [List.getElem_toArray, List.getElem_cons_zero, List.getElem_cons_succ]
            · refine step_store_row rfl 27 _ _ rfl n15 #[.int .i64 p.ki, .slice g.pp p.np g.pc, .slice g.tp p.nq g.tc, .slice g.sp p.ns g.sc, .int .u64 p.sd, .int .u64 p.lk, .int .u64 p.en, .int .i64 p.bu, .int .i64 p.fu] rfl rfl 27 _ bP17.at (by kernel_rfl) rfl (by kernel_rfl) ?_
              obtain ⟨x18, hx18⟩ : ∃ x, x17.setRow n15 #[.int .i64 p.ki, .slice g.pp p.np g.pc, .slice g.tp p.nq g.tc, .slice g.sp p.ns g.sc, .int .u64 p.sd, .int .u64 p.lk, .int .u64 p.en, .int .i64 p.bu, .int .i64 p.fu] = x := ⟨_, rfl⟩
              rw [hx18]
              have B18 : Below wb.heap.size wb x18 := by rw [← hx18]; exact setRow_below _ B17 bP17.1
              have bP18 : Bx wb x18 n15 27 #[.int .i64 p.ki, .slice g.pp p.np g.pc, .slice g.tp p.nq g.tc, .slice g.sp p.ns g.sc, .int .u64 p.sd, .int .u64 p.lk, .int .u64 p.en, .int .i64 p.bu, .int .i64 p.fu] := ⟨bP17.1, by rw [← hx18]; exact setRow_heap _ _ _ _ _ _ bP17.at⟩
              have bQ18 := bQ17.row ne17.symm.symm hx18
              have k118 := k117.row dP115 hx18
              have k218 := k217.row dP216 hx18
              clear hx18
              refine hK.out _ _ (B18.block _ hwl) (fun hHeld => ?_)
              clear hK KK hHeld
              have hHeld := B18.block _ hwl
              try simp only [Act.put, List.setIfInBounds_toArray, List.set_cons_zero, List.set_cons_succ]
              refine wpAnyH_ready (rs := [9]) (by kernel_rfl) (by simp) (AllReadyH.cons rfl (fun KK hK => ?_) AllReadyH.nil)
              all_goals dsimp -proj only [List.getElem_toArray, List.getElem_cons_zero, List.getElem_cons_succ]
              · refine step_store_row rfl 31 _ _ rfl n17 #[.slice z.q o.n z.c, .slice z.q2 o.m z.c2, .slice z.q3 o.l z.c3] rfl rfl 31 _ bQ18.at (by kernel_rfl) rfl (by kernel_rfl) ?_
                obtain ⟨x19, hx19⟩ : ∃ x, x18.setRow n17 #[.slice z.q o.n z.c, .slice z.q2 o.m z.c2, .slice z.q3 o.l z.c3] = x := ⟨_, rfl⟩
                rw [hx19]
                have B19 : Below wb.heap.size wb x19 := by rw [← hx19]; exact setRow_below _ B18 bQ18.1
                have bQ19 : Bx wb x19 n17 31 #[.slice z.q o.n z.c, .slice z.q2 o.m z.c2, .slice z.q3 o.l z.c3] := ⟨bQ18.1, by rw [← hx19]; exact setRow_heap _ _ _ _ _ _ bQ18.at⟩
                have bP19 := bP18.row ne17.symm hx19
                have k119 := k118.row dQ117 hx19
                have k219 := k218.row dQ217 hx19
                clear hx19
                refine hK.out _ _ (B19.block _ hwl) (fun hHeld => ?_)
                clear hK KK hHeld
                have hHeld := B19.block _ hwl
                try simp only [Act.put, List.setIfInBounds_toArray, List.set_cons_zero, List.set_cons_succ]
                refine wpAnyH_done (by kernel_rfl) ?_ _
                have hLR := opens_lr B19 C15 k119 C216 k219 bP19 bQ19
                go_wp2_with fail; go_meet; exact hLR
        · go_simp
          obtain ⟨x20, hx20⟩ : ∃ x, x15.alloc (.cells #[.slice none 0 0, .slice none 0 0, .slice none 0 0] 31) = x := ⟨_, rfl⟩
          obtain ⟨hb20, eN20, hs20⟩ := boxed _ _ _ hx20
          rw [hx20]
          have B20 : Below wb.heap.size wb x20 := B15.trans (hb20.mono B15.size)
          have bP20 := bP15.later hb20
          have k120 := k115.trans (Kb.below hb20)
          obtain ⟨n20, en20⟩ : ∃ n, x15.heap.size = n := ⟨_, rfl⟩
          rw [en20]
          have bQ20 : Bx wb x20 n20 31 #[.slice none 0 0, .slice none 0 0, .slice none 0 0] := ⟨by rw [← en20]; exact B15.size, by rw [← en20]; exact eN20⟩
          have ne20 : n20 ≠ n15 := by have := lt_of_block bP15.at; omega
          have dQ120 : n20 < x0.heap.size ∨ x5.heap.size ≤ n20 := .inr (by rw [← en20]; exact k115.size)
          clear hs20 en20 hx20 eN20
          refine hK.out _ _ (B20.block _ hwl) (fun hHeld => ?_)
          clear hK KK hHeld
          have hHeld := B20.block _ hwl
          try simp only [Act.put, List.setIfInBounds_toArray, List.set_cons_zero, List.set_cons_succ]
          refine wpAnyH_ready (rs := [5]) (by kernel_rfl) (by simp) (AllReadyH.cons rfl (fun KK hK => ?_) AllReadyH.nil)
          all_goals dsimp -proj only [List.getElem_toArray, List.getElem_cons_zero, List.getElem_cons_succ]
          · go_simp
            go_at_call 5
            refine (HC2 _ B20).out.mono ?_
            rintro e x21 ⟨z, rfl, hz, hb21⟩
            try go_wp2_with fail
            have B21 : Below wb.heap.size wb x21 := B20.trans (hb21.mono B20.size)
            have bP21 := bP20.later hb21
            have bQ21 := bQ20.later hb21
            have k121 := k120.trans (Kb.below hb21)
            have C221 : Hid (PnNew x21 x20.heap.size o z) := hz
            have k221 : Kb (fun j => j < x20.heap.size) x21 x21 := Kb.rfl
            have dP221 : n15 < x20.heap.size ∨ x21.heap.size ≤ n15 := .inl (lt_of_block bP20.at)
            have dQ221 : n20 < x20.heap.size ∨ x21.heap.size ≤ n20 := .inl (lt_of_block bQ20.at)
            refine hK.out _ _ (B21.block _ hwl) (fun hHeld => ?_)
            clear hK KK hHeld
            have hHeld := B21.block _ hwl
            try simp only [Act.put, List.setIfInBounds_toArray, List.set_cons_zero, List.set_cons_succ]
            refine wpAnyH_ready (rs := [8]) (by kernel_rfl) (by simp) (AllReadyH.cons rfl (fun KK hK => ?_) AllReadyH.nil)
            all_goals dsimp -proj only [List.getElem_toArray, List.getElem_cons_zero, List.getElem_cons_succ]
            · refine step_store_row rfl 27 _ _ rfl n15 #[.int .i64 p.ki, .slice g.pp p.np g.pc, .slice g.tp p.nq g.tc, .slice g.sp p.ns g.sc, .int .u64 p.sd, .int .u64 p.lk, .int .u64 p.en, .int .i64 p.bu, .int .i64 p.fu] rfl rfl 27 _ bP21.at (by kernel_rfl) rfl (by kernel_rfl) ?_
              obtain ⟨x22, hx22⟩ : ∃ x, x21.setRow n15 #[.int .i64 p.ki, .slice g.pp p.np g.pc, .slice g.tp p.nq g.tc, .slice g.sp p.ns g.sc, .int .u64 p.sd, .int .u64 p.lk, .int .u64 p.en, .int .i64 p.bu, .int .i64 p.fu] = x := ⟨_, rfl⟩
              rw [hx22]
              have B22 : Below wb.heap.size wb x22 := by rw [← hx22]; exact setRow_below _ B21 bP21.1
              have bP22 : Bx wb x22 n15 27 #[.int .i64 p.ki, .slice g.pp p.np g.pc, .slice g.tp p.nq g.tc, .slice g.sp p.ns g.sc, .int .u64 p.sd, .int .u64 p.lk, .int .u64 p.en, .int .i64 p.bu, .int .i64 p.fu] := ⟨bP21.1, by rw [← hx22]; exact setRow_heap _ _ _ _ _ _ bP21.at⟩
              have bQ22 := bQ21.row ne20.symm.symm hx22
              have k122 := k121.row dP115 hx22
              have k222 := k221.row dP221 hx22
              clear hx22
              refine hK.out _ _ (B22.block _ hwl) (fun hHeld => ?_)
              clear hK KK hHeld
              have hHeld := B22.block _ hwl
              try simp only [Act.put, List.setIfInBounds_toArray, List.set_cons_zero, List.set_cons_succ]
              refine wpAnyH_ready (rs := [9]) (by kernel_rfl) (by simp) (AllReadyH.cons rfl (fun KK hK => ?_) AllReadyH.nil)
              all_goals dsimp -proj only [List.getElem_toArray, List.getElem_cons_zero, List.getElem_cons_succ]
              · refine step_store_row rfl 31 _ _ rfl n20 #[.slice z.q o.n z.c, .slice z.q2 o.m z.c2, .slice z.q3 o.l z.c3] rfl rfl 31 _ bQ22.at (by kernel_rfl) rfl (by kernel_rfl) ?_
                obtain ⟨x23, hx23⟩ : ∃ x, x22.setRow n20 #[.slice z.q o.n z.c, .slice z.q2 o.m z.c2, .slice z.q3 o.l z.c3] = x := ⟨_, rfl⟩
                rw [hx23]
                have B23 : Below wb.heap.size wb x23 := by rw [← hx23]; exact setRow_below _ B22 bQ22.1
                have bQ23 : Bx wb x23 n20 31 #[.slice z.q o.n z.c, .slice z.q2 o.m z.c2, .slice z.q3 o.l z.c3] := ⟨bQ22.1, by rw [← hx23]; exact setRow_heap _ _ _ _ _ _ bQ22.at⟩
                have bP23 := bP22.row ne20.symm hx23
                have k123 := k122.row dQ120 hx23
                have k223 := k222.row dQ221 hx23
                clear hx23
                refine hK.out _ _ (B23.block _ hwl) (fun hHeld => ?_)
                clear hK KK hHeld
                have hHeld := B23.block _ hwl
                try simp only [Act.put, List.setIfInBounds_toArray, List.set_cons_zero, List.set_cons_succ]
                refine wpAnyH_done (by kernel_rfl) ?_ _
                have hLR := opens_lr B23 C15 k123 C221 k223 bP23 bQ23
                go_wp2_with fail; go_meet; exact hLR
      · go_simp
        obtain ⟨x24, hx24⟩ : ∃ x, x5.alloc (.cells #[.slice none 0 0, .slice none 0 0, .slice none 0 0] 31) = x := ⟨_, rfl⟩
        obtain ⟨hb24, eN24, hs24⟩ := boxed _ _ _ hx24
        rw [hx24]
        have B24 : Below wb.heap.size wb x24 := B5.trans (hb24.mono B5.size)
        have k124 := k15.trans (Kb.below hb24)
        obtain ⟨n24, en24⟩ : ∃ n, x5.heap.size = n := ⟨_, rfl⟩
        rw [en24]
        have bQ24 : Bx wb x24 n24 31 #[.slice none 0 0, .slice none 0 0, .slice none 0 0] := ⟨by rw [← en24]; exact B5.size, by rw [← en24]; exact eN24⟩
        have dQ124 : n24 < x0.heap.size ∨ x5.heap.size ≤ n24 := .inr (by rw [← en24]; exact k15.size)
        clear hs24 en24 hx24 eN24
        refine hK.out _ _ (B24.block _ hwl) (fun hHeld => ?_)
        clear hK KK hHeld
        have hHeld := B24.block _ hwl
        try simp only [Act.put, List.setIfInBounds_toArray, List.set_cons_zero, List.set_cons_succ]
        refine wpAnyH_ready (rs := [5, 6]) (by kernel_rfl) (by simp) (AllReadyH.cons rfl (fun KK hK => ?_) (AllReadyH.cons rfl (fun KK hK => ?_) AllReadyH.nil))
        all_goals dsimp -proj only [List.getElem_toArray, List.getElem_cons_zero, List.getElem_cons_succ]
        · go_simp
          go_at_call 5
          refine (HC2 _ B24).out.mono ?_
          rintro e x25 ⟨z, rfl, hz, hb25⟩
          try go_wp2_with fail
          have B25 : Below wb.heap.size wb x25 := B24.trans (hb25.mono B24.size)
          have bQ25 := bQ24.later hb25
          have k125 := k124.trans (Kb.below hb25)
          have C225 : Hid (PnNew x25 x24.heap.size o z) := hz
          have k225 : Kb (fun j => j < x24.heap.size) x25 x25 := Kb.rfl
          have dQ225 : n24 < x24.heap.size ∨ x25.heap.size ≤ n24 := .inl (lt_of_block bQ24.at)
          refine hK.out _ _ (B25.block _ hwl) (fun hHeld => ?_)
          clear hK KK hHeld
          have hHeld := B25.block _ hwl
          try simp only [Act.put, List.setIfInBounds_toArray, List.set_cons_zero, List.set_cons_succ]
          refine wpAnyH_ready (rs := [6]) (by kernel_rfl) (by simp) (AllReadyH.cons rfl (fun KK hK => ?_) AllReadyH.nil)
          all_goals dsimp -proj only [List.getElem_toArray, List.getElem_cons_zero, List.getElem_cons_succ]
          · go_simp
            obtain ⟨x26, hx26⟩ : ∃ x, x25.alloc (.cells #[.int .i64 0, .slice none 0 0, .slice none 0 0, .slice none 0 0, .int .u64 0, .int .u64 0, .int .u64 0, .int .i64 0, .int .i64 0] 27) = x := ⟨_, rfl⟩
            obtain ⟨hb26, eN26, hs26⟩ := boxed _ _ _ hx26
            rw [hx26]
            have B26 : Below wb.heap.size wb x26 := B25.trans (hb26.mono B25.size)
            have bQ26 := bQ25.later hb26
            have k126 := k125.trans (Kb.below hb26)
            have k226 := k225.trans (Kb.below hb26)
            obtain ⟨n26, en26⟩ : ∃ n, x25.heap.size = n := ⟨_, rfl⟩
            rw [en26]
            have bP26 : Bx wb x26 n26 27 #[.int .i64 0, .slice none 0 0, .slice none 0 0, .slice none 0 0, .int .u64 0, .int .u64 0, .int .u64 0, .int .i64 0, .int .i64 0] := ⟨by rw [← en26]; exact B25.size, by rw [← en26]; exact eN26⟩
            have ne26 : n26 ≠ n24 := by have := lt_of_block bQ25.at; omega
            have dP126 : n26 < x0.heap.size ∨ x5.heap.size ≤ n26 := .inr (by rw [← en26]; exact k125.size)
            have dP226 : n26 < x24.heap.size ∨ x25.heap.size ≤ n26 := .inr (by rw [← en26]; exact k225.size)
            clear hs26 en26 hx26 eN26
            refine hK.out _ _ (B26.block _ hwl) (fun hHeld => ?_)
            clear hK KK hHeld
            have hHeld := B26.block _ hwl
            try simp only [Act.put, List.setIfInBounds_toArray, List.set_cons_zero, List.set_cons_succ]
            refine wpAnyH_ready (rs := [8]) (by kernel_rfl) (by simp) (AllReadyH.cons rfl (fun KK hK => ?_) AllReadyH.nil)
            all_goals dsimp -proj only [List.getElem_toArray, List.getElem_cons_zero, List.getElem_cons_succ]
            · refine step_store_row rfl 27 _ _ rfl n26 #[.int .i64 p.ki, .slice g.pp p.np g.pc, .slice g.tp p.nq g.tc, .slice g.sp p.ns g.sc, .int .u64 p.sd, .int .u64 p.lk, .int .u64 p.en, .int .i64 p.bu, .int .i64 p.fu] rfl rfl 27 _ bP26.at (by kernel_rfl) rfl (by kernel_rfl) ?_
              obtain ⟨x27, hx27⟩ : ∃ x, x26.setRow n26 #[.int .i64 p.ki, .slice g.pp p.np g.pc, .slice g.tp p.nq g.tc, .slice g.sp p.ns g.sc, .int .u64 p.sd, .int .u64 p.lk, .int .u64 p.en, .int .i64 p.bu, .int .i64 p.fu] = x := ⟨_, rfl⟩
              rw [hx27]
              have B27 : Below wb.heap.size wb x27 := by rw [← hx27]; exact setRow_below _ B26 bP26.1
              have bP27 : Bx wb x27 n26 27 #[.int .i64 p.ki, .slice g.pp p.np g.pc, .slice g.tp p.nq g.tc, .slice g.sp p.ns g.sc, .int .u64 p.sd, .int .u64 p.lk, .int .u64 p.en, .int .i64 p.bu, .int .i64 p.fu] := ⟨bP26.1, by rw [← hx27]; exact setRow_heap _ _ _ _ _ _ bP26.at⟩
              have bQ27 := bQ26.row ne26.symm hx27
              have k127 := k126.row dP126 hx27
              have k227 := k226.row dP226 hx27
              clear hx27
              refine hK.out _ _ (B27.block _ hwl) (fun hHeld => ?_)
              clear hK KK hHeld
              have hHeld := B27.block _ hwl
              try simp only [Act.put, List.setIfInBounds_toArray, List.set_cons_zero, List.set_cons_succ]
              refine wpAnyH_ready (rs := [9]) (by kernel_rfl) (by simp) (AllReadyH.cons rfl (fun KK hK => ?_) AllReadyH.nil)
              all_goals dsimp -proj only [List.getElem_toArray, List.getElem_cons_zero, List.getElem_cons_succ]
              · refine step_store_row rfl 31 _ _ rfl n24 #[.slice z.q o.n z.c, .slice z.q2 o.m z.c2, .slice z.q3 o.l z.c3] rfl rfl 31 _ bQ27.at (by kernel_rfl) rfl (by kernel_rfl) ?_
                obtain ⟨x28, hx28⟩ : ∃ x, x27.setRow n24 #[.slice z.q o.n z.c, .slice z.q2 o.m z.c2, .slice z.q3 o.l z.c3] = x := ⟨_, rfl⟩
                rw [hx28]
                have B28 : Below wb.heap.size wb x28 := by rw [← hx28]; exact setRow_below _ B27 bQ27.1
                have bQ28 : Bx wb x28 n24 31 #[.slice z.q o.n z.c, .slice z.q2 o.m z.c2, .slice z.q3 o.l z.c3] := ⟨bQ27.1, by rw [← hx28]; exact setRow_heap _ _ _ _ _ _ bQ27.at⟩
                have bP28 := bP27.row ne26 hx28
                have k128 := k127.row dQ124 hx28
                have k228 := k227.row dQ225 hx28
                clear hx28
                refine hK.out _ _ (B28.block _ hwl) (fun hHeld => ?_)
                clear hK KK hHeld
                have hHeld := B28.block _ hwl
                try simp only [Act.put, List.setIfInBounds_toArray, List.set_cons_zero, List.set_cons_succ]
                refine wpAnyH_done (by kernel_rfl) ?_ _
                have hLR := opens_lr B28 C15 k128 C225 k228 bP28 bQ28
                go_wp2_with fail; go_meet; exact hLR
        · go_simp
          obtain ⟨x29, hx29⟩ : ∃ x, x24.alloc (.cells #[.int .i64 0, .slice none 0 0, .slice none 0 0, .slice none 0 0, .int .u64 0, .int .u64 0, .int .u64 0, .int .i64 0, .int .i64 0] 27) = x := ⟨_, rfl⟩
          obtain ⟨hb29, eN29, hs29⟩ := boxed _ _ _ hx29
          rw [hx29]
          have B29 : Below wb.heap.size wb x29 := B24.trans (hb29.mono B24.size)
          have bQ29 := bQ24.later hb29
          have k129 := k124.trans (Kb.below hb29)
          obtain ⟨n29, en29⟩ : ∃ n, x24.heap.size = n := ⟨_, rfl⟩
          rw [en29]
          have bP29 : Bx wb x29 n29 27 #[.int .i64 0, .slice none 0 0, .slice none 0 0, .slice none 0 0, .int .u64 0, .int .u64 0, .int .u64 0, .int .i64 0, .int .i64 0] := ⟨by rw [← en29]; exact B24.size, by rw [← en29]; exact eN29⟩
          have ne29 : n29 ≠ n24 := by have := lt_of_block bQ24.at; omega
          have dP129 : n29 < x0.heap.size ∨ x5.heap.size ≤ n29 := .inr (by rw [← en29]; exact k124.size)
          clear hs29 en29 hx29 eN29
          refine hK.out _ _ (B29.block _ hwl) (fun hHeld => ?_)
          clear hK KK hHeld
          have hHeld := B29.block _ hwl
          try simp only [Act.put, List.setIfInBounds_toArray, List.set_cons_zero, List.set_cons_succ]
          refine wpAnyH_ready (rs := [5]) (by kernel_rfl) (by simp) (AllReadyH.cons rfl (fun KK hK => ?_) AllReadyH.nil)
          all_goals dsimp -proj only [List.getElem_toArray, List.getElem_cons_zero, List.getElem_cons_succ]
          · go_simp
            go_at_call 5
            refine (HC2 _ B29).out.mono ?_
            rintro e x30 ⟨z, rfl, hz, hb30⟩
            try go_wp2_with fail
            have B30 : Below wb.heap.size wb x30 := B29.trans (hb30.mono B29.size)
            have bP30 := bP29.later hb30
            have bQ30 := bQ29.later hb30
            have k130 := k129.trans (Kb.below hb30)
            have C230 : Hid (PnNew x30 x29.heap.size o z) := hz
            have k230 : Kb (fun j => j < x29.heap.size) x30 x30 := Kb.rfl
            have dP230 : n29 < x29.heap.size ∨ x30.heap.size ≤ n29 := .inl (lt_of_block bP29.at)
            have dQ230 : n24 < x29.heap.size ∨ x30.heap.size ≤ n24 := .inl (lt_of_block bQ29.at)
            refine hK.out _ _ (B30.block _ hwl) (fun hHeld => ?_)
            clear hK KK hHeld
            have hHeld := B30.block _ hwl
            try simp only [Act.put, List.setIfInBounds_toArray, List.set_cons_zero, List.set_cons_succ]
            refine wpAnyH_ready (rs := [8]) (by kernel_rfl) (by simp) (AllReadyH.cons rfl (fun KK hK => ?_) AllReadyH.nil)
            all_goals dsimp -proj only [List.getElem_toArray, List.getElem_cons_zero, List.getElem_cons_succ]
            · refine step_store_row rfl 27 _ _ rfl n29 #[.int .i64 p.ki, .slice g.pp p.np g.pc, .slice g.tp p.nq g.tc, .slice g.sp p.ns g.sc, .int .u64 p.sd, .int .u64 p.lk, .int .u64 p.en, .int .i64 p.bu, .int .i64 p.fu] rfl rfl 27 _ bP30.at (by kernel_rfl) rfl (by kernel_rfl) ?_
              obtain ⟨x31, hx31⟩ : ∃ x, x30.setRow n29 #[.int .i64 p.ki, .slice g.pp p.np g.pc, .slice g.tp p.nq g.tc, .slice g.sp p.ns g.sc, .int .u64 p.sd, .int .u64 p.lk, .int .u64 p.en, .int .i64 p.bu, .int .i64 p.fu] = x := ⟨_, rfl⟩
              rw [hx31]
              have B31 : Below wb.heap.size wb x31 := by rw [← hx31]; exact setRow_below _ B30 bP30.1
              have bP31 : Bx wb x31 n29 27 #[.int .i64 p.ki, .slice g.pp p.np g.pc, .slice g.tp p.nq g.tc, .slice g.sp p.ns g.sc, .int .u64 p.sd, .int .u64 p.lk, .int .u64 p.en, .int .i64 p.bu, .int .i64 p.fu] := ⟨bP30.1, by rw [← hx31]; exact setRow_heap _ _ _ _ _ _ bP30.at⟩
              have bQ31 := bQ30.row ne29.symm hx31
              have k131 := k130.row dP129 hx31
              have k231 := k230.row dP230 hx31
              clear hx31
              refine hK.out _ _ (B31.block _ hwl) (fun hHeld => ?_)
              clear hK KK hHeld
              have hHeld := B31.block _ hwl
              try simp only [Act.put, List.setIfInBounds_toArray, List.set_cons_zero, List.set_cons_succ]
              refine wpAnyH_ready (rs := [9]) (by kernel_rfl) (by simp) (AllReadyH.cons rfl (fun KK hK => ?_) AllReadyH.nil)
              all_goals dsimp -proj only [List.getElem_toArray, List.getElem_cons_zero, List.getElem_cons_succ]
              · refine step_store_row rfl 31 _ _ rfl n24 #[.slice z.q o.n z.c, .slice z.q2 o.m z.c2, .slice z.q3 o.l z.c3] rfl rfl 31 _ bQ31.at (by kernel_rfl) rfl (by kernel_rfl) ?_
                obtain ⟨x32, hx32⟩ : ∃ x, x31.setRow n24 #[.slice z.q o.n z.c, .slice z.q2 o.m z.c2, .slice z.q3 o.l z.c3] = x := ⟨_, rfl⟩
                rw [hx32]
                have B32 : Below wb.heap.size wb x32 := by rw [← hx32]; exact setRow_below _ B31 bQ31.1
                have bQ32 : Bx wb x32 n24 31 #[.slice z.q o.n z.c, .slice z.q2 o.m z.c2, .slice z.q3 o.l z.c3] := ⟨bQ31.1, by rw [← hx32]; exact setRow_heap _ _ _ _ _ _ bQ31.at⟩
                have bP32 := bP31.row ne29 hx32
                have k132 := k131.row dQ124 hx32
                have k232 := k231.row dQ230 hx32
                clear hx32
                refine hK.out _ _ (B32.block _ hwl) (fun hHeld => ?_)
                clear hK KK hHeld
                have hHeld := B32.block _ hwl
                try simp only [Act.put, List.setIfInBounds_toArray, List.set_cons_zero, List.set_cons_succ]
                refine wpAnyH_done (by kernel_rfl) ?_ _
                have hLR := opens_lr B32 C15 k132 C230 k232 bP32 bQ32
                go_wp2_with fail; go_meet; exact hLR
    · go_simp
      obtain ⟨x33, hx33⟩ : ∃ x, x0.alloc (.cells #[.int .i64 0, .slice none 0 0, .slice none 0 0, .slice none 0 0, .int .u64 0, .int .u64 0, .int .u64 0, .int .i64 0, .int .i64 0] 27) = x := ⟨_, rfl⟩
      obtain ⟨hb33, eN33, hs33⟩ := boxed _ _ _ hx33
      rw [hx33]
      have B33 : Below wb.heap.size wb x33 := B0.trans (hb33.mono B0.size)
      obtain ⟨n33, en33⟩ : ∃ n, x0.heap.size = n := ⟨_, rfl⟩
      rw [en33]
      have bP33 : Bx wb x33 n33 27 #[.int .i64 0, .slice none 0 0, .slice none 0 0, .slice none 0 0, .int .u64 0, .int .u64 0, .int .u64 0, .int .i64 0, .int .i64 0] := ⟨by rw [← en33]; exact B0.size, by rw [← en33]; exact eN33⟩
      clear hs33 en33 hx33 eN33
      refine hK.out _ _ (B33.block _ hwl) (fun hHeld => ?_)
      clear hK KK hHeld
      have hHeld := B33.block _ hwl
      try simp only [Act.put, List.setIfInBounds_toArray, List.set_cons_zero, List.set_cons_succ]
      refine wpAnyH_ready (rs := [2, 7]) (by kernel_rfl) (by simp) (AllReadyH.cons rfl (fun KK hK => ?_) (AllReadyH.cons rfl (fun KK hK => ?_) AllReadyH.nil))
      all_goals dsimp -proj only [List.getElem_toArray, List.getElem_cons_zero, List.getElem_cons_succ]
      · go_simp
        go_at_call 4
        refine (HC1 _ B33).out.mono ?_
        rintro e x34 ⟨g, rfl, hg, hgn, hb34⟩
        try go_wp2_with fail
        have B34 : Below wb.heap.size wb x34 := B33.trans (hb34.mono B33.size)
        have bP34 := bP33.later hb34
        have C134 : Hid (PlAt x34 p g ∧ PlNew x33.heap.size p g) := ⟨hg, hgn⟩
        have k134 : Kb (fun j => j < x33.heap.size) x34 x34 := Kb.rfl
        have dP134 : n33 < x33.heap.size ∨ x34.heap.size ≤ n33 := .inl (lt_of_block bP33.at)
        refine hK.out _ _ (B34.block _ hwl) (fun hHeld => ?_)
        clear hK KK hHeld
        have hHeld := B34.block _ hwl
        try simp only [Act.put, List.setIfInBounds_toArray, List.set_cons_zero, List.set_cons_succ]
        refine wpAnyH_ready (rs := [5, 7]) (by kernel_rfl) (by simp) (AllReadyH.cons rfl (fun KK hK => ?_) (AllReadyH.cons rfl (fun KK hK => ?_) AllReadyH.nil))
        all_goals dsimp -proj only [List.getElem_toArray, List.getElem_cons_zero, List.getElem_cons_succ]
        · go_simp
          go_at_call 5
          refine (HC2 _ B34).out.mono ?_
          rintro e x35 ⟨z, rfl, hz, hb35⟩
          try go_wp2_with fail
          have B35 : Below wb.heap.size wb x35 := B34.trans (hb35.mono B34.size)
          have bP35 := bP34.later hb35
          have k135 := k134.trans (Kb.below hb35)
          have C235 : Hid (PnNew x35 x34.heap.size o z) := hz
          have k235 : Kb (fun j => j < x34.heap.size) x35 x35 := Kb.rfl
          have dP235 : n33 < x34.heap.size ∨ x35.heap.size ≤ n33 := .inl (lt_of_block bP34.at)
          refine hK.out _ _ (B35.block _ hwl) (fun hHeld => ?_)
          clear hK KK hHeld
          have hHeld := B35.block _ hwl
          try simp only [Act.put, List.setIfInBounds_toArray, List.set_cons_zero, List.set_cons_succ]
          refine wpAnyH_ready (rs := [7]) (by kernel_rfl) (by simp) (AllReadyH.cons rfl (fun KK hK => ?_) AllReadyH.nil)
          all_goals dsimp -proj only [List.getElem_toArray, List.getElem_cons_zero, List.getElem_cons_succ]
          · go_simp
            obtain ⟨x36, hx36⟩ : ∃ x, x35.alloc (.cells #[.slice none 0 0, .slice none 0 0, .slice none 0 0] 31) = x := ⟨_, rfl⟩
            obtain ⟨hb36, eN36, hs36⟩ := boxed _ _ _ hx36
            rw [hx36]
            have B36 : Below wb.heap.size wb x36 := B35.trans (hb36.mono B35.size)
            have bP36 := bP35.later hb36
            have k136 := k135.trans (Kb.below hb36)
            have k236 := k235.trans (Kb.below hb36)
            obtain ⟨n36, en36⟩ : ∃ n, x35.heap.size = n := ⟨_, rfl⟩
            rw [en36]
            have bQ36 : Bx wb x36 n36 31 #[.slice none 0 0, .slice none 0 0, .slice none 0 0] := ⟨by rw [← en36]; exact B35.size, by rw [← en36]; exact eN36⟩
            have ne36 : n36 ≠ n33 := by have := lt_of_block bP35.at; omega
            have dQ136 : n36 < x33.heap.size ∨ x34.heap.size ≤ n36 := .inr (by rw [← en36]; exact k135.size)
            have dQ236 : n36 < x34.heap.size ∨ x35.heap.size ≤ n36 := .inr (by rw [← en36]; exact k235.size)
            clear hs36 en36 hx36 eN36
            refine hK.out _ _ (B36.block _ hwl) (fun hHeld => ?_)
            clear hK KK hHeld
            have hHeld := B36.block _ hwl
            try simp only [Act.put, List.setIfInBounds_toArray, List.set_cons_zero, List.set_cons_succ]
            refine wpAnyH_ready (rs := [8]) (by kernel_rfl) (by simp) (AllReadyH.cons rfl (fun KK hK => ?_) AllReadyH.nil)
            all_goals dsimp -proj only [List.getElem_toArray, List.getElem_cons_zero, List.getElem_cons_succ]
            · refine step_store_row rfl 27 _ _ rfl n33 #[.int .i64 p.ki, .slice g.pp p.np g.pc, .slice g.tp p.nq g.tc, .slice g.sp p.ns g.sc, .int .u64 p.sd, .int .u64 p.lk, .int .u64 p.en, .int .i64 p.bu, .int .i64 p.fu] rfl rfl 27 _ bP36.at (by kernel_rfl) rfl (by kernel_rfl) ?_
              obtain ⟨x37, hx37⟩ : ∃ x, x36.setRow n33 #[.int .i64 p.ki, .slice g.pp p.np g.pc, .slice g.tp p.nq g.tc, .slice g.sp p.ns g.sc, .int .u64 p.sd, .int .u64 p.lk, .int .u64 p.en, .int .i64 p.bu, .int .i64 p.fu] = x := ⟨_, rfl⟩
              rw [hx37]
              have B37 : Below wb.heap.size wb x37 := by rw [← hx37]; exact setRow_below _ B36 bP36.1
              have bP37 : Bx wb x37 n33 27 #[.int .i64 p.ki, .slice g.pp p.np g.pc, .slice g.tp p.nq g.tc, .slice g.sp p.ns g.sc, .int .u64 p.sd, .int .u64 p.lk, .int .u64 p.en, .int .i64 p.bu, .int .i64 p.fu] := ⟨bP36.1, by rw [← hx37]; exact setRow_heap _ _ _ _ _ _ bP36.at⟩
              have bQ37 := bQ36.row ne36.symm.symm hx37
              have k137 := k136.row dP134 hx37
              have k237 := k236.row dP235 hx37
              clear hx37
              refine hK.out _ _ (B37.block _ hwl) (fun hHeld => ?_)
              clear hK KK hHeld
              have hHeld := B37.block _ hwl
              try simp only [Act.put, List.setIfInBounds_toArray, List.set_cons_zero, List.set_cons_succ]
              refine wpAnyH_ready (rs := [9]) (by kernel_rfl) (by simp) (AllReadyH.cons rfl (fun KK hK => ?_) AllReadyH.nil)
              all_goals dsimp -proj only [List.getElem_toArray, List.getElem_cons_zero, List.getElem_cons_succ]
              · refine step_store_row rfl 31 _ _ rfl n36 #[.slice z.q o.n z.c, .slice z.q2 o.m z.c2, .slice z.q3 o.l z.c3] rfl rfl 31 _ bQ37.at (by kernel_rfl) rfl (by kernel_rfl) ?_
                obtain ⟨x38, hx38⟩ : ∃ x, x37.setRow n36 #[.slice z.q o.n z.c, .slice z.q2 o.m z.c2, .slice z.q3 o.l z.c3] = x := ⟨_, rfl⟩
                rw [hx38]
                have B38 : Below wb.heap.size wb x38 := by rw [← hx38]; exact setRow_below _ B37 bQ37.1
                have bQ38 : Bx wb x38 n36 31 #[.slice z.q o.n z.c, .slice z.q2 o.m z.c2, .slice z.q3 o.l z.c3] := ⟨bQ37.1, by rw [← hx38]; exact setRow_heap _ _ _ _ _ _ bQ37.at⟩
                have bP38 := bP37.row ne36.symm hx38
                have k138 := k137.row dQ136 hx38
                have k238 := k237.row dQ236 hx38
                clear hx38
                refine hK.out _ _ (B38.block _ hwl) (fun hHeld => ?_)
                clear hK KK hHeld
                have hHeld := B38.block _ hwl
                try simp only [Act.put, List.setIfInBounds_toArray, List.set_cons_zero, List.set_cons_succ]
                refine wpAnyH_done (by kernel_rfl) ?_ _
                have hLR := opens_lr B38 C134 k138 C235 k238 bP38 bQ38
                go_wp2_with fail; go_meet; exact hLR
        · go_simp
          obtain ⟨x39, hx39⟩ : ∃ x, x34.alloc (.cells #[.slice none 0 0, .slice none 0 0, .slice none 0 0] 31) = x := ⟨_, rfl⟩
          obtain ⟨hb39, eN39, hs39⟩ := boxed _ _ _ hx39
          rw [hx39]
          have B39 : Below wb.heap.size wb x39 := B34.trans (hb39.mono B34.size)
          have bP39 := bP34.later hb39
          have k139 := k134.trans (Kb.below hb39)
          obtain ⟨n39, en39⟩ : ∃ n, x34.heap.size = n := ⟨_, rfl⟩
          rw [en39]
          have bQ39 : Bx wb x39 n39 31 #[.slice none 0 0, .slice none 0 0, .slice none 0 0] := ⟨by rw [← en39]; exact B34.size, by rw [← en39]; exact eN39⟩
          have ne39 : n39 ≠ n33 := by have := lt_of_block bP34.at; omega
          have dQ139 : n39 < x33.heap.size ∨ x34.heap.size ≤ n39 := .inr (by rw [← en39]; exact k134.size)
          clear hs39 en39 hx39 eN39
          refine hK.out _ _ (B39.block _ hwl) (fun hHeld => ?_)
          clear hK KK hHeld
          have hHeld := B39.block _ hwl
          try simp only [Act.put, List.setIfInBounds_toArray, List.set_cons_zero, List.set_cons_succ]
          refine wpAnyH_ready (rs := [5]) (by kernel_rfl) (by simp) (AllReadyH.cons rfl (fun KK hK => ?_) AllReadyH.nil)
          all_goals dsimp -proj only [List.getElem_toArray, List.getElem_cons_zero, List.getElem_cons_succ]
          · go_simp
            go_at_call 5
            refine (HC2 _ B39).out.mono ?_
            rintro e x40 ⟨z, rfl, hz, hb40⟩
            try go_wp2_with fail
            have B40 : Below wb.heap.size wb x40 := B39.trans (hb40.mono B39.size)
            have bP40 := bP39.later hb40
            have bQ40 := bQ39.later hb40
            have k140 := k139.trans (Kb.below hb40)
            have C240 : Hid (PnNew x40 x39.heap.size o z) := hz
            have k240 : Kb (fun j => j < x39.heap.size) x40 x40 := Kb.rfl
            have dP240 : n33 < x39.heap.size ∨ x40.heap.size ≤ n33 := .inl (lt_of_block bP39.at)
            have dQ240 : n39 < x39.heap.size ∨ x40.heap.size ≤ n39 := .inl (lt_of_block bQ39.at)
            refine hK.out _ _ (B40.block _ hwl) (fun hHeld => ?_)
            clear hK KK hHeld
            have hHeld := B40.block _ hwl
            try simp only [Act.put, List.setIfInBounds_toArray, List.set_cons_zero, List.set_cons_succ]
            refine wpAnyH_ready (rs := [8]) (by kernel_rfl) (by simp) (AllReadyH.cons rfl (fun KK hK => ?_) AllReadyH.nil)
            all_goals dsimp -proj only [List.getElem_toArray, List.getElem_cons_zero, List.getElem_cons_succ]
            · refine step_store_row rfl 27 _ _ rfl n33 #[.int .i64 p.ki, .slice g.pp p.np g.pc, .slice g.tp p.nq g.tc, .slice g.sp p.ns g.sc, .int .u64 p.sd, .int .u64 p.lk, .int .u64 p.en, .int .i64 p.bu, .int .i64 p.fu] rfl rfl 27 _ bP40.at (by kernel_rfl) rfl (by kernel_rfl) ?_
              obtain ⟨x41, hx41⟩ : ∃ x, x40.setRow n33 #[.int .i64 p.ki, .slice g.pp p.np g.pc, .slice g.tp p.nq g.tc, .slice g.sp p.ns g.sc, .int .u64 p.sd, .int .u64 p.lk, .int .u64 p.en, .int .i64 p.bu, .int .i64 p.fu] = x := ⟨_, rfl⟩
              rw [hx41]
              have B41 : Below wb.heap.size wb x41 := by rw [← hx41]; exact setRow_below _ B40 bP40.1
              have bP41 : Bx wb x41 n33 27 #[.int .i64 p.ki, .slice g.pp p.np g.pc, .slice g.tp p.nq g.tc, .slice g.sp p.ns g.sc, .int .u64 p.sd, .int .u64 p.lk, .int .u64 p.en, .int .i64 p.bu, .int .i64 p.fu] := ⟨bP40.1, by rw [← hx41]; exact setRow_heap _ _ _ _ _ _ bP40.at⟩
              have bQ41 := bQ40.row ne39.symm.symm hx41
              have k141 := k140.row dP134 hx41
              have k241 := k240.row dP240 hx41
              clear hx41
              refine hK.out _ _ (B41.block _ hwl) (fun hHeld => ?_)
              clear hK KK hHeld
              have hHeld := B41.block _ hwl
              try simp only [Act.put, List.setIfInBounds_toArray, List.set_cons_zero, List.set_cons_succ]
              refine wpAnyH_ready (rs := [9]) (by kernel_rfl) (by simp) (AllReadyH.cons rfl (fun KK hK => ?_) AllReadyH.nil)
              all_goals dsimp -proj only [List.getElem_toArray, List.getElem_cons_zero, List.getElem_cons_succ]
              · refine step_store_row rfl 31 _ _ rfl n39 #[.slice z.q o.n z.c, .slice z.q2 o.m z.c2, .slice z.q3 o.l z.c3] rfl rfl 31 _ bQ41.at (by kernel_rfl) rfl (by kernel_rfl) ?_
                obtain ⟨x42, hx42⟩ : ∃ x, x41.setRow n39 #[.slice z.q o.n z.c, .slice z.q2 o.m z.c2, .slice z.q3 o.l z.c3] = x := ⟨_, rfl⟩
                rw [hx42]
                have B42 : Below wb.heap.size wb x42 := by rw [← hx42]; exact setRow_below _ B41 bQ41.1
                have bQ42 : Bx wb x42 n39 31 #[.slice z.q o.n z.c, .slice z.q2 o.m z.c2, .slice z.q3 o.l z.c3] := ⟨bQ41.1, by rw [← hx42]; exact setRow_heap _ _ _ _ _ _ bQ41.at⟩
                have bP42 := bP41.row ne39.symm hx42
                have k142 := k141.row dQ139 hx42
                have k242 := k241.row dQ240 hx42
                clear hx42
                refine hK.out _ _ (B42.block _ hwl) (fun hHeld => ?_)
                clear hK KK hHeld
                have hHeld := B42.block _ hwl
                try simp only [Act.put, List.setIfInBounds_toArray, List.set_cons_zero, List.set_cons_succ]
                refine wpAnyH_done (by kernel_rfl) ?_ _
                have hLR := opens_lr B42 C134 k142 C240 k242 bP42 bQ42
                go_wp2_with fail; go_meet; exact hLR
      · go_simp
        obtain ⟨x43, hx43⟩ : ∃ x, x33.alloc (.cells #[.slice none 0 0, .slice none 0 0, .slice none 0 0] 31) = x := ⟨_, rfl⟩
        obtain ⟨hb43, eN43, hs43⟩ := boxed _ _ _ hx43
        rw [hx43]
        have B43 : Below wb.heap.size wb x43 := B33.trans (hb43.mono B33.size)
        have bP43 := bP33.later hb43
        obtain ⟨n43, en43⟩ : ∃ n, x33.heap.size = n := ⟨_, rfl⟩
        rw [en43]
        have bQ43 : Bx wb x43 n43 31 #[.slice none 0 0, .slice none 0 0, .slice none 0 0] := ⟨by rw [← en43]; exact B33.size, by rw [← en43]; exact eN43⟩
        have ne43 : n43 ≠ n33 := by have := lt_of_block bP33.at; omega
        clear hs43 en43 hx43 eN43
        refine hK.out _ _ (B43.block _ hwl) (fun hHeld => ?_)
        clear hK KK hHeld
        have hHeld := B43.block _ hwl
        try simp only [Act.put, List.setIfInBounds_toArray, List.set_cons_zero, List.set_cons_succ]
        refine wpAnyH_ready (rs := [2]) (by kernel_rfl) (by simp) (AllReadyH.cons rfl (fun KK hK => ?_) AllReadyH.nil)
        all_goals dsimp -proj only [List.getElem_toArray, List.getElem_cons_zero, List.getElem_cons_succ]
        · go_simp
          go_at_call 4
          refine (HC1 _ B43).out.mono ?_
          rintro e x44 ⟨g, rfl, hg, hgn, hb44⟩
          try go_wp2_with fail
          have B44 : Below wb.heap.size wb x44 := B43.trans (hb44.mono B43.size)
          have bP44 := bP43.later hb44
          have bQ44 := bQ43.later hb44
          have C144 : Hid (PlAt x44 p g ∧ PlNew x43.heap.size p g) := ⟨hg, hgn⟩
          have k144 : Kb (fun j => j < x43.heap.size) x44 x44 := Kb.rfl
          have dP144 : n33 < x43.heap.size ∨ x44.heap.size ≤ n33 := .inl (lt_of_block bP43.at)
          have dQ144 : n43 < x43.heap.size ∨ x44.heap.size ≤ n43 := .inl (lt_of_block bQ43.at)
          refine hK.out _ _ (B44.block _ hwl) (fun hHeld => ?_)
          clear hK KK hHeld
          have hHeld := B44.block _ hwl
          try simp only [Act.put, List.setIfInBounds_toArray, List.set_cons_zero, List.set_cons_succ]
          refine wpAnyH_ready (rs := [5]) (by kernel_rfl) (by simp) (AllReadyH.cons rfl (fun KK hK => ?_) AllReadyH.nil)
          all_goals dsimp -proj only [List.getElem_toArray, List.getElem_cons_zero, List.getElem_cons_succ]
          · go_simp
            go_at_call 5
            refine (HC2 _ B44).out.mono ?_
            rintro e x45 ⟨z, rfl, hz, hb45⟩
            try go_wp2_with fail
            have B45 : Below wb.heap.size wb x45 := B44.trans (hb45.mono B44.size)
            have bP45 := bP44.later hb45
            have bQ45 := bQ44.later hb45
            have k145 := k144.trans (Kb.below hb45)
            have C245 : Hid (PnNew x45 x44.heap.size o z) := hz
            have k245 : Kb (fun j => j < x44.heap.size) x45 x45 := Kb.rfl
            have dP245 : n33 < x44.heap.size ∨ x45.heap.size ≤ n33 := .inl (lt_of_block bP44.at)
            have dQ245 : n43 < x44.heap.size ∨ x45.heap.size ≤ n43 := .inl (lt_of_block bQ44.at)
            refine hK.out _ _ (B45.block _ hwl) (fun hHeld => ?_)
            clear hK KK hHeld
            have hHeld := B45.block _ hwl
            try simp only [Act.put, List.setIfInBounds_toArray, List.set_cons_zero, List.set_cons_succ]
            refine wpAnyH_ready (rs := [8]) (by kernel_rfl) (by simp) (AllReadyH.cons rfl (fun KK hK => ?_) AllReadyH.nil)
            all_goals dsimp -proj only [List.getElem_toArray, List.getElem_cons_zero, List.getElem_cons_succ]
            · refine step_store_row rfl 27 _ _ rfl n33 #[.int .i64 p.ki, .slice g.pp p.np g.pc, .slice g.tp p.nq g.tc, .slice g.sp p.ns g.sc, .int .u64 p.sd, .int .u64 p.lk, .int .u64 p.en, .int .i64 p.bu, .int .i64 p.fu] rfl rfl 27 _ bP45.at (by kernel_rfl) rfl (by kernel_rfl) ?_
              obtain ⟨x46, hx46⟩ : ∃ x, x45.setRow n33 #[.int .i64 p.ki, .slice g.pp p.np g.pc, .slice g.tp p.nq g.tc, .slice g.sp p.ns g.sc, .int .u64 p.sd, .int .u64 p.lk, .int .u64 p.en, .int .i64 p.bu, .int .i64 p.fu] = x := ⟨_, rfl⟩
              rw [hx46]
              have B46 : Below wb.heap.size wb x46 := by rw [← hx46]; exact setRow_below _ B45 bP45.1
              have bP46 : Bx wb x46 n33 27 #[.int .i64 p.ki, .slice g.pp p.np g.pc, .slice g.tp p.nq g.tc, .slice g.sp p.ns g.sc, .int .u64 p.sd, .int .u64 p.lk, .int .u64 p.en, .int .i64 p.bu, .int .i64 p.fu] := ⟨bP45.1, by rw [← hx46]; exact setRow_heap _ _ _ _ _ _ bP45.at⟩
              have bQ46 := bQ45.row ne43.symm.symm hx46
              have k146 := k145.row dP144 hx46
              have k246 := k245.row dP245 hx46
              clear hx46
              refine hK.out _ _ (B46.block _ hwl) (fun hHeld => ?_)
              clear hK KK hHeld
              have hHeld := B46.block _ hwl
              try simp only [Act.put, List.setIfInBounds_toArray, List.set_cons_zero, List.set_cons_succ]
              refine wpAnyH_ready (rs := [9]) (by kernel_rfl) (by simp) (AllReadyH.cons rfl (fun KK hK => ?_) AllReadyH.nil)
              all_goals dsimp -proj only [List.getElem_toArray, List.getElem_cons_zero, List.getElem_cons_succ]
              · refine step_store_row rfl 31 _ _ rfl n43 #[.slice z.q o.n z.c, .slice z.q2 o.m z.c2, .slice z.q3 o.l z.c3] rfl rfl 31 _ bQ46.at (by kernel_rfl) rfl (by kernel_rfl) ?_
                obtain ⟨x47, hx47⟩ : ∃ x, x46.setRow n43 #[.slice z.q o.n z.c, .slice z.q2 o.m z.c2, .slice z.q3 o.l z.c3] = x := ⟨_, rfl⟩
                rw [hx47]
                have B47 : Below wb.heap.size wb x47 := by rw [← hx47]; exact setRow_below _ B46 bQ46.1
                have bQ47 : Bx wb x47 n43 31 #[.slice z.q o.n z.c, .slice z.q2 o.m z.c2, .slice z.q3 o.l z.c3] := ⟨bQ46.1, by rw [← hx47]; exact setRow_heap _ _ _ _ _ _ bQ46.at⟩
                have bP47 := bP46.row ne43.symm hx47
                have k147 := k146.row dQ144 hx47
                have k247 := k246.row dQ245 hx47
                clear hx47
                refine hK.out _ _ (B47.block _ hwl) (fun hHeld => ?_)
                clear hK KK hHeld
                have hHeld := B47.block _ hwl
                try simp only [Act.put, List.setIfInBounds_toArray, List.set_cons_zero, List.set_cons_succ]
                refine wpAnyH_done (by kernel_rfl) ?_ _
                have hLR := opens_lr B47 C144 k147 C245 k247 bP47 bQ47
                go_wp2_with fail; go_meet; exact hLR
    · go_simp
      obtain ⟨x48, hx48⟩ : ∃ x, x0.alloc (.cells #[.slice none 0 0, .slice none 0 0, .slice none 0 0] 31) = x := ⟨_, rfl⟩
      obtain ⟨hb48, eN48, hs48⟩ := boxed _ _ _ hx48
      rw [hx48]
      have B48 : Below wb.heap.size wb x48 := B0.trans (hb48.mono B0.size)
      obtain ⟨n48, en48⟩ : ∃ n, x0.heap.size = n := ⟨_, rfl⟩
      rw [en48]
      have bQ48 : Bx wb x48 n48 31 #[.slice none 0 0, .slice none 0 0, .slice none 0 0] := ⟨by rw [← en48]; exact B0.size, by rw [← en48]; exact eN48⟩
      clear hs48 en48 hx48 eN48
      refine hK.out _ _ (B48.block _ hwl) (fun hHeld => ?_)
      clear hK KK hHeld
      have hHeld := B48.block _ hwl
      try simp only [Act.put, List.setIfInBounds_toArray, List.set_cons_zero, List.set_cons_succ]
      refine wpAnyH_ready (rs := [2, 6]) (by kernel_rfl) (by simp) (AllReadyH.cons rfl (fun KK hK => ?_) (AllReadyH.cons rfl (fun KK hK => ?_) AllReadyH.nil))
      all_goals dsimp -proj only [List.getElem_toArray, List.getElem_cons_zero, List.getElem_cons_succ]
      · go_simp
        go_at_call 4
        refine (HC1 _ B48).out.mono ?_
        rintro e x49 ⟨g, rfl, hg, hgn, hb49⟩
        try go_wp2_with fail
        have B49 : Below wb.heap.size wb x49 := B48.trans (hb49.mono B48.size)
        have bQ49 := bQ48.later hb49
        have C149 : Hid (PlAt x49 p g ∧ PlNew x48.heap.size p g) := ⟨hg, hgn⟩
        have k149 : Kb (fun j => j < x48.heap.size) x49 x49 := Kb.rfl
        have dQ149 : n48 < x48.heap.size ∨ x49.heap.size ≤ n48 := .inl (lt_of_block bQ48.at)
        refine hK.out _ _ (B49.block _ hwl) (fun hHeld => ?_)
        clear hK KK hHeld
        have hHeld := B49.block _ hwl
        try simp only [Act.put, List.setIfInBounds_toArray, List.set_cons_zero, List.set_cons_succ]
        refine wpAnyH_ready (rs := [5, 6]) (by kernel_rfl) (by simp) (AllReadyH.cons rfl (fun KK hK => ?_) (AllReadyH.cons rfl (fun KK hK => ?_) AllReadyH.nil))
        all_goals dsimp -proj only [List.getElem_toArray, List.getElem_cons_zero, List.getElem_cons_succ]
        · go_simp
          go_at_call 5
          refine (HC2 _ B49).out.mono ?_
          rintro e x50 ⟨z, rfl, hz, hb50⟩
          try go_wp2_with fail
          have B50 : Below wb.heap.size wb x50 := B49.trans (hb50.mono B49.size)
          have bQ50 := bQ49.later hb50
          have k150 := k149.trans (Kb.below hb50)
          have C250 : Hid (PnNew x50 x49.heap.size o z) := hz
          have k250 : Kb (fun j => j < x49.heap.size) x50 x50 := Kb.rfl
          have dQ250 : n48 < x49.heap.size ∨ x50.heap.size ≤ n48 := .inl (lt_of_block bQ49.at)
          refine hK.out _ _ (B50.block _ hwl) (fun hHeld => ?_)
          clear hK KK hHeld
          have hHeld := B50.block _ hwl
          try simp only [Act.put, List.setIfInBounds_toArray, List.set_cons_zero, List.set_cons_succ]
          refine wpAnyH_ready (rs := [6]) (by kernel_rfl) (by simp) (AllReadyH.cons rfl (fun KK hK => ?_) AllReadyH.nil)
          all_goals dsimp -proj only [List.getElem_toArray, List.getElem_cons_zero, List.getElem_cons_succ]
          · go_simp
            obtain ⟨x51, hx51⟩ : ∃ x, x50.alloc (.cells #[.int .i64 0, .slice none 0 0, .slice none 0 0, .slice none 0 0, .int .u64 0, .int .u64 0, .int .u64 0, .int .i64 0, .int .i64 0] 27) = x := ⟨_, rfl⟩
            obtain ⟨hb51, eN51, hs51⟩ := boxed _ _ _ hx51
            rw [hx51]
            have B51 : Below wb.heap.size wb x51 := B50.trans (hb51.mono B50.size)
            have bQ51 := bQ50.later hb51
            have k151 := k150.trans (Kb.below hb51)
            have k251 := k250.trans (Kb.below hb51)
            obtain ⟨n51, en51⟩ : ∃ n, x50.heap.size = n := ⟨_, rfl⟩
            rw [en51]
            have bP51 : Bx wb x51 n51 27 #[.int .i64 0, .slice none 0 0, .slice none 0 0, .slice none 0 0, .int .u64 0, .int .u64 0, .int .u64 0, .int .i64 0, .int .i64 0] := ⟨by rw [← en51]; exact B50.size, by rw [← en51]; exact eN51⟩
            have ne51 : n51 ≠ n48 := by have := lt_of_block bQ50.at; omega
            have dP151 : n51 < x48.heap.size ∨ x49.heap.size ≤ n51 := .inr (by rw [← en51]; exact k150.size)
            have dP251 : n51 < x49.heap.size ∨ x50.heap.size ≤ n51 := .inr (by rw [← en51]; exact k250.size)
            clear hs51 en51 hx51 eN51
            refine hK.out _ _ (B51.block _ hwl) (fun hHeld => ?_)
            clear hK KK hHeld
            have hHeld := B51.block _ hwl
            try simp only [Act.put, List.setIfInBounds_toArray, List.set_cons_zero, List.set_cons_succ]
            refine wpAnyH_ready (rs := [8]) (by kernel_rfl) (by simp) (AllReadyH.cons rfl (fun KK hK => ?_) AllReadyH.nil)
            all_goals dsimp -proj only [List.getElem_toArray, List.getElem_cons_zero, List.getElem_cons_succ]
            · refine step_store_row rfl 27 _ _ rfl n51 #[.int .i64 p.ki, .slice g.pp p.np g.pc, .slice g.tp p.nq g.tc, .slice g.sp p.ns g.sc, .int .u64 p.sd, .int .u64 p.lk, .int .u64 p.en, .int .i64 p.bu, .int .i64 p.fu] rfl rfl 27 _ bP51.at (by kernel_rfl) rfl (by kernel_rfl) ?_
              obtain ⟨x52, hx52⟩ : ∃ x, x51.setRow n51 #[.int .i64 p.ki, .slice g.pp p.np g.pc, .slice g.tp p.nq g.tc, .slice g.sp p.ns g.sc, .int .u64 p.sd, .int .u64 p.lk, .int .u64 p.en, .int .i64 p.bu, .int .i64 p.fu] = x := ⟨_, rfl⟩
              rw [hx52]
              have B52 : Below wb.heap.size wb x52 := by rw [← hx52]; exact setRow_below _ B51 bP51.1
              have bP52 : Bx wb x52 n51 27 #[.int .i64 p.ki, .slice g.pp p.np g.pc, .slice g.tp p.nq g.tc, .slice g.sp p.ns g.sc, .int .u64 p.sd, .int .u64 p.lk, .int .u64 p.en, .int .i64 p.bu, .int .i64 p.fu] := ⟨bP51.1, by rw [← hx52]; exact setRow_heap _ _ _ _ _ _ bP51.at⟩
              have bQ52 := bQ51.row ne51.symm hx52
              have k152 := k151.row dP151 hx52
              have k252 := k251.row dP251 hx52
              clear hx52
              refine hK.out _ _ (B52.block _ hwl) (fun hHeld => ?_)
              clear hK KK hHeld
              have hHeld := B52.block _ hwl
              try simp only [Act.put, List.setIfInBounds_toArray, List.set_cons_zero, List.set_cons_succ]
              refine wpAnyH_ready (rs := [9]) (by kernel_rfl) (by simp) (AllReadyH.cons rfl (fun KK hK => ?_) AllReadyH.nil)
              all_goals dsimp -proj only [List.getElem_toArray, List.getElem_cons_zero, List.getElem_cons_succ]
              · refine step_store_row rfl 31 _ _ rfl n48 #[.slice z.q o.n z.c, .slice z.q2 o.m z.c2, .slice z.q3 o.l z.c3] rfl rfl 31 _ bQ52.at (by kernel_rfl) rfl (by kernel_rfl) ?_
                obtain ⟨x53, hx53⟩ : ∃ x, x52.setRow n48 #[.slice z.q o.n z.c, .slice z.q2 o.m z.c2, .slice z.q3 o.l z.c3] = x := ⟨_, rfl⟩
                rw [hx53]
                have B53 : Below wb.heap.size wb x53 := by rw [← hx53]; exact setRow_below _ B52 bQ52.1
                have bQ53 : Bx wb x53 n48 31 #[.slice z.q o.n z.c, .slice z.q2 o.m z.c2, .slice z.q3 o.l z.c3] := ⟨bQ52.1, by rw [← hx53]; exact setRow_heap _ _ _ _ _ _ bQ52.at⟩
                have bP53 := bP52.row ne51 hx53
                have k153 := k152.row dQ149 hx53
                have k253 := k252.row dQ250 hx53
                clear hx53
                refine hK.out _ _ (B53.block _ hwl) (fun hHeld => ?_)
                clear hK KK hHeld
                have hHeld := B53.block _ hwl
                try simp only [Act.put, List.setIfInBounds_toArray, List.set_cons_zero, List.set_cons_succ]
                refine wpAnyH_done (by kernel_rfl) ?_ _
                have hLR := opens_lr B53 C149 k153 C250 k253 bP53 bQ53
                go_wp2_with fail; go_meet; exact hLR
        · go_simp
          obtain ⟨x54, hx54⟩ : ∃ x, x49.alloc (.cells #[.int .i64 0, .slice none 0 0, .slice none 0 0, .slice none 0 0, .int .u64 0, .int .u64 0, .int .u64 0, .int .i64 0, .int .i64 0] 27) = x := ⟨_, rfl⟩
          obtain ⟨hb54, eN54, hs54⟩ := boxed _ _ _ hx54
          rw [hx54]
          have B54 : Below wb.heap.size wb x54 := B49.trans (hb54.mono B49.size)
          have bQ54 := bQ49.later hb54
          have k154 := k149.trans (Kb.below hb54)
          obtain ⟨n54, en54⟩ : ∃ n, x49.heap.size = n := ⟨_, rfl⟩
          rw [en54]
          have bP54 : Bx wb x54 n54 27 #[.int .i64 0, .slice none 0 0, .slice none 0 0, .slice none 0 0, .int .u64 0, .int .u64 0, .int .u64 0, .int .i64 0, .int .i64 0] := ⟨by rw [← en54]; exact B49.size, by rw [← en54]; exact eN54⟩
          have ne54 : n54 ≠ n48 := by have := lt_of_block bQ49.at; omega
          have dP154 : n54 < x48.heap.size ∨ x49.heap.size ≤ n54 := .inr (by rw [← en54]; exact k149.size)
          clear hs54 en54 hx54 eN54
          refine hK.out _ _ (B54.block _ hwl) (fun hHeld => ?_)
          clear hK KK hHeld
          have hHeld := B54.block _ hwl
          try simp only [Act.put, List.setIfInBounds_toArray, List.set_cons_zero, List.set_cons_succ]
          refine wpAnyH_ready (rs := [5]) (by kernel_rfl) (by simp) (AllReadyH.cons rfl (fun KK hK => ?_) AllReadyH.nil)
          all_goals dsimp -proj only [List.getElem_toArray, List.getElem_cons_zero, List.getElem_cons_succ]
          · go_simp
            go_at_call 5
            refine (HC2 _ B54).out.mono ?_
            rintro e x55 ⟨z, rfl, hz, hb55⟩
            try go_wp2_with fail
            have B55 : Below wb.heap.size wb x55 := B54.trans (hb55.mono B54.size)
            have bP55 := bP54.later hb55
            have bQ55 := bQ54.later hb55
            have k155 := k154.trans (Kb.below hb55)
            have C255 : Hid (PnNew x55 x54.heap.size o z) := hz
            have k255 : Kb (fun j => j < x54.heap.size) x55 x55 := Kb.rfl
            have dP255 : n54 < x54.heap.size ∨ x55.heap.size ≤ n54 := .inl (lt_of_block bP54.at)
            have dQ255 : n48 < x54.heap.size ∨ x55.heap.size ≤ n48 := .inl (lt_of_block bQ54.at)
            refine hK.out _ _ (B55.block _ hwl) (fun hHeld => ?_)
            clear hK KK hHeld
            have hHeld := B55.block _ hwl
            try simp only [Act.put, List.setIfInBounds_toArray, List.set_cons_zero, List.set_cons_succ]
            refine wpAnyH_ready (rs := [8]) (by kernel_rfl) (by simp) (AllReadyH.cons rfl (fun KK hK => ?_) AllReadyH.nil)
            all_goals dsimp -proj only [List.getElem_toArray, List.getElem_cons_zero, List.getElem_cons_succ]
            · refine step_store_row rfl 27 _ _ rfl n54 #[.int .i64 p.ki, .slice g.pp p.np g.pc, .slice g.tp p.nq g.tc, .slice g.sp p.ns g.sc, .int .u64 p.sd, .int .u64 p.lk, .int .u64 p.en, .int .i64 p.bu, .int .i64 p.fu] rfl rfl 27 _ bP55.at (by kernel_rfl) rfl (by kernel_rfl) ?_
              obtain ⟨x56, hx56⟩ : ∃ x, x55.setRow n54 #[.int .i64 p.ki, .slice g.pp p.np g.pc, .slice g.tp p.nq g.tc, .slice g.sp p.ns g.sc, .int .u64 p.sd, .int .u64 p.lk, .int .u64 p.en, .int .i64 p.bu, .int .i64 p.fu] = x := ⟨_, rfl⟩
              rw [hx56]
              have B56 : Below wb.heap.size wb x56 := by rw [← hx56]; exact setRow_below _ B55 bP55.1
              have bP56 : Bx wb x56 n54 27 #[.int .i64 p.ki, .slice g.pp p.np g.pc, .slice g.tp p.nq g.tc, .slice g.sp p.ns g.sc, .int .u64 p.sd, .int .u64 p.lk, .int .u64 p.en, .int .i64 p.bu, .int .i64 p.fu] := ⟨bP55.1, by rw [← hx56]; exact setRow_heap _ _ _ _ _ _ bP55.at⟩
              have bQ56 := bQ55.row ne54.symm hx56
              have k156 := k155.row dP154 hx56
              have k256 := k255.row dP255 hx56
              clear hx56
              refine hK.out _ _ (B56.block _ hwl) (fun hHeld => ?_)
              clear hK KK hHeld
              have hHeld := B56.block _ hwl
              try simp only [Act.put, List.setIfInBounds_toArray, List.set_cons_zero, List.set_cons_succ]
              refine wpAnyH_ready (rs := [9]) (by kernel_rfl) (by simp) (AllReadyH.cons rfl (fun KK hK => ?_) AllReadyH.nil)
              all_goals dsimp -proj only [List.getElem_toArray, List.getElem_cons_zero, List.getElem_cons_succ]
              · refine step_store_row rfl 31 _ _ rfl n48 #[.slice z.q o.n z.c, .slice z.q2 o.m z.c2, .slice z.q3 o.l z.c3] rfl rfl 31 _ bQ56.at (by kernel_rfl) rfl (by kernel_rfl) ?_
                obtain ⟨x57, hx57⟩ : ∃ x, x56.setRow n48 #[.slice z.q o.n z.c, .slice z.q2 o.m z.c2, .slice z.q3 o.l z.c3] = x := ⟨_, rfl⟩
                rw [hx57]
                have B57 : Below wb.heap.size wb x57 := by rw [← hx57]; exact setRow_below _ B56 bQ56.1
                have bQ57 : Bx wb x57 n48 31 #[.slice z.q o.n z.c, .slice z.q2 o.m z.c2, .slice z.q3 o.l z.c3] := ⟨bQ56.1, by rw [← hx57]; exact setRow_heap _ _ _ _ _ _ bQ56.at⟩
                have bP57 := bP56.row ne54 hx57
                have k157 := k156.row dQ149 hx57
                have k257 := k256.row dQ255 hx57
                clear hx57
                refine hK.out _ _ (B57.block _ hwl) (fun hHeld => ?_)
                clear hK KK hHeld
                have hHeld := B57.block _ hwl
                try simp only [Act.put, List.setIfInBounds_toArray, List.set_cons_zero, List.set_cons_succ]
                refine wpAnyH_done (by kernel_rfl) ?_ _
                have hLR := opens_lr B57 C149 k157 C255 k257 bP57 bQ57
                go_wp2_with fail; go_meet; exact hLR
      · go_simp
        obtain ⟨x58, hx58⟩ : ∃ x, x48.alloc (.cells #[.int .i64 0, .slice none 0 0, .slice none 0 0, .slice none 0 0, .int .u64 0, .int .u64 0, .int .u64 0, .int .i64 0, .int .i64 0] 27) = x := ⟨_, rfl⟩
        obtain ⟨hb58, eN58, hs58⟩ := boxed _ _ _ hx58
        rw [hx58]
        have B58 : Below wb.heap.size wb x58 := B48.trans (hb58.mono B48.size)
        have bQ58 := bQ48.later hb58
        obtain ⟨n58, en58⟩ : ∃ n, x48.heap.size = n := ⟨_, rfl⟩
        rw [en58]
        have bP58 : Bx wb x58 n58 27 #[.int .i64 0, .slice none 0 0, .slice none 0 0, .slice none 0 0, .int .u64 0, .int .u64 0, .int .u64 0, .int .i64 0, .int .i64 0] := ⟨by rw [← en58]; exact B48.size, by rw [← en58]; exact eN58⟩
        have ne58 : n58 ≠ n48 := by have := lt_of_block bQ48.at; omega
        clear hs58 en58 hx58 eN58
        refine hK.out _ _ (B58.block _ hwl) (fun hHeld => ?_)
        clear hK KK hHeld
        have hHeld := B58.block _ hwl
        try simp only [Act.put, List.setIfInBounds_toArray, List.set_cons_zero, List.set_cons_succ]
        refine wpAnyH_ready (rs := [2]) (by kernel_rfl) (by simp) (AllReadyH.cons rfl (fun KK hK => ?_) AllReadyH.nil)
        all_goals dsimp -proj only [List.getElem_toArray, List.getElem_cons_zero, List.getElem_cons_succ]
        · go_simp
          go_at_call 4
          refine (HC1 _ B58).out.mono ?_
          rintro e x59 ⟨g, rfl, hg, hgn, hb59⟩
          try go_wp2_with fail
          have B59 : Below wb.heap.size wb x59 := B58.trans (hb59.mono B58.size)
          have bP59 := bP58.later hb59
          have bQ59 := bQ58.later hb59
          have C159 : Hid (PlAt x59 p g ∧ PlNew x58.heap.size p g) := ⟨hg, hgn⟩
          have k159 : Kb (fun j => j < x58.heap.size) x59 x59 := Kb.rfl
          have dP159 : n58 < x58.heap.size ∨ x59.heap.size ≤ n58 := .inl (lt_of_block bP58.at)
          have dQ159 : n48 < x58.heap.size ∨ x59.heap.size ≤ n48 := .inl (lt_of_block bQ58.at)
          refine hK.out _ _ (B59.block _ hwl) (fun hHeld => ?_)
          clear hK KK hHeld
          have hHeld := B59.block _ hwl
          try simp only [Act.put, List.setIfInBounds_toArray, List.set_cons_zero, List.set_cons_succ]
          refine wpAnyH_ready (rs := [5]) (by kernel_rfl) (by simp) (AllReadyH.cons rfl (fun KK hK => ?_) AllReadyH.nil)
          all_goals dsimp -proj only [List.getElem_toArray, List.getElem_cons_zero, List.getElem_cons_succ]
          · go_simp
            go_at_call 5
            refine (HC2 _ B59).out.mono ?_
            rintro e x60 ⟨z, rfl, hz, hb60⟩
            try go_wp2_with fail
            have B60 : Below wb.heap.size wb x60 := B59.trans (hb60.mono B59.size)
            have bP60 := bP59.later hb60
            have bQ60 := bQ59.later hb60
            have k160 := k159.trans (Kb.below hb60)
            have C260 : Hid (PnNew x60 x59.heap.size o z) := hz
            have k260 : Kb (fun j => j < x59.heap.size) x60 x60 := Kb.rfl
            have dP260 : n58 < x59.heap.size ∨ x60.heap.size ≤ n58 := .inl (lt_of_block bP59.at)
            have dQ260 : n48 < x59.heap.size ∨ x60.heap.size ≤ n48 := .inl (lt_of_block bQ59.at)
            refine hK.out _ _ (B60.block _ hwl) (fun hHeld => ?_)
            clear hK KK hHeld
            have hHeld := B60.block _ hwl
            try simp only [Act.put, List.setIfInBounds_toArray, List.set_cons_zero, List.set_cons_succ]
            refine wpAnyH_ready (rs := [8]) (by kernel_rfl) (by simp) (AllReadyH.cons rfl (fun KK hK => ?_) AllReadyH.nil)
            all_goals dsimp -proj only [List.getElem_toArray, List.getElem_cons_zero, List.getElem_cons_succ]
            · refine step_store_row rfl 27 _ _ rfl n58 #[.int .i64 p.ki, .slice g.pp p.np g.pc, .slice g.tp p.nq g.tc, .slice g.sp p.ns g.sc, .int .u64 p.sd, .int .u64 p.lk, .int .u64 p.en, .int .i64 p.bu, .int .i64 p.fu] rfl rfl 27 _ bP60.at (by kernel_rfl) rfl (by kernel_rfl) ?_
              obtain ⟨x61, hx61⟩ : ∃ x, x60.setRow n58 #[.int .i64 p.ki, .slice g.pp p.np g.pc, .slice g.tp p.nq g.tc, .slice g.sp p.ns g.sc, .int .u64 p.sd, .int .u64 p.lk, .int .u64 p.en, .int .i64 p.bu, .int .i64 p.fu] = x := ⟨_, rfl⟩
              rw [hx61]
              have B61 : Below wb.heap.size wb x61 := by rw [← hx61]; exact setRow_below _ B60 bP60.1
              have bP61 : Bx wb x61 n58 27 #[.int .i64 p.ki, .slice g.pp p.np g.pc, .slice g.tp p.nq g.tc, .slice g.sp p.ns g.sc, .int .u64 p.sd, .int .u64 p.lk, .int .u64 p.en, .int .i64 p.bu, .int .i64 p.fu] := ⟨bP60.1, by rw [← hx61]; exact setRow_heap _ _ _ _ _ _ bP60.at⟩
              have bQ61 := bQ60.row ne58.symm hx61
              have k161 := k160.row dP159 hx61
              have k261 := k260.row dP260 hx61
              clear hx61
              refine hK.out _ _ (B61.block _ hwl) (fun hHeld => ?_)
              clear hK KK hHeld
              have hHeld := B61.block _ hwl
              try simp only [Act.put, List.setIfInBounds_toArray, List.set_cons_zero, List.set_cons_succ]
              refine wpAnyH_ready (rs := [9]) (by kernel_rfl) (by simp) (AllReadyH.cons rfl (fun KK hK => ?_) AllReadyH.nil)
              all_goals dsimp -proj only [List.getElem_toArray, List.getElem_cons_zero, List.getElem_cons_succ]
              · refine step_store_row rfl 31 _ _ rfl n48 #[.slice z.q o.n z.c, .slice z.q2 o.m z.c2, .slice z.q3 o.l z.c3] rfl rfl 31 _ bQ61.at (by kernel_rfl) rfl (by kernel_rfl) ?_
                obtain ⟨x62, hx62⟩ : ∃ x, x61.setRow n48 #[.slice z.q o.n z.c, .slice z.q2 o.m z.c2, .slice z.q3 o.l z.c3] = x := ⟨_, rfl⟩
                rw [hx62]
                have B62 : Below wb.heap.size wb x62 := by rw [← hx62]; exact setRow_below _ B61 bQ61.1
                have bQ62 : Bx wb x62 n48 31 #[.slice z.q o.n z.c, .slice z.q2 o.m z.c2, .slice z.q3 o.l z.c3] := ⟨bQ61.1, by rw [← hx62]; exact setRow_heap _ _ _ _ _ _ bQ61.at⟩
                have bP62 := bP61.row ne58 hx62
                have k162 := k161.row dQ159 hx62
                have k262 := k261.row dQ260 hx62
                clear hx62
                refine hK.out _ _ (B62.block _ hwl) (fun hHeld => ?_)
                clear hK KK hHeld
                have hHeld := B62.block _ hwl
                try simp only [Act.put, List.setIfInBounds_toArray, List.set_cons_zero, List.set_cons_succ]
                refine wpAnyH_done (by kernel_rfl) ?_ _
                have hLR := opens_lr B62 C159 k162 C260 k262 bP62 bQ62
                go_wp2_with fail; go_meet; exact hLR
  case rest =>
    obtain ⟨bp, bq, g, z, rfl, rfl, hp, hq, hg, hz, hb⟩ := hcut
    have HH : Hid (PlAt wc p g ∧ PnAt wc o z ∧ Below wb.heap.size wb wc) := ⟨hg, hz, hb⟩
    clear HC1 HC2 hg hz hb HW
    obtain ⟨⟨c0, c1, c2, c3⟩, c4, c5, c6, c7, c8⟩ := cells9 hp
    obtain ⟨d0, d1, d2⟩ := cells3p hq
    have HXW : ∀ W, Below wc.heap.size wc W → Hid (W.heap[w.heap.size]? = some (.cells #[.int .i64 p.ki, .slice v.pp p.np v.pc, .slice v.tp p.nq v.tc, .slice v.sp p.ns v.sc, .int .u64 p.sd, .int .u64 p.lk, .int .u64 p.en, .int .i64 p.bu, .int .i64 p.fu, .slice u.q o.n u.c, .slice u.q2 o.m u.c2, .slice u.q3 o.l u.c3, .slice oq on oc] 34 (0, 0)) ∧ W.heap[bp]? = some (.cells #[.int .i64 p.ki, .slice g.pp p.np g.pc, .slice g.tp p.nq g.tc, .slice g.sp p.ns g.sc, .int .u64 p.sd, .int .u64 p.lk, .int .u64 p.en, .int .i64 p.bu, .int .i64 p.fu] 27 (0, 0)) ∧ W.heap[bq]? = some (.cells #[.slice z.q o.n z.c, .slice z.q2 o.m z.c2, .slice z.q3 o.l z.c3] 31 (0, 0)) ∧ PlAt W p v ∧ PnAt W o u ∧ PlAt W p g ∧ PnAt W o z) := fun W hW => ⟨(hW.block _ (by have := HH.out.2.2.size; omega)).trans ((HH.out.2.2.block _ hwl).trans hbox), (hW.block _ (lt_of_block hp)).trans hp, (hW.block _ (lt_of_block hq)).trans hq, (HP.out.1.below HH.out.2.2).below hW, (HP.out.2.1.below HH.out.2.2).below hW, HH.out.1.below hW, HH.out.2.1.below hW⟩
    have KQ : ∀ W, Below wc.heap.size wc W → Hid (W.cell? ⟨w.heap.size, 9, none⟩ = some (.slice u.q o.n u.c) ∧ W.cell? ⟨w.heap.size, 10, none⟩ = some (.slice u.q2 o.m u.c2) ∧ W.cell? ⟨w.heap.size, 11, none⟩ = some (.slice u.q3 o.l u.c3)) := fun W hW => by
      obtain ⟨a0, a1, a2, a3, a4, a5, a6, a7, a8, a9, a10, a11⟩ := cells13 (HXW W hW).out.1
      exact ⟨a9, a10, a11⟩
    by_cases hvf : VC p 0 ∧ PF p o
    · have HO := open_good p g o z HP.out.2.2.2.1 HP.out.2.2.2.2.1 wc HH.out.1 HH.out.2.1 hvf.1 hvf.2
      have HVF : Hid (VC p 0 ∧ PF p o) := hvf
      clear hvf hbox hp hq
      go_upto_region 3 with (go_at_call 6; (with_reducible refine HO.mono ?_); rintro e w3 ⟨sb, rfl, hsim, hb3⟩)
      have X3 := HXW w3 hb3
      obtain ⟨a0, a1, a2, a3, a4, a5, a6, a7, a8, a9, a10, a11⟩ := cells13 X3.out.1
      have HT := take_any p v o u HP.out.2.2.2.2.1 w3 X3.out.2.2.2.1 X3.out.2.2.2.2.1
      clear c0 c1 c2 c3 c4 c5 c6 c7 c8 d0 d1 d2 HO
      go_upto_region 4 with (go_at_call 7; (with_reducible refine HT.mono ?_); rintro e w4 ⟨ce, rfl, hfo4, hb4⟩)
      clear a0 a1 a2 a3 a4 a5 a6 a7 a8 a9 a10 a11 HT
      have H4 : Below wc.heap.size wc w4 := hb3.trans (hb4.mono hb3.size)
      have HD4 : Below wc.heap.size wc w4.drew := H4.drew
      have KD4 := (KQ _ HD4).out
      obtain rfl : ce = 0 := hfo4.good HVF.out.1 HVF.out.2
      have HPt := point_good p o sb w4.drew ((hsim.below hb4).below (Below.refl _ w4).drew) HP.out.2.2.2.2.1 HVF.out.2
      clear hsim hb3 hb4 hfo4 X3
      go_upto_region 6 with fail
      go_region_held3 (fun W => (W.cell? ⟨w.heap.size, 9, none⟩ = some (.slice u.q o.n u.c) ∧ W.cell? ⟨w.heap.size, 10, none⟩ = some (.slice u.q2 o.m u.c2) ∧ W.cell? ⟨w.heap.size, 11, none⟩ = some (.slice u.q3 o.l u.c3))) (first | with_reducible exact KD4 | with_reducible exact KD5 | with_reducible exact KD6) (first | (go_at_call 9; (with_reducible refine HPt.mono ?_); rintro e w5 ⟨y, rfl, hy, hb5⟩; have H5 : Below wc.heap.size wc w5 := HD4.trans (hb5.mono HD4.size); have KD5 := (KQ w5 H5).out; have HSP := samePn_yes o y u HP.out.2.2.2.2.1 w5 hy (HXW w5 H5).out.2.2.2.2.1; clear HPt hy hb5) | (go_at_call 8; (with_reducible refine HSP.mono ?_); rintro e w6 ⟨rfl, hb6⟩; have H6 : Below wc.heap.size wc w6 := H5.trans (hb6.mono H5.size); have KD6 := (KQ w6 H6).out; clear HSP))
      go_upto_region 8 with fail
      have X6 := HXW w6 H6
      obtain ⟨⟨c0, c1, c2, c3⟩, c4, c5, c6, c7, c8⟩ := cells9 X6.out.2.1
      obtain ⟨a0, a1, a2, a3, a4, a5, a6, a7, a8, a9, a10, a11⟩ := cells13 X6.out.1
      have HSL := samePlan_yes p g v w6 X6.out.2.2.2.2.2.1 X6.out.2.2.2.1 HP.out.2.2.2.1
      go_wp2_with (first | (go_at_call 10; (with_reducible refine HSL.mono ?_); rintro e w7 ⟨rfl, hb7⟩; have H7 : Below wc.heap.size wc w7 := H6.trans (hb7.mono H6.size); have X7 := HXW w7 H7; obtain ⟨d0, d1, d2⟩ := cells3p X7.out.2.2.1; obtain ⟨k9, k10, k11⟩ := (KQ w7 H7).out; have HSQ := samePn_yes o z u HP.out.2.2.2.2.1 w7 X7.out.2.2.2.2.2.2 X7.out.2.2.2.2.1; clear HSL hb7 c0 c1 c2 c3 c4 c5 c6 c7 c8 a0 a1 a2 a3 a4 a5 a6 a7 a8 a9 a10 a11) | (go_at_call 8; (with_reducible refine HSQ.mono ?_); rintro e w8 ⟨rfl, hb8⟩; have H8 : Below wc.heap.size wc w8 := H7.trans (hb8.mono H7.size); clear HSQ hb8))
      go_ret
      exact ⟨rfl, (HP.out.2.2.1.trans (HH.out.2.2.mono HP.out.2.2.1.size)).trans (H8.mono (by have := HP.out.2.2.1.size; have := HH.out.2.2.size; omega))⟩
    · have HO := open_bad p g o z HP.out.2.2.2.1 HP.out.2.2.2.2.1 wc HH.out.1 HH.out.2.1 hvf
      clear hvf hbox hp hq
      go_upto_region 3 with (go_at_call 6; (with_reducible refine HO.mono ?_); rintro e w3 ⟨cd, rfl, hcd, hfo, hb3⟩)
      have X3 := HXW w3 hb3
      obtain ⟨a0, a1, a2, a3, a4, a5, a6, a7, a8, a9, a10, a11⟩ := cells13 X3.out.1
      have HT := take_any p v o u HP.out.2.2.2.2.1 w3 X3.out.2.2.2.1 X3.out.2.2.2.2.1
      clear c0 c1 c2 c3 c4 c5 c6 c7 c8 d0 d1 d2 HO
      go_upto_region 4 with (go_at_call 7; (with_reducible refine HT.mono ?_); rintro e w4 ⟨ce, rfl, hfo4, hb4⟩)
      clear a0 a1 a2 a3 a4 a5 a6 a7 a8 a9 a10 a11 HT
      have H4 : Below wc.heap.size wc w4 := hb3.trans (hb4.mono hb3.size)
      have HD4 : Below wc.heap.size wc w4.drew := H4.drew
      have KD4 := (KQ _ HD4).out
      obtain rfl : ce = cd := FO.one hfo4 hfo
      clear hfo hb3 hb4 hfo4 X3
      have hcd' : (ce != 0) = true := by simpa using hcd
      go_upto_region 6 with fail
      go_region
      go_upto_region 8 with fail
      have X6 := HXW w4.drew HD4
      obtain ⟨⟨c0, c1, c2, c3⟩, c4, c5, c6, c7, c8⟩ := cells9 X6.out.2.1
      obtain ⟨a0, a1, a2, a3, a4, a5, a6, a7, a8, a9, a10, a11⟩ := cells13 X6.out.1
      have HSL := samePlan_yes p g v w4.drew X6.out.2.2.2.2.2.1 X6.out.2.2.2.1 HP.out.2.2.2.1
      go_wp2_with (first | (go_at_call 10; (with_reducible refine HSL.mono ?_); rintro e w7 ⟨rfl, hb7⟩; have H7 : Below wc.heap.size wc w7 := HD4.trans (hb7.mono HD4.size); have X7 := HXW w7 H7; obtain ⟨d0, d1, d2⟩ := cells3p X7.out.2.2.1; obtain ⟨k9, k10, k11⟩ := (KQ w7 H7).out; have HSQ := samePn_yes o z u HP.out.2.2.2.2.1 w7 X7.out.2.2.2.2.2.2 X7.out.2.2.2.2.1; clear HSL hb7 c0 c1 c2 c3 c4 c5 c6 c7 c8 a0 a1 a2 a3 a4 a5 a6 a7 a8 a9 a10 a11) | (go_at_call 8; (with_reducible refine HSQ.mono ?_); rintro e w8 ⟨rfl, hb8⟩; have H8 : Below wc.heap.size wc w8 := H7.trans (hb8.mono H7.size); clear HSQ hb8))
      go_ret
      exact ⟨rfl, (HP.out.2.2.1.trans (HH.out.2.2.mono HP.out.2.2.1.size)).trans (H8.mono (by have := HP.out.2.2.1.size; have := HH.out.2.2.size; omega))⟩
end Go.Proofs.Ytbcnlnigenpiiaa
namespace Go.Proofs.Ytbcnlnigenpiiaa
open Go.ChangeShapes Go.WideShapes Go.ChangeAt Go.RowKit Go.Deep
set_option linter.unusedVariables false
set_option maxRecDepth 100000

theorem lst6 {α : Type} {l : List α} (h : l.length = 6) : ∃ a b c d e f, l = [a, b, c, d, e, f] := by
  match l, h with
  | [a, b, c, d, e, f], _ => exact ⟨a, b, c, d, e, f, rfl⟩
theorem lst13 {α : Type} {l : List α} (h : l.length = 13) : ∃ a b c d e f g i j k m n o, l = [a, b, c, d, e, f, g, i, j, k, m, n, o] := by
  match l, h with
  | [a, b, c, d, e, f, g, i, j, k, m, n, o], _ => exact ⟨a, b, c, d, e, f, g, i, j, k, m, n, o, rfl⟩
theorem view_sa {H : Type} {enc : TypeId × Value → H} {W : World} {fuel : Nat} {cs : List Value} {x : DataW H × List MemPlace} (h : DataW.trod enc Try.prog W 0 (fun _ => true) true fuel 61 cs = some x) (hl : cs.length = 3) (hw : ∀ y ∈ x.1.weights Try.prog 61, y ≤ reachBytes) :
    ∃ X : Sa × (Nat → Int), cs = [.slice X.1.p X.1.n X.1.c, .int .u64 X.1.d, .int .u64 X.1.s] ∧ KAt W X.1.p X.1.n X.2 ∧ X.1.n ≤ 17592186044416 := by
  obtain ⟨c0, c1, c2, rfl⟩ := lst3 hl
  obtain ⟨xs, n, _, hx0, _, hxl, hx⟩ := DataW.trod_struct Try.underlying61 h
  obtain ⟨y0, y1, y2, rfl⟩ := lst3 (by simpa using hxl)
  have k8 : Try.prog.cellsOf 25 = 1 := by kernel_rfl
  have k23 : Try.prog.cellsOf 50 = 1 := by kernel_rfl
  have g0 := hx 0 _ rfl
  have g1 := hx 1 _ rfl
  have g2 := hx 2 _ rfl
  simp [k8, k23] at g0 g1 g2
  obtain ⟨x1, s1, _, w1⟩ := DataW.trod_int Try.underlying25 g1
  obtain ⟨x2, s2, _, w2⟩ := DataW.trod_int Try.underlying25 g2
  obtain ⟨q, m2, e, K, s0, hk, hm⟩ := view_wds g0 (fun y hy => hw y (by
    rw [hx0]
    simp only [DataW.weights, Try.underlying61]
    refine DataW.weights_mem_each (j := 0) (t := 50) (d := y0.1) ?_ rfl y hy
    kernel_rfl))
  simp at s1 s2
  subst s0 s1 s2
  exact ⟨(⟨q, m2, e, x1, x2⟩, K), rfl, hk, hm⟩
theorem view_se {H : Type} {enc : TypeId × Value → H} {W : World} {fuel : Nat} {cs : List Value} {x : DataW H × List MemPlace} (h : DataW.trod enc Try.prog W 0 (fun _ => true) true fuel 65 cs = some x) (hl : cs.length = 6) (hw : ∀ y ∈ x.1.weights Try.prog 65, y ≤ reachBytes) :
    ∃ X : Se, cs = [.int .u64 X.t, .int .i64 X.s, .int .u64 X.q, .int .i64 X.d, .int .i64 X.k, .int .i64 X.v] ∧ True := by
  obtain ⟨c0, c1, c2, c3, c4, c5, rfl⟩ := lst6 hl
  obtain ⟨xs, n, _, hx0, _, hxl, hx⟩ := DataW.trod_struct Try.underlying65 h
  obtain ⟨y0, y1, y2, y3, rfl⟩ := lst4 (by simpa using hxl)
  have k3 : Try.prog.cellsOf 3 = 1 := by kernel_rfl
  have k8 : Try.prog.cellsOf 25 = 1 := by kernel_rfl
  have k6 : Try.prog.cellsOf 2 = 1 := by kernel_rfl
  have k5 : Try.prog.cellsOf 63 = 3 := by kernel_rfl
  have g0 := hx 0 _ rfl
  have g1 := hx 1 _ rfl
  have g2 := hx 2 _ rfl
  have g3 := hx 3 _ rfl
  simp [k3, k6, k5] at g0 g1 g2 g3
  obtain ⟨xs', n', _, hx0', _, hxl', hx'⟩ := DataW.trod_struct Try.underlying63 g0
  obtain ⟨z0, z1, z2, rfl⟩ := lst3 (by simpa using hxl')
  have f0 := hx' 0 _ rfl
  have f1 := hx' 1 _ rfl
  have f2 := hx' 2 _ rfl
  simp [k3, k8] at f0 f1 f2
  obtain ⟨x0, s0, _, w0⟩ := DataW.trod_int Try.underlying25 f0
  obtain ⟨x1, s1, _, w1⟩ := DataW.trod_int Try.underlying3 f1
  obtain ⟨x2, s2, _, w2⟩ := DataW.trod_int Try.underlying25 f2
  obtain ⟨x3, s3, _, w3⟩ := DataW.trod_int Try.underlying3 g1
  obtain ⟨x4, s4, _, w4⟩ := DataW.trod_int Try.underlying3 g2
  obtain ⟨x5, s5, _, w5⟩ := DataW.trod_int Try.underlying2 g3
  simp at s0 s1 s2 s3 s4 s5
  subst s0 s1 s2 s3 s4 s5
  exact ⟨⟨x0, x1, x2, x3, x4, x5⟩, rfl, trivial⟩
theorem view_sas {H : Type} {enc : TypeId × Value → H} {W : World} {fuel : Nat} {kv : Value} {x : DataW H × List MemPlace} (h : DataW.trod enc Try.prog W 0 (fun _ => true) true fuel 28 [kv] = some x) (hw : ∀ y ∈ x.1.weights Try.prog 28, y ≤ reachBytes) :
    ∃ (p : Option Addr) (n c : Nat) (X : Nat → Sa × (Nat → Int)), kv = .slice p n c ∧ (SsAt W p n (fun j => (X j).1) (fun j => (X j).2) ∧ ∀ j, j < n → (X j).1.n ≤ 17592186044416) ∧ n * 40 ≤ 140737488351232 := by
  have k30 : Try.prog.cellsOf 61 = 3 := by kernel_rfl
  have inh : Inhabited (Sa × (Nat → Int)) := ⟨(⟨none, 0, 0, 0, 0⟩, fun _ => 0)⟩
  rcases open_slice Try.underlying28 h with ⟨hcs, _⟩ | ⟨a, len, cap, m, n', D, Pl, hcs, _, hl, hm, hmm, hy0, hel⟩
  · simp at hcs
    subst hcs
    exact ⟨none, 0, 0, fun _ => default, rfl, ⟨.inl rfl, fun j hj => absurd hj (Nat.not_lt_zero _)⟩, by omega⟩
  · simp at hcs
    subst hcs
    simp only [if_true] at hmm
    subst hmm
    rw [k30] at hel
    have hb : len * 40 ≤ reachBytes := by
      have := hw ((len + (m - len)) * 40) (by
        rw [hy0]
        simp only [DataW.weights, Try.underlying28]
        rw [show Try.prog.bytesOf 61 = 40 from by kernel_rfl]
        simp)
      have e : len + (m - len) = m := by omega
      rw [e] at this
      omega
    have hall : ∀ i, i < len → ∃ X : Sa × (Nat → Int), ∃ cs', W.cells? 0 (a.add (i * 3)) 3 = some cs' ∧ cs' = [.slice X.1.p X.1.n X.1.c, .int .u64 X.1.d, .int .u64 X.1.s] ∧ KAt W X.1.p X.1.n X.2 ∧ X.1.n ≤ 17592186044416 := by
      intro i hi
      obtain ⟨cs', h1, h2⟩ := hel i (by omega)
      have hlen := (World.cells?_some h1).2.1
      obtain ⟨X, h3, h4⟩ := view_sa h2 hlen (fun y hy => hw y (by
        rw [hy0]
        simp only [DataW.weights, Try.underlying28]
        refine List.mem_cons_of_mem _ (List.mem_append_left _ ?_)
        exact mem_all (List.mem_map.2 ⟨i, List.mem_range.2 hi, rfl⟩) y hy))
      exact ⟨X, cs', h1, h3, h4⟩
    obtain ⟨N, hN⟩ := choose_lt hall
    refine ⟨some a, len, m, N, rfl, ⟨?_, fun j hj => (hN j hj).choose_spec.2.2.2⟩, by unfold reachBytes at hb; omega⟩
    rcases Nat.eq_zero_or_pos len with z | z
    · exact .inl z
    · obtain ⟨b, off, spot⟩ := a
      obtain ⟨cs0, e0, e1, _⟩ := hN 0 z
      have h0 := (World.cells?_some e0).2.2 0 (by decide)
      rw [e1] at h0
      have hspot : spot = none := by simpa [Addr.add] using World.cell?_spot h0
      subst hspot
      have hbl := World.block_lt_of_cell? _ _ h0
      have hcc : ∀ i, i < len → ∀ r, r < 3 → W.cell? ⟨b, off + i * 3 + r, none⟩ = ([.slice (N i).1.p (N i).1.n (N i).1.c, .int .u64 (N i).1.d, .int .u64 (N i).1.s] : List Value)[r]? := fun i hi r hr => by
        obtain ⟨cs', f0, f1, f2⟩ := hN i hi
        have hc := (World.cells?_some f0).2.2 r hr
        rw [f1] at hc
        simpa [addr_add, Nat.add_assoc] using hc
      exact .inr ⟨b, off, rfl, by simpa [Addr.add] using hbl, fun i hi => ⟨hcc i hi 0 (by decide), hcc i hi 1 (by decide), hcc i hi 2 (by decide)⟩, fun j hj => (hN j hj).choose_spec.2.2.1⟩
theorem view_ses {H : Type} {enc : TypeId × Value → H} {W : World} {fuel : Nat} {kv : Value} {x : DataW H × List MemPlace} (h : DataW.trod enc Try.prog W 0 (fun _ => true) true fuel 29 [kv] = some x) (hw : ∀ y ∈ x.1.weights Try.prog 29, y ≤ reachBytes) :
    ∃ (p : Option Addr) (n c : Nat) (X : Nat → Se), kv = .slice p n c ∧ SIn W p n X ∧ n * 48 ≤ 140737488351232 := by
  have k30 : Try.prog.cellsOf 65 = 6 := by kernel_rfl
  have inh : Inhabited Se := ⟨⟨0, 0, 0, 0, 0, 0⟩⟩
  rcases open_slice Try.underlying29 h with ⟨hcs, _⟩ | ⟨a, len, cap, m, n', D, Pl, hcs, _, hl, hm, hmm, hy0, hel⟩
  · simp at hcs
    subst hcs
    exact ⟨none, 0, 0, fun _ => default, rfl, .inl rfl, by omega⟩
  · simp at hcs
    subst hcs
    simp only [if_true] at hmm
    subst hmm
    rw [k30] at hel
    have hb : len * 48 ≤ reachBytes := by
      have := hw ((len + (m - len)) * 48) (by
        rw [hy0]
        simp only [DataW.weights, Try.underlying29]
        rw [show Try.prog.bytesOf 65 = 48 from by kernel_rfl]
        simp)
      have e : len + (m - len) = m := by omega
      rw [e] at this
      omega
    have hall : ∀ i, i < len → ∃ X : Se, ∃ cs', W.cells? 0 (a.add (i * 6)) 6 = some cs' ∧ cs' = [.int .u64 X.t, .int .i64 X.s, .int .u64 X.q, .int .i64 X.d, .int .i64 X.k, .int .i64 X.v] ∧ True := by
      intro i hi
      obtain ⟨cs', h1, h2⟩ := hel i (by omega)
      have hlen := (World.cells?_some h1).2.1
      obtain ⟨X, h3, h4⟩ := view_se h2 hlen (fun y hy => hw y (by
        rw [hy0]
        simp only [DataW.weights, Try.underlying29]
        refine List.mem_cons_of_mem _ (List.mem_append_left _ ?_)
        exact mem_all (List.mem_map.2 ⟨i, List.mem_range.2 hi, rfl⟩) y hy))
      exact ⟨X, cs', h1, h3, h4⟩
    obtain ⟨N, hN⟩ := choose_lt hall
    refine ⟨some a, len, m, N, rfl, ?_, by unfold reachBytes at hb; omega⟩
    rcases Nat.eq_zero_or_pos len with z | z
    · exact .inl z
    · obtain ⟨b, off, spot⟩ := a
      obtain ⟨cs0, e0, e1, _⟩ := hN 0 z
      have h0 := (World.cells?_some e0).2.2 0 (by decide)
      rw [e1] at h0
      have hspot : spot = none := by simpa [Addr.add] using World.cell?_spot h0
      subst hspot
      have hbl := World.block_lt_of_cell? _ _ h0
      have hcc : ∀ i, i < len → ∀ r, r < 6 → W.cell? ⟨b, off + i * 6 + r, none⟩ = ([.int .u64 (N i).t, .int .i64 (N i).s, .int .u64 (N i).q, .int .i64 (N i).d, .int .i64 (N i).k, .int .i64 (N i).v] : List Value)[r]? := fun i hi r hr => by
        obtain ⟨cs', f0, f1, f2⟩ := hN i hi
        have hc := (World.cells?_some f0).2.2 r hr
        rw [f1] at hc
        simpa [addr_add, Nat.add_assoc] using hc
      refine .inr ⟨b, off, rfl, by simpa [Addr.add] using hbl, fun j hj => ?_⟩
      have h9 := hcc (j / 6) (by omega) (j % 6) (Nat.mod_lt _ (by decide))
      rw [show off + j / 6 * 6 + j % 6 = off + j by omega] at h9
      rw [h9]
      unfold seF seC seL
      have hr := Nat.mod_lt j (show 0 < 6 by decide)
      generalize j % 6 = r at hr ⊢
      match r, hr with
      | 0, _ => rfl
      | 1, _ => rfl
      | 2, _ => rfl
      | 3, _ => rfl
      | 4, _ => rfl
      | 5, _ => rfl
theorem view_point {H : Type} {enc : TypeId × Value → H} {W : World} {fuel : Nat} {cs : List Value} {x : DataW H × List MemPlace} (h : DataW.trod enc Try.prog W 0 (fun _ => true) true fuel 31 cs = some x) (hl : cs.length = 3) (hw : ∀ y ∈ x.1.weights Try.prog 31, y ≤ reachBytes) :
    ∃ (o : Pn) (u : PnV), cs = [.slice u.q o.n u.c, .slice u.q2 o.m u.c2, .slice u.q3 o.l u.c3] ∧ PnAt W o u ∧ RoomyN o := by
  obtain ⟨c0, c1, c2, rfl⟩ := lst3 hl
  obtain ⟨xs, n, _, hx0, _, hxl, hx⟩ := DataW.trod_struct Try.underlying31 h
  obtain ⟨y0, y1, y2, rfl⟩ := lst3 (by simpa using hxl)
  have ka : Try.prog.cellsOf 28 = 1 := by kernel_rfl
  have ke : Try.prog.cellsOf 29 = 1 := by kernel_rfl
  have g0 := hx 0 _ rfl
  have g1 := hx 1 _ rfl
  have g2 := hx 2 _ rfl
  simp [ka, ke] at g0 g1 g2
  obtain ⟨p1, n1, e1, X1, s1, ⟨hp, hpr⟩, hn1⟩ := view_sas g0 (fun y hy => hw y (by
    rw [hx0]
    simp only [DataW.weights, Try.underlying31]
    refine DataW.weights_mem_each (j := 0) (t := 28) (d := y0.1) ?_ rfl y hy
    kernel_rfl))
  obtain ⟨p2, n2, e2, X2, s2, ht, hn2⟩ := view_ses g1 (fun y hy => hw y (by
    rw [hx0]
    simp only [DataW.weights, Try.underlying31]
    refine DataW.weights_mem_each (j := 1) (t := 29) (d := y1.1) ?_ rfl y hy
    kernel_rfl))
  obtain ⟨p3, n3, e3, X3, s3, hs, hn3⟩ := view_ses g2 (fun y hy => hw y (by
    rw [hx0]
    simp only [DataW.weights, Try.underlying31]
    refine DataW.weights_mem_each (j := 2) (t := 29) (d := y2.1) ?_ rfl y hy
    kernel_rfl))
  subst s1 s2 s3
  exact ⟨⟨n1, fun j => (X1 j).1, fun j => (X1 j).2, n2, X2, n3, X3⟩, ⟨p1, e1, p2, e2, p3, e3⟩, rfl, ⟨⟨_, fun j _ => ⟨rfl, rfl, rfl⟩, hp⟩, ht, hs⟩, ⟨by show n1 * 40 ≤ _; omega, hpr, by show n2 ≤ _; omega, by show n3 ≤ _; omega⟩⟩
theorem view_plc {H : Type} {enc : TypeId × Value → H} {W : World} {fuel : Nat} {cs : List Value} {x : DataW H × List MemPlace} (h : DataW.trod enc Try.prog W 0 (fun _ => true) true fuel 27 cs = some x) (hl : cs.length = 9) (hw : ∀ y ∈ x.1.weights Try.prog 27, y ≤ reachBytes) :
    ∃ (p : Pl) (u : PlV), cs = [.int .i64 p.ki, .slice u.pp p.np u.pc, .slice u.tp p.nq u.tc, .slice u.sp p.ns u.sc, .int .u64 p.sd, .int .u64 p.lk, .int .u64 p.en, .int .i64 p.bu, .int .i64 p.fu] ∧ PlAt W p u ∧ RoomyL p := by
  obtain ⟨c0, c1, c2, c3, c4, c5, c6, c7, c8, rfl⟩ := lst9 hl
  obtain ⟨xs, n, _, hx0, _, hxl, hx⟩ := DataW.trod_struct Try.underlying27 h
  obtain ⟨y0, y1, y2, y3, y4, y5, y6, y7, y8, rfl⟩ := lst9 (by simpa using hxl)
  have k3 : Try.prog.cellsOf 3 = 1 := by kernel_rfl
  have k8 : Try.prog.cellsOf 25 = 1 := by kernel_rfl
  have kp : Try.prog.cellsOf 22 = 1 := by kernel_rfl
  have kt : Try.prog.cellsOf 23 = 1 := by kernel_rfl
  have ks : Try.prog.cellsOf 24 = 1 := by kernel_rfl
  have g0 := hx 0 _ rfl
  have g1 := hx 1 _ rfl
  have g2 := hx 2 _ rfl
  have g3 := hx 3 _ rfl
  have g4 := hx 4 _ rfl
  have g5 := hx 5 _ rfl
  have g6 := hx 6 _ rfl
  have g7 := hx 7 _ rfl
  have g8 := hx 8 _ rfl
  simp [k3, k8, kp, kt, ks] at g0 g1 g2 g3 g4 g5 g6 g7 g8
  obtain ⟨x0, s0, _, w0⟩ := DataW.trod_int Try.underlying3 g0
  obtain ⟨x4, s4, _, w4⟩ := DataW.trod_int Try.underlying25 g4
  obtain ⟨x5, s5, _, w5⟩ := DataW.trod_int Try.underlying25 g5
  obtain ⟨x6, s6, _, w6⟩ := DataW.trod_int Try.underlying25 g6
  obtain ⟨x7, s7, _, w7⟩ := DataW.trod_int Try.underlying3 g7
  obtain ⟨x8, s8, _, w8⟩ := DataW.trod_int Try.underlying3 g8
  obtain ⟨p1, n1, e1, X1, s1, ⟨hp, hpr⟩, hn1⟩ := view_pgs g1 (fun y hy => hw y (by
    rw [hx0]
    simp only [DataW.weights, Try.underlying27]
    refine DataW.weights_mem_each (j := 1) (t := 22) (d := y1.1) ?_ rfl y hy
    kernel_rfl))
  obtain ⟨p2, n2, e2, X2, s2, ⟨ht, htr⟩, hn2⟩ := view_pts g2 (fun y hy => hw y (by
    rw [hx0]
    simp only [DataW.weights, Try.underlying27]
    refine DataW.weights_mem_each (j := 2) (t := 23) (d := y2.1) ?_ rfl y hy
    kernel_rfl))
  obtain ⟨p3, n3, e3, X3, s3, hs, hn3⟩ := view_sts g3 (fun y hy => hw y (by
    rw [hx0]
    simp only [DataW.weights, Try.underlying27]
    refine DataW.weights_mem_each (j := 3) (t := 24) (d := y3.1) ?_ rfl y hy
    kernel_rfl))
  simp at s0 s4 s5 s6 s7 s8
  subst s0 s1 s2 s3 s4 s5 s6 s7 s8
  exact ⟨⟨x0, n1, fun j => (X1 j).1, n2, fun j => (X2 j).pr, fun j => (X2 j).nw, fun j => (X2 j).K, n3, X3, x4, x5, x6, x7, x8⟩, ⟨p1, e1, fun j => (X1 j).2, p2, e2, fun j => (X2 j).wp, fun j => (X2 j).wc, p3, e3⟩, rfl, ⟨hp, ht, hs⟩, ⟨hn1, hpr, hn2, htr, hn3⟩⟩
/-- a play that comes in -/
theorem view_play {H : Type} {enc : TypeId × Value → H} {W : World} {base : Nat} {v : Value} {d : DataW H} {pl : List MemPlace}
    (hval : Value.okWide Try.prog W .any base 34 v) (h : DataW.Trod enc Try.prog W 0 (fun _ => true) true 34 v d pl) (hw : ∀ y ∈ d.weights Try.prog 34, y ≤ reachBytes) :
    ∃ (p : Pl) (k : PlV) (o : Pn) (u : PnV) (oq : Option Addr) (on oc : Nat), v = .agg #[.int .i64 p.ki, .slice k.pp p.np k.pc, .slice k.tp p.nq k.tc, .slice k.sp p.ns k.sc, .int .u64 p.sd, .int .u64 p.lk, .int .u64 p.en, .int .i64 p.bu, .int .i64 p.fu, .slice u.q o.n u.c, .slice u.q2 o.m u.c2, .slice u.q3 o.l u.c3, .slice oq on oc] ∧ PlAt W p k ∧ RoomyL p ∧ PnAt W o u ∧ RoomyN o := by
  obtain ⟨cs, rfl, hsz⟩ := okWide_struct Try.underlying34 hval
  rw [show Try.prog.cellsOf 34 = 13 from by kernel_rfl] at hsz
  obtain ⟨fuel, hf⟩ := h
  obtain ⟨l, rfl⟩ : ∃ l : List Value, cs = l.toArray := ⟨cs.toList, by simp⟩
  obtain ⟨c0, c1, c2, c3, c4, c5, c6, c7, c8, c9, c10, c11, c12, rfl⟩ := lst13 (by simpa using hsz)
  obtain ⟨xs, n, _, hx0, _, hxl, hx⟩ := DataW.trod_struct Try.underlying34 hf
  obtain ⟨y0, y1, y2, rfl⟩ := lst3 (by simpa using hxl)
  have kp : Try.prog.cellsOf 27 = 9 := by kernel_rfl
  have kt : Try.prog.cellsOf 31 = 3 := by kernel_rfl
  have ks : Try.prog.cellsOf 32 = 1 := by kernel_rfl
  have g0 := hx 0 _ rfl
  have g1 := hx 1 _ rfl
  have g2 := hx 2 _ rfl
  simp [Value.cells, kp, kt, ks] at g0 g1 g2
  simp only [Prod.mk.injEq] at hx0
  obtain ⟨p, k, s0, hP, hR⟩ := view_plc g0 rfl (fun y hy => hw y (by
    rw [hx0.1]
    simp only [DataW.weights, Try.underlying34]
    refine DataW.weights_mem_each (j := 0) (t := 27) (d := y0.1) ?_ rfl y hy
    kernel_rfl))
  obtain ⟨o, u, s1, hO, hN⟩ := view_point g1 rfl (fun y hy => hw y (by
    rw [hx0.1]
    simp only [DataW.weights, Try.underlying34]
    refine DataW.weights_mem_each (j := 1) (t := 31) (d := y1.1) ?_ rfl y hy
    kernel_rfl))
  obtain ⟨oq, on, oc, rfl⟩ : ∃ (oq : Option Addr) (on oc : Nat), c12 = .slice oq on oc := by
    rcases open_slice Try.underlying32 g2 with ⟨hcs, _⟩ | ⟨a, len, cap, m, n', D, Pl, hcs, _, hl, hm, hmm, hy0, hel⟩
    · simp at hcs
      exact ⟨_, _, _, hcs⟩
    · simp at hcs
      exact ⟨_, _, _, hcs⟩
  simp only [List.cons.injEq, and_true] at s0 s1
  obtain ⟨rfl, rfl, rfl, rfl, rfl, rfl, rfl, rfl, rfl⟩ := s0
  obtain ⟨rfl, rfl, rfl⟩ := s1
  exact ⟨p, k, o, u, oq, on, oc, rfl, hP, hR, hO, hN⟩
end Go.Proofs.Ytbcnlnigenpiiaa
