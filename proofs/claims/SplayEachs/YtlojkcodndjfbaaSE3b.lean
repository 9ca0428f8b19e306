import Derived.Test.YtlojkcodndjfbaaSE3
import Derived.Test.YtlojkcodndjfbaaY35
import Derived.Test.YtlojkcodndjfbaaLQuiet
import Derived.Test.YtlojkcodndjfbaaRL0
namespace Go.Proofs.Ytlojkcodndjfbaa
open Go.ChangeShapes Go.WideShapes Go.ChangeAt Go.RowKit
set_option linter.unusedVariables false
set_option linter.unusedSimpArgs false

/-! ### all that lay there as the ranging began stays, but the queue and two boxes -/
variable {B : Bx} {base qb : Nat} {room wb : Int} {N : Nat} {X : Nat → Ev} {sv : Value} {zs s0 : Nat} {Lp : Nat}
def S4 (B : Bx) (qb g0 : Nat) : Nat → Prop := fun k => k = qb ∨ k = g0 ∨ k = B.at_ ∨ k = B.sp
structure FX (B : Bx) (base qb : Nat) (room wb : Int) (N : Nat) (X : Nat → Ev) (sv : Value) (zs s0 : Nat) (W0 : World) (g0 : Nat) (W : World) : Prop where
  ch : Ch (S4 B qb g0) W0 W
  g : ∀ g i j, Sti B base qb room wb N X sv zs s0 g i j W → (g = g0 ∨ W0.heap.size ≤ g)
theorem FX.later {W0 W W' : World} {g0 g i j : Nat} (h : FX B base qb room wb N X sv zs s0 W0 g0 W) (hs : Sti B base qb room wb N X sv zs s0 g i j W) (hb : Below W.heap.size W W') : FX B base qb room wb N X sv zs s0 W0 g0 W' :=
  ⟨h.ch.trans (Ch.below hb), fun g2 i2 j2 h2 => by rw [(h2.one (hs.later hb)).1]; exact h.g g i j hs⟩
theorem FX.step {W0 W W' : World} {g0 : Nat} (h : FX B base qb room wb N X sv zs s0 W0 g0 W) (o : OE B base qb room wb N X sv zs s0 Lp W W') (hL : W0.heap.size ≤ Lp) : FX B base qb room wb N X sv zs s0 W0 g0 W' := by
  obtain ⟨g, g', i, h1, h2, h3, h4, h5⟩ := o
  have hg := h.g g i i h1
  have hz := h.ch.size
  refine ⟨⟨h5.os.trans h.ch.os, h5.tape.trans h.ch.tape, h5.output.trans h.ch.output, Nat.le_trans hz h5.size, fun k hk hs => ?_⟩, fun g2 i2 j2 k2 => ?_⟩
  · refine (h5.block k (by omega) ?_).trans (h.ch.block k hk hs)
    rintro (e | e | e | e | e)
    · exact hs (.inl e)
    · rcases hg with hg | hg
      · exact hs (.inr (.inl (e.trans hg)))
      · omega
    · exact hs (.inr (.inr (.inl e)))
    · exact hs (.inr (.inr (.inr e)))
    · omega
  · rw [(k2.one h2).1]
    rcases h3 with rfl | h3
    · exact hg
    · exact .inr (by omega)
/-- between two rounds -/
structure JJ (B : Bx) (base qb : Nat) (room wb : Int) (N : Nat) (X : Nat → Ev) (sv : Value) (zs s0 Lp : Nat) (W0 : World) (g0 b i : Nat) (W : World) : Prop where
  j : JE B base qb room wb N X sv zs s0 Lp b i W
  z : i ≤ zs
  f : FX B base qb room wb N X sv zs s0 W0 g0 W
theorem JJ.later {W0 W W' : World} {g0 b i : Nat} (h : JJ B base qb room wb N X sv zs s0 Lp W0 g0 b i W) (hb : Below W.heap.size W W') : JJ B base qb room wb N X sv zs s0 Lp W0 g0 b i W' := by
  obtain ⟨g, h1, h2⟩ := h.j.s
  exact ⟨h.j.later hb, h.z, h.f.later h1 hb⟩
/-- a round that goes on -/
def OO (B : Bx) (base qb : Nat) (room wb : Int) (N : Nat) (X : Nat → Ev) (sv : Value) (zs s0 Lp : Nat) (W W' : World) : Prop :=
  OE B base qb room wb N X sv zs s0 Lp W W' ∧ ∃ i : Nat, i ≤ zs ∧ W'.heap[B.at_]? = some (.cells #[.int .i64 (i : Int)] 3 (0, 0))
theorem OO.use {W0 W W' : World} {g0 b i : Nat} (h : OO B base qb room wb N X sv zs s0 Lp W W') (hL : W0.heap.size ≤ Lp) (hj : JJ B base qb room wb N X sv zs s0 Lp W0 g0 b i W) : JJ B base qb room wb N X sv zs s0 Lp W0 g0 b (i + 1) W' ∧ W'.heap[b]? = W.heap[b]? ∧ W.heap.size ≤ W'.heap.size := by
  obtain ⟨h1, i2, h2, h3⟩ := h
  obtain ⟨k1, k2, k3⟩ := h1.use hj.j
  obtain ⟨g, q1, q2⟩ := k1.s
  have e := q1.at_
  rw [h3] at e
  simp at e
  exact ⟨⟨k1, by omega, hj.f.step h1 hL⟩, k2, k3⟩
theorem OO.but {W W1 W2 : World} (hx : ¬ B.has Lp) (hq : Lp ≠ qb) (h : OO B base qb room wb N X sv zs s0 Lp W W1) (hb : But Lp W1 W2) : OO B base qb room wb N X sv zs s0 Lp W W2 := by
  obtain ⟨h1, i, h2, h3⟩ := h
  obtain ⟨b1, b2, b3, b4, b5, b6, b7, b8, b9⟩ := B.h1
  exact ⟨h1.but hx hq hb, i, h2, (hb.2.2 _ fun e => hx (by rw [← e]; exact b7)).trans h3⟩
/-- the round that leaves -/
def OX (B : Bx) (base qb : Nat) (room wb : Int) (N : Nat) (X : Nat → Ev) (sv : Value) (zs s0 Lp : Nat) (c : Code) (W W' : World) : Prop :=
  c = .exit 2 ∧ OE B base qb room wb N X sv zs s0 Lp W W' ∧ W'.heap[B.at_]? = some (.cells #[.int .i64 ((zs + 1 : Nat) : Int)] 3 (0, 0))
theorem OX.but {c : Code} {W W1 W2 : World} (hx : ¬ B.has Lp) (hq : Lp ≠ qb) (h : OX B base qb room wb N X sv zs s0 Lp c W W1) (hb : But Lp W1 W2) : OX B base qb room wb N X sv zs s0 Lp c W W2 := by
  obtain ⟨h0, h1, h3⟩ := h
  obtain ⟨b1, b2, b3, b4, b5, b6, b7, b8, b9⟩ := B.h1
  exact ⟨h0, h1.but hx hq hb, (hb.2.2 _ fun e => hx (by rw [← e]; exact b7)).trans h3⟩
/-- the ranging's end -/
structure ET (B : Bx) (base qb : Nat) (room wb : Int) (N : Nat) (X : Nat → Ev) (sv : Value) (zs s0 Lp : Nat) (W0 : World) (g0 : Nat) (g i : Nat) (W : World) : Prop where
  s : Sti B base qb room wb N X sv zs s0 g i i W
  e : i = N ∨ i = zs + 1
  l : i ≤ N
  gl : g ≠ Lp
  f : FX B base qb room wb N X sv zs s0 W0 g0 W
theorem JJ.et {W0 W : World} {g0 b : Nat} (h : JJ B base qb room wb N X sv zs s0 Lp W0 g0 b N W) : ∃ g i, ET B base qb room wb N X sv zs s0 Lp W0 g0 g i W := by
  obtain ⟨g, h1, h2, h3⟩ := h.j.s
  exact ⟨g, N, h1, .inl rfl, Nat.le_refl _, h3, h.f⟩
theorem OX.et {c : Code} {W0 W W' : World} {g0 b i : Nat} (h : OX B base qb room wb N X sv zs s0 Lp c W W') (hL : W0.heap.size ≤ Lp) (hi : i < N) (hj : JJ B base qb room wb N X sv zs s0 Lp W0 g0 b i W) : c = .exit 2 ∧ ∃ g i, ET B base qb room wb N X sv zs s0 Lp W0 g0 g i W' := by
  obtain ⟨h0, h1, h3⟩ := h
  obtain ⟨k1, k2, k3⟩ := h1.use hj.j
  obtain ⟨g, q1, q2, q3⟩ := k1.s
  have e := q1.at_
  rw [h3] at e
  simp at e
  exact ⟨h0, g, i + 1, q1, .inr (by omega), hi, q3, hj.f.step h1 hL⟩
theorem ET.but {W0 W W' : World} {g0 g i : Nat} (h : ET B base qb room wb N X sv zs s0 Lp W0 g0 g i W) (hx : ¬ B.has Lp) (hq : Lp ≠ qb) (hL : W0.heap.size ≤ Lp) (hb : But Lp W W') : ET B base qb room wb N X sv zs s0 Lp W0 g0 g i W' := by
  have hc : Ch (fun k => k = Lp) W W' := ⟨hb.1.1, hb.1.2.1, hb.1.2.2, by rw [hb.2.1]; exact Nat.le_refl _, fun k _ hk => hb.2.2 k hk⟩
  have hs := h.s.keep hc (fun k hk e => hx (by rw [← show k = Lp from e]; exact hk)) (fun e => hq e.symm) h.gl
  refine ⟨hs, h.e, h.l, h.gl, ⟨⟨hb.1.1.trans h.f.ch.os, hb.1.2.1.trans h.f.ch.tape, hb.1.2.2.trans h.f.ch.output, by rw [hb.2.1]; exact h.f.ch.size, fun k hk hk2 => (hb.2.2 k (by omega)).trans (h.f.ch.block k hk hk2)⟩, fun g2 i2 j2 k2 => ?_⟩⟩
  rw [(k2.one hs).1]
  exact h.f.g g i i h.s
theorem QS.mono {g : Nat} {wb2 : Int} {L : List Ev} {W : World} (h : QS base qb g room wb L W) (hw : wb ≤ wb2) : QS base qb g room wb2 L W := by
  obtain ⟨c, n, A, t, fl, root, work, h1, h2, h3⟩ := h
  exact ⟨c, n, A, t, fl, root, work, h1, h2, by omega⟩
/-- between two turns -/
structure TI (w : World) (base qb bx : Nat) (room wb0 : Int) (sv : Value) (zs SC ST AN QX SP r : Nat) (ds : List Nat) (g : Nat) (L : List Ev) (s : Nat) (W : World) : Prop where
  q : QS base qb g room (wb0 + 140000000 * (r : Int)) L W
  hs : s ≤ 8192 * r
  sp : W.heap[SP]? = some (.cells #[.int .i64 (s : Int)] 3 (0, 0))
  st : W.heap[ST]? = some (.cells #[.int .i64 (zs : Int)] 3 (0, 0))
  sc : W.heap[SC]? = some (.cells #[sv] 28 (0, 0))
  an : W.heap[AN]? = some (.cells #[.bool false] 4 (0, 0))
  qx : W.heap[QX]? = some (.cells #[.pointer (some ⟨qb, 0, none⟩)] 29 (0, 0))
  hb : W.heap[bx]? = some (.cells #[.pointer (some ⟨qb, 0, none⟩)] 29 (0, 0))
  dd : ∀ D ∈ ds, W.heap[D]? = some (.deferred (some [])) ∧ D ≠ qb ∧ D ≠ g ∧ w.heap.size ≤ D
  nd : ds.Nodup
  dr : ds.length = r
  ne : ∀ k, k = SC ∨ k = ST ∨ k = AN ∨ k = QX ∨ k = SP ∨ k = bx → k ≠ qb ∧ k ≠ g
  bel : Below w.heap.size w W
theorem TI.next {w : World} {bx : Nat} {wb0 : Int} {SC ST AN QX SP r : Nat} {ds : List Nat} {g0 g i : Nat} {L L' : List Ev} {s : Nat} {W W0 W' W2 : World} (h : TI w base qb bx room wb0 sv zs SC ST AN QX SP r ds g0 L s W) (hc : Ch (S2 qb g0) W W0) (he : ET B base qb room (wb0 + 140000000 * (r : Int)) N X sv zs s Lp W0 g0 g i W') (hN : N ≤ 8192) (hB : B.sc = SC ∧ B.st = ST ∧ B.an = AN ∧ B.qx = QX ∧ B.sp = SP ∧ W.heap.size ≤ B.at_ ∧ B.D = W0.heap.size) (hbx : bx ≠ SP) (hbase : w.heap.size ≤ base) (hsp : w.heap.size ≤ SP) (hq : QS base qb g room (wb0 + 140000000 * (r : Int) + 16384 * (i : Int) + 16384) L' W2) (hc2 : Ch (S2 qb g) W' W2) : TI w base qb bx room wb0 sv zs SC ST AN QX SP (r + 1) (B.D :: ds) g L' (s + i) W2 := by
  obtain ⟨e1, e2, e3, e4, e5, e6, e7⟩ := hB
  subst e1 e2 e3 e4 e5
  obtain ⟨b1, b2, b3, b4, b5, b6, b7, b8, b9⟩ := B.h1
  have hsti := he.s
  have hz := h.bel.size
  have hz0 := hc.size
  have hzf := he.f.ch.size
  have hgg := he.f.g g i i hsti
  have hi := he.l
  have hlt0 := h.q.lt
  have hlt2 := hq.lt
  have f2 : ∀ k, B.has k → W2.heap[k]? = W'.heap[k]? := fun k hk => hc2.block k (hsti.lt k hk) (fun e => by
    rcases e with e | e
    · exact (hsti.ne k hk).1 e
    · exact (hsti.ne k hk).2 e)
  have old : ∀ k, k < W.heap.size → k ≠ qb → k ≠ g0 → k ≠ B.sp → W2.heap[k]? = W.heap[k]? ∧ k ≠ g := fun k hk k1 k2 k3 => by
    have kg : k ≠ g := by
      rcases hgg with rfl | hgg
      · exact k2
      · omega
    refine ⟨(hc2.block k (by omega) ?_).trans ((he.f.ch.block k (by omega) ?_).trans (hc.block k hk ?_)), kg⟩
    · rintro (e | e)
      · exact k1 e
      · exact kg e
    · rintro (e | e | e | e)
      · exact k1 e
      · exact k2 e
      · omega
      · exact k3 e
    · rintro (e | e)
      · exact k1 e
      · exact k2 e
  have hbn := h.ne bx (by simp)
  have hbxs := old bx (blk_lt h.hb) hbn.1 hbn.2 hbx
  refine ⟨hq.mono (by omega), by have := h.hs; omega, (f2 _ b5).trans hsti.sp, (f2 _ b2).trans hsti.st, (f2 _ b1).trans hsti.sc, (f2 _ b3).trans hsti.an, (f2 _ b4).trans hsti.qx, hbxs.1.trans h.hb, ?_, ?_, by simp [h.dr], ?_, ?_⟩
  · intro D hD
    rcases List.mem_cons.1 hD with rfl | hD
    · exact ⟨(f2 _ b9).trans hsti.d, (hsti.ne _ b9).1, (hsti.ne _ b9).2, by omega⟩
    · obtain ⟨d1, d2, d3, d4⟩ := h.dd D hD
      have d5 : D ≠ B.sp := by
        rintro rfl
        have := h.sp
        rw [d1] at this
        simp at this
      obtain ⟨o1, o2⟩ := old D (blk_lt d1) d2 d3 d5
      exact ⟨o1.trans d1, d2, o2, d4⟩
  · refine List.nodup_cons.2 ⟨fun hD => ?_, h.nd⟩
    have := blk_lt (h.dd _ hD).1
    omega
  · rintro k (rfl | rfl | rfl | rfl | rfl | rfl)
    · exact hsti.ne _ b1
    · exact hsti.ne _ b2
    · exact hsti.ne _ b3
    · exact hsti.ne _ b4
    · exact hsti.ne _ b5
    · exact ⟨hbn.1, hbxs.2⟩
  · refine ((h.bel.trans (hc.toBelow hz ?_)).trans (he.f.ch.toBelow (by omega) ?_)).trans (hc2.toBelow (by omega) ?_)
    · rintro k (rfl | rfl) <;> omega
    · rintro k (rfl | rfl | rfl | rfl) <;> omega
    · rintro k (rfl | rfl) <;> omega
end Go.Proofs.Ytlojkcodndjfbaa
