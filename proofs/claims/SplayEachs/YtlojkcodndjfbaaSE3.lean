import Derived.Test.YtlojkcodndjfbaaSE2
namespace Go.Proofs.Ytlojkcodndjfbaa
open Go.ChangeShapes Go.WideShapes Go.ChangeAt Go.RowKit
set_option linter.unusedVariables false
set_option linter.unusedSimpArgs false

/-! ### what stands between two rounds, and what a round does -/
variable {B : Bx} {base qb : Nat} {room wb : Int} {N : Nat} {X : Nat → Ev} {sv : Value} {zs s0 : Nat} {Lp : Nat}
/-- the law's memory, the iterator's own row b apart from it, the loop's block too -/
structure JE (B : Bx) (base qb : Nat) (room wb : Int) (N : Nat) (X : Nat → Ev) (sv : Value) (zs s0 Lp : Nat) (b i : Nat) (W : World) : Prop where
  s : ∃ g, Sti B base qb room wb N X sv zs s0 g i i W ∧ g ≠ b ∧ g ≠ Lp
  q : b ≠ qb
  x : ¬ B.has b
  l : b ≠ Lp
  lt : b < W.heap.size
  ll : Lp < W.heap.size
theorem JE.later {b i : Nat} {W W' : World} (h : JE B base qb room wb N X sv zs s0 Lp b i W) (hb : Below W.heap.size W W') : JE B base qb room wb N X sv zs s0 Lp b i W' := by
  obtain ⟨g, h1, h2⟩ := h.s
  exact ⟨⟨g, h1.later hb, h2⟩, h.q, h.x, h.l, Nat.lt_of_lt_of_le h.lt hb.size, Nat.lt_of_lt_of_le h.ll hb.size⟩
/-- a round: from i to i + 1 (the event is X i) -/
def OE (B : Bx) (base qb : Nat) (room wb : Int) (N : Nat) (X : Nat → Ev) (sv : Value) (zs s0 Lp : Nat) (W W' : World) : Prop :=
  ∃ g g' i, Sti B base qb room wb N X sv zs s0 g i i W ∧ Sti B base qb room wb N X sv zs s0 g' (i + 1) (i + 1) W' ∧ (g' = g ∨ W.heap.size ≤ g') ∧ g' ≠ Lp ∧ Ch (fun k => k = qb ∨ k = g ∨ k = B.at_ ∨ k = B.sp ∨ k = Lp) W W'
theorem OE.but {W W1 W2 : World} (hx : ¬ B.has Lp) (hq : Lp ≠ qb) (h : OE B base qb room wb N X sv zs s0 Lp W W1) (hb : But Lp W1 W2) : OE B base qb room wb N X sv zs s0 Lp W W2 := by
  obtain ⟨g, g', i, h1, h2, h3, h4, h5⟩ := h
  have hc : Ch (fun k => k = Lp) W1 W2 := ⟨hb.1.1, hb.1.2.1, hb.1.2.2, by rw [hb.2.1]; exact Nat.le_refl _, fun k _ hk => hb.2.2 k hk⟩
  exact ⟨g, g', i, h1, h2.keep hc (fun k hk e => hx (by rw [← show k = Lp from e]; exact hk)) (fun e => hq e.symm) h4, h3, h4, h5.trans (hc.mono fun k e => .inr (.inr (.inr (.inr e))))⟩
theorem OE.use {b i : Nat} {W W' : World} (h : OE B base qb room wb N X sv zs s0 Lp W W') (hj : JE B base qb room wb N X sv zs s0 Lp b i W) : JE B base qb room wb N X sv zs s0 Lp b (i + 1) W' ∧ W'.heap[b]? = W.heap[b]? ∧ W.heap.size ≤ W'.heap.size := by
  obtain ⟨g, g', i', h1, h2, h3, h4, h5⟩ := h
  obtain ⟨g2, k1, k2, k3⟩ := hj.s
  obtain ⟨rfl, rfl⟩ := h1.one k1
  obtain ⟨b1, b2, b3, b4, b5, b6, b7, b8, b9⟩ := B.h1
  refine ⟨⟨⟨g', h2, ?_, h4⟩, hj.q, hj.x, hj.l, Nat.lt_of_lt_of_le hj.lt h5.size, Nat.lt_of_lt_of_le hj.ll h5.size⟩, h5.block b hj.lt ?_, h5.size⟩
  · rcases h3 with rfl | h3
    · exact k2
    · have := hj.lt
      omega
  · rintro (e | e | e | e | e)
    · exact hj.q e
    · exact k2 e.symm
    · exact hj.x (by rw [e]; exact b7)
    · exact hj.x (by rw [e]; exact b5)
    · exact hj.l e
/-- what a round may change lies above the call's beginning -/
theorem OE.below {W W' w0 : World} (h : OE B base qb room wb N X sv zs s0 Lp W W') (h0 : Below base w0 W) (hbase : base ≤ W.heap.size) (hlp : base ≤ Lp) (ha : base ≤ B.at_) (hs : base ≤ B.sp) : Below base w0 W' := by
  obtain ⟨g, g', i, h1, h2, h3, h4, h5⟩ := h
  obtain ⟨L', hq⟩ := h1.q
  have hl := hq.lt
  refine h0.trans (h5.toBelow hbase ?_)
  rintro k (rfl | rfl | rfl | rfl | rfl)
  · exact hl.1.2
  · exact hl.2.2
  · exact ha
  · exact hs
  · exact hlp
end Go.Proofs.Ytlojkcodndjfbaa
