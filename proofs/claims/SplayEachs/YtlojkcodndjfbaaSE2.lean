import Derived.Test.YtlojkcodndjfbaaSE1
namespace Go.Proofs.Ytlojkcodndjfbaa
open Go.ChangeShapes Go.WideShapes Go.ChangeAt Go.RowKit
set_option linter.unusedVariables false
set_option linter.unusedSimpArgs false

/-! ### the law's memory between two rounds -/
structure Bx where
  (sc st an qx sp al at_ ra D : Nat)
def Bx.has (B : Bx) (k : Nat) : Prop := k = B.sc ∨ k = B.st ∨ k = B.an ∨ k = B.qx ∨ k = B.sp ∨ k = B.al ∨ k = B.at_ ∨ k = B.ra ∨ k = B.D
/-- the two boxes that a round writes are no others -/
structure Bx.Ok (B : Bx) : Prop where
  a : B.at_ ≠ B.sc ∧ B.at_ ≠ B.st ∧ B.at_ ≠ B.an ∧ B.at_ ≠ B.qx ∧ B.at_ ≠ B.sp ∧ B.at_ ≠ B.al ∧ B.at_ ≠ B.ra ∧ B.at_ ≠ B.D
  s : B.sp ≠ B.sc ∧ B.sp ≠ B.st ∧ B.sp ≠ B.an ∧ B.sp ≠ B.qx ∧ B.sp ≠ B.al ∧ B.sp ≠ B.ra ∧ B.sp ≠ B.D
structure Sti (B : Bx) (base qb : Nat) (room wb : Int) (N : Nat) (X : Nat → Ev) (sv : Value) (zs s0 g i j : Nat) (W : World) : Prop where
  q : ∃ L', QS base qb g room (wb + 16384 * (j : Int)) L' W
  at_ : W.heap[B.at_]? = some (.cells #[.int .i64 (i : Int)] 3 (0, 0))
  sp : W.heap[B.sp]? = some (.cells #[.int .i64 ((s0 + i : Nat) : Int)] 3 (0, 0))
  st : W.heap[B.st]? = some (.cells #[.int .i64 (zs : Int)] 3 (0, 0))
  sc : W.heap[B.sc]? = some (.cells #[sv] 28 (0, 0))
  an : W.heap[B.an]? = some (.cells #[.bool false] 4 (0, 0))
  qx : W.heap[B.qx]? = some (.cells #[.pointer (some ⟨qb, 0, none⟩)] 29 (0, 0))
  al : W.heap[B.al]? = some (.cells #[.slice (some ⟨B.ra, 0, none⟩) N N] 22 (0, 0))
  ra : EvsL W B.ra N X
  d : W.heap[B.D]? = some (.deferred (some []))
  ne : ∀ k, B.has k → k ≠ qb ∧ k ≠ g
variable {B : Bx} {base qb : Nat} {room wb : Int} {N : Nat} {X : Nat → Ev} {sv : Value} {zs s0 g i j : Nat} {W W' : World}
theorem Bx.h1 (B : Bx) : B.has B.sc ∧ B.has B.st ∧ B.has B.an ∧ B.has B.qx ∧ B.has B.sp ∧ B.has B.al ∧ B.has B.at_ ∧ B.has B.ra ∧ B.has B.D := by
  unfold Bx.has
  refine ⟨?_, ?_, ?_, ?_, ?_, ?_, ?_, ?_, ?_⟩ <;> simp
theorem blk_lt {w : World} {k : Nat} {o : Obj} (h : w.heap[k]? = some o) : k < w.heap.size := (Array.getElem?_eq_some_iff.1 h).1
theorem Sti.lt (h : Sti B base qb room wb N X sv zs s0 g i j W) : ∀ k, B.has k → k < W.heap.size := fun k hk => by
  rcases hk with rfl | rfl | rfl | rfl | rfl | rfl | rfl | rfl | rfl
  · exact blk_lt h.sc
  · exact blk_lt h.st
  · exact blk_lt h.an
  · exact blk_lt h.qx
  · exact blk_lt h.sp
  · exact blk_lt h.al
  · exact blk_lt h.at_
  · exact h.ra.1
  · exact blk_lt h.d
theorem Sti.keep (h : Sti B base qb room wb N X sv zs s0 g i j W) {S : Nat → Prop} (hc : Ch S W W') (hb : ∀ k, B.has k → ¬ S k) (h1 : ¬ S qb) (h2 : ¬ S g) : Sti B base qb room wb N X sv zs s0 g i j W' := by
  obtain ⟨b1, b2, b3, b4, b5, b6, b7, b8, b9⟩ := B.h1
  have f : ∀ k, B.has k → W'.heap[k]? = W.heap[k]? := fun k hk => hc.block k (h.lt k hk) (hb k hk)
  obtain ⟨L', hq⟩ := h.q
  exact ⟨⟨L', hq.keep hc h1 h2⟩, (f _ b7).trans h.at_, (f _ b5).trans h.sp, (f _ b2).trans h.st, (f _ b1).trans h.sc, (f _ b3).trans h.an, (f _ b4).trans h.qx, (f _ b6).trans h.al, evsKeep h.ra hc.size (f _ b8), (f _ b9).trans h.d, h.ne⟩
theorem Sti.later (h : Sti B base qb room wb N X sv zs s0 g i j W) (hb : Below W.heap.size W W') : Sti B base qb room wb N X sv zs s0 g i j W' :=
  h.keep (S := fun _ => False) (Ch.below hb) (fun _ _ e => e) (fun e => e) (fun e => e)
/-- a call of act: only the queue's blocks -/
theorem Sti.acted (h : Sti B base qb room wb N X sv zs s0 g i j W) {g' : Nat} {L' : List Ev} (hq : QS base qb g' room (wb + 16384 * (j : Int) + 16384) L' W') (hg : g' = g ∨ W.heap.size ≤ g') (hc : Ch (S2 qb g) W W') : Sti B base qb room wb N X sv zs s0 g' i (j + 1) W' := by
  obtain ⟨b1, b2, b3, b4, b5, b6, b7, b8, b9⟩ := B.h1
  have f : ∀ k, B.has k → W'.heap[k]? = W.heap[k]? := fun k hk => hc.block k (h.lt k hk) (fun e => by
    rcases e with e | e
    · exact (h.ne k hk).1 e
    · exact (h.ne k hk).2 e)
  refine ⟨⟨L', by have e : wb + 16384 * (((j + 1 : Nat) : Nat) : Int) = wb + 16384 * (j : Int) + 16384 := by omega
                  rw [e]; exact hq⟩, (f _ b7).trans h.at_, (f _ b5).trans h.sp, (f _ b2).trans h.st, (f _ b1).trans h.sc, (f _ b3).trans h.an, (f _ b4).trans h.qx, (f _ b6).trans h.al, evsKeep h.ra hc.size (f _ b8), (f _ b9).trans h.d, fun k hk => ⟨(h.ne k hk).1, ?_⟩⟩
  rcases hg with rfl | hg
  · exact (h.ne k hk).2
  · have := h.lt k hk
    omega
theorem Sti.idle (h : Sti B base qb room wb N X sv zs s0 g i j W) : Sti B base qb room wb N X sv zs s0 g i (j + 1) W := by
  obtain ⟨L', c, n, A, t, fl, root, work, hq, hL, hw⟩ := h.q
  exact ⟨⟨L', c, n, A, t, fl, root, work, hq, hL, by omega⟩, h.at_, h.sp, h.st, h.sc, h.an, h.qx, h.al, h.ra, h.d, h.ne⟩
/-- the queue's cells name its row, and the box tells how far the rounds are -/
theorem Sti.one {g2 i2 j2 : Nat} (h : Sti B base qb room wb N X sv zs s0 g i j W) (h2 : Sti B base qb room wb N X sv zs s0 g2 i2 j2 W) : g = g2 ∧ i = i2 := by
  obtain ⟨L1, c1, n1, A1, t1, f1, r1, k1, q1, _⟩ := h.q
  obtain ⟨L2, c2, n2, A2, t2, f2, r2, k2, q2, _⟩ := h2.q
  have e1 := q1.q.cells.1
  have e2 := q2.q.cells.1
  rw [e1] at e2
  have e3 := h.at_
  rw [h2.at_] at e3
  simp at e2 e3
  exact ⟨e2.1, by omega⟩
theorem set_other {w : World} {b k : Nat} (v : Value) (h : k ≠ b) : (w.setCell ⟨b, 0, none⟩ v).heap[k]? = w.heap[k]? := Below.heap_setCell _ _ _ _ fun e => h e
/-- step++, at++ -/
theorem Sti.next (hB : B.Ok) (h : Sti B base qb room wb N X sv zs s0 g i j W) : Sti B base qb room wb N X sv zs s0 g (i + 1) j ((W.setCell ⟨B.sp, 0, none⟩ (.int .i64 ((s0 + i : Nat) + 1))).setCell ⟨B.at_, 0, none⟩ (.int .i64 ((i : Int) + 1))) := by
  obtain ⟨a1, a2, a3, a4, a5, a6, a7, a8⟩ := hB.a
  obtain ⟨s1, s2, s3, s4, s5, s6, s7⟩ := hB.s
  obtain ⟨b1, b2, b3, b4, b5, b6, b7, b8, b9⟩ := B.h1
  obtain ⟨W2, hW2⟩ : ∃ W2, (W.setCell ⟨B.sp, 0, none⟩ (.int .i64 ((s0 + i : Nat) + 1))).setCell ⟨B.at_, 0, none⟩ (.int .i64 ((i : Int) + 1)) = W2 := ⟨_, rfl⟩
  have hc : Ch (fun k => k = B.sp ∨ k = B.at_) W W2 := by
    rw [← hW2]
    exact (Ch.set _ W B.sp 0 _ (.inl rfl)).trans (Ch.set _ _ B.at_ 0 _ (.inr rfl))
  have f : ∀ k, k ≠ B.sp → k ≠ B.at_ → W2.heap[k]? = W.heap[k]? := fun k h1 h2 => by
    rw [← hW2]
    exact (set_other _ h2).trans (set_other _ h1)
  have hsp : W2.heap[B.sp]? = some (.cells #[.int .i64 ((s0 + (i + 1) : Nat) : Int)] 3 (0, 0)) := by
    rw [← hW2]
    refine (set_other _ (fun e => a5 e.symm)).trans ?_
    rw [setCell_block W B.sp 0 _ h.sp]
    have e : ((s0 + i : Nat) : Int) + 1 = ((s0 + (i + 1) : Nat) : Int) := by omega
    rw [e]
    rfl
  have hat : W2.heap[B.at_]? = some (.cells #[.int .i64 ((i + 1 : Nat) : Int)] 3 (0, 0)) := by
    rw [← hW2]
    rw [setCell_block _ B.at_ 0 _ ((set_other _ a5).trans h.at_)]
    rfl
  have nq : ∀ k, B.has k → k ≠ qb ∧ k ≠ g := h.ne
  obtain ⟨L', hq⟩ := h.q
  rw [hW2]
  refine ⟨⟨L', hq.keep hc ?_ ?_⟩, hat, hsp, (f _ s2.symm a2.symm).trans h.st, (f _ s1.symm a1.symm).trans h.sc, (f _ s3.symm a3.symm).trans h.an, (f _ s4.symm a4.symm).trans h.qx, (f _ s5.symm a6.symm).trans h.al, evsKeep h.ra hc.size (f _ s6.symm a7.symm), (f _ s7.symm a8.symm).trans h.d, h.ne⟩
  · rintro (e | e)
    · exact (nq _ b5).1 e.symm
    · exact (nq _ b7).1 e.symm
  · rintro (e | e)
    · exact (nq _ b5).2 e.symm
    · exact (nq _ b7).2 e.symm
end Go.Proofs.Ytlojkcodndjfbaa
