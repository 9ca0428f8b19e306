import Derived.Test.YtagchghhpggnlaaGreatZOP3
import Derived.Test.YtagchghhpggnlaaGreatZFS5
namespace Go.Proofs.YtagchghhpggnlaaGreat
open Go.ChangeShapes Go.WideShapes Go.ChangeAt Go.RowKit
set_option linter.unusedVariables false
set_option linter.unusedSimpArgs false

/-! ### a point, plainly, and where its lists lie -/
structure Pn where
  n : Nat
  A : Nat → Sa
  K : Nat → Nat → Int
  m : Nat
  X : Nat → Se
  l : Nat
  Z : Nat → Se
structure PnV where
  q : Option Addr
  c : Nat
  q2 : Option Addr
  c2 : Nat
  q3 : Option Addr
  c3 : Nat
def PnAt (W : World) (o : Pn) (v : PnV) : Prop := (∃ C, SaEq o.n o.A C ∧ SsAt W v.q o.n C o.K) ∧ SIn W v.q2 o.m o.X ∧ SIn W v.q3 o.l o.Z
theorem PnAt.below {W W' : World} {o : Pn} {v : PnV} (h : PnAt W o v) (hb : Below W.heap.size W W') : PnAt W' o v := by
  obtain ⟨⟨C, h1, h2⟩, h3, h4⟩ := h
  exact ⟨⟨C, h1, h2.below hb⟩, h3.below hb, h4.below hb⟩
structure RoomyN (o : Pn) : Prop where
  n : o.n * 40 ≤ 140737488355328
  w : ∀ j, j < o.n → (o.A j).n ≤ 17592186044416
  m : o.m ≤ 2932031007402
  l : o.l ≤ 2932031007402
theorem SaEq.trans {n : Nat} {A C D : Nat → Sa} (h : SaEq n A C) (h' : SaEq n C D) : SaEq n A D := fun j hj => ⟨(h' j hj).1.trans (h j hj).1, (h' j hj).2.1.trans (h j hj).2.1, (h' j hj).2.2.trans (h j hj).2.2⟩
theorem StRow.kb {S : Nat → Prop} {W W' : World} {b : Nat} {v : Value} {n : Nat} {A : Nat → Sa} {K : Nat → Nat → Int} (h : StRow W b v n A K) (hk : Kb S W W') (hs : ∀ k, b ≤ k → ¬ S k) : StRow W' b v n A K :=
  ⟨Own.far h.row fun k hk9 => hk.block k (Own.lt h.row k hk9).2 (hs k (Own.lt h.row k hk9).1), fun j hj => ⟨(h.wds j hj).1.kb hk (fun g o e => hs g ((h.wds j hj).2 g o e).1), (h.wds j hj).2.kept hk.size⟩⟩
theorem StRow.later {W W' : World} {b : Nat} {v : Value} {n : Nat} {A : Nat → Sa} {K : Nat → Nat → Int} (h : StRow W b v n A K) (hb : Below W.heap.size W W') : StRow W' b v n A K :=
  h.kb (S := fun _ => False) (Kb.below hb) (fun _ _ e => e)
theorem SRow.kb {S : Nat → Prop} {W W' : World} {b g n c : Nat} {X : Nat → Se} (h : SRow W b g n c X) (hk : Kb S W W') (hs : ∀ k, b ≤ k → ¬ S k) : SRow W' b g n c X := Own.far h fun k hk9 => hk.block k (Own.lt h k hk9).2 (hs k (Own.lt h k hk9).1)
theorem own_kb {S : Nat → Prop} {W W' : World} {b : Nat} {t : TypeId} {s n : Nat} {v : Value} {F : Nat → Value} (h : Own W b t s v n F) (hk : Kb S W W') (hs : ∀ k, b ≤ k → ¬ S k) : Own W' b t s v n F := Own.far h fun k hk9 => hk.block k (Own.lt h k hk9).2 (hs k (Own.lt h k hk9).1)
/-- a point in memory of the call's own -/
def PnNew (W : World) (b : Nat) (o : Pn) (v : PnV) : Prop := (∃ C, SaEq o.n o.A C ∧ StRow W b (.slice v.q o.n v.c) o.n C o.K) ∧ Own W b 39 6 (.slice v.q2 o.m v.c2) o.m (seF o.X) ∧ Own W b 39 6 (.slice v.q3 o.l v.c3) o.l (seF o.Z)
theorem PnNew.at {W : World} {b : Nat} {o : Pn} {v : PnV} (h : PnNew W b o v) : PnAt W o v := by
  obtain ⟨⟨C, h1, h2⟩, h3, h4⟩ := h
  exact ⟨⟨C, h1, h2.ss⟩, own_sin0 h3, own_sin0 h4⟩
theorem PnNew.kb {S : Nat → Prop} {W W' : World} {b : Nat} {o : Pn} {v : PnV} (h : PnNew W b o v) (hk : Kb S W W') (hs : ∀ k, b ≤ k → ¬ S k) : PnNew W' b o v := by
  obtain ⟨⟨C, h1, h2⟩, h3, h4⟩ := h
  exact ⟨⟨C, h1, h2.kb hk hs⟩, own_kb h3 hk hs, own_kb h4 hk hs⟩
theorem StRow.lower {W : World} {b b' : Nat} {v : Value} {n : Nat} {A : Nat → Sa} {K : Nat → Nat → Int} (h : StRow W b v n A K) (hb : b' ≤ b) : StRow W b' v n A K :=
  ⟨h.row.lower hb, fun j hj => ⟨(h.wds j hj).1, fun g o e => ⟨Nat.le_trans hb ((h.wds j hj).2 g o e).1, ((h.wds j hj).2 g o e).2⟩⟩⟩
theorem SIn.cin {W : World} {p : Option Addr} {n : Nat} {X : Nat → Se} (h : SIn W p n X) : CIn W p n 6 (seF X) := h
theorem KPT3 {W : World} {g b o1 o2 o3 : Nat} {x y z x1 x2 x3 : Value} (h1 : b ≠ g) (h : W.cell? ⟨b, 0, none⟩ = some x ∧ W.cell? ⟨b, 1, none⟩ = some y ∧ W.cell? ⟨b, 2, none⟩ = some z) : (((W.setCell ⟨g, o1, none⟩ x1).setCell ⟨g, o2, none⟩ x2).setCell ⟨g, o3, none⟩ x3).cell? ⟨b, 0, none⟩ = some x ∧ (((W.setCell ⟨g, o1, none⟩ x1).setCell ⟨g, o2, none⟩ x2).setCell ⟨g, o3, none⟩ x3).cell? ⟨b, 1, none⟩ = some y ∧ (((W.setCell ⟨g, o1, none⟩ x1).setCell ⟨g, o2, none⟩ x2).setCell ⟨g, o3, none⟩ x3).cell? ⟨b, 2, none⟩ = some z := by
  have key : (((W.setCell ⟨g, o1, none⟩ x1).setCell ⟨g, o2, none⟩ x2).setCell ⟨g, o3, none⟩ x3).heap[b]? = W.heap[b]? := by
    rw [Below.heap_setCell _ _ _ _ h1, Below.heap_setCell _ _ _ _ h1, Below.heap_setCell _ _ _ _ h1]
  exact ⟨(World.cell?_of_block key).trans h.1, (World.cell?_of_block key).trans h.2.1, (World.cell?_of_block key).trans h.2.2⟩
end Go.Proofs.YtagchghhpggnlaaGreat
namespace Go.Proofs.YtagchghhpggnlaaGreat
open Go.ChangeShapes Go.WideShapes Go.ChangeAt Go.RowKit
set_option linter.unusedVariables false
set_option linter.unusedSimpArgs false

theorem KPS3 {W : World} {g b o1 o2 o3 : Nat} {x y z x1 x2 x3 : Value} (h1 : b ≠ g) (h : W.cell? ⟨b, 5, none⟩ = some x ∧ W.cell? ⟨b, 6, none⟩ = some y ∧ W.cell? ⟨b, 7, none⟩ = some z) : (((W.setCell ⟨g, o1, none⟩ x1).setCell ⟨g, o2, none⟩ x2).setCell ⟨g, o3, none⟩ x3).cell? ⟨b, 5, none⟩ = some x ∧ (((W.setCell ⟨g, o1, none⟩ x1).setCell ⟨g, o2, none⟩ x2).setCell ⟨g, o3, none⟩ x3).cell? ⟨b, 6, none⟩ = some y ∧ (((W.setCell ⟨g, o1, none⟩ x1).setCell ⟨g, o2, none⟩ x2).setCell ⟨g, o3, none⟩ x3).cell? ⟨b, 7, none⟩ = some z := by
  have key : (((W.setCell ⟨g, o1, none⟩ x1).setCell ⟨g, o2, none⟩ x2).setCell ⟨g, o3, none⟩ x3).heap[b]? = W.heap[b]? := by
    rw [Below.heap_setCell _ _ _ _ h1, Below.heap_setCell _ _ _ _ h1, Below.heap_setCell _ _ _ _ h1]
  exact ⟨(World.cell?_of_block key).trans h.1, (World.cell?_of_block key).trans h.2.1, (World.cell?_of_block key).trans h.2.2⟩
/-- a run lies there: its programs, its numbers, its point -/
structure SimAt (W : World) (sb : Nat) (p : Pl) (o : Pn) : Prop where
  ex : ∃ (pq : Option Addr) (pc : Nat) (U : Nat → PgV) (x : PnV), W.heap[sb]? = some (.cells #[.slice pq p.nq pc, .int .u64 p.lk, .int .u64 p.en, .int .i64 p.bu, .int .i64 p.fu, .slice x.q o.n x.c, .slice x.q2 o.m x.c2, .slice x.q3 o.l x.c3, .int .i64 0] 105 (0, 0)) ∧ PsAt W pq p.nq (fun j => p.P (p.pr j).toNat) U ∧ PnAt W o x
theorem SimAt.below {W W' : World} {sb : Nat} {p : Pl} {o : Pn} (h : SimAt W sb p o) (hb : Below W.heap.size W W') : SimAt W' sb p o := by
  obtain ⟨pq, pc, U, x, h1, h2, h3⟩ := h.ex
  exact ⟨pq, pc, U, x, (hb.block _ (lt_of_block h1)).trans h1, h2.below hb, h3.below hb⟩
set_option maxRecDepth 100000 in
set_option maxHeartbeats 8000000 in
theorem simOn_any (p : Pl) (v : PlV) (o : Pn) (u : PnV) (w : World) (h : PlAt w p v) (hr : RoomyL p) (hT : GT p) (ho : PnAt w o u) (hn : RoomyN o) :
    Calls Tryz.prog 53 #[.agg #[.int .i64 p.ki, .slice v.pp p.np v.pc, .slice v.tp p.nq v.tc, .slice v.sp p.ns v.sc, .int .u64 p.sd, .int .u64 p.lk, .int .u64 p.en, .int .i64 p.bu, .int .i64 p.fu], .agg #[.slice u.q o.n u.c, .slice u.q2 o.m u.c2, .slice u.q3 o.l u.c3]] w fun e w' => ∃ sb, e = .returned (.pointer (some ⟨sb, 0, none⟩)) ∧ w.heap.size ≤ sb ∧ SimAt w' sb p o ∧ Below w.heap.size w w' := by
  obtain ⟨wb, hwb⟩ : ∃ wb, (w.alloc (.cells #[.int .i64 p.ki, .slice v.pp p.np v.pc, .slice v.tp p.nq v.tc, .slice v.sp p.ns v.sc, .int .u64 p.sd, .int .u64 p.lk, .int .u64 p.en, .int .i64 p.bu, .int .i64 p.fu] 27)).alloc (.cells #[.slice u.q o.n u.c, .slice u.q2 o.m u.c2, .slice u.q3 o.l u.c3] 56) = wb := ⟨_, rfl⟩
  have hb0 : Below w.heap.size w wb := by rw [← hwb]; exact ((Below.refl _ w).alloc (Nat.le_refl _) _).alloc (by simp) _
  have hbox : wb.heap[w.heap.size]? = some (.cells #[.int .i64 p.ki, .slice v.pp p.np v.pc, .slice v.tp p.nq v.tc, .slice v.sp p.ns v.sc, .int .u64 p.sd, .int .u64 p.lk, .int .u64 p.en, .int .i64 p.bu, .int .i64 p.fu] 27 (0, 0)) := by
    rw [← hwb, Below.heap_alloc _ _ _ (by simp)]
    exact World.alloc_heap_new w _
  have hbx2 : wb.heap[w.heap.size + 1]? = some (.cells #[.slice u.q o.n u.c, .slice u.q2 o.m u.c2, .slice u.q3 o.l u.c3] 56 (0, 0)) := by
    rw [← hwb]
    have := World.alloc_heap_new (w.alloc (.cells #[.int .i64 p.ki, .slice v.pp p.np v.pc, .slice v.tp p.nq v.tc, .slice v.sp p.ns v.sc, .int .u64 p.sd, .int .u64 p.lk, .int .u64 p.en, .int .i64 p.bu, .int .i64 p.fu] 27)) (.cells #[.slice u.q o.n u.c, .slice u.q2 o.m u.c2, .slice u.q3 o.l u.c3] 56)
    rwa [World.size_alloc] at this
  have HW : Hid ((w.alloc (.cells #[.int .i64 p.ki, .slice v.pp p.np v.pc, .slice v.tp p.nq v.tc, .slice v.sp p.ns v.sc, .int .u64 p.sd, .int .u64 p.lk, .int .u64 p.en, .int .i64 p.bu, .int .i64 p.fu] 27)).alloc (.cells #[.slice u.q o.n u.c, .slice u.q2 o.m u.c2, .slice u.q3 o.l u.c3] 56) = wb) := hwb
  obtain ⟨⟨A0, hA0, hS0⟩, hX0, hZ0⟩ := ho.below hb0
  have hp := h.below hb0
  have HQ : Hid (SaEq o.n o.A A0 ∧ Below w.heap.size w wb) := ⟨hA0, hb0⟩
  have HC0 : ∀ W, Below wb.heap.size wb W → Hid (Calls Tryz.prog 84 #[.agg #[.int .i64 p.ki, .slice v.pp p.np v.pc, .slice v.tp p.nq v.tc, .slice v.sp p.ns v.sc, .int .u64 p.sd, .int .u64 p.lk, .int .u64 p.en, .int .i64 p.bu, .int .i64 p.fu]] W fun e w' => ∃ (q : Option Addr) (cc : Nat) (U : Nat → PgV), e = .returned (.slice q p.nq cc) ∧ PsAt w' q p.nq (fun j => p.P (p.pr j).toNat) U ∧ Below W.heap.size W w') := fun W hb => programsOfParts_any p v W (hp.below hb) hr hT
  have HC1 : ∀ W, Below wb.heap.size wb W → Hid (Calls Tryz.prog 59 #[.slice u.q o.n u.c] W fun e w' => ∃ (q : Option Addr) (cc : Nat) (C : Nat → Sa), e = .returned (.slice q o.n cc) ∧ StRow w' W.heap.size (.slice q o.n cc) o.n C o.K ∧ SaEq o.n A0 C ∧ Below W.heap.size W w') := fun W hb => copiedStates_any u.q o.n u.c A0 o.K hn.n (fun j hj => by rw [(hA0 j hj).1]; exact hn.w j hj) W (hS0.below hb)
  have HC2 : ∀ W, Below wb.heap.size wb W → Hid (Calls Tryz.prog 60 #[.slice u.q2 o.m u.c2] W fun e w' => ∃ (q : Option Addr) (cc : Nat), e = .returned (.slice q o.m cc) ∧ Own w' W.heap.size 39 6 (.slice q o.m cc) o.m (seF o.X) ∧ Below W.heap.size W w') := fun W hb => cloneE_any u.q2 o.m u.c2 (seF o.X) W (by have := hn.m; omega) (hX0.below hb).cin (fun j _ => seF_one _ j)
  have HC3 : ∀ W, Below wb.heap.size wb W → Hid (Calls Tryz.prog 60 #[.slice u.q3 o.l u.c3] W fun e w' => ∃ (q : Option Addr) (cc : Nat), e = .returned (.slice q o.l cc) ∧ Own w' W.heap.size 39 6 (.slice q o.l cc) o.l (seF o.Z) ∧ Below W.heap.size W w') := fun W hb => cloneE_any u.q3 o.l u.c3 (seF o.Z) W (by have := hn.l; omega) (hZ0.below hb).cin (fun j _ => seF_one _ j)
  have hl1 := lt_of_block hbox
  have hl2 := lt_of_block hbx2
  have KK : ∀ w', Below wb.heap.size wb w' → Hid (((w'.cell? ⟨w.heap.size, 0, none⟩ = some (.int .i64 p.ki) ∧ w'.cell? ⟨w.heap.size, 1, none⟩ = some (.slice v.pp p.np v.pc) ∧ w'.cell? ⟨w.heap.size, 2, none⟩ = some (.slice v.tp p.nq v.tc) ∧ w'.cell? ⟨w.heap.size, 3, none⟩ = some (.slice v.sp p.ns v.sc)) ∧ w'.cell? ⟨w.heap.size, 4, none⟩ = some (.int .u64 p.sd) ∧ w'.cell? ⟨w.heap.size, 5, none⟩ = some (.int .u64 p.lk) ∧ w'.cell? ⟨w.heap.size, 6, none⟩ = some (.int .u64 p.en) ∧ w'.cell? ⟨w.heap.size, 7, none⟩ = some (.int .i64 p.bu) ∧ w'.cell? ⟨w.heap.size, 8, none⟩ = some (.int .i64 p.fu)) ∧ w'.cell? ⟨w.heap.size + 1, 0, none⟩ = some (.slice u.q o.n u.c) ∧ w'.cell? ⟨w.heap.size + 1, 1, none⟩ = some (.slice u.q2 o.m u.c2) ∧ w'.cell? ⟨w.heap.size + 1, 2, none⟩ = some (.slice u.q3 o.l u.c3)) := fun w' hb => ⟨cells9 ((hb.block _ hl1).trans hbox), cells3p ((hb.block _ hl2).trans hbx2)⟩
  have hbd : Below wb.heap.size wb wb.drew := (Below.refl _ wb).drew
  have KP0 : (((wb.drew.cell? ⟨w.heap.size, 0, none⟩ = some (.int .i64 p.ki) ∧ wb.drew.cell? ⟨w.heap.size, 1, none⟩ = some (.slice v.pp p.np v.pc) ∧ wb.drew.cell? ⟨w.heap.size, 2, none⟩ = some (.slice v.tp p.nq v.tc) ∧ wb.drew.cell? ⟨w.heap.size, 3, none⟩ = some (.slice v.sp p.ns v.sc)) ∧ wb.drew.cell? ⟨w.heap.size, 4, none⟩ = some (.int .u64 p.sd) ∧ wb.drew.cell? ⟨w.heap.size, 5, none⟩ = some (.int .u64 p.lk) ∧ wb.drew.cell? ⟨w.heap.size, 6, none⟩ = some (.int .u64 p.en) ∧ wb.drew.cell? ⟨w.heap.size, 7, none⟩ = some (.int .i64 p.bu) ∧ wb.drew.cell? ⟨w.heap.size, 8, none⟩ = some (.int .i64 p.fu)) ∧ wb.drew.cell? ⟨w.heap.size + 1, 0, none⟩ = some (.slice u.q o.n u.c) ∧ wb.drew.cell? ⟨w.heap.size + 1, 1, none⟩ = some (.slice u.q2 o.m u.c2) ∧ wb.drew.cell? ⟨w.heap.size + 1, 2, none⟩ = some (.slice u.q3 o.l u.c3)) := (KK wb.drew hbd).out
  clear hwb h hr hT ho hn hb0 hbox hbx2 hA0 hS0 hX0 hZ0 hp hl1 hl2
  go_enter Tryz.func53, Tryz.ntmps53
  go_upto_region 1 with fail
  rw [HW.out]
  go_region_held3 (fun w' => (((w'.cell? ⟨w.heap.size, 0, none⟩ = some (.int .i64 p.ki) ∧ w'.cell? ⟨w.heap.size, 1, none⟩ = some (.slice v.pp p.np v.pc) ∧ w'.cell? ⟨w.heap.size, 2, none⟩ = some (.slice v.tp p.nq v.tc) ∧ w'.cell? ⟨w.heap.size, 3, none⟩ = some (.slice v.sp p.ns v.sc)) ∧ w'.cell? ⟨w.heap.size, 4, none⟩ = some (.int .u64 p.sd) ∧ w'.cell? ⟨w.heap.size, 5, none⟩ = some (.int .u64 p.lk) ∧ w'.cell? ⟨w.heap.size, 6, none⟩ = some (.int .u64 p.en) ∧ w'.cell? ⟨w.heap.size, 7, none⟩ = some (.int .i64 p.bu) ∧ w'.cell? ⟨w.heap.size, 8, none⟩ = some (.int .i64 p.fu)) ∧ w'.cell? ⟨w.heap.size + 1, 0, none⟩ = some (.slice u.q o.n u.c) ∧ w'.cell? ⟨w.heap.size + 1, 1, none⟩ = some (.slice u.q2 o.m u.c2) ∧ w'.cell? ⟨w.heap.size + 1, 2, none⟩ = some (.slice u.q3 o.l u.c3))) (first | with_reducible exact KP0 | with_reducible exact KP1 | with_reducible exact KP2 | with_reducible exact KP3 | with_reducible exact KP4 | go_keep) (first | (go_at_call 84; (with_reducible refine (HC0 wb.drew hbd).out.mono ?_); rintro e w1 ⟨pq, pc, U, rfl, hs1, hb1⟩; have hw1 : Below wb.heap.size wb w1 := hbd.trans hb1; have KP1 := (KK w1 hw1).out; have H1 : Hid (PsAt w1 pq p.nq (fun j => p.P (p.pr j).toNat) U) := hs1; clear hs1 hb1) | (go_at_call 59; (with_reducible refine (HC1 w1 hw1).out.mono ?_); rintro e w2 ⟨q1, c1, C, rfl, hs2, he2, hb2⟩; have hw2 : Below wb.heap.size wb w2 := hw1.trans (hb2.mono hw1.size); have KP2 := (KK w2 hw2).out; have H2 : Hid (StRow w2 w1.heap.size (.slice q1 o.n c1) o.n C o.K ∧ SaEq o.n A0 C ∧ Below w1.heap.size w1 w2) := ⟨hs2, he2, hb2⟩; clear hs2 he2 hb2) | (go_at_call 60; (with_reducible refine (HC2 w2 hw2).out.mono ?_); rintro e w3 ⟨q2, c2, rfl, hs3, hb3⟩; have hw3 : Below wb.heap.size wb w3 := hw2.trans (hb3.mono hw2.size); have KP3 := (KK w3 hw3).out; have H3 : Hid (SIn w3 q2 o.m o.X ∧ Below w2.heap.size w2 w3) := ⟨own_sin0 hs3, hb3⟩; clear hs3 hb3) | (go_at_call 60; (with_reducible refine (HC3 w3 hw3).out.mono ?_); rintro e w4 ⟨q3, c3, rfl, hs4, hb4⟩; have hw4 : Below wb.heap.size wb w4 := hw3.trans (hb4.mono hw3.size); have KP4 := (KK w4 hw4).out; have H4 : Hid (SIn w4 q3 o.l o.Z ∧ Below w3.heap.size w3 w4) := ⟨own_sin0 hs4, hb4⟩; clear hs4 hb4))
  all_goals (
    go_wp2_with fail
    go_ret
    have h34 := H4.out.2
    have h24 : Below w2.heap.size w2 w4 := H3.out.2.trans (h34.mono H3.out.2.size)
    have h14 : Below w1.heap.size w1 w4 := H2.out.2.2.trans (h24.mono H2.out.2.2.size)
    have hbF : Below w4.heap.size w4 (w4.alloc (.cells #[.slice pq p.nq pc, .int .u64 p.lk, .int .u64 p.en, .int .i64 p.bu, .int .i64 p.fu, .slice q1 o.n c1, .slice q2 o.m c2, .slice q3 o.l c3, .int .i64 0] 105)) := (Below.refl _ w4).alloc (Nat.le_refl _) _
    have hbw : Below w.heap.size w w4 := HQ.out.2.trans (hw4.mono HQ.out.2.size)
    exact ⟨_, rfl, hbw.size, ⟨pq, pc, U, ⟨q1, c1, q2, c2, q3, c3⟩, World.alloc_heap_new w4 _, (H1.out.below h14).below hbF, ⟨⟨C, HQ.out.1.trans H2.out.2.1, ((H2.out.1.later h24).later hbF).ss⟩, (H3.out.1.below h34).below hbF, H4.out.1.below hbF⟩⟩, hbw.trans (hbF.mono hbw.size)⟩)
set_option maxRecDepth 100000 in
set_option maxHeartbeats 8000000 in
/-- Point of a run: its states, what is pending in the order of keys, its trace -/
theorem point_any (p : Pl) (o : Pn) (sb : Nat) (w : World) (h : SimAt w sb p o) (hn : RoomyN o) :
    Calls Tryz.prog 27 #[.pointer (some ⟨sb, 0, none⟩)] w fun e w' => ∃ (y : PnV) (d : Nat → Se), e = .returned (.agg #[.slice y.q o.n y.c, .slice y.q2 o.m y.c2, .slice y.q3 o.l y.c3]) ∧ PnAt w' ⟨o.n, o.A, o.K, o.m, d, o.l, o.Z⟩ y ∧ Stb klt 0 o.m o.X d ∧ Srt klt 0 o.m d ∧ Below w.heap.size w w' := by
  obtain ⟨pq, pc, U, x, hsim, hps, hpn⟩ := h.ex
  obtain ⟨wb, hwb⟩ : ∃ wb, w.alloc (.cells #[.slice none 0 0, .slice none 0 0, .slice none 0 0] 56) = wb := ⟨_, rfl⟩
  obtain ⟨hb0, hres, hsz⟩ := boxed _ _ _ hwb
  have HW : Hid (w.alloc (.cells #[.slice none 0 0, .slice none 0 0, .slice none 0 0] 56) = wb) := hwb
  have hsim1 := (hb0.block _ (lt_of_block hsim)).trans hsim
  obtain ⟨⟨A0, hA0, hS0⟩, hX0, hZ0⟩ := hpn.below hb0
  have hsl := lt_of_block hsim
  have HQ : Hid (SaEq o.n o.A A0 ∧ Below w.heap.size w wb ∧ wb.heap[w.heap.size]? = some (.cells #[.slice none 0 0, .slice none 0 0, .slice none 0 0] 56 (0, 0)) ∧ wb.heap.size = w.heap.size + 1) := ⟨hA0, hb0, hres, hsz⟩
  have HC1 : ∀ W, Below wb.heap.size wb W → Hid (Calls Tryz.prog 59 #[.slice x.q o.n x.c] W fun e w' => ∃ (q : Option Addr) (cc : Nat) (C : Nat → Sa), e = .returned (.slice q o.n cc) ∧ StRow w' W.heap.size (.slice q o.n cc) o.n C o.K ∧ SaEq o.n A0 C ∧ Below W.heap.size W w') := fun W hb => copiedStates_any x.q o.n x.c A0 o.K hn.n (fun j hj => by rw [(hA0 j hj).1]; exact hn.w j hj) W (hS0.below hb)
  have HC2 : ∀ W, Below wb.heap.size wb W → Hid (Calls Tryz.prog 29 #[.slice x.q2 o.m x.c2] W fun e w' => ∃ g d, e = .returned (.slice (some ⟨g, 0, none⟩) o.m o.m) ∧ SRow w' W.heap.size g o.m o.m d ∧ Stb klt 0 o.m o.X d ∧ Srt klt 0 o.m d ∧ Below W.heap.size W w') := fun W hb => order_any x.q2 o.m x.c2 o.X hn.m W (hX0.below hb)
  have HC3 : ∀ W, Below wb.heap.size wb W → Hid (Calls Tryz.prog 60 #[.slice x.q3 o.l x.c3] W fun e w' => ∃ (q : Option Addr) (cc : Nat), e = .returned (.slice q o.l cc) ∧ Own w' W.heap.size 39 6 (.slice q o.l cc) o.l (seF o.Z) ∧ Below W.heap.size W w') := fun W hb => cloneE_any x.q3 o.l x.c3 (seF o.Z) W (by have := hn.l; omega) (hZ0.below hb).cin (fun j _ => seF_one _ j)
  have hl1 := lt_of_block hsim1
  have KK : ∀ w', Below wb.heap.size wb w' → Hid (w'.cell? ⟨sb, 5, none⟩ = some (.slice x.q o.n x.c) ∧ w'.cell? ⟨sb, 6, none⟩ = some (.slice x.q2 o.m x.c2) ∧ w'.cell? ⟨sb, 7, none⟩ = some (.slice x.q3 o.l x.c3)) := fun w' hb => by
    obtain ⟨_, _, k5, k6, k7, _⟩ := cells9 ((hb.block _ hl1).trans hsim1)
    exact ⟨k5, k6, k7⟩
  have hbd : Below wb.heap.size wb wb.drew := (Below.refl _ wb).drew
  have KP0 : (wb.drew.cell? ⟨sb, 5, none⟩ = some (.slice x.q o.n x.c) ∧ wb.drew.cell? ⟨sb, 6, none⟩ = some (.slice x.q2 o.m x.c2) ∧ wb.drew.cell? ⟨sb, 7, none⟩ = some (.slice x.q3 o.l x.c3)) := (KK wb.drew hbd).out
  have hne : sb ≠ w.heap.size := by omega
  have HSZ : Hid (wb.heap.size = w.heap.size + 1) := hsz
  clear hwb h hn hb0 hres hsz hsim hsim1 hA0 hS0 hX0 hZ0 hpn hps hl1 hsl
  go_enter Tryz.func27, Tryz.ntmps27
  go_upto_region 1 with fail
  rw [HW.out]
  go_region_held3 (fun w' => (w'.cell? ⟨sb, 5, none⟩ = some (.slice x.q o.n x.c) ∧ w'.cell? ⟨sb, 6, none⟩ = some (.slice x.q2 o.m x.c2) ∧ w'.cell? ⟨sb, 7, none⟩ = some (.slice x.q3 o.l x.c3))) (first | with_reducible exact KP0 | with_reducible exact KP1 | with_reducible exact KP2 | with_reducible exact KP3 | with_reducible exact KPS3 hne KP3 | go_keep) (first | (go_at_call 59; (with_reducible refine (HC1 wb.drew hbd).out.mono ?_); rintro e w1 ⟨q1, c1, C, rfl, hs1, he1, hb1⟩; have hw1 : Below wb.heap.size wb w1 := hbd.trans hb1; have KP1 := (KK w1 hw1).out; have H1 : Hid (StRow w1 wb.heap.size (.slice q1 o.n c1) o.n C o.K ∧ SaEq o.n A0 C) := ⟨hs1, he1⟩; clear hs1 he1 hb1) | (go_at_call 29; (with_reducible refine (HC2 w1 hw1).out.mono ?_); rintro e w2 ⟨g2, d, rfl, hs2, hst, hso, hb2⟩; have hw2 : Below wb.heap.size wb w2 := hw1.trans (hb2.mono hw1.size); have KP2 := (KK w2 hw2).out; have H2 : Hid (SRow w2 w1.heap.size g2 o.m o.m d ∧ Below w1.heap.size w1 w2 ∧ Stb klt 0 o.m o.X d ∧ Srt klt 0 o.m d) := ⟨hs2, hb2, hst, hso⟩; clear hs2 hb2 hst hso) | (go_at_call 60; (with_reducible refine (HC3 w2 hw2).out.mono ?_); rintro e w3 ⟨q3, c3, rfl, hs3, hb3⟩; have hw3 : Below wb.heap.size wb w3 := hw2.trans (hb3.mono hw2.size); have KP3 := (KK w3 hw3).out; have hr3 := (hw3.block _ (lt_of_block HQ.out.2.2.1)).trans HQ.out.2.2.1; obtain ⟨r0, r1, r2⟩ := cells3p hr3; have z0 := frz hr3 0; have z1 := frz hr3 1; have z2 := frz hr3 2; have H3 : Hid (Own w3 w2.heap.size 39 6 (.slice q3 o.l c3) o.l (seF o.Z) ∧ Below w2.heap.size w2 w3 ∧ w3.heap[w.heap.size]? = some (.cells #[.slice none 0 0, .slice none 0 0, .slice none 0 0] 56 (0, 0))) := ⟨hs3, hb3, hr3⟩; clear hs3 hb3 hr3))
  all_goals (
    go_wp2_with fail
    generalize hWF : (World.setCell (World.setCell (World.setCell w3 _ _) _ _) _ _) = wF
    obtain ⟨t1, t2, t3, t4⟩ := put3 H3.out.2.2 _ _ _ wF hWF
    obtain ⟨e0, e1, e2⟩ := cells3p t1
    refine bodyPost_ret (v := .agg #[.slice q1 o.n c1, .slice (some ⟨g2, 0, none⟩) o.m o.m, .slice q3 o.l c3]) (by simp [results, Tryz.results27, go_sem, e0, e1, e2]; try rfl) rfl ?_
    have hz := HSZ.out
    have hs1 := hw1.size
    have hs2 := hw2.size
    have kbF : Kb (fun k => k = w.heap.size) w3 wF := ⟨by omega, fun k _ hs => t2 k hs⟩
    have h13 : Below w1.heap.size w1 w3 := H2.out.2.1.trans (H3.out.2.1.mono H2.out.2.1.size)
    refine ⟨⟨q1, c1, some ⟨g2, 0, none⟩, o.m, q3, c3⟩, d, rfl, ⟨⟨C, HQ.out.1.trans H1.out.2, ((H1.out.1.later h13).kb kbF (fun k hk => ?_)).ss⟩, own_sin0 (SRow.kb (SRow.later H2.out.1 H3.out.2.1) kbF (fun k hk => ?_)), own_sin0 (own_kb H3.out.1 kbF (fun k hk => ?_))⟩, H2.out.2.2.1, H2.out.2.2.2, t3 _ _ (HQ.out.2.1.trans (hw3.mono HQ.out.2.1.size)) (Nat.le_refl _)⟩
    · show ¬ k = _
      omega
    · show ¬ k = _
      omega
    · show ¬ k = _
      omega)
end Go.Proofs.YtagchghhpggnlaaGreat
