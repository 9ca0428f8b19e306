import Derived.Test.YtagchghhpggnlaaGreatYFS3
import Derived.Test.YtagchghhpggnlaaGreatYSV6
namespace Go.Proofs.YtagchghhpggnlaaGreat
open Go.ChangeShapes Go.WideShapes Go.ChangeAt Go.RowKit
set_option linter.unusedVariables false
set_option linter.unusedSimpArgs false

theorem sa_app (A : Nat → Sa) (i : Nat) (a : Sa) : cellsF (saF A) (i * 3) ++ saL a = cellsF (saF (setS A i a)) ((i + 1) * 3) := by
  have e : saL a = cellsF (fun r => (saL a).getD r undef) 3 := rfl
  rw [e, cellsF_append, show (i + 1) * 3 = i * 3 + 3 by omega]
  refine cellsF_congr fun j hj => ?_
  by_cases h : j < i * 3
  · rw [if_pos h]
    unfold saF setS
    rw [if_neg (by omega)]
  · rw [if_neg h]
    unfold saF setS
    rw [show j / 3 = i by omega, if_pos rfl, show j % 3 = j - i * 3 by omega]
/-- the box of a new state, and its words -/
def RB5 (p : Pl) (i : Nat) (dv : Int) (wr wx : World) (b5 : Value) : Prop := ∃ bx q cc, b5 = .pointer (some ⟨bx, 0, none⟩) ∧ wx.heap[bx]? = some (.cells #[.slice q (p.nw i) cc, .int .u64 dv, .int .u64 0] 46 (0, 0)) ∧ wr.heap.size ≤ bx ∧ KAt wx q (p.nw i) (p.K i) ∧ (∀ g o, q = some ⟨g, o, none⟩ → wr.heap.size ≤ g ∧ g < wx.heap.size) ∧ Below wr.heap.size wr wx
theorem rb5A {p : Pl} {i : Nat} {dv : Int} {wr w3 : World} (h : KAt w3 (some ⟨wr.heap.size, 0, none⟩) (p.nw i) (p.K i) ∧ Below wr.heap.size wr w3 ∧ wr.heap.size < w3.heap.size) : RB5 p i dv wr (w3.alloc (.cells #[.slice (some ⟨wr.heap.size, 0, none⟩) (p.nw i) (p.nw i), .int .u64 dv, .int .u64 0] 46)) (.pointer (some ⟨w3.heap.size, 0, none⟩)) := by
  have hb : Below w3.heap.size w3 (w3.alloc (.cells #[.slice (some ⟨wr.heap.size, 0, none⟩) (p.nw i) (p.nw i), .int .u64 dv, .int .u64 0] 46)) := (Below.refl _ w3).alloc (Nat.le_refl _) _
  refine ⟨_, _, _, rfl, World.alloc_heap_new w3 _, h.2.1.size, h.1.below hb, fun g o e => ?_, h.2.1.trans (hb.mono h.2.1.size)⟩
  injection e with e
  injection e with e1 e2 e3
  have := hb.size
  omega
theorem rb5C {p : Pl} {i b : Nat} {dv : Int} {wr w3 : World} (h : KAt w3 (some ⟨b, 0, none⟩) (p.nw i) (p.K i) ∧ Below wr.heap.size wr w3 ∧ b < w3.heap.size ∧ w3.heap[wr.heap.size]? = some (.cells #[.slice none 0 0, .int .u64 0, .int .u64 0] 46 (0, 0))) (hb : b = wr.heap.size + 1) : RB5 p i dv wr (((w3.setCell ⟨wr.heap.size, 0, none⟩ (.slice (some ⟨wr.heap.size + 1, 0, none⟩) (p.nw i) (p.nw i))).setCell ⟨wr.heap.size, 1, none⟩ (.int .u64 dv)).setCell ⟨wr.heap.size, 2, none⟩ (.int .u64 0)) (.pointer (some ⟨wr.heap.size, 0, none⟩)) := by
  subst hb
  obtain ⟨q1, q2, q3, q4⟩ := put3 h.2.2.2 (.slice (some ⟨wr.heap.size + 1, 0, none⟩) (p.nw i) (p.nw i)) (.int .u64 dv) (.int .u64 0) _ rfl
  refine ⟨_, _, _, rfl, q1, Nat.le_refl _, h.1.kb (S := fun k => k = wr.heap.size) ⟨by omega, fun k _ hs => q2 k hs⟩ (fun g o e => ?_), fun g o e => ?_, q3 _ _ h.2.1 (Nat.le_refl _)⟩
  · injection e with e
    injection e with e1 e2 e3
    show ¬ g = wr.heap.size
    omega
  · injection e with e
    injection e with e1 e2 e3
    omega
theorem AOk.next {W W1 W9 W' : World} {p : Pl} {r v' : Value} {b i x : Nat} {A : Nat → Sa} {q : Option Addr} {cc : Nat} (h : AOk W p r b A i) (h1 : Below W.heap.size W W1) (hg : W1.grownBy W9 r.ownBlock) (hv : v'.ownBlock = r.ownBlock ∨ v'.ownBlock = some W1.heap.size) (hk : Kb (fun k => k = x) W9 W') (hx : x < b) (hb : b ≤ W.heap.size) (hr : ∀ k, r.ownBlock = some k → k < W.heap.size) (hq : KAt W1 q (p.nw i) (p.K i)) (hqn : ∀ g o, q = some ⟨g, o, none⟩ → W.heap.size ≤ g ∧ g < W1.heap.size) : AOk W' p v' b (setS A i ⟨q, p.nw i, cc, dz p.sd i, 0⟩) (i + 1) := fun j hj => by
  have hkb := Kb.grown hg
  unfold setS
  by_cases e : j = i
  · rw [if_pos e, e]
    have ea : EA W9 v' b q := EA.fresh (W := W) (r := r) hqn hb hr hkb.size hv
    refine ⟨rfl, rfl, rfl, (hq.kb hkb fun g o e9 h9 => ?_).kb hk fun g o e9 h9 => ?_, ea.kept hk.size⟩
    · have a1 := hqn g o e9
      have a2 := hr g h9.symm
      omega
    · have a1 := hqn g o e9
      have a2 : g = x := h9
      omega
  · rw [if_neg e]
    obtain ⟨a1, a2, a3, a4, a5⟩ := h j (by omega)
    refine ⟨a1, a2, a3, ((a4.below h1).kb hkb fun g o e9 h9 => (a5 g o e9).2.2 h9).kb hk fun g o e9 h9 => ?_, (a5.step h1.size hkb.size hv).kept hk.size⟩
    have b1 := (a5 g o e9).1
    have b2 : g = x := h9
    omega
theorem KPT {W : World} {g a b k m n o1 o2 o3 : Nat} {x y z x1 x2 x3 : Value} (h1 : a ≠ g) (h2 : b ≠ g) (h : W.cell? ⟨a, k, none⟩ = some x ∧ W.cell? ⟨a, m, none⟩ = some y ∧ W.cell? ⟨b, n, none⟩ = some z) : (((W.setCell ⟨g, o1, none⟩ x1).setCell ⟨g, o2, none⟩ x2).setCell ⟨g, o3, none⟩ x3).cell? ⟨a, k, none⟩ = some x ∧ (((W.setCell ⟨g, o1, none⟩ x1).setCell ⟨g, o2, none⟩ x2).setCell ⟨g, o3, none⟩ x3).cell? ⟨a, m, none⟩ = some y ∧ (((W.setCell ⟨g, o1, none⟩ x1).setCell ⟨g, o2, none⟩ x2).setCell ⟨g, o3, none⟩ x3).cell? ⟨b, n, none⟩ = some z := by
  have key : ∀ j, j ≠ g → (((W.setCell ⟨g, o1, none⟩ x1).setCell ⟨g, o2, none⟩ x2).setCell ⟨g, o3, none⟩ x3).heap[j]? = W.heap[j]? := fun j hj => by
    rw [Below.heap_setCell _ _ _ _ hj, Below.heap_setCell _ _ _ _ hj, Below.heap_setCell _ _ _ _ hj]
  exact ⟨(World.cell?_of_block (key a h1)).trans h.1, (World.cell?_of_block (key a h1)).trans h.2.1, (World.cell?_of_block (key b h2)).trans h.2.2⟩
end Go.Proofs.YtagchghhpggnlaaGreat
namespace Go.Proofs.YtagchghhpggnlaaGreat
open Go.ChangeShapes Go.WideShapes Go.ChangeAt Go.RowKit
set_option linter.unusedVariables false
set_option linter.unusedSimpArgs false

set_option maxRecDepth 100000 in
set_option maxHeartbeats 8000000 in
theorem begun_any (p : Pl) (v : PlV) (w : World) (h : PlAt w p v) (hr : RoomyL p) (hT : GT p) (hS : GS p) : Calls Tryz.prog 18 #[.agg #[.int .i64 p.ki, .slice v.pp p.np v.pc, .slice v.tp p.nq v.tc, .slice v.sp p.ns v.sc, .int .u64 p.sd, .int .u64 p.lk, .int .u64 p.en, .int .i64 p.bu, .int .i64 p.fu]] w fun e w' => ∃ (q : Option Addr) (c : Nat) (A : Nat → Sa), e = .returned (.slice q p.nq c) ∧ Own w' w.heap.size 46 3 (.slice q p.nq c) p.nq (saF A) ∧ (∀ j, j < p.nq → (A j).n = p.nw j ∧ (A j).d = dz p.sd j ∧ (A j).s = (cntS p.S p.ns (j : Int) : Nat) ∧ KAt w' (A j).p (p.nw j) (p.K j) ∧ EA w' (.slice q p.nq c) w.heap.size (A j).p ∧ (A j).p ≠ none) ∧ Below w.heap.size w w' := by
  obtain ⟨iA, hA1, hA2, hA3, hA4⟩ := sinfo infoSA
  obtain ⟨wb, hwb⟩ : ∃ wb, w.alloc (.cells #[.int .i64 p.ki, .slice v.pp p.np v.pc, .slice v.tp p.nq v.tc, .slice v.sp p.ns v.sc, .int .u64 p.sd, .int .u64 p.lk, .int .u64 p.en, .int .i64 p.bu, .int .i64 p.fu] 27) = wb := ⟨_, rfl⟩
  obtain ⟨hb0, hbox, hsz⟩ := boxed _ _ _ hwb
  have HW : Hid (w.alloc (.cells #[.int .i64 p.ki, .slice v.pp p.np v.pc, .slice v.tp p.nq v.tc, .slice v.sp p.ns v.sc, .int .u64 p.sd, .int .u64 p.lk, .int .u64 p.en, .int .i64 p.bu, .int .i64 p.fu] 27) = wb) := hwb
  have HSZ : Hid (wb.heap.size = w.heap.size + 1) := hsz
  have HP : Hid (PlAt w p v) := h
  have HR : Hid (RoomyL p) := hr
  have HS : Hid (GS p) := hS
  have HB0 : Hid (Below w.heap.size w wb ∧ wb.heap[w.heap.size]? = some (.cells #[.int .i64 p.ki, .slice v.pp p.np v.pc, .slice v.tp p.nq v.tc, .slice v.sp p.ns v.sc, .int .u64 p.sd, .int .u64 p.lk, .int .u64 p.en, .int .i64 p.bu, .int .i64 p.fu] 27 (0, 0))) := ⟨hb0, hbox⟩
  have hnq := hT.1
  have hns := hS.1
  clear h hr hT hS hwb hb0 hbox hsz
  go_enter Tryz.func18, Tryz.ntmps18
  go_wp2_with fail
  rw [HW.out]
  go_loopw [3, 4] (fun r x wr => ∃ (i : Nat) (A : Nat → Sa), x = .int .i64 (i : Int) ∧ i ≤ p.nq ∧ Own wr wb.heap.size 46 3 r i (saF A) ∧ AOk wr p r wb.heap.size A i ∧ (∀ j, j < i → (A j).p ≠ none) ∧ Below wb.heap.size wb wr) (fun _ x _ => p.nq - (intOf x).toNat)
  case atStart => exact ⟨0, fun _ => ⟨none, 0, 0, 0, 0⟩, rfl, Nat.zero_le _, World.ownsRow_nil _ _ _ _, fun j hj => absurd hj (Nat.not_lt_zero _), fun j hj => absurd hj (Nat.not_lt_zero _), Below.refl _ _⟩
  case round =>
    obtain ⟨i, A, rfl, hi, hrow, hok, hnn, hbr⟩ := hrel
    have hboxr := (hbr.block w.heap.size (lt_of_block HB0.out.2)).trans HB0.out.2
    have hbw : Below w.heap.size w wr := HB0.out.1.trans (hbr.mono HB0.out.1.size)
    obtain ⟨⟨c0, c1, c2, c3⟩, c4, c5, c6, c7, c8⟩ := cells9 hboxr
    by_cases hlt : i < p.nq
    case pos =>
      have dlt : decide ((i : Int) < (p.nq : Int)) = true := by simp; omega
      have i0 : (0 : Int) ≤ (i : Int) := by omega
      have i1 : (i : Int) < (p.nq : Int) := by omega
      have ei : IntKind.i64.wrap ((i : Int) + 1) = (i : Int) + 1 := by rw [IntKind.wrap_i64]; omega
      have hm := meas hlt
      obtain hz | ⟨gt, ot, hpp, hl, hc, hpa⟩ := (HP.out.below hbw).ts
      · omega
      obtain ⟨y0, y1⟩ := hc i hlt
      have hbd : Below wr.heap.size wr wr.drew := (Below.refl _ wr).drew
      have HC := copyWords_any (v.wp i) (p.nw i) (v.wc i) (p.K i) wr.drew (HR.out.nw i hlt) ((hpa i hlt).below hbd)
      obtain ⟨b3, hb3⟩ : ∃ b3, wr.drew.heap.size = b3 := ⟨_, rfl⟩
      rw [hb3] at HC
      have hb3w : wr.heap.size = b3 := hb3
      have HD := fun w' => seed_any p.sd (i : Int) w'
      obtain ⟨dv, hdv⟩ : ∃ dv, U (sd (B p.sd) (B (i : Int))) = dv := ⟨_, rfl⟩
      rw [hdv] at HD
      have HDV : Hid (dz p.sd i = dv) := hdv
      have hwl := lt_of_block hboxr
      have HA : Hid (Own wr wb.heap.size 46 3 u3 i (saF A) ∧ AOk wr p u3 wb.heap.size A i ∧ (∀ j, j < i → (A j).p ≠ none) ∧ Below wb.heap.size wb wr ∧ wr.heap.size = b3) := ⟨hrow, hok, hnn, hbr, hb3w⟩
      have KK : ∀ w1, Below wr.heap.size wr w1 → (w1.cell? ⟨w.heap.size, 2, none⟩ = some (.slice (some ⟨gt, ot, none⟩) p.nq v.tc) ∧ w1.cell? ⟨w.heap.size, 4, none⟩ = some (.int .u64 p.sd) ∧ w1.cell? ⟨gt, ot + i * 2 + 1, none⟩ = some (.slice (v.wp i) (p.nw i) (v.wc i))) := fun w1 hb => ⟨by rw [← hpp]; exact (cell_below (a := ⟨w.heap.size, 2, none⟩) hb hwl).trans c2, (cell_below (a := ⟨w.heap.size, 4, none⟩) hb hwl).trans c4, (cell_below (a := ⟨gt, ot + i * 2 + 1, none⟩) hb hl).trans y1⟩
      have KGR : ∀ w1 w9, Below wr.heap.size wr w1 → w1.grownBy w9 u3.ownBlock → (w9.cell? ⟨w.heap.size, 2, none⟩ = some (.slice (some ⟨gt, ot, none⟩) p.nq v.tc) ∧ w9.cell? ⟨w.heap.size, 4, none⟩ = some (.int .u64 p.sd) ∧ w9.cell? ⟨gt, ot + i * 2 + 1, none⟩ = some (.slice (v.wp i) (p.nw i) (v.wc i))) := fun w1 w9 hb hg => by
        obtain ⟨k1, k2, k3⟩ := KK w1 hb
        have hne1 : ¬ (some w.heap.size = u3.ownBlock) := fun e => by have := (Own.lt HA.out.1 _ e.symm).1; have := HSZ.out; omega
        have hgw : gt < w.heap.size := by
          obtain hz | ⟨gt', ot', hpp', hl', _⟩ := HP.out.ts
          · omega
          · rw [hpp'] at hpp
            injection hpp with e
            injection e with e1 e2 e3
            omega
        have hne2 : ¬ (some gt = u3.ownBlock) := fun e => by have := (Own.lt HA.out.1 _ e.symm).1; have := HSZ.out; omega
        have g1 := hg.block w.heap.size (Nat.lt_of_lt_of_le hwl hb.size) hne1
        have g2 := hg.block gt (Nat.lt_of_lt_of_le hl hb.size) hne2
        exact ⟨(World.cell?_of_block g1).trans k1, (World.cell?_of_block g1).trans k2, (World.cell?_of_block g2).trans k3⟩
      have HKGR : Hid (∀ w1 w9, Below wr.heap.size wr w1 → w1.grownBy w9 u3.ownBlock → (w9.cell? ⟨w.heap.size, 2, none⟩ = some (.slice (some ⟨gt, ot, none⟩) p.nq v.tc) ∧ w9.cell? ⟨w.heap.size, 4, none⟩ = some (.int .u64 p.sd) ∧ w9.cell? ⟨gt, ot + i * 2 + 1, none⟩ = some (.slice (v.wp i) (p.nw i) (v.wc i)))) := KGR
      have HH3 : Hid (∀ w3, Below wr.heap.size wr w3 → w3.heap[b3]? = some (.cells (intsL (p.K i) (p.nw i)).toArray 2 (0, 0)) → b3 < w3.heap.size → ((w3.alloc (.cells (saL ⟨some ⟨b3, 0, none⟩, p.nw i, p.nw i, dv, 0⟩).toArray 46)).ownsRow wb.heap.size 46 3 u3 i (cellsF (saF A) (i * 3)) ∧ (∀ j y, (saL ⟨some ⟨b3, 0, none⟩, p.nw i, p.nw i, dv, 0⟩)[j]? = some y → (w3.alloc (.cells (saL ⟨some ⟨b3, 0, none⟩, p.nw i, p.nw i, dv, 0⟩).toArray 46)).cell? ((⟨w3.heap.size, 0, none⟩ : Addr).add j) = some y) ∧ Below wb.heap.size wb (w3.alloc (.cells (saL ⟨some ⟨b3, 0, none⟩, p.nw i, p.nw i, dv, 0⟩).toArray 46)) ∧ Below wr.heap.size wr (w3.alloc (.cells (saL ⟨some ⟨b3, 0, none⟩, p.nw i, p.nw i, dv, 0⟩).toArray 46)) ∧ KAt (w3.alloc (.cells (saL ⟨some ⟨b3, 0, none⟩, p.nw i, p.nw i, dv, 0⟩).toArray 46)) (some ⟨b3, 0, none⟩) (p.nw i) (p.K i) ∧ wr.heap.size ≤ b3 ∧ b3 < (w3.alloc (.cells (saL ⟨some ⟨b3, 0, none⟩, p.nw i, p.nw i, dv, 0⟩).toArray 46)).heap.size)) := fun w3 h1 hrow3 hlt3 => by
        have h2 : Below wb.heap.size wb w3 := HA.out.2.2.2.1.trans (h1.mono HA.out.2.2.2.1.size)
        have h3 : Below w3.heap.size w3 (w3.alloc (.cells (saL ⟨some ⟨b3, 0, none⟩, p.nw i, p.nw i, dv, 0⟩).toArray 46)) := (Below.refl _ w3).alloc (Nat.le_refl _) _
        have h4 := h3.size
        have h5 := HA.out.2.2.2.2
        exact ⟨World.ownsRow.alloc (srow_later HA.out.1 h1) _, scells_new w3 (saL ⟨some ⟨b3, 0, none⟩, p.nw i, p.nw i, dv, 0⟩) _, h2.trans (h3.mono h2.size), h1.trans (h3.mono h1.size), KAt.below (W := w3) (kat_w hrow3) h3, by omega, by omega⟩
      have KP0 := KK wr.drew hbd
      have p1 : i + 1 ≤ maxLen := by unfold maxLen; omega
      have p2 : (i + 1) * 40 ≤ 140737488355328 := by omega
      rw [hpp] at c2
      clear hdv hc hpa hrow hok hnn hbr hbw hboxr hpp c0 c1 c3 c5 c6 c7 c8 hb3 KGR y0 y1 hb3w
      go_upto_region 5 with fail
      go_region_held3 (fun w' => (w'.cell? ⟨w.heap.size, 2, none⟩ = some (.slice (some ⟨gt, ot, none⟩) p.nq v.tc) ∧ w'.cell? ⟨w.heap.size, 4, none⟩ = some (.int .u64 p.sd) ∧ w'.cell? ⟨gt, ot + i * 2 + 1, none⟩ = some (.slice (v.wp i) (p.nw i) (v.wc i)))) (first | with_reducible exact KP0 | with_reducible exact KP1 | with_reducible exact KP2 | go_keep) (first | (go_at_call 45; (with_reducible refine HC.mono ?_); rintro e w3 ⟨rfl, hrow3, hb3', hlt3⟩; have h1 : Below wr.heap.size wr w3 := hbd.trans (hb3'.mono (by have := HA.out.2.2.2.2; omega)); have KP1 := KK w3 h1; have H3 : Hid ((w3.alloc (.cells (saL ⟨some ⟨b3, 0, none⟩, p.nw i, p.nw i, dv, 0⟩).toArray 46)).ownsRow wb.heap.size 46 3 u3 i (cellsF (saF A) (i * 3)) ∧ (∀ j y, (saL ⟨some ⟨b3, 0, none⟩, p.nw i, p.nw i, dv, 0⟩)[j]? = some y → (w3.alloc (.cells (saL ⟨some ⟨b3, 0, none⟩, p.nw i, p.nw i, dv, 0⟩).toArray 46)).cell? ((⟨w3.heap.size, 0, none⟩ : Addr).add j) = some y) ∧ Below wb.heap.size wb (w3.alloc (.cells (saL ⟨some ⟨b3, 0, none⟩, p.nw i, p.nw i, dv, 0⟩).toArray 46)) ∧ Below wr.heap.size wr (w3.alloc (.cells (saL ⟨some ⟨b3, 0, none⟩, p.nw i, p.nw i, dv, 0⟩).toArray 46)) ∧ KAt (w3.alloc (.cells (saL ⟨some ⟨b3, 0, none⟩, p.nw i, p.nw i, dv, 0⟩).toArray 46)) (some ⟨b3, 0, none⟩) (p.nw i) (p.K i) ∧ wr.heap.size ≤ b3 ∧ b3 < (w3.alloc (.cells (saL ⟨some ⟨b3, 0, none⟩, p.nw i, p.nw i, dv, 0⟩).toArray 46)).heap.size) := HH3.out w3 h1 hrow3 hlt3; clear hrow3 hb3' hlt3) | (go_at_call 46; (with_reducible refine (HD _).mono ?_); rintro e ws ⟨rfl, hws⟩; subst ws) | (refine step_ap rfl (.tmp 13) (.tmp 26) 33 rfl wb.heap.size 46 iA _ 3 40 Tryz.underlying33 hA1 hA2 hA3 hA4 rfl (by decide) u3 i (cellsF (saF A) (i * 3)) (by simp [Act.eval]) H3.out.1 ⟨w3.heap.size, 0, none⟩ 1 1 (saL ⟨some ⟨b3, 0, none⟩, p.nw i, p.nw i, dv, 0⟩) (by simp [Act.eval, saL]) rfl H3.out.2.1 (by simp [saL, Value.oneCell']) p1 p2 H3.out.2.2.1.size ?_; intro v' w9 hown9 hgrow9 hnb9; have KP2 := HKGR.out _ w9 H3.out.2.2.2.1 hgrow9; have H9 : Hid (w9.ownsRow wb.heap.size 46 3 v' (i + 1) (cellsF (saF A) (i * 3) ++ (saL ⟨some ⟨b3, 0, none⟩, p.nw i, p.nw i, dv, 0⟩)) ∧ (w3.alloc (.cells (saL ⟨some ⟨b3, 0, none⟩, p.nw i, p.nw i, dv, 0⟩).toArray 46)).grownBy w9 u3.ownBlock ∧ (v'.ownBlock = u3.ownBlock ∨ v'.ownBlock = some (w3.alloc (.cells (saL ⟨some ⟨b3, 0, none⟩, p.nw i, p.nw i, dv, 0⟩).toArray 46)).heap.size)) := ⟨hown9, hgrow9, hnb9⟩; clear hown9 hgrow9 hnb9))
      all_goals (try go_wp2_with fail)
      all_goals (
        obtain ⟨hown9, hgrow9, hnb9⟩ := H9.out
        obtain ⟨a1, a2, a3, a4, a5⟩ := HA.out
        obtain ⟨f1, f2, f3, f4, f5, f6, f7⟩ := H3.out
        have ho9 : Own w9 wb.heap.size 46 3 v' (i + 1) (saF (setS A i ⟨some ⟨b3, 0, none⟩, p.nw i, p.nw i, dv, 0⟩)) := (by unfold Own; rw [← sa_app]; exact hown9)
        have hb9 : Below wb.heap.size wb w9 := f3.grown hgrow9 f3.size (fun r' e => (srow_lt f1 r' e).1)
        have hz3 := a4.size
        have hn9 := a2.next f4 hgrow9 hnb9 (x := w.heap.size) (W' := w9) ⟨Nat.le_refl _, fun _ _ _ => rfl⟩ (by have := HSZ.out; omega) hz3 (fun k hk => (srow_lt a1 k hk).2) f5 (fun g o e => by injection e with e; injection e with e1 e2 e3; omega) (cc := p.nw i)
        rw [HDV.out] at hn9
        refine ⟨⟨i + 1, _, rfl, hlt, ho9, hn9, fun j hj => ?_, hb9⟩, hm⟩
        unfold setS
        by_cases e : j = i
        · rw [if_pos e]; simp
        · rw [if_neg e]; exact a3 j (by omega))
    have dlt : decide ((i : Int) < (p.nq : Int)) = false := by simp; omega
    obtain rfl : i = p.nq := by omega
    obtain ⟨rp, rc, rfl⟩ := own_slice hrow
    obtain ⟨wy, rfl⟩ : ∃ wy, wy = wr := ⟨_, rfl⟩
    have HX : Hid (Own wy wb.heap.size 46 3 (.slice rp p.nq rc) p.nq (saF A) ∧ AOk wy p (.slice rp p.nq rc) wb.heap.size A p.nq ∧ (∀ j, j < p.nq → (A j).p ≠ none) ∧ Below wb.heap.size wb wy ∧ wy.heap[w.heap.size]? = some (.cells #[.int .i64 p.ki, .slice v.pp p.np v.pc, .slice v.tp p.nq v.tc, .slice v.sp p.ns v.sc, .int .u64 p.sd, .int .u64 p.lk, .int .u64 p.en, .int .i64 p.bu, .int .i64 p.fu] 27 (0, 0)) ∧ Below w.heap.size w wy) := ⟨hrow, hok, hnn, hbr, hboxr, hbw⟩
    clear hok hbr hboxr hbw hrow hnn
    go_wp2_with fail
    clear c0 c1 c2 c3 c4 c5 c6 c7 c8
    go_loopw [5] (fun x wr => ∃ (i : Nat), x = .int .i64 (i : Int) ∧ i ≤ p.ns ∧ Own wr wb.heap.size 46 3 (.slice rp p.nq rc) p.nq (saF (sA A p.S i)) ∧ Kb (fun k => some k = (Value.slice rp p.nq rc).ownBlock) wy wr ∧ Below wb.heap.size wy wr) (fun x _ => p.ns - (intOf x).toNat)
    case atStart => exact ⟨0, rfl, Nat.zero_le _, Own.congr HX.out.1 (fun j hj => by unfold saF; rw [← sA_zero (S := p.S) (fun j hj => (HX.out.2.1 j hj).2.2.1) (j / 3) (by omega)]), ⟨Nat.le_refl _, fun _ _ _ => rfl⟩, Below.refl _ _⟩
    case round =>
      obtain ⟨i, rfl, hi, hrow, hkr, hbr⟩ := hrel
      have hyl := HX.out.2.2.2.1.size
      have hboxr := (hbr.block w.heap.size (by have := HSZ.out; omega)).trans HX.out.2.2.2.2.1
      have hbw : Below w.heap.size w wr := HX.out.2.2.2.2.2.trans (hbr.mono (by have := HSZ.out; omega))
      obtain ⟨⟨c0, c1, c2, c3⟩, c4, c5, c6, c7, c8⟩ := cells9 hboxr
      by_cases hlt : i < p.ns
      case pos =>
        have dlt : decide ((i : Int) < (p.ns : Int)) = true := by simp; omega
        have i0 : (0 : Int) ≤ (i : Int) := by omega
        have i1 : (i : Int) < (p.ns : Int) := by omega
        have ei : IntKind.i64.wrap ((i : Int) + 1) = (i : Int) + 1 := by rw [IntKind.wrap_i64]; omega
        have hm := meas hlt
        obtain hz | ⟨gt, ot, hpp, hl, hc⟩ := (HP.out.below hbw).st
        · omega
        obtain ⟨y0, y1, y2, y3⟩ := hc i hlt
        obtain ⟨⟨hd0, hd1⟩, _, _⟩ := HS.out.2 i hlt
        obtain ⟨dn, hdn⟩ : ∃ dn : Nat, (p.S i).d = (dn : Int) := ⟨(p.S i).d.toNat, by omega⟩
        have hdl : dn < p.nq := by omega
        have j0 : (0 : Int) ≤ (dn : Int) := by omega
        have j1 : (dn : Int) < (p.nq : Int) := by omega
        rw [hdn] at y1
        obtain ⟨g, hrp, hgl⟩ : ∃ g, rp = some ⟨g, 0, none⟩ ∧ wb.heap.size ≤ g ∧ g < wr.heap.size := by
          rcases Own.form hrow with ⟨h1, h2⟩ | ⟨g', c', h1, h2, h3⟩
          · omega
          · injection h1 with e1 e2 e3
            exact ⟨g', e1, h2, h3⟩
        have hrow' := hrow
        rw [hrp] at hrow'
        have hrw : ARow wr wb.heap.size g p.nq rc (sA A p.S i) := hrow'
        obtain ⟨cn, hcn⟩ : ∃ cn, cntS p.S i (dn : Int) = cn := ⟨_, rfl⟩
        have hcl := cntS_le p.S i (dn : Int)
        obtain ⟨q0, q1, q2⟩ := hrw.cells hdl
        have q2' : wr.cell? ⟨g, dn * 3 + 2, none⟩ = some (.int .u64 (cn : Int)) := by rw [← hcn]; exact q2
        have r0 := hrw.fz (dn * 3 + 2)
        have eu : IntKind.u64.wrap ((cn : Int) + 1) = (cn : Int) + 1 := by simp only [IntKind.wrap, IntKind.bits, IntKind.signed]; simp; omega
        have HQ : Hid (ARow wr wb.heap.size g p.nq rc (sA A p.S i) ∧ Kb (fun k => some k = (Value.slice rp p.nq rc).ownBlock) wy wr ∧ Below wb.heap.size wy wr ∧ (p.S i).d = (dn : Int) ∧ cntS p.S i (dn : Int) = cn ∧ rp = some ⟨g, 0, none⟩ ∧ wb.heap.size ≤ g) := ⟨hrw, hkr, hbr, hdn, hcn, hrp, hgl.1⟩
        rw [hpp] at c3
        rw [hrp]
        clear hrow hrow' hrw hkr hbr hdn hcn hc hl hpp hbw q0 q1 q2 hd0 hd1 hcl hrp hboxr c0 c1 c2 c4 c5 c6 c7 c8 hgl hyl y0 y2 y3
        go_wp2_with fail
        obtain ⟨n1, n2, n3, n4, n5, n6, n7⟩ := HQ.out
        refine ⟨⟨i + 1, rfl, hlt, ?_, ⟨by simp [World.setCell]; exact n2.size, fun k hk hs => ?_⟩, ?_⟩, hm⟩
        · have h9 := n1.put2 dn ((cn : Int) + 1)
          rw [← n5] at h9 ⊢
          rw [sA_step A p.S i dn n4] at h9
          exact h9
        · have hkg : k ≠ g := fun e => hs (by first | (rw [n6, e]; rfl) | (rw [e]; rfl))
          rw [Below.heap_setCell _ _ _ _ hkg]
          exact n2.block k hk (by rw [n6]; exact hs)
        · exact n3.setCell (p := ⟨g, dn * 3 + 2, none⟩) n7 _
      have dlt : decide ((i : Int) < (p.ns : Int)) = false := by simp; omega
      obtain rfl : i = p.ns := by omega
      have HF : Hid (Own wr wb.heap.size 46 3 (.slice rp p.nq rc) p.nq (saF (sA A p.S p.ns)) ∧ Kb (fun k => some k = (Value.slice rp p.nq rc).ownBlock) wy wr ∧ Below w.heap.size w wr) := ⟨hrow, hkr, hbw⟩
      clear hrow hkr hbr hboxr hbw hyl
      go_wp2_with fail
      go_ret
      obtain ⟨f1, f2, f3⟩ := HF.out
      obtain ⟨x1, x2, x3, x4, x5, x6⟩ := HX.out
      have hle : w.heap.size ≤ wb.heap.size := HB0.out.1.size
      refine ⟨rp, rc, sA A p.S p.ns, rfl, f1.lower hle, fun j hj => ?_, f3⟩
      obtain ⟨a1, a2, a3, a4, a5⟩ := x2 j hj
      refine ⟨a1, a2, rfl, a4.kb f2 fun g o e => (a5 g o e).2.2, fun g o e => ?_, x3 j hj⟩
      obtain ⟨b1, b2, b3⟩ := a5 g o e
      exact ⟨by omega, Nat.lt_of_lt_of_le b2 f2.size, b3⟩
end Go.Proofs.YtagchghhpggnlaaGreat
