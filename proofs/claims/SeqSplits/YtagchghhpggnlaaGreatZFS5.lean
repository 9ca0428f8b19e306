import Derived.Test.YtagchghhpggnlaaGreatZFS2
namespace Go.Proofs.YtagchghhpggnlaaGreat
open Go.ChangeShapes Go.WideShapes Go.ChangeAt Go.RowKit
set_option linter.unusedVariables false
set_option linter.unusedSimpArgs false

set_option maxRecDepth 100000 in
set_option maxHeartbeats 2000000 in
theorem sameState_yes (p1 p2 : Option Addr) (n c1 c2 : Nat) (K : Nat → Int) (d s : Int) (hn : n ≤ 17592186044416) (w : World) (h1 : KAt w p1 n K) (h2 : KAt w p2 n K) :
    Calls Tryz.prog 20 #[.agg #[.slice p1 n c1, .int .u64 d, .int .u64 s], .agg #[.slice p2 n c2, .int .u64 d, .int .u64 s]] w fun e w' => e = .returned (.bool true) ∧ Below w.heap.size w w' := by
  obtain ⟨w1, hw1⟩ : ∃ w1, (w.alloc (.cells #[.slice p1 n c1, .int .u64 d, .int .u64 s] 46)).alloc (.cells #[.slice p2 n c2, .int .u64 d, .int .u64 s] 46) = w1 := ⟨_, rfl⟩
  have hb1 : Below w.heap.size w w1 := by rw [← hw1]; exact ((Below.refl _ w).alloc (Nat.le_refl _) _).alloc (by simp) _
  have HC := sameWords_any p1 p2 n n c1 c2 K K hn w1 (h1.below hb1) (h2.below hb1)
  rw [decide_eq_true rfl, sameF_yes (fun _ _ => rfl)] at HC
  have HW : Hid ((w.alloc (.cells #[.slice p1 n c1, .int .u64 d, .int .u64 s] 46)).alloc (.cells #[.slice p2 n c2, .int .u64 d, .int .u64 s] 46) = w1) := hw1
  clear hw1 h1 h2
  go_enter Tryz.func20, Tryz.ntmps20
  go_wp2_with (go_at_call 39; rw [HW.out]; (with_reducible refine HC.mono ?_); rintro e w2 ⟨rfl, z2⟩)
  go_ret
  exact ⟨rfl, hb1.trans (z2.mono hb1.size)⟩
set_option maxRecDepth 100000 in
set_option maxHeartbeats 4000000 in
theorem sameStates_yes (n : Nat) (A C : Nat → Sa) (K : Nat → Nat → Int) (p1 p2 : Option Addr) (c1 c2 : Nat) (hL : n ≤ 4000000000000) (hw : ∀ j, j < n → (A j).n ≤ 17592186044416) (he : ∀ j, j < n → (C j).n = (A j).n ∧ (C j).d = (A j).d ∧ (C j).s = (A j).s) (w : World) (h1 : SsAt w p1 n A K) (h2 : SsAt w p2 n C K) :
    Calls Tryz.prog 32 #[.slice p1 n c1, .slice p2 n c2] w fun e w' => e = .returned (.bool true) ∧ Below w.heap.size w w' := by
  have HH1 : Hid (SsAt w p1 n A K) := h1
  have HH2 : Hid (SsAt w p2 n C K) := h2
  have HE : Hid (∀ j, j < n → (A j).n ≤ 17592186044416 ∧ (C j).n = (A j).n ∧ (C j).d = (A j).d ∧ (C j).s = (A j).s) := fun j hj => ⟨hw j hj, he j hj⟩
  clear h1 h2 hw he
  go_enter Tryz.func32, Tryz.ntmps32
  go_wp2
  go_loopw [13] (fun v wr => ∃ i : Nat, v = .int .i64 i ∧ i ≤ n ∧ Below w.heap.size w wr) (fun v _ => n - (intOf v).toNat)
  case atStart => exact ⟨0, rfl, Nat.zero_le _, Below.refl _ _⟩
  case round =>
    obtain ⟨i, rfl, hi, hbel⟩ := hrel
    by_cases hlt : i < n
    · have dl : decide ((i : Int) < n) = true := decide_eq_true (by omega)
      have hm := meas hlt
      obtain hx | ⟨g1, o1, rfl, hg1, k1, q1⟩ := HH1.out.below hbel
      · omega
      obtain hx | ⟨g2, o2, rfl, hg2, k2, q2⟩ := HH2.out.below hbel
      · omega
      obtain ⟨e0, e1, e2, e3⟩ := HE.out i hlt
      obtain ⟨x0, x1, x2⟩ := k1 i hlt
      obtain ⟨y0, y1, y2⟩ := k2 i hlt
      have q2i := q2 i hlt
      rw [e1] at y0 q2i
      rw [e2] at y1
      rw [e3] at y2
      have HQ := sameState_yes (A i).p (C i).p (A i).n (A i).c (C i).c (K i) (A i).d (A i).s e0 wr.drew ((q1 i hlt).below (drewS wr)) (q2i.below (drewS wr))
      have HB : Hid (Below w.heap.size w wr) := hbel
      clear HH1 HH2 HE k1 k2 q1 q2 q2i e0 e1 e2 e3 hbel
      go_upto_region 6 with fail
      go_region_held3 (fun w' => (w'.cell? ⟨g1, o1 + i * 3, none⟩ = some (.slice (A i).p (A i).n (A i).c) ∧ w'.cell? ⟨g1, o1 + i * 3 + 1, none⟩ = some (.int .u64 (A i).d) ∧ w'.cell? ⟨g1, o1 + i * 3 + 2, none⟩ = some (.int .u64 (A i).s)) ∧ w'.cell? ⟨g2, o2 + i * 3, none⟩ = some (.slice (C i).p (A i).n (C i).c) ∧ w'.cell? ⟨g2, o2 + i * 3 + 1, none⟩ = some (.int .u64 (A i).d) ∧ w'.cell? ⟨g2, o2 + i * 3 + 2, none⟩ = some (.int .u64 (A i).s)) (first | exact KP | exact ⟨⟨x0, x1, x2⟩, y0, y1, y2⟩ | go_keep) ((go_at_call 20; (with_reducible refine HQ.mono ?_); rintro e w1 ⟨rfl, hb1⟩; have KP : (w1.cell? ⟨g1, o1 + i * 3, none⟩ = some (.slice (A i).p (A i).n (A i).c) ∧ w1.cell? ⟨g1, o1 + i * 3 + 1, none⟩ = some (.int .u64 (A i).d) ∧ w1.cell? ⟨g1, o1 + i * 3 + 2, none⟩ = some (.int .u64 (A i).s)) ∧ w1.cell? ⟨g2, o2 + i * 3, none⟩ = some (.slice (C i).p (A i).n (C i).c) ∧ w1.cell? ⟨g2, o2 + i * 3 + 1, none⟩ = some (.int .u64 (A i).d) ∧ w1.cell? ⟨g2, o2 + i * 3 + 2, none⟩ = some (.int .u64 (A i).s) := ⟨⟨(cell_below (W := wr.drew) (a := ⟨g1, o1 + i * 3, none⟩) hb1 hg1).trans x0, (cell_below (W := wr.drew) (a := ⟨g1, o1 + i * 3 + 1, none⟩) hb1 hg1).trans x1, (cell_below (W := wr.drew) (a := ⟨g1, o1 + i * 3 + 2, none⟩) hb1 hg1).trans x2⟩, (cell_below (W := wr.drew) (a := ⟨g2, o2 + i * 3, none⟩) hb1 hg2).trans y0, (cell_below (W := wr.drew) (a := ⟨g2, o2 + i * 3 + 1, none⟩) hb1 hg2).trans y1, (cell_below (W := wr.drew) (a := ⟨g2, o2 + i * 3 + 2, none⟩) hb1 hg2).trans y2⟩))
      all_goals (
        go_wp2
        have hbd : Below wr.heap.size wr w1 := (drewS wr).trans hb1
        exact ⟨⟨i + 1, rfl, hlt, HB.out.trans (hbd.mono HB.out.size)⟩, hm⟩)
    · have dl : decide ((i : Int) < n) = false := decide_eq_false (by omega)
      obtain rfl : i = n := by omega
      clear HH1 HH2 HE
      go_wp2
      go_ret
      exact ⟨rfl, hbel⟩
end Go.Proofs.YtagchghhpggnlaaGreat
