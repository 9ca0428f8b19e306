import Derived.Test.YtbcnlnigenpiiaaFS2
namespace Go.Proofs.Ytbcnlnigenpiiaa
open Go.ChangeShapes Go.WideShapes Go.ChangeAt Go.RowKit
set_option linter.unusedVariables false
set_option linter.unusedSimpArgs false

set_option maxRecDepth 100000 in
set_option maxHeartbeats 2000000 in
theorem sameState_yes (p1 p2 : Option Addr) (n c1 c2 : Nat) (K : Nat → Int) (d s : Int) (hn : n ≤ 17592186044416) (w : World) (h1 : KAt w p1 n K) (h2 : KAt w p2 n K) :
    Calls Try.prog 39 #[.agg #[.slice p1 n c1, .int .u64 d, .int .u64 s], .agg #[.slice p2 n c2, .int .u64 d, .int .u64 s]] w fun e w' => e = .returned (.bool true) ∧ Below w.heap.size w w' := by
  obtain ⟨w1, hw1⟩ : ∃ w1, (w.alloc (.cells #[.slice p1 n c1, .int .u64 d, .int .u64 s] 61)).alloc (.cells #[.slice p2 n c2, .int .u64 d, .int .u64 s] 61) = w1 := ⟨_, rfl⟩
  have hb1 : Below w.heap.size w w1 := by rw [← hw1]; exact ((Below.refl _ w).alloc (Nat.le_refl _) _).alloc (by simp) _
  have HC := sameWords_any p1 p2 n n c1 c2 K K hn w1 (h1.below hb1) (h2.below hb1)
  rw [decide_eq_true rfl, sameF_yes (fun _ _ => rfl)] at HC
  have HW : Hid ((w.alloc (.cells #[.slice p1 n c1, .int .u64 d, .int .u64 s] 61)).alloc (.cells #[.slice p2 n c2, .int .u64 d, .int .u64 s] 61) = w1) := hw1
  clear hw1 h1 h2
  go_enter Try.func39, Try.ntmps39
  go_wp2_with (go_at_call 45; rw [HW.out]; (with_reducible refine HC.mono ?_); rintro e w2 ⟨rfl, z2⟩)
  go_ret
  exact ⟨rfl, hb1.trans (z2.mono hb1.size)⟩
set_option maxRecDepth 100000 in
set_option maxHeartbeats 4000000 in
theorem sameStates_yes (n : Nat) (A C : Nat → Sa) (K : Nat → Nat → Int) (p1 p2 : Option Addr) (c1 c2 : Nat) (hL : n ≤ 4000000000000) (hw : ∀ j, j < n → (A j).n ≤ 17592186044416) (he : ∀ j, j < n → (C j).n = (A j).n ∧ (C j).d = (A j).d ∧ (C j).s = (A j).s) (w : World) (h1 : SsAt w p1 n A K) (h2 : SsAt w p2 n C K) :
    Calls Try.prog 20 #[.slice p1 n c1, .slice p2 n c2] w fun e w' => e = .returned (.bool true) ∧ Below w.heap.size w w' := by
  have HH1 : Hid (SsAt w p1 n A K) := h1
  have HH2 : Hid (SsAt w p2 n C K) := h2
  have HE : Hid (∀ j, j < n → (A j).n ≤ 17592186044416 ∧ (C j).n = (A j).n ∧ (C j).d = (A j).d ∧ (C j).s = (A j).s) := fun j hj => ⟨hw j hj, he j hj⟩
  clear h1 h2 hw he
  go_enter Try.func20, Try.ntmps20
  go_wp2
  go_loopw [13] (fun v wr => ∃ i : Nat, v = .int .i64 i ∧ i ≤ n ∧ Below w.heap.size w wr) (fun v _ => n - (intOf v).toNat)
  case atStart => exact ⟨0, rfl, Nat.zero_le _, Below.refl _ _⟩
  case round =>
    obtain ⟨i, rfl, hi, hbel⟩ := hrel
    by_cases hlt : i < n
    · have dl : decide ((i : Int) < n) = true := decide_eq_true (by omega)
      have hm := meas hlt
      obtain hx | ⟨g1, o1, rfl, hg1, k1, q1⟩ := HH1.out.below hbel
      · omega
      obtain hx | ⟨g2, o2, rfl, hg2, k2, q2⟩ := HH2.out.below hbel
      · omega
      obtain ⟨e0, e1, e2, e3⟩ := HE.out i hlt
      obtain ⟨x0, x1, x2⟩ := k1 i hlt
      obtain ⟨y0, y1, y2⟩ := k2 i hlt
      have q2i := q2 i hlt
      rw [e1] at y0 q2i
      rw [e2] at y1
      rw [e3] at y2
      have HQ := sameState_yes (A i).p (C i).p (A i).n (A i).c (C i).c (K i) (A i).d (A i).s e0 wr.drew ((q1 i hlt).below (drewS wr)) (q2i.below (drewS wr))
      have HB : Hid (Below w.heap.size w wr) := hbel
      clear HH1 HH2 HE k1 k2 q1 q2 q2i e0 e1 e2 e3 hbel
      go_upto_region 6 with fail
      go_region_held3 (fun w' => (w'.cell? ⟨g1, o1 + i * 3, none⟩ = some (.slice (A i).p (A i).n (A i).c) ∧ w'.cell? ⟨g1, o1 + i * 3 + 1, none⟩ = some (.int .u64 (A i).d) ∧ w'.cell? ⟨g1, o1 + i * 3 + 2, none⟩ = some (.int .u64 (A i).s)) ∧ w'.cell? ⟨g2, o2 + i * 3, none⟩ = some (.slice (C i).p (A i).n (C i).c) ∧ w'.cell? ⟨g2, o2 + i * 3 + 1, none⟩ = some (.int .u64 (A i).d) ∧ w'.cell? ⟨g2, o2 + i * 3 + 2, none⟩ = some (.int .u64 (A i).s)) (first | exact KP | exact ⟨⟨x0, x1, x2⟩, y0, y1, y2⟩ | go_keep) ((go_at_call 39; (with_reducible refine HQ.mono ?_); rintro e w1 ⟨rfl, hb1⟩; have KP : (w1.cell? ⟨g1, o1 + i * 3, none⟩ = some (.slice (A i).p (A i).n (A i).c) ∧ w1.cell? ⟨g1, o1 + i * 3 + 1, none⟩ = some (.int .u64 (A i).d) ∧ w1.cell? ⟨g1, o1 + i * 3 + 2, none⟩ = some (.int .u64 (A i).s)) ∧ w1.cell? ⟨g2, o2 + i * 3, none⟩ = some (.slice (C i).p (A i).n (C i).c) ∧ w1.cell? ⟨g2, o2 + i * 3 + 1, none⟩ = some (.int .u64 (A i).d) ∧ w1.cell? ⟨g2, o2 + i * 3 + 2, none⟩ = some (.int .u64 (A i).s) := ⟨⟨(cell_below (W := wr.drew) (a := ⟨g1, o1 + i * 3, none⟩) hb1 hg1).trans x0, (cell_below (W := wr.drew) (a := ⟨g1, o1 + i * 3 + 1, none⟩) hb1 hg1).trans x1, (cell_below (W := wr.drew) (a := ⟨g1, o1 + i * 3 + 2, none⟩) hb1 hg1).trans x2⟩, (cell_below (W := wr.drew) (a := ⟨g2, o2 + i * 3, none⟩) hb1 hg2).trans y0, (cell_below (W := wr.drew) (a := ⟨g2, o2 + i * 3 + 1, none⟩) hb1 hg2).trans y1, (cell_below (W := wr.drew) (a := ⟨g2, o2 + i * 3 + 2, none⟩) hb1 hg2).trans y2⟩))
      all_goals (
        go_wp2
        have hbd : Below wr.heap.size wr w1 := (drewS wr).trans hb1
        exact ⟨⟨i + 1, rfl, hlt, HB.out.trans (hbd.mono HB.out.size)⟩, hm⟩)
    · have dl : decide ((i : Int) < n) = false := decide_eq_false (by omega)
      obtain rfl : i = n := by omega
      clear HH1 HH2 HE
      go_wp2
      go_ret
      exact ⟨rfl, hbel⟩
set_option maxRecDepth 100000 in
set_option maxHeartbeats 4000000 in
theorem samePoint_yes (n : Nat) (A C : Nat → Sa) (K : Nat → Nat → Int) (p1 p2 : Option Addr) (c1 c2 : Nat) (m : Nat) (X : Nat → Se) (q1 q2 : Option Addr) (d1 d2 : Nat) (hL : n ≤ 4000000000000) (hw : ∀ j, j < n → (A j).n ≤ 17592186044416) (he : ∀ j, j < n → (C j).n = (A j).n ∧ (C j).d = (A j).d ∧ (C j).s = (A j).s) (hM : m ≤ 1000000) (w : World) (h1 : SsAt w p1 n A K) (h2 : SsAt w p2 n C K) (h3 : SIn w q1 m X) (h4 : SIn w q2 m X) :
    Calls Try.prog 8 #[.agg #[.slice p1 n c1, .slice q1 m d1, .slice none 0 0], .agg #[.slice p2 n c2, .slice q2 m d2, .slice none 0 0]] w fun e w' => e = .returned (.bool true) ∧ Below w.heap.size w w' := by
  obtain ⟨wb, hwb⟩ : ∃ wb, (w.alloc (.cells #[.slice p1 n c1, .slice q1 m d1, .slice none 0 0] 31)).alloc (.cells #[.slice p2 n c2, .slice q2 m d2, .slice none 0 0] 31) = wb := ⟨_, rfl⟩
  have hb0 : Below w.heap.size w wb := by rw [← hwb]; exact ((Below.refl _ w).alloc (Nat.le_refl _) _).alloc (by simp) _
  have hbox : wb.heap[w.heap.size]? = some (.cells #[.slice p1 n c1, .slice q1 m d1, .slice none 0 0] 31 (0, 0)) := by
    rw [← hwb, Below.heap_alloc _ _ _ (by simp)]
    exact World.alloc_heap_new w _
  have hbx2 : wb.heap[w.heap.size + 1]? = some (.cells #[.slice p2 n c2, .slice q2 m d2, .slice none 0 0] 31 (0, 0)) := by
    rw [← hwb]
    have := World.alloc_heap_new (w.alloc (.cells #[.slice p1 n c1, .slice q1 m d1, .slice none 0 0] 31)) (.cells #[.slice p2 n c2, .slice q2 m d2, .slice none 0 0] 31)
    rwa [World.size_alloc] at this
  have hsz : wb.heap.size = w.heap.size + 2 := by rw [← hwb]; simp
  have HW : Hid ((w.alloc (.cells #[.slice p1 n c1, .slice q1 m d1, .slice none 0 0] 31)).alloc (.cells #[.slice p2 n c2, .slice q2 m d2, .slice none 0 0] 31) = wb) := hwb
  have H1 : ∀ w', Below wb.heap.size wb w' → Hid (Calls Try.prog 20 #[.slice p1 n c1, .slice p2 n c2] w' fun e w9 => e = .returned (.bool true) ∧ Below w'.heap.size w' w9) := fun w' hb => sameStates_yes n A C K _ _ _ _ hL hw he w' ((h1.below hb0).below hb) ((h2.below hb0).below hb)
  have H2 : ∀ w', Below wb.heap.size wb w' → Hid (Calls Try.prog 21 #[.slice q1 m d1, .slice q2 m d2] w' fun e w9 => e = .returned (.bool true) ∧ Below w'.heap.size w' w9) := fun w' hb => sEvents_yes m X _ _ _ _ (by omega) w' ((h3.below hb0).below hb) ((h4.below hb0).below hb)
  have H3 : ∀ w', Hid (Calls Try.prog 21 #[.slice none 0 0, .slice none 0 0] w' fun e w9 => e = .returned (.bool true) ∧ Below w'.heap.size w' w9) := fun w' => sEvents_yes 0 X _ _ _ _ (by omega) w' (.inl rfl) (.inl rfl)
  clear h1 h2 h3 h4 hw he hL hM
  obtain ⟨c0, c1', c2'⟩ := cells3p hbox
  obtain ⟨e0, e1, e2⟩ := cells3p hbx2
  rw [← hwb] at c0 c1' c2' e0 e1 e2
  clear hwb
  go_enter Try.func8, Try.ntmps8
  go_wp2_with (first | (go_at_call 20; rw [HW.out]; (with_reducible refine (H1 wb (Below.refl _ _)).out.mono ?_); rintro e w1 ⟨rfl, hb1⟩; obtain ⟨c0, c1', c2'⟩ := cells3p ((hb1.block _ (by omega)).trans hbox); obtain ⟨e0, e1, e2⟩ := cells3p ((hb1.block _ (by omega)).trans hbx2)) | (go_at_call 21; (with_reducible refine (H2 w1 hb1).out.mono ?_); rintro e w2 ⟨rfl, hb2'⟩; have hb2 : Below wb.heap.size wb w2 := hb1.trans (hb2'.mono hb1.size); obtain ⟨c0, c1', c2'⟩ := cells3p ((hb2.block _ (by omega)).trans hbox); obtain ⟨e0, e1, e2⟩ := cells3p ((hb2.block _ (by omega)).trans hbx2)) | (go_at_call 21; (with_reducible refine (H3 w2).out.mono ?_); rintro e w3 ⟨rfl, hb3'⟩))
  go_ret
  have hb3 : Below wb.heap.size wb w3 := hb2.trans (hb3'.mono hb2.size)
  exact ⟨rfl, hb0.trans (hb3.mono hb0.size)⟩
end Go.Proofs.Ytbcnlnigenpiiaa
