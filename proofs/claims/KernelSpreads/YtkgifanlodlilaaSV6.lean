import Derived.Test.YtkgifanlodlilaaSV5
namespace Go.Proofs.Ytkgifanlodlilaa
open Go.ChangeShapes Go.WideShapes Go.ChangeAt Go.RowKit
set_option linter.unusedVariables false
set_option linter.unusedSimpArgs false

/-- a plan whose lists fit into memory -/
structure RoomyL (p : Pl) : Prop where
  np : p.np * 64 ≤ 140737488351232
  pg : ∀ j, j < p.np → roomyP (p.P j)
  nq : p.nq * 32 ≤ 140737488351232
  nw : ∀ j, j < p.nq → p.nw j ≤ 17592186044416
  ns : p.ns * 32 ≤ 140737488351232
/-- the lists of a plan lie in memory from b on -/
def PlNew (b : Nat) (p : Pl) (u : PlV) : Prop := (∀ g o, u.pp = some ⟨g, o, none⟩ → 0 < p.np → b ≤ g) ∧ (∀ j, j < p.np → (∀ g o, (u.V j).cp = some ⟨g, o, none⟩ → b ≤ g) ∧ ∀ g o, (u.V j).ep = some ⟨g, o, none⟩ → b ≤ g) ∧ (∀ g o, u.tp = some ⟨g, o, none⟩ → 0 < p.nq → b ≤ g) ∧ (∀ j, j < p.nq → ∀ g o, u.wp j = some ⟨g, o, none⟩ → b ≤ g) ∧ ∀ g o, u.sp = some ⟨g, o, none⟩ → b ≤ g
theorem put9 {W : World} {b : Nat} {a0 a1 a2 a3 a4 a5 a6 a7 a8 : Value} {t : TypeId} (h : W.heap[b]? = some (.cells #[a0, a1, a2, a3, a4, a5, a6, a7, a8] t (0, 0))) (c0 c1 c2 c3 c4 c5 c6 c7 c8 : Value) (W' : World) (e : ((((((((W.setCell ⟨b, 0, none⟩ c0).setCell ⟨b, 1, none⟩ c1).setCell ⟨b, 2, none⟩ c2).setCell ⟨b, 3, none⟩ c3).setCell ⟨b, 4, none⟩ c4).setCell ⟨b, 5, none⟩ c5).setCell ⟨b, 6, none⟩ c6).setCell ⟨b, 7, none⟩ c7).setCell ⟨b, 8, none⟩ c8 = W') :
    W'.heap[b]? = some (.cells #[c0, c1, c2, c3, c4, c5, c6, c7, c8] t (0, 0)) ∧ (∀ k, k ≠ b → W'.heap[k]? = W.heap[k]?) ∧ (∀ B w0, Below B w0 W → B ≤ b → Below B w0 W') ∧ W'.heap.size = W.heap.size := by
  subst e
  have h0 : (W.setCell ⟨b, 0, none⟩ c0).heap[b]? = some (.cells #[c0, a1, a2, a3, a4, a5, a6, a7, a8] t (0, 0)) := by rw [setCell_block _ _ _ _ h]; rfl
  have h1 : ((W.setCell ⟨b, 0, none⟩ c0).setCell ⟨b, 1, none⟩ c1).heap[b]? = some (.cells #[c0, c1, a2, a3, a4, a5, a6, a7, a8] t (0, 0)) := by rw [setCell_block _ _ _ _ h0]; rfl
  have h2 : (((W.setCell ⟨b, 0, none⟩ c0).setCell ⟨b, 1, none⟩ c1).setCell ⟨b, 2, none⟩ c2).heap[b]? = some (.cells #[c0, c1, c2, a3, a4, a5, a6, a7, a8] t (0, 0)) := by rw [setCell_block _ _ _ _ h1]; rfl
  have h3 : ((((W.setCell ⟨b, 0, none⟩ c0).setCell ⟨b, 1, none⟩ c1).setCell ⟨b, 2, none⟩ c2).setCell ⟨b, 3, none⟩ c3).heap[b]? = some (.cells #[c0, c1, c2, c3, a4, a5, a6, a7, a8] t (0, 0)) := by rw [setCell_block _ _ _ _ h2]; rfl
  have h4 : (((((W.setCell ⟨b, 0, none⟩ c0).setCell ⟨b, 1, none⟩ c1).setCell ⟨b, 2, none⟩ c2).setCell ⟨b, 3, none⟩ c3).setCell ⟨b, 4, none⟩ c4).heap[b]? = some (.cells #[c0, c1, c2, c3, c4, a5, a6, a7, a8] t (0, 0)) := by rw [setCell_block _ _ _ _ h3]; rfl
  have h5 : ((((((W.setCell ⟨b, 0, none⟩ c0).setCell ⟨b, 1, none⟩ c1).setCell ⟨b, 2, none⟩ c2).setCell ⟨b, 3, none⟩ c3).setCell ⟨b, 4, none⟩ c4).setCell ⟨b, 5, none⟩ c5).heap[b]? = some (.cells #[c0, c1, c2, c3, c4, c5, a6, a7, a8] t (0, 0)) := by rw [setCell_block _ _ _ _ h4]; rfl
  have h6 : (((((((W.setCell ⟨b, 0, none⟩ c0).setCell ⟨b, 1, none⟩ c1).setCell ⟨b, 2, none⟩ c2).setCell ⟨b, 3, none⟩ c3).setCell ⟨b, 4, none⟩ c4).setCell ⟨b, 5, none⟩ c5).setCell ⟨b, 6, none⟩ c6).heap[b]? = some (.cells #[c0, c1, c2, c3, c4, c5, c6, a7, a8] t (0, 0)) := by rw [setCell_block _ _ _ _ h5]; rfl
  have h7 : ((((((((W.setCell ⟨b, 0, none⟩ c0).setCell ⟨b, 1, none⟩ c1).setCell ⟨b, 2, none⟩ c2).setCell ⟨b, 3, none⟩ c3).setCell ⟨b, 4, none⟩ c4).setCell ⟨b, 5, none⟩ c5).setCell ⟨b, 6, none⟩ c6).setCell ⟨b, 7, none⟩ c7).heap[b]? = some (.cells #[c0, c1, c2, c3, c4, c5, c6, c7, a8] t (0, 0)) := by rw [setCell_block _ _ _ _ h6]; rfl
  have h8 : (((((((((W.setCell ⟨b, 0, none⟩ c0).setCell ⟨b, 1, none⟩ c1).setCell ⟨b, 2, none⟩ c2).setCell ⟨b, 3, none⟩ c3).setCell ⟨b, 4, none⟩ c4).setCell ⟨b, 5, none⟩ c5).setCell ⟨b, 6, none⟩ c6).setCell ⟨b, 7, none⟩ c7).setCell ⟨b, 8, none⟩ c8).heap[b]? = some (.cells #[c0, c1, c2, c3, c4, c5, c6, c7, c8] t (0, 0)) := by rw [setCell_block _ _ _ _ h7]; rfl
  refine ⟨h8, fun k hk => ?_, fun B w0 hb hB => ?_, by simp [World.setCell]⟩
  · rw [Below.heap_setCell _ _ _ _ hk, Below.heap_setCell _ _ _ _ hk, Below.heap_setCell _ _ _ _ hk, Below.heap_setCell _ _ _ _ hk, Below.heap_setCell _ _ _ _ hk, Below.heap_setCell _ _ _ _ hk, Below.heap_setCell _ _ _ _ hk, Below.heap_setCell _ _ _ _ hk, Below.heap_setCell _ _ _ _ hk]
  · exact ((((((((hb.setCell (p := ⟨b, 0, none⟩) hB _).setCell (p := ⟨b, 1, none⟩) hB _).setCell (p := ⟨b, 2, none⟩) hB _).setCell (p := ⟨b, 3, none⟩) hB _).setCell (p := ⟨b, 4, none⟩) hB _).setCell (p := ⟨b, 5, none⟩) hB _).setCell (p := ⟨b, 6, none⟩) hB _).setCell (p := ⟨b, 7, none⟩) hB _).setCell (p := ⟨b, 8, none⟩) hB _
theorem PsAt.kb {S : Nat → Prop} {W W' : World} {p : Option Addr} {n : Nat} {P : Nat → Pg} {V : Nat → PgV} (h : PsAt W p n P V) (hk : Kb S W W') (h0 : ∀ g o, p = some ⟨g, o, none⟩ → 0 < n → ¬ S g) (h1 : ∀ j, j < n → (∀ g o, (V j).cp = some ⟨g, o, none⟩ → ¬ S g) ∧ ∀ g o, (V j).ep = some ⟨g, o, none⟩ → ¬ S g) : PsAt W' p n P V := by
  by_cases hn : n = 0
  · exact .inl hn
  rcases h with h | ⟨g, o, rfl, hl, hc, hp⟩
  · exact .inl h
  · have hs := h0 g o rfl (by omega)
    exact .inr ⟨g, o, rfl, Nat.lt_of_lt_of_le hl hk.size, fun j hj => ⟨(cell_kb (a := ⟨g, o + j * 4, none⟩) hk hl hs).trans (hc j hj).1, (cell_kb (a := ⟨g, o + j * 4 + 1, none⟩) hk hl hs).trans (hc j hj).2.1, (cell_kb (a := ⟨g, o + j * 4 + 2, none⟩) hk hl hs).trans (hc j hj).2.2.1, (cell_kb (a := ⟨g, o + j * 4 + 3, none⟩) hk hl hs).trans (hc j hj).2.2.2⟩, fun j hj => (hp j hj).kb hk (h1 j hj).1 (h1 j hj).2⟩
theorem TsAt.kb {S : Nat → Prop} {W W' : World} {p : Option Addr} {n : Nat} {pr : Nat → Int} {nw : Nat → Nat} {K : Nat → Nat → Int} {wp : Nat → Option Addr} {wc : Nat → Nat} (h : TsAt W p n pr nw K wp wc) (hk : Kb S W W') (h0 : ∀ g o, p = some ⟨g, o, none⟩ → 0 < n → ¬ S g) (h1 : ∀ j, j < n → ∀ g o, wp j = some ⟨g, o, none⟩ → ¬ S g) : TsAt W' p n pr nw K wp wc := by
  by_cases hn : n = 0
  · exact .inl hn
  rcases h with h | ⟨g, o, rfl, hl, hc, hp⟩
  · exact .inl h
  · have hs := h0 g o rfl (by omega)
    exact .inr ⟨g, o, rfl, Nat.lt_of_lt_of_le hl hk.size, fun j hj => ⟨(cell_kb (a := ⟨g, o + j * 2, none⟩) hk hl hs).trans (hc j hj).1, (cell_kb (a := ⟨g, o + j * 2 + 1, none⟩) hk hl hs).trans (hc j hj).2⟩, fun j hj => (hp j hj).kb hk (h1 j hj)⟩
theorem StAt.kb {S : Nat → Prop} {W W' : World} {g o n : Nat} {F : Nat → St} (h : StAt W (some ⟨g, o, none⟩) n F) (hk : Kb S W W') (hs : ¬ S g) : StAt W' (some ⟨g, o, none⟩) n F := by
  rcases h with h | ⟨g', o', e, hl, hc⟩
  · exact .inl h
  · injection e with e
    injection e with e1 e2 e3
    subst e1 e2
    exact .inr ⟨g, o, rfl, Nat.lt_of_lt_of_le hl hk.size, fun j hj => ⟨(cell_kb (a := ⟨g, o + j * 4, none⟩) hk hl hs).trans (hc j hj).1, (cell_kb (a := ⟨g, o + j * 4 + 1, none⟩) hk hl hs).trans (hc j hj).2.1, (cell_kb (a := ⟨g, o + j * 4 + 2, none⟩) hk hl hs).trans (hc j hj).2.2.1, (cell_kb (a := ⟨g, o + j * 4 + 3, none⟩) hk hl hs).trans (hc j hj).2.2.2⟩⟩
theorem kat_w {W : World} {g n : Nat} {K : Nat → Int} (h : W.heap[g]? = some (.cells (intsL K n).toArray 2 (0, 0))) : KAt W (some ⟨g, 0, none⟩) n K := by
  refine .inr ⟨g, 0, rfl, (Array.getElem?_eq_some_iff.1 h).1, fun j hj => ?_⟩
  unfold World.cell?
  rw [h]
  have := intsL_get (K := K) hj
  simpa using this
theorem frz9 {W : World} {b : Nat} {cur : Array Value} {t : TypeId} (h : W.heap[b]? = some (.cells cur t (0, 0))) : ∀ k, W.frozen? ⟨b, k, none⟩ = false := fun k => by simp [World.frozen?, h]
set_option maxRecDepth 100000 in
set_option maxHeartbeats 8000000 in
theorem copyPlan_new (p : Pl) (v : PlV) (w : World) (h : PlAt w p v) (hr : RoomyL p) : Calls Try.prog 7 #[.agg #[.int .i64 p.ki, .slice v.pp p.np v.pc, .slice v.tp p.nq v.tc, .slice v.sp p.ns v.sc, .int .u64 p.sd, .int .u64 p.lk, .int .u64 p.en, .int .i64 p.bu, .int .i64 p.fu]] w fun e w' => ∃ u : PlV, e = .returned (.agg #[.int .i64 p.ki, .slice u.pp p.np u.pc, .slice u.tp p.nq u.tc, .slice u.sp p.ns u.sc, .int .u64 p.sd, .int .u64 p.lk, .int .u64 p.en, .int .i64 p.bu, .int .i64 p.fu]) ∧ PlAt w' p u ∧ PlNew w.heap.size p u ∧ Below w.heap.size w w' := by
  obtain ⟨iP, hP1, hP2, hP3, hP4⟩ := sinf infoPG
  obtain ⟨iT, hT1, hT2, hT3, hT4⟩ := sinf infoPT
  obtain ⟨iS, hS1, hS2, hS3, hS4⟩ := sinf infoST
  have hszS : (Try.prog.info? 36).map (·.size) = some 4 := by simp [hS1, hS3]
  obtain ⟨wb, hwb⟩ : ∃ wb, (w.alloc (.cells #[.int .i64 p.ki, .slice v.pp p.np v.pc, .slice v.tp p.nq v.tc, .slice v.sp p.ns v.sc, .int .u64 p.sd, .int .u64 p.lk, .int .u64 p.en, .int .i64 p.bu, .int .i64 p.fu] 27)).alloc (.cells #[.int .i64 0, .slice none 0 0, .slice none 0 0, .slice none 0 0, .int .u64 0, .int .u64 0, .int .u64 0, .int .i64 0, .int .i64 0] 27) = wb := ⟨_, rfl⟩
  have hb0 : Below w.heap.size w wb := by rw [← hwb]; exact ((Below.refl _ w).alloc (Nat.le_refl _) _).alloc (by simp) _
  have hbox : wb.heap[w.heap.size]? = some (.cells #[.int .i64 p.ki, .slice v.pp p.np v.pc, .slice v.tp p.nq v.tc, .slice v.sp p.ns v.sc, .int .u64 p.sd, .int .u64 p.lk, .int .u64 p.en, .int .i64 p.bu, .int .i64 p.fu] 27 (0, 0)) := by
    rw [← hwb, Below.heap_alloc _ _ _ (by simp)]
    exact World.alloc_heap_new w _
  have hres : wb.heap[w.heap.size + 1]? = some (.cells #[.int .i64 0, .slice none 0 0, .slice none 0 0, .slice none 0 0, .int .u64 0, .int .u64 0, .int .u64 0, .int .i64 0, .int .i64 0] 27 (0, 0)) := by
    rw [← hwb]
    have := World.alloc_heap_new (w.alloc (.cells #[.int .i64 p.ki, .slice v.pp p.np v.pc, .slice v.tp p.nq v.tc, .slice v.sp p.ns v.sc, .int .u64 p.sd, .int .u64 p.lk, .int .u64 p.en, .int .i64 p.bu, .int .i64 p.fu] 27)) (.cells #[.int .i64 0, .slice none 0 0, .slice none 0 0, .slice none 0 0, .int .u64 0, .int .u64 0, .int .u64 0, .int .i64 0, .int .i64 0] 27)
    rwa [World.size_alloc] at this
  have hsz : wb.heap.size = w.heap.size + 2 := by rw [← hwb]; simp
  have HW : Hid ((w.alloc (.cells #[.int .i64 p.ki, .slice v.pp p.np v.pc, .slice v.tp p.nq v.tc, .slice v.sp p.ns v.sc, .int .u64 p.sd, .int .u64 p.lk, .int .u64 p.en, .int .i64 p.bu, .int .i64 p.fu] 27)).alloc (.cells #[.int .i64 0, .slice none 0 0, .slice none 0 0, .slice none 0 0, .int .u64 0, .int .u64 0, .int .u64 0, .int .i64 0, .int .i64 0] 27) = wb) := hwb
  have HP : Hid (PlAt wb p v) := h.below hb0
  have H0 : Hid (PlAt w p v) := h
  have HR : Hid (RoomyL p) := hr
  clear h hr
  obtain ⟨⟨c0, c1, c2, c3⟩, c4, c5, c6, c7, c8⟩ := cells9 hbox
  rw [← hwb] at c0 c1 c2 c3 c4 c5 c6 c7 c8
  clear hwb
  go_enter Try.func7, Try.ntmps7
  go_wp2_with fail
  rw [HW.out]
  clear c0 c1 c2 c3 c4 c5 c6 c7 c8
  go_loopw [3, 13] (fun r x wr => ∃ (i : Nat) (V : Nat → PgV), x = .int .i64 (i : Int) ∧ i ≤ p.np ∧ Own wr wb.heap.size 51 4 r i (pgF p.P V) ∧ (∀ j, j < i → PAt wr (p.P j) (V j) ∧ EA wr r wb.heap.size (V j).cp ∧ EA wr r wb.heap.size (V j).ep) ∧ Below wb.heap.size wb wr) (fun _ x _ => p.np - (intOf x).toNat)
  case atStart => exact ⟨0, v.V, rfl, Nat.zero_le _, World.ownsRow_nil _ _ _ _, fun j hj => absurd hj (Nat.not_lt_zero _), Below.refl _ _⟩
  case round =>
    obtain ⟨i, V, rfl, hi, ho, hall, hbr⟩ := hrel
    have hboxr := (hbr.block _ (by omega)).trans hbox
    have hresr := (hbr.block _ (by omega)).trans hres
    by_cases hlt : i < p.np
    case pos =>
      have dlt : decide ((i : Int) < (p.np : Int)) = true := by simp; omega
      have i0 : (0 : Int) ≤ (i : Int) := by omega
      have i1 : (i : Int) < (p.np : Int) := by omega
      have hnp := HR.out.np
      have ei : IntKind.i64.wrap ((i : Int) + 1) = (i : Int) + 1 := by rw [IntKind.wrap_i64]; omega
      have hm := meas hlt
      obtain hz | ⟨g, o, hpp, hl, hc, hpa⟩ := HP.out.ps.below hbr
      · omega
      obtain ⟨x0, x1, x2, x3⟩ := hc i hlt
      have p1 : i + 1 ≤ maxLen := by unfold maxLen; omega
      have p2 : (i + 1) * 64 ≤ 140737488355328 := by omega
      have hba : Below wr.heap.size wr (wr.alloc (.cells #[.int .i64 (p.P i).words, .int .i64 (p.P i).locals, .slice (v.V i).cp (p.P i).n (v.V i).cc, .slice (v.V i).ep (p.P i).m (v.V i).ec] 51)) := (Below.refl _ wr).alloc (Nat.le_refl _) _
      have HC := copyProgram_new (p.P i) (v.V i) _ ((hpa i hlt).below hba) (HR.out.pg i hlt)
      have HA : Hid (Own wr wb.heap.size 51 4 u3 i (pgF p.P V) ∧ (∀ j, j < i → PAt wr (p.P j) (V j) ∧ EA wr u3 wb.heap.size (V j).cp ∧ EA wr u3 wb.heap.size (V j).ep) ∧ Below wb.heap.size wb wr ∧ Below wr.heap.size wr (wr.alloc (.cells #[.int .i64 (p.P i).words, .int .i64 (p.P i).locals, .slice (v.V i).cp (p.P i).n (v.V i).cc, .slice (v.V i).ep (p.P i).m (v.V i).ec] 51))) := ⟨ho, hall, hbr, hba⟩
      rw [hpp]
      clear hc hpa ho hall hbr hba hboxr hresr hl hpp
      go_wp2_with (first | (go_at_call 16; (with_reducible refine HC.mono ?_); rintro e w3 ⟨u, rfl, hu, hb3, hn1, hn2⟩; have H3 : Hid ((w3.alloc (.cells (pgL (p.P i) u).toArray 51)).ownsRow wb.heap.size 51 4 u3 i (cellsF (pgF p.P V) (i * 4)) ∧ (∀ j y, (pgL (p.P i) u)[j]? = some y → (w3.alloc (.cells (pgL (p.P i) u).toArray 51)).cell? ((⟨w3.heap.size, 0, none⟩ : Addr).add j) = some y) ∧ Below wb.heap.size wb (w3.alloc (.cells (pgL (p.P i) u).toArray 51)) ∧ Below wr.heap.size wr (w3.alloc (.cells (pgL (p.P i) u).toArray 51)) ∧ PAt (w3.alloc (.cells (pgL (p.P i) u).toArray 51)) (p.P i) u ∧ (∀ g o, u.cp = some ⟨g, o, none⟩ → wr.heap.size ≤ g ∧ g < (w3.alloc (.cells (pgL (p.P i) u).toArray 51)).heap.size) ∧ (∀ g o, u.ep = some ⟨g, o, none⟩ → wr.heap.size ≤ g ∧ g < (w3.alloc (.cells (pgL (p.P i) u).toArray 51)).heap.size)) := (by
          have h1 : Below wr.heap.size wr w3 := HA.out.2.2.2.trans (hb3.mono HA.out.2.2.2.size)
          have h2 : Below wb.heap.size wb w3 := HA.out.2.2.1.trans (h1.mono HA.out.2.2.1.size)
          have h3 : Below w3.heap.size w3 (w3.alloc (.cells (pgL (p.P i) u).toArray 51)) := (Below.refl _ w3).alloc (Nat.le_refl _) _
          have h4 := HA.out.2.2.2.size
          have h5 := h3.size
          refine ⟨World.ownsRow.alloc (srow_later HA.out.1 h1) _, scells_new w3 (pgL (p.P i) u) _, h2.trans (h3.mono h2.size), h1.trans (h3.mono h1.size), hu.below h3, fun g o e => ⟨by have := hn1 g o e; omega, by have := hn1 g o e; omega⟩, fun g o e => ⟨by have := hn2 g o e; omega, by have := hn2 g o e; omega⟩⟩)) | (at_builtin; refine wpList_append_own_at _ rfl _ _ 22 rfl wb.heap.size 51 iP _ 4 64 Try.underlying22 hP1 hP2 hP3 hP4 rfl (by decide) _ _ _ rfl H3.out.1 ⟨w3.heap.size, 0, none⟩ 1 1 (pgL (p.P i) u) rfl rfl H3.out.2.1 (by simp [pgL, Value.oneCell']) p1 p2 H3.out.2.2.1.size ?_; intro v' w9 hown9 hgrow9 _ hnb9))
      have hb9 : Below wb.heap.size wb w9 := H3.out.2.2.1.grown hgrow9 H3.out.2.2.1.size (fun r' e => (srow_lt H3.out.1 r' e).1)
      have hkb := Kb.grown hgrow9
      refine ⟨⟨i + 1, fun j => if j = i then u else V j, rfl, hlt, ?_, fun j hj => ?_, hb9⟩, hm⟩
      · unfold Own
        rw [← pg_app]
        exact hown9
      · obtain ⟨q1, q2, q3, q4, q5, q6, q7⟩ := H3.out
        have hlt9 := fun k hk => (srow_lt HA.out.1 k hk).2
        have hz1 := q4.size
        have hz2 := HA.out.2.2.1.size
        dsimp only
        by_cases e : j = i
        · rw [if_pos e, e]
          have e1 : EA w9 v' wb.heap.size u.cp := EA.fresh (W := wr) (r := u3) q6 hz2 hlt9 hkb.size hnb9
          have e2 : EA w9 v' wb.heap.size u.ep := EA.fresh (W := wr) (r := u3) q7 hz2 hlt9 hkb.size hnb9
          refine ⟨q5.kb hkb (fun g o e9 h9 => ?_) (fun g o e9 h9 => ?_), e1, e2⟩
          · have a1 := q6 g o e9
            have a2 := hlt9 g h9.symm
            omega
          · have a1 := q7 g o e9
            have a2 := hlt9 g h9.symm
            omega
        · rw [if_neg e]
          obtain ⟨a1, a2, a3⟩ := HA.out.2.1 j (by omega)
          exact ⟨(a1.below q4).kb hkb (fun g o e9 h9 => (a2 g o e9).2.2 h9) (fun g o e9 h9 => (a3 g o e9).2.2 h9), a2.step hz1 hkb.size hnb9, a3.step hz1 hkb.size hnb9⟩
    have dlt : decide ((i : Int) < (p.np : Int)) = false := by simp; omega
    obtain rfl : i = p.np := by omega
    obtain ⟨pq, pqc, hpq, hps⟩ := own_ps ho (fun j hj => (hall j hj).1)
    subst hpq
    have HPS : Hid (PsAt wr pq p.np p.P V ∧ (∀ g o, pq = some ⟨g, o, none⟩ → 0 < p.np → wb.heap.size ≤ g) ∧ ∀ j, j < p.np → EA wr (.slice pq p.np pqc) wb.heap.size (V j).cp ∧ EA wr (.slice pq p.np pqc) wb.heap.size (V j).ep) := by
      refine ⟨hps, fun g o e hp => ?_, fun j hj => (hall j hj).2⟩
      rcases Own.form ho with ⟨_, h2⟩ | ⟨g', c', h1, h2, h3⟩
      · omega
      · injection h1 with h4 h5 h6
        rw [h4] at e
        injection e with e
        injection e with e1 e2 e3
        omega
    obtain ⟨w5, hw5⟩ : ∃ w5, wr.setCell ⟨w.heap.size, 1, none⟩ (.slice pq p.np pqc) = w5 := ⟨_, rfl⟩
    have hbox5 : w5.heap[w.heap.size]? = some (.cells #[.int .i64 p.ki, .slice pq p.np pqc, .slice v.tp p.nq v.tc, .slice v.sp p.ns v.sc, .int .u64 p.sd, .int .u64 p.lk, .int .u64 p.en, .int .i64 p.bu, .int .i64 p.fu] 27 (0, 0)) := by rw [← hw5, setCell_block _ _ _ _ hboxr]; rfl
    have hres5 : w5.heap[w.heap.size + 1]? = some (.cells #[.int .i64 0, .slice none 0 0, .slice none 0 0, .slice none 0 0, .int .u64 0, .int .u64 0, .int .u64 0, .int .i64 0, .int .i64 0] 27 (0, 0)) := by
      rw [← hw5, Below.heap_setCell _ _ _ _ (by show w.heap.size + 1 ≠ w.heap.size; omega)]
      exact hresr
    have hk5 : Kb (fun k => k = w.heap.size ∨ k = w.heap.size + 1) wr w5 := by rw [← hw5]; exact Kb.set wr _ _ _ (.inl rfl)
    have hb5 : Below w.heap.size w w5 := by
      rw [← hw5]
      exact (hb0.trans (hbr.mono hb0.size)).setCell (p := ⟨w.heap.size, 1, none⟩) (Nat.le_refl _) _
    have hsz5 : wb.heap.size ≤ w5.heap.size := Nat.le_trans hbr.size hk5.size
    have rf1 := frz9 hboxr 1
    obtain ⟨⟨c0, c1, c2, c3⟩, c4, c5, c6, c7, c8⟩ := cells9 hboxr
    obtain ⟨⟨d0, d1, d2, d3⟩, d4, d5, d6, d7, d8⟩ := cells9 hbox5
    have HP1 : Hid (wr.frozen? ⟨w.heap.size, 1, none⟩ = false) := rf1
    go_upto_region 9 with fail
    try rw [hw5]
    clear c0 c1 c2 c3 c4 c5 c6 c7 c8 rf1 HP1 ho hall hps hboxr hresr
    go_wp2_with fail
    clear d0 d1 d2 d3 d4 d5 d6 d7 d8
    have HW5 : Hid (wr.setCell ⟨w.heap.size, 1, none⟩ (.slice pq p.np pqc) = w5) := hw5
    have HBR : Hid (Below wb.heap.size wb wr) := hbr
    clear hw5 hbr
    obtain ⟨wx, hwx⟩ : ∃ wx, wr = wx := ⟨_, rfl⟩
    rw [hwx] at HPS hk5 HW5 HBR
    go_loopw [6, 28] (fun r x wr => ∃ (i : Nat) (wp : Nat → Option Addr) (wc : Nat → Nat), x = .int .i64 (i : Int) ∧ i ≤ p.nq ∧ Own wr w5.heap.size 54 2 r i (ptF p.pr p.nw wp wc) ∧ (∀ j, j < i → KAt wr (wp j) (p.nw j) (p.K j) ∧ EA wr r w5.heap.size (wp j)) ∧ Below w5.heap.size w5 wr) (fun _ x _ => p.nq - (intOf x).toNat)
    case atStart => exact ⟨0, v.wp, v.wc, rfl, Nat.zero_le _, World.ownsRow_nil _ _ _ _, fun j hj => absurd hj (Nat.not_lt_zero _), Below.refl _ _⟩
    case round =>
      obtain ⟨i, wp, wc, rfl, hi, ho, hall, hbr⟩ := hrel
      have hboxr := (hbr.block _ (by omega)).trans hbox5
      have hresr := (hbr.block _ (by omega)).trans hres5
      by_cases hlt : i < p.nq
      case pos =>
        have dlt : decide ((i : Int) < (p.nq : Int)) = true := by simp; omega
        have i0 : (0 : Int) ≤ (i : Int) := by omega
        have i1 : (i : Int) < (p.nq : Int) := by omega
        have hnq := HR.out.nq
        have ei : IntKind.i64.wrap ((i : Int) + 1) = (i : Int) + 1 := by rw [IntKind.wrap_i64]; omega
        have hm := meas hlt
        obtain hz | ⟨g, o, hpp, hl, hc, hpa⟩ := (H0.out.below (hb5.trans (hbr.mono hb5.size))).ts
        · omega
        obtain ⟨y0, y1⟩ := hc i hlt
        have p1 : i + 1 ≤ maxLen := by unfold maxLen; omega
        have p2 : (i + 1) * 32 ≤ 140737488355328 := by omega
        have hba : Below wr.heap.size wr (wr.alloc (.cells #[.int .i64 (p.pr i), .slice (v.wp i) (p.nw i) (v.wc i)] 54)).drew := ((Below.refl _ wr).alloc (Nat.le_refl _) _).drew
        have hpb : (wr.alloc (.cells #[.int .i64 (p.pr i), .slice (v.wp i) (p.nw i) (v.wc i)] 54)).drew.heap[wr.heap.size]? = some (.cells #[.int .i64 (p.pr i), .slice (v.wp i) (p.nw i) (v.wc i)] 54 (0, 0)) := World.alloc_heap_new wr _
        have hsb : (wr.alloc (.cells #[.int .i64 (p.pr i), .slice (v.wp i) (p.nw i) (v.wc i)] 54)).drew.heap.size = wr.heap.size + 1 := World.size_alloc wr _
        have HC := copyWords_any (v.wp i) (p.nw i) (v.wc i) (p.K i) (wr.alloc (.cells #[.int .i64 (p.pr i), .slice (v.wp i) (p.nw i) (v.wc i)] 54)).drew (HR.out.nw i hlt) ((hpa i hlt).below hba)
        obtain ⟨b3, hb3⟩ : ∃ b3, (wr.alloc (.cells #[.int .i64 (p.pr i), .slice (v.wp i) (p.nw i) (v.wc i)] 54)).drew.heap.size = b3 := ⟨_, rfl⟩
        rw [hb3] at HC
        have HA : Hid (Own wr w5.heap.size 54 2 u6 i (ptF p.pr p.nw wp wc) ∧ (∀ j, j < i → KAt wr (wp j) (p.nw j) (p.K j) ∧ EA wr u6 w5.heap.size (wp j)) ∧ Below w5.heap.size w5 wr ∧ Below wr.heap.size wr (wr.alloc (.cells #[.int .i64 (p.pr i), .slice (v.wp i) (p.nw i) (v.wc i)] 54)).drew ∧ (wr.alloc (.cells #[.int .i64 (p.pr i), .slice (v.wp i) (p.nw i) (v.wc i)] 54)).drew.heap[wr.heap.size]? = some (.cells #[.int .i64 (p.pr i), .slice (v.wp i) (p.nw i) (v.wc i)] 54 (0, 0)) ∧ (wr.alloc (.cells #[.int .i64 (p.pr i), .slice (v.wp i) (p.nw i) (v.wc i)] 54)).drew.heap.size = b3 ∧ b3 = wr.heap.size + 1) := ⟨ho, hall, hbr, hba, hpb, hb3, by omega⟩
        rw [hpp]
        clear hc hpa ho hall hbr hba hboxr hresr hl hpp hpb hsb hb3
        go_upto_region 12 with fail
        go_region_held3 (fun w' => w'.cell? ⟨wr.heap.size, 0, none⟩ = some (.int .i64 (p.pr i)) ∧ w'.cell? ⟨wr.heap.size, 1, none⟩ = some (.slice (v.wp i) (p.nw i) (v.wc i))) (first | exact KP | go_keep) (first | (go_at_call 17; (with_reducible refine HC.mono ?_); rintro e w3 ⟨rfl, hrow3, hb3', hlt3⟩; have hpb3 : w3.heap[wr.heap.size]? = some (.cells #[.int .i64 (p.pr i), .slice (v.wp i) (p.nw i) (v.wc i)] 54 (0, 0)) := (hb3'.block _ (by have := HA.out.2.2.2.2.2; omega)).trans HA.out.2.2.2.2.1; have KP : w3.cell? ⟨wr.heap.size, 0, none⟩ = some (.int .i64 (p.pr i)) ∧ w3.cell? ⟨wr.heap.size, 1, none⟩ = some (.slice (v.wp i) (p.nw i) (v.wc i)) := ⟨by simp [World.cell?, hpb3], by simp [World.cell?, hpb3]⟩; have H3 : Hid ((w3.alloc (.cells (ptL (p.pr i) (some ⟨b3, 0, none⟩) (p.nw i) (p.nw i)).toArray 54)).ownsRow w5.heap.size 54 2 u6 i (cellsF (ptF p.pr p.nw wp wc) (i * 2)) ∧ (∀ j y, (ptL (p.pr i) (some ⟨b3, 0, none⟩) (p.nw i) (p.nw i))[j]? = some y → (w3.alloc (.cells (ptL (p.pr i) (some ⟨b3, 0, none⟩) (p.nw i) (p.nw i)).toArray 54)).cell? ((⟨w3.heap.size, 0, none⟩ : Addr).add j) = some y) ∧ Below w5.heap.size w5 (w3.alloc (.cells (ptL (p.pr i) (some ⟨b3, 0, none⟩) (p.nw i) (p.nw i)).toArray 54)) ∧ Below wr.heap.size wr (w3.alloc (.cells (ptL (p.pr i) (some ⟨b3, 0, none⟩) (p.nw i) (p.nw i)).toArray 54)) ∧ KAt (w3.alloc (.cells (ptL (p.pr i) (some ⟨b3, 0, none⟩) (p.nw i) (p.nw i)).toArray 54)) (some ⟨b3, 0, none⟩) (p.nw i) (p.K i) ∧ wr.heap.size ≤ b3 ∧ b3 < (w3.alloc (.cells (ptL (p.pr i) (some ⟨b3, 0, none⟩) (p.nw i) (p.nw i)).toArray 54)).heap.size ∧ (w3.alloc (.cells (ptL (p.pr i) (some ⟨b3, 0, none⟩) (p.nw i) (p.nw i)).toArray 54)).heap[wr.heap.size]? = some (.cells #[.int .i64 (p.pr i), .slice (v.wp i) (p.nw i) (v.wc i)] 54 (0, 0))) := (by
          have hba := HA.out.2.2.2.1
          have h1 : Below wr.heap.size wr w3 := hba.trans (hb3'.mono (by have := HA.out.2.2.2.2.2; omega))
          have h2 : Below w5.heap.size w5 w3 := HA.out.2.2.1.trans (h1.mono HA.out.2.2.1.size)
          have h3 : Below w3.heap.size w3 (w3.alloc (.cells (ptL (p.pr i) (some ⟨b3, 0, none⟩) (p.nw i) (p.nw i)).toArray 54)) := (Below.refl _ w3).alloc (Nat.le_refl _) _
          have h4 := h3.size
          have h5 := HA.out.2.2.2.2.2
          exact ⟨World.ownsRow.alloc (srow_later HA.out.1 h1) _, scells_new w3 (ptL (p.pr i) (some ⟨b3, 0, none⟩) (p.nw i) (p.nw i)) _, h2.trans (h3.mono h2.size), h1.trans (h3.mono h1.size), KAt.below (W := w3) (kat_w hrow3) h3, by omega, by omega, (h3.block _ (by omega)).trans hpb3⟩); clear hrow3 hb3' hpb3) | (refine step_ap rfl (.tmp 32) (.tmp 39) 23 rfl w5.heap.size 54 iT _ 2 32 Try.underlying23 hT1 hT2 hT3 hT4 rfl (by decide) u6 i (cellsF (ptF p.pr p.nw wp wc) (i * 2)) (by simp [Act.eval]) H3.out.1 ⟨w3.heap.size, 0, none⟩ 1 1 (ptL (p.pr i) (some ⟨b3, 0, none⟩) (p.nw i) (p.nw i)) (by simp [Act.eval]) rfl H3.out.2.1 (by simp [ptL, Value.oneCell']) p1 p2 H3.out.2.2.1.size ?_; intro v' w9 hown9 hgrow9 hnb9; have hpb9 : w9.heap[wr.heap.size]? = some (.cells #[.int .i64 (p.pr i), .slice (v.wp i) (p.nw i) (v.wc i)] 54 (0, 0)) := (hgrow9.block wr.heap.size (Array.getElem?_eq_some_iff.1 H3.out.2.2.2.2.2.2.2).1 (fun e => absurd (srow_lt HA.out.1 _ e.symm).2 (Nat.lt_irrefl _))).trans H3.out.2.2.2.2.2.2.2; clear KP; have KP : w9.cell? ⟨wr.heap.size, 0, none⟩ = some (.int .i64 (p.pr i)) ∧ w9.cell? ⟨wr.heap.size, 1, none⟩ = some (.slice (v.wp i) (p.nw i) (v.wc i)) := ⟨by simp [World.cell?, hpb9], by simp [World.cell?, hpb9]⟩; have H9 : Hid (w9.ownsRow w5.heap.size 54 2 v' (i + 1) (cellsF (ptF p.pr p.nw wp wc) (i * 2) ++ ptL (p.pr i) (some ⟨b3, 0, none⟩) (p.nw i) (p.nw i)) ∧ (w3.alloc (.cells (ptL (p.pr i) (some ⟨b3, 0, none⟩) (p.nw i) (p.nw i)).toArray 54)).grownBy w9 u6.ownBlock ∧ (v'.ownBlock = u6.ownBlock ∨ v'.ownBlock = some (w3.alloc (.cells (ptL (p.pr i) (some ⟨b3, 0, none⟩) (p.nw i) (p.nw i)).toArray 54)).heap.size)) := ⟨hown9, hgrow9, hnb9⟩; clear hown9 hgrow9 hnb9 hpb9))
        all_goals (try go_wp2_with fail)
        all_goals (
          obtain ⟨hown9, hgrow9, hnb9⟩ := H9.out
          have hb9 : Below w5.heap.size w5 w9 := H3.out.2.2.1.grown hgrow9 H3.out.2.2.1.size (fun r' e => (srow_lt H3.out.1 r' e).1)
          have hkb := Kb.grown hgrow9
          refine ⟨⟨i + 1, (fun j => if j = i then some ⟨b3, 0, none⟩ else wp j), (fun j => if j = i then p.nw i else wc j), rfl, hlt, ?_, fun j hj => ?_, hb9⟩, hm⟩
          · unfold Own
            rw [← pt_app]
            exact hown9
          · obtain ⟨q1, q2, q3, q4, q5, q6, q7, _⟩ := H3.out
            have hlt9 := fun k hk => (srow_lt HA.out.1 k hk).2
            have hz1 := q4.size
            have hz2 := HA.out.2.2.1.size
            dsimp only
            by_cases e : j = i
            · rw [if_pos e, e]
              have fr : ∀ g o, (some ⟨b3, 0, none⟩ : Option Addr) = some ⟨g, o, none⟩ → wr.heap.size ≤ g ∧ g < (w3.alloc (.cells (ptL (p.pr i) (some ⟨b3, 0, none⟩) (p.nw i) (p.nw i)).toArray 54)).heap.size := fun g o e9 => by
                injection e9 with e9
                injection e9 with e1 e2 e3
                omega
              refine ⟨q5.kb hkb (fun g o e9 h9 => ?_), EA.fresh (W := wr) (r := u6) fr hz2 hlt9 hkb.size hnb9⟩
              have a1 := fr g o e9
              have a2 := hlt9 g h9.symm
              omega
            · rw [if_neg e]
              obtain ⟨a1, a2⟩ := HA.out.2.1 j (by omega)
              exact ⟨(a1.below q4).kb hkb (fun g o e9 h9 => (a2 g o e9).2.2 h9), a2.step hz1 hkb.size hnb9⟩)
      have dlt : decide ((i : Int) < (p.nq : Int)) = false := by simp; omega
      obtain rfl : i = p.nq := by omega
      obtain ⟨tq, tqc, htq, hts⟩ := own_ts ho (fun j hj => (hall j hj).1)
      subst htq
      have HTS : Hid (TsAt wr tq p.nq p.pr p.nw p.K wp wc ∧ (∀ g o, tq = some ⟨g, o, none⟩ → 0 < p.nq → w5.heap.size ≤ g) ∧ ∀ j, j < p.nq → EA wr (.slice tq p.nq tqc) w5.heap.size (wp j)) := by
        refine ⟨hts, fun g o e hp => ?_, fun j hj => (hall j hj).2⟩
        rcases Own.form ho with ⟨_, h2⟩ | ⟨g', c', h1, h2, h3⟩
        · omega
        · injection h1 with h4 h5 h6
          rw [h4] at e
          injection e with e
          injection e with e1 e2 e3
          omega
      obtain ⟨w6, hw6⟩ : ∃ w6, wr.setCell ⟨w.heap.size, 2, none⟩ (.slice tq p.nq tqc) = w6 := ⟨_, rfl⟩
      have hbox6 : w6.heap[w.heap.size]? = some (.cells #[.int .i64 p.ki, .slice pq p.np pqc, .slice tq p.nq tqc, .slice v.sp p.ns v.sc, .int .u64 p.sd, .int .u64 p.lk, .int .u64 p.en, .int .i64 p.bu, .int .i64 p.fu] 27 (0, 0)) := by rw [← hw6, setCell_block _ _ _ _ hboxr]; rfl
      have hres6 : w6.heap[w.heap.size + 1]? = some (.cells #[.int .i64 0, .slice none 0 0, .slice none 0 0, .slice none 0 0, .int .u64 0, .int .u64 0, .int .u64 0, .int .i64 0, .int .i64 0] 27 (0, 0)) := by
        rw [← hw6, Below.heap_setCell _ _ _ _ (by show w.heap.size + 1 ≠ w.heap.size; omega)]
        exact hresr
      have hk6 : Kb (fun k => k = w.heap.size ∨ k = w.heap.size + 1) wr w6 := by rw [← hw6]; exact Kb.set wr _ _ _ (.inl rfl)
      have hb6 : Below w.heap.size w w6 := by
        rw [← hw6]
        exact (hb5.trans (hbr.mono hb5.size)).setCell (p := ⟨w.heap.size, 2, none⟩) (Nat.le_refl _) _
      have hsz6 : w5.heap.size ≤ w6.heap.size := Nat.le_trans hbr.size hk6.size
      have rf2 := frz9 hboxr 2
      obtain ⟨⟨c0, c1, c2, c3⟩, c4, c5, c6, c7, c8⟩ := cells9 hboxr
      obtain ⟨⟨d0, d1, d2, d3⟩, d4, d5, d6, d7, d8⟩ := cells9 hbox6
      have HKX : Hid (Kb (fun k => k = w.heap.size ∨ k = w.heap.size + 1) wx w6) := (hk5.trans (Kb.below hbr)).trans hk6
      have HK6 : Hid (Kb (fun k => k = w.heap.size ∨ k = w.heap.size + 1) wr w6) := hk6
      have HS6 : Hid (StAt w6 v.sp p.ns p.S) := (H0.out.below hb6).st
      clear ho hall hts hk6
      go_upto_region 15 with fail
      try rw [hw6]
      clear c0 c1 c2 c3 c4 c5 c6 c7 c8 rf2 hboxr hresr hbr
      have hns := HR.out.ns
      go_wp2_with (at_make; refine wpList_make_full _ rfl (.tmp 46) (.tmp 46) 24 rfl w6.heap.size 36 iS _ 4 Try.underlying24 hS1 hS2 hS3 .i64 .i64 p.ns p.ns p.ns rfl rfl rfl rfl ?c1 ?c2 ?c3 ?_)
      case c1 => rw [hS4]; omega
      case c2 => unfold maxLen; omega
      case c3 => exact Nat.le_refl _
      intro w7 hown hgrow
      have hb7 : Below w6.heap.size w6 w7 := (Below.refl _ _).grown hgrow (Nat.le_refl _) (by simp)
      have hO7 := own_of hown
      have hsrc : p.ns = 0 ∨ ∃ ad, v.sp = some ad ∧ ∀ j, j < p.ns * 4 → w7.cell? (ad.add j) = some (stF p.S j) := by
        rcases HS6.out.below hb7 with h9 | ⟨g, o, e9, hl, hc⟩
        · exact .inl h9
        · exact .inr ⟨_, e9, fun j hj => by rw [addr_add0]; exact StAt.cellsAt hc j hj⟩
      have HO7 : Hid (Own w7 w6.heap.size 36 4 (.slice (some ⟨w6.heap.size, 0, none⟩) p.ns p.ns) p.ns _) := hO7
      have HSRC : Hid (p.ns = 0 ∨ ∃ ad, v.sp = some ad ∧ ∀ j, j < p.ns * 4 → w7.cell? (ad.add j) = some (stF p.S j)) := hsrc
      have hbx7 := (hb7.block _ (by omega)).trans hbox6
      clear d0 d1 d2 d3 d4 d5 d6 d7 d8
      obtain ⟨⟨d0, d1, d2, d3⟩, d4, d5, d6, d7, d8⟩ := cells9 hbx7
      clear hown hgrow hO7 hsrc hbx7
      go_upto_region 17 with (refine wpList_copy_head rfl (.tmp 48) (.tmp 50) 24 24 rfl 36 4 Try.underlying24 hszS w6.heap.size w6.heap.size p.ns p.ns p.ns v.sc v.sp rfl rfl (Nat.le_refl _) _ (stF p.S) HO7.out (fun j _ => stF_one p.S j) HSRC.out w6.heap.size w6 hb7 (Nat.le_refl _) ?_; intro w8 h8 hb8; have hbx8 := (hb8.block _ (by omega)).trans hbox6; have hrs8 := (hb8.block _ (by omega)).trans hres6)
      have hO8 : Own w8 w6.heap.size 36 4 (.slice (some ⟨w6.heap.size, 0, none⟩) p.ns p.ns) p.ns (stF p.S) := h8.out.congr fun j hj => by rw [if_pos hj]
      have HST : Hid (StAt w8 (some ⟨w6.heap.size, 0, none⟩) p.ns p.S) := own_st hO8
      clear h8 hO8 HO7 HSRC d0 d1 d2 d3 d4 d5 d6 d7 d8
      obtain ⟨⟨d0, d1, d2, d3⟩, d4, d5, d6, d7, d8⟩ := cells9 hbx8
      have rf3 := frz9 hbx8 3
      obtain ⟨w9, hw9⟩ : ∃ w9, w8.setCell ⟨w.heap.size, 3, none⟩ (.slice (some ⟨w6.heap.size, 0, none⟩) p.ns p.ns) = w9 := ⟨_, rfl⟩
      have hbx9 : w9.heap[w.heap.size]? = some (.cells #[.int .i64 p.ki, .slice pq p.np pqc, .slice tq p.nq tqc, .slice (some ⟨w6.heap.size, 0, none⟩) p.ns p.ns, .int .u64 p.sd, .int .u64 p.lk, .int .u64 p.en, .int .i64 p.bu, .int .i64 p.fu] 27 (0, 0)) := by rw [← hw9, setCell_block _ _ _ _ hbx8]; rfl
      have hrs9 : w9.heap[w.heap.size + 1]? = some (.cells #[.int .i64 0, .slice none 0 0, .slice none 0 0, .slice none 0 0, .int .u64 0, .int .u64 0, .int .u64 0, .int .i64 0, .int .i64 0] 27 (0, 0)) := by
        rw [← hw9, Below.heap_setCell _ _ _ _ (by show w.heap.size + 1 ≠ w.heap.size; omega)]
        exact hrs8
      have hk9 : Kb (fun k => k = w.heap.size ∨ k = w.heap.size + 1) w8 w9 := by rw [← hw9]; exact Kb.set w8 _ _ _ (.inl rfl)
      have hb9 : Below w.heap.size w w9 := by
        rw [← hw9]
        exact (hb6.trans (hb8.mono hb6.size)).setCell (p := ⟨w.heap.size, 3, none⟩) (Nat.le_refl _) _
      have HK69 : Hid (Kb (fun k => k = w.heap.size ∨ k = w.heap.size + 1) w6 w9 ∧ Kb (fun k => k = w.heap.size ∨ k = w.heap.size + 1) w8 w9 ∧ Below w.heap.size w w9) := ⟨(Kb.below hb8).trans hk9, hk9, hb9⟩
      go_upto_region 18 with fail
      try rw [hw9]
      clear d0 d1 d2 d3 d4 d5 d6 d7 d8 rf3 hbx8 hrs8 hb8 hk9 hb9
      obtain ⟨⟨d0, d1, d2, d3⟩, d4, d5, d6, d7, d8⟩ := cells9 hbx9
      obtain ⟨⟨z0, z1, z2, z3⟩, z4, z5, z6, z7, z8⟩ := cells9 hrs9
      have zf := frz9 hrs9
      have zf0 := zf 0; have zf1 := zf 1; have zf2 := zf 2; have zf3 := zf 3; have zf4 := zf 4; have zf5 := zf 5; have zf6 := zf 6; have zf7 := zf 7; have zf8 := zf 8
      have HRS : Hid (w9.heap[w.heap.size + 1]? = some (.cells #[.int .i64 0, .slice none 0 0, .slice none 0 0, .slice none 0 0, .int .u64 0, .int .u64 0, .int .u64 0, .int .i64 0, .int .i64 0] 27 (0, 0))) := hrs9
      clear zf hw9 hw6 hbx9 hrs9
      go_wp2_with fail
      generalize hWF : (World.setCell (World.setCell (World.setCell (World.setCell (World.setCell (World.setCell (World.setCell (World.setCell (World.setCell w9 _ _) _ _) _ _) _ _) _ _) _ _) _ _) _ _) _ _) = wF
      obtain ⟨q1, q2, q3, q4⟩ := put9 HRS.out _ _ _ _ _ _ _ _ _ wF hWF
      obtain ⟨⟨e0, e1, e2, e3⟩, e4, e5, e6, e7, e8⟩ := cells9 q1
      refine bodyPost_ret (v := .agg #[.int .i64 p.ki, .slice pq p.np pqc, .slice tq p.nq tqc, .slice (some ⟨w6.heap.size, 0, none⟩) p.ns p.ns, .int .u64 p.sd, .int .u64 p.lk, .int .u64 p.en, .int .i64 p.bu, .int .i64 p.fu]) (by simp [results, Try.results7, go_sem, e0, e1, e2, e3, e4, e5, e6, e7, e8]; try rfl) rfl ?_
      have hk9F : Kb (fun k => k = w.heap.size ∨ k = w.heap.size + 1) w9 wF := ⟨by omega, fun k _ hs => q2 k fun e => hs (.inr e)⟩
      have hkxF := (HKX.out.trans HK69.out.1).trans hk9F
      have hkrF := (HK6.out.trans HK69.out.1).trans hk9F
      have hk8F := HK69.out.2.1.trans hk9F
      refine ⟨⟨pq, pqc, V, tq, tqc, wp, wc, some ⟨w6.heap.size, 0, none⟩, p.ns⟩, rfl, ⟨HPS.out.1.kb hkxF (fun g o e hp => ?_) (fun j hj => ⟨fun g o e => ?_, fun g o e => ?_⟩), HTS.out.1.kb hkrF (fun g o e hp => ?_) (fun j hj g o e => ?_), HST.out.kb hk8F ?_⟩, ⟨fun g o e hp => ?_, fun j hj => ⟨fun g o e => ?_, fun g o e => ?_⟩, fun g o e hp => ?_, fun j hj g o e => ?_, fun g o e => ?_⟩, q3 _ _ HK69.out.2.2 (by omega)⟩
      · have := HPS.out.2.1 g o e hp
        rintro (h9 | h9) <;> omega
      · have := ((HPS.out.2.2 j hj).1 g o e).1
        rintro (h9 | h9) <;> omega
      · have := ((HPS.out.2.2 j hj).2 g o e).1
        rintro (h9 | h9) <;> omega
      · have := HTS.out.2.1 g o e hp
        rintro (h9 | h9) <;> omega
      · have := (HTS.out.2.2 j hj g o e).1
        rintro (h9 | h9) <;> omega
      · rintro (h9 | h9) <;> omega
      · have := HPS.out.2.1 g o e hp
        omega
      · have := ((HPS.out.2.2 j hj).1 g o e).1
        omega
      · have := ((HPS.out.2.2 j hj).2 g o e).1
        omega
      · have := HTS.out.2.1 g o e hp
        omega
      · have := (HTS.out.2.2 j hj g o e).1
        omega
      · injection e with e
        injection e with e1 e2 e3
        omega
theorem copyPlan_any (p : Pl) (v : PlV) (w : World) (h : PlAt w p v) (hr : RoomyL p) : Calls Try.prog 7 #[.agg #[.int .i64 p.ki, .slice v.pp p.np v.pc, .slice v.tp p.nq v.tc, .slice v.sp p.ns v.sc, .int .u64 p.sd, .int .u64 p.lk, .int .u64 p.en, .int .i64 p.bu, .int .i64 p.fu]] w fun e w' => ∃ u : PlV, e = .returned (.agg #[.int .i64 p.ki, .slice u.pp p.np u.pc, .slice u.tp p.nq u.tc, .slice u.sp p.ns u.sc, .int .u64 p.sd, .int .u64 p.lk, .int .u64 p.en, .int .i64 p.bu, .int .i64 p.fu]) ∧ PlAt w' p u ∧ Below w.heap.size w w' := by
  refine (copyPlan_new p v w h hr).mono ?_
  rintro e w' ⟨u, h1, h2, _, h3⟩
  exact ⟨u, h1, h2, h3⟩
theorem PlAt.kbn {S : Nat → Prop} {W W' : World} {p : Pl} {u : PlV} {b : Nat} (h : PlAt W p u) (hn : PlNew b p u) (hk : Kb S W W') (hs : ∀ k, b ≤ k → ¬ S k) : PlAt W' p u := by
  obtain ⟨n1, n2, n3, n4, n5⟩ := hn
  refine ⟨h.ps.kb hk (fun g o e h0 => hs g (n1 g o e h0)) (fun j hj => ⟨fun g o e => hs g ((n2 j hj).1 g o e), fun g o e => hs g ((n2 j hj).2 g o e)⟩), h.ts.kb hk (fun g o e h0 => hs g (n3 g o e h0)) (fun j hj g o e => hs g (n4 j hj g o e)), ?_⟩
  rcases h.st with h0 | ⟨g, o, e, hl, hc⟩
  · exact .inl h0
  · have h9 : StAt W (some ⟨g, o, none⟩) p.ns p.S := .inr ⟨g, o, rfl, hl, hc⟩
    rw [e]
    exact h9.kb hk (hs g (n5 g o e))
end Go.Proofs.Ytkgifanlodlilaa
