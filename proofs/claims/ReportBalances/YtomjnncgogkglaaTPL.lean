import Derived.Test.YtomjnncgogkglaaTP2
import Derived.Test.YtomjnncgogkglaaTPM
import Derived.ChangeOld
namespace Go.Proofs.Ytomjnncgogkglaa
open Go.ChangeShapes Go.WideShapes Go.ChangeAt Go.RowKit Go.Deep
set_option linter.unusedVariables false
set_option linter.unusedSimpArgs false

theorem kat_cells {W : World} {g n : Nat} {K : Nat → Int} (h : W.heap[g]? = some (.cells (intsL K n).toArray 3 (0, 0))) : KAt W (some ⟨g, 0, none⟩) n K := by
  refine .inr ⟨g, 0, rfl, (Array.getElem?_eq_some_iff.1 h).1, fun j hj => ?_⟩
  unfold World.cell?
  rw [h]
  have := intsL_get (K := K) hj
  simpa using this
structure Ly where
  wk : Int
  n : Nat
  O : Nat → Int
  ar : Int
  bx : Int
  un : Int
structure LyV where
  op : Option Addr
  oc : Nat
theorem boxed2 (w : World) (c d : Array Value) (t u : TypeId) : ∃ wb, (w.alloc (.cells c t)).alloc (.cells d u) = wb ∧ Below w.heap.size w wb ∧ wb.heap[w.heap.size]? = some (.cells c t (0, 0)) ∧ wb.heap[w.heap.size + 1]? = some (.cells d u (0, 0)) ∧ wb.heap.size = w.heap.size + 2 := by
  refine ⟨_, rfl, ((Below.refl _ w).alloc (Nat.le_refl _) _).alloc (by simp) _, ?_, ?_, by simp⟩
  · rw [Below.heap_alloc _ _ _ (by simp)]
    exact World.alloc_heap_new w _
  · have := World.alloc_heap_new (w.alloc (.cells c t)) (.cells d u)
    rwa [World.size_alloc] at this
theorem cells5p {W : World} {b : Nat} {c0 c1 c2 c3 c4 : Value} {t : TypeId} (h : W.heap[b]? = some (.cells #[c0, c1, c2, c3, c4] t (0, 0))) : W.cell? ⟨b, 0, none⟩ = some c0 ∧ W.cell? ⟨b, 1, none⟩ = some c1 ∧ W.cell? ⟨b, 2, none⟩ = some c2 ∧ W.cell? ⟨b, 3, none⟩ = some c3 ∧ W.cell? ⟨b, 4, none⟩ = some c4 := by
  refine ⟨?_, ?_, ?_, ?_, ?_⟩
  all_goals (unfold World.cell?; rw [h]; rfl)
theorem put5 {W : World} {b : Nat} {a0 a1 a2 a3 a4 : Value} {t : TypeId} (h : W.heap[b]? = some (.cells #[a0, a1, a2, a3, a4] t (0, 0))) (c0 c1 c2 c3 c4 : Value) (W' : World) (e : ((((W.setCell ⟨b, 0, none⟩ c0).setCell ⟨b, 1, none⟩ c1).setCell ⟨b, 2, none⟩ c2).setCell ⟨b, 3, none⟩ c3).setCell ⟨b, 4, none⟩ c4 = W') : W'.heap[b]? = some (.cells #[c0, c1, c2, c3, c4] t (0, 0)) ∧ (∀ k, k ≠ b → W'.heap[k]? = W.heap[k]?) ∧ (∀ B w0, Below B w0 W → B ≤ b → Below B w0 W') ∧ W'.heap.size = W.heap.size := by
  subst e
  have h0 : (W.setCell ⟨b, 0, none⟩ c0).heap[b]? = some (.cells #[c0, a1, a2, a3, a4] t (0, 0)) := by rw [setCell_block _ _ _ _ h]; rfl
  have h1 : ((W.setCell ⟨b, 0, none⟩ c0).setCell ⟨b, 1, none⟩ c1).heap[b]? = some (.cells #[c0, c1, a2, a3, a4] t (0, 0)) := by rw [setCell_block _ _ _ _ h0]; rfl
  have h2 : (((W.setCell ⟨b, 0, none⟩ c0).setCell ⟨b, 1, none⟩ c1).setCell ⟨b, 2, none⟩ c2).heap[b]? = some (.cells #[c0, c1, c2, a3, a4] t (0, 0)) := by rw [setCell_block _ _ _ _ h1]; rfl
  have h3 : ((((W.setCell ⟨b, 0, none⟩ c0).setCell ⟨b, 1, none⟩ c1).setCell ⟨b, 2, none⟩ c2).setCell ⟨b, 3, none⟩ c3).heap[b]? = some (.cells #[c0, c1, c2, c3, a4] t (0, 0)) := by rw [setCell_block _ _ _ _ h2]; rfl
  refine ⟨by rw [setCell_block _ _ _ _ h3]; rfl, fun k hk => ?_, fun B w0 hb hB => ?_, by simp [World.setCell]⟩
  · rw [Below.heap_setCell _ _ _ _ hk, Below.heap_setCell _ _ _ _ hk, Below.heap_setCell _ _ _ _ hk, Below.heap_setCell _ _ _ _ hk, Below.heap_setCell _ _ _ _ hk]
  · exact ((((hb.setCell (p := ⟨b, 0, none⟩) hB _).setCell (p := ⟨b, 1, none⟩) hB _).setCell (p := ⟨b, 2, none⟩) hB _).setCell (p := ⟨b, 3, none⟩) hB _).setCell (p := ⟨b, 4, none⟩) hB _
set_option maxRecDepth 100000 in
set_option maxHeartbeats 4000000 in
theorem copyLayout_any (l : Ly) (u : LyV) (w : World) (hn : l.n ≤ 17592186044416) (hO : KAt w u.op l.n l.O) : Calls Try.prog 17 #[.agg #[.int .i64 l.wk, .slice u.op l.n u.oc, .int .i64 l.ar, .int .i64 l.bx, .int .i64 l.un]] w fun e w' => ∃ u : LyV, e = .returned (.agg #[.int .i64 l.wk, .slice u.op l.n u.oc, .int .i64 l.ar, .int .i64 l.bx, .int .i64 l.un]) ∧ KAt w' u.op l.n l.O ∧ Below w.heap.size w w' := by
  obtain ⟨wb, hwb, hb0, hbox, hbx2, hsz⟩ := boxed2 w #[.int .i64 l.wk, .slice u.op l.n u.oc, .int .i64 l.ar, .int .i64 l.bx, .int .i64 l.un] #[.int .i64 0, .slice none 0 0, .int .i64 0, .int .i64 0, .int .i64 0] 46 46
  have HW : Hid ((w.alloc (.cells #[.int .i64 l.wk, .slice u.op l.n u.oc, .int .i64 l.ar, .int .i64 l.bx, .int .i64 l.un] 46)).alloc (.cells #[.int .i64 0, .slice none 0 0, .int .i64 0, .int .i64 0, .int .i64 0] 46) = wb) := hwb
  have HSZ : Hid (wb.heap.size = w.heap.size + 2) := hsz
  obtain ⟨d0, d1, d2, d3, d4⟩ := cells5p hbox
  have hl1 := lt_of_block hbox
  have hl2 := lt_of_block hbx2
  have HC := copyInts_any u.op l.n u.oc l.O wb hn (hO.below hb0)
  obtain ⟨gw, hgw⟩ : ∃ gw, wb.heap.size = gw := ⟨_, rfl⟩
  rw [hgw] at HC
  have HGW : Hid (wb.heap.size = gw) := hgw
  rw [← hwb] at d0 d1 d2 d3 d4
  clear hwb hO hsz hgw
  go_enter Try.func17, Try.ntmps17
  go_upto_region 2 with (go_at_call 33; rw [HW.out]; (with_reducible refine HC.mono ?_); rintro e w1 ⟨rfl, hr1, hb1, hlt1⟩; have hb1 : Below wb.heap.size wb w1 := (by rw [HGW.out]; exact hb1); have hx1 := (hb1.block _ hl1).trans hbox; have hy1 := (hb1.block _ hl2).trans hbx2; have H1 : Hid (KAt w1 (some ⟨gw, 0, none⟩) l.n l.O ∧ Below wb.heap.size wb w1 ∧ w1.heap[w.heap.size]? = some (.cells #[.int .i64 l.wk, .slice u.op l.n u.oc, .int .i64 l.ar, .int .i64 l.bx, .int .i64 l.un] 46 (0, 0)) ∧ w1.heap[w.heap.size + 1]? = some (.cells #[.int .i64 0, .slice none 0 0, .int .i64 0, .int .i64 0, .int .i64 0] 46 (0, 0))) := ⟨kat_cells hr1, hb1, hx1, hy1⟩; clear d0 d1 d2 d3 d4; obtain ⟨d0, d1, d2, d3, d4⟩ := cells5p hx1; have z0 := frz hx1 1; clear hr1 hb1 hlt1 hx1 hy1)
  obtain ⟨w2, hw2⟩ : ∃ w2, w1.setCell ⟨w.heap.size, 1, none⟩ (.slice (some ⟨gw, 0, none⟩) l.n l.n) = w2 := ⟨_, rfl⟩
  rw [hw2]
  have hbx3 : w2.heap[w.heap.size]? = some (.cells #[.int .i64 l.wk, .slice (some ⟨gw, 0, none⟩) l.n l.n, .int .i64 l.ar, .int .i64 l.bx, .int .i64 l.un] 46 (0, 0)) := by rw [← hw2, setCell_block _ _ _ _ H1.out.2.2.1]; rfl
  have hrs2 : w2.heap[w.heap.size + 1]? = some (.cells #[.int .i64 0, .slice none 0 0, .int .i64 0, .int .i64 0, .int .i64 0] 46 (0, 0)) := by
    rw [← hw2, Below.heap_setCell _ _ _ _ (by show w.heap.size + 1 ≠ w.heap.size; omega)]
    exact H1.out.2.2.2
  have HK2 : Hid (Kb (fun k => k = w.heap.size) w1 w2 ∧ w2.heap[w.heap.size + 1]? = some (.cells #[.int .i64 0, .slice none 0 0, .int .i64 0, .int .i64 0, .int .i64 0] 46 (0, 0)) ∧ Below w.heap.size w w2) := by
    refine ⟨by rw [← hw2]; exact Kb.set w1 _ _ _ rfl, hrs2, ?_⟩
    rw [← hw2]
    exact (hb0.trans (H1.out.2.1.mono hb0.size)).setCell (p := ⟨w.heap.size, 1, none⟩) (Nat.le_refl _) _
  clear d0 d1 d2 d3 d4 z0 hw2
  obtain ⟨d0, d1, d2, d3, d4⟩ := cells5p hbx3
  obtain ⟨r0, r1, r2, r3, r4⟩ := cells5p hrs2
  have z0 := frz hrs2 0
  have z1 := frz hrs2 1
  have z2 := frz hrs2 2
  have z3 := frz hrs2 3
  have z4 := frz hrs2 4
  clear hbx3 hrs2 hbox hbx2
  go_wp2_with fail
  generalize hWF : (World.setCell (World.setCell (World.setCell (World.setCell (World.setCell w2 _ _) _ _) _ _) _ _) _ _) = wF
  obtain ⟨q1, q2, q3, q4⟩ := put5 HK2.out.2.1 _ _ _ _ _ wF hWF
  obtain ⟨e0, e1, e2, e3, e4⟩ := cells5p q1
  refine bodyPost_ret (v := .agg #[.int .i64 l.wk, .slice (some ⟨gw, 0, none⟩) l.n l.n, .int .i64 l.ar, .int .i64 l.bx, .int .i64 l.un]) (by simp [results, Try.results17, go_sem, e0, e1, e2, e3, e4]; try rfl) rfl ?_
  have hz := HSZ.out
  have hg := HGW.out
  have hs2 := HK2.out.1.size
  refine ⟨⟨some ⟨gw, 0, none⟩, l.n⟩, rfl, ?_, q3 _ _ HK2.out.2.2 (Nat.le_succ _)⟩
  have k1 := H1.out.1.kb HK2.out.1 (fun g o e h9 => by
    injection e with e
    injection e with e1 e2 e3
    have : g = w.heap.size := h9
    omega)
  exact k1.kb (S := fun k => k = w.heap.size + 1) ⟨by omega, fun k _ hs => q2 k hs⟩ (fun g o e h9 => by
    injection e with e
    injection e with e1 e2 e3
    have : g = w.heap.size + 1 := h9
    omega)
set_option maxRecDepth 100000
theorem view_ints {H : Type} {enc : TypeId × Value → H} {W : World} {fuel : Nat} {kv : Value} {x : DataW H × List MemPlace} (h : DataW.trod enc Try.prog W 0 (fun _ => true) true fuel 44 [kv] = some x) (hw : ∀ y ∈ x.1.weights Try.prog 44, y ≤ reachBytes) :
    ∃ (p : Option Addr) (n c : Nat) (K : Nat → Int), kv = .slice p n c ∧ KAt W p n K ∧ n ≤ 17592186044416 := by
  rcases open_ints Try.underlying44 Try.underlying3 (by kernel_rfl) h with ⟨hcs, _⟩ | ⟨a, len, cap, zs, hcs, _, hl, hm, hz, hx, hcell, hwz⟩
  · simp at hcs
    subst hcs
    exact ⟨none, 0, 0, fun _ => 0, rfl, .inl rfl, by omega⟩
  · simp at hcs
    subst hcs
    simp only [if_true] at hz
    have hb : len * 8 ≤ reachBytes := by
      have := hw ((len + (cap - len)) * 8) (by
        rw [hx]
        simp only [DataW.weights, Try.underlying44]
        rw [show Try.prog.bytesOf 3 = 8 from by kernel_rfl]
        simp [lits]
        left
        congr 1
        omega)
      have e : len + (cap - len) = cap := by omega
      rw [e] at this
      omega
    refine ⟨some a, len, cap, fun i => zs.getD i 0, rfl, ?_, by unfold reachBytes at hb; omega⟩
    rcases Nat.eq_zero_or_pos len with z | z
    · exact .inl z
    · obtain ⟨b, off, spot⟩ := a
      have h0 := hcell 0 (by omega)
      have hspot : spot = none := by simpa [Addr.add] using World.cell?_spot h0
      subst hspot
      have hbl := World.block_lt_of_cell? _ _ h0
      exact .inr ⟨b, off, rfl, by simpa [Addr.add] using hbl, fun i hi => by simpa [addr_add] using hcell i (by omega)⟩
theorem lst5k {α : Type} {l : List α} (h : l.length = 5) : ∃ a b c d e, l = [a, b, c, d, e] := by
  match l, h with
  | [a, b, c, d, e], _ => exact ⟨a, b, c, d, e, rfl⟩
theorem view_layout {H : Type} {enc : TypeId × Value → H} {W : World} {base : Nat} {v : Value} {d : DataW H} {pl : List MemPlace}
    (hval : Value.okWide Try.prog W .any base 46 v) (h : DataW.Trod enc Try.prog W 0 (fun _ => true) true 46 v d pl) (hw : ∀ y ∈ d.weights Try.prog 46, y ≤ reachBytes) :
    ∃ (l : Ly) (u : LyV), v = .agg #[.int .i64 l.wk, .slice u.op l.n u.oc, .int .i64 l.ar, .int .i64 l.bx, .int .i64 l.un] ∧ KAt W u.op l.n l.O ∧ l.n ≤ 17592186044416 := by
  obtain ⟨cs, rfl, hsz⟩ := okWide_struct Try.underlying46 hval
  rw [show Try.prog.cellsOf 46 = 5 from by kernel_rfl] at hsz
  obtain ⟨fuel, hf⟩ := h
  obtain ⟨l, rfl⟩ : ∃ l : List Value, cs = l.toArray := ⟨cs.toList, by simp⟩
  obtain ⟨c0, c1, c2, c3, c4, rfl⟩ := lst5k (by simpa using hsz)
  obtain ⟨xs, n, _, hx0, _, hxl, hx⟩ := DataW.trod_struct Try.underlying46 hf
  obtain ⟨y0, y1, y2, y3, y4, rfl⟩ := lst5k (by simpa using hxl)
  have k3 : Try.prog.cellsOf 3 = 1 := by kernel_rfl
  have kp : Try.prog.cellsOf 44 = 1 := by kernel_rfl
  have g0 := hx 0 _ rfl
  have g1 := hx 1 _ rfl
  have g2 := hx 2 _ rfl
  have g3 := hx 3 _ rfl
  have g4 := hx 4 _ rfl
  simp [Value.cells, k3, kp] at g0 g1 g2 g3 g4
  simp only [Prod.mk.injEq] at hx0
  obtain ⟨x0, s0, _, w0⟩ := DataW.trod_int Try.underlying3 g0
  obtain ⟨x2, s2, _, w2⟩ := DataW.trod_int Try.underlying3 g2
  obtain ⟨x3, s3, _, w3⟩ := DataW.trod_int Try.underlying3 g3
  obtain ⟨x4, s4, _, w4⟩ := DataW.trod_int Try.underlying3 g4
  obtain ⟨q, m, e, K, s1, hk, hm⟩ := view_ints g1 (fun y hy => hw y (by
    rw [hx0.1]
    simp only [DataW.weights, Try.underlying46]
    refine DataW.weights_mem_each (j := 1) (t := 44) (d := y1.1) ?_ rfl y hy
    kernel_rfl))
  simp at s0 s2 s3 s4
  subst s0 s1 s2 s3 s4
  exact ⟨⟨x0, m, K, x2, x3, x4⟩, ⟨q, e⟩, rfl, hk, hm⟩
end Go.Proofs.Ytomjnncgogkglaa
