import Derived.Test.YtieanhmkcbcdkaaM19
import Derived.Test.YtieanhmkcbcdkaaV7
namespace Go.Proofs.Ytieanhmkcbcdkaa
open Go.ChangeShapes Go.WideShapes Go.ChangeAt Go.RowKit
set_option linter.unusedVariables false

theorem cells12 {W : World} {b : Nat} {c0 c1 c2 c3 c4 c5 c6 c7 c8 c9 ca cb : Value} {t : TypeId} (h : W.heap[b]? = some (.cells #[c0, c1, c2, c3, c4, c5, c6, c7, c8, c9, ca, cb] t (0, 0))) : (W.cell? ⟨b, 0, none⟩ = some c0 ∧ W.cell? ⟨b, 1, none⟩ = some c1 ∧ W.cell? ⟨b, 2, none⟩ = some c2 ∧ W.cell? ⟨b, 3, none⟩ = some c3 ∧ W.cell? ⟨b, 4, none⟩ = some c4 ∧ W.cell? ⟨b, 5, none⟩ = some c5) ∧ W.cell? ⟨b, 6, none⟩ = some c6 ∧ W.cell? ⟨b, 7, none⟩ = some c7 ∧ W.cell? ⟨b, 8, none⟩ = some c8 ∧ W.cell? ⟨b, 9, none⟩ = some c9 ∧ W.cell? ⟨b, 10, none⟩ = some ca ∧ W.cell? ⟨b, 11, none⟩ = some cb := by
  refine ⟨⟨?_, ?_, ?_, ?_, ?_, ?_⟩, ?_, ?_, ?_, ?_, ?_, ?_⟩
  all_goals (unfold World.cell?; rw [h]; rfl)
def zE : Array Value := #[.int .i64 0, .slice none 0 0, .int .u64 0, .int .u64 0, .slice none 0 0, .int .i64 0]
/-- the three boxes of Run -/
structure Bx (w w3 : World) (P : Pg) (v : PgV) (cl : Cl) (p : Option Addr) (n c : Nat) (d s : Int) : Prop where
  bel : Below w.heap.size w w3
  pb : w3.heap[w.heap.size]? = some (.cells #[.int .i64 P.words, .int .i64 P.locals, .slice v.cp P.n v.cc, .slice v.ep P.m v.ec] 25 (0, 0))
  cb : w3.heap[w.heap.size + 1]? = some (.cells #[.int .u64 cl.time, .int .i64 cl.src, .int .u64 cl.seq, .int .i64 cl.dst, .int .i64 cl.kind, .int .i64 cl.data, .slice p n c, .int .u64 d, .int .u64 s, .int .u64 cl.look, .int .i64 cl.parts, .int .i64 cl.fuel] 35 (0, 0))
  rb : w3.heap[w.heap.size + 2]? = some (.cells #[.int .i64 0, .slice none 0 0, .int .u64 0, .int .u64 0, .slice none 0 0, .int .i64 0] 40 (0, 0))
theorem Bx.lt {w w3 : World} {P : Pg} {v : PgV} {cl : Cl} {p : Option Addr} {n c : Nat} {d s : Int} (h : Bx w w3 P v cl p n c d s) : w.heap.size + 2 < w3.heap.size := (Array.getElem?_eq_some_iff.1 h.rb).1
theorem Bx.later {w w3 w4 : World} {P : Pg} {v : PgV} {cl : Cl} {p : Option Addr} {n c : Nat} {d s : Int} (h : Bx w w3 P v cl p n c d s) (hb : Below w3.heap.size w3 w4) : Bx w w4 P v cl p n c d s := by
  have hl := h.lt
  exact ⟨h.bel.trans (hb.mono (by have := h.bel.size; omega)), (hb.block _ (by omega)).trans h.pb, (hb.block _ (by omega)).trans h.cb, (hb.block _ (by omega)).trans h.rb⟩
theorem bx_new (w : World) (P : Pg) (v : PgV) (cl : Cl) (p : Option Addr) (n c : Nat) (d s : Int) (w3 : World) (h : ((w.alloc (.cells #[.int .i64 P.words, .int .i64 P.locals, .slice v.cp P.n v.cc, .slice v.ep P.m v.ec] 25)).alloc (.cells #[.int .u64 cl.time, .int .i64 cl.src, .int .u64 cl.seq, .int .i64 cl.dst, .int .i64 cl.kind, .int .i64 cl.data, .slice p n c, .int .u64 d, .int .u64 s, .int .u64 cl.look, .int .i64 cl.parts, .int .i64 cl.fuel] 35)).alloc (.cells #[.int .i64 0, .slice none 0 0, .int .u64 0, .int .u64 0, .slice none 0 0, .int .i64 0] 40) = w3) : Bx w w3 P v cl p n c d s := by
  subst h
  refine ⟨(((Below.refl _ w).alloc (Nat.le_refl _) _).alloc (by simp) _).alloc (by simp; omega) _, ?_, ?_, ?_⟩
  · rw [Below.heap_alloc _ _ _ (by simp; omega), Below.heap_alloc _ _ _ (by simp)]
    exact World.alloc_heap_new w _
  · rw [Below.heap_alloc _ _ _ (by simp)]
    have := World.alloc_heap_new (w.alloc (.cells #[.int .i64 P.words, .int .i64 P.locals, .slice v.cp P.n v.cc, .slice v.ep P.m v.ec] 25)) (.cells #[.int .u64 cl.time, .int .i64 cl.src, .int .u64 cl.seq, .int .i64 cl.dst, .int .i64 cl.kind, .int .i64 cl.data, .slice p n c, .int .u64 d, .int .u64 s, .int .u64 cl.look, .int .i64 cl.parts, .int .i64 cl.fuel] 35)
    rwa [World.size_alloc] at this
  · have := World.alloc_heap_new ((w.alloc (.cells #[.int .i64 P.words, .int .i64 P.locals, .slice v.cp P.n v.cc, .slice v.ep P.m v.ec] 25)).alloc (.cells #[.int .u64 cl.time, .int .i64 cl.src, .int .u64 cl.seq, .int .i64 cl.dst, .int .i64 cl.kind, .int .i64 cl.data, .slice p n c, .int .u64 d, .int .u64 s, .int .u64 cl.look, .int .i64 cl.parts, .int .i64 cl.fuel] 35)) (.cells #[.int .i64 0, .slice none 0 0, .int .u64 0, .int .u64 0, .slice none 0 0, .int .i64 0] 40)
    rwa [World.size_alloc, World.size_alloc] at this
theorem cells6' {W : World} {b : Nat} {c0 c1 c2 c3 c4 c5 : Value} {t : TypeId} (h : W.heap[b]? = some (.cells #[c0, c1, c2, c3, c4, c5] t (0, 0))) : (W.cell? ⟨b, 0, none⟩ = some c0 ∧ W.cell? ⟨b, 1, none⟩ = some c1 ∧ W.cell? ⟨b, 2, none⟩ = some c2 ∧ W.cell? ⟨b, 3, none⟩ = some c3 ∧ W.cell? ⟨b, 4, none⟩ = some c4 ∧ W.cell? ⟨b, 5, none⟩ = some c5) ∧ W.frozen? ⟨b, 0, none⟩ = false ∧ W.frozen? ⟨b, 1, none⟩ = false ∧ W.frozen? ⟨b, 2, none⟩ = false ∧ W.frozen? ⟨b, 3, none⟩ = false ∧ W.frozen? ⟨b, 4, none⟩ = false ∧ W.frozen? ⟨b, 5, none⟩ = false := by
  refine ⟨⟨?_, ?_, ?_, ?_, ?_, ?_⟩, frz h 0, frz h 1, frz h 2, frz h 3, frz h 4, frz h 5⟩
  all_goals (unfold World.cell?; rw [h]; rfl)
/-- six cells written -/
theorem put6 {W : World} {b : Nat} {a0 a1 a2 a3 a4 a5 : Value} {t : TypeId} (h : W.heap[b]? = some (.cells #[a0, a1, a2, a3, a4, a5] t (0, 0))) (c0 c1 c2 c3 c4 c5 : Value) (W' : World) (e : (((((W.setCell ⟨b, 0, none⟩ c0).setCell ⟨b, 1, none⟩ c1).setCell ⟨b, 2, none⟩ c2).setCell ⟨b, 3, none⟩ c3).setCell ⟨b, 4, none⟩ c4).setCell ⟨b, 5, none⟩ c5 = W') :
    W'.heap[b]? = some (.cells #[c0, c1, c2, c3, c4, c5] t (0, 0)) ∧ (∀ k, k ≠ b → W'.heap[k]? = W.heap[k]?) ∧ ∀ B w0, Below B w0 W → B ≤ b → Below B w0 W' := by
  subst e
  refine ⟨?_, fun k hk => ?_, fun B w0 hb hB => ?_⟩
  · rw [setCell_block _ _ _ _ (setCell_block _ _ _ _ (setCell_block _ _ _ _ (setCell_block _ _ _ _ (setCell_block _ _ _ _ (setCell_block _ _ _ _ h)))))]
    rfl
  · rw [Below.heap_setCell _ _ _ _ hk, Below.heap_setCell _ _ _ _ hk, Below.heap_setCell _ _ _ _ hk, Below.heap_setCell _ _ _ _ hk, Below.heap_setCell _ _ _ _ hk, Below.heap_setCell _ _ _ _ hk]
  · exact (((((hb.setCell (p := ⟨b, 0, none⟩) hB _).setCell (p := ⟨b, 1, none⟩) hB _).setCell (p := ⟨b, 2, none⟩) hB _).setCell (p := ⟨b, 3, none⟩) hB _).setCell (p := ⟨b, 4, none⟩) hB _).setCell (p := ⟨b, 5, none⟩) hB _
set_option maxRecDepth 100000 in
set_option maxHeartbeats 4000000 in
theorem run_bad (P : Pg) (v : PgV) (cl : Cl) (p : Option Addr) (n c : Nat) (d s : Int) (w : World) (h : PAt w P v) (hbad : dcode P P.m ≠ 0) :
    Calls Try.prog 10 #[.agg #[.int .i64 P.words, .int .i64 P.locals, .slice v.cp P.n v.cc, .slice v.ep P.m v.ec], .agg #[.int .u64 cl.time, .int .i64 cl.src, .int .u64 cl.seq, .int .i64 cl.dst, .int .i64 cl.kind, .int .i64 cl.data, .slice p n c, .int .u64 d, .int .u64 s, .int .u64 cl.look, .int .i64 cl.parts, .int .i64 cl.fuel]] w fun e w' => ∃ r, e = .returned r ∧ EfAt w' w.heap.size r (efErr (dcode P P.m)) ∧ Below w.heap.size w w' := by
  obtain ⟨w3, hw3⟩ : ∃ w3, ((w.alloc (.cells #[.int .i64 P.words, .int .i64 P.locals, .slice v.cp P.n v.cc, .slice v.ep P.m v.ec] 25)).alloc (.cells #[.int .u64 cl.time, .int .i64 cl.src, .int .u64 cl.seq, .int .i64 cl.dst, .int .i64 cl.kind, .int .i64 cl.data, .slice p n c, .int .u64 d, .int .u64 s, .int .u64 cl.look, .int .i64 cl.parts, .int .i64 cl.fuel] 35)).alloc (.cells #[.int .i64 0, .slice none 0 0, .int .u64 0, .int .u64 0, .slice none 0 0, .int .i64 0] 40) = w3 := ⟨_, rfl⟩
  have hB := bx_new w P v cl p n c d s w3 hw3
  have HW : Hid (((w.alloc (.cells #[.int .i64 P.words, .int .i64 P.locals, .slice v.cp P.n v.cc, .slice v.ep P.m v.ec] 25)).alloc (.cells #[.int .u64 cl.time, .int .i64 cl.src, .int .u64 cl.seq, .int .i64 cl.dst, .int .i64 cl.kind, .int .i64 cl.data, .slice p n c, .int .u64 d, .int .u64 s, .int .u64 cl.look, .int .i64 cl.parts, .int .i64 cl.fuel] 35)).alloc (.cells #[.int .i64 0, .slice none 0 0, .int .u64 0, .int .u64 0, .slice none 0 0, .int .i64 0] 40) = w3) := hw3
  have HV := verify_any P v P.m w3 (h.1.below hB.bel) (h.2.below hB.bel)
  generalize dcode P P.m = code at HV hbad ⊢
  clear hw3 h
  go_enter Try.func10, Try.ntmps10
  go_wp2_with (go_at_call 12; rw [HW.out]; (with_reducible refine HV.mono ?_); rintro e w1 ⟨rfl, hb1⟩; obtain ⟨⟨r0, r1, r2, r3, r4, r5⟩, f0, f1, f2, f3, f4, f5⟩ := cells6' (hB.later hb1).rb)
  generalize hWF : (World.setCell (World.setCell (World.setCell (World.setCell (World.setCell (World.setCell _ _ _) _ _) _ _) _ _) _ _) _ _) = wF
  obtain ⟨p1, p2, p3⟩ := put6 (hB.later hb1).rb _ _ _ _ _ _ wF hWF
  have hbF := p3 _ _ (hB.later hb1).bel (by omega)
  clear hWF p2 p3 r0 r1 r2 r3 r4 r5 f0 f1 f2 f3 f4 f5
  obtain ⟨⟨d0, d1, d2, d3, d4, d5⟩, _⟩ := cells6' p1
  refine bodyPost_ret (v := .agg #[.int .i64 code, .slice none 0 0, .int .u64 0, .int .u64 0, .slice none 0 0, .int .i64 0]) (by simp [results, Try.results10, go_sem, d0, d1, d2, d3, d4, d5]; try rfl) rfl ?_
  exact ⟨_, rfl, ⟨none, 0, none, 0, rfl, Own.nil0, Own.nil0⟩, hbF⟩
set_option maxRecDepth 100000 in
set_option maxHeartbeats 4000000 in
theorem run_unfit (P : Pg) (v : PgV) (cl : Cl) (p : Option Addr) (n c : Nat) (d s : Int) (w : World) (h : PAt w P v) (hz : dcode P P.m = 0) (hf : fitsB P cl n = false) :
    Calls Try.prog 10 #[.agg #[.int .i64 P.words, .int .i64 P.locals, .slice v.cp P.n v.cc, .slice v.ep P.m v.ec], .agg #[.int .u64 cl.time, .int .i64 cl.src, .int .u64 cl.seq, .int .i64 cl.dst, .int .i64 cl.kind, .int .i64 cl.data, .slice p n c, .int .u64 d, .int .u64 s, .int .u64 cl.look, .int .i64 cl.parts, .int .i64 cl.fuel]] w fun e w' => ∃ r, e = .returned r ∧ EfAt w' w.heap.size r (efErr 63) ∧ Below w.heap.size w w' := by
  obtain ⟨w3, hw3⟩ : ∃ w3, ((w.alloc (.cells #[.int .i64 P.words, .int .i64 P.locals, .slice v.cp P.n v.cc, .slice v.ep P.m v.ec] 25)).alloc (.cells #[.int .u64 cl.time, .int .i64 cl.src, .int .u64 cl.seq, .int .i64 cl.dst, .int .i64 cl.kind, .int .i64 cl.data, .slice p n c, .int .u64 d, .int .u64 s, .int .u64 cl.look, .int .i64 cl.parts, .int .i64 cl.fuel] 35)).alloc (.cells #[.int .i64 0, .slice none 0 0, .int .u64 0, .int .u64 0, .slice none 0 0, .int .i64 0] 40) = w3 := ⟨_, rfl⟩
  have hB := bx_new w P v cl p n c d s w3 hw3
  have HW : Hid (((w.alloc (.cells #[.int .i64 P.words, .int .i64 P.locals, .slice v.cp P.n v.cc, .slice v.ep P.m v.ec] 25)).alloc (.cells #[.int .u64 cl.time, .int .i64 cl.src, .int .u64 cl.seq, .int .i64 cl.dst, .int .i64 cl.kind, .int .i64 cl.data, .slice p n c, .int .u64 d, .int .u64 s, .int .u64 cl.look, .int .i64 cl.parts, .int .i64 cl.fuel] 35)).alloc (.cells #[.int .i64 0, .slice none 0 0, .int .u64 0, .int .u64 0, .slice none 0 0, .int .i64 0] 40) = w3) := hw3
  have HV := verify_any P v P.m w3 (h.1.below hB.bel) (h.2.below hB.bel)
  have HF := fits_any P v cl p n c d s
  rw [hz] at HV
  rw [hf] at HF
  clear hw3 h hz hf
  go_enter Try.func10, Try.ntmps10
  go_wp2_with (first | (go_at_call 12; rw [HW.out]; (with_reducible refine HV.mono ?_); rintro e w1 ⟨rfl, hb1⟩; obtain ⟨a0, a1, a2, a3⟩ := cells4 (hB.later hb1).pb; obtain ⟨⟨b0, b1, b2, b3, b4, b5⟩, b6, b7, b8, b9, b10, b11⟩ := cells12 (hB.later hb1).cb) | (go_at_call 22; (with_reducible refine (HF _).mono ?_); rintro e w2 ⟨rfl, hb2⟩; obtain ⟨⟨r0, r1, r2, r3, r4, r5⟩, f0, f1, f2, f3, f4, f5⟩ := cells6' ((hB.later hb1).later hb2).rb))
  generalize hWF : (World.setCell (World.setCell (World.setCell (World.setCell (World.setCell (World.setCell _ _ _) _ _) _ _) _ _) _ _) _ _) = wF
  obtain ⟨p1, p2, p3⟩ := put6 ((hB.later hb1).later hb2).rb _ _ _ _ _ _ wF hWF
  have hbF := p3 _ _ ((hB.later hb1).later hb2).bel (by omega)
  clear hWF p2 p3 r0 r1 r2 r3 r4 r5 f0 f1 f2 f3 f4 f5
  obtain ⟨⟨d0, d1, d2, d3, d4, d5⟩, _⟩ := cells6' p1
  refine bodyPost_ret (v := .agg #[.int .i64 63, .slice none 0 0, .int .u64 0, .int .u64 0, .slice none 0 0, .int .i64 0]) (by simp [results, Try.results10, go_sem, d0, d1, d2, d3, d4, d5]; try rfl) rfl ?_
  exact ⟨_, rfl, ⟨none, 0, none, 0, rfl, Own.nil0, Own.nil0⟩, hbF⟩
end Go.Proofs.Ytieanhmkcbcdkaa
