import Derived.Test.YtopggemomcoalaaGreatJM19
import Derived.Test.YtopggemomcoalaaGreatJV7
import Derived.Deep.DeepCutAuto
namespace Go.Proofs.YtopggemomcoalaaGreat
open Go.ChangeShapes Go.WideShapes Go.ChangeAt Go.RowKit
set_option linter.unusedVariables false

theorem cells12 {W : World} {b : Nat} {c0 c1 c2 c3 c4 c5 c6 c7 c8 c9 ca cb : Value} {t : TypeId} (h : W.heap[b]? = some (.cells #[c0, c1, c2, c3, c4, c5, c6, c7, c8, c9, ca, cb] t (0, 0))) : (W.cell? ⟨b, 0, none⟩ = some c0 ∧ W.cell? ⟨b, 1, none⟩ = some c1 ∧ W.cell? ⟨b, 2, none⟩ = some c2 ∧ W.cell? ⟨b, 3, none⟩ = some c3 ∧ W.cell? ⟨b, 4, none⟩ = some c4 ∧ W.cell? ⟨b, 5, none⟩ = some c5) ∧ W.cell? ⟨b, 6, none⟩ = some c6 ∧ W.cell? ⟨b, 7, none⟩ = some c7 ∧ W.cell? ⟨b, 8, none⟩ = some c8 ∧ W.cell? ⟨b, 9, none⟩ = some c9 ∧ W.cell? ⟨b, 10, none⟩ = some ca ∧ W.cell? ⟨b, 11, none⟩ = some cb := by
  refine ⟨⟨?_, ?_, ?_, ?_, ?_, ?_⟩, ?_, ?_, ?_, ?_, ?_, ?_⟩
  all_goals (unfold World.cell?; rw [h]; rfl)
def zE : Array Value := #[.int .i64 0, .slice none 0 0, .int .u64 0, .int .u64 0, .slice none 0 0, .int .i64 0]
/-- the three boxes of Run -/
structure Bx (w w3 : World) (P : Pg) (v : PgV) (cl : Cl) (p : Option Addr) (n c : Nat) (d s : Int) : Prop where
  bel : Below w.heap.size w w3
  pb : w3.heap[w.heap.size]? = some (.cells #[.int .i64 P.words, .int .i64 P.locals, .slice v.cp P.n v.cc, .slice v.ep P.m v.ec] 25 (0, 0))
  cb : w3.heap[w.heap.size + 1]? = some (.cells #[.int .u64 cl.time, .int .i64 cl.src, .int .u64 cl.seq, .int .i64 cl.dst, .int .i64 cl.kind, .int .i64 cl.data, .slice p n c, .int .u64 d, .int .u64 s, .int .u64 cl.look, .int .i64 cl.parts, .int .i64 cl.fuel] 54 (0, 0))
  rb : w3.heap[w.heap.size + 2]? = some (.cells #[.int .i64 0, .slice none 0 0, .int .u64 0, .int .u64 0, .slice none 0 0, .int .i64 0] 58 (0, 0))
theorem Bx.lt {w w3 : World} {P : Pg} {v : PgV} {cl : Cl} {p : Option Addr} {n c : Nat} {d s : Int} (h : Bx w w3 P v cl p n c d s) : w.heap.size + 2 < w3.heap.size := (Array.getElem?_eq_some_iff.1 h.rb).1
theorem Bx.later {w w3 w4 : World} {P : Pg} {v : PgV} {cl : Cl} {p : Option Addr} {n c : Nat} {d s : Int} (h : Bx w w3 P v cl p n c d s) (hb : Below w3.heap.size w3 w4) : Bx w w4 P v cl p n c d s := by
  have hl := h.lt
  exact ⟨h.bel.trans (hb.mono (by have := h.bel.size; omega)), (hb.block _ (by omega)).trans h.pb, (hb.block _ (by omega)).trans h.cb, (hb.block _ (by omega)).trans h.rb⟩
theorem bx_new (w : World) (P : Pg) (v : PgV) (cl : Cl) (p : Option Addr) (n c : Nat) (d s : Int) (w3 : World) (h : ((w.alloc (.cells #[.int .i64 P.words, .int .i64 P.locals, .slice v.cp P.n v.cc, .slice v.ep P.m v.ec] 25)).alloc (.cells #[.int .u64 cl.time, .int .i64 cl.src, .int .u64 cl.seq, .int .i64 cl.dst, .int .i64 cl.kind, .int .i64 cl.data, .slice p n c, .int .u64 d, .int .u64 s, .int .u64 cl.look, .int .i64 cl.parts, .int .i64 cl.fuel] 54)).alloc (.cells #[.int .i64 0, .slice none 0 0, .int .u64 0, .int .u64 0, .slice none 0 0, .int .i64 0] 58) = w3) : Bx w w3 P v cl p n c d s := by
  subst h
  refine ⟨(((Below.refl _ w).alloc (Nat.le_refl _) _).alloc (by simp) _).alloc (by simp; omega) _, ?_, ?_, ?_⟩
  · rw [Below.heap_alloc _ _ _ (by simp; omega), Below.heap_alloc _ _ _ (by simp)]
    exact World.alloc_heap_new w _
  · rw [Below.heap_alloc _ _ _ (by simp)]
    have := World.alloc_heap_new (w.alloc (.cells #[.int .i64 P.words, .int .i64 P.locals, .slice v.cp P.n v.cc, .slice v.ep P.m v.ec] 25)) (.cells #[.int .u64 cl.time, .int .i64 cl.src, .int .u64 cl.seq, .int .i64 cl.dst, .int .i64 cl.kind, .int .i64 cl.data, .slice p n c, .int .u64 d, .int .u64 s, .int .u64 cl.look, .int .i64 cl.parts, .int .i64 cl.fuel] 54)
    rwa [World.size_alloc] at this
  · have := World.alloc_heap_new ((w.alloc (.cells #[.int .i64 P.words, .int .i64 P.locals, .slice v.cp P.n v.cc, .slice v.ep P.m v.ec] 25)).alloc (.cells #[.int .u64 cl.time, .int .i64 cl.src, .int .u64 cl.seq, .int .i64 cl.dst, .int .i64 cl.kind, .int .i64 cl.data, .slice p n c, .int .u64 d, .int .u64 s, .int .u64 cl.look, .int .i64 cl.parts, .int .i64 cl.fuel] 54)) (.cells #[.int .i64 0, .slice none 0 0, .int .u64 0, .int .u64 0, .slice none 0 0, .int .i64 0] 58)
    rwa [World.size_alloc, World.size_alloc] at this
theorem cells6' {W : World} {b : Nat} {c0 c1 c2 c3 c4 c5 : Value} {t : TypeId} (h : W.heap[b]? = some (.cells #[c0, c1, c2, c3, c4, c5] t (0, 0))) : (W.cell? ⟨b, 0, none⟩ = some c0 ∧ W.cell? ⟨b, 1, none⟩ = some c1 ∧ W.cell? ⟨b, 2, none⟩ = some c2 ∧ W.cell? ⟨b, 3, none⟩ = some c3 ∧ W.cell? ⟨b, 4, none⟩ = some c4 ∧ W.cell? ⟨b, 5, none⟩ = some c5) ∧ W.frozen? ⟨b, 0, none⟩ = false ∧ W.frozen? ⟨b, 1, none⟩ = false ∧ W.frozen? ⟨b, 2, none⟩ = false ∧ W.frozen? ⟨b, 3, none⟩ = false ∧ W.frozen? ⟨b, 4, none⟩ = false ∧ W.frozen? ⟨b, 5, none⟩ = false := by
  refine ⟨⟨?_, ?_, ?_, ?_, ?_, ?_⟩, frz h 0, frz h 1, frz h 2, frz h 3, frz h 4, frz h 5⟩
  all_goals (unfold World.cell?; rw [h]; rfl)
/-- six cells written -/
theorem put6 {W : World} {b : Nat} {a0 a1 a2 a3 a4 a5 : Value} {t : TypeId} (h : W.heap[b]? = some (.cells #[a0, a1, a2, a3, a4, a5] t (0, 0))) (c0 c1 c2 c3 c4 c5 : Value) (W' : World) (e : (((((W.setCell ⟨b, 0, none⟩ c0).setCell ⟨b, 1, none⟩ c1).setCell ⟨b, 2, none⟩ c2).setCell ⟨b, 3, none⟩ c3).setCell ⟨b, 4, none⟩ c4).setCell ⟨b, 5, none⟩ c5 = W') :
    W'.heap[b]? = some (.cells #[c0, c1, c2, c3, c4, c5] t (0, 0)) ∧ (∀ k, k ≠ b → W'.heap[k]? = W.heap[k]?) ∧ ∀ B w0, Below B w0 W → B ≤ b → Below B w0 W' := by
  subst e
  refine ⟨?_, fun k hk => ?_, fun B w0 hb hB => ?_⟩
  · rw [setCell_block _ _ _ _ (setCell_block _ _ _ _ (setCell_block _ _ _ _ (setCell_block _ _ _ _ (setCell_block _ _ _ _ (setCell_block _ _ _ _ h)))))]
    rfl
  · rw [Below.heap_setCell _ _ _ _ hk, Below.heap_setCell _ _ _ _ hk, Below.heap_setCell _ _ _ _ hk, Below.heap_setCell _ _ _ _ hk, Below.heap_setCell _ _ _ _ hk, Below.heap_setCell _ _ _ _ hk]
  · exact (((((hb.setCell (p := ⟨b, 0, none⟩) hB _).setCell (p := ⟨b, 1, none⟩) hB _).setCell (p := ⟨b, 2, none⟩) hB _).setCell (p := ⟨b, 3, none⟩) hB _).setCell (p := ⟨b, 4, none⟩) hB _).setCell (p := ⟨b, 5, none⟩) hB _
set_option maxRecDepth 100000 in
set_option maxHeartbeats 4000000 in
theorem run_bad (P : Pg) (v : PgV) (cl : Cl) (p : Option Addr) (n c : Nat) (d s : Int) (w : World) (h : PAt w P v) (hbad : dcode P P.m ≠ 0) :
    Calls Tryz.prog 16 #[.agg #[.int .i64 P.words, .int .i64 P.locals, .slice v.cp P.n v.cc, .slice v.ep P.m v.ec], .agg #[.int .u64 cl.time, .int .i64 cl.src, .int .u64 cl.seq, .int .i64 cl.dst, .int .i64 cl.kind, .int .i64 cl.data, .slice p n c, .int .u64 d, .int .u64 s, .int .u64 cl.look, .int .i64 cl.parts, .int .i64 cl.fuel]] w fun e w' => ∃ r, e = .returned r ∧ EfAt w' w.heap.size r (efErr (dcode P P.m)) ∧ Below w.heap.size w w' := by
  obtain ⟨w3, hw3⟩ : ∃ w3, ((w.alloc (.cells #[.int .i64 P.words, .int .i64 P.locals, .slice v.cp P.n v.cc, .slice v.ep P.m v.ec] 25)).alloc (.cells #[.int .u64 cl.time, .int .i64 cl.src, .int .u64 cl.seq, .int .i64 cl.dst, .int .i64 cl.kind, .int .i64 cl.data, .slice p n c, .int .u64 d, .int .u64 s, .int .u64 cl.look, .int .i64 cl.parts, .int .i64 cl.fuel] 54)).alloc (.cells #[.int .i64 0, .slice none 0 0, .int .u64 0, .int .u64 0, .slice none 0 0, .int .i64 0] 58) = w3 := ⟨_, rfl⟩
  have hB := bx_new w P v cl p n c d s w3 hw3
  have HW : Hid (((w.alloc (.cells #[.int .i64 P.words, .int .i64 P.locals, .slice v.cp P.n v.cc, .slice v.ep P.m v.ec] 25)).alloc (.cells #[.int .u64 cl.time, .int .i64 cl.src, .int .u64 cl.seq, .int .i64 cl.dst, .int .i64 cl.kind, .int .i64 cl.data, .slice p n c, .int .u64 d, .int .u64 s, .int .u64 cl.look, .int .i64 cl.parts, .int .i64 cl.fuel] 54)).alloc (.cells #[.int .i64 0, .slice none 0 0, .int .u64 0, .int .u64 0, .slice none 0 0, .int .i64 0] 58) = w3) := hw3
  have HV := verify_any P v P.m w3 (h.1.below hB.bel) (h.2.below hB.bel)
  generalize dcode P P.m = code at HV hbad ⊢
  clear hw3 h
  go_enter Tryz.func16, Tryz.ntmps16
  go_wp2_with (go_at_call 17; rw [HW.out]; (with_reducible refine HV.mono ?_); rintro e w1 ⟨rfl, hb1⟩; obtain ⟨⟨r0, r1, r2, r3, r4, r5⟩, f0, f1, f2, f3, f4, f5⟩ := cells6' (hB.later hb1).rb)
  generalize hWF : (World.setCell (World.setCell (World.setCell (World.setCell (World.setCell (World.setCell _ _ _) _ _) _ _) _ _) _ _) _ _) = wF
  obtain ⟨p1, p2, p3⟩ := put6 (hB.later hb1).rb _ _ _ _ _ _ wF hWF
  have hbF := p3 _ _ (hB.later hb1).bel (by omega)
  clear hWF p2 p3 r0 r1 r2 r3 r4 r5 f0 f1 f2 f3 f4 f5
  obtain ⟨⟨d0, d1, d2, d3, d4, d5⟩, _⟩ := cells6' p1
  refine bodyPost_ret (v := .agg #[.int .i64 code, .slice none 0 0, .int .u64 0, .int .u64 0, .slice none 0 0, .int .i64 0]) (by simp [results, Tryz.results16, go_sem, d0, d1, d2, d3, d4, d5]; try rfl) rfl ?_
  exact ⟨_, rfl, ⟨none, 0, none, 0, rfl, Own.nil0, Own.nil0⟩, hbF⟩
set_option maxRecDepth 100000 in
set_option maxHeartbeats 4000000 in
theorem run_unfit (P : Pg) (v : PgV) (cl : Cl) (p : Option Addr) (n c : Nat) (d s : Int) (w : World) (h : PAt w P v) (hz : dcode P P.m = 0) (hf : fitsB P cl n = false) :
    Calls Tryz.prog 16 #[.agg #[.int .i64 P.words, .int .i64 P.locals, .slice v.cp P.n v.cc, .slice v.ep P.m v.ec], .agg #[.int .u64 cl.time, .int .i64 cl.src, .int .u64 cl.seq, .int .i64 cl.dst, .int .i64 cl.kind, .int .i64 cl.data, .slice p n c, .int .u64 d, .int .u64 s, .int .u64 cl.look, .int .i64 cl.parts, .int .i64 cl.fuel]] w fun e w' => ∃ r, e = .returned r ∧ EfAt w' w.heap.size r (efErr 63) ∧ Below w.heap.size w w' := by
  obtain ⟨w3, hw3⟩ : ∃ w3, ((w.alloc (.cells #[.int .i64 P.words, .int .i64 P.locals, .slice v.cp P.n v.cc, .slice v.ep P.m v.ec] 25)).alloc (.cells #[.int .u64 cl.time, .int .i64 cl.src, .int .u64 cl.seq, .int .i64 cl.dst, .int .i64 cl.kind, .int .i64 cl.data, .slice p n c, .int .u64 d, .int .u64 s, .int .u64 cl.look, .int .i64 cl.parts, .int .i64 cl.fuel] 54)).alloc (.cells #[.int .i64 0, .slice none 0 0, .int .u64 0, .int .u64 0, .slice none 0 0, .int .i64 0] 58) = w3 := ⟨_, rfl⟩
  have hB := bx_new w P v cl p n c d s w3 hw3
  have HW : Hid (((w.alloc (.cells #[.int .i64 P.words, .int .i64 P.locals, .slice v.cp P.n v.cc, .slice v.ep P.m v.ec] 25)).alloc (.cells #[.int .u64 cl.time, .int .i64 cl.src, .int .u64 cl.seq, .int .i64 cl.dst, .int .i64 cl.kind, .int .i64 cl.data, .slice p n c, .int .u64 d, .int .u64 s, .int .u64 cl.look, .int .i64 cl.parts, .int .i64 cl.fuel] 54)).alloc (.cells #[.int .i64 0, .slice none 0 0, .int .u64 0, .int .u64 0, .slice none 0 0, .int .i64 0] 58) = w3) := hw3
  have HV := verify_any P v P.m w3 (h.1.below hB.bel) (h.2.below hB.bel)
  have HF := fits_any P v cl p n c d s
  rw [hz] at HV
  rw [hf] at HF
  clear hw3 h hz hf
  go_enter Tryz.func16, Tryz.ntmps16
  go_wp2_with (first | (go_at_call 17; rw [HW.out]; (with_reducible refine HV.mono ?_); rintro e w1 ⟨rfl, hb1⟩; obtain ⟨a0, a1, a2, a3⟩ := cells4 (hB.later hb1).pb; obtain ⟨⟨b0, b1, b2, b3, b4, b5⟩, b6, b7, b8, b9, b10, b11⟩ := cells12 (hB.later hb1).cb) | (go_at_call 35; (with_reducible refine (HF _).mono ?_); rintro e w2 ⟨rfl, hb2⟩; obtain ⟨⟨r0, r1, r2, r3, r4, r5⟩, f0, f1, f2, f3, f4, f5⟩ := cells6' ((hB.later hb1).later hb2).rb))
  generalize hWF : (World.setCell (World.setCell (World.setCell (World.setCell (World.setCell (World.setCell _ _ _) _ _) _ _) _ _) _ _) _ _) = wF
  obtain ⟨p1, p2, p3⟩ := put6 ((hB.later hb1).later hb2).rb _ _ _ _ _ _ wF hWF
  have hbF := p3 _ _ ((hB.later hb1).later hb2).bel (by omega)
  clear hWF p2 p3 r0 r1 r2 r3 r4 r5 f0 f1 f2 f3 f4 f5
  obtain ⟨⟨d0, d1, d2, d3, d4, d5⟩, _⟩ := cells6' p1
  refine bodyPost_ret (v := .agg #[.int .i64 63, .slice none 0 0, .int .u64 0, .int .u64 0, .slice none 0 0, .int .i64 0]) (by simp [results, Tryz.results16, go_sem, d0, d1, d2, d3, d4, d5]; try rfl) rfl ?_
  exact ⟨_, rfl, ⟨none, 0, none, 0, rfl, Own.nil0, Own.nil0⟩, hbF⟩
end Go.Proofs.YtopggemomcoalaaGreat
namespace Go.Proofs.YtopggemomcoalaaGreat
open Go.ChangeShapes Go.WideShapes Go.ChangeAt Go.RowKit
set_option linter.unusedVariables false
set_option linter.unusedSimpArgs false

theorem keepM {W W' : World} {k : Nat} {o : Obj} (h : W.heap[k]? = some o) (hb : Below W.heap.size W W') : W'.heap[k]? = some o := (hb.block _ (Array.getElem?_eq_some_iff.1 h).1).trans h
theorem fresh_block {W : World} {k : Nat} {o : Obj} (h : W.heap[k]? = some o) : k < W.heap.size := (Array.getElem?_eq_some_iff.1 h).1
set_option maxRecDepth 100000 in
set_option maxHeartbeats 8000000 in
theorem run_good (P : Pg) (v : PgV) (cl : Cl) (p : Option Addr) (n c : Nat) (K : Nat → Int) (d s : Int) (w : World) (h : PAt w P v) (hz : dcode P P.m = 0) (hf : fitsB P cl n = true) (hc : CallAt w cl p n c K d s) (hA64 : ∀ i, i < P.n → In64 (P.a i)) :
    Calls Tryz.prog 16 #[.agg #[.int .i64 P.words, .int .i64 P.locals, .slice v.cp P.n v.cc, .slice v.ep P.m v.ec], .agg #[.int .u64 cl.time, .int .i64 cl.src, .int .u64 cl.seq, .int .i64 cl.dst, .int .i64 cl.kind, .int .i64 cl.data, .slice p n c, .int .u64 d, .int .u64 s, .int .u64 cl.look, .int .i64 cl.parts, .int .i64 cl.fuel]] w fun e w' => ∃ r, e = .returned r ∧ EfAt w' w.heap.size r (effP P cl n K d s) ∧ Below w.heap.size w w' := by
  obtain ⟨w3, hw3⟩ : ∃ w3, ((w.alloc (.cells #[.int .i64 P.words, .int .i64 P.locals, .slice v.cp P.n v.cc, .slice v.ep P.m v.ec] 25)).alloc (.cells #[.int .u64 cl.time, .int .i64 cl.src, .int .u64 cl.seq, .int .i64 cl.dst, .int .i64 cl.kind, .int .i64 cl.data, .slice p n c, .int .u64 d, .int .u64 s, .int .u64 cl.look, .int .i64 cl.parts, .int .i64 cl.fuel] 54)).alloc (.cells #[.int .i64 0, .slice none 0 0, .int .u64 0, .int .u64 0, .slice none 0 0, .int .i64 0] 58) = w3 := ⟨_, rfl⟩
  have hB := bx_new w P v cl p n c d s w3 hw3
  have HW : Hid (((w.alloc (.cells #[.int .i64 P.words, .int .i64 P.locals, .slice v.cp P.n v.cc, .slice v.ep P.m v.ec] 25)).alloc (.cells #[.int .u64 cl.time, .int .i64 cl.src, .int .u64 cl.seq, .int .i64 cl.dst, .int .i64 cl.kind, .int .i64 cl.data, .slice p n c, .int .u64 d, .int .u64 s, .int .u64 cl.look, .int .i64 cl.parts, .int .i64 cl.fuel] 54)).alloc (.cells #[.int .i64 0, .slice none 0 0, .int .u64 0, .int .u64 0, .slice none 0 0, .int .i64 0] 58) = w3) := hw3
  have HV := verify_any P v P.m w3 (h.1.below hB.bel) (h.2.below hB.bel)
  have HF := fits_any P v cl p n c d s
  rw [hz] at HV
  rw [hf] at HF
  have hE : ∃ E, effP P cl n K d s = E := ⟨_, rfl⟩
  obtain ⟨E, hE⟩ := hE
  rw [hE]
  have HE : Hid (effP P cl n K d s = E) := hE
  have HZ : Hid (dcode P P.m = 0) := hz
  have HFB : Hid (fitsB P cl n = true) := hf
  have HP : Hid (PAt w P v) := h
  have HC : Hid (CallAt w cl p n c K d s) := hc
  have HA : Hid (∀ i, i < P.n → In64 (P.a i)) := hA64
  clear hw3 h hz hf hE hc hA64
  go_enter Tryz.func16, Tryz.ntmps16
  go_upto_region 6 with (first | (go_at_call 17; rw [HW.out]; (with_reducible refine HV.mono ?_); rintro e w1 ⟨rfl, hb1⟩; obtain ⟨a0, a1, a2, a3⟩ := cells4 (hB.later hb1).pb; obtain ⟨⟨b0, b1, b2, b3, b4, b5⟩, b6, b7, b8, b9, b10, b11⟩ := cells12 (hB.later hb1).cb) | (go_at_call 35; (with_reducible refine (HF _).mono ?_); rintro e w2 ⟨rfl, hb2⟩))
  have hB2 := (hB.later hb1).later hb2
  clear a0 a1 a2 a3 b0 b1 b2 b3 b4 b5 b6 b7 b8 b9 b10 b11 hb1 hb2 hB HV HF HW
  go_cut [6] (fun m wx => ∃ (mb : Nat) (q : Option Addr) (cc : Nat), m = .pointer (some ⟨mb, 0, none⟩) ∧ MW w2 wx w2.heap.size mb n (machC (.slice v.cp P.n v.cc) cl p n c d s (.slice q n cc)) (newM K d s (.slice q n cc)))
  case first =>
    have hl2 := hB2.lt
    obtain ⟨i70, hi70, z70, hz70, hzs, hsz⟩ : ∃ i, Tryz.prog.info? 90 = some i ∧ ∃ z, i.zero = some z ∧ z.cells.size = 157 ∧ (Tryz.prog.info? 90).map (·.size) = some 157 := by
      have := infoMach
      cases hq : Tryz.prog.info? 90 with
      | none => rw [hq] at this; cases this
      | some i =>
        rw [hq] at this
        simp only [Option.map_some, Option.some.injEq, Prod.mk.injEq] at this
        obtain ⟨h1, h2⟩ := this
        cases hz : i.zero with
        | none => rw [hz] at h2; cases h2
        | some z => rw [hz] at h2; exact ⟨i, rfl, z, hz, by simpa using h2, by simp [h1]⟩
    refine wp_region_held_drew (S := fun W => Below w2.heap.size w2 W) (by kernel_rfl) (below_drewNq _ w2 1) (fun hHeld => ?_)
    have hS0 : Below w2.heap.size w2 w2.drew := hHeld
    refine wpAnyH_take (i := 0) (v := ?hv0u1) rfl (by kernel_rfl) (by kernel_rfl) (by kernel_rfl) (fun _ _ _ h => h) (Or.inl ⟨by rfl, ?hy0u1⟩) (by assumption) ?hr0u1
    case hy0u1 => ((intro W hSw; obtain ⟨a0, a1, a2, a3⟩ := cells4 (hB2.later hSw).pb; obtain ⟨⟨b0, b1, b2, b3, b4, b5⟩, b6, b7, b8, b9, b10, b11⟩ := cells12 (hB2.later hSw).cb; go_simp); try with_reducible rfl)
    simp only [List.getElem_toArray, List.getElem_cons_zero, List.getElem_cons_succ, Act.put, List.setIfInBounds_toArray, List.set_cons_zero, List.set_cons_succ]
    refine wpAnyH_take (i := 1) (v := ?hv1u2) rfl (by kernel_rfl) (by kernel_rfl) (by kernel_rfl) (fun _ _ _ h => h) (Or.inl ⟨by rfl, ?hy1u2⟩) (by assumption) ?hr1u2
    case hy1u2 => ((intro W hSw; obtain ⟨a0, a1, a2, a3⟩ := cells4 (hB2.later hSw).pb; obtain ⟨⟨b0, b1, b2, b3, b4, b5⟩, b6, b7, b8, b9, b10, b11⟩ := cells12 (hB2.later hSw).cb; go_simp); try with_reducible rfl)
    simp only [List.getElem_toArray, List.getElem_cons_zero, List.getElem_cons_succ, Act.put, List.setIfInBounds_toArray, List.set_cons_zero, List.set_cons_succ]
    refine wpAnyH_take (i := 2) (v := ?hv2u3) rfl (by kernel_rfl) (by kernel_rfl) (by kernel_rfl) (fun _ _ _ h => h) (Or.inl ⟨by rfl, ?hy2u3⟩) (by assumption) ?hr2u3
    case hy2u3 => ((intro W hSw; obtain ⟨a0, a1, a2, a3⟩ := cells4 (hB2.later hSw).pb; obtain ⟨⟨b0, b1, b2, b3, b4, b5⟩, b6, b7, b8, b9, b10, b11⟩ := cells12 (hB2.later hSw).cb; go_simp); try with_reducible rfl)
    simp only [List.getElem_toArray, List.getElem_cons_zero, List.getElem_cons_succ, Act.put, List.setIfInBounds_toArray, List.set_cons_zero, List.set_cons_succ]
    refine wpAnyH_take (i := 4) (v := ?hv4u4) rfl (by kernel_rfl) (by kernel_rfl) (by kernel_rfl) (fun _ _ _ h => h) (Or.inl ⟨by rfl, ?hy4u4⟩) (by assumption) ?hr4u4
    case hy4u4 => ((intro W hSw; obtain ⟨a0, a1, a2, a3⟩ := cells4 (hB2.later hSw).pb; obtain ⟨⟨b0, b1, b2, b3, b4, b5⟩, b6, b7, b8, b9, b10, b11⟩ := cells12 (hB2.later hSw).cb; go_simp); try with_reducible rfl)
    simp only [List.getElem_toArray, List.getElem_cons_zero, List.getElem_cons_succ, Act.put, List.setIfInBounds_toArray, List.set_cons_zero, List.set_cons_succ]
    refine wpAnyH_take (i := 5) (v := ?hv5u5) rfl (by kernel_rfl) (by kernel_rfl) (by kernel_rfl) (fun _ _ _ h => h) (Or.inl ⟨by rfl, ?hy5u5⟩) (by assumption) ?hr5u5
    case hy5u5 => ((intro W hSw; obtain ⟨a0, a1, a2, a3⟩ := cells4 (hB2.later hSw).pb; obtain ⟨⟨b0, b1, b2, b3, b4, b5⟩, b6, b7, b8, b9, b10, b11⟩ := cells12 (hB2.later hSw).cb; go_simp); try with_reducible rfl)
    simp only [List.getElem_toArray, List.getElem_cons_zero, List.getElem_cons_succ, Act.put, List.setIfInBounds_toArray, List.set_cons_zero, List.set_cons_succ]
    refine wpAnyH_ready (rs := [3, 8]) (by kernel_rfl) (by simp) (AllReadyH.cons rfl (fun KK hK => ?_) (AllReadyH.cons rfl (fun KK hK => ?_) AllReadyH.nil))
    all_goals dsimp -proj only [List.getElem_toArray, List.getElem_cons_zero, List.getElem_cons_succ]
    · go_simp
      go_at_call 36
      refine (pairs_any _).mono ?_
      rintro e x1 ⟨rfl, hb1⟩
      try go_wp2_with fail
      have hs1 : Below w2.heap.size w2 x1 := hS0.trans (hb1.mono hS0.size)
      refine hK.out _ _ hs1 (fun hHeld => ?_)
      clear hK KK
      try simp only [Act.put, List.setIfInBounds_toArray, List.set_cons_zero, List.set_cons_succ]
      refine wpAnyH_ready (rs := [6, 8]) (by kernel_rfl) (by simp) (AllReadyH.cons rfl (fun KK hK => ?_) (AllReadyH.cons rfl (fun KK hK => ?_) AllReadyH.nil))
      all_goals dsimp -proj only [List.getElem_toArray, List.getElem_cons_zero, List.getElem_cons_succ]
      · go_simp
        go_at_call 37
        refine (copied_any p n c K d s x1 HC.out.room (HC.out.words.below (hB2.bel.trans (hs1.mono (by omega)))) HC.out.nil).mono ?_
        rintro e x2 ⟨q, cc, rfl, ho2, hb2⟩
        try go_wp2_with fail
        have hs2 : Below w2.heap.size w2 x2 := hs1.trans (hb2.mono hs1.size)
        have hO2 := ho2.lower hs1.size
        refine hK.out _ _ hs2 (fun hHeld => ?_)
        clear hK KK
        try simp only [Act.put, List.setIfInBounds_toArray, List.set_cons_zero, List.set_cons_succ]
        refine wpAnyH_take (i := 7) (v := ?hv7u6) rfl (by kernel_rfl) (by kernel_rfl) (by kernel_rfl) (fun _ _ _ h => h) (Or.inl ⟨by rfl, ?hy7u6⟩) (by assumption) ?hr7u6
        case hy7u6 => ((intro W hSw; refine yields_build 90 #[(0, .tmp 24), (1, .tmp 25), (2, .tmp 26), (3, .tmp 29)] ?h1 _ _ ?h2 (mach_built v.cp P.n v.cc cl p n c d s (.slice q n cc)); (case h1 => rfl); (case h2 => first | kernel_rfl | simp [Act.eval, cvA])); try with_reducible rfl)
        simp only [List.getElem_toArray, List.getElem_cons_zero, List.getElem_cons_succ, Act.put, List.setIfInBounds_toArray, List.set_cons_zero, List.set_cons_succ]
        refine wpAnyH_ready (rs := [8]) (by kernel_rfl) (by simp) (AllReadyH.cons rfl (fun KK hK => ?_) AllReadyH.nil)
        all_goals dsimp -proj only [List.getElem_toArray, List.getElem_cons_zero, List.getElem_cons_succ]
        · refine step_alloc_row rfl 90 rfl i70 z70 hi70 hz70 ?_
          obtain ⟨x3, hw3⟩ : ∃ x, (x2).alloc (.cells z70.cells 90) = x := ⟨_, rfl⟩
          have hb3 : Below (x2).heap.size (x2) x3 := by rw [← hw3]; exact (Below.refl _ _).alloc (Nat.le_refl _) _
          have hm3 : x3.heap[(x2).heap.size]? = some (.cells z70.cells 90 (0, 0)) := by rw [← hw3]; exact World.alloc_heap_new _ _
          rw [hw3]
          clear hw3
          have hs3 : Below w2.heap.size w2 x3 := hs2.trans (hb3.mono hs2.size)
          have hs3mb : w2.heap.size ≤ (x2).heap.size := hs2.size
          have hd3 : (Value.slice q n cc).ownBlock ≠ some (x2).heap.size := fun e => by have := (hO2.lt _ e).2; omega
          have hO3 := hO2.later hb3
          refine hK.out _ _ hs3 (fun hHeld => ?_)
          clear hK KK
          try simp only [Act.put, List.setIfInBounds_toArray, List.set_cons_zero, List.set_cons_succ]
          refine wpAnyH_ready (rs := [9]) (by kernel_rfl) (by simp) (AllReadyH.cons rfl (fun KK hK => ?_) AllReadyH.nil)
          all_goals dsimp -proj only [List.getElem_toArray, List.getElem_cons_zero, List.getElem_cons_succ]
          refine step_store_row rfl 90 _ _ rfl (x2).heap.size _ rfl rfl 90 _ hm3 (by rw [List.size_toArray, mach_len]; exact hsz) (by rw [hzs, List.size_toArray, mach_len]) (mach_one _ cl p n c d s q cc rfl) ?_
          refine hK.out _ _ (setRow_below _ hs3 hs3mb) (fun hHeld => ?_)
          clear hK KK
          try simp only [Act.put, List.setIfInBounds_toArray, List.set_cons_zero, List.set_cons_succ]
          refine wpAnyH_done (by kernel_rfl) ?_ _
          go_wp2_with fail
          go_meet
          exact ⟨(x2).heap.size, q, cc, rfl, gather hs3 hm3 hs3mb hO3 hd3⟩
      · refine step_alloc_row rfl 90 rfl i70 z70 hi70 hz70 ?_
        obtain ⟨x4, hw4⟩ : ∃ x, (x1).alloc (.cells z70.cells 90) = x := ⟨_, rfl⟩
        have hb4 : Below (x1).heap.size (x1) x4 := by rw [← hw4]; exact (Below.refl _ _).alloc (Nat.le_refl _) _
        have hm4 : x4.heap[(x1).heap.size]? = some (.cells z70.cells 90 (0, 0)) := by rw [← hw4]; exact World.alloc_heap_new _ _
        rw [hw4]
        clear hw4
        have hs4 : Below w2.heap.size w2 x4 := hs1.trans (hb4.mono hs1.size)
        have hs4mb : w2.heap.size ≤ (x1).heap.size := hs1.size
        refine hK.out _ _ hs4 (fun hHeld => ?_)
        clear hK KK
        try simp only [Act.put, List.setIfInBounds_toArray, List.set_cons_zero, List.set_cons_succ]
        refine wpAnyH_ready (rs := [6]) (by kernel_rfl) (by simp) (AllReadyH.cons rfl (fun KK hK => ?_) AllReadyH.nil)
        all_goals dsimp -proj only [List.getElem_toArray, List.getElem_cons_zero, List.getElem_cons_succ]
        · go_simp
          go_at_call 37
          refine (copied_any p n c K d s x4 HC.out.room (HC.out.words.below (hB2.bel.trans (hs4.mono (by omega)))) HC.out.nil).mono ?_
          rintro e x5 ⟨q, cc, rfl, ho5, hb5⟩
          try go_wp2_with fail
          have hs5 : Below w2.heap.size w2 x5 := hs4.trans (hb5.mono hs4.size)
          have hm5 := keepM hm4 hb5
          have hs5mb := hs4mb
          have hO5 := ho5.lower hs4.size
          have hd5 : (Value.slice q n cc).ownBlock ≠ some (x1).heap.size := fun e => by have := (ho5.lt _ e).1; have := fresh_block hm4; omega
          refine hK.out _ _ hs5 (fun hHeld => ?_)
          clear hK KK
          try simp only [Act.put, List.setIfInBounds_toArray, List.set_cons_zero, List.set_cons_succ]
          refine wpAnyH_take (i := 7) (v := ?hv7u7) rfl (by kernel_rfl) (by kernel_rfl) (by kernel_rfl) (fun _ _ _ h => h) (Or.inl ⟨by rfl, ?hy7u7⟩) (by assumption) ?hr7u7
          case hy7u7 => ((intro W hSw; refine yields_build 90 #[(0, .tmp 24), (1, .tmp 25), (2, .tmp 26), (3, .tmp 29)] ?h1 _ _ ?h2 (mach_built v.cp P.n v.cc cl p n c d s (.slice q n cc)); (case h1 => rfl); (case h2 => first | kernel_rfl | simp [Act.eval, cvA])); try with_reducible rfl)
          simp only [List.getElem_toArray, List.getElem_cons_zero, List.getElem_cons_succ, Act.put, List.setIfInBounds_toArray, List.set_cons_zero, List.set_cons_succ]
          refine wpAnyH_ready (rs := [9]) (by kernel_rfl) (by simp) (AllReadyH.cons rfl (fun KK hK => ?_) AllReadyH.nil)
          all_goals dsimp -proj only [List.getElem_toArray, List.getElem_cons_zero, List.getElem_cons_succ]
          refine step_store_row rfl 90 _ _ rfl (x1).heap.size _ rfl rfl 90 _ hm5 (by rw [List.size_toArray, mach_len]; exact hsz) (by rw [hzs, List.size_toArray, mach_len]) (mach_one _ cl p n c d s q cc rfl) ?_
          refine hK.out _ _ (setRow_below _ hs5 hs5mb) (fun hHeld => ?_)
          clear hK KK
          try simp only [Act.put, List.setIfInBounds_toArray, List.set_cons_zero, List.set_cons_succ]
          refine wpAnyH_done (by kernel_rfl) ?_ _
          go_wp2_with fail
          go_meet
          exact ⟨(x1).heap.size, q, cc, rfl, gather hs5 hm5 hs5mb hO5 hd5⟩
    · refine step_alloc_row rfl 90 rfl i70 z70 hi70 hz70 ?_
      obtain ⟨x6, hw6⟩ : ∃ x, (w2.drew).alloc (.cells z70.cells 90) = x := ⟨_, rfl⟩
      have hb6 : Below (w2.drew).heap.size (w2.drew) x6 := by rw [← hw6]; exact (Below.refl _ _).alloc (Nat.le_refl _) _
      have hm6 : x6.heap[(w2.drew).heap.size]? = some (.cells z70.cells 90 (0, 0)) := by rw [← hw6]; exact World.alloc_heap_new _ _
      rw [hw6]
      clear hw6
      have hs6 : Below w2.heap.size w2 x6 := hS0.trans (hb6.mono hS0.size)
      have hs6mb : w2.heap.size ≤ (w2.drew).heap.size := hS0.size
      refine hK.out _ _ hs6 (fun hHeld => ?_)
      clear hK KK
      try simp only [Act.put, List.setIfInBounds_toArray, List.set_cons_zero, List.set_cons_succ]
      refine wpAnyH_ready (rs := [3]) (by kernel_rfl) (by simp) (AllReadyH.cons rfl (fun KK hK => ?_) AllReadyH.nil)
      all_goals dsimp -proj only [List.getElem_toArray, List.getElem_cons_zero, List.getElem_cons_succ]
      · go_simp
        go_at_call 36
        refine (pairs_any _).mono ?_
        rintro e x7 ⟨rfl, hb7⟩
        try go_wp2_with fail
        have hs7 : Below w2.heap.size w2 x7 := hs6.trans (hb7.mono hs6.size)
        have hm7 := keepM hm6 hb7
        have hs7mb := hs6mb
        refine hK.out _ _ hs7 (fun hHeld => ?_)
        clear hK KK
        try simp only [Act.put, List.setIfInBounds_toArray, List.set_cons_zero, List.set_cons_succ]
        refine wpAnyH_ready (rs := [6]) (by kernel_rfl) (by simp) (AllReadyH.cons rfl (fun KK hK => ?_) AllReadyH.nil)
        all_goals dsimp -proj only [List.getElem_toArray, List.getElem_cons_zero, List.getElem_cons_succ]
        · go_simp
          go_at_call 37
          refine (copied_any p n c K d s x7 HC.out.room (HC.out.words.below (hB2.bel.trans (hs7.mono (by omega)))) HC.out.nil).mono ?_
          rintro e x8 ⟨q, cc, rfl, ho8, hb8⟩
          try go_wp2_with fail
          have hs8 : Below w2.heap.size w2 x8 := hs7.trans (hb8.mono hs7.size)
          have hm8 := keepM hm7 hb8
          have hs8mb := hs7mb
          have hO8 := ho8.lower hs7.size
          have hd8 : (Value.slice q n cc).ownBlock ≠ some (w2.drew).heap.size := fun e => by have := (ho8.lt _ e).1; have := fresh_block hm7; omega
          refine hK.out _ _ hs8 (fun hHeld => ?_)
          clear hK KK
          try simp only [Act.put, List.setIfInBounds_toArray, List.set_cons_zero, List.set_cons_succ]
          refine wpAnyH_take (i := 7) (v := ?hv7u8) rfl (by kernel_rfl) (by kernel_rfl) (by kernel_rfl) (fun _ _ _ h => h) (Or.inl ⟨by rfl, ?hy7u8⟩) (by assumption) ?hr7u8
          case hy7u8 => ((intro W hSw; refine yields_build 90 #[(0, .tmp 24), (1, .tmp 25), (2, .tmp 26), (3, .tmp 29)] ?h1 _ _ ?h2 (mach_built v.cp P.n v.cc cl p n c d s (.slice q n cc)); (case h1 => rfl); (case h2 => first | kernel_rfl | simp [Act.eval, cvA])); try with_reducible rfl)
          simp only [List.getElem_toArray, List.getElem_cons_zero, List.getElem_cons_succ, Act.put, List.setIfInBounds_toArray, List.set_cons_zero, List.set_cons_succ]
          refine wpAnyH_ready (rs := [9]) (by kernel_rfl) (by simp) (AllReadyH.cons rfl (fun KK hK => ?_) AllReadyH.nil)
          all_goals dsimp -proj only [List.getElem_toArray, List.getElem_cons_zero, List.getElem_cons_succ]
          refine step_store_row rfl 90 _ _ rfl (w2.drew).heap.size _ rfl rfl 90 _ hm8 (by rw [List.size_toArray, mach_len]; exact hsz) (by rw [hzs, List.size_toArray, mach_len]) (mach_one _ cl p n c d s q cc rfl) ?_
          refine hK.out _ _ (setRow_below _ hs8 hs8mb) (fun hHeld => ?_)
          clear hK KK
          try simp only [Act.put, List.setIfInBounds_toArray, List.set_cons_zero, List.set_cons_succ]
          refine wpAnyH_done (by kernel_rfl) ?_ _
          go_wp2_with fail
          go_meet
          exact ⟨(w2.drew).heap.size, q, cc, rfl, gather hs8 hm8 hs8mb hO8 hd8⟩
  case rest =>
    obtain ⟨mb, q, cc, rfl, hM⟩ := hcut
    have hBc := hB2.later hM.bel
    have hl := hBc.lt
    obtain ⟨⟨k1, k2⟩, ⟨k3, k4⟩, ⟨k5, k6⟩, k7, k8, k9⟩ := fitsB_yes HFB.out
    obtain ⟨_, hsP, hins, g, hnr, hbd⟩ := dcode_zero HZ.out
    have hkk : cl.kind.toNat < P.m := by omega
    obtain ⟨a0, a1, a2, a3⟩ := cells4 hBc.pb
    obtain ⟨⟨b0, b1, b2, b3, b4, b5⟩, b6, b7, b8, b9, b10, b11⟩ := cells12 hBc.cb
    obtain ⟨⟨r0, r1, r2, r3, r4, r5⟩, f0, f1, f2, f3, f4, f5⟩ := cells6' hBc.rb
    have hKA := HP.out.2.below hBc.bel
    rcases hKA with hKA | ⟨eb, eo, hep, helt, hec⟩
    · omega
    have ce := hec cl.kind.toNat hkk
    rw [hep] at a3
    have en0 := g.en cl.kind.toNat hkk
    clear hec
    by_cases hen : P.en cl.kind.toNat = -1
    · rw [hen] at ce
      have hE : effP P cl n K d s = ⟨0, n, K, d, s, 0, fun _ => undef, 0⟩ := by
        unfold effP
        rw [if_neg (by rw [HZ.out]; simp), if_neg (by rw [HFB.out]; simp), if_pos hen]
      have m55 : wc.cell? ⟨mb, 55, none⟩ = some (.slice q n cc) := hM.box.cell 55 (by omega)
      have m56 : wc.cell? ⟨mb, 56, none⟩ = some (.int .u64 d) := hM.box.cell 56 (by omega)
      have m57 : wc.cell? ⟨mb, 57, none⟩ = some (.int .u64 s) := hM.box.cell 57 (by omega)
      have hwr : Own wc w2.heap.size 2 1 (.slice q n cc) n (iv K) := hM.wr
      have hmb := hM.box.lt
      have HE2 : Hid (E = ⟨0, n, K, d, s, 0, fun _ => undef, 0⟩) := HE.out.symm.trans hE
      clear hE hen HE hM
      go_wp2
      generalize hWF : (World.setCell (World.setCell (World.setCell (World.setCell (World.setCell (World.setCell _ _ _) _ _) _ _) _ _) _ _) _ _) = wF
      obtain ⟨p1, p2, p3⟩ := put6 hBc.rb _ _ _ _ _ _ wF hWF
      have hbF := p3 _ _ hBc.bel (by omega)
      obtain ⟨⟨d0, d1, d2, d3, d4, d5⟩, _⟩ := cells6' p1
      refine bodyPost_ret (v := .agg #[.int .i64 0, .slice q n cc, .int .u64 d, .int .u64 s, .slice none 0 0, .int .i64 0]) (by simp [results, Tryz.results16, go_sem, d0, d1, d2, d3, d4, d5]; try rfl) rfl ?_
      refine ⟨_, rfl, ?_, hbF⟩
      rw [HE2.out]
      have h2l := hB2.lt
      refine ⟨q, cc, none, 0, rfl, (hwr.far fun k hk => p2 k ?_).lower (by omega), Own.nil0⟩
      have := (hwr.lt _ hk).1
      omega
    · obtain ⟨i0, hi0⟩ : ∃ i0 : Nat, P.en cl.kind.toNat = i0 := ⟨(P.en cl.kind.toNat).toNat, by omega⟩
      have hdl := (sol_dL g hnr hbd).en _ hkk (by omega)
      have hi1 : (P.en cl.kind.toNat).toNat = i0 := by omega
      rw [hi0] at ce
      rw [hi1] at hdl
      have hne : ¬ (i0 : Int) = -1 := by omega
      have hlt0 : i0 < P.n := by omega
      have HR := run_any P g hsP hnr hbd hins w2 wc mb n v.cc v.cp (machC (.slice v.cp P.n v.cc) cl p n c d s (.slice q n cc)) (newM K d s (.slice q n cc)) cl (mach_cc _ cl p n c d s _) HC.out.ok k7.symm (HP.out.1.below hB2.bel) hM (newM_ok HC.out _) i0 hlt0 (by rw [hdl]; rfl) cl.fuel.toNat (by show 0 + _ = _; omega) (Int.le_refl _) k9 HA.out
      have hwv : runP P cl cl.fuel.toNat i0 (newM K d s (.slice q n cc)) = ((runOf P cl K d s).1, wvM (runOf P cl K d s).2 (.slice q n cc)) := by
        unfold runOf
        rw [hi1]
        exact runP_wv P cl (.slice q n cc) cl.fuel.toNat i0 (newM K d s (.slice none 0 0))
      rw [hwv] at HR
      have hE : effP P cl n K d s = if (runOf P cl K d s).1 ≠ 0 then ⟨(runOf P cl K d s).1, n, K, d, s, 0, fun _ => undef, (runOf P cl K d s).2.used⟩ else ⟨0, n, (runOf P cl K d s).2.wd, (runOf P cl K d s).2.dice, (runOf P cl K d s).2.sent, (runOf P cl K d s).2.on, (runOf P cl K d s).2.oF, (runOf P cl K d s).2.used⟩ := by
        unfold effP
        rw [if_neg (by rw [HZ.out]; simp), if_neg (by rw [HFB.out]; simp), if_neg hen]
      rw [HE.out] at hE
      generalize runOf P cl K d s = R at hE HR
      clear hwv hdl hM HZ HA HE hen hi0 hi1 hnr hbd hins g hsP hlt0
      by_cases hR1 : R.1 = 0
      · rw [if_neg (by simpa using hR1)] at hE
        rw [hR1] at HR
        have HE2 : Hid (E = _) := hE
        clear hE hR1
        go_wp2_with (go_at_call 38; (with_reducible refine HR.mono ?_); rintro e w4 ⟨rfl, hRR⟩; obtain ⟨ov, hM4⟩ := hRR.1 rfl; obtain ⟨op, oc, hov⟩ := own_slice0 hM4.out; have hov' : ov = .slice op R.2.on oc := hov; subst hov'; clear hov; have hB4 := hB2.later hM4.bel; obtain ⟨⟨x0, x1, x2, x3, x4, x5⟩, y0, y1, y2, y3, y4, y5⟩ := cells6' hB4.rb; have m55 : w4.cell? ⟨mb, 55, none⟩ = some (.slice q n cc) := hM4.box.cell 55 (by omega); have m56 : w4.cell? ⟨mb, 56, none⟩ = some (.int .u64 R.2.dice) := hM4.box.cell 56 (by omega); have m57 : w4.cell? ⟨mb, 57, none⟩ = some (.int .u64 R.2.sent) := hM4.box.cell 57 (by omega); have m155 : w4.cell? ⟨mb, 155, none⟩ = some (.slice op R.2.on oc) := hM4.box.cell 155 (by omega); have m156 : w4.cell? ⟨mb, 156, none⟩ = some (.int .i64 R.2.used) := hM4.box.cell 156 (by omega); have hmb := hM4.box.lt; have hwr : Hid (Own w4 w2.heap.size 2 1 (.slice q n cc) n (iv R.2.wd)) := hM4.wr; have hou : Hid (Own w4 w2.heap.size 49 6 (.slice op R.2.on oc) R.2.on R.2.oF) := hM4.out; clear hM4 hRR HR)
        generalize hWF : (World.setCell (World.setCell (World.setCell (World.setCell (World.setCell (World.setCell _ _ _) _ _) _ _) _ _) _ _) _ _) = wF
        obtain ⟨p1, p2, p3⟩ := put6 hB4.rb _ _ _ _ _ _ wF hWF
        have hbF := p3 _ _ hB4.bel (by omega)
        have h2l := hB2.lt
        obtain ⟨⟨d0, d1, d2, d3, d4, d5⟩, _⟩ := cells6' p1
        refine bodyPost_ret (v := .agg #[.int .i64 0, .slice q n cc, .int .u64 R.2.dice, .int .u64 R.2.sent, .slice op R.2.on oc, .int .i64 R.2.used]) (by simp [results, Tryz.results16, go_sem, d0, d1, d2, d3, d4, d5]; try rfl) rfl ?_
        refine ⟨_, rfl, ?_, hbF⟩
        rw [HE2.out]
        refine ⟨q, cc, op, oc, rfl, (hwr.out.far fun k hk => p2 k ?_).lower (by omega), (hou.out.far fun k hk => p2 k ?_).lower (by omega)⟩
        · have := (hwr.out.lt _ hk).1
          omega
        · have := (hou.out.lt _ hk).1
          omega
      · rw [if_pos hR1] at hE
        have HE2 : Hid (E = _) := hE
        have hR1b : (R.1 == 0) = false := by simpa using hR1
        clear hE
        go_upto_region 12 with (go_at_call 38; (with_reducible refine HR.mono ?_); rintro e w4 ⟨rfl, hRR⟩; obtain ⟨M2, hM4, hus⟩ := hRR.2 hR1; have hB4 := hB2.later hM4.bel; have m156 : w4.cell? ⟨mb, 156, none⟩ = some (.int .i64 R.2.used) := (hM4.box.cell 156 (by omega)).trans (congrArg (fun x => some (Value.int .i64 x)) hus); have hmb := hM4.box.lt; clear hM4 hRR HR)
        have hbw4 : Below w.heap.size w w4 := hB4.bel
        obtain ⟨⟨b0, b1, b2, b3, b4, b5⟩, b6, b7, b8, b9, b10, b11⟩ := cells12 hB4.cb
        have HCP := copied_any p n c K d s w4.drew HC.out.room (HC.out.words.below (hbw4.trans (below_drewNq _ w4 1))) HC.out.nil
        have hl4 := hB4.lt
        have h2l := hB2.lt
        refine wp_region_held_drew (S := fun W => W.heap[w.heap.size + 1]? = w4.heap[w.heap.size + 1]? ∧ W.heap[mb]? = w4.heap[mb]?) (by kernel_rfl) ⟨rfl, rfl⟩ (fun hHeld => ?_)
        clear b0 b1 b2 b3 b4 b5 b6 b7 b8 b9 b10 b11 a0 a1 a2 a3 r0 r1 r2 r3 r4 r5 f0 f1 f2 f3 f4 f5
        refine wpAnyH_take (i := 0) (v := ?hv0u9) rfl (by kernel_rfl) (by kernel_rfl) (by kernel_rfl) (fun _ _ _ h => h) (Or.inl ⟨by rfl, ?hy0u9⟩) (by assumption) ?hr0u9
        case hy0u9 => ((intro W hSw; obtain ⟨⟨b0, b1, b2, b3, b4, b5⟩, b6, b7, b8, b9, b10, b11⟩ := cells12 (hSw.1.trans hB4.cb); have m := (World.cell?_of_block (a := ⟨mb, 156, none⟩) hSw.2).trans m156; go_simp); try with_reducible rfl)
        simp only [List.getElem_toArray, List.getElem_cons_zero, List.getElem_cons_succ, Act.put, List.setIfInBounds_toArray, List.set_cons_zero, List.set_cons_succ]
        refine wpAnyH_take (i := 1) (v := ?hv1u10) rfl (by kernel_rfl) (by kernel_rfl) (by kernel_rfl) (fun _ _ _ h => h) (Or.inl ⟨by rfl, ?hy1u10⟩) (by assumption) ?hr1u10
        case hy1u10 => ((intro W hSw; obtain ⟨⟨b0, b1, b2, b3, b4, b5⟩, b6, b7, b8, b9, b10, b11⟩ := cells12 (hSw.1.trans hB4.cb); have m := (World.cell?_of_block (a := ⟨mb, 156, none⟩) hSw.2).trans m156; go_simp); try with_reducible rfl)
        simp only [List.getElem_toArray, List.getElem_cons_zero, List.getElem_cons_succ, Act.put, List.setIfInBounds_toArray, List.set_cons_zero, List.set_cons_succ]
        refine wpAnyH_take (i := 2) (v := ?hv2u11) rfl (by kernel_rfl) (by kernel_rfl) (by kernel_rfl) (fun _ _ _ h => h) (Or.inl ⟨by rfl, ?hy2u11⟩) (by assumption) ?hr2u11
        case hy2u11 => ((intro W hSw; obtain ⟨⟨b0, b1, b2, b3, b4, b5⟩, b6, b7, b8, b9, b10, b11⟩ := cells12 (hSw.1.trans hB4.cb); have m := (World.cell?_of_block (a := ⟨mb, 156, none⟩) hSw.2).trans m156; go_simp); try with_reducible rfl)
        simp only [List.getElem_toArray, List.getElem_cons_zero, List.getElem_cons_succ, Act.put, List.setIfInBounds_toArray, List.set_cons_zero, List.set_cons_succ]
        refine wpAnyH_take (i := 4) (v := ?hv4u12) rfl (by kernel_rfl) (by kernel_rfl) (by kernel_rfl) (fun _ _ _ h => h) (Or.inl ⟨by rfl, ?hy4u12⟩) (by assumption) ?hr4u12
        case hy4u12 => ((intro W hSw; obtain ⟨⟨b0, b1, b2, b3, b4, b5⟩, b6, b7, b8, b9, b10, b11⟩ := cells12 (hSw.1.trans hB4.cb); have m := (World.cell?_of_block (a := ⟨mb, 156, none⟩) hSw.2).trans m156; go_simp); try with_reducible rfl)
        simp only [List.getElem_toArray, List.getElem_cons_zero, List.getElem_cons_succ, Act.put, List.setIfInBounds_toArray, List.set_cons_zero, List.set_cons_succ]
        refine wpAnyH_take (i := 5) (v := ?hv5u13) rfl (by kernel_rfl) (by kernel_rfl) (by kernel_rfl) (fun _ _ _ h => h) (Or.inl ⟨by rfl, ?hy5u13⟩) (by assumption) ?hr5u13
        case hy5u13 => ((intro W hSw; obtain ⟨⟨b0, b1, b2, b3, b4, b5⟩, b6, b7, b8, b9, b10, b11⟩ := cells12 (hSw.1.trans hB4.cb); have m := (World.cell?_of_block (a := ⟨mb, 156, none⟩) hSw.2).trans m156; go_simp); try with_reducible rfl)
        simp only [List.getElem_toArray, List.getElem_cons_zero, List.getElem_cons_succ, Act.put, List.setIfInBounds_toArray, List.set_cons_zero, List.set_cons_succ]
        refine wpAnyH_ready (rs := [3]) (by kernel_rfl) (by simp) (AllReadyH.cons rfl (fun KK hK => ?_) AllReadyH.nil)
        all_goals dsimp -proj only [List.getElem_toArray, List.getElem_cons_zero, List.getElem_cons_succ]
        go_simp
        go_at_call 37
        refine HCP.mono ?_
        rintro e w5 ⟨q5, c5, rfl, hO5, hb5⟩
        try go_wp2_with fail
        have hB5 := (hB4.later (below_drewNq _ w4 1)).later hb5
        have hne1 : w.heap.size + 1 ≠ w.heap.size + 2 := by omega
        have hne2 : mb ≠ w.heap.size + 2 := by omega
        have hs5 : w5.heap[w.heap.size + 1]? = w4.heap[w.heap.size + 1]? ∧ w5.heap[mb]? = w4.heap[mb]? := ⟨hb5.block _ (by show _ < w4.heap.size; omega), hb5.block _ hmb.1⟩
        refine hK.out _ _ hs5 (fun hHeld => ?_)
        clear hK KK
        try simp only [Act.put, List.setIfInBounds_toArray, List.set_cons_zero, List.set_cons_succ]
        refine wpAnyH_take (i := 6) (v := ?hv6u14) rfl (by kernel_rfl) (by kernel_rfl) (by kernel_rfl) (fun _ _ _ h => h) (Or.inl ⟨by rfl, ?hy6u14⟩) (by assumption) ?hr6u14
        case hy6u14 => ((intro W hSw; go_simp); try with_reducible rfl)
        simp only [List.getElem_toArray, List.getElem_cons_zero, List.getElem_cons_succ, Act.put, List.setIfInBounds_toArray, List.set_cons_zero, List.set_cons_succ]
        refine wpAnyH_ready (rs := [7]) (by kernel_rfl) (by simp) (AllReadyH.cons rfl (fun KK hK => ?_) AllReadyH.nil)
        all_goals dsimp -proj only [List.getElem_toArray, List.getElem_cons_zero, List.getElem_cons_succ]
        refine step_store_row rfl 58 _ _ rfl (w.heap.size + 2) _ rfl rfl 58 _ hB5.rb (by kernel_rfl) rfl (by kernel_rfl) ?_
        refine hK.out _ _ ⟨(setRow_far _ _ _ _ hne1).trans hs5.1, (setRow_far _ _ _ _ hne2).trans hs5.2⟩ (fun hHeld => ?_)
        clear hK KK
        try simp only [Act.put, List.setIfInBounds_toArray, List.set_cons_zero, List.set_cons_succ]
        refine wpAnyH_done (by kernel_rfl) ?_ _
        go_wp2
        refine bodyPost_ret_by (v := .agg #[.int .i64 R.1, .slice q5 n c5, .int .u64 d, .int .u64 s, .slice none 0 0, .int .i64 R.2.used]) (results_cell_row (p := 4) (ty := 58) rfl _ _ (w.heap.size + 2) 58 _ (0, 0) _ rfl (setRow_heap _ _ _ _ _ _ hB5.rb) Tryz.underlying58 rfl (by kernel_rfl)) rfl ?_
        refine ⟨_, rfl, ?_, setRow_below _ hB5.bel (by omega)⟩
        rw [HE2.out]
        refine ⟨q5, c5, none, 0, rfl, (hO5.far fun k hk => setRow_far _ _ _ _ ?_).lower ?_, Own.nil0⟩
        · have := (hO5.lt _ hk).1
          have e4 : w4.drew.heap.size = w4.heap.size := rfl
          omega
        · show w.heap.size ≤ w4.heap.size
          omega
end Go.Proofs.YtopggemomcoalaaGreat
namespace Go.Proofs.YtopggemomcoalaaGreat
open Go.ChangeShapes Go.WideShapes Go.ChangeAt Go.RowKit
set_option linter.unusedVariables false

/-- vm.Run, whatever comes -/
theorem vmRun (P : Pg) (v : PgV) (cl : Cl) (p : Option Addr) (n c : Nat) (K : Nat → Int) (d s : Int) (w : World) (h : PAt w P v) (hc : CallAt w cl p n c K d s) (hA64 : ∀ i, i < P.n → In64 (P.a i)) :
    Calls Tryz.prog 16 #[.agg #[.int .i64 P.words, .int .i64 P.locals, .slice v.cp P.n v.cc, .slice v.ep P.m v.ec], .agg #[.int .u64 cl.time, .int .i64 cl.src, .int .u64 cl.seq, .int .i64 cl.dst, .int .i64 cl.kind, .int .i64 cl.data, .slice p n c, .int .u64 d, .int .u64 s, .int .u64 cl.look, .int .i64 cl.parts, .int .i64 cl.fuel]] w fun e w' => ∃ r, e = .returned r ∧ EfAt w' w.heap.size r (effP P cl n K d s) ∧ Below w.heap.size w w' := by
  by_cases hz : dcode P P.m = 0
  · by_cases hf : fitsB P cl n = true
    · exact run_good P v cl p n c K d s w h hz hf hc hA64
    · have hf' : fitsB P cl n = false := by simpa using hf
      have e : effP P cl n K d s = efErr 63 := by
        unfold effP
        rw [if_neg (by rw [hz]; simp), if_pos hf']
      rw [e]
      exact run_unfit P v cl p n c d s w h hz hf'
  · have e : effP P cl n K d s = efErr (dcode P P.m) := by
      unfold effP
      rw [if_pos hz]
    rw [e]
    exact run_bad P v cl p n c d s w h hz
/-! ### what runs keep -/
theorem doM_out (cl : Cl) (M : Mc) (o a b : Int) (ho : o ≠ 39) : (doM cl M o a b).on = M.on ∧ (doM cl M o a b).oF = M.oF ∧ (doM cl M o a b).sent = M.sent := by
  unfold doM
  by_cases h1 : o = 1
  · rw [if_pos h1]; exact ⟨rfl, rfl, rfl⟩
  rw [if_neg h1]
  by_cases h2 : o = 2
  · rw [if_pos h2]; exact ⟨rfl, rfl, rfl⟩
  rw [if_neg h2]
  by_cases h3 : o = 3
  · rw [if_pos h3]; exact ⟨rfl, rfl, rfl⟩
  rw [if_neg h3]
  by_cases h4 : o = 4
  · rw [if_pos h4]; exact ⟨rfl, rfl, rfl⟩
  rw [if_neg h4]
  by_cases h5 : o = 5
  · rw [if_pos h5]; exact ⟨rfl, rfl, rfl⟩
  rw [if_neg h5]
  by_cases h6 : o = 6
  · rw [if_pos h6]; exact ⟨rfl, rfl, rfl⟩
  rw [if_neg h6]
  by_cases h7 : o = 7
  · rw [if_pos h7]; exact ⟨rfl, rfl, rfl⟩
  rw [if_neg h7]
  by_cases h8 : o = 8
  · rw [if_pos h8]; exact ⟨rfl, rfl, rfl⟩
  rw [if_neg h8]
  by_cases h9 : o = 9
  · rw [if_pos h9]; exact ⟨rfl, rfl, rfl⟩
  rw [if_neg h9]
  by_cases h10 : o = 10
  · rw [if_pos h10]; exact ⟨rfl, rfl, rfl⟩
  rw [if_neg h10]
  by_cases h11 : o = 11
  · rw [if_pos h11]; exact ⟨rfl, rfl, rfl⟩
  rw [if_neg h11]
  by_cases h12 : o = 12
  · rw [if_pos h12]; exact ⟨rfl, rfl, rfl⟩
  rw [if_neg h12]
  by_cases h38 : o = 38
  · rw [if_pos h38]; exact ⟨rfl, rfl, rfl⟩
  rw [if_neg h38]
  by_cases h37 : o = 37
  · rw [if_pos h37]; exact ⟨rfl, rfl, rfl⟩
  rw [if_neg h37]
  by_cases h41 : o = 41
  · rw [if_pos h41]; (generalize waitV M.dice (topM M) = r; rcases r with _ | r <;> exact ⟨rfl, rfl, rfl⟩)
  rw [if_neg h41]
  by_cases h39 : o = 39
  · exact absurd h39 (by omega)
  rw [if_neg h39]
  by_cases hs : o = 23 ∨ o = 24 ∨ o = 25 ∨ o = 34
  · rw [if_pos hs]; exact ⟨rfl, rfl, rfl⟩
  rw [if_neg hs]
  by_cases hp : isPairB o = true
  · rw [if_pos hp]; exact ⟨rfl, rfl, rfl⟩
  rw [if_neg hp]
  exact ⟨rfl, rfl, rfl⟩
theorem doM_dice (cl : Cl) (M : Mc) (o a b : Int) (ho : o ≠ 37 ∧ o ≠ 41) : (doM cl M o a b).dice = M.dice := by
  unfold doM
  by_cases h1 : o = 1
  · rw [if_pos h1]; exact rfl
  rw [if_neg h1]
  by_cases h2 : o = 2
  · rw [if_pos h2]; exact rfl
  rw [if_neg h2]
  by_cases h3 : o = 3
  · rw [if_pos h3]; exact rfl
  rw [if_neg h3]
  by_cases h4 : o = 4
  · rw [if_pos h4]; exact rfl
  rw [if_neg h4]
  by_cases h5 : o = 5
  · rw [if_pos h5]; exact rfl
  rw [if_neg h5]
  by_cases h6 : o = 6
  · rw [if_pos h6]; exact rfl
  rw [if_neg h6]
  by_cases h7 : o = 7
  · rw [if_pos h7]; exact rfl
  rw [if_neg h7]
  by_cases h8 : o = 8
  · rw [if_pos h8]; exact rfl
  rw [if_neg h8]
  by_cases h9 : o = 9
  · rw [if_pos h9]; exact rfl
  rw [if_neg h9]
  by_cases h10 : o = 10
  · rw [if_pos h10]; exact rfl
  rw [if_neg h10]
  by_cases h11 : o = 11
  · rw [if_pos h11]; exact rfl
  rw [if_neg h11]
  by_cases h12 : o = 12
  · rw [if_pos h12]; exact rfl
  rw [if_neg h12]
  by_cases h38 : o = 38
  · rw [if_pos h38]; exact rfl
  rw [if_neg h38]
  by_cases h37 : o = 37
  · exact absurd h37 (by omega)
  rw [if_neg h37]
  by_cases h41 : o = 41
  · exact absurd h41 (by omega)
  rw [if_neg h41]
  by_cases h39 : o = 39
  · rw [if_pos h39]; exact rfl
  rw [if_neg h39]
  by_cases hs : o = 23 ∨ o = 24 ∨ o = 25 ∨ o = 34
  · rw [if_pos hs]; exact rfl
  rw [if_neg hs]
  by_cases hp : isPairB o = true
  · rw [if_pos hp]; exact rfl
  rw [if_neg hp]
def pcOk (p : Int × Int) : Prop := p.2 = 0 ∨ p.2 = 201 ∨ p.2 = 202
theorem pc_ite {c : Prop} [Decidable c] {x y : Int × Int} (hx : pcOk x) (hy : pcOk y) : pcOk (if c then x else y) := by
  split
  · exact hx
  · exact hy
theorem pair_code (o a b : Int) : pcOk (pairV o a b) := by
  unfold pairV
  repeat' apply pc_ite
  all_goals first | exact .inl rfl | exact .inr (.inl rfl) | exact .inr (.inr rfl)
theorem doF_code (cl : Cl) (M : Mc) (o a b : Int) : doF cl M o a b = 0 ∨ 201 ≤ doF cl M o a b ∧ doF cl M o a b ≤ 209 := by
  have hp := pair_code o (topM (popM M)) (topM M)
  unfold pcOk at hp
  unfold doF idxF sendF
  repeat' split
  all_goals omega
theorem runP_code (P : Pg) (cl : Cl) : ∀ (k i : Nat) (M : Mc), (runP P cl k i M).1 = 0 ∨ 200 ≤ (runP P cl k i M).1 ∧ (runP P cl k i M).1 ≤ 209
  | 0, i, M => by rw [runP_zero]; right; simp
  | k + 1, i, M => by
    by_cases h0 : P.op i = 0
    · rw [runP_stop h0]; left; rfl
    by_cases h1 : P.op i = 35
    · rw [runP_jump h1]; exact runP_code P cl k _ _
    by_cases h2 : P.op i = 36
    · rw [runP_ifz h2]; exact runP_code P cl k _ _
    have h3 : P.op i ≠ 0 ∧ P.op i ≠ 35 ∧ P.op i ≠ 36 := ⟨h0, h1, h2⟩
    by_cases hf : doF cl (usM M) (P.op i) (P.a i) (P.b i) = 0
    · rw [runP_go h3 hf]; exact runP_code P cl k _ _
    · rw [runP_fault h3 hf]
      have := doF_code cl (usM M) (P.op i) (P.a i) (P.b i)
      right
      show 200 ≤ doF cl (usM M) (P.op i) (P.a i) (P.b i) ∧ doF cl (usM M) (P.op i) (P.a i) (P.b i) ≤ 209
      omega
theorem us_used (M : Mc) : (usM M).used = M.used + 1 := rfl
theorem popus_used (M : Mc) : (popM (usM M)).used = M.used + 1 := rfl
theorem dous_used (cl : Cl) (M : Mc) (o a b : Int) : (doM cl (usM M) o a b).used = M.used + 1 := doM_used cl (usM M) o a b
theorem runP_used (P : Pg) (cl : Cl) : ∀ (k i : Nat) (M : Mc), M.used ≤ (runP P cl k i M).2.used ∧ (runP P cl k i M).2.used ≤ M.used + k ∧ ((runP P cl k i M).1 ≠ 200 → M.used < (runP P cl k i M).2.used) ∧ ((runP P cl k i M).1 = 200 → (runP P cl k i M).2.used = M.used + k)
  | 0, i, M => by rw [runP_zero]; simp
  | k + 1, i, M => by
    by_cases h0 : P.op i = 0
    · rw [runP_stop h0]
      simp only [us_used]
      refine ⟨by omega, by omega, fun _ => by omega, fun h => by cases h⟩
    by_cases h1 : P.op i = 35
    · rw [runP_jump h1]
      obtain ⟨a1, a2, a3, a4⟩ := runP_used P cl k (P.a i).toNat (usM M)
      rw [us_used] at a1 a2 a3 a4
      exact ⟨by omega, by omega, fun _ => by omega, fun h => by have := a4 h; omega⟩
    by_cases h2 : P.op i = 36
    · rw [runP_ifz h2]
      obtain ⟨a1, a2, a3, a4⟩ := runP_used P cl k (if topM M = 0 then (P.a i).toNat else i + 1) (popM (usM M))
      rw [popus_used] at a1 a2 a3 a4
      exact ⟨by omega, by omega, fun _ => by omega, fun h => by have := a4 h; omega⟩
    have h3 : P.op i ≠ 0 ∧ P.op i ≠ 35 ∧ P.op i ≠ 36 := ⟨h0, h1, h2⟩
    by_cases hf : doF cl (usM M) (P.op i) (P.a i) (P.b i) = 0
    · rw [runP_go h3 hf]
      obtain ⟨a1, a2, a3, a4⟩ := runP_used P cl k (i + 1) (doM cl (usM M) (P.op i) (P.a i) (P.b i))
      rw [dous_used] at a1 a2 a3 a4
      exact ⟨by omega, by omega, fun _ => by omega, fun h => by have := a4 h; omega⟩
    · rw [runP_fault h3 hf]
      have hc := doF_code cl (usM M) (P.op i) (P.a i) (P.b i)
      simp only [us_used]
      exact ⟨by omega, by omega, fun _ => by omega, fun h => by omega⟩
/-- more fuel changes nothing -/
theorem runP_more (P : Pg) (cl : Cl) : ∀ (k i : Nat) (M : Mc) (k' : Nat), (runP P cl k i M).1 ≠ 200 → (runP P cl k i M).2.used ≤ M.used + k' → runP P cl k' i M = runP P cl k i M
  | 0, i, M, k', h, _ => by rw [runP_zero] at h; exact absurd rfl h
  | k + 1, i, M, 0, h, hu => by
    have := (runP_used P cl (k + 1) i M).2.2.1 h
    omega
  | k + 1, i, M, k' + 1, h, hu => by
    by_cases h0 : P.op i = 0
    · rw [runP_stop h0, runP_stop h0]
    by_cases h1 : P.op i = 35
    · rw [runP_jump h1] at h hu ⊢
      rw [runP_jump h1]
      exact runP_more P cl k _ _ k' h (by rw [us_used]; omega)
    by_cases h2 : P.op i = 36
    · rw [runP_ifz h2] at h hu ⊢
      rw [runP_ifz h2]
      exact runP_more P cl k _ _ k' h (by rw [popus_used]; omega)
    have h3 : P.op i ≠ 0 ∧ P.op i ≠ 35 ∧ P.op i ≠ 36 := ⟨h0, h1, h2⟩
    by_cases hf : doF cl (usM M) (P.op i) (P.a i) (P.b i) = 0
    · rw [runP_go h3 hf] at h hu ⊢
      rw [runP_go h3 hf]
      exact runP_more P cl k _ _ k' h (by rw [dous_used]; omega)
    · rw [runP_fault h3 hf, runP_fault h3 hf]
/-- with less it ends for want of it -/
theorem runP_less (P : Pg) (cl : Cl) : ∀ (k' i : Nat) (M : Mc) (k : Nat), (M.used + k' < (runP P cl k i M).2.used ∨ (runP P cl k i M).1 = 200 ∧ k' ≤ k) → (runP P cl k' i M).1 = 200 ∧ (runP P cl k' i M).2.used = M.used + k'
  | 0, i, M, k, h => by rw [runP_zero]; simp
  | k' + 1, i, M, 0, h => by rw [runP_zero] at h; simp only at h; omega
  | k' + 1, i, M, k + 1, h => by
    by_cases h0 : P.op i = 0
    · rw [runP_stop h0] at h
      simp only [us_used] at h
      omega
    by_cases h1 : P.op i = 35
    · rw [runP_jump h1] at h
      rw [runP_jump h1]
      have := runP_less P cl k' _ (usM M) k (h.imp (fun h => by rw [us_used]; omega) (fun h => ⟨h.1, by omega⟩))
      rw [us_used] at this
      exact ⟨this.1, by omega⟩
    by_cases h2 : P.op i = 36
    · rw [runP_ifz h2] at h
      rw [runP_ifz h2]
      have := runP_less P cl k' _ (popM (usM M)) k (h.imp (fun h => by rw [popus_used]; omega) (fun h => ⟨h.1, by omega⟩))
      rw [popus_used] at this
      exact ⟨this.1, by omega⟩
    have h3 : P.op i ≠ 0 ∧ P.op i ≠ 35 ∧ P.op i ≠ 36 := ⟨h0, h1, h2⟩
    by_cases hf : doF cl (usM M) (P.op i) (P.a i) (P.b i) = 0
    · rw [runP_go h3 hf] at h
      rw [runP_go h3 hf]
      have := runP_less P cl k' _ (doM cl (usM M) (P.op i) (P.a i) (P.b i)) k (h.imp (fun h => by rw [dous_used]; omega) (fun h => ⟨h.1, by omega⟩))
      rw [dous_used] at this
      exact ⟨this.1, by omega⟩
    · rw [runP_fault h3 hf] at h
      have hc := doF_code cl (usM M) (P.op i) (P.a i) (P.b i)
      simp only [us_used] at h
      omega
/-- what every instruction keeps, a run keeps -/
theorem runP_ind {P : Pg} (g : Gd P) (hs : sizedP P) (hnr : ¬ Rch P P.n) (hbd : ¬ BadD P) (hins : ferr (insE P) 0 P.n = 0) {cl : Cl} (hcl : OkC cl) (hA64 : ∀ i, i < P.n → In64 (P.a i)) (J : Mc → Prop) (hus : ∀ M, J M → J (usM M)) (hpop : ∀ M, J M → J (popM M))
    (hdo : ∀ M i, i < P.n → OkM M → J (usM M) → insErr P (P.op i) (P.a i) (P.b i) = 0 → doF cl (usM M) (P.op i) (P.a i) (P.b i) = 0 → J (doM cl (usM M) (P.op i) (P.a i) (P.b i))) : ∀ (k i : Nat) (M : Mc), i < P.n → (M.hi : Int) = dL P i → OkM M → J M → J (runP P cl k i M).2 ∧ OkM (runP P cl k i M).2
  | 0, i, M, hi, hd, hok, hJ => by rw [runP_zero]; exact ⟨hJ, hok⟩
  | k + 1, i, M, hi, hd, hok, hJ => by
    have hsol := sol_dL g hnr hbd
    have hdn : dL P i ≠ -1 := by omega
    have HD := hsol.dp i hi hdn
    have HF := hsol.fine i hi hdn
    have hins1 : insErr P (P.op i) (P.a i) (P.b i) = 0 := ferr_zero hins i (by omega) (by omega)
    by_cases h0 : P.op i = 0
    · rw [runP_stop h0]; exact ⟨hus _ hJ, hok.us⟩
    by_cases h1 : P.op i = 35
    · rw [runP_jump h1]
      have hj : jmp (P.op i) = true := by rw [h1]; rfl
      have ha := g.a i hi hj
      have hL := hsol.jump i hi hdn hj
      refine runP_ind g hs hnr hbd hins hcl hA64 J hus hpop hdo k _ _ (by omega) ?_ hok.us (hus _ hJ)
      show (M.hi : Int) = _
      rw [hL]
      unfold aft
      rw [h1, show pops 35 = 0 from rfl, show pushes 35 = 0 from rfl]
      omega
    by_cases h2 : P.op i = 36
    · rw [runP_ifz h2]
      have hj : jmp (P.op i) = true := by rw [h2]; rfl
      have hen : ends (P.op i) = false := by rw [h2]; rfl
      have haft : aft P i (dL P i) = dL P i - 1 := by
        unfold aft
        rw [h2, show pops 36 = 1 from rfl, show pushes 36 = 0 from rfl]
        omega
      have hhi : 1 ≤ M.hi := by
        have := HF.1
        rw [h2, show pops 36 = 1 from rfl] at this
        omega
      by_cases ht : topM M = 0
      · rw [if_pos ht]
        have ha := g.a i hi hj
        have hL := hsol.jump i hi hdn hj
        refine runP_ind g hs hnr hbd hins hcl hA64 J hus hpop hdo k _ _ (by omega) ?_ hok.us.pop (hpop _ (hus _ hJ))
        show ((M.hi - 1 : Nat) : Int) = _
        rw [hL, haft]
        omega
      · rw [if_neg ht]
        have hnx := hsol.eq g hnr (.next i _ HD hi HF hen)
        refine runP_ind g hs hnr hbd hins hcl hA64 J hus hpop hdo k _ _ hnx.1 ?_ hok.us.pop (hpop _ (hus _ hJ))
        show ((M.hi - 1 : Nat) : Int) = _
        rw [hnx.2, haft]
        omega
    have h3 : P.op i ≠ 0 ∧ P.op i ≠ 35 ∧ P.op i ≠ 36 := ⟨h0, h1, h2⟩
    by_cases hf : doF cl (usM M) (P.op i) (P.a i) (P.b i) = 0
    · rw [runP_go h3 hf]
      have h40 : P.op i ≠ 40 := fun e => by
        rw [e] at hf
        unfold doF at hf
        rw [if_pos rfl] at hf
        cases hf
      have hen : ends (P.op i) = false := by
        unfold ends
        simp [h0, h1, h40]
      have hnx := hsol.eq g hnr (.next i _ HD hi HF hen)
      have hf1 : pops (P.op i) ≤ (usM M).hi := by have := HF.1; show pops (P.op i) ≤ (M.hi : Int); omega
      have hhi := doM_hi cl (usM M) (P.op i) (P.a i) (P.b i) (g.op i hi) ⟨h0, h1, h2, h40⟩ hf hf1
      refine runP_ind g hs hnr hbd hins hcl hA64 J hus hpop hdo k _ _ hnx.1 ?_ (doM_ok cl hcl (usM M) hok.us _ _ _ (hA64 i hi) hf ?_) (hdo M i hi hok (hus _ hJ) hins1 hf)
      · rw [hhi, hnx.2]
        unfold aft
        show (M.hi : Int) - _ + _ = _
        omega
      · intro e38
        have h5 := ins_two hins1 (by rw [e38]; rfl)
        rw [e38, show limI P 38 = 64 from rfl] at h5
        omega
    · rw [runP_fault h3 hf]; exact ⟨hus _ hJ, hok.us⟩
/-! ### what is sent -/
structure SInv (P : Pg) (cl : Cl) (s0 : Int) (M : Mc) : Prop where
  on : M.on ≤ 16
  sent : M.sent = u64of (s0 + M.on)
  ev : ∀ i, i < M.on → ∃ D T k X : Int, M.oF (i * 6) = .int .u64 (addN cl.time (u64of D)) ∧ M.oF (i * 6 + 1) = .int .i64 cl.dst ∧ M.oF (i * 6 + 2) = .int .u64 (u64of (s0 + i)) ∧ M.oF (i * 6 + 3) = .int .i64 T ∧ M.oF (i * 6 + 4) = .int .i64 k ∧ M.oF (i * 6 + 5) = .int .i64 X ∧ (0 ≤ T ∧ T < cl.parts) ∧ (0 ≤ k ∧ k < P.m) ∧ ¬ u64of D < cl.look ∧ addE cl.time (u64of D) = 0
theorem u64of_u (x : Int) : u64of (u64of x + 1) = u64of (x + 1) := by
  unfold u64of
  simp only [IntKind.wrap, IntKind.bits, IntKind.signed]
  simp
theorem sinv_do {P : Pg} {cl : Cl} {s0 : Int} (M : Mc) (o a b : Int) (h : SInv P cl s0 M) (hi : insErr P o a b = 0) (hf : doF cl M o a b = 0) : SInv P cl s0 (doM cl M o a b) := by
  by_cases h39 : o = 39
  · subst h39
    have hz : sendF cl M (topM M) (topM (popM M)) = 0 := hf
    have hk := ins_one hi (by decide) (by decide)
    rw [show limI P 39 = P.m from rfl] at hk
    have hon := sendF_on hz
    have e : doM cl M 39 a b = sentM cl a M := by
      unfold doM
      rw [if_neg (by omega), if_neg (by omega), if_neg (by omega), if_neg (by omega), if_neg (by omega), if_neg (by omega), if_neg (by omega), if_neg (by omega), if_neg (by omega), if_neg (by omega), if_neg (by omega), if_neg (by omega), if_neg (by omega), if_neg (by omega), if_neg (by omega), if_pos rfl]
    rw [e]
    have ho := h.on
    refine ⟨by show M.on + 1 ≤ 16; omega, ?_, fun i hi => ?_⟩
    · show u64of (M.sent + 1) = u64of (s0 + ((M.on + 1 : Nat) : Int))
      rw [h.sent, u64of_u]
      congr 1
      omega
    · have hi' : i < M.on + 1 := hi
      by_cases hlt : i < M.on
      · obtain ⟨D, T, k, X, e0, e1, e2, e3, e4, e5, r⟩ := h.ev i hlt
        have ap : ∀ r, r < 6 → (sentM cl a M).oF (i * 6 + r) = M.oF (i * 6 + r) := fun r hr => by
          show oApp M _ (i * 6 + r) = _
          unfold oApp
          rw [if_pos (by omega)]
        refine ⟨D, T, k, X, ?_, ?_, ?_, ?_, ?_, ?_, r⟩
        · rw [← e0]; exact ap 0 (by omega)
        · rw [← e1]; exact ap 1 (by omega)
        · rw [← e2]; exact ap 2 (by omega)
        · rw [← e3]; exact ap 3 (by omega)
        · rw [← e4]; exact ap 4 (by omega)
        · rw [← e5]; exact ap 5 (by omega)
      · obtain rfl : i = M.on := by omega
        have ap : ∀ r, r < 6 → (sentM cl a M).oF (M.on * 6 + r) = (sentEv cl M a (topM M) (topM (popM M)) (topM (popM (popM M)))).getD r undef := fun r hr => by
          show oApp M _ (M.on * 6 + r) = _
          unfold oApp
          rw [if_neg (by omega), show M.on * 6 + r - M.on * 6 = r by omega]
        unfold sendF at hz
        by_cases c1 : topM (popM M) < 0 ∨ cl.parts ≤ topM (popM M)
        · rw [if_pos c1] at hz; cases hz
        rw [if_neg c1] at hz
        by_cases c2 : topM M < 0 ∨ u64of (topM M) < cl.look
        · rw [if_pos c2] at hz; cases hz
        rw [if_neg c2, if_neg hon] at hz
        by_cases c3 : addE cl.time (u64of (topM M)) ≠ 0
        · rw [if_pos c3] at hz; cases hz
        refine ⟨topM M, topM (popM M), a, topM (popM (popM M)), ap 0 (by omega), ap 1 (by omega), ?_, ap 3 (by omega), ap 4 (by omega), ap 5 (by omega), by omega, by omega, fun hc => c2 (.inr hc), by omega⟩
        rw [ap 2 (by omega), ← h.sent]
        rfl
  · obtain ⟨e1, e2, e3⟩ := doM_out cl M o a b h39
    exact ⟨by rw [e1]; exact h.on, by rw [e1, e3]; exact h.sent, fun i hi => by rw [e2]; exact h.ev i (by rw [e1] at hi; exact hi)⟩
def nxN : Nat → BitVec 64 → BitVec 64
  | 0, b => b
  | k + 1, b => nx (nxN k b)
theorem nxN_add (j : Nat) : ∀ (k : Nat) (b : BitVec 64), nxN k (nxN j b) = nxN (k + j) b
  | 0, b => by rw [Nat.zero_add]; rfl
  | k + 1, b => by
    show nx (nxN k (nxN j b)) = _
    rw [nxN_add j k b, Nat.add_right_comm]
    rfl
theorem blw_steps : ∀ (k : Nat) (s : BitVec 64) (x : Int), ∃ j, j ≤ k ∧ blw k s x = nxN j s
  | 0, s, x => ⟨0, Nat.le_refl _, rfl⟩
  | k + 1, s, x => by
    by_cases h : U (mx (nx s)) < x
    · rw [blw_more h]
      obtain ⟨j, h1, h2⟩ := blw_steps k (nx s) x
      exact ⟨j + 1, by omega, by rw [h2]; exact nxN_add 1 j s⟩
    · rw [blw_stop h]
      exact ⟨1, by omega, rfl⟩
def DInv (d0 : Int) (M : Mc) : Prop := ∃ j : Nat, (j : Int) ≤ 8 * M.used ∧ M.dice = U (nxN j (B d0))
theorem dinv_do {cl : Cl} {d0 : Int} (M : Mc) (o a b : Int) (h : ∃ j : Nat, (j : Int) ≤ 8 * M.used ∧ M.dice = U (nxN j (B d0))) : DInv d0 (doM cl (usM M) o a b) := by
  obtain ⟨j, h1, h2⟩ := h
  have hu := dous_used cl M o a b
  by_cases h37 : o = 37
  · subst h37
    have e : doM cl (usM M) 37 a b = { pushM (popM (usM M)) (rollV (usM M).dice (topM (usM M))).1 with dice := (rollV (usM M).dice (topM (usM M))).2 } := by
      unfold doM
      rw [if_neg (by omega), if_neg (by omega), if_neg (by omega), if_neg (by omega), if_neg (by omega), if_neg (by omega), if_neg (by omega), if_neg (by omega), if_neg (by omega), if_neg (by omega), if_neg (by omega), if_neg (by omega), if_neg (by omega), if_pos rfl]
    obtain ⟨i, h3, h4⟩ := blw_steps 8 (B M.dice) (18446744073709551616 % (topM (usM M)))
    refine ⟨i + j, by rw [hu]; omega, ?_⟩
    rw [e]
    show (rollV M.dice (topM (usM M))).2 = _
    unfold rollV
    show U (blw 8 (B M.dice) _) = _
    rw [h4, h2, B_U, nxN_add]
  · by_cases h41 : o = 41
    · subst h41
      have e : doM cl (usM M) 41 a b = waitM (usM M) (waitV (usM M).dice (topM (usM M))) := by
        unfold doM
        rw [if_neg (by omega), if_neg (by omega), if_neg (by omega), if_neg (by omega), if_neg (by omega), if_neg (by omega), if_neg (by omega), if_neg (by omega), if_neg (by omega), if_neg (by omega), if_neg (by omega), if_neg (by omega), if_neg (by omega), if_neg (by omega), if_pos rfl]
      have e2 : (usM M).dice = M.dice := rfl
      rw [e2] at e
      by_cases hw : waitV M.dice (topM (usM M)) = none
      · refine ⟨j, by rw [hu]; omega, ?_⟩
        rw [e, hw]
        exact h2
      · obtain ⟨r, hr⟩ := Option.ne_none_iff_exists'.1 hw
        refine ⟨1 + j, by rw [hu]; omega, ?_⟩
        rw [e, hr]
        show r.2 = _
        unfold waitV at hr
        split at hr
        · injection hr with hr
          rw [← hr]
          show U (nx (B M.dice)) = _
          rw [h2, B_U]
          exact congrArg U (nxN_add j 1 (B d0))
        · cases hr
    · refine ⟨j, by rw [hu]; omega, ?_⟩
      rw [doM_dice cl (usM M) o a b ⟨h37, h41⟩]
      exact h2
end Go.Proofs.YtopggemomcoalaaGreat
