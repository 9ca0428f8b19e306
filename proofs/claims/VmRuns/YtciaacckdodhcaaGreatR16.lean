import Derived.Test.YtciaacckdodhcaaGreatR13
import Derived.Test.YtciaacckdodhcaaGreatV15
import Derived.Test.YtciaacckdodhcaaGreatM23
namespace Go.Proofs.YtciaacckdodhcaaGreat
open Go.ChangeShapes Go.WideShapes Go.ChangeAt Go.RowKit
set_option linter.unusedVariables false
set_option linter.unusedSimpArgs false

theorem rver_any (P : Pg) (v : PgV) (cl : Cl) (p : Option Addr) (n c : Nat) (K : Nat → Int) (d s : Int) (w : World) (h : PAt w P v) (hz : dcode P P.m = 0) (hc : CallAt w cl p n c K d s) (hA64 : ∀ i, i < P.n → In64 (P.a i)) :
    Calls Tryz.prog 18 #[.agg #[.int .i64 P.words, .int .i64 P.locals, .slice v.cp P.n v.cc, .slice v.ep P.m v.ec], .agg #[.int .u64 cl.time, .int .i64 cl.src, .int .u64 cl.seq, .int .i64 cl.dst, .int .i64 cl.kind, .int .i64 cl.data, .slice p n c, .int .u64 d, .int .u64 s, .int .u64 cl.look, .int .i64 cl.parts, .int .i64 cl.fuel]] w fun e w' => ∃ r, e = .returned r ∧ EfAt w' w.heap.size r (effP P cl n K d s) ∧ Below w.heap.size w w' := by
  by_cases hf : fitsB P cl n = true
  · by_cases hen : P.en cl.kind.toNat = -1
    · exact rver_idle P v cl p n c K d s w h hz hf hc hA64 hen
    · exact rver_run P v cl p n c K d s w h hz hf hc hA64 hen
  · have hf' : fitsB P cl n = false := by simpa using hf
    have e : effP P cl n K d s = efErr 63 := by
      unfold effP
      rw [if_neg (by rw [hz]; simp), if_pos hf']
    rw [e]
    exact rver_unfit P v cl p n c d s w hf'
set_option maxRecDepth 100000 in
set_option maxHeartbeats 4000000 in
theorem rrun_bad (P : Pg) (v : PgV) (cl : Cl) (p : Option Addr) (n c : Nat) (d s : Int) (w : World) (h : PAt w P v) (hbad : dcode P P.m ≠ 0) :
    Calls Tryz.prog 7 #[.agg #[.int .i64 P.words, .int .i64 P.locals, .slice v.cp P.n v.cc, .slice v.ep P.m v.ec], .agg #[.int .u64 cl.time, .int .i64 cl.src, .int .u64 cl.seq, .int .i64 cl.dst, .int .i64 cl.kind, .int .i64 cl.data, .slice p n c, .int .u64 d, .int .u64 s, .int .u64 cl.look, .int .i64 cl.parts, .int .i64 cl.fuel]] w fun e w' => ∃ r, e = .returned r ∧ EfAt w' w.heap.size r (efErr (dcode P P.m)) ∧ Below w.heap.size w w' := by
  obtain ⟨w3, hw3⟩ : ∃ w3, ((w.alloc (.cells #[.int .i64 P.words, .int .i64 P.locals, .slice v.cp P.n v.cc, .slice v.ep P.m v.ec] 25)).alloc (.cells #[.int .u64 cl.time, .int .i64 cl.src, .int .u64 cl.seq, .int .i64 cl.dst, .int .i64 cl.kind, .int .i64 cl.data, .slice p n c, .int .u64 d, .int .u64 s, .int .u64 cl.look, .int .i64 cl.parts, .int .i64 cl.fuel] 35)).alloc (.cells #[.int .i64 0, .slice none 0 0, .int .u64 0, .int .u64 0, .slice none 0 0, .int .i64 0] 41) = w3 := ⟨_, rfl⟩
  have hB := bx_new w P v cl p n c d s w3 hw3
  have HW : Hid (((w.alloc (.cells #[.int .i64 P.words, .int .i64 P.locals, .slice v.cp P.n v.cc, .slice v.ep P.m v.ec] 25)).alloc (.cells #[.int .u64 cl.time, .int .i64 cl.src, .int .u64 cl.seq, .int .i64 cl.dst, .int .i64 cl.kind, .int .i64 cl.data, .slice p n c, .int .u64 d, .int .u64 s, .int .u64 cl.look, .int .i64 cl.parts, .int .i64 cl.fuel] 35)).alloc (.cells #[.int .i64 0, .slice none 0 0, .int .u64 0, .int .u64 0, .slice none 0 0, .int .i64 0] 41) = w3) := hw3
  have HV := rverify_any P v P.m w3 ⟨h.1.below hB.bel, h.2.below hB.bel⟩
  generalize dcode P P.m = code at HV hbad ⊢
  clear hw3 h
  go_enter Tryz.func7, Tryz.ntmps7
  go_wp2_with (go_at_call 17; rw [HW.out]; (with_reducible refine HV.mono ?_); rintro e w1 ⟨rfl, hb1⟩; obtain ⟨⟨r0, r1, r2, r3, r4, r5⟩, f0, f1, f2, f3, f4, f5⟩ := cells6' (hB.later hb1).rb)
  generalize hWF : (World.setCell (World.setCell (World.setCell (World.setCell (World.setCell (World.setCell _ _ _) _ _) _ _) _ _) _ _) _ _) = wF
  obtain ⟨p1, p2, p3⟩ := put6 (hB.later hb1).rb _ _ _ _ _ _ wF hWF
  have hbF := p3 _ _ (hB.later hb1).bel (by omega)
  clear hWF p2 p3 r0 r1 r2 r3 r4 r5 f0 f1 f2 f3 f4 f5
  obtain ⟨⟨d0, d1, d2, d3, d4, d5⟩, _⟩ := cells6' p1
  refine bodyPost_ret (v := .agg #[.int .i64 code, .slice none 0 0, .int .u64 0, .int .u64 0, .slice none 0 0, .int .i64 0]) (by simp [results, Tryz.results7, go_sem, d0, d1, d2, d3, d4, d5]; try rfl) rfl ?_
  exact ⟨_, rfl, ⟨none, 0, none, 0, rfl, Own.nil0, Own.nil0⟩, hbF⟩
set_option maxRecDepth 100000 in
set_option maxHeartbeats 4000000 in
theorem rrun_good (P : Pg) (v : PgV) (cl : Cl) (p : Option Addr) (n c : Nat) (K : Nat → Int) (d s : Int) (w : World) (h : PAt w P v) (hz : dcode P P.m = 0) (hc : CallAt w cl p n c K d s) (hA64 : ∀ i, i < P.n → In64 (P.a i)) :
    Calls Tryz.prog 7 #[.agg #[.int .i64 P.words, .int .i64 P.locals, .slice v.cp P.n v.cc, .slice v.ep P.m v.ec], .agg #[.int .u64 cl.time, .int .i64 cl.src, .int .u64 cl.seq, .int .i64 cl.dst, .int .i64 cl.kind, .int .i64 cl.data, .slice p n c, .int .u64 d, .int .u64 s, .int .u64 cl.look, .int .i64 cl.parts, .int .i64 cl.fuel]] w fun e w' => ∃ r, e = .returned r ∧ EfAt w' w.heap.size r (effP P cl n K d s) ∧ Below w.heap.size w w' := by
  obtain ⟨w3, hw3⟩ : ∃ w3, ((w.alloc (.cells #[.int .i64 P.words, .int .i64 P.locals, .slice v.cp P.n v.cc, .slice v.ep P.m v.ec] 25)).alloc (.cells #[.int .u64 cl.time, .int .i64 cl.src, .int .u64 cl.seq, .int .i64 cl.dst, .int .i64 cl.kind, .int .i64 cl.data, .slice p n c, .int .u64 d, .int .u64 s, .int .u64 cl.look, .int .i64 cl.parts, .int .i64 cl.fuel] 35)).alloc (.cells #[.int .i64 0, .slice none 0 0, .int .u64 0, .int .u64 0, .slice none 0 0, .int .i64 0] 41) = w3 := ⟨_, rfl⟩
  have hB := bx_new w P v cl p n c d s w3 hw3
  have HW : Hid (((w.alloc (.cells #[.int .i64 P.words, .int .i64 P.locals, .slice v.cp P.n v.cc, .slice v.ep P.m v.ec] 25)).alloc (.cells #[.int .u64 cl.time, .int .i64 cl.src, .int .u64 cl.seq, .int .i64 cl.dst, .int .i64 cl.kind, .int .i64 cl.data, .slice p n c, .int .u64 d, .int .u64 s, .int .u64 cl.look, .int .i64 cl.parts, .int .i64 cl.fuel] 35)).alloc (.cells #[.int .i64 0, .slice none 0 0, .int .u64 0, .int .u64 0, .slice none 0 0, .int .i64 0] 41) = w3) := hw3
  have HV := rverify_any P v P.m w3 ⟨h.1.below hB.bel, h.2.below hB.bel⟩
  rw [hz] at HV
  have HZ : Hid (dcode P P.m = 0) := hz
  have HP : Hid (PAt w P v) := h
  have HC : Hid (CallAt w cl p n c K d s) := hc
  have HA : Hid (∀ i, i < P.n → In64 (P.a i)) := hA64
  clear hw3 h hz hc hA64
  go_enter Tryz.func7, Tryz.ntmps7
  go_wp2_with (first | (go_at_call 17; rw [HW.out]; (with_reducible refine HV.mono ?_); rintro e w1 ⟨rfl, hb1⟩; have hB1 := hB.later hb1; obtain ⟨a0, a1, a2, a3⟩ := cells4 hB1.pb; obtain ⟨⟨b0, b1, b2, b3, b4, b5⟩, b6, b7, b8, b9, b10, b11⟩ := cells12 hB1.cb) | (go_at_call 18; refine (rver_any P v cl p n c K d s w1 ⟨HP.out.1.below hB1.bel, HP.out.2.below hB1.bel⟩ HZ.out (HC.out.below hB1.bel) HA.out).mono ?_; rintro e w2 ⟨r, rfl, hE, hb2⟩; obtain ⟨wp, wc, op, oc, hr, hO1, hO2⟩ := hE; subst hr; have hB2 := hB1.later hb2; obtain ⟨⟨r0, r1, r2, r3, r4, r5⟩, f0, f1, f2, f3, f4, f5⟩ := cells6' hB2.rb))
  generalize hWF : (World.setCell (World.setCell (World.setCell (World.setCell (World.setCell (World.setCell _ _ _) _ _) _ _) _ _) _ _) _ _) = wF
  obtain ⟨p1, p2, p3⟩ := put6 hB2.rb _ _ _ _ _ _ wF hWF
  have hl1 := hB1.lt
  have hs1 := hB1.bel.size
  have hbF := p3 _ _ hB2.bel (by omega)
  obtain ⟨⟨d0, d1, d2, d3, d4, d5⟩, _⟩ := cells6' p1
  refine bodyPost_ret (v := .agg #[.int .i64 (effP P cl n K d s).code, .slice wp (effP P cl n K d s).nw wc, .int .u64 (effP P cl n K d s).dice, .int .u64 (effP P cl n K d s).sent, .slice op (effP P cl n K d s).on oc, .int .i64 (effP P cl n K d s).used]) (by simp [results, Tryz.results7, go_sem, d0, d1, d2, d3, d4, d5]; try rfl) rfl ?_
  refine ⟨_, rfl, ⟨wp, wc, op, oc, rfl, (hO1.far fun k hk => p2 k ?_).lower (by omega), (hO2.far fun k hk => p2 k ?_).lower (by omega)⟩, hbF⟩
  · have := (hO1.lt _ hk).1
    omega
  · have := (hO2.lt _ hk).1
    omega
/-- the document's Run -/
theorem rrun_any (P : Pg) (v : PgV) (cl : Cl) (p : Option Addr) (n c : Nat) (K : Nat → Int) (d s : Int) (w : World) (h : PAt w P v) (hc : CallAt w cl p n c K d s) (hA64 : ∀ i, i < P.n → In64 (P.a i)) :
    Calls Tryz.prog 7 #[.agg #[.int .i64 P.words, .int .i64 P.locals, .slice v.cp P.n v.cc, .slice v.ep P.m v.ec], .agg #[.int .u64 cl.time, .int .i64 cl.src, .int .u64 cl.seq, .int .i64 cl.dst, .int .i64 cl.kind, .int .i64 cl.data, .slice p n c, .int .u64 d, .int .u64 s, .int .u64 cl.look, .int .i64 cl.parts, .int .i64 cl.fuel]] w fun e w' => ∃ r, e = .returned r ∧ EfAt w' w.heap.size r (effP P cl n K d s) ∧ Below w.heap.size w w' := by
  by_cases hz : dcode P P.m = 0
  · exact rrun_good P v cl p n c K d s w h hz hc hA64
  · have e : effP P cl n K d s = efErr (dcode P P.m) := by
      unfold effP
      rw [if_pos hz]
    rw [e]
    exact rrun_bad P v cl p n c d s w h hz
end Go.Proofs.YtciaacckdodhcaaGreat
namespace Go.Proofs.YtciaacckdodhcaaGreat
open Go.ChangeShapes Go.WideShapes Go.ChangeAt Go.RowKit
set_option linter.unusedVariables false
set_option linter.unusedSimpArgs false

structure Bx2 (w w3 : World) (P : Pg) (v : PgV) (cl : Cl) (p : Option Addr) (n c : Nat) (d s : Int) : Prop where
  bel : Below w.heap.size w w3
  pb : w3.heap[w.heap.size]? = some (.cells #[.int .i64 P.words, .int .i64 P.locals, .slice v.cp P.n v.cc, .slice v.ep P.m v.ec] 25 (0, 0))
  cb : w3.heap[w.heap.size + 1]? = some (.cells #[.int .u64 cl.time, .int .i64 cl.src, .int .u64 cl.seq, .int .i64 cl.dst, .int .i64 cl.kind, .int .i64 cl.data, .slice p n c, .int .u64 d, .int .u64 s, .int .u64 cl.look, .int .i64 cl.parts, .int .i64 cl.fuel] 35 (0, 0))
theorem Bx2.lt {w w3 : World} {P : Pg} {v : PgV} {cl : Cl} {p : Option Addr} {n c : Nat} {d s : Int} (h : Bx2 w w3 P v cl p n c d s) : w.heap.size + 1 < w3.heap.size := (Array.getElem?_eq_some_iff.1 h.cb).1
theorem Bx2.later {w w3 w4 : World} {P : Pg} {v : PgV} {cl : Cl} {p : Option Addr} {n c : Nat} {d s : Int} (h : Bx2 w w3 P v cl p n c d s) (hb : Below w3.heap.size w3 w4) : Bx2 w w4 P v cl p n c d s := by
  have hl := h.lt
  exact ⟨h.bel.trans (hb.mono (by have := h.bel.size; omega)), (hb.block _ (by omega)).trans h.pb, (hb.block _ (by omega)).trans h.cb⟩
theorem bx2_new (w : World) (P : Pg) (v : PgV) (cl : Cl) (p : Option Addr) (n c : Nat) (d s : Int) (w3 : World) (h : (w.alloc (.cells #[.int .i64 P.words, .int .i64 P.locals, .slice v.cp P.n v.cc, .slice v.ep P.m v.ec] 25)).alloc (.cells #[.int .u64 cl.time, .int .i64 cl.src, .int .u64 cl.seq, .int .i64 cl.dst, .int .i64 cl.kind, .int .i64 cl.data, .slice p n c, .int .u64 d, .int .u64 s, .int .u64 cl.look, .int .i64 cl.parts, .int .i64 cl.fuel] 35) = w3) : Bx2 w w3 P v cl p n c d s := by
  subst h
  refine ⟨((Below.refl _ w).alloc (Nat.le_refl _) _).alloc (by simp) _, ?_, ?_⟩
  · rw [Below.heap_alloc _ _ _ (by simp)]
    exact World.alloc_heap_new w _
  · have := World.alloc_heap_new (w.alloc (.cells #[.int .i64 P.words, .int .i64 P.locals, .slice v.cp P.n v.cc, .slice v.ep P.m v.ec] 25)) (.cells #[.int .u64 cl.time, .int .i64 cl.src, .int .u64 cl.seq, .int .i64 cl.dst, .int .i64 cl.kind, .int .i64 cl.data, .slice p n c, .int .u64 d, .int .u64 s, .int .u64 cl.look, .int .i64 cl.parts, .int .i64 cl.fuel] 35)
    rwa [World.size_alloc] at this
theorem vmRun' (P : Pg) (v : PgV) (cl : Cl) (p : Option Addr) (n c : Nat) (K : Nat → Int) (d s : Int) (w : World) (h : PAt w P v) (hc : CallAt w cl p n c K d s) (hA64 : ∀ i, i < P.n → In64 (P.a i)) :
    Calls Tryz.prog 6 #[.agg #[.int .i64 P.words, .int .i64 P.locals, .slice v.cp P.n v.cc, .slice v.ep P.m v.ec], .agg #[.int .u64 cl.time, .int .i64 cl.src, .int .u64 cl.seq, .int .i64 cl.dst, .int .i64 cl.kind, .int .i64 cl.data, .slice p n c, .int .u64 d, .int .u64 s, .int .u64 cl.look, .int .i64 cl.parts, .int .i64 cl.fuel]] w fun e w' => ∃ (wp : Option Addr) (wc : Nat) (op : Option Addr) (oc : Nat), e = .returned (.agg #[.int .i64 (effP P cl n K d s).code, .slice wp (effP P cl n K d s).nw wc, .int .u64 (effP P cl n K d s).dice, .int .u64 (effP P cl n K d s).sent, .slice op (effP P cl n K d s).on oc, .int .i64 (effP P cl n K d s).used]) ∧ (KAt w' wp (effP P cl n K d s).nw (effP P cl n K d s).wd ∧ XAt w' op (effP P cl n K d s).on (effP P cl n K d s).oF) ∧ Below w.heap.size w w' := by
  refine (vmRun P v cl p n c K d s w h hc hA64).mono ?_
  rintro e w' ⟨r, rfl, hE, hb⟩
  obtain ⟨wp, wc, op, oc, rfl, h1, h2⟩ := hE
  exact ⟨wp, wc, op, oc, rfl, ⟨h1.kat, h2.xat⟩, hb⟩
theorem one_new {w w' : World} {cs : Array Value} {t : TypeId} (h : w.alloc (.cells cs t) = w') : Below w.heap.size w w' ∧ w'.heap[w.heap.size]? = some (.cells cs t (0, 0)) ∧ w'.heap.size = w.heap.size + 1 := by
  subst h
  exact ⟨(Below.refl _ w).alloc (Nat.le_refl _) _, World.alloc_heap_new w _, World.size_alloc w _⟩
structure EInv (P : Pg) (cl : Cl) (s0 : Int) (E : Ef) : Prop where
  on : E.on ≤ 16
  sent : E.sent = u64of (s0 + E.on)
  ev : ∀ i, i < E.on → ∃ D T k X : Int, E.oF (i * 6) = .int .u64 (addN cl.time (u64of D)) ∧ E.oF (i * 6 + 1) = .int .i64 cl.dst ∧ E.oF (i * 6 + 2) = .int .u64 (u64of (s0 + i)) ∧ E.oF (i * 6 + 3) = .int .i64 T ∧ E.oF (i * 6 + 4) = .int .i64 k ∧ E.oF (i * 6 + 5) = .int .i64 X ∧ (0 ≤ T ∧ T < cl.parts) ∧ (0 ≤ k ∧ k < P.m) ∧ ¬ u64of D < cl.look ∧ addE cl.time (u64of D) = 0
theorem u64of_id {x : Int} (h : u64ok x) : u64of x = x := by
  unfold u64of u64ok at *
  simp only [IntKind.wrap, IntKind.bits, IntKind.signed]
  simp
  omega
theorem u64_seq (s k : Int) : u64of (s + k) = IntKind.u64.wrap (s + IntKind.u64.wrap k) := by
  unfold u64of
  simp only [IntKind.wrap, IntKind.bits, IntKind.signed]
  simp
theorem run_keeps {P : Pg} {cl : Cl} {n : Nat} {K : Nat → Int} {d s : Int} {w : World} {p : Option Addr} {c : Nat} (hz : dcode P P.m = 0) (hf : fitsB P cl n = true) (hc : CallAt w cl p n c K d s) (hA64 : ∀ i, i < P.n → In64 (P.a i)) (hen : P.en cl.kind.toNat ≠ -1) (J : Mc → Prop) (h0 : J (newM K d s (.slice none 0 0))) (hus : ∀ M, J M → J (usM M)) (hpop : ∀ M, J M → J (popM M))
    (hdo : ∀ M i, i < P.n → OkM M → J (usM M) → insErr P (P.op i) (P.a i) (P.b i) = 0 → doF cl (usM M) (P.op i) (P.a i) (P.b i) = 0 → J (doM cl (usM M) (P.op i) (P.a i) (P.b i))) : J (runOf P cl K d s).2 := by
  obtain ⟨_, hsP, hins, g, hnr, hbd⟩ := dcode_zero hz
  obtain ⟨⟨k1, k2⟩, ⟨k3, k4⟩, ⟨k5, k6⟩, k7, k8, k9⟩ := fitsB_yes hf
  have hkk : cl.kind.toNat < P.m := by omega
  have en0 := g.en cl.kind.toNat hkk
  have hdl := (sol_dL g hnr hbd).en _ hkk (by omega)
  exact (runP_ind g hsP hnr hbd hins hc.ok hA64 J hus hpop hdo cl.fuel.toNat (P.en cl.kind.toNat).toNat (newM K d s (.slice none 0 0)) (by omega) (by rw [hdl]; rfl) (newM_ok hc _) h0).1
theorem eff_sent {P : Pg} {cl : Cl} {n : Nat} {K : Nat → Int} {d s : Int} {w : World} {p : Option Addr} {c : Nat} (hz : dcode P P.m = 0) (hf : fitsB P cl n = true) (hc : CallAt w cl p n c K d s) (hA64 : ∀ i, i < P.n → In64 (P.a i)) : EInv P cl s (effP P cl n K d s) := by
  have hs0 : s = u64of (s + ((0 : Nat) : Int)) := by rw [show s + ((0 : Nat) : Int) = s by omega, u64of_id hc.sent]
  unfold effP
  rw [if_neg (by rw [hz]; simp), if_neg (by rw [hf]; simp)]
  by_cases hen : P.en cl.kind.toNat = -1
  · rw [if_pos hen]
    exact ⟨Nat.zero_le _, hs0, fun i hi => absurd hi (Nat.not_lt_zero _)⟩
  · rw [if_neg hen]
    by_cases h0 : (runOf P cl K d s).1 = 0
    · rw [if_neg (by simpa using h0)]
      have hS := run_keeps hz hf hc hA64 hen (SInv P cl s) ⟨Nat.zero_le _, hs0, fun i hi => absurd hi (Nat.not_lt_zero _)⟩ (fun M h => ⟨h.on, h.sent, h.ev⟩) (fun M h => ⟨h.on, h.sent, h.ev⟩) (fun M i hi hok hJ h1 h2 => sinv_do (usM M) _ _ _ hJ h1 h2)
      exact ⟨hS.on, hS.sent, hS.ev⟩
    · rw [if_pos h0]
      exact ⟨Nat.zero_le _, hs0, fun i hi => absurd hi (Nat.not_lt_zero _)⟩
theorem EInv.sh {P : Pg} {cl : Cl} {s0 : Int} {E : Ef} (h : EInv P cl s0 E) : EvSh E.on E.oF := fun i hi => by
  obtain ⟨D, T, k, X, e0, e1, e2, e3, e4, e5, _⟩ := h.ev i hi
  exact ⟨_, _, _, _, _, _, e0, e1, e2, e3, e4, e5⟩
theorem cell_of {W : World} {g : Nat} {cs : Array Value} {t : TypeId} (h : W.heap[g]? = some (.cells cs t (0, 0))) (j : Nat) : W.cell? ⟨g, j, none⟩ = cs[j]? := by
  unfold World.cell?
  rw [h]
  rfl
theorem new_cells (W : World) (cs : List Value) (t : TypeId) : ∀ j u, cs[j]? = some u → (W.alloc (.cells cs.toArray t)).cell? ((⟨W.heap.size, 0, none⟩ : Addr).add j) = some u := by
  intro j u h
  rw [addr_add, Nat.zero_add, cell_of (World.alloc_heap_new W _)]
  simpa using h
theorem new_cells2 (W : World) (o : Obj) (cs : List Value) (t : TypeId) : ∀ j u, cs[j]? = some u → ((W.alloc o).alloc (.cells cs.toArray t)).cell? ((⟨W.heap.size + 1, 0, none⟩ : Addr).add j) = some u := by
  intro j u h
  have := new_cells (W.alloc o) cs t j u h
  rwa [World.size_alloc] at this
theorem eff_sh {P : Pg} {cl : Cl} {n : Nat} {K : Nat → Int} {d s : Int} {w : World} {p : Option Addr} {c : Nat} (hc : CallAt w cl p n c K d s) (hA64 : ∀ i, i < P.n → In64 (P.a i)) : EvSh (effP P cl n K d s).on (effP P cl n K d s).oF ∧ (effP P cl n K d s).on ≤ 1000000 ∧ (effP P cl n K d s).nw ≤ 17592186044416 := by
  have hnw : (effP P cl n K d s).nw ≤ 17592186044416 := by
    have := hc.room
    unfold effP
    repeat' split
    all_goals first | exact this | exact Nat.zero_le _
  by_cases hz : dcode P P.m = 0
  · by_cases hf : fitsB P cl n = true
    · have h := eff_sent hz hf hc hA64
      exact ⟨h.sh, by have := h.on; omega, hnw⟩
    · have e : effP P cl n K d s = efErr 63 := by
        unfold effP
        rw [if_neg (by rw [hz]; simp), if_pos (by simpa using hf)]
      rw [e] at hnw ⊢
      exact ⟨EvSh.zero _, Nat.zero_le _, hnw⟩
  · have e : effP P cl n K d s = efErr (dcode P P.m) := by
      unfold effP
      rw [if_pos hz]
    rw [e] at hnw ⊢
    exact ⟨EvSh.zero _, Nat.zero_le _, hnw⟩
/-- the document's Run, its cells -/
theorem rrun' (P : Pg) (v : PgV) (cl : Cl) (p : Option Addr) (n c : Nat) (K : Nat → Int) (d s : Int) (w : World) (h : PAt w P v) (hc : CallAt w cl p n c K d s) (hA64 : ∀ i, i < P.n → In64 (P.a i)) :
    Calls Tryz.prog 7 #[.agg #[.int .i64 P.words, .int .i64 P.locals, .slice v.cp P.n v.cc, .slice v.ep P.m v.ec], .agg #[.int .u64 cl.time, .int .i64 cl.src, .int .u64 cl.seq, .int .i64 cl.dst, .int .i64 cl.kind, .int .i64 cl.data, .slice p n c, .int .u64 d, .int .u64 s, .int .u64 cl.look, .int .i64 cl.parts, .int .i64 cl.fuel]] w fun e w' => ∃ (wp : Option Addr) (wc : Nat) (op : Option Addr) (oc : Nat), e = .returned (.agg #[.int .i64 (effP P cl n K d s).code, .slice wp (effP P cl n K d s).nw wc, .int .u64 (effP P cl n K d s).dice, .int .u64 (effP P cl n K d s).sent, .slice op (effP P cl n K d s).on oc, .int .i64 (effP P cl n K d s).used]) ∧ (KAt w' wp (effP P cl n K d s).nw (effP P cl n K d s).wd ∧ XAt w' op (effP P cl n K d s).on (effP P cl n K d s).oF) ∧ Below w.heap.size w w' := by
  refine (rrun_any P v cl p n c K d s w h hc hA64).mono ?_
  rintro e w' ⟨r, rfl, hE, hb⟩
  obtain ⟨wp, wc, op, oc, rfl, h1, h2⟩ := hE
  exact ⟨wp, wc, op, oc, rfl, ⟨h1.kat, h2.xat⟩, hb⟩
end Go.Proofs.YtciaacckdodhcaaGreat
namespace Go.Proofs.YtciaacckdodhcaaGreat
open Go.ChangeShapes Go.WideShapes Go.ChangeAt Go.RowKit
set_option linter.unusedVariables false
set_option linter.unusedSimpArgs false

theorem ownInts {W : World} {base g n : Nat} {K : Nat → Int} (h : W.heap[g]? = some (.cells (intsL K n).toArray 2 (0, 0))) (hn : n ≤ maxLen) (hb : base ≤ g) : Own W base 2 1 (.slice (some ⟨g, 0, none⟩) n n) n (iv K) := by
  refine Own.mk' h (by simp [intsL]) (Nat.le_refl _) hn hb fun j hj => ?_
  rw [Nat.mul_one] at hj
  simp [intsL, hj, iv]
theorem own_some {W : World} {base : Nat} {t : TypeId} {s m : Nat} {v : Value} {F : Nat → Value} (h : Own W base t s v m F) (hm : m ≠ 0) : ∃ g c, v = .slice (some ⟨g, 0, none⟩) m c ∧ base ≤ g ∧ g < W.heap.size ∧ m ≤ c ∧ c ≤ maxLen := by
  rcases h.2 with ⟨_, h1⟩ | ⟨g, cap, cur, hv, hb, hg, hnc, hcm, _⟩
  · exact absurd h1 hm
  · exact ⟨g, cap, hv, hb, (Array.getElem?_eq_some_iff.1 hg).1, hnc, hcm⟩
set_option maxRecDepth 100000 in
set_option maxHeartbeats 8000000 in
theorem runs_law (P : Pg) (v : PgV) (cl : Cl) (p : Option Addr) (n c : Nat) (K : Nat → Int) (d s : Int) (w : World) (h : PAt w P v) (hc : CallAt w cl p n c K d s) (hA64 : ∀ i, i < P.n → In64 (P.a i)) (hlook : u64ok cl.look) (hn : n ≤ 17592186043904) (hroom : roomyP P) :
    Calls Tryz.prog 3 #[.agg #[.int .i64 P.words, .int .i64 P.locals, .slice v.cp P.n v.cc, .slice v.ep P.m v.ec], .agg #[.int .u64 cl.time, .int .i64 cl.src, .int .u64 cl.seq, .int .i64 cl.dst, .int .i64 cl.kind, .int .i64 cl.data, .slice p n c, .int .u64 d, .int .u64 s, .int .u64 cl.look, .int .i64 cl.parts, .int .i64 cl.fuel]] w fun e w' => e = .returned (.bool true) ∧ Below w.heap.size w w' := by
  have hsh := eff_sh hc hA64
  obtain ⟨E, hE⟩ : ∃ E, effP P cl n K d s = E := ⟨_, rfl⟩
  rw [hE] at hsh
  have HE : Hid (effP P cl n K d s = E) := hE
  obtain ⟨wb, hwb⟩ : ∃ wb, (w.alloc (.cells #[.int .i64 P.words, .int .i64 P.locals, .slice v.cp P.n v.cc, .slice v.ep P.m v.ec] 25)).alloc (.cells #[.int .u64 cl.time, .int .i64 cl.src, .int .u64 cl.seq, .int .i64 cl.dst, .int .i64 cl.kind, .int .i64 cl.data, .slice p n c, .int .u64 d, .int .u64 s, .int .u64 cl.look, .int .i64 cl.parts, .int .i64 cl.fuel] 35) = wb := ⟨_, rfl⟩
  have hB := bx2_new w P v cl p n c d s wb hwb
  have HW : Hid ((w.alloc (.cells #[.int .i64 P.words, .int .i64 P.locals, .slice v.cp P.n v.cc, .slice v.ep P.m v.ec] 25)).alloc (.cells #[.int .u64 cl.time, .int .i64 cl.src, .int .u64 cl.seq, .int .i64 cl.dst, .int .i64 cl.kind, .int .i64 cl.data, .slice p n c, .int .u64 d, .int .u64 s, .int .u64 cl.look, .int .i64 cl.parts, .int .i64 cl.fuel] 35) = wb) := hwb
  have HP : Hid (PAt w P v) := h
  have HC : Hid (CallAt w cl p n c K d s) := hc
  have HA : Hid (∀ i, i < P.n → In64 (P.a i)) := hA64
  have HRM : Hid (roomyP P) := hroom
  have HSH : Hid (EvSh E.on E.oF ∧ E.on ≤ 1000000 ∧ E.nw ≤ 17592186044416) := hsh
  have HCP := copyProgram_any P v wb (h.below hB.bel) hroom
  obtain ⟨i3, hi3, ha3, hb3, hc3⟩ := info_parts infoI64
  have hn0 : (0 : Int) ≤ (n : Int) := by omega
  have hn1 : (n : Int) ≤ (n : Int) + 1 := by omega
  have hn2 : (n : Int) < (n : Int) + 1 := by omega
  clear hwb h hc hA64 hE hroom hsh
  go_enter Tryz.func3, Tryz.ntmps3
  go_wp2_with (first
    | (go_at_call 4; rw [HW.out]; (with_reducible refine HCP.mono ?_); rintro e w1 ⟨v1, rfl, hP1, hb1⟩; have HP1 : Hid (PAt w1 P v1) := hP1; clear hP1; have hB1 := hB.later hb1; obtain ⟨a0, a1, a2, a3⟩ := cells4 hB1.pb; obtain ⟨⟨b0, b1, b2, b3, b4, b5⟩, b6, b7, b8, b9, b10, b11⟩ := cells12 hB1.cb; have lt1 : w.heap.size + 1 < w1.heap.size := hB1.lt; have lt0 : w.heap.size < w1.heap.size := (by omega); obtain ⟨w2, hw2⟩ : ∃ w2, w1.alloc (.cells #[.int .i64 P.words, .int .i64 P.locals, .slice v1.cp P.n v1.cc, .slice v1.ep P.m v1.ec] 25) = w2 := ⟨_, rfl⟩; have HW2 : Hid (w1.alloc (.cells #[.int .i64 P.words, .int .i64 P.locals, .slice v1.cp P.n v1.cc, .slice v1.ep P.m v1.ec] 25) = w2) := hw2; obtain ⟨hb2, hg2, hsz2⟩ := one_new hw2; have HZ2 : Hid (w2.heap.size = w1.heap.size + 1) := hsz2; clear hw2 hsz2; have hB2 := hB1.later hb2)
    | (go_at_call 5; rw [HW2.out]; refine (copyWords_any p n c K w2 HC.out.room (HC.out.words.below hB2.bel)).mono ?_; rintro e w3 ⟨rfl, hrow3, hb3', hlt3⟩; have hB3 := hB2.later hb3'; have hg3 := (hb3'.block _ (by have := HZ2.out; omega)).trans hg2; have hO3 : Own w3 w2.heap.size 2 1 (.slice (some ⟨w2.heap.size, 0, none⟩) n n) n (iv K) := ownInts hrow3 (by unfold maxLen; omega) (Nat.le_refl _); obtain ⟨wA, hwA⟩ : ∃ wA, w3.alloc (.cells #[.int .i64 4711] 2) = wA := ⟨_, rfl⟩; have HWA : Hid (w3.alloc (.cells #[.int .i64 4711] 2) = wA) := hwA; obtain ⟨hbA, hgA, hszA⟩ := one_new hwA; have HZA : Hid (wA.heap.size = w3.heap.size + 1) := hszA; clear hszA; have hnew : ∀ j u, [Value.int .i64 4711][j]? = some u → wA.cell? ((⟨w3.heap.size, 0, none⟩ : Addr).add j) = some u := (by rw [← hwA]; exact new_cells w3 [.int .i64 4711] _); clear hwA)
    | (at_builtin; rw [HWA.out]; refine wpList_append_own_at _ rfl _ _ 31 rfl w2.heap.size 2 i3 _ 1 8 Tryz.underlying31 hi3 ha3 hb3 hc3 rfl (by decide) (.slice (some ⟨w2.heap.size, 0, none⟩) n n) n _ rfl (hO3.later hbA) ⟨w3.heap.size, 0, none⟩ 1 1 [.int .i64 4711] rfl rfl hnew (by simp [Value.oneCell']) ?p1 ?p2 ?p3 ?_; (case p1 => (unfold maxLen; omega)); (case p2 => omega); (case p3 => (have := HZA.out; omega)); intro v0 w4 hown hgrow hnil hat; have hO4 := own_push hown; clear hnil hat hown; obtain ⟨g, c4, hv0, hg1, hg4, hc4, hcm4⟩ := own_some hO4 (Nat.succ_ne_zero n); subst hv0; have hbA4 : Below w2.heap.size wA w4 := (Below.refl _ _).grown hgrow (by have := HZA.out; omega) (fun k hk => by have hk' : w2.heap.size = k := Option.some.inj hk; omega); have hb24 : Below w2.heap.size w2 w4 := (hb3'.trans (hbA.mono (Nat.le_of_lt hlt3))).trans hbA4; have hB4 := hB2.later hb24; have hgv4 := (hb24.block _ (by have := HZ2.out; omega)).trans hg2; obtain ⟨g0, g1', g2', g3'⟩ := cells4 hgv4; obtain ⟨⟨d0, d1, d2, d3, d4, d5⟩, d6, d7, d8, d9, d10, d11⟩ := cells12 hB4.cb; obtain ⟨e0', e1', e2', e3'⟩ := cells4 hB4.pb; have lt4 : w.heap.size + 1 < w4.heap.size := hB4.lt; have lt40 : w.heap.size < w4.heap.size := (by omega); have lt41 : w1.heap.size < w4.heap.size := lt_of_block hgv4; have hnc : (n : Int) ≤ (c4 : Int) := (by omega); have HO4 : Hid (Own w4 w2.heap.size 2 1 (.slice (some ⟨g, 0, none⟩) (n + 1) c4) (n + 1) (iv (updI K n 4711))) := hO4; clear hO4 hgrow)
    | (go_at_call 6; obtain ⟨w5, hw5⟩ : ∃ w5, w4.alloc (.cells #[.int .u64 cl.time, .int .i64 cl.src, .int .u64 cl.seq, .int .i64 cl.dst, .int .i64 cl.kind, .int .i64 cl.data, .slice (some ⟨g, 0, none⟩) n c4, .int .u64 d, .int .u64 s, .int .u64 cl.look, .int .i64 cl.parts, .int .i64 cl.fuel] 35) = w5 := ⟨_, rfl⟩; rw [hw5]; obtain ⟨hb5, hg5, hsz5⟩ := one_new hw5; clear hw5; have hB5 := hB4.later hb5; have hgv5 := (hb5.block _ lt41).trans hgv4; have hb15 : Below w1.heap.size w1 w5 := (hb2.trans (hb24.mono (by have := HZ2.out; omega))).trans (hb5.mono (by omega)); have HO5 := HO4.out.later hb5; have hkat : KAt w5 (some ⟨g, 0, none⟩) n K := .inr ⟨g, 0, rfl, (by omega), fun j hj => (by rw [Nat.zero_add, HO5.cell (show j < (n + 1) * 1 by omega)]; show some (Value.int .i64 (updI K n 4711 j)) = _; rw [updI_ne _ _ (by omega)])⟩; have hca5 : CallAt w5 cl (some ⟨g, 0, none⟩) n c4 K d s := ⟨hkat, fun e => (by cases e), HC.out.room, HC.out.ok, HC.out.wd, HC.out.dice, HC.out.sent⟩; have HR5 := vmRun' P v1 cl (some ⟨g, 0, none⟩) n c4 K d s w5 (HP1.out.below hb15) hca5 HA.out; rw [HE.out] at HR5; (with_reducible refine HR5.mono ?_); rintro e w6 ⟨wp1, wc1, op1, oc1, rfl, hEL1, hb6⟩; clear HR5; have hB6 := hB5.later hb6; have hgv6 := (hb6.block _ (by omega)).trans hgv5; have hcc6 := (hb6.block _ (by omega)).trans hg5; have HO6 : Hid (Own w6 w2.heap.size 2 1 (.slice (some ⟨g, 0, none⟩) (n + 1) c4) (n + 1) (iv (updI K n 4711))) := HO5.later hb6; have HK6 : Hid (KAt w6 (some ⟨g, 0, none⟩) n K) := hkat.below hb6; have HP6 : Hid (PAt w6 P v1) := HP1.out.below (hb15.trans (hb6.mono hb15.size)); obtain ⟨⟨m0, m1, m2, m3, m4, m5⟩, m6, m7, m8, m9, m10, m11⟩ := cells12 hB6.cb; obtain ⟨n0, n1', n2', n3'⟩ := cells4 hB6.pb; have HEL1 : Hid (KAt w6 wp1 E.nw E.wd ∧ XAt w6 op1 E.on E.oF) := hEL1; have lt6 : w4.heap.size < w6.heap.size := lt_of_block hcc6; have lt60 : w.heap.size < w6.heap.size := (by omega); have lt61 : w.heap.size + 1 < w6.heap.size := (by omega); obtain ⟨w7, hw7⟩ : ∃ w7, w6.alloc (.cells #[.int .i64 E.code, .slice wp1 E.nw wc1, .int .u64 E.dice, .int .u64 E.sent, .slice op1 E.on oc1, .int .i64 E.used] 41) = w7 := ⟨_, rfl⟩; have HW7 : Hid (w6.alloc (.cells #[.int .i64 E.code, .slice wp1 E.nw wc1, .int .u64 E.dice, .int .u64 E.sent, .slice op1 E.on oc1, .int .i64 E.used] 41) = w7) := hw7; obtain ⟨hb7, hg7, hsz7⟩ := one_new hw7; have HZ7 : Hid (w7.heap.size = w6.heap.size + 1) := hsz7; clear hw7 hsz7 hsz5 hEL1 HO5 hkat hca5; have hB7 := hB6.later hb7)
    | (go_at_call 7; rw [HW7.out]; have HR7 := rrun' P v cl p n c K d s w7 (HP.out.below hB7.bel) (HC.out.below hB7.bel) HA.out; rw [HE.out] at HR7; (with_reducible refine HR7.mono ?_); rintro e w8 ⟨wp2, wc2, op2, oc2, rfl, hEL2, hb8⟩; clear HR7; have hb68 : Below w6.heap.size w6 w8 := hb7.trans (hb8.mono (by have := HZ7.out; omega)); have hB8 := hB6.later hb68; have hcc8 := (hb68.block _ lt6).trans hcc6; have hef8 := (hb8.block _ (by have := HZ7.out; omega)).trans hg7; obtain ⟨⟨q0, q1, q2, q3, q4, q5⟩, q6, q7, q8, q9, q10, q11⟩ := cells12 hB8.cb; obtain ⟨⟨t0, t1, t2, t3, t4, t5⟩, t6, t7, t8, t9, t10, t11⟩ := cells12 hcc8; have lt8 : w6.heap.size < w8.heap.size := lt_of_block hef8; have lt80 : w.heap.size < w8.heap.size := (by omega); have lt81 : w.heap.size + 1 < w8.heap.size := (by omega); have lt84 : w4.heap.size < w8.heap.size := (by omega); have HEL2 : Hid (KAt w8 wp2 E.nw E.wd ∧ XAt w8 op2 E.on E.oF) := hEL2; obtain ⟨w9, hw9⟩ : ∃ w9, w8.alloc (.cells #[.int .i64 E.code, .slice wp2 E.nw wc2, .int .u64 E.dice, .int .u64 E.sent, .slice op2 E.on oc2, .int .i64 E.used] 41) = w9 := ⟨_, rfl⟩; have HW9 : Hid (w8.alloc (.cells #[.int .i64 E.code, .slice wp2 E.nw wc2, .int .u64 E.dice, .int .u64 E.sent, .slice op2 E.on oc2, .int .i64 E.used] 41) = w9) := hw9; obtain ⟨hb9, hg9, hsz9⟩ := one_new hw9; have HZ9 : Hid (w9.heap.size = w8.heap.size + 1) := hsz9; clear hw9 hsz9 hEL2; have hb69 : Below w6.heap.size w6 w9 := hb68.trans (hb9.mono (by omega)); have hB9 := hB6.later hb69)
    | (go_at_call 8; rw [HW9.out]; refine (sameState_yes (some ⟨g, 0, none⟩) p n c4 c K d s HC.out.room w9 (HK6.out.below hb69) (HC.out.words.below hB9.bel)).mono ?_; rintro e w10 ⟨rfl, hb10⟩; have hb6x : Below w6.heap.size w6 w10 := hb69.trans (hb10.mono (by have := HZ9.out; omega)); have hO10 := HO6.out.later hb6x; have xn : w10.cell? ⟨g, n, none⟩ = some (.int .i64 4711) := (hO10.cell (show n < (n + 1) * 1 by omega)).trans (by show some (Value.int .i64 (updI K n 4711 n)) = _; rw [updI_at]); have hB10 := hB6.later hb6x; have hef10 := (hb10.block _ (by have := HZ9.out; omega)).trans ((hb9.block _ lt8).trans hef8); have heg10 := (hb10.block _ (by have := HZ9.out; omega)).trans hg9; obtain ⟨⟨r0, r1, r2, r3, r4, r5⟩, _⟩ := cells6' hef10; obtain ⟨⟨s0, s1, s2, s3, s4, s5⟩, _⟩ := cells6' heg10; have HE10 : Hid ((KAt w10 wp1 E.nw E.wd ∧ XAt w10 op1 E.on E.oF) ∧ KAt w10 wp2 E.nw E.wd ∧ XAt w10 op2 E.on E.oF) := ⟨⟨HEL1.out.1.below hb6x, HEL1.out.2.below hb6x⟩, HEL2.out.1.below (hb9.trans (hb10.mono (by have := HZ9.out; omega))), HEL2.out.2.below (hb9.trans (hb10.mono (by have := HZ9.out; omega)))⟩)
    | (go_at_call 9; refine (sameEffect_yes E (.agg #[.int .i64 E.code, .slice wp1 E.nw wc1, .int .u64 E.dice, .int .u64 E.sent, .slice op1 E.on oc1, .int .i64 E.used]) (.agg #[.int .i64 E.code, .slice wp2 E.nw wc2, .int .u64 E.dice, .int .u64 E.sent, .slice op2 E.on oc2, .int .i64 E.used]) w10 ⟨wp1, wc1, op1, oc1, rfl, HE10.out.1.1, HE10.out.1.2⟩ ⟨wp2, wc2, op2, oc2, rfl, HE10.out.2.1, HE10.out.2.2⟩ HSH.out.1 HSH.out.2.2 HSH.out.2.1).mono ?_; rintro e w11 ⟨rfl, hb11⟩; have hb6y : Below w6.heap.size w6 w11 := hb6x.trans (hb11.mono hb6x.size); have hB11 := hB6.later hb6y; obtain ⟨k0, k1, k2, k3⟩ := cells4 hB11.pb; obtain ⟨l0, l1, l2, l3⟩ := cells4 ((hb6y.block _ (by omega)).trans hgv6))
    | (go_at_call 10; refine (sameProgram_yes P v1 v w11 (HP6.out.below hb6y) (HP.out.below hB11.bel) HRM.out).mono ?_; rintro e w12 ⟨rfl, hb12⟩))
  go_ret
  exact ⟨rfl, hB11.bel.trans (hb12.mono hB11.bel.size)⟩
end Go.Proofs.YtciaacckdodhcaaGreat
