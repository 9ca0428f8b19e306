import Derived.Test.YtieanhmkcbcdkaaM26
namespace Go.Proofs.Ytieanhmkcbcdkaa
open Go.ChangeShapes Go.WideShapes Go.ChangeAt Go.RowKit
set_option linter.unusedVariables false
set_option linter.unusedSimpArgs false

/-- the two boxes of a law -/
structure Bx2 (w w3 : World) (P : Pg) (v : PgV) (cl : Cl) (p : Option Addr) (n c : Nat) (d s : Int) : Prop where
  bel : Below w.heap.size w w3
  pb : w3.heap[w.heap.size]? = some (.cells #[.int .i64 P.words, .int .i64 P.locals, .slice v.cp P.n v.cc, .slice v.ep P.m v.ec] 25 (0, 0))
  cb : w3.heap[w.heap.size + 1]? = some (.cells #[.int .u64 cl.time, .int .i64 cl.src, .int .u64 cl.seq, .int .i64 cl.dst, .int .i64 cl.kind, .int .i64 cl.data, .slice p n c, .int .u64 d, .int .u64 s, .int .u64 cl.look, .int .i64 cl.parts, .int .i64 cl.fuel] 35 (0, 0))
theorem Bx2.lt {w w3 : World} {P : Pg} {v : PgV} {cl : Cl} {p : Option Addr} {n c : Nat} {d s : Int} (h : Bx2 w w3 P v cl p n c d s) : w.heap.size + 1 < w3.heap.size := (Array.getElem?_eq_some_iff.1 h.cb).1
theorem Bx2.later {w w3 w4 : World} {P : Pg} {v : PgV} {cl : Cl} {p : Option Addr} {n c : Nat} {d s : Int} (h : Bx2 w w3 P v cl p n c d s) (hb : Below w3.heap.size w3 w4) : Bx2 w w4 P v cl p n c d s := by
  have hl := h.lt
  exact ⟨h.bel.trans (hb.mono (by have := h.bel.size; omega)), (hb.block _ (by omega)).trans h.pb, (hb.block _ (by omega)).trans h.cb⟩
theorem bx2_new (w : World) (P : Pg) (v : PgV) (cl : Cl) (p : Option Addr) (n c : Nat) (d s : Int) (w3 : World) (h : (w.alloc (.cells #[.int .i64 P.words, .int .i64 P.locals, .slice v.cp P.n v.cc, .slice v.ep P.m v.ec] 25)).alloc (.cells #[.int .u64 cl.time, .int .i64 cl.src, .int .u64 cl.seq, .int .i64 cl.dst, .int .i64 cl.kind, .int .i64 cl.data, .slice p n c, .int .u64 d, .int .u64 s, .int .u64 cl.look, .int .i64 cl.parts, .int .i64 cl.fuel] 35) = w3) : Bx2 w w3 P v cl p n c d s := by
  subst h
  refine ⟨((Below.refl _ w).alloc (Nat.le_refl _) _).alloc (by simp) _, ?_, ?_⟩
  · rw [Below.heap_alloc _ _ _ (by simp)]
    exact World.alloc_heap_new w _
  · have := World.alloc_heap_new (w.alloc (.cells #[.int .i64 P.words, .int .i64 P.locals, .slice v.cp P.n v.cc, .slice v.ep P.m v.ec] 25)) (.cells #[.int .u64 cl.time, .int .i64 cl.src, .int .u64 cl.seq, .int .i64 cl.dst, .int .i64 cl.kind, .int .i64 cl.data, .slice p n c, .int .u64 d, .int .u64 s, .int .u64 cl.look, .int .i64 cl.parts, .int .i64 cl.fuel] 35)
    rwa [World.size_alloc] at this
set_option maxRecDepth 100000 in
set_option maxHeartbeats 4000000 in
theorem taken_any (P : Pg) (v : PgV) (cl : Cl) (p : Option Addr) (n c : Nat) (d s : Int) (w : World) (h : PAt w P v) :
    Calls Try.prog 11 #[.agg #[.int .i64 P.words, .int .i64 P.locals, .slice v.cp P.n v.cc, .slice v.ep P.m v.ec], .agg #[.int .u64 cl.time, .int .i64 cl.src, .int .u64 cl.seq, .int .i64 cl.dst, .int .i64 cl.kind, .int .i64 cl.data, .slice p n c, .int .u64 d, .int .u64 s, .int .u64 cl.look, .int .i64 cl.parts, .int .i64 cl.fuel]] w fun e w' => e = .returned (.bool (fitsB P cl n && (dcode P P.m == 0))) ∧ Below w.heap.size w w' := by
  obtain ⟨w3, hw3⟩ : ∃ w3, (w.alloc (.cells #[.int .i64 P.words, .int .i64 P.locals, .slice v.cp P.n v.cc, .slice v.ep P.m v.ec] 25)).alloc (.cells #[.int .u64 cl.time, .int .i64 cl.src, .int .u64 cl.seq, .int .i64 cl.dst, .int .i64 cl.kind, .int .i64 cl.data, .slice p n c, .int .u64 d, .int .u64 s, .int .u64 cl.look, .int .i64 cl.parts, .int .i64 cl.fuel] 35) = w3 := ⟨_, rfl⟩
  have hB := bx2_new w P v cl p n c d s w3 hw3
  have HV := verify_any P v P.m w3 (h.1.below hB.bel) (h.2.below hB.bel)
  have HW : Hid ((w.alloc (.cells #[.int .i64 P.words, .int .i64 P.locals, .slice v.cp P.n v.cc, .slice v.ep P.m v.ec] 25)).alloc (.cells #[.int .u64 cl.time, .int .i64 cl.src, .int .u64 cl.seq, .int .i64 cl.dst, .int .i64 cl.kind, .int .i64 cl.data, .slice p n c, .int .u64 d, .int .u64 s, .int .u64 cl.look, .int .i64 cl.parts, .int .i64 cl.fuel] 35) = w3) := hw3
  generalize dcode P P.m = code at HV ⊢
  have hbe : Below w.heap.size w ((w.alloc (.cells #[.int .i64 P.words, .int .i64 P.locals, .slice v.cp P.n v.cc, .slice v.ep P.m v.ec] 25)).alloc (.cells #[.int .u64 cl.time, .int .i64 cl.src, .int .u64 cl.seq, .int .i64 cl.dst, .int .i64 cl.kind, .int .i64 cl.data, .slice p n c, .int .u64 d, .int .u64 s, .int .u64 cl.look, .int .i64 cl.parts, .int .i64 cl.fuel] 35)) := by rw [hw3]; exact hB.bel
  clear hw3 h
  go_enter Try.func11, Try.ntmps11
  go_wp2_with (go_at_call 12; rw [HW.out]; (with_reducible refine HV.mono ?_); rintro e w1 ⟨rfl, hb1⟩)
  all_goals try (rename_i hx _ _ ; simp only [bne_iff_ne, ne_eq, bne_eq_false_iff_eq] at hx)
  all_goals try (rename_i hx; simp only [bne_iff_ne, ne_eq, bne_eq_false_iff_eq] at hx)
  all_goals first
    | (have hf : fitsB P cl n = false := by
        unfold fitsB
        simp
        omega
       rw [hf, Bool.false_and]
       go_ret
       exact ⟨rfl, hbe⟩)
    | (have hf : fitsB P cl n = true := by
        unfold fitsB
        simp
        omega
       rw [hf, Bool.true_and]
       go_ret
       exact ⟨rfl, hB.bel.trans (hb1.mono hB.bel.size)⟩)
/-! ### what Run does on a call that is taken -/
structure Taken (P : Pg) (cl : Cl) (n : Nat) (K : Nat → Int) (d s : Int) (E : Ef) : Prop where
  used : 0 ≤ E.used ∧ E.used ≤ cl.fuel
  nw : E.nw = n
  code : E.code = 0 ∨ 200 ≤ E.code ∧ E.code ≤ 209
  ok : E.code = 0 → P.en cl.kind.toNat = -1 ∨ 0 < E.used
  bad : E.code ≠ 0 → E.on = 0 ∧ E.wd = K ∧ E.dice = d ∧ E.sent = s
theorem taken_eff {P : Pg} {cl : Cl} {n : Nat} {K : Nat → Int} {d s : Int} (hz : dcode P P.m = 0) (hf : fitsB P cl n = true) : Taken P cl n K d s (effP P cl n K d s) := by
  obtain ⟨⟨k1, k2⟩, ⟨k3, k4⟩, ⟨k5, k6⟩, k7, k8, k9⟩ := fitsB_yes hf
  unfold effP
  rw [if_neg (by rw [hz]; simp), if_neg (by rw [hf]; simp)]
  by_cases hen : P.en cl.kind.toNat = -1
  · rw [if_pos hen]
    exact ⟨⟨Int.le_refl _, k8⟩, rfl, .inl rfl, fun _ => .inl hen, fun hc => absurd rfl hc⟩
  · rw [if_neg hen]
    have hcd : (runOf P cl K d s).1 = 0 ∨ 200 ≤ (runOf P cl K d s).1 ∧ (runOf P cl K d s).1 ≤ 209 := runP_code P cl cl.fuel.toNat (P.en cl.kind.toNat).toNat (newM K d s (.slice none 0 0))
    obtain ⟨u1, u2, u3, u4⟩ : (0 : Int) ≤ (runOf P cl K d s).2.used ∧ (runOf P cl K d s).2.used ≤ 0 + (cl.fuel.toNat : Int) ∧ ((runOf P cl K d s).1 ≠ 200 → 0 < (runOf P cl K d s).2.used) ∧ ((runOf P cl K d s).1 = 200 → (runOf P cl K d s).2.used = 0 + (cl.fuel.toNat : Int)) := runP_used P cl cl.fuel.toNat (P.en cl.kind.toNat).toNat (newM K d s (.slice none 0 0))
    generalize runOf P cl K d s = R at *
    by_cases h0 : R.1 = 0
    · rw [if_neg (by simpa using h0)]
      exact ⟨⟨u1, by show R.2.used ≤ _; omega⟩, rfl, .inl rfl, fun _ => .inr (u3 (by omega)), fun hc => absurd rfl hc⟩
    · rw [if_pos h0]
      exact ⟨⟨u1, by show R.2.used ≤ _; omega⟩, rfl, hcd, fun hc => absurd hc h0, fun _ => ⟨rfl, rfl, rfl, rfl⟩⟩
theorem effP_bad {P : Pg} {cl : Cl} {n : Nat} {K : Nat → Int} {d s : Int} (hz : dcode P P.m ≠ 0) : effP P cl n K d s = efErr (dcode P P.m) := by
  unfold effP
  rw [if_pos hz]
theorem effP_unfit {P : Pg} {cl : Cl} {n : Nat} {K : Nat → Int} {d s : Int} (hz : dcode P P.m = 0) (hf : fitsB P cl n = false) : effP P cl n K d s = efErr 63 := by
  unfold effP
  rw [if_neg (by rw [hz]; simp), if_pos hf]
/-- Run, the effect's cells at hand -/
theorem vmRun' (P : Pg) (v : PgV) (cl : Cl) (p : Option Addr) (n c : Nat) (K : Nat → Int) (d s : Int) (w : World) (h : PAt w P v) (hc : CallAt w cl p n c K d s) (hA64 : ∀ i, i < P.n → In64 (P.a i)) :
    Calls Try.prog 10 #[.agg #[.int .i64 P.words, .int .i64 P.locals, .slice v.cp P.n v.cc, .slice v.ep P.m v.ec], .agg #[.int .u64 cl.time, .int .i64 cl.src, .int .u64 cl.seq, .int .i64 cl.dst, .int .i64 cl.kind, .int .i64 cl.data, .slice p n c, .int .u64 d, .int .u64 s, .int .u64 cl.look, .int .i64 cl.parts, .int .i64 cl.fuel]] w fun e w' => ∃ (wp : Option Addr) (wc : Nat) (op : Option Addr) (oc : Nat), e = .returned (.agg #[.int .i64 (effP P cl n K d s).code, .slice wp (effP P cl n K d s).nw wc, .int .u64 (effP P cl n K d s).dice, .int .u64 (effP P cl n K d s).sent, .slice op (effP P cl n K d s).on oc, .int .i64 (effP P cl n K d s).used]) ∧ (KAt w' wp (effP P cl n K d s).nw (effP P cl n K d s).wd ∧ XAt w' op (effP P cl n K d s).on (effP P cl n K d s).oF) ∧ Below w.heap.size w w' := by
  refine (vmRun P v cl p n c K d s w h hc hA64).mono ?_
  rintro e w' ⟨r, rfl, hE, hb⟩
  obtain ⟨wp, wc, op, oc, rfl, h1, h2⟩ := hE
  exact ⟨wp, wc, op, oc, rfl, ⟨h1.kat, h2.xat⟩, hb⟩
theorem one_new {w w' : World} {cs : Array Value} {t : TypeId} (h : w.alloc (.cells cs t) = w') : Below w.heap.size w w' ∧ w'.heap[w.heap.size]? = some (.cells cs t (0, 0)) ∧ w'.heap.size = w.heap.size + 1 := by
  subst h
  exact ⟨(Below.refl _ w).alloc (Nat.le_refl _) _, World.alloc_heap_new w _, World.size_alloc w _⟩
end Go.Proofs.Ytieanhmkcbcdkaa
