import Derived.Test.YtieanhmkcbcdkaaM27
import Derived.WalkMore
namespace Go.Proofs.Ytieanhmkcbcdkaa
open Go.ChangeShapes Go.WideShapes Go.ChangeAt Go.RowKit
set_option linter.unusedVariables false
set_option linter.unusedSimpArgs false

structure EInv (P : Pg) (cl : Cl) (s0 : Int) (E : Ef) : Prop where
  on : E.on ≤ 16
  sent : E.sent = u64of (s0 + E.on)
  ev : ∀ i, i < E.on → ∃ D T k X : Int, E.oF (i * 6) = .int .u64 (addN cl.time (u64of D)) ∧ E.oF (i * 6 + 1) = .int .i64 cl.dst ∧ E.oF (i * 6 + 2) = .int .u64 (u64of (s0 + i)) ∧ E.oF (i * 6 + 3) = .int .i64 T ∧ E.oF (i * 6 + 4) = .int .i64 k ∧ E.oF (i * 6 + 5) = .int .i64 X ∧ (0 ≤ T ∧ T < cl.parts) ∧ (0 ≤ k ∧ k < P.m) ∧ ¬ u64of D < cl.look ∧ addE cl.time (u64of D) = 0
theorem u64of_id {x : Int} (h : u64ok x) : u64of x = x := by
  unfold u64of u64ok at *
  simp only [IntKind.wrap, IntKind.bits, IntKind.signed]
  simp
  omega
theorem u64_seq (s k : Int) : u64of (s + k) = IntKind.u64.wrap (s + IntKind.u64.wrap k) := by
  unfold u64of
  simp only [IntKind.wrap, IntKind.bits, IntKind.signed]
  simp
theorem run_keeps {P : Pg} {cl : Cl} {n : Nat} {K : Nat → Int} {d s : Int} {w : World} {p : Option Addr} {c : Nat} (hz : dcode P P.m = 0) (hf : fitsB P cl n = true) (hc : CallAt w cl p n c K d s) (hA64 : ∀ i, i < P.n → In64 (P.a i)) (hen : P.en cl.kind.toNat ≠ -1) (J : Mc → Prop) (h0 : J (newM K d s (.slice none 0 0))) (hus : ∀ M, J M → J (usM M)) (hpop : ∀ M, J M → J (popM M))
    (hdo : ∀ M i, i < P.n → OkM M → J (usM M) → insErr P (P.op i) (P.a i) (P.b i) = 0 → doF cl (usM M) (P.op i) (P.a i) (P.b i) = 0 → J (doM cl (usM M) (P.op i) (P.a i) (P.b i))) : J (runOf P cl K d s).2 := by
  obtain ⟨_, hsP, hins, g, hnr, hbd⟩ := dcode_zero hz
  obtain ⟨⟨k1, k2⟩, ⟨k3, k4⟩, ⟨k5, k6⟩, k7, k8, k9⟩ := fitsB_yes hf
  have hkk : cl.kind.toNat < P.m := by omega
  have en0 := g.en cl.kind.toNat hkk
  have hdl := (sol_dL g hnr hbd).en _ hkk (by omega)
  exact (runP_ind g hsP hnr hbd hins hc.ok hA64 J hus hpop hdo cl.fuel.toNat (P.en cl.kind.toNat).toNat (newM K d s (.slice none 0 0)) (by omega) (by rw [hdl]; rfl) (newM_ok hc _) h0).1
theorem eff_sent {P : Pg} {cl : Cl} {n : Nat} {K : Nat → Int} {d s : Int} {w : World} {p : Option Addr} {c : Nat} (hz : dcode P P.m = 0) (hf : fitsB P cl n = true) (hc : CallAt w cl p n c K d s) (hA64 : ∀ i, i < P.n → In64 (P.a i)) : EInv P cl s (effP P cl n K d s) := by
  have hs0 : s = u64of (s + ((0 : Nat) : Int)) := by rw [show s + ((0 : Nat) : Int) = s by omega, u64of_id hc.sent]
  unfold effP
  rw [if_neg (by rw [hz]; simp), if_neg (by rw [hf]; simp)]
  by_cases hen : P.en cl.kind.toNat = -1
  · rw [if_pos hen]
    exact ⟨Nat.zero_le _, hs0, fun i hi => absurd hi (Nat.not_lt_zero _)⟩
  · rw [if_neg hen]
    by_cases h0 : (runOf P cl K d s).1 = 0
    · rw [if_neg (by simpa using h0)]
      have hS := run_keeps hz hf hc hA64 hen (SInv P cl s) ⟨Nat.zero_le _, hs0, fun i hi => absurd hi (Nat.not_lt_zero _)⟩ (fun M h => ⟨h.on, h.sent, h.ev⟩) (fun M h => ⟨h.on, h.sent, h.ev⟩) (fun M i hi hok hJ h1 h2 => sinv_do (usM M) _ _ _ hJ h1 h2)
      exact ⟨hS.on, hS.sent, hS.ev⟩
    · rw [if_pos h0]
      exact ⟨Nat.zero_le _, hs0, fun i hi => absurd hi (Nat.not_lt_zero _)⟩
set_option maxRecDepth 100000 in
set_option maxHeartbeats 4000000 in
theorem VmSends_refused (P : Pg) (v : PgV) (cl : Cl) (p : Option Addr) (n c : Nat) (K : Nat → Int) (d s : Int) (w : World) (h : PAt w P v) (hc : CallAt w cl p n c K d s) (hA64 : ∀ i, i < P.n → In64 (P.a i)) (hT : (fitsB P cl n && (dcode P P.m == 0)) = false) :
    Calls Try.prog 4 #[.agg #[.int .i64 P.words, .int .i64 P.locals, .slice v.cp P.n v.cc, .slice v.ep P.m v.ec], .agg #[.int .u64 cl.time, .int .i64 cl.src, .int .u64 cl.seq, .int .i64 cl.dst, .int .i64 cl.kind, .int .i64 cl.data, .slice p n c, .int .u64 d, .int .u64 s, .int .u64 cl.look, .int .i64 cl.parts, .int .i64 cl.fuel]] w fun e w' => e = .returned (.bool true) ∧ Below w.heap.size w w' := by
  have HTB : Hid ((fitsB P cl n && (dcode P P.m == 0)) = false) := hT
  obtain ⟨wb, hwb⟩ : ∃ wb, (w.alloc (.cells #[.int .i64 P.words, .int .i64 P.locals, .slice v.cp P.n v.cc, .slice v.ep P.m v.ec] 25)).alloc (.cells #[.int .u64 cl.time, .int .i64 cl.src, .int .u64 cl.seq, .int .i64 cl.dst, .int .i64 cl.kind, .int .i64 cl.data, .slice p n c, .int .u64 d, .int .u64 s, .int .u64 cl.look, .int .i64 cl.parts, .int .i64 cl.fuel] 35) = wb := ⟨_, rfl⟩
  have hB := bx2_new w P v cl p n c d s wb hwb
  have HAW := awake_any wb
  have HW : Hid ((w.alloc (.cells #[.int .i64 P.words, .int .i64 P.locals, .slice v.cp P.n v.cc, .slice v.ep P.m v.ec] 25)).alloc (.cells #[.int .u64 cl.time, .int .i64 cl.src, .int .u64 cl.seq, .int .i64 cl.dst, .int .i64 cl.kind, .int .i64 cl.data, .slice p n c, .int .u64 d, .int .u64 s, .int .u64 cl.look, .int .i64 cl.parts, .int .i64 cl.fuel] 35) = wb) := hwb
  have HP : Hid (PAt w P v) := h
  have HC : Hid (CallAt w cl p n c K d s) := hc
  have HA : Hid (∀ i, i < P.n → In64 (P.a i)) := hA64
  clear hwb h hc hA64
  clear hT
  go_enter Try.func4, Try.ntmps4
  go_wp2_with (first | (go_at_call 9; rw [HW.out]; (with_reducible refine HAW.mono ?_); rintro e w1 ⟨rfl, hb1⟩; have hB1 := hB.later hb1; obtain ⟨a0, a1, a2, a3⟩ := cells4 hB1.pb; obtain ⟨⟨b0, b1, b2, b3, b4, b5⟩, b6, b7, b8, b9, b10, b11⟩ := cells12 hB1.cb; have HT := taken_any P v cl p n c d s w1 (HP.out.below hB1.bel); rw [HTB.out] at HT) | (go_at_call 11; (with_reducible refine HT.mono ?_); rintro e w2 ⟨rfl, hb2⟩; have hB2 := hB1.later hb2; obtain ⟨c0, c1, c2, c3⟩ := cells4 hB2.pb; obtain ⟨⟨d0, d1, d2, d3, d4, d5⟩, d6, d7, d8, d9, d10, d11⟩ := cells12 hB2.cb))
  go_ret
  exact ⟨rfl, hB2.bel⟩
set_option maxRecDepth 100000 in
set_option maxHeartbeats 4000000 in
theorem sends_taken (P : Pg) (v : PgV) (cl : Cl) (p : Option Addr) (n c : Nat) (K : Nat → Int) (d s : Int) (w : World) (h : PAt w P v) (hc : CallAt w cl p n c K d s) (hA64 : ∀ i, i < P.n → In64 (P.a i)) (hlook : u64ok cl.look) (hz : dcode P P.m = 0) (hf : fitsB P cl n = true) :
    Calls Try.prog 4 #[.agg #[.int .i64 P.words, .int .i64 P.locals, .slice v.cp P.n v.cc, .slice v.ep P.m v.ec], .agg #[.int .u64 cl.time, .int .i64 cl.src, .int .u64 cl.seq, .int .i64 cl.dst, .int .i64 cl.kind, .int .i64 cl.data, .slice p n c, .int .u64 d, .int .u64 s, .int .u64 cl.look, .int .i64 cl.parts, .int .i64 cl.fuel]] w fun e w' => e = .returned (.bool true) ∧ Below w.heap.size w w' := by
  have hI := eff_sent hz hf hc hA64
  obtain ⟨E, hE⟩ : ∃ E, effP P cl n K d s = E := ⟨_, rfl⟩
  rw [hE] at hI
  have HE : Hid (effP P cl n K d s = E) := hE
  have HTB : Hid ((fitsB P cl n && (dcode P P.m == 0)) = true) := by show _ = true; rw [hz, hf]; rfl
  obtain ⟨wb, hwb⟩ : ∃ wb, (w.alloc (.cells #[.int .i64 P.words, .int .i64 P.locals, .slice v.cp P.n v.cc, .slice v.ep P.m v.ec] 25)).alloc (.cells #[.int .u64 cl.time, .int .i64 cl.src, .int .u64 cl.seq, .int .i64 cl.dst, .int .i64 cl.kind, .int .i64 cl.data, .slice p n c, .int .u64 d, .int .u64 s, .int .u64 cl.look, .int .i64 cl.parts, .int .i64 cl.fuel] 35) = wb := ⟨_, rfl⟩
  have hB := bx2_new w P v cl p n c d s wb hwb
  have HAW := awake_any wb
  have HW : Hid ((w.alloc (.cells #[.int .i64 P.words, .int .i64 P.locals, .slice v.cp P.n v.cc, .slice v.ep P.m v.ec] 25)).alloc (.cells #[.int .u64 cl.time, .int .i64 cl.src, .int .u64 cl.seq, .int .i64 cl.dst, .int .i64 cl.kind, .int .i64 cl.data, .slice p n c, .int .u64 d, .int .u64 s, .int .u64 cl.look, .int .i64 cl.parts, .int .i64 cl.fuel] 35) = wb) := hwb
  have HP : Hid (PAt w P v) := h
  have HC : Hid (CallAt w cl p n c K d s) := hc
  have HA : Hid (∀ i, i < P.n → In64 (P.a i)) := hA64
  clear hwb h hc hA64
  have HI : Hid (EInv P cl s E) := hI
  have d16 : decide ((16 : Int) < E.on) = false := decide_eq_false (by have := hI.on; omega)
  have hsq : (E.sent != IntKind.u64.wrap (s + IntKind.u64.wrap E.on)) = false := by rw [hI.sent, u64_seq]; simp
  clear hE hz hf hI
  go_enter Try.func4, Try.ntmps4
  go_wp2_with (first | (go_at_call 9; rw [HW.out]; (with_reducible refine HAW.mono ?_); rintro e w1 ⟨rfl, hb1⟩; have hB1 := hB.later hb1; obtain ⟨a0, a1, a2, a3⟩ := cells4 hB1.pb; obtain ⟨⟨b0, b1, b2, b3, b4, b5⟩, b6, b7, b8, b9, b10, b11⟩ := cells12 hB1.cb; have HT := taken_any P v cl p n c d s w1 (HP.out.below hB1.bel); rw [HTB.out] at HT) | (go_at_call 11; (with_reducible refine HT.mono ?_); rintro e w2 ⟨rfl, hb2⟩; have hB2 := hB1.later hb2; obtain ⟨c0, c1, c2, c3⟩ := cells4 hB2.pb; obtain ⟨⟨d0, d1, d2, d3, d4, d5⟩, d6, d7, d8, d9, d10, d11⟩ := cells12 hB2.cb; have HR := vmRun' P v cl p n c K d s w2 (HP.out.below hB2.bel) (HC.out.below hB2.bel) HA.out; rw [HE.out] at HR) | (go_at_call 10; (with_reducible refine HR.mono ?_); rintro e w3 ⟨wp, wc, op, oc, rfl, hEL, hb3⟩; obtain ⟨w4, hw4⟩ : ∃ w4, w3.alloc (.cells #[.int .i64 E.code, .slice wp E.nw wc, .int .u64 E.dice, .int .u64 E.sent, .slice op E.on oc, .int .i64 E.used] 40) = w4 := ⟨_, rfl⟩; obtain ⟨hb4, heb, hsz4⟩ := one_new hw4; have hB3 := hB2.later hb3; have hB4 := hB3.later hb4; have HKX : Hid (KAt w4 wp E.nw E.wd ∧ XAt w4 op E.on E.oF) := ⟨hEL.1.below hb4, hEL.2.below hb4⟩; have HW4 : Hid (w3.alloc (.cells #[.int .i64 E.code, .slice wp E.nw wc, .int .u64 E.dice, .int .u64 E.sent, .slice op E.on oc, .int .i64 E.used] 40) = w4) := hw4; have hlt1 : w.heap.size < w3.heap.size := (by have := hB3.lt; omega); have hlt2 : w.heap.size + 1 < w3.heap.size := hB3.lt; obtain ⟨g0, g1, g2, g3⟩ := cells4 hB3.pb; obtain ⟨⟨k0, k1, k2, k3, k4, k5⟩, k6, k7, k8, k9, k10, k11⟩ := cells12 hB3.cb; clear hw4 hEL))
  rw [HW4.out]
  clear HW4 HR HT HAW HW a0 a1 a2 a3 b0 b1 b2 b3 b4 b5 b6 b7 b8 b9 b10 b11 c0 c1 c2 c3 d0 d1 d2 d3 d4 d5 d6 d7 d8 d9 d10 d11 g0 g1 g2 g3 k0 k1 k2 k3 k4 k5 k6 k7 k8 k9 k10 k11 hsq d16
  go_loopw [6] (fun x wr => ∃ i : Nat, x = .int .i64 i ∧ i ≤ E.on ∧ Below w4.heap.size w4 wr) (fun x _ => E.on - (intOf x).toNat)
  case atStart => exact ⟨0, rfl, Nat.zero_le _, Below.refl _ _⟩
  case round =>
    obtain ⟨i, rfl, hi, hbel⟩ := hrel
    have hBr := hB4.later hbel
    have hbw := hBr.bel
    obtain ⟨c0, c1, c2, c3⟩ := cells4 hBr.pb
    obtain ⟨⟨d0, d1, d2, d3, d4, d5⟩, d6, d7, d8, d9, d10, d11⟩ := cells12 hBr.cb
    obtain ⟨⟨r0, r1, r2, r3, r4, r5⟩, _⟩ := cells6' ((hbel.block _ (by omega)).trans heb)
    have hsr := hbel.size
    have i16 : i ≤ 16 := Nat.le_trans hi HI.out.on
    by_cases hlt : i < E.on
    · have dl : decide ((i : Int) < E.on) = true := decide_eq_true (by omega)
      have hm := meas hlt
      obtain ⟨D, T, k, X, e0, e1, e2, e3, e4, e5, ⟨t1, t2⟩, ⟨q1, q2⟩, hD, hA0⟩ := HI.out.ev i hlt
      have hx2 := HKX.out.2.below hbel
      obtain ⟨xb, xo, hxp, hxl, hxc⟩ : ∃ b o, op = some ⟨b, o, none⟩ ∧ b < wr.heap.size ∧ ∀ j, j < E.on * 6 → wr.cell? ⟨b, o + j, none⟩ = some (E.oF j) := Or.resolve_left (a := E.on = 0) hx2 (by omega)
      subst hxp
      have x0 := (hxc (i * 6) (by omega)).trans (congrArg some e0)
      have x1 := (hxc (i * 6 + 1) (by omega)).trans (congrArg some e1)
      have x2 := (hxc (i * 6 + 2) (by omega)).trans (congrArg some e2)
      have x3 := (hxc (i * 6 + 3) (by omega)).trans (congrArg some e3)
      have x4 := (hxc (i * 6 + 4) (by omega)).trans (congrArg some e4)
      have x5 := (hxc (i * 6 + 5) (by omega)).trans (congrArg some e5)
      simp only [← Nat.add_assoc] at x1 x2 x3 x4 x5
      have hadd : addN cl.time (u64of D) = cl.time + u64of D := by
        unfold addE at hA0
        unfold addN
        by_cases hle : cl.time + u64of D ≤ 18446744073709551615
        · rw [if_pos hle]
        · rw [if_neg hle] at hA0; cases hA0
      have hub := u64of_b D
      unfold u64ok at hub
      have htm := HC.out.ok.time
      unfold u64ok at htm
      have hle : cl.time + u64of D ≤ 18446744073709551615 := by
        unfold addE at hA0
        by_cases hle : cl.time + u64of D ≤ 18446744073709551615
        · exact hle
        · rw [if_neg hle] at hA0; cases hA0
      rw [hadd] at x0
      have x2' : wr.cell? ⟨xb, xo + i * 6 + 2, none⟩ = some (.int .u64 (IntKind.u64.wrap (s + (i : Int)))) := x2
      clear x2
      have z2 : decide (T < 0) = false := decide_eq_false (by omega)
      have z3 : decide (cl.parts ≤ T) = false := decide_eq_false (by omega)
      have z4 : decide (k < 0) = false := decide_eq_false (by omega)
      have z5 : decide ((P.m : Int) ≤ k) = false := decide_eq_false (by omega)
      have z6 : decide (cl.time + u64of D < cl.time) = false := decide_eq_false (by omega)
      have z7 : IntKind.u64.wrap (cl.time + u64of D - cl.time) = u64of D := by rw [show cl.time + u64of D - cl.time = u64of D by omega]; exact u64of_id (u64of_b D)
      have z8 : decide (u64of D < cl.look) = false := decide_eq_false hD
      have hl2 : w.heap.size + 1 < wr.heap.size := hBr.lt
      have hl1 : w.heap.size < wr.heap.size := by omega
      have hl3 : w3.heap.size < wr.heap.size := by omega
      clear hxc e0 e1 e2 e3 e4 e5 hx2 hadd hA0 hD
      generalize u64of D = D' at *
      go_wp2
      exact ⟨⟨i + 1, rfl, hlt, hbel.alloc hsr _⟩, hm⟩
    · have dl : decide ((i : Int) < E.on) = false := decide_eq_false (by omega)
      go_wp2
      go_ret
      exact ⟨rfl, hbw⟩
theorem sends_law (P : Pg) (v : PgV) (cl : Cl) (p : Option Addr) (n c : Nat) (K : Nat → Int) (d s : Int) (w : World) (h : PAt w P v) (hc : CallAt w cl p n c K d s) (hA64 : ∀ i, i < P.n → In64 (P.a i)) (hlook : u64ok cl.look) :
    Calls Try.prog 4 #[.agg #[.int .i64 P.words, .int .i64 P.locals, .slice v.cp P.n v.cc, .slice v.ep P.m v.ec], .agg #[.int .u64 cl.time, .int .i64 cl.src, .int .u64 cl.seq, .int .i64 cl.dst, .int .i64 cl.kind, .int .i64 cl.data, .slice p n c, .int .u64 d, .int .u64 s, .int .u64 cl.look, .int .i64 cl.parts, .int .i64 cl.fuel]] w fun e w' => e = .returned (.bool true) ∧ Below w.heap.size w w' := by
  by_cases hT : (fitsB P cl n && (dcode P P.m == 0)) = false
  · exact VmSends_refused P v cl p n c K d s w h hc hA64 hT
  · have hx : fitsB P cl n = true ∧ dcode P P.m = 0 := by simpa using hT
    exact sends_taken P v cl p n c K d s w h hc hA64 hlook hx.2 hx.1
end Go.Proofs.Ytieanhmkcbcdkaa
