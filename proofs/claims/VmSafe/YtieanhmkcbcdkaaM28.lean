import Derived.Test.YtieanhmkcbcdkaaM27
namespace Go.Proofs.Ytieanhmkcbcdkaa
open Go.ChangeShapes Go.WideShapes Go.ChangeAt Go.RowKit
set_option linter.unusedVariables false
set_option linter.unusedSimpArgs false

set_option maxRecDepth 100000 in
set_option maxHeartbeats 4000000 in
/-- VmSafe on what is refused -/
theorem safe_refused (P : Pg) (v : PgV) (cl : Cl) (p : Option Addr) (n c : Nat) (K : Nat → Int) (d s : Int) (w : World) (h : PAt w P v) (hc : CallAt w cl p n c K d s) (hA64 : ∀ i, i < P.n → In64 (P.a i)) (hT : (fitsB P cl n && (dcode P P.m == 0)) = false) :
    Calls Try.prog 3 #[.agg #[.int .i64 P.words, .int .i64 P.locals, .slice v.cp P.n v.cc, .slice v.ep P.m v.ec], .agg #[.int .u64 cl.time, .int .i64 cl.src, .int .u64 cl.seq, .int .i64 cl.dst, .int .i64 cl.kind, .int .i64 cl.data, .slice p n c, .int .u64 d, .int .u64 s, .int .u64 cl.look, .int .i64 cl.parts, .int .i64 cl.fuel]] w fun e w' => e = .returned (.bool true) ∧ Below w.heap.size w w' := by
  obtain ⟨E, hE⟩ : ∃ E, effP P cl n K d s = E := ⟨_, rfl⟩
  have HE : Hid (effP P cl n K d s = E) := hE
  have HTB : Hid ((fitsB P cl n && (dcode P P.m == 0)) = false) := hT
  obtain ⟨wb, hwb⟩ : ∃ wb, (w.alloc (.cells #[.int .i64 P.words, .int .i64 P.locals, .slice v.cp P.n v.cc, .slice v.ep P.m v.ec] 25)).alloc (.cells #[.int .u64 cl.time, .int .i64 cl.src, .int .u64 cl.seq, .int .i64 cl.dst, .int .i64 cl.kind, .int .i64 cl.data, .slice p n c, .int .u64 d, .int .u64 s, .int .u64 cl.look, .int .i64 cl.parts, .int .i64 cl.fuel] 35) = wb := ⟨_, rfl⟩
  have hB := bx2_new w P v cl p n c d s wb hwb
  have HAW := awake_any wb
  have HW : Hid ((w.alloc (.cells #[.int .i64 P.words, .int .i64 P.locals, .slice v.cp P.n v.cc, .slice v.ep P.m v.ec] 25)).alloc (.cells #[.int .u64 cl.time, .int .i64 cl.src, .int .u64 cl.seq, .int .i64 cl.dst, .int .i64 cl.kind, .int .i64 cl.data, .slice p n c, .int .u64 d, .int .u64 s, .int .u64 cl.look, .int .i64 cl.parts, .int .i64 cl.fuel] 35) = wb) := hwb
  have HP : Hid (PAt w P v) := h
  have HC : Hid (CallAt w cl p n c K d s) := hc
  have HA : Hid (∀ i, i < P.n → In64 (P.a i)) := hA64
  clear hwb h hc hA64
  by_cases hz : dcode P P.m = 0
  · have hf : fitsB P cl n = false := by
      rw [hz] at hT
      simpa using hT
    have hEE : E = efErr 63 := by rw [← hE, effP_unfit hz hf]
    have HEV : Hid (E = efErr 63) := hEE
    have HN0 : Hid (E.nw = 0) := by show E.nw = 0; rw [hEE]; rfl
    have HON : Hid (E.on = 0) := by show E.on = 0; rw [hEE]; rfl
    have HZ : Hid (dcode P P.m = 0) := hz
    clear hE hT hz hf hEE
    go_enter Try.func3, Try.ntmps3
    go_wp2_with (first | (go_at_call 9; rw [HW.out]; (with_reducible refine HAW.mono ?_); rintro e w1 ⟨rfl, hb1⟩; have hB1 := hB.later hb1; obtain ⟨a0, a1, a2, a3⟩ := cells4 hB1.pb; obtain ⟨⟨b0, b1, b2, b3, b4, b5⟩, b6, b7, b8, b9, b10, b11⟩ := cells12 hB1.cb; have HR := vmRun' P v cl p n c K d s w1 (HP.out.below hB1.bel) (HC.out.below hB1.bel) HA.out; rw [HE.out] at HR) | (go_at_call 10; (with_reducible refine HR.mono ?_); rintro e w2 ⟨wp, wc, op, oc, rfl, hEL, hb2⟩; obtain ⟨w3, hw3⟩ : ∃ w3, w2.alloc (.cells #[.int .i64 E.code, .slice wp E.nw wc, .int .u64 E.dice, .int .u64 E.sent, .slice op E.on oc, .int .i64 E.used] 40) = w3 := ⟨_, rfl⟩; obtain ⟨hb3, heb, hsz3⟩ := one_new hw3; have hB3 := (hB1.later hb2).later hb3; have HKX : Hid (KAt w3 wp E.nw E.wd ∧ XAt w3 op E.on E.oF) := ⟨hEL.1.below hb3, hEL.2.below hb3⟩; have HW3 : Hid (w2.alloc (.cells #[.int .i64 E.code, .slice wp E.nw wc, .int .u64 E.dice, .int .u64 E.sent, .slice op E.on oc, .int .i64 E.used] 40) = w3) := hw3; have HT := taken_any P v cl p n c d s w3 (HP.out.below hB3.bel); rw [HTB.out] at HT; have hlt1 : w.heap.size < w2.heap.size := (by have := hB3.lt; have := (hB1.later hb2).lt; omega); have hlt2 : w.heap.size + 1 < w2.heap.size := (hB1.later hb2).lt; obtain ⟨c0, c1, c2, c3⟩ := cells4 (hB1.later hb2).pb; obtain ⟨⟨d0, d1, d2, d3, d4, d5⟩, d6, d7, d8, d9, d10, d11⟩ := cells12 (hB1.later hb2).cb; clear hw3 hEL) | (go_at_call 11; rw [HW3.out]; (with_reducible refine HT.mono ?_); rintro e w4 ⟨rfl, hb4⟩; have hB4 := hB3.later hb4; obtain ⟨g0, g1, g2, g3⟩ := cells4 hB4.pb; obtain ⟨⟨k0, k1, k2, k3, k4, k5⟩, k6, k7, k8, k9, k10, k11⟩ := cells12 hB4.cb; have heb4 := (hb4.block _ (by omega)).trans heb; obtain ⟨⟨r0, r1, r2, r3, r4, r5⟩, _⟩ := cells6' heb4 ; have HV := verify_any P v P.m w4 (HP.out.1.below hB4.bel) (HP.out.2.below hB4.bel); rw [HZ.out] at HV) | (go_at_call 12; (with_reducible refine HV.mono ?_); rintro e w5 ⟨rfl, hb5⟩; obtain ⟨⟨t0, t1, t2, t3, t4, t5⟩, _⟩ := cells6' ((hb5.block _ (by have := hb4.size; omega)).trans heb4); have HS := sameEffect_yes E (.agg #[.int .i64 E.code, .slice wp E.nw wc, .int .u64 E.dice, .int .u64 E.sent, .slice op E.on oc, .int .i64 E.used]) (.agg #[.int .i64 63, .slice none 0 0, .int .u64 0, .int .u64 0, .slice none 0 0, .int .i64 0]) w5 ⟨wp, wc, op, oc, rfl, HKX.out.1.below (hb4.trans (hb5.mono hb4.size)), HKX.out.2.below (hb4.trans (hb5.mono hb4.size))⟩ ⟨none, 0, none, 0, (by rw [HEV.out]; rfl), .inl HN0.out, .inl HON.out⟩ (HON.out ▸ EvSh.zero _) (by rw [HN0.out]; omega) (by rw [HON.out]; omega)) | (go_at_call 13; (with_reducible refine HS.mono ?_); rintro e w6 ⟨rfl, hb6⟩))
    go_ret
    exact ⟨rfl, hB4.bel.trans ((hb5.trans (hb6.mono hb5.size)).mono hB4.bel.size)⟩
  · have hEE : E = efErr (dcode P P.m) := by rw [← hE, effP_bad hz]
    obtain ⟨code, hcode⟩ : ∃ code, dcode P P.m = code := ⟨_, rfl⟩
    rw [hcode] at hEE hz
    have HEV : Hid (E = efErr code) := hEE
    have HN0 : Hid (E.nw = 0) := by show E.nw = 0; rw [hEE]; rfl
    have HON : Hid (E.on = 0) := by show E.on = 0; rw [hEE]; rfl
    have HZ : Hid (dcode P P.m = code) := hcode
    have hzb : (code == 0) = false := by simpa using hz
    clear hE hT hz hEE hcode
    go_enter Try.func3, Try.ntmps3
    go_wp2_with (first | (go_at_call 9; rw [HW.out]; (with_reducible refine HAW.mono ?_); rintro e w1 ⟨rfl, hb1⟩; have hB1 := hB.later hb1; obtain ⟨a0, a1, a2, a3⟩ := cells4 hB1.pb; obtain ⟨⟨b0, b1, b2, b3, b4, b5⟩, b6, b7, b8, b9, b10, b11⟩ := cells12 hB1.cb; have HR := vmRun' P v cl p n c K d s w1 (HP.out.below hB1.bel) (HC.out.below hB1.bel) HA.out; rw [HE.out] at HR) | (go_at_call 10; (with_reducible refine HR.mono ?_); rintro e w2 ⟨wp, wc, op, oc, rfl, hEL, hb2⟩; obtain ⟨w3, hw3⟩ : ∃ w3, w2.alloc (.cells #[.int .i64 E.code, .slice wp E.nw wc, .int .u64 E.dice, .int .u64 E.sent, .slice op E.on oc, .int .i64 E.used] 40) = w3 := ⟨_, rfl⟩; obtain ⟨hb3, heb, hsz3⟩ := one_new hw3; have hB3 := (hB1.later hb2).later hb3; have HKX : Hid (KAt w3 wp E.nw E.wd ∧ XAt w3 op E.on E.oF) := ⟨hEL.1.below hb3, hEL.2.below hb3⟩; have HW3 : Hid (w2.alloc (.cells #[.int .i64 E.code, .slice wp E.nw wc, .int .u64 E.dice, .int .u64 E.sent, .slice op E.on oc, .int .i64 E.used] 40) = w3) := hw3; have HT := taken_any P v cl p n c d s w3 (HP.out.below hB3.bel); rw [HTB.out] at HT; have hlt1 : w.heap.size < w2.heap.size := (by have := hB3.lt; have := (hB1.later hb2).lt; omega); have hlt2 : w.heap.size + 1 < w2.heap.size := (hB1.later hb2).lt; obtain ⟨c0, c1, c2, c3⟩ := cells4 (hB1.later hb2).pb; obtain ⟨⟨d0, d1, d2, d3, d4, d5⟩, d6, d7, d8, d9, d10, d11⟩ := cells12 (hB1.later hb2).cb; clear hw3 hEL) | (go_at_call 11; rw [HW3.out]; (with_reducible refine HT.mono ?_); rintro e w4 ⟨rfl, hb4⟩; have hB4 := hB3.later hb4; obtain ⟨g0, g1, g2, g3⟩ := cells4 hB4.pb; obtain ⟨⟨k0, k1, k2, k3, k4, k5⟩, k6, k7, k8, k9, k10, k11⟩ := cells12 hB4.cb; have heb4 := (hb4.block _ (by omega)).trans heb; obtain ⟨⟨r0, r1, r2, r3, r4, r5⟩, _⟩ := cells6' heb4 ; have HV := verify_any P v P.m w4 (HP.out.1.below hB4.bel) (HP.out.2.below hB4.bel); rw [HZ.out] at HV) | (go_at_call 12; (with_reducible refine HV.mono ?_); rintro e w5 ⟨rfl, hb5⟩; obtain ⟨⟨t0, t1, t2, t3, t4, t5⟩, _⟩ := cells6' ((hb5.block _ (by have := hb4.size; omega)).trans heb4); have HS := sameEffect_yes E (.agg #[.int .i64 E.code, .slice wp E.nw wc, .int .u64 E.dice, .int .u64 E.sent, .slice op E.on oc, .int .i64 E.used]) (.agg #[.int .i64 code, .slice none 0 0, .int .u64 0, .int .u64 0, .slice none 0 0, .int .i64 0]) w5 ⟨wp, wc, op, oc, rfl, HKX.out.1.below (hb4.trans (hb5.mono hb4.size)), HKX.out.2.below (hb4.trans (hb5.mono hb4.size))⟩ ⟨none, 0, none, 0, (by rw [HEV.out]; rfl), .inl HN0.out, .inl HON.out⟩ (HON.out ▸ EvSh.zero _) (by rw [HN0.out]; omega) (by rw [HON.out]; omega)) | (go_at_call 13; (with_reducible refine HS.mono ?_); rintro e w6 ⟨rfl, hb6⟩))
    go_ret
    exact ⟨rfl, hB4.bel.trans ((hb5.trans (hb6.mono hb5.size)).mono hB4.bel.size)⟩
set_option maxRecDepth 100000 in
set_option maxHeartbeats 4000000 in
/-- VmSafe on what is taken -/
theorem safe_taken (P : Pg) (v : PgV) (cl : Cl) (p : Option Addr) (n c : Nat) (K : Nat → Int) (d s : Int) (w : World) (h : PAt w P v) (hc : CallAt w cl p n c K d s) (hA64 : ∀ i, i < P.n → In64 (P.a i)) (hz : dcode P P.m = 0) (hf : fitsB P cl n = true) :
    Calls Try.prog 3 #[.agg #[.int .i64 P.words, .int .i64 P.locals, .slice v.cp P.n v.cc, .slice v.ep P.m v.ec], .agg #[.int .u64 cl.time, .int .i64 cl.src, .int .u64 cl.seq, .int .i64 cl.dst, .int .i64 cl.kind, .int .i64 cl.data, .slice p n c, .int .u64 d, .int .u64 s, .int .u64 cl.look, .int .i64 cl.parts, .int .i64 cl.fuel]] w fun e w' => e = .returned (.bool true) ∧ Below w.heap.size w w' := by
  have hT := taken_eff (P := P) (cl := cl) (n := n) (K := K) (d := d) (s := s) hz hf
  obtain ⟨E, hE⟩ : ∃ E, effP P cl n K d s = E := ⟨_, rfl⟩
  rw [hE] at hT
  have HE : Hid (effP P cl n K d s = E) := hE
  have HTB : Hid ((fitsB P cl n && (dcode P P.m == 0)) = true) := by show _ = true; rw [hz, hf]; rfl
  obtain ⟨wb, hwb⟩ : ∃ wb, (w.alloc (.cells #[.int .i64 P.words, .int .i64 P.locals, .slice v.cp P.n v.cc, .slice v.ep P.m v.ec] 25)).alloc (.cells #[.int .u64 cl.time, .int .i64 cl.src, .int .u64 cl.seq, .int .i64 cl.dst, .int .i64 cl.kind, .int .i64 cl.data, .slice p n c, .int .u64 d, .int .u64 s, .int .u64 cl.look, .int .i64 cl.parts, .int .i64 cl.fuel] 35) = wb := ⟨_, rfl⟩
  have hB := bx2_new w P v cl p n c d s wb hwb
  have HAW := awake_any wb
  have HW : Hid ((w.alloc (.cells #[.int .i64 P.words, .int .i64 P.locals, .slice v.cp P.n v.cc, .slice v.ep P.m v.ec] 25)).alloc (.cells #[.int .u64 cl.time, .int .i64 cl.src, .int .u64 cl.seq, .int .i64 cl.dst, .int .i64 cl.kind, .int .i64 cl.data, .slice p n c, .int .u64 d, .int .u64 s, .int .u64 cl.look, .int .i64 cl.parts, .int .i64 cl.fuel] 35) = wb) := hwb
  have HP : Hid (PAt w P v) := h
  have HC : Hid (CallAt w cl p n c K d s) := hc
  have HA : Hid (∀ i, i < P.n → In64 (P.a i)) := hA64
  clear hwb h hc hA64
  obtain ⟨⟨k1, k2⟩, ⟨k3, k4⟩, ⟨k5, k6⟩, k7, k8, k9⟩ := fitsB_yes hf
  have hkk : cl.kind.toNat < P.m := by omega
  have HTE : Hid (Taken P cl n K d s E) := hT
  have du0 : decide (E.used < 0) = false := decide_eq_false (by have := hT.used; omega)
  have duf : decide (cl.fuel < E.used) = false := decide_eq_false (by have := hT.used; omega)
  have dnw : ((E.nw : Int) != P.words) = false := by rw [hT.nw]; simpa using k7
  by_cases h0 : E.code = 0
  · have dc : (E.code == 0) = true := by simpa using h0
    by_cases hen : P.en cl.kind.toNat = -1
    · clear hE hz hf hT k1 k2 k3 k4 k7 k8 k9 h0
      go_enter Try.func3, Try.ntmps3
      go_wp2_with (first | (go_at_call 9; rw [HW.out]; (with_reducible refine HAW.mono ?_); rintro e w1 ⟨rfl, hb1⟩; have hB1 := hB.later hb1; obtain ⟨a0, a1, a2, a3⟩ := cells4 hB1.pb; obtain ⟨⟨b0, b1, b2, b3, b4, b5⟩, b6, b7, b8, b9, b10, b11⟩ := cells12 hB1.cb; have HR := vmRun' P v cl p n c K d s w1 (HP.out.below hB1.bel) (HC.out.below hB1.bel) HA.out; rw [HE.out] at HR) | (go_at_call 10; (with_reducible refine HR.mono ?_); rintro e w2 ⟨wp, wc, op, oc, rfl, hEL, hb2⟩; obtain ⟨w3, hw3⟩ : ∃ w3, w2.alloc (.cells #[.int .i64 E.code, .slice wp E.nw wc, .int .u64 E.dice, .int .u64 E.sent, .slice op E.on oc, .int .i64 E.used] 40) = w3 := ⟨_, rfl⟩; obtain ⟨hb3, heb, hsz3⟩ := one_new hw3; have hB3 := (hB1.later hb2).later hb3; have HKX : Hid (KAt w3 wp E.nw E.wd ∧ XAt w3 op E.on E.oF) := ⟨hEL.1.below hb3, hEL.2.below hb3⟩; have HW3 : Hid (w2.alloc (.cells #[.int .i64 E.code, .slice wp E.nw wc, .int .u64 E.dice, .int .u64 E.sent, .slice op E.on oc, .int .i64 E.used] 40) = w3) := hw3; have HT := taken_any P v cl p n c d s w3 (HP.out.below hB3.bel); rw [HTB.out] at HT; have hlt1 : w.heap.size < w2.heap.size := (by have := hB3.lt; have := (hB1.later hb2).lt; omega); have hlt2 : w.heap.size + 1 < w2.heap.size := (hB1.later hb2).lt; obtain ⟨c0, c1, c2, c3⟩ := cells4 (hB1.later hb2).pb; obtain ⟨⟨d0, d1, d2, d3, d4, d5⟩, d6, d7, d8, d9, d10, d11⟩ := cells12 (hB1.later hb2).cb; clear hw3 hEL) | (go_at_call 11; rw [HW3.out]; (with_reducible refine HT.mono ?_); rintro e w4 ⟨rfl, hb4⟩; have hB4 := hB3.later hb4; obtain ⟨g0, g1, g2, g3⟩ := cells4 hB4.pb; obtain ⟨⟨k0, k1, k2, k3, k4, k5⟩, k6, k7, k8, k9, k10, k11⟩ := cells12 hB4.cb; have heb4 := (hb4.block _ (by omega)).trans heb; obtain ⟨⟨r0, r1, r2, r3, r4, r5⟩, _⟩ := cells6' heb4; have hKA := HP.out.2.below hB4.bel; obtain ⟨eb, eo, hep, helt, hec⟩ : ∃ eb eo, v.ep = some ⟨eb, eo, none⟩ ∧ eb < w4.heap.size ∧ ∀ j, j < P.m → w4.cell? ⟨eb, eo + j, none⟩ = some (.int .i64 (P.en j)) := Or.resolve_left (a := P.m = 0) hKA (by omega); have ce := hec cl.kind.toNat hkk; rw [hep] at g3; rw [hen] at ce))
      go_ret
      exact ⟨rfl, hB4.bel⟩
    · have hus : 0 < E.used := (hT.ok h0).resolve_left hen
      have dus : decide (0 < E.used) = true := decide_eq_true hus
      have den : (P.en cl.kind.toNat == -1) = false := by simpa using hen
      clear hE hz hf hT k1 k2 k3 k4 k7 k8 k9 h0 hen hus
      go_enter Try.func3, Try.ntmps3
      go_wp2_with (first | (go_at_call 9; rw [HW.out]; (with_reducible refine HAW.mono ?_); rintro e w1 ⟨rfl, hb1⟩; have hB1 := hB.later hb1; obtain ⟨a0, a1, a2, a3⟩ := cells4 hB1.pb; obtain ⟨⟨b0, b1, b2, b3, b4, b5⟩, b6, b7, b8, b9, b10, b11⟩ := cells12 hB1.cb; have HR := vmRun' P v cl p n c K d s w1 (HP.out.below hB1.bel) (HC.out.below hB1.bel) HA.out; rw [HE.out] at HR) | (go_at_call 10; (with_reducible refine HR.mono ?_); rintro e w2 ⟨wp, wc, op, oc, rfl, hEL, hb2⟩; obtain ⟨w3, hw3⟩ : ∃ w3, w2.alloc (.cells #[.int .i64 E.code, .slice wp E.nw wc, .int .u64 E.dice, .int .u64 E.sent, .slice op E.on oc, .int .i64 E.used] 40) = w3 := ⟨_, rfl⟩; obtain ⟨hb3, heb, hsz3⟩ := one_new hw3; have hB3 := (hB1.later hb2).later hb3; have HKX : Hid (KAt w3 wp E.nw E.wd ∧ XAt w3 op E.on E.oF) := ⟨hEL.1.below hb3, hEL.2.below hb3⟩; have HW3 : Hid (w2.alloc (.cells #[.int .i64 E.code, .slice wp E.nw wc, .int .u64 E.dice, .int .u64 E.sent, .slice op E.on oc, .int .i64 E.used] 40) = w3) := hw3; have HT := taken_any P v cl p n c d s w3 (HP.out.below hB3.bel); rw [HTB.out] at HT; have hlt1 : w.heap.size < w2.heap.size := (by have := hB3.lt; have := (hB1.later hb2).lt; omega); have hlt2 : w.heap.size + 1 < w2.heap.size := (hB1.later hb2).lt; obtain ⟨c0, c1, c2, c3⟩ := cells4 (hB1.later hb2).pb; obtain ⟨⟨d0, d1, d2, d3, d4, d5⟩, d6, d7, d8, d9, d10, d11⟩ := cells12 (hB1.later hb2).cb; clear hw3 hEL) | (go_at_call 11; rw [HW3.out]; (with_reducible refine HT.mono ?_); rintro e w4 ⟨rfl, hb4⟩; have hB4 := hB3.later hb4; obtain ⟨g0, g1, g2, g3⟩ := cells4 hB4.pb; obtain ⟨⟨k0, k1, k2, k3, k4, k5⟩, k6, k7, k8, k9, k10, k11⟩ := cells12 hB4.cb; have heb4 := (hb4.block _ (by omega)).trans heb; obtain ⟨⟨r0, r1, r2, r3, r4, r5⟩, _⟩ := cells6' heb4; have hKA := HP.out.2.below hB4.bel; obtain ⟨eb, eo, hep, helt, hec⟩ : ∃ eb eo, v.ep = some ⟨eb, eo, none⟩ ∧ eb < w4.heap.size ∧ ∀ j, j < P.m → w4.cell? ⟨eb, eo + j, none⟩ = some (.int .i64 (P.en j)) := Or.resolve_left (a := P.m = 0) hKA (by omega); have ce := hec cl.kind.toNat hkk; rw [hep] at g3))
      go_ret
      exact ⟨rfl, hB4.bel⟩
  · have dc : (E.code == 0) = false := by simpa using h0
    have hcd := hT.code
    have d200 : decide (E.code < 200) = false := decide_eq_false (by omega)
    have d209 : decide (209 < E.code) = false := decide_eq_false (by omega)
    have don : ((E.on : Int) != 0) = false := by rw [(hT.bad h0).1]; rfl
    have HCN : Hid (E.code ≠ 0) := h0
    clear hE hz hf hT k1 k2 k3 k4 k7 k8 k9 h0 hcd
    go_enter Try.func3, Try.ntmps3
    go_wp2_with (first | (go_at_call 9; rw [HW.out]; (with_reducible refine HAW.mono ?_); rintro e w1 ⟨rfl, hb1⟩; have hB1 := hB.later hb1; obtain ⟨a0, a1, a2, a3⟩ := cells4 hB1.pb; obtain ⟨⟨b0, b1, b2, b3, b4, b5⟩, b6, b7, b8, b9, b10, b11⟩ := cells12 hB1.cb; have HR := vmRun' P v cl p n c K d s w1 (HP.out.below hB1.bel) (HC.out.below hB1.bel) HA.out; rw [HE.out] at HR) | (go_at_call 10; (with_reducible refine HR.mono ?_); rintro e w2 ⟨wp, wc, op, oc, rfl, hEL, hb2⟩; obtain ⟨w3, hw3⟩ : ∃ w3, w2.alloc (.cells #[.int .i64 E.code, .slice wp E.nw wc, .int .u64 E.dice, .int .u64 E.sent, .slice op E.on oc, .int .i64 E.used] 40) = w3 := ⟨_, rfl⟩; obtain ⟨hb3, heb, hsz3⟩ := one_new hw3; have hB3 := (hB1.later hb2).later hb3; have HKX : Hid (KAt w3 wp E.nw E.wd ∧ XAt w3 op E.on E.oF) := ⟨hEL.1.below hb3, hEL.2.below hb3⟩; have HW3 : Hid (w2.alloc (.cells #[.int .i64 E.code, .slice wp E.nw wc, .int .u64 E.dice, .int .u64 E.sent, .slice op E.on oc, .int .i64 E.used] 40) = w3) := hw3; have HT := taken_any P v cl p n c d s w3 (HP.out.below hB3.bel); rw [HTB.out] at HT; have hlt1 : w.heap.size < w2.heap.size := (by have := hB3.lt; have := (hB1.later hb2).lt; omega); have hlt2 : w.heap.size + 1 < w2.heap.size := (hB1.later hb2).lt; obtain ⟨c0, c1, c2, c3⟩ := cells4 (hB1.later hb2).pb; obtain ⟨⟨d0, d1, d2, d3, d4, d5⟩, d6, d7, d8, d9, d10, d11⟩ := cells12 (hB1.later hb2).cb; clear hw3 hEL) | (go_at_call 11; rw [HW3.out]; (with_reducible refine HT.mono ?_); rintro e w4 ⟨rfl, hb4⟩; have hB4 := hB3.later hb4; obtain ⟨g0, g1, g2, g3⟩ := cells4 hB4.pb; obtain ⟨⟨k0, k1, k2, k3, k4, k5⟩, k6, k7, k8, k9, k10, k11⟩ := cells12 hB4.cb; have heb4 := (hb4.block _ (by omega)).trans heb; obtain ⟨⟨r0, r1, r2, r3, r4, r5⟩, _⟩ := cells6' heb4; have HS : Calls Try.prog 14 #[.agg #[.slice wp E.nw wc, .int .u64 E.dice, .int .u64 E.sent], .agg #[.slice p n c, .int .u64 d, .int .u64 s]] w4 (fun e w' => e = .returned (.bool true) ∧ Below w4.heap.size w4 w') := (by have hk := HKX.out.1.below hb4; rw [HTE.out.nw, (HTE.out.bad HCN.out).2.1] at hk; rw [HTE.out.nw, (HTE.out.bad HCN.out).2.2.1, (HTE.out.bad HCN.out).2.2.2]; exact sameState_yes wp p n wc c K d s HC.out.room w4 hk (HC.out.words.below hB4.bel))) | (go_at_call 14; (with_reducible refine HS.mono ?_); rintro e w6 ⟨rfl, hb6⟩))
    go_ret
    exact ⟨rfl, hB4.bel.trans (hb6.mono hB4.bel.size)⟩
theorem safe_law (P : Pg) (v : PgV) (cl : Cl) (p : Option Addr) (n c : Nat) (K : Nat → Int) (d s : Int) (w : World) (h : PAt w P v) (hc : CallAt w cl p n c K d s) (hA64 : ∀ i, i < P.n → In64 (P.a i)) :
    Calls Try.prog 3 #[.agg #[.int .i64 P.words, .int .i64 P.locals, .slice v.cp P.n v.cc, .slice v.ep P.m v.ec], .agg #[.int .u64 cl.time, .int .i64 cl.src, .int .u64 cl.seq, .int .i64 cl.dst, .int .i64 cl.kind, .int .i64 cl.data, .slice p n c, .int .u64 d, .int .u64 s, .int .u64 cl.look, .int .i64 cl.parts, .int .i64 cl.fuel]] w fun e w' => e = .returned (.bool true) ∧ Below w.heap.size w w' := by
  by_cases hT : (fitsB P cl n && (dcode P P.m == 0)) = false
  · exact safe_refused P v cl p n c K d s w h hc hA64 hT
  · have hx : fitsB P cl n = true ∧ dcode P P.m = 0 := by simpa using hT
    exact safe_taken P v cl p n c K d s w h hc hA64 hx.2 hx.1
end Go.Proofs.Ytieanhmkcbcdkaa
