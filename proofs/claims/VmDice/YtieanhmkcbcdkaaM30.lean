import Derived.Test.YtieanhmkcbcdkaaM29
import Derived.Test.YtieanhmkcbcdkaaDMix
namespace Go.Proofs.Ytieanhmkcbcdkaa
open Go.ChangeShapes Go.WideShapes Go.ChangeAt Go.RowKit
set_option linter.unusedVariables false
set_option linter.unusedSimpArgs false

/-- whether the code throws dice -/
def rollsI (P : Pg) (i : Nat) : Bool := P.op i == 37 || P.op i == 41
def rolls (P : Pg) : Nat → Bool
  | 0 => false
  | k + 1 => rolls P k || P.op k == 37 || P.op k == 41
theorem rolls_no {P : Pg} : ∀ {k : Nat}, rolls P k = false → ∀ i, i < k → P.op i ≠ 37 ∧ P.op i ≠ 41
  | 0, _, i, hi => by omega
  | k + 1, h, i, hi => by
    unfold rolls at h
    simp only [Bool.or_eq_false_iff] at h
    by_cases e : i = k
    · subst e
      exact ⟨by simpa using h.1.2, by simpa using h.2⟩
    · exact rolls_no h.1.1 i (by omega)
/-- what every instruction keeps, a run keeps -/
theorem runP_ind2 {P : Pg} (g : Gd P) (hs : sizedP P) (hnr : ¬ Rch P P.n) (hbd : ¬ BadD P) (hins : ferr (insE P) 0 P.n = 0) {cl : Cl} (hcl : OkC cl) (hA64 : ∀ i, i < P.n → In64 (P.a i)) (J : Mc → Prop) (hus : ∀ M, J M → J (usM M)) (hpop : ∀ M, J M → J (popM M))
    (hdo : ∀ M i, i < P.n → OkM M → J M → insErr P (P.op i) (P.a i) (P.b i) = 0 → doF cl (usM M) (P.op i) (P.a i) (P.b i) = 0 → J (doM cl (usM M) (P.op i) (P.a i) (P.b i))) : ∀ (k i : Nat) (M : Mc), i < P.n → (M.hi : Int) = dL P i → OkM M → J M → J (runP P cl k i M).2 ∧ OkM (runP P cl k i M).2
  | 0, i, M, hi, hd, hok, hJ => by rw [runP_zero]; exact ⟨hJ, hok⟩
  | k + 1, i, M, hi, hd, hok, hJ => by
    have hsol := sol_dL g hnr hbd
    have hdn : dL P i ≠ -1 := by omega
    have HD := hsol.dp i hi hdn
    have HF := hsol.fine i hi hdn
    have hins1 : insErr P (P.op i) (P.a i) (P.b i) = 0 := ferr_zero hins i (by omega) (by omega)
    by_cases h0 : P.op i = 0
    · rw [runP_stop h0]; exact ⟨hus _ hJ, hok.us⟩
    by_cases h1 : P.op i = 35
    · rw [runP_jump h1]
      have hj : jmp (P.op i) = true := by rw [h1]; rfl
      have ha := g.a i hi hj
      have hL := hsol.jump i hi hdn hj
      refine runP_ind2 g hs hnr hbd hins hcl hA64 J hus hpop hdo k _ _ (by omega) ?_ hok.us (hus _ hJ)
      show (M.hi : Int) = _
      rw [hL]
      unfold aft
      rw [h1, show pops 35 = 0 from rfl, show pushes 35 = 0 from rfl]
      omega
    by_cases h2 : P.op i = 36
    · rw [runP_ifz h2]
      have hj : jmp (P.op i) = true := by rw [h2]; rfl
      have hen : ends (P.op i) = false := by rw [h2]; rfl
      have haft : aft P i (dL P i) = dL P i - 1 := by
        unfold aft
        rw [h2, show pops 36 = 1 from rfl, show pushes 36 = 0 from rfl]
        omega
      have hhi : 1 ≤ M.hi := by
        have := HF.1
        rw [h2, show pops 36 = 1 from rfl] at this
        omega
      by_cases ht : topM M = 0
      · rw [if_pos ht]
        have ha := g.a i hi hj
        have hL := hsol.jump i hi hdn hj
        refine runP_ind2 g hs hnr hbd hins hcl hA64 J hus hpop hdo k _ _ (by omega) ?_ hok.us.pop (hpop _ (hus _ hJ))
        show ((M.hi - 1 : Nat) : Int) = _
        rw [hL, haft]
        omega
      · rw [if_neg ht]
        have hnx := hsol.eq g hnr (.next i _ HD hi HF hen)
        refine runP_ind2 g hs hnr hbd hins hcl hA64 J hus hpop hdo k _ _ hnx.1 ?_ hok.us.pop (hpop _ (hus _ hJ))
        show ((M.hi - 1 : Nat) : Int) = _
        rw [hnx.2, haft]
        omega
    have h3 : P.op i ≠ 0 ∧ P.op i ≠ 35 ∧ P.op i ≠ 36 := ⟨h0, h1, h2⟩
    by_cases hf : doF cl (usM M) (P.op i) (P.a i) (P.b i) = 0
    · rw [runP_go h3 hf]
      have h40 : P.op i ≠ 40 := fun e => by
        rw [e] at hf
        unfold doF at hf
        rw [if_pos rfl] at hf
        cases hf
      have hen : ends (P.op i) = false := by
        unfold ends
        simp [h0, h1, h40]
      have hnx := hsol.eq g hnr (.next i _ HD hi HF hen)
      have hf1 : pops (P.op i) ≤ (usM M).hi := by have := HF.1; show pops (P.op i) ≤ (M.hi : Int); omega
      have hhi := doM_hi cl (usM M) (P.op i) (P.a i) (P.b i) (g.op i hi) ⟨h0, h1, h2, h40⟩ hf hf1
      refine runP_ind2 g hs hnr hbd hins hcl hA64 J hus hpop hdo k _ _ hnx.1 ?_ (doM_ok cl hcl (usM M) hok.us _ _ _ (hA64 i hi) hf ?_) (hdo M i hi hok hJ hins1 hf)
      · rw [hhi, hnx.2]
        unfold aft
        show (M.hi : Int) - _ + _ = _
        omega
      · intro e38
        have h5 := ins_two hins1 (by rw [e38]; rfl)
        rw [e38, show limI P 38 = 64 from rfl] at h5
        omega
    · rw [runP_fault h3 hf]; exact ⟨hus _ hJ, hok.us⟩
theorem run_keeps2 {P : Pg} {cl : Cl} {n : Nat} {K : Nat → Int} {d s : Int} {w : World} {p : Option Addr} {c : Nat} (hz : dcode P P.m = 0) (hf : fitsB P cl n = true) (hc : CallAt w cl p n c K d s) (hA64 : ∀ i, i < P.n → In64 (P.a i)) (hen : P.en cl.kind.toNat ≠ -1) (J : Mc → Prop) (h0 : J (newM K d s (.slice none 0 0))) (hus : ∀ M, J M → J (usM M)) (hpop : ∀ M, J M → J (popM M))
    (hdo : ∀ M i, i < P.n → OkM M → J M → insErr P (P.op i) (P.a i) (P.b i) = 0 → doF cl (usM M) (P.op i) (P.a i) (P.b i) = 0 → J (doM cl (usM M) (P.op i) (P.a i) (P.b i))) : J (runOf P cl K d s).2 := by
  obtain ⟨_, hsP, hins, g, hnr, hbd⟩ := dcode_zero hz
  obtain ⟨⟨k1, k2⟩, ⟨k3, k4⟩, ⟨k5, k6⟩, k7, k8, k9⟩ := fitsB_yes hf
  have hkk : cl.kind.toNat < P.m := by omega
  have en0 := g.en cl.kind.toNat hkk
  have hdl := (sol_dL g hnr hbd).en _ hkk (by omega)
  exact (runP_ind2 g hsP hnr hbd hins hc.ok hA64 J hus hpop hdo cl.fuel.toNat (P.en cl.kind.toNat).toNat (newM K d s (.slice none 0 0)) (by omega) (by rw [hdl]; rfl) (newM_ok hc _) h0).1
theorem eff_dice {P : Pg} {cl : Cl} {n : Nat} {K : Nat → Int} {d s : Int} {w : World} {p : Option Addr} {c : Nat} (hz : dcode P P.m = 0) (hf : fitsB P cl n = true) (hc : CallAt w cl p n c K d s) (hA64 : ∀ i, i < P.n → In64 (P.a i)) : (rolls P P.n = false → (effP P cl n K d s).dice = d) ∧ ∃ j : Nat, (j : Int) ≤ 8 * (effP P cl n K d s).used ∧ (effP P cl n K d s).dice = U (nxN j (B d)) := by
  have hd0 : d = U (nxN 0 (B d)) := (U_B hc.dice).symm
  have hT := taken_eff (P := P) (cl := cl) (n := n) (K := K) (d := d) (s := s) hz hf
  have hu := hT.used
  unfold effP at hu ⊢
  rw [if_neg (by rw [hz]; simp), if_neg (by rw [hf]; simp)] at hu ⊢
  by_cases hen : P.en cl.kind.toNat = -1
  · rw [if_pos hen]
    exact ⟨fun _ => rfl, 0, by simp, hd0⟩
  · rw [if_neg hen] at hu ⊢
    by_cases h0 : (runOf P cl K d s).1 = 0
    · rw [if_neg (by simpa using h0)] at hu ⊢
      refine ⟨fun hr => ?_, ?_⟩
      · have hno := rolls_no hr
        exact run_keeps hz hf hc hA64 hen (fun M => M.dice = d) rfl (fun M h => h) (fun M h => h) (fun M i hi hok hJ h1 h2 => (doM_dice cl (usM M) _ _ _ (hno i hi)).trans hJ)
      · exact run_keeps2 hz hf hc hA64 hen (fun M => DInv d M) ⟨0, by simp [newM], hd0⟩ (fun M h => by obtain ⟨j, h1, h2⟩ := h; exact ⟨j, by rw [us_used]; omega, h2⟩) (fun M h => h) (fun M i hi hok hJ h1 h2 => dinv_do M _ _ _ hJ)
    · rw [if_pos h0] at hu ⊢
      exact ⟨fun _ => rfl, 0, by have := hu.1; simp at this ⊢; omega, hd0⟩
set_option maxRecDepth 100000 in
set_option maxHeartbeats 4000000 in
theorem VmDice_refused (P : Pg) (v : PgV) (cl : Cl) (p : Option Addr) (n c : Nat) (K : Nat → Int) (d s : Int) (w : World) (h : PAt w P v) (hc : CallAt w cl p n c K d s) (hA64 : ∀ i, i < P.n → In64 (P.a i)) (hT : (fitsB P cl n && (dcode P P.m == 0)) = false) :
    Calls Try.prog 6 #[.agg #[.int .i64 P.words, .int .i64 P.locals, .slice v.cp P.n v.cc, .slice v.ep P.m v.ec], .agg #[.int .u64 cl.time, .int .i64 cl.src, .int .u64 cl.seq, .int .i64 cl.dst, .int .i64 cl.kind, .int .i64 cl.data, .slice p n c, .int .u64 d, .int .u64 s, .int .u64 cl.look, .int .i64 cl.parts, .int .i64 cl.fuel]] w fun e w' => e = .returned (.bool true) ∧ Below w.heap.size w w' := by
  have HTB : Hid ((fitsB P cl n && (dcode P P.m == 0)) = false) := hT
  obtain ⟨wb, hwb⟩ : ∃ wb, (w.alloc (.cells #[.int .i64 P.words, .int .i64 P.locals, .slice v.cp P.n v.cc, .slice v.ep P.m v.ec] 25)).alloc (.cells #[.int .u64 cl.time, .int .i64 cl.src, .int .u64 cl.seq, .int .i64 cl.dst, .int .i64 cl.kind, .int .i64 cl.data, .slice p n c, .int .u64 d, .int .u64 s, .int .u64 cl.look, .int .i64 cl.parts, .int .i64 cl.fuel] 35) = wb := ⟨_, rfl⟩
  have hB := bx2_new w P v cl p n c d s wb hwb
  have HAW := awake_any wb
  have HW : Hid ((w.alloc (.cells #[.int .i64 P.words, .int .i64 P.locals, .slice v.cp P.n v.cc, .slice v.ep P.m v.ec] 25)).alloc (.cells #[.int .u64 cl.time, .int .i64 cl.src, .int .u64 cl.seq, .int .i64 cl.dst, .int .i64 cl.kind, .int .i64 cl.data, .slice p n c, .int .u64 d, .int .u64 s, .int .u64 cl.look, .int .i64 cl.parts, .int .i64 cl.fuel] 35) = wb) := hwb
  have HP : Hid (PAt w P v) := h
  have HC : Hid (CallAt w cl p n c K d s) := hc
  have HA : Hid (∀ i, i < P.n → In64 (P.a i)) := hA64
  clear hwb h hc hA64
  clear hT
  go_enter Try.func6, Try.ntmps6
  go_wp2_with (first | (go_at_call 9; rw [HW.out]; (with_reducible refine HAW.mono ?_); rintro e w1 ⟨rfl, hb1⟩; have hB1 := hB.later hb1; obtain ⟨a0, a1, a2, a3⟩ := cells4 hB1.pb; obtain ⟨⟨b0, b1, b2, b3, b4, b5⟩, b6, b7, b8, b9, b10, b11⟩ := cells12 hB1.cb; have HT := taken_any P v cl p n c d s w1 (HP.out.below hB1.bel); rw [HTB.out] at HT) | (go_at_call 11; (with_reducible refine HT.mono ?_); rintro e w2 ⟨rfl, hb2⟩; have hB2 := hB1.later hb2; obtain ⟨c0, c1, c2, c3⟩ := cells4 hB2.pb; obtain ⟨⟨d0, d1, d2, d3, d4, d5⟩, d6, d7, d8, d9, d10, d11⟩ := cells12 hB2.cb))
  go_ret
  exact ⟨rfl, hB2.bel⟩
theorem IAt.at {W : World} {p : Option Addr} {n : Nat} {op a b : Nat → Int} (h : IAt W p n op a b) {i : Nat} (hi : i < n) : ∃ g o, p = some ⟨g, o, none⟩ ∧ W.cell? ⟨g, o + i * 3, none⟩ = some (.int .i64 (op i)) := by
  rcases h with h | ⟨g, o, e, _, hc⟩
  · omega
  · exact ⟨g, o, e, (hc i hi).1⟩
set_option maxRecDepth 100000 in
set_option maxHeartbeats 4000000 in
theorem dice_taken (P : Pg) (v : PgV) (cl : Cl) (p : Option Addr) (n c : Nat) (K : Nat → Int) (d s : Int) (w : World) (h : PAt w P v) (hc : CallAt w cl p n c K d s) (hA64 : ∀ i, i < P.n → In64 (P.a i)) (hz : dcode P P.m = 0) (hf : fitsB P cl n = true) :
    Calls Try.prog 6 #[.agg #[.int .i64 P.words, .int .i64 P.locals, .slice v.cp P.n v.cc, .slice v.ep P.m v.ec], .agg #[.int .u64 cl.time, .int .i64 cl.src, .int .u64 cl.seq, .int .i64 cl.dst, .int .i64 cl.kind, .int .i64 cl.data, .slice p n c, .int .u64 d, .int .u64 s, .int .u64 cl.look, .int .i64 cl.parts, .int .i64 cl.fuel]] w fun e w' => e = .returned (.bool true) ∧ Below w.heap.size w w' := by
  have hI := eff_dice hz hf hc hA64
  have hT := (taken_eff (P := P) (cl := cl) (n := n) (K := K) (d := d) (s := s) hz hf).used
  have hfu : cl.fuel ≤ 4096 := (fitsB_yes hf).2.2.2.2.2
  have hn4 : P.n ≤ 4096 := (dcode_zero hz).2.1.2.2.1
  obtain ⟨E, hE⟩ : ∃ E, effP P cl n K d s = E := ⟨_, rfl⟩
  rw [hE] at hI hT
  have HE : Hid (effP P cl n K d s = E) := hE
  have HTB : Hid ((fitsB P cl n && (dcode P P.m == 0)) = true) := by show _ = true; rw [hz, hf]; rfl
  obtain ⟨wb, hwb⟩ : ∃ wb, (w.alloc (.cells #[.int .i64 P.words, .int .i64 P.locals, .slice v.cp P.n v.cc, .slice v.ep P.m v.ec] 25)).alloc (.cells #[.int .u64 cl.time, .int .i64 cl.src, .int .u64 cl.seq, .int .i64 cl.dst, .int .i64 cl.kind, .int .i64 cl.data, .slice p n c, .int .u64 d, .int .u64 s, .int .u64 cl.look, .int .i64 cl.parts, .int .i64 cl.fuel] 35) = wb := ⟨_, rfl⟩
  have hB := bx2_new w P v cl p n c d s wb hwb
  have HAW := awake_any wb
  have HW : Hid ((w.alloc (.cells #[.int .i64 P.words, .int .i64 P.locals, .slice v.cp P.n v.cc, .slice v.ep P.m v.ec] 25)).alloc (.cells #[.int .u64 cl.time, .int .i64 cl.src, .int .u64 cl.seq, .int .i64 cl.dst, .int .i64 cl.kind, .int .i64 cl.data, .slice p n c, .int .u64 d, .int .u64 s, .int .u64 cl.look, .int .i64 cl.parts, .int .i64 cl.fuel] 35) = wb) := hwb
  have HP : Hid (PAt w P v) := h
  have HC : Hid (CallAt w cl p n c K d s) := hc
  have HA : Hid (∀ i, i < P.n → In64 (P.a i)) := hA64
  clear hwb h hc hA64
  have HI : Hid ((rolls P P.n = false → E.dice = d) ∧ ∃ j : Nat, (j : Int) ≤ 8 * E.used ∧ E.dice = U (nxN j (B d))) := hI
  have HU : Hid (0 ≤ E.used ∧ E.used ≤ 4096) := ⟨hT.1, by omega⟩
  clear hE hz hf hI hT hfu
  go_enter Try.func6, Try.ntmps6
  go_wp2_with (first | (go_at_call 9; rw [HW.out]; (with_reducible refine HAW.mono ?_); rintro e w1 ⟨rfl, hb1⟩; have hB1 := hB.later hb1; obtain ⟨a0, a1, a2, a3⟩ := cells4 hB1.pb; obtain ⟨⟨b0, b1, b2, b3, b4, b5⟩, b6, b7, b8, b9, b10, b11⟩ := cells12 hB1.cb; have HT := taken_any P v cl p n c d s w1 (HP.out.below hB1.bel); rw [HTB.out] at HT) | (go_at_call 11; (with_reducible refine HT.mono ?_); rintro e w2 ⟨rfl, hb2⟩; have hB2 := hB1.later hb2; obtain ⟨c0, c1, c2, c3⟩ := cells4 hB2.pb; obtain ⟨⟨d0, d1, d2, d3, d4, d5⟩, d6, d7, d8, d9, d10, d11⟩ := cells12 hB2.cb; have HR := vmRun' P v cl p n c K d s w2 (HP.out.below hB2.bel) (HC.out.below hB2.bel) HA.out; rw [HE.out] at HR) | (go_at_call 10; (with_reducible refine HR.mono ?_); rintro e w3 ⟨wp, wc, op, oc, rfl, hEL, hb3⟩; obtain ⟨w4, hw4⟩ : ∃ w4, w3.alloc (.cells #[.int .i64 E.code, .slice wp E.nw wc, .int .u64 E.dice, .int .u64 E.sent, .slice op E.on oc, .int .i64 E.used] 40) = w4 := ⟨_, rfl⟩; obtain ⟨hb4, heb, hsz4⟩ := one_new hw4; have hB3 := hB2.later hb3; have hB4 := hB3.later hb4; have HKX : Hid (KAt w4 wp E.nw E.wd ∧ XAt w4 op E.on E.oF) := ⟨hEL.1.below hb4, hEL.2.below hb4⟩; have HW4 : Hid (w3.alloc (.cells #[.int .i64 E.code, .slice wp E.nw wc, .int .u64 E.dice, .int .u64 E.sent, .slice op E.on oc, .int .i64 E.used] 40) = w4) := hw4; have hlt1 : w.heap.size < w3.heap.size := (by have := hB3.lt; omega); have hlt2 : w.heap.size + 1 < w3.heap.size := hB3.lt; obtain ⟨g0, g1, g2, g3⟩ := cells4 hB3.pb; obtain ⟨⟨k0, k1, k2, k3, k4, k5⟩, k6, k7, k8, k9, k10, k11⟩ := cells12 hB3.cb; clear hw4 hEL))
  rw [HW4.out]
  clear HW4 HR HT HAW HW a0 a1 a2 a3 b0 b1 b2 b3 b4 b5 b6 b7 b8 b9 b10 b11 c0 c1 c2 c3 d0 d1 d2 d3 d4 d5 d6 d7 d8 d9 d10 d11 g0 g1 g2 g3 k0 k1 k2 k3 k4 k5 k6 k7 k8 k9 k10 k11
  go_loopw [6, 7] (fun r x wr => ∃ i : Nat, r = .bool (rolls P i) ∧ x = .int .i64 i ∧ i ≤ P.n ∧ Below w4.heap.size w4 wr) (fun _ x _ => P.n - (intOf x).toNat)
  case atStart => exact ⟨0, rfl, rfl, Nat.zero_le _, Below.refl _ _⟩
  case round =>
    obtain ⟨i, rfl, rfl, hi, hbel⟩ := hrel
    have hBr := hB4.later hbel
    have hbw := hBr.bel
    obtain ⟨c0, c1, c2, c3⟩ := cells4 hBr.pb
    by_cases hlt : i < P.n
    · have dl : decide ((i : Int) < P.n) = true := decide_eq_true (by omega)
      have hm := meas hlt
      obtain ⟨ib, io, hip, x0⟩ := (HP.out.1.below hbw).at hlt
      rw [hip] at c2
      have j0 : (0 : Int) ≤ (i : Int) := by omega
      have j1 : (i : Int) < (P.n : Int) := by omega
      have hrr : Hid (rolls P (i + 1) = (rolls P i || P.op i == 37 || P.op i == 41)) := rfl
      by_cases h0 : rolls P i = true
      · rw [h0] at hrr
        rw [h0]
        go_wp2
        exact ⟨⟨i + 1, by rw [hrr.out]; rfl, rfl, hlt, hbel⟩, hm⟩
      · have h0' : rolls P i = false := by simpa using h0
        rw [h0'] at hrr ⊢
        by_cases h37 : P.op i = 37
        · have q1 : (P.op i == 37) = true := by simpa using h37
          rw [q1] at hrr
          clear h37
          go_wp2
          exact ⟨⟨i + 1, by rw [hrr.out]; rfl, rfl, hlt, hbel⟩, hm⟩
        · have q1 : (P.op i == 37) = false := by simpa using h37
          rw [q1] at hrr
          clear h37
          go_wp2
          exact ⟨⟨i + 1, by rw [hrr.out]; rfl, rfl, hlt, hbel⟩, hm⟩
    · have dl : decide ((i : Int) < P.n) = false := decide_eq_false (by omega)
      obtain rfl : i = P.n := by omega
      obtain ⟨⟨d0, d1, d2, d3, d4, d5⟩, d6, d7, d8, d9, d10, d11⟩ := cells12 hBr.cb
      obtain ⟨⟨r0, r1, r2, r3, r4, r5⟩, _⟩ := cells6' ((hbel.block _ (by omega)).trans heb)
      by_cases hr : rolls P P.n = false
      · have hdd : (E.dice == d) = true := by simpa using HI.out.1 hr
        rw [hr]
        go_wp2
        go_ret
        exact ⟨rfl, hbw⟩
      · have hr' : rolls P P.n = true := by simpa using hr
        rw [hr']
        obtain ⟨J, hJ1, hJ2⟩ := HI.out.2
        have HJ : Hid (E.dice = U (nxN J (B d))) := hJ2
        have hdu : d = U (nxN 0 (B d)) := (U_B HC.out.dice).symm
        have HDU : Hid (d = U (nxN 0 (B d))) := hdu
        have hu1 := HU.out.1
        have hu2 := HU.out.2
        clear hJ2 hr hr' hdu dl
        go_wp2
        clear d0 d1 d2 d3 d4 d5 d6 d7 d8 d9 d10 d11 r0 r1 r2 r3 r4 r5 c0 c1 c2 c3
        go_loopw [8, 9] (fun x y wz => ∃ i : Nat, x = .int .u64 (U (nxN i (B d))) ∧ y = .int .i64 i ∧ i ≤ J ∧ Below w4.heap.size w4 wz) (fun _ y _ => J + 1 - (intOf y).toNat)
        case atStart => exact ⟨0, congrArg _ HDU.out, rfl, Nat.zero_le _, hbel⟩
        case round =>
          obtain ⟨i, rfl, rfl, hiJ, hbel2⟩ := hrel
          have hBz := hB4.later hbel2
          have hbwz := hBz.bel
          obtain ⟨⟨r0, r1, r2, r3, r4, r5⟩, _⟩ := cells6' ((hbel2.block _ (by omega)).trans heb)
          have hw8 : IntKind.i64.wrap (8 * E.used) = 8 * E.used := by rw [IntKind.wrap_i64]; omega
          have dl : decide ((i : Int) ≤ 8 * E.used) = true := decide_eq_true (by omega)
          by_cases hq : U (nxN i (B d)) = E.dice
          · have qq : (U (nxN i (B d)) == E.dice) = true := by simpa using hq
            clear hq HJ HDU
            generalize U (nxN i (B d)) = ud at *
            go_wp2
            go_ret
            exact ⟨rfl, hbwz⟩
          · have qq : (U (nxN i (B d)) == E.dice) = false := by simpa using hq
            have hne : i ≠ J := fun e => hq (by rw [e]; exact HJ.out.symm)
            have hlt2 : i < J := by omega
            have hm : J + 1 - (intOf (.int .i64 ((i : Int) + 1))).toNat < J + 1 - (intOf (.int .i64 (i : Int))).toNat := meas (by omega)
            have HN := next_any (U (nxN i (B d)))
            rw [B_U] at HN
            have HNX : Hid (∀ W, Calls Try.prog 17 #[.int .u64 (U (nxN i (B d)))] W fun e w' => e = .returned (.tuple #[.int .u64 (U (nxN (i + 1) (B d))), .int .u64 (U (mx (nx (nxN i (B d)))))]) ∧ w' = W) := HN
            have i4 : (i : Int) ≤ 32768 := by omega
            clear hq HJ HDU HN
            generalize U (nxN i (B d)) = ud at *
            generalize U (mx (nx (nxN i (B d)))) = um at *
            obtain ⟨un, hun⟩ : ∃ un, U (nxN (i + 1) (B d)) = un := ⟨_, rfl⟩
            rw [hun] at HNX
            have HUN : Hid (U (nxN (i + 1) (B d)) = un) := hun
            clear hun
            go_wp2_with ((go_at_call 17; (with_reducible refine (HNX.out _).mono ?_); rintro e w6 ⟨rfl, rfl⟩))
            exact ⟨⟨i + 1, congrArg _ HUN.out.symm, rfl, hlt2, hbel2⟩, hm⟩
theorem dice_law (P : Pg) (v : PgV) (cl : Cl) (p : Option Addr) (n c : Nat) (K : Nat → Int) (d s : Int) (w : World) (h : PAt w P v) (hc : CallAt w cl p n c K d s) (hA64 : ∀ i, i < P.n → In64 (P.a i)) :
    Calls Try.prog 6 #[.agg #[.int .i64 P.words, .int .i64 P.locals, .slice v.cp P.n v.cc, .slice v.ep P.m v.ec], .agg #[.int .u64 cl.time, .int .i64 cl.src, .int .u64 cl.seq, .int .i64 cl.dst, .int .i64 cl.kind, .int .i64 cl.data, .slice p n c, .int .u64 d, .int .u64 s, .int .u64 cl.look, .int .i64 cl.parts, .int .i64 cl.fuel]] w fun e w' => e = .returned (.bool true) ∧ Below w.heap.size w w' := by
  by_cases hT : (fitsB P cl n && (dcode P P.m == 0)) = false
  · exact VmDice_refused P v cl p n c K d s w h hc hA64 hT
  · have hx : fitsB P cl n = true ∧ dcode P P.m = 0 := by simpa using hT
    exact dice_taken P v cl p n c K d s w h hc hA64 hx.2 hx.1
end Go.Proofs.Ytieanhmkcbcdkaa
