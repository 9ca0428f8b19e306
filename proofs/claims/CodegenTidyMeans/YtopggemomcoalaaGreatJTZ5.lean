import Derived.Test.YtopggemomcoalaaGreatJTZ4
import Derived.Test.YtopggemomcoalaaGreatJTW21
import Derived.Test.YtopggemomcoalaaGreatJM22
namespace Go.Proofs.YtopggemomcoalaaGreat
open Go.ChangeShapes Go.WideShapes Go.ChangeAt Go.RowKit
set_option linter.unusedVariables false
set_option linter.unusedSimpArgs false

/-! ### what a run leaves is events -/
theorem run_keepsT {P : Pg} {cl : Cl} {n : Nat} {K : Nat → Int} {d s : Int} {w : World} {p : Option Addr} {c : Nat} (hz : dcode P P.m = 0) (hf : fitsB P cl n = true) (hc : CallAt w cl p n c K d s) (hA64 : ∀ i, i < P.n → In64 (P.a i)) (hen : P.en cl.kind.toNat ≠ -1) (J : Mc → Prop) (h0 : J (newM K d s (.slice none 0 0))) (hus : ∀ M, J M → J (usM M)) (hpop : ∀ M, J M → J (popM M))
    (hdo : ∀ M i, i < P.n → OkM M → J (usM M) → insErr P (P.op i) (P.a i) (P.b i) = 0 → doF cl (usM M) (P.op i) (P.a i) (P.b i) = 0 → J (doM cl (usM M) (P.op i) (P.a i) (P.b i))) : J (runOf P cl K d s).2 := by
  obtain ⟨_, hsP, hins, g, hnr, hbd⟩ := dcode_zero hz
  obtain ⟨⟨k1, k2⟩, ⟨k3, k4⟩, ⟨k5, k6⟩, k7, k8, k9⟩ := fitsB_yes hf
  have hkk : cl.kind.toNat < P.m := by omega
  have en0 := g.en cl.kind.toNat hkk
  have hdl := (sol_dL g hnr hbd).en _ hkk (by omega)
  exact (runP_ind g hsP hnr hbd hins hc.ok hA64 J hus hpop hdo cl.fuel.toNat (P.en cl.kind.toNat).toNat (newM K d s (.slice none 0 0)) (by omega) (by rw [hdl]; rfl) (newM_ok hc _) h0).1
theorem u64of_idT {x : Int} (h : u64ok x) : u64of x = x := by
  unfold u64of u64ok at *
  simp only [IntKind.wrap, IntKind.bits, IntKind.signed]
  simp
  omega
theorem eff_sh {P : Pg} {cl : Cl} {n : Nat} {K : Nat → Int} {d s : Int} {w : World} {p : Option Addr} {c : Nat} (hz : dcode P P.m = 0) (hc : CallAt w cl p n c K d s) (hA64 : ∀ i, i < P.n → In64 (P.a i)) : EvSh (effP P cl n K d s).on (effP P cl n K d s).oF ∧ (effP P cl n K d s).nw ≤ 17592186044416 ∧ (effP P cl n K d s).on ≤ 1000000 := by
  have hs0 : s = u64of (s + ((0 : Nat) : Int)) := by rw [show s + ((0 : Nat) : Int) = s by omega, u64of_idT hc.sent]
  have hr := hc.room
  unfold effP
  have c1 : ¬ dcode P P.m ≠ 0 := fun h => h hz
  rw [if_neg c1]
  by_cases hf : fitsB P cl n = false
  · rw [if_pos hf]; exact ⟨EvSh.zero _, Nat.zero_le _, Nat.zero_le _⟩
  rw [if_neg hf]
  by_cases hen : P.en cl.kind.toNat = -1
  · rw [if_pos hen]; exact ⟨EvSh.zero _, hr, Nat.zero_le _⟩
  rw [if_neg hen]
  by_cases h0 : (runOf P cl K d s).1 ≠ 0
  · rw [if_pos h0]; exact ⟨EvSh.zero _, hr, Nat.zero_le _⟩
  rw [if_neg h0]
  have hS := run_keepsT hz (by simpa using hf : fitsB P cl n = true) hc hA64 hen (SInv P cl s) ⟨Nat.zero_le _, hs0, fun i hi => absurd hi (Nat.not_lt_zero _)⟩ (fun M h => ⟨h.on, h.sent, h.ev⟩) (fun M h => ⟨h.on, h.sent, h.ev⟩) (fun M i hi hok hJ h1 h2 => sinv_do (usM M) _ _ _ hJ h1 h2)
  exact ⟨fun i hi => by
    obtain ⟨D, T, k, X, e0, e1, e2, e3, e4, e5, _⟩ := hS.ev i hi
    exact ⟨_, _, _, _, _, _, e0, e1, e2, e3, e4, e5⟩, hr, Nat.le_trans hS.on (by decide)⟩
theorem kat_cells64 {W : World} {g n : Nat} {K : Nat → Int} (h : W.heap[g]? = some (.cells (intsL K n).toArray 2 (0, 0))) : KAt W (some ⟨g, 0, none⟩) n K := by
  refine .inr ⟨g, 0, rfl, (Array.getElem?_eq_some_iff.1 h).1, fun j hj => ?_⟩
  have := intsL_get (K := K) hj
  rw [Nat.zero_add]
  unfold World.cell?
  rw [h]
  simpa using this
/-! ### the two runs, by contract -/
theorem verify_q {P Q : Pg} {L : Nat → Int} (e : DQ P Q L) (w : World) {lp lq : Option Addr} {lc lx : Nat} (hI : IAt w lp Q.n Q.op Q.a Q.b) (hE : KAt w lq P.m Q.en) :
    Calls Tryz.prog 17 #[.agg #[.int .i64 P.words, .int .i64 P.locals, .slice lp Q.n lc, .slice lq P.m lx], .int .i64 (P.m : Int)] w fun e w' => e = .returned (.int .i64 0) ∧ Below w.heap.size w w' := by
  have hE3 : KAt w lq Q.m Q.en := by rw [e.m]; exact hE
  have h := verify_any Q ⟨lp, lc, lq, lx⟩ Q.m w hI hE3
  dsimp only at h
  rw [e.v.code, show Q.m = P.m from e.m, show Q.words = P.words from e.w, show Q.locals = P.locals from e.l] at h
  exact h
/-- an effect that came out: its slices and what they hold -/
def EfX (w : World) (base : Nat) (r : Value) (code : Int) (nw : Nat) (wd : Nat → Int) (dice sent : Int) (on : Nat) (oF : Nat → Value) (us : Int) : Prop := ∃ (wp : Option Addr) (wc : Nat) (op : Option Addr) (oc : Nat), r = .agg #[.int .i64 code, .slice wp nw wc, .int .u64 dice, .int .u64 sent, .slice op on oc, .int .i64 us] ∧ Own w base 2 1 (.slice wp nw wc) nw (iv wd) ∧ Own w base 49 6 (.slice op on oc) on oF
theorem run_q {P Q : Pg} {L : Nat → Int} (e : DQ P Q L) (ht : Tid P Q) (v : Vf P (dL P)) (ha : A64 P) (cl : Cl) (p : Option Addr) (n c : Nat) (K : Nat → Int) (d s : Int) (w : World) {lp lq : Option Addr} {lc lx : Nat} (hI : IAt w lp Q.n Q.op Q.a Q.b) (hE : KAt w lq P.m Q.en) (hc : CallAt w cl p n c K d s) (hF : (effP P cl n K d s).code ≠ 200) :
    Calls Tryz.prog 16 #[.agg #[.int .i64 P.words, .int .i64 P.locals, .slice lp Q.n lc, .slice lq P.m lx], .agg #[.int .u64 cl.time, .int .i64 cl.src, .int .u64 cl.seq, .int .i64 cl.dst, .int .i64 cl.kind, .int .i64 cl.data, .slice p n c, .int .u64 d, .int .u64 s, .int .u64 cl.look, .int .i64 cl.parts, .int .i64 cl.fuel]] w fun e w' => ∃ r us, e = .returned r ∧ EfX w' w.heap.size r (effP P cl n K d s).code (effP P cl n K d s).nw (effP P cl n K d s).wd (effP P cl n K d s).dice (effP P cl n K d s).sent (effP P cl n K d s).on (effP P cl n K d s).oF us ∧ us ≤ (effP P cl n K d s).used ∧ Below w.heap.size w w' := by
  have hE3 : KAt w lq Q.m Q.en := by rw [e.m]; exact hE
  have h := vmRun Q ⟨lp, lc, lq, lx⟩ cl p n c K d s w ⟨hI, hE3⟩ hc e.a
  dsimp only at h
  rw [show Q.m = P.m from e.m, show Q.words = P.words from e.w, show Q.locals = P.locals from e.l] at h
  refine h.mono fun e' w' => ?_
  rintro ⟨r, rfl, hA, hb⟩
  obtain ⟨a1, a2, a3, a4, a5, a6, a7, a8⟩ := tid_eff v ha ht cl n K d s hF
  obtain ⟨wp, wc, op, oc, h1, h2, h3⟩ := hA
  rw [a1, a2, a4, a5, a6] at h1
  rw [a2, a3] at h2
  rw [a6, a7] at h3
  exact ⟨_, _, rfl, ⟨wp, wc, op, oc, h1, h2, h3⟩, a8, hb⟩
theorem run_p {P : Pg} (v : PgV) (cl : Cl) (p : Option Addr) (n c : Nat) (K : Nat → Int) (d s : Int) (w : World) (h : PAt w P v) (hc : CallAt w cl p n c K d s) (ha : A64 P) :
    Calls Tryz.prog 16 #[.agg #[.int .i64 P.words, .int .i64 P.locals, .slice v.cp P.n v.cc, .slice v.ep P.m v.ec], .agg #[.int .u64 cl.time, .int .i64 cl.src, .int .u64 cl.seq, .int .i64 cl.dst, .int .i64 cl.kind, .int .i64 cl.data, .slice p n c, .int .u64 d, .int .u64 s, .int .u64 cl.look, .int .i64 cl.parts, .int .i64 cl.fuel]] w fun e w' => ∃ r, e = .returned r ∧ EfX w' w.heap.size r (effP P cl n K d s).code (effP P cl n K d s).nw (effP P cl n K d s).wd (effP P cl n K d s).dice (effP P cl n K d s).sent (effP P cl n K d s).on (effP P cl n K d s).oF (effP P cl n K d s).used ∧ Below w.heap.size w w' := (vmRun P v cl p n c K d s w h hc ha).mono fun e w' => by
  rintro ⟨r, rfl, ⟨wp, wc, op, oc, h1, h2, h3⟩, hb⟩
  exact ⟨r, rfl, ⟨wp, wc, op, oc, h1, h2, h3⟩, hb⟩
theorem cells6T {W : World} {b : Nat} {c0 c1 c2 c3 c4 c5 : Value} {t : TypeId} (h : W.heap[b]? = some (.cells #[c0, c1, c2, c3, c4, c5] t (0, 0))) : W.cell? ⟨b, 0, none⟩ = some c0 ∧ W.cell? ⟨b, 1, none⟩ = some c1 ∧ W.cell? ⟨b, 2, none⟩ = some c2 ∧ W.cell? ⟨b, 3, none⟩ = some c3 ∧ W.cell? ⟨b, 4, none⟩ = some c4 ∧ W.cell? ⟨b, 5, none⟩ = some c5 := ⟨cellT h rfl, cellT h rfl, cellT h rfl, cellT h rfl, cellT h rfl, cellT h rfl⟩
theorem cells12T {W : World} {b : Nat} {c0 c1 c2 c3 c4 c5 c6 c7 c8 c9 ca cb : Value} {t : TypeId} (h : W.heap[b]? = some (.cells #[c0, c1, c2, c3, c4, c5, c6, c7, c8, c9, ca, cb] t (0, 0))) : (W.cell? ⟨b, 0, none⟩ = some c0 ∧ W.cell? ⟨b, 1, none⟩ = some c1 ∧ W.cell? ⟨b, 2, none⟩ = some c2 ∧ W.cell? ⟨b, 3, none⟩ = some c3 ∧ W.cell? ⟨b, 4, none⟩ = some c4 ∧ W.cell? ⟨b, 5, none⟩ = some c5) ∧ W.cell? ⟨b, 6, none⟩ = some c6 ∧ W.cell? ⟨b, 7, none⟩ = some c7 ∧ W.cell? ⟨b, 8, none⟩ = some c8 ∧ W.cell? ⟨b, 9, none⟩ = some c9 ∧ W.cell? ⟨b, 10, none⟩ = some ca ∧ W.cell? ⟨b, 11, none⟩ = some cb :=
  ⟨⟨cellT h rfl, cellT h rfl, cellT h rfl, cellT h rfl, cellT h rfl, cellT h rfl⟩, cellT h rfl, cellT h rfl, cellT h rfl, cellT h rfl, cellT h rfl, cellT h rfl⟩
theorem set12 {W : World} {b : Nat} {c0 c1 c2 c3 c4 c5 c6 c7 c8 c9 ca cb : Value} {t : TypeId} (h : W.heap[b]? = some (.cells #[c0, c1, c2, c3, c4, c5, c6, c7, c8, c9, ca, cb] t (0, 0))) (x : Value) : (W.setCell ⟨b, 6, none⟩ x).heap[b]? = some (.cells #[c0, c1, c2, c3, c4, c5, x, c7, c8, c9, ca, cb] t (0, 0)) := by
  obtain ⟨hlt, hk⟩ := Array.getElem?_eq_some_iff.1 h
  show (W.heap.modify b _)[b]? = _
  rw [Array.getElem?_eq_getElem (by rw [Array.size_modify]; exact hlt), Array.getElem_modify_self, hk]
  rfl
set_option maxRecDepth 100000 in
set_option maxHeartbeats 16000000 in
theorem means_bad (P : Pg) (v : PgV) (cl : Cl) (p : Option Addr) (n c : Nat) (K : Nat → Int) (d s : Int) (kinds : Int) (W : World) (h : PAt W P v) (hcl : CallAt W cl p n c K d s) (ha : A64 P) (hs : roomyP P) (hc : dcode P kinds ≠ 0) :
    Calls Tryz.prog 5 #[.agg #[.int .i64 P.words, .int .i64 P.locals, .slice v.cp P.n v.cc, .slice v.ep P.m v.ec], .int .i64 kinds, .agg #[.int .u64 cl.time, .int .i64 cl.src, .int .u64 cl.seq, .int .i64 cl.dst, .int .i64 cl.kind, .int .i64 cl.data, .slice p n c, .int .u64 d, .int .u64 s, .int .u64 cl.look, .int .i64 cl.parts, .int .i64 cl.fuel]] W fun e W' => e = .returned (.bool true) ∧ Below W.heap.size W W' := by
  obtain ⟨wp, hwp⟩ : ∃ wp, W.alloc (.cells #[.int .i64 P.words, .int .i64 P.locals, .slice v.cp P.n v.cc, .slice v.ep P.m v.ec] 25) = wp := ⟨_, rfl⟩
  obtain ⟨hb0, hbox, hszp⟩ := boxed _ _ _ hwp
  obtain ⟨wa, hwa⟩ : ∃ wa, wp.alloc (.cells #[.int .u64 cl.time, .int .i64 cl.src, .int .u64 cl.seq, .int .i64 cl.dst, .int .i64 cl.kind, .int .i64 cl.data, .slice p n c, .int .u64 d, .int .u64 s, .int .u64 cl.look, .int .i64 cl.parts, .int .i64 cl.fuel] 54) = wa := ⟨_, rfl⟩
  obtain ⟨hba, hcx, hsza⟩ := boxed _ _ _ hwa
  rw [hszp] at hcx
  have hWa : Below W.heap.size W wa := hb0.trans (hba.mono hb0.size)
  have hpx := (hba.block W.heap.size (by omega)).trans hbox
  have HB := tmh (And.intro hwp hwa)
  have hpa := h.below hWa
  have hca := hcl.below hWa
  have HCW := copyWords_any p n c K wa hcl.room hca.words
  have HC : Hid (∀ w, Below wa.heap.size wa w → Calls Tryz.prog 7 #[.agg #[.int .i64 P.words, .int .i64 P.locals, .slice v.cp P.n v.cc, .slice v.ep P.m v.ec]] w fun e w' => ∃ v' : PgV, e = .returned (.agg #[.int .i64 P.words, .int .i64 P.locals, .slice v'.cp P.n v'.cc, .slice v'.ep P.m v'.ec]) ∧ PAt w' P v' ∧ Below w.heap.size w w') := tmh fun w hw => copyProgram_any P v w (hpa.below hw) hs
  have HT : Hid (∀ (v' : PgV) (w : World), PAt w P v' → Calls Tryz.prog 6 #[.agg #[.int .i64 P.words, .int .i64 P.locals, .slice v'.cp P.n v'.cc, .slice v'.ep P.m v'.ec], .int .i64 kinds] w fun e W' => e = .returned (.tuple #[.agg #[.int .i64 0, .int .i64 0, .slice none 0 0, .slice none 0 0], .int .i64 (dcode P kinds)]) ∧ Below w.heap.size w W') := tmh fun v' w hv => tidy_bad w kinds hv.1 hv.2 hc
  have HV : Hid (∀ w, Below wa.heap.size wa w → Calls Tryz.prog 8 #[.agg #[.int .i64 P.words, .int .i64 P.locals, .slice v.cp P.n v.cc, .slice v.ep P.m v.ec], .int .i64 kinds] w fun e w' => e = .returned (.int .i64 (dcode P kinds)) ∧ Below w.heap.size w w') := tmh fun w hw => rverify_any P v kinds w (hpa.below hw)
  have hq1 : (dcode P kinds != dcode P kinds) = false := by simp
  have hq2 : (dcode P kinds != 0) = true := by simpa using hc
  generalize dcode P kinds = dc at hc HT HV hq1 hq2
  have hlt : W.heap.size < wa.heap.size := by omega
  have H0 := tmh (And.intro hpx (And.intro hWa hlt))
  obtain ⟨⟨k0, k1, k2, k3, k4, k5⟩, k6, k7, k8, k9, k10, k11⟩ := cells12T hcx
  clear hwp hwa h hcl hpa hca hbox hb0 hba hWa hpx hlt hc hszp hsza
  go_enter Tryz.func5, Tryz.ntmps5
  go_upto_region 1 with fail
  rw [HB.out.1, HB.out.2]
  go_upto_region 2 with (go_at_call 15; (with_reducible refine HCW.mono ?_); rintro e w1 ⟨rfl, c1, b1, l1⟩)
  obtain ⟨y0, y1, y2, y3⟩ := cells4 ((b1.block _ H0.out.2.2).trans H0.out.1)
  have HZ1 := tmh b1
  clear b1 c1 l1 k0 k1 k2 k3 k4 k5 k6 k7 k8 k9 k10 k11
  go_upto_region 3 with (first | (go_at_call 7; (with_reducible refine (HC.out _ HZ1.out).mono ?_); rintro e w2 ⟨v', rfl, hp1, z1⟩; have HZ2 := tmh (And.intro z1 hp1); clear z1 hp1) | (go_at_call 6; (with_reducible refine (HT.out v' _ HZ2.out.2).mono ?_); rintro e w3 ⟨rfl, z2⟩; have HZ3 := tmh z2; clear z2))
  clear y0 y1 y2 y3
  obtain ⟨wg, hwg⟩ : ∃ wg, w3.alloc (.cells #[.int .i64 0, .int .i64 0, .slice none 0 0, .slice none 0 0] 25) = wg := ⟨_, rfl⟩
  obtain ⟨hbg, hgbx, hgsz⟩ := boxed _ _ _ hwg
  have hb3 : Below wa.heap.size wa w3 := HZ1.out.trans ((HZ2.out.1.trans (HZ3.out.mono HZ2.out.1.size)).mono HZ1.out.size)
  have hbb : Below wa.heap.size wa wg := hb3.trans (hbg.mono hb3.size)
  rw [hwg]
  obtain ⟨y0, y1, y2, y3⟩ := cells4 ((hbb.block _ H0.out.2.2).trans H0.out.1)
  have HG := tmh hbb
  clear hwg hbg hgbx hgsz hbb hb3
  go_wp2_with (go_at_call 8; (with_reducible refine (HV.out _ HG.out).mono ?_); rintro e w4 ⟨rfl, z3⟩)
  go_ret
  exact ⟨rfl, H0.out.2.1.trans ((HG.out.trans (z3.mono HG.out.size)).mono H0.out.2.1.size)⟩
set_option maxRecDepth 100000 in
set_option maxHeartbeats 16000000 in
theorem means_fuel (P : Pg) (v : PgV) (cl : Cl) (p : Option Addr) (n c : Nat) (K : Nat → Int) (d s : Int) (W : World) (h : PAt W P v) (hcl : CallAt W cl p n c K d s) (ha : A64 P) (hs : roomyP P) (hc : dcode P P.m = 0) (hf : (effP P cl n K d s).code = 200) :
    Calls Tryz.prog 5 #[.agg #[.int .i64 P.words, .int .i64 P.locals, .slice v.cp P.n v.cc, .slice v.ep P.m v.ec], .int .i64 (P.m : Int), .agg #[.int .u64 cl.time, .int .i64 cl.src, .int .u64 cl.seq, .int .i64 cl.dst, .int .i64 cl.kind, .int .i64 cl.data, .slice p n c, .int .u64 d, .int .u64 s, .int .u64 cl.look, .int .i64 cl.parts, .int .i64 cl.fuel]] W fun e W' => e = .returned (.bool true) ∧ Below W.heap.size W W' := by
  obtain ⟨wp, hwp⟩ : ∃ wp, W.alloc (.cells #[.int .i64 P.words, .int .i64 P.locals, .slice v.cp P.n v.cc, .slice v.ep P.m v.ec] 25) = wp := ⟨_, rfl⟩
  obtain ⟨hb0, hbox, hszp⟩ := boxed _ _ _ hwp
  obtain ⟨wa, hwa⟩ : ∃ wa, wp.alloc (.cells #[.int .u64 cl.time, .int .i64 cl.src, .int .u64 cl.seq, .int .i64 cl.dst, .int .i64 cl.kind, .int .i64 cl.data, .slice p n c, .int .u64 d, .int .u64 s, .int .u64 cl.look, .int .i64 cl.parts, .int .i64 cl.fuel] 54) = wa := ⟨_, rfl⟩
  obtain ⟨hba, hcx, hsza⟩ := boxed _ _ _ hwa
  rw [hszp] at hcx
  have hWa : Below W.heap.size W wa := hb0.trans (hba.mono hb0.size)
  have hpx := (hba.block W.heap.size (by omega)).trans hbox
  have HB := tmh (And.intro hwp hwa)
  have hpa := h.below hWa
  have hca := hcl.below hWa
  have HCW := copyWords_any p n c K wa hcl.room hca.words
  have HC : Hid (∀ w, Below wa.heap.size wa w → Calls Tryz.prog 7 #[.agg #[.int .i64 P.words, .int .i64 P.locals, .slice v.cp P.n v.cc, .slice v.ep P.m v.ec]] w fun e w' => ∃ v' : PgV, e = .returned (.agg #[.int .i64 P.words, .int .i64 P.locals, .slice v'.cp P.n v'.cc, .slice v'.ep P.m v'.ec]) ∧ PAt w' P v' ∧ Below w.heap.size w w') := tmh fun w hw => copyProgram_any P v w (hpa.below hw) hs
  have HFU := tmh hf
  clear hf
  obtain ⟨_, hv⟩ := vf_of hc
  have HT : Hid (∀ (v' : PgV) (w : World), PAt w P v' → Calls Tryz.prog 6 #[.agg #[.int .i64 P.words, .int .i64 P.locals, .slice v'.cp P.n v'.cc, .slice v'.ep P.m v'.ec], .int .i64 (P.m : Int)] w fun e W' => ∃ Q L lp lc lq lx, e = .returned (.tuple #[.agg #[.int .i64 P.words, .int .i64 P.locals, .slice lp Q.n lc, .slice lq P.m lx], .int .i64 0]) ∧ (DQ P Q L ∧ Tid P Q) ∧ Own W' w.heap.size 36 3 (.slice lp Q.n lc) Q.n (inC Q.op Q.a Q.b) ∧ Own W' w.heap.size 3 1 (.slice lq P.m lx) P.m (iv Q.en) ∧ Below w.heap.size w W') := tmh fun v' w hv => tidy_1 w hv.1 hv.2 ha hc
  have HV : Hid (∀ w, Below wa.heap.size wa w → Calls Tryz.prog 8 #[.agg #[.int .i64 P.words, .int .i64 P.locals, .slice v.cp P.n v.cc, .slice v.ep P.m v.ec], .int .i64 (P.m : Int)] w fun e w' => e = .returned (.int .i64 0) ∧ Below w.heap.size w w') := tmh fun w hw => by
    have h := rverify_any P v (P.m : Int) w (hpa.below hw)
    rw [hc] at h
    exact h
  have HRP : Hid (∀ w, Below wa.heap.size wa w → Calls Tryz.prog 16 #[.agg #[.int .i64 P.words, .int .i64 P.locals, .slice v.cp P.n v.cc, .slice v.ep P.m v.ec], .agg #[.int .u64 cl.time, .int .i64 cl.src, .int .u64 cl.seq, .int .i64 cl.dst, .int .i64 cl.kind, .int .i64 cl.data, .slice p n c, .int .u64 d, .int .u64 s, .int .u64 cl.look, .int .i64 cl.parts, .int .i64 cl.fuel]] w fun e w' => ∃ r, e = .returned r ∧ EfX w' w.heap.size r (effP P cl n K d s).code (effP P cl n K d s).nw (effP P cl n K d s).wd (effP P cl n K d s).dice (effP P cl n K d s).sent (effP P cl n K d s).on (effP P cl n K d s).oF (effP P cl n K d s).used ∧ Below w.heap.size w w') := tmh fun w hw => run_p v cl p n c K d s w (hpa.below hw) (hca.below hw) ha
  have hlt : W.heap.size < wa.heap.size := by omega
  have hlt2 : W.heap.size + 1 < wa.heap.size := by omega
  have H0 := tmh (And.intro hpx (And.intro hWa (And.intro hlt (And.intro hcx hlt2))))
  have HV0 := tmh (And.intro hv (And.intro ha (And.intro hca (eff_sh hc hca ha))))
  obtain ⟨⟨k0, k1, k2, k3, k4, k5⟩, k6, k7, k8, k9, k10, k11⟩ := cells12T hcx
  clear hwp hwa h hcl hpa hca hbox hb0 hba hWa hpx hcx hlt hlt2 hc hszp hsza hv ha
  go_enter Tryz.func5, Tryz.ntmps5
  go_upto_region 1 with fail
  rw [HB.out.1, HB.out.2]
  go_upto_region 2 with (go_at_call 15; (with_reducible refine HCW.mono ?_); rintro e w1 ⟨rfl, c1, b1, l1⟩)
  obtain ⟨y0, y1, y2, y3⟩ := cells4 ((b1.block _ H0.out.2.2.1).trans H0.out.1)
  have HZ1 := tmh (And.intro b1 (And.intro c1 l1))
  clear b1 c1 l1 k0 k1 k2 k3 k4 k5 k6 k7 k8 k9 k10 k11
  go_upto_region 3 with (first | (go_at_call 7; (with_reducible refine (HC.out _ HZ1.out.1).mono ?_); rintro e w2 ⟨v', rfl, hp1, z1⟩; have HZ2 := tmh (And.intro z1 hp1); clear z1 hp1) | (go_at_call 6; (with_reducible refine (HT.out v' _ HZ2.out.2).mono ?_); rintro e w3 ⟨Q, L, lp, lc, lq, lx, rfl, hd, q1, q2, z2⟩; have HZ3 := tmh (And.intro z2 (And.intro hd (And.intro q1 q2))); clear z2 hd q1 q2))
  clear y0 y1 y2 y3
  obtain ⟨wg, hwg⟩ : ∃ wg, w3.alloc (.cells #[.int .i64 P.words, .int .i64 P.locals, .slice lp Q.n lc, .slice lq P.m lx] 25) = wg := ⟨_, rfl⟩
  obtain ⟨hbg, hgbx, hgsz⟩ := boxed _ _ _ hwg
  have hb3 : Below wa.heap.size wa w3 := HZ1.out.1.trans ((HZ2.out.1.trans (HZ3.out.1.mono HZ2.out.1.size)).mono HZ1.out.1.size)
  have hbb : Below wa.heap.size wa wg := hb3.trans (hbg.mono hb3.size)
  have hb1g : Below w1.heap.size w1 wg := (HZ2.out.1.trans (HZ3.out.1.mono HZ2.out.1.size)).trans (hbg.mono (Nat.le_trans HZ2.out.1.size HZ3.out.1.size))
  rw [hwg]
  obtain ⟨y0, y1, y2, y3⟩ := cells4 ((hbb.block _ H0.out.2.2.1).trans H0.out.1)
  have HG := tmh (And.intro hbb (And.intro hgbx (And.intro (HZ3.out.2.2.1.later hbg) (And.intro (HZ3.out.2.2.2.later hbg) (And.intro ((hb1g.block _ HZ1.out.2.2).trans HZ1.out.2.1) (And.intro (show w3.heap.size < wg.heap.size by omega) (show wa.heap.size ≤ w2.heap.size ∧ wa.heap.size ≤ w3.heap.size from ⟨Nat.le_trans HZ1.out.1.size HZ2.out.1.size, hb3.size⟩)))))))
  clear hwg hbg hgbx hgsz hbb hb3 hb1g
  go_upto_region 7 with (go_at_call 8; (with_reducible refine (HV.out _ HG.out.1).mono ?_); rintro e w4 ⟨rfl, z4⟩; have HZ4 := tmh z4; clear z4)
  clear y0 y1 y2 y3
  have hb4 : Below wa.heap.size wa w4 := HG.out.1.trans (HZ4.out.mono HG.out.1.size)
  obtain ⟨y0, y1, y2, y3⟩ := cells4 ((hb4.block _ H0.out.2.2.1).trans H0.out.1)
  obtain ⟨⟨k0, k1, k2, k3, k4, k5⟩, k6, k7, k8, k9, k10, k11⟩ := cells12T ((hb4.block _ H0.out.2.2.2.2).trans H0.out.2.2.2.1)
  have H4 := tmh hb4
  clear hb4
  generalize hE : effP P cl n K d s = E at HRP HV0 HFU
  have HE := tmh hE
  clear hE
  obtain ⟨code, nw, wd, dice, sent, on, oF, used⟩ := E
  dsimp only at HRP HV0 HFU
  go_upto_region 8 with (go_at_call 16; (with_reducible refine (HRP.out _ H4.out).mono ?_); rintro e w5 ⟨r, rfl, ⟨wp1, wc1, op1, oc1, rfl, e1, e2⟩, z5⟩; have HZ5 := tmh (And.intro z5 (And.intro e1 e2)); clear z5 e1 e2)
  clear y0 y1 y2 y3 k0 k1 k2 k3 k4 k5 k6 k7 k8 k9 k10 k11
  obtain ⟨wh, hwh⟩ : ∃ wh, w5.alloc (.cells #[.int .i64 code, .slice wp1 nw wc1, .int .u64 dice, .int .u64 sent, .slice op1 on oc1, .int .i64 used] 58) = wh := ⟨_, rfl⟩
  obtain ⟨hbh, hhx, hhz⟩ := boxed _ _ _ hwh
  rw [hwh]
  have hb5 : Below wa.heap.size wa w5 := H4.out.trans (HZ5.out.1.mono H4.out.size)
  have hbw : Below wa.heap.size wa wh := hb5.trans (hbh.mono hb5.size)
  have hbgh : Below wg.heap.size wg wh := (HZ4.out.trans (HZ5.out.1.mono HZ4.out.size)).trans (hbh.mono (Nat.le_trans HZ4.out.size HZ5.out.1.size))
  have hch := (hbw.block _ H0.out.2.2.2.2).trans H0.out.2.2.2.1
  obtain ⟨⟨k0, k1, k2, k3, k4, k5⟩, k6, k7, k8, k9, k10, k11⟩ := cells12T hch
  have kf := fun k9 => frz hch k9
  have HH := tmh (And.intro hbw (And.intro hbgh (And.intro hch (And.intro hhx (And.intro (HZ5.out.2.1.later hbh) (And.intro (HZ5.out.2.2.later hbh) (And.intro (show w5.heap.size < wh.heap.size by omega) hb5.size)))))))
  clear hwh hbh hhx hhz hb5 hbw hbgh hch
  go_upto_region 9 with fail
  clear k0 k1 k2 k3 k4 k5 k6 k7 k8 k9 k10 k11 kf
  obtain ⟨ws, hws⟩ : ∃ ws, wh.setCell ⟨W.heap.size + 1, 6, none⟩ (.slice (some ⟨wa.heap.size, 0, none⟩) n n) = ws := ⟨_, rfl⟩
  have hcs := set12 HH.out.2.2.1 (.slice (some ⟨wa.heap.size, 0, none⟩) n n)
  have hfar : ∀ k, wa.heap.size ≤ k → ws.heap[k]? = wh.heap[k]? := fun k hk => by
    rw [← hws]
    exact Below.heap_setCell _ _ _ _ (show k ≠ W.heap.size + 1 by have := H0.out.2.2.2.2; omega)
  have hWs : Below W.heap.size W ws := by
    rw [← hws]
    exact (H0.out.2.1.trans (HH.out.1.mono H0.out.2.1.size)).setCell (p := ⟨W.heap.size + 1, 6, none⟩) (Nat.le_succ _) _
  rw [hws] at hcs
  rw [hws]
  have hqx : ws.heap[w3.heap.size]? = some (.cells #[.int .i64 P.words, .int .i64 P.locals, .slice lp Q.n lc, .slice lq P.m lx] 25 (0, 0)) := (hfar _ HG.out.2.2.2.2.2.2.2).trans ((HH.out.2.1.block _ HG.out.2.2.2.2.2.1).trans HG.out.2.1)
  have hex : ws.heap[w5.heap.size]? = some (.cells #[.int .i64 code, .slice wp1 nw wc1, .int .u64 dice, .int .u64 sent, .slice op1 on oc1, .int .i64 used] 58 (0, 0)) := (hfar _ HH.out.2.2.2.2.2.2.2).trans HH.out.2.2.2.1
  have hqc := (HG.out.2.2.1.later HH.out.2.1).far fun k hk => hfar k (Nat.le_trans HG.out.2.2.2.2.2.2.1 ((HG.out.2.2.1.lt k hk).1))
  have hqe := (HG.out.2.2.2.1.later HH.out.2.1).far fun k hk => hfar k (Nat.le_trans HG.out.2.2.2.2.2.2.1 ((HG.out.2.2.2.1.lt k hk).1))
  have hw1 : ws.heap[wa.heap.size]? = some (.cells (intsL K n).toArray 2 (0, 0)) := (hfar _ (Nat.le_refl _)).trans ((HH.out.2.1.block _ (lt_of_block HG.out.2.2.2.2.1)).trans HG.out.2.2.2.2.1)
  have he1 := (HH.out.2.2.2.2.1).far fun k hk => hfar k (Nat.le_trans H4.out.size ((HH.out.2.2.2.2.1.lt k hk).1))
  have he2 := (HH.out.2.2.2.2.2.1).far fun k hk => hfar k (Nat.le_trans H4.out.size ((HH.out.2.2.2.2.2.1.lt k hk).1))
  have hcall : CallAt ws cl (some ⟨wa.heap.size, 0, none⟩) n n K d s := ⟨kat_cells64 hw1, (fun e => by cases e), HV0.out.2.2.1.room, HV0.out.2.2.1.ok, HV0.out.2.2.1.wd, HV0.out.2.2.1.dice, HV0.out.2.2.1.sent⟩
  obtain ⟨q0, q1, q2, q3⟩ := cells4 hqx
  obtain ⟨⟨k0, k1, k2, k3, k4, k5⟩, k6, k7, k8, k9, k10, k11⟩ := cells12T hcs
  have x0 := cellT hex (o := 0) rfl
  have HVQ := verify_q (lc := lc) (lx := lx) HZ3.out.2.1.1 ws (own_iat hqc) (own_kat hqe)
  have hcode : code = 200 := HFU.out
  subst hcode
  have HWS := tmh hWs
  clear hws hcs hfar hWs hqx hex hqc hqe hw1 he1 he2 hcall HFU
  go_wp2_with (go_at_call 17; (with_reducible refine HVQ.mono ?_); rintro e w6 ⟨rfl, z6⟩)
  go_ret
  exact ⟨rfl, HWS.out.trans (z6.mono HWS.out.size)⟩
set_option maxRecDepth 100000 in
set_option maxHeartbeats 16000000 in
theorem means_good (P : Pg) (v : PgV) (cl : Cl) (p : Option Addr) (n c : Nat) (K : Nat → Int) (d s : Int) (W : World) (h : PAt W P v) (hcl : CallAt W cl p n c K d s) (ha : A64 P) (hs : roomyP P) (hc : dcode P P.m = 0) (hf : (effP P cl n K d s).code ≠ 200) :
    Calls Tryz.prog 5 #[.agg #[.int .i64 P.words, .int .i64 P.locals, .slice v.cp P.n v.cc, .slice v.ep P.m v.ec], .int .i64 (P.m : Int), .agg #[.int .u64 cl.time, .int .i64 cl.src, .int .u64 cl.seq, .int .i64 cl.dst, .int .i64 cl.kind, .int .i64 cl.data, .slice p n c, .int .u64 d, .int .u64 s, .int .u64 cl.look, .int .i64 cl.parts, .int .i64 cl.fuel]] W fun e W' => e = .returned (.bool true) ∧ Below W.heap.size W W' := by
  obtain ⟨wp, hwp⟩ : ∃ wp, W.alloc (.cells #[.int .i64 P.words, .int .i64 P.locals, .slice v.cp P.n v.cc, .slice v.ep P.m v.ec] 25) = wp := ⟨_, rfl⟩
  obtain ⟨hb0, hbox, hszp⟩ := boxed _ _ _ hwp
  obtain ⟨wa, hwa⟩ : ∃ wa, wp.alloc (.cells #[.int .u64 cl.time, .int .i64 cl.src, .int .u64 cl.seq, .int .i64 cl.dst, .int .i64 cl.kind, .int .i64 cl.data, .slice p n c, .int .u64 d, .int .u64 s, .int .u64 cl.look, .int .i64 cl.parts, .int .i64 cl.fuel] 54) = wa := ⟨_, rfl⟩
  obtain ⟨hba, hcx, hsza⟩ := boxed _ _ _ hwa
  rw [hszp] at hcx
  have hWa : Below W.heap.size W wa := hb0.trans (hba.mono hb0.size)
  have hpx := (hba.block W.heap.size (by omega)).trans hbox
  have HB := tmh (And.intro hwp hwa)
  have hpa := h.below hWa
  have hca := hcl.below hWa
  have HCW := copyWords_any p n c K wa hcl.room hca.words
  have HC : Hid (∀ w, Below wa.heap.size wa w → Calls Tryz.prog 7 #[.agg #[.int .i64 P.words, .int .i64 P.locals, .slice v.cp P.n v.cc, .slice v.ep P.m v.ec]] w fun e w' => ∃ v' : PgV, e = .returned (.agg #[.int .i64 P.words, .int .i64 P.locals, .slice v'.cp P.n v'.cc, .slice v'.ep P.m v'.ec]) ∧ PAt w' P v' ∧ Below w.heap.size w w') := tmh fun w hw => copyProgram_any P v w (hpa.below hw) hs
  have HFU := tmh hf
  clear hf
  obtain ⟨_, hv⟩ := vf_of hc
  have HT : Hid (∀ (v' : PgV) (w : World), PAt w P v' → Calls Tryz.prog 6 #[.agg #[.int .i64 P.words, .int .i64 P.locals, .slice v'.cp P.n v'.cc, .slice v'.ep P.m v'.ec], .int .i64 (P.m : Int)] w fun e W' => ∃ Q L lp lc lq lx, e = .returned (.tuple #[.agg #[.int .i64 P.words, .int .i64 P.locals, .slice lp Q.n lc, .slice lq P.m lx], .int .i64 0]) ∧ (DQ P Q L ∧ Tid P Q) ∧ Own W' w.heap.size 36 3 (.slice lp Q.n lc) Q.n (inC Q.op Q.a Q.b) ∧ Own W' w.heap.size 3 1 (.slice lq P.m lx) P.m (iv Q.en) ∧ Below w.heap.size w W') := tmh fun v' w hv => tidy_1 w hv.1 hv.2 ha hc
  have HV : Hid (∀ w, Below wa.heap.size wa w → Calls Tryz.prog 8 #[.agg #[.int .i64 P.words, .int .i64 P.locals, .slice v.cp P.n v.cc, .slice v.ep P.m v.ec], .int .i64 (P.m : Int)] w fun e w' => e = .returned (.int .i64 0) ∧ Below w.heap.size w w') := tmh fun w hw => by
    have h := rverify_any P v (P.m : Int) w (hpa.below hw)
    rw [hc] at h
    exact h
  have HRP : Hid (∀ w, Below wa.heap.size wa w → Calls Tryz.prog 16 #[.agg #[.int .i64 P.words, .int .i64 P.locals, .slice v.cp P.n v.cc, .slice v.ep P.m v.ec], .agg #[.int .u64 cl.time, .int .i64 cl.src, .int .u64 cl.seq, .int .i64 cl.dst, .int .i64 cl.kind, .int .i64 cl.data, .slice p n c, .int .u64 d, .int .u64 s, .int .u64 cl.look, .int .i64 cl.parts, .int .i64 cl.fuel]] w fun e w' => ∃ r, e = .returned r ∧ EfX w' w.heap.size r (effP P cl n K d s).code (effP P cl n K d s).nw (effP P cl n K d s).wd (effP P cl n K d s).dice (effP P cl n K d s).sent (effP P cl n K d s).on (effP P cl n K d s).oF (effP P cl n K d s).used ∧ Below w.heap.size w w') := tmh fun w hw => run_p v cl p n c K d s w (hpa.below hw) (hca.below hw) ha
  have hlt : W.heap.size < wa.heap.size := by omega
  have hlt2 : W.heap.size + 1 < wa.heap.size := by omega
  have H0 := tmh (And.intro hpx (And.intro hWa (And.intro hlt (And.intro hcx hlt2))))
  have HV0 := tmh (And.intro hv (And.intro ha (And.intro hca (eff_sh hc hca ha))))
  obtain ⟨⟨k0, k1, k2, k3, k4, k5⟩, k6, k7, k8, k9, k10, k11⟩ := cells12T hcx
  clear hwp hwa h hcl hpa hca hbox hb0 hba hWa hpx hcx hlt hlt2 hc hszp hsza hv ha
  go_enter Tryz.func5, Tryz.ntmps5
  go_upto_region 1 with fail
  rw [HB.out.1, HB.out.2]
  go_upto_region 2 with (go_at_call 15; (with_reducible refine HCW.mono ?_); rintro e w1 ⟨rfl, c1, b1, l1⟩)
  obtain ⟨y0, y1, y2, y3⟩ := cells4 ((b1.block _ H0.out.2.2.1).trans H0.out.1)
  have HZ1 := tmh (And.intro b1 (And.intro c1 l1))
  clear b1 c1 l1 k0 k1 k2 k3 k4 k5 k6 k7 k8 k9 k10 k11
  go_upto_region 3 with (first | (go_at_call 7; (with_reducible refine (HC.out _ HZ1.out.1).mono ?_); rintro e w2 ⟨v', rfl, hp1, z1⟩; have HZ2 := tmh (And.intro z1 hp1); clear z1 hp1) | (go_at_call 6; (with_reducible refine (HT.out v' _ HZ2.out.2).mono ?_); rintro e w3 ⟨Q, L, lp, lc, lq, lx, rfl, hd, q1, q2, z2⟩; have HZ3 := tmh (And.intro z2 (And.intro hd (And.intro q1 q2))); clear z2 hd q1 q2))
  clear y0 y1 y2 y3
  obtain ⟨wg, hwg⟩ : ∃ wg, w3.alloc (.cells #[.int .i64 P.words, .int .i64 P.locals, .slice lp Q.n lc, .slice lq P.m lx] 25) = wg := ⟨_, rfl⟩
  obtain ⟨hbg, hgbx, hgsz⟩ := boxed _ _ _ hwg
  have hb3 : Below wa.heap.size wa w3 := HZ1.out.1.trans ((HZ2.out.1.trans (HZ3.out.1.mono HZ2.out.1.size)).mono HZ1.out.1.size)
  have hbb : Below wa.heap.size wa wg := hb3.trans (hbg.mono hb3.size)
  have hb1g : Below w1.heap.size w1 wg := (HZ2.out.1.trans (HZ3.out.1.mono HZ2.out.1.size)).trans (hbg.mono (Nat.le_trans HZ2.out.1.size HZ3.out.1.size))
  rw [hwg]
  obtain ⟨y0, y1, y2, y3⟩ := cells4 ((hbb.block _ H0.out.2.2.1).trans H0.out.1)
  have HG := tmh (And.intro hbb (And.intro hgbx (And.intro (HZ3.out.2.2.1.later hbg) (And.intro (HZ3.out.2.2.2.later hbg) (And.intro ((hb1g.block _ HZ1.out.2.2).trans HZ1.out.2.1) (And.intro (show w3.heap.size < wg.heap.size by omega) (show wa.heap.size ≤ w2.heap.size ∧ wa.heap.size ≤ w3.heap.size from ⟨Nat.le_trans HZ1.out.1.size HZ2.out.1.size, hb3.size⟩)))))))
  clear hwg hbg hgbx hgsz hbb hb3 hb1g
  go_upto_region 7 with (go_at_call 8; (with_reducible refine (HV.out _ HG.out.1).mono ?_); rintro e w4 ⟨rfl, z4⟩; have HZ4 := tmh z4; clear z4)
  clear y0 y1 y2 y3
  have hb4 : Below wa.heap.size wa w4 := HG.out.1.trans (HZ4.out.mono HG.out.1.size)
  obtain ⟨y0, y1, y2, y3⟩ := cells4 ((hb4.block _ H0.out.2.2.1).trans H0.out.1)
  obtain ⟨⟨k0, k1, k2, k3, k4, k5⟩, k6, k7, k8, k9, k10, k11⟩ := cells12T ((hb4.block _ H0.out.2.2.2.2).trans H0.out.2.2.2.1)
  have H4 := tmh hb4
  clear hb4
  generalize hE : effP P cl n K d s = E at HRP HV0 HFU
  have HE := tmh hE
  clear hE
  obtain ⟨code, nw, wd, dice, sent, on, oF, used⟩ := E
  dsimp only at HRP HV0 HFU
  go_upto_region 8 with (go_at_call 16; (with_reducible refine (HRP.out _ H4.out).mono ?_); rintro e w5 ⟨r, rfl, ⟨wp1, wc1, op1, oc1, rfl, e1, e2⟩, z5⟩; have HZ5 := tmh (And.intro z5 (And.intro e1 e2)); clear z5 e1 e2)
  clear y0 y1 y2 y3 k0 k1 k2 k3 k4 k5 k6 k7 k8 k9 k10 k11
  obtain ⟨wh, hwh⟩ : ∃ wh, w5.alloc (.cells #[.int .i64 code, .slice wp1 nw wc1, .int .u64 dice, .int .u64 sent, .slice op1 on oc1, .int .i64 used] 58) = wh := ⟨_, rfl⟩
  obtain ⟨hbh, hhx, hhz⟩ := boxed _ _ _ hwh
  rw [hwh]
  have hb5 : Below wa.heap.size wa w5 := H4.out.trans (HZ5.out.1.mono H4.out.size)
  have hbw : Below wa.heap.size wa wh := hb5.trans (hbh.mono hb5.size)
  have hbgh : Below wg.heap.size wg wh := (HZ4.out.trans (HZ5.out.1.mono HZ4.out.size)).trans (hbh.mono (Nat.le_trans HZ4.out.size HZ5.out.1.size))
  have hch := (hbw.block _ H0.out.2.2.2.2).trans H0.out.2.2.2.1
  obtain ⟨⟨k0, k1, k2, k3, k4, k5⟩, k6, k7, k8, k9, k10, k11⟩ := cells12T hch
  have kf := fun k9 => frz hch k9
  have HH := tmh (And.intro hbw (And.intro hbgh (And.intro hch (And.intro hhx (And.intro (HZ5.out.2.1.later hbh) (And.intro (HZ5.out.2.2.later hbh) (And.intro (show w5.heap.size < wh.heap.size by omega) hb5.size)))))))
  clear hwh hbh hhx hhz hb5 hbw hbgh hch
  go_upto_region 9 with fail
  clear k0 k1 k2 k3 k4 k5 k6 k7 k8 k9 k10 k11 kf
  obtain ⟨ws, hws⟩ : ∃ ws, wh.setCell ⟨W.heap.size + 1, 6, none⟩ (.slice (some ⟨wa.heap.size, 0, none⟩) n n) = ws := ⟨_, rfl⟩
  have hcs := set12 HH.out.2.2.1 (.slice (some ⟨wa.heap.size, 0, none⟩) n n)
  have hfar : ∀ k, wa.heap.size ≤ k → ws.heap[k]? = wh.heap[k]? := fun k hk => by
    rw [← hws]
    exact Below.heap_setCell _ _ _ _ (show k ≠ W.heap.size + 1 by have := H0.out.2.2.2.2; omega)
  have hWs : Below W.heap.size W ws := by
    rw [← hws]
    exact (H0.out.2.1.trans (HH.out.1.mono H0.out.2.1.size)).setCell (p := ⟨W.heap.size + 1, 6, none⟩) (Nat.le_succ _) _
  rw [hws] at hcs
  rw [hws]
  have hqx : ws.heap[w3.heap.size]? = some (.cells #[.int .i64 P.words, .int .i64 P.locals, .slice lp Q.n lc, .slice lq P.m lx] 25 (0, 0)) := (hfar _ HG.out.2.2.2.2.2.2.2).trans ((HH.out.2.1.block _ HG.out.2.2.2.2.2.1).trans HG.out.2.1)
  have hex : ws.heap[w5.heap.size]? = some (.cells #[.int .i64 code, .slice wp1 nw wc1, .int .u64 dice, .int .u64 sent, .slice op1 on oc1, .int .i64 used] 58 (0, 0)) := (hfar _ HH.out.2.2.2.2.2.2.2).trans HH.out.2.2.2.1
  have hqc := (HG.out.2.2.1.later HH.out.2.1).far fun k hk => hfar k (Nat.le_trans HG.out.2.2.2.2.2.2.1 ((HG.out.2.2.1.lt k hk).1))
  have hqe := (HG.out.2.2.2.1.later HH.out.2.1).far fun k hk => hfar k (Nat.le_trans HG.out.2.2.2.2.2.2.1 ((HG.out.2.2.2.1.lt k hk).1))
  have hw1 : ws.heap[wa.heap.size]? = some (.cells (intsL K n).toArray 2 (0, 0)) := (hfar _ (Nat.le_refl _)).trans ((HH.out.2.1.block _ (lt_of_block HG.out.2.2.2.2.1)).trans HG.out.2.2.2.2.1)
  have he1 := (HH.out.2.2.2.2.1).far fun k hk => hfar k (Nat.le_trans H4.out.size ((HH.out.2.2.2.2.1.lt k hk).1))
  have he2 := (HH.out.2.2.2.2.2.1).far fun k hk => hfar k (Nat.le_trans H4.out.size ((HH.out.2.2.2.2.2.1.lt k hk).1))
  have hcall : CallAt ws cl (some ⟨wa.heap.size, 0, none⟩) n n K d s := ⟨kat_cells64 hw1, (fun e => by cases e), HV0.out.2.2.1.room, HV0.out.2.2.1.ok, HV0.out.2.2.1.wd, HV0.out.2.2.1.dice, HV0.out.2.2.1.sent⟩
  obtain ⟨q0, q1, q2, q3⟩ := cells4 hqx
  obtain ⟨⟨k0, k1, k2, k3, k4, k5⟩, k6, k7, k8, k9, k10, k11⟩ := cells12T hcs
  have x0 := cellT hex (o := 0) rfl
  have HRQ := run_q (lc := lc) (lx := lx) HZ3.out.2.1.1 HZ3.out.2.1.2 HV0.out.1 HV0.out.2.1 cl (some ⟨wa.heap.size, 0, none⟩) n n K d s ws (own_iat hqc) (own_kat hqe) hcall (by rw [HE.out]; exact HFU.out)
  rw [HE.out] at HRQ
  dsimp only at HRQ
  have g1 : (code == 200) = false := by simpa using HFU.out
  have g2 : (code == code) = true := by simp
  have HSS := tmh (And.intro hWs (And.intro hqx (And.intro hex (And.intro hqc (And.intro hqe (And.intro he1 he2))))))
  clear hws hcs hfar hWs hqx hex hqc hqe hw1 he1 he2 hcall HFU
  go_upto_region 12 with (go_at_call 16; (with_reducible refine HRQ.mono ?_); rintro e w6 ⟨r2, us, rfl, ⟨wp2, wc2, op2, oc2, rfl, e1, e2⟩, hus, z6⟩; have HZ6 := tmh (And.intro z6 (And.intro e1 (And.intro e2 hus))); clear z6 e1 e2 hus)
  clear q0 q1 q2 q3 k0 k1 k2 k3 k4 k5 k6 k7 k8 k9 k10 k11 x0
  obtain ⟨wi, hwi⟩ : ∃ wi, w6.alloc (.cells #[.int .i64 code, .slice wp2 nw wc2, .int .u64 dice, .int .u64 sent, .slice op2 on oc2, .int .i64 us] 58) = wi := ⟨_, rfl⟩
  obtain ⟨hbi, hix, hiz⟩ := boxed _ _ _ hwi
  rw [hwi]
  have hb6 : Below ws.heap.size ws wi := HZ6.out.1.trans (hbi.mono HZ6.out.1.size)
  have hqx := (hb6.block _ (lt_of_block HSS.out.2.1)).trans HSS.out.2.1
  have hex := (hb6.block _ (lt_of_block HSS.out.2.2.1)).trans HSS.out.2.2.1
  have HVQ := verify_q (lc := lc) (lx := lx) HZ3.out.2.1.1 wi (own_iat (HSS.out.2.2.2.1.later hb6)) (own_kat (HSS.out.2.2.2.2.1.later hb6))
  obtain ⟨q0, q1, q2, q3⟩ := cells4 hqx
  have g3 : decide (us ≤ used) = true := decide_eq_true HZ6.out.2.2.2
  have HI := tmh (And.intro hex (And.intro hix (And.intro (HSS.out.2.2.2.2.2.1.later hb6).kat (And.intro (HSS.out.2.2.2.2.2.2.later hb6).xat (And.intro (HZ6.out.2.1.later hbi).kat (And.intro (HZ6.out.2.2.1.later hbi).xat (HSS.out.1.trans (hb6.mono HSS.out.1.size))))))))
  clear hwi hbi hix hiz hb6 hqx hex
  go_wp2_with (first | (go_at_call 17; (with_reducible refine HVQ.mono ?_); rintro e w7 ⟨rfl, z7⟩; have HZ7 := tmh z7; have hex := (z7.block _ (lt_of_block HI.out.1)).trans HI.out.1; have hix := (z7.block _ (lt_of_block HI.out.2.1)).trans HI.out.2.1; obtain ⟨a0, a1, a2, a3, a4, a5⟩ := cells6T hex; obtain ⟨i0, i1, i2, i3, i4, i5⟩ := cells6T hix; have HSA := sameState_yes wp1 wp2 nw wc1 wc2 wd dice sent HV0.out.2.2.2.2.1 w7 (HI.out.2.2.1.below z7) (HI.out.2.2.2.2.1.below z7); clear z7 hex hix) | (go_at_call 18; (with_reducible refine HSA.mono ?_); rintro e w8 ⟨rfl, z8⟩; have hz := HZ7.out.trans (z8.mono HZ7.out.size); have HZ8 := tmh hz; clear a0 a1 a2 a3 a4 a5 i0 i1 i2 i3 i4 i5; have hex := (hz.block _ (lt_of_block HI.out.1)).trans HI.out.1; have hix := (hz.block _ (lt_of_block HI.out.2.1)).trans HI.out.2.1; obtain ⟨a0, a1, a2, a3, a4, a5⟩ := cells6T hex; obtain ⟨i0, i1, i2, i3, i4, i5⟩ := cells6T hix; have HSE := sameEvents_yes on oF op1 op2 oc1 oc2 HV0.out.2.2.2.2.2 w8 (HI.out.2.2.2.1.below hz) (HI.out.2.2.2.2.2.1.below hz) HV0.out.2.2.2.1; clear z8 hz hex hix) | (go_at_call 19; (with_reducible refine HSE.mono ?_); rintro e w9 ⟨rfl, z9⟩; have hz := HZ8.out.trans (z9.mono HZ8.out.size); have HZ9 := tmh hz; clear a0 a1 a2 a3 a4 a5 i0 i1 i2 i3 i4 i5; have hex := (hz.block _ (lt_of_block HI.out.1)).trans HI.out.1; have hix := (hz.block _ (lt_of_block HI.out.2.1)).trans HI.out.2.1; obtain ⟨a0, a1, a2, a3, a4, a5⟩ := cells6T hex; obtain ⟨i0, i1, i2, i3, i4, i5⟩ := cells6T hix; clear z9 hz hex hix))
  go_ret
  exact ⟨rfl, HI.out.2.2.2.2.2.2.trans (HZ9.out.mono HI.out.2.2.2.2.2.2.size)⟩
theorem means_law (P : Pg) (v : PgV) (kinds : Int) (cl : Cl) (p : Option Addr) (n c : Nat) (K : Nat → Int) (d s : Int) (W : World) (h : PAt W P v) (hcl : CallAt W cl p n c K d s) (ha : A64 P) (hs : roomyP P) :
    Calls Tryz.prog 5 #[.agg #[.int .i64 P.words, .int .i64 P.locals, .slice v.cp P.n v.cc, .slice v.ep P.m v.ec], .int .i64 kinds, .agg #[.int .u64 cl.time, .int .i64 cl.src, .int .u64 cl.seq, .int .i64 cl.dst, .int .i64 cl.kind, .int .i64 cl.data, .slice p n c, .int .u64 d, .int .u64 s, .int .u64 cl.look, .int .i64 cl.parts, .int .i64 cl.fuel]] W fun e W' => e = .returned (.bool true) ∧ Below W.heap.size W W' := by
  by_cases hc : dcode P kinds = 0
  · obtain ⟨rfl, _⟩ := vf_of hc
    by_cases hf : (effP P cl n K d s).code = 200
    · exact means_fuel P v cl p n c K d s W h hcl ha hs hc hf
    · exact means_good P v cl p n c K d s W h hcl ha hs hc hf
  · exact means_bad P v cl p n c K d s kinds W h hcl ha hs hc
end Go.Proofs.YtopggemomcoalaaGreat
