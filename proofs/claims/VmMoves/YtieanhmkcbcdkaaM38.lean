import Derived.Test.YtieanhmkcbcdkaaM37
import Derived.BigQuiet
import Derived.Deep.DeepCutAuto
namespace Go.Proofs.Ytieanhmkcbcdkaa
open Go.ChangeShapes Go.WideShapes Go.ChangeAt Go.RowKit
set_option linter.unusedVariables false
set_option linter.unusedSimpArgs false

set_option maxRecDepth 100000 in
set_option maxHeartbeats 4000000 in
theorem moves_out (P : Pg) (v : PgV) (cl : Cl) (q : Option Addr) (n c : Nat) (K : Nat → Int) (d s : Int) (f : Int) (w : World) (h : PAt w P v) (hc : CallAt w cl q n c K d s) (hA64 : ∀ i, i < P.n → In64 (P.a i)) (hroom : roomyP P) (hf : f < 0 ∨ 100 < f ∨ (P.n : Int) + f > 4096) :
    Calls Try.prog 5 #[.agg #[.int .i64 P.words, .int .i64 P.locals, .slice v.cp P.n v.cc, .slice v.ep P.m v.ec], .agg #[.int .u64 cl.time, .int .i64 cl.src, .int .u64 cl.seq, .int .i64 cl.dst, .int .i64 cl.kind, .int .i64 cl.data, .slice q n c, .int .u64 d, .int .u64 s, .int .u64 cl.look, .int .i64 cl.parts, .int .i64 cl.fuel], .int .i64 f] w fun e w' => e = .returned (.bool true) ∧ Below w.heap.size w w' := by
  have hbe : Below w.heap.size w ((w.alloc (.cells #[.int .i64 P.words, .int .i64 P.locals, .slice v.cp P.n v.cc, .slice v.ep P.m v.ec] 25)).alloc (.cells #[.int .u64 cl.time, .int .i64 cl.src, .int .u64 cl.seq, .int .i64 cl.dst, .int .i64 cl.kind, .int .i64 cl.data, .slice q n c, .int .u64 d, .int .u64 s, .int .u64 cl.look, .int .i64 cl.parts, .int .i64 cl.fuel] 35)) := ((Below.refl _ w).alloc (Nat.le_refl _) _).alloc (by simp) _
  have hr := hroom.1
  clear h hc hA64 hroom
  by_cases f0 : f < 0
  · have d0 : decide (f < 0) = true := decide_eq_true f0
    clear hf f0
    go_enter Try.func5, Try.ntmps5
    go_wp2
    go_ret
    exact ⟨rfl, hbe⟩
  · have d0 : decide (f < 0) = false := decide_eq_false f0
    by_cases f1 : 100 < f
    · have d1 : decide (100 < f) = true := decide_eq_true f1
      clear hf f0 f1
      go_enter Try.func5, Try.ntmps5
      go_wp2
      go_ret
      exact ⟨rfl, hbe⟩
    · have d1 : decide (100 < f) = false := decide_eq_false f1
      have hw : IntKind.i64.wrap ((P.n : Int) + f) = (P.n : Int) + f := by rw [IntKind.wrap_i64]; omega
      have hw2 : wrap64 ((P.n : Int) + f) = (P.n : Int) + f := by unfold wrap64; omega
      have d2 : decide (4096 < (P.n : Int) + f) = true := decide_eq_true (by omega)
      clear hf f0 f1
      go_enter Try.func5, Try.ntmps5
      go_wp2
      go_ret
      exact ⟨rfl, hbe⟩
set_option maxRecDepth 100000 in
set_option maxHeartbeats 4000000 in
theorem moves_bad (P : Pg) (v : PgV) (cl : Cl) (q : Option Addr) (n c : Nat) (K : Nat → Int) (d s : Int) (f : Int) (w : World) (h : PAt w P v) (hc : CallAt w cl q n c K d s) (hA64 : ∀ i, i < P.n → In64 (P.a i)) (hroom : roomyP P) (hf : 0 ≤ f ∧ f ≤ 100 ∧ (P.n : Int) + f ≤ 4096) (hz : dcode P P.m ≠ 0) :
    Calls Try.prog 5 #[.agg #[.int .i64 P.words, .int .i64 P.locals, .slice v.cp P.n v.cc, .slice v.ep P.m v.ec], .agg #[.int .u64 cl.time, .int .i64 cl.src, .int .u64 cl.seq, .int .i64 cl.dst, .int .i64 cl.kind, .int .i64 cl.data, .slice q n c, .int .u64 d, .int .u64 s, .int .u64 cl.look, .int .i64 cl.parts, .int .i64 cl.fuel], .int .i64 f] w fun e w' => e = .returned (.bool true) ∧ Below w.heap.size w w' := by
  have d0 : decide (f < 0) = false := decide_eq_false (by omega)
  have d1 : decide (100 < f) = false := decide_eq_false (by omega)
  have hw : IntKind.i64.wrap ((P.n : Int) + f) = (P.n : Int) + f := by rw [IntKind.wrap_i64]; omega
  have hw2 : wrap64 ((P.n : Int) + f) = (P.n : Int) + f := by unfold wrap64; omega
  have d2 : decide (4096 < (P.n : Int) + f) = false := decide_eq_false (by omega)
  obtain ⟨code, hcode⟩ : ∃ code, dcode P P.m = code := ⟨_, rfl⟩
  rw [hcode] at hz
  have HZZ : Hid (dcode P P.m = code) := hcode
  have hzb : (code == 0) = false := by simpa using hz
  obtain ⟨wb, hwb⟩ : ∃ wb, (w.alloc (.cells #[.int .i64 P.words, .int .i64 P.locals, .slice v.cp P.n v.cc, .slice v.ep P.m v.ec] 25)).alloc (.cells #[.int .u64 cl.time, .int .i64 cl.src, .int .u64 cl.seq, .int .i64 cl.dst, .int .i64 cl.kind, .int .i64 cl.data, .slice q n c, .int .u64 d, .int .u64 s, .int .u64 cl.look, .int .i64 cl.parts, .int .i64 cl.fuel] 35) = wb := ⟨_, rfl⟩
  have hB := bx2_new w P v cl q n c d s wb hwb
  have HAW := awake_any wb
  have HW : Hid ((w.alloc (.cells #[.int .i64 P.words, .int .i64 P.locals, .slice v.cp P.n v.cc, .slice v.ep P.m v.ec] 25)).alloc (.cells #[.int .u64 cl.time, .int .i64 cl.src, .int .u64 cl.seq, .int .i64 cl.dst, .int .i64 cl.kind, .int .i64 cl.data, .slice q n c, .int .u64 d, .int .u64 s, .int .u64 cl.look, .int .i64 cl.parts, .int .i64 cl.fuel] 35) = wb) := hwb
  have HP : Hid (PAt w P v) := h
  have HC : Hid (CallAt w cl q n c K d s) := hc
  have HA : Hid (∀ i, i < P.n → In64 (P.a i)) := hA64
  clear hwb h hc hA64
  clear hf hz hcode hroom
  go_enter Try.func5, Try.ntmps5
  go_wp2_with (first | (go_at_call 9; rw [HW.out]; (with_reducible refine HAW.mono ?_); rintro e w1 ⟨rfl, hb1⟩; have hB1 := hB.later hb1; obtain ⟨a0, a1, a2, a3⟩ := cells4 hB1.pb; have HD1 := depths_any P v P.m w1 (HP.out.1.below hB1.bel) (HP.out.2.below hB1.bel)) | (go_at_call 15; (with_reducible refine HD1.mono ?_); rintro e w2 ⟨l, cd, rfl, hb2, hans⟩; have hcd := hans.1; rw [HZZ.out] at hcd; subst hcd; have hB2 := hB1.later hb2))
  go_ret
  exact ⟨rfl, hB2.bel⟩
set_option maxRecDepth 100000 in
set_option maxHeartbeats 8000000 in
theorem moves_ok (p : Nat) (P : Pg) (v : PgV) (cl : Cl) (q : Option Addr) (n c : Nat) (K : Nat → Int) (d s : Int) (w : World) (h : PAt w P v) (hc : CallAt w cl q n c K d s) (hA64 : ∀ i, i < P.n → In64 (P.a i)) (hroom : roomyP P) (hz : MvOk P p) :
    Calls Try.prog 5 #[.agg #[.int .i64 P.words, .int .i64 P.locals, .slice v.cp P.n v.cc, .slice v.ep P.m v.ec], .agg #[.int .u64 cl.time, .int .i64 cl.src, .int .u64 cl.seq, .int .i64 cl.dst, .int .i64 cl.kind, .int .i64 cl.data, .slice q n c, .int .u64 d, .int .u64 s, .int .u64 cl.look, .int .i64 cl.parts, .int .i64 cl.fuel], .int .i64 p] w fun e w' => e = .returned (.bool true) ∧ Below w.heap.size w w' := by
  have hn := hz.n
  have hp := hz.le
  have d0 : decide ((p : Int) < 0) = false := decide_eq_false (by omega)
  have d1 : decide (100 < (p : Int)) = false := decide_eq_false (by omega)
  have hw : IntKind.i64.wrap ((P.n : Int) + p) = (P.n : Int) + p := by rw [IntKind.wrap_i64]; omega
  have hw2 : wrap64 ((P.n : Int) + p) = (P.n : Int) + p := by unfold wrap64; omega
  have d2 : decide (4096 < (P.n : Int) + p) = false := decide_eq_false (by omega)
  have HZZ : Hid (dcode P P.m = 0) := hz.z
  have HOK : Hid (MvOk P p) := hz
  have HA2 : Hid (∀ i, i < (mvP P p).n → In64 ((mvP P p).a i)) := fun i hi => by
    rcases Nat.lt_or_ge i p with z | z
    · rw [(mv_op0 P z).2.1]; exact in64_0
    · obtain ⟨k, rfl⟩ : ∃ k, i = p + k := ⟨i - p, by omega⟩
      have hk : k < P.n := by have : p + k < p + P.n := hi; omega
      rw [mv_a]
      split
      · exact in64_wrap _
      · exact hA64 k hk
  have HSH : Hid (EvSh (effP P cl n K d s).on (effP P cl n K d s).oF ∧ (effP P cl n K d s).nw ≤ 17592186044416 ∧ (effP P cl n K d s).on ≤ 1000000) := by
    by_cases hfit : fitsB P cl n = true
    · have hI := eff_sent hz.z hfit hc hA64
      have hT := taken_eff (P := P) (cl := cl) (n := n) (K := K) (d := d) (s := s) hz.z hfit
      exact ⟨hI.sh, by rw [hT.nw]; exact hc.room, Nat.le_trans hI.on (by decide)⟩
    · have e : effP P cl n K d s = efErr 63 := effP_unfit hz.z (by simpa using hfit)
      rw [e]
      exact ⟨EvSh.zero _, Nat.zero_le _, Nat.zero_le _⟩
  have dlen : (((p + P.n : Nat) : Int) != (P.n : Int) + p) = false := by simp; omega
  have dlen2 : ((p : Int) + (P.n : Int) != (P.n : Int) + p) = false := by simp; omega
  obtain ⟨wb, hwb⟩ : ∃ wb, (w.alloc (.cells #[.int .i64 P.words, .int .i64 P.locals, .slice v.cp P.n v.cc, .slice v.ep P.m v.ec] 25)).alloc (.cells #[.int .u64 cl.time, .int .i64 cl.src, .int .u64 cl.seq, .int .i64 cl.dst, .int .i64 cl.kind, .int .i64 cl.data, .slice q n c, .int .u64 d, .int .u64 s, .int .u64 cl.look, .int .i64 cl.parts, .int .i64 cl.fuel] 35) = wb := ⟨_, rfl⟩
  have hB := bx2_new w P v cl q n c d s wb hwb
  have HAW := awake_any wb
  have HW : Hid ((w.alloc (.cells #[.int .i64 P.words, .int .i64 P.locals, .slice v.cp P.n v.cc, .slice v.ep P.m v.ec] 25)).alloc (.cells #[.int .u64 cl.time, .int .i64 cl.src, .int .u64 cl.seq, .int .i64 cl.dst, .int .i64 cl.kind, .int .i64 cl.data, .slice q n c, .int .u64 d, .int .u64 s, .int .u64 cl.look, .int .i64 cl.parts, .int .i64 cl.fuel] 35) = wb) := hwb
  have HP : Hid (PAt w P v) := h
  have HC : Hid (CallAt w cl q n c K d s) := hc
  have HA : Hid (∀ i, i < P.n → In64 (P.a i)) := hA64
  clear hwb h hc hA64
  clear hz hroom
  go_enter Try.func5, Try.ntmps5
  go_wp2_with (first | (go_at_call 9; rw [HW.out]; (with_reducible refine HAW.mono ?_); rintro e w1 ⟨rfl, hb1⟩; have hB1 := hB.later hb1; obtain ⟨a0, a1, a2, a3⟩ := cells4 hB1.pb; have HD1 := depths_any P v P.m w1 (HP.out.1.below hB1.bel) (HP.out.2.below hB1.bel)) | (go_at_call 15; (with_reducible refine HD1.mono ?_); rintro e w2 ⟨l, cd, rfl, hb2, hans⟩; have hcd := hans.1; rw [HZZ.out] at hcd; subst hcd; obtain ⟨db, hl, hO1⟩ := hans.2.2 rfl; subst hl; have hB2 := hB1.later hb2; obtain ⟨c0, c1, c2, c3⟩ := cells4 hB2.pb; have HMV := moved_any P v p w2 (HP.out.below hB2.bel) HOK.out; clear HD1 hans) | (go_at_call 16; (with_reducible refine HMV.mono ?_); rintro e w3 ⟨u, rfl, hQ, hb3⟩; obtain ⟨w4, hw4⟩ : ∃ w4, w3.alloc (.cells #[.int .i64 P.words, .int .i64 P.locals, .slice u.cp (p + P.n) u.cc, .slice u.ep P.m u.ec] 25) = w4 := ⟨_, rfl⟩; obtain ⟨hb4, hqb, hsz4⟩ := one_new hw4; have HW4 : Hid (w3.alloc (.cells #[.int .i64 P.words, .int .i64 P.locals, .slice u.cp (p + P.n) u.cc, .slice u.ep P.m u.ec] 25) = w4) := hw4; have hB4 := (hB2.later hb3).later hb4; have HD2 : Calls Try.prog 15 #[.agg #[.int .i64 P.words, .int .i64 P.locals, .slice u.cp (p + P.n) u.cc, .slice u.ep P.m u.ec], .int .i64 P.m] w4 (fun e w' => ∃ r c, e = .returned (.tuple #[r, .int .i64 c]) ∧ Below w4.heap.size w4 w' ∧ dAns (mvP P p) P.m w' w4.heap.size r c) := depths_any (mvP P p) u P.m w4 (hQ.1.below hb4) (hQ.2.below hb4); clear hw4 HMV) | (go_at_call 15; rw [HW4.out]; (with_reducible refine HD2.mono ?_); rintro e w5 ⟨l2, cd2, rfl, hb5, hans2⟩; have hcd2 : cd2 = 0 := hans2.1.trans HOK.out.facts.1; subst hcd2; obtain ⟨db2, hl2, hO2⟩ := hans2.2.2 rfl; have hl2' : l2 = .slice (some ⟨db2, 0, none⟩) (p + P.n) (p + P.n) := hl2; subst hl2'; clear HD2 hans2 hl2))
  have hn1 : (mvP P p).n = p + P.n := rfl
  have hO2' : Own w5 w4.heap.size 3 1 (.slice (some ⟨db2, 0, none⟩) (p + P.n) (p + P.n)) (p + P.n) (iv (dL (mvP P p))) := hO2
  have HO2 : Hid (Own w5 w4.heap.size 3 1 (.slice (some ⟨db2, 0, none⟩) (p + P.n) (p + P.n)) (p + P.n) (iv (dL (mvP P p)))) := hO2'
  have hb25 : Below w2.heap.size w2 w5 := (hb3.trans (hb4.mono hb3.size)).trans (hb5.mono (Nat.le_trans hb3.size hb4.size))
  have HO1 : Hid (Own w5 w1.heap.size 3 1 (.slice (some ⟨db, 0, none⟩) P.n P.n) P.n (iv (dL P))) := hO1.later hb25
  have hB5 := hB4.later hb5
  have HQ : Hid (PAt w3 (mvP P p) u) := hQ
  have hb35 : Below w3.heap.size w3 w5 := hb4.trans (hb5.mono hb4.size)
  have hqb5 := (hb5.block _ (by omega)).trans hqb
  have hql5 : w3.heap.size < w5.heap.size := (Array.getElem?_eq_some_iff.1 hqb5).1
  clear hO2 hO2' hO1 hQ hb25 hqb hsz4 HAW HW HW4 a0 a1 a2 a3 c0 c1 c2 c3 hn1 dlen dlen2 d0 d1 d2 hw hw2
  go_loopw [12] (fun x wr => ∃ i : Nat, x = .int .i64 i ∧ i ≤ p + P.n ∧ Below w5.heap.size w5 wr) (fun x _ => p + P.n - (intOf x).toNat)
  case atStart => exact ⟨0, rfl, Nat.zero_le _, Below.refl _ _⟩
  case round =>
    obtain ⟨i, rfl, hi, hbel⟩ := hrel
    have hBr := hB5.later hbel
    by_cases hlt : i < p + P.n
    · have dl : decide ((i : Int) < ((p + P.n : Nat) : Int)) = true := decide_eq_true (by omega)
      have dl' : decide ((i : Int) < (p : Int) + (P.n : Int)) = true := decide_eq_true (by omega)
      have hm : p + P.n - (intOf (.int .i64 ((i : Int) + 1))).toNat < p + P.n - (intOf (.int .i64 (i : Int))).toNat := meas hlt
      have j0 : (0 : Int) ≤ (i : Int) := by omega
      have j1 : (i : Int) < ((p + P.n : Nat) : Int) := by omega
      have j1' : (i : Int) < (p : Int) + (P.n : Int) := by omega
      have hdq := HOK.out.facts.2 i hlt
      have y0 : wr.cell? ⟨db2, i, none⟩ = some (.int .i64 (dL (mvP P p) i)) := (HO2.out.later hbel).cell (by omega)
      rw [hdq] at y0
      have i4 : (i : Int) ≤ 5000 := by omega
      by_cases hip : i < p
      · have e0 : mvL P p i = -1 := by unfold mvL; rw [if_pos hip]
        rw [e0] at y0
        have q1 : decide ((i : Int) < p) = true := decide_eq_true (by omega)
        have q2 : decide ((p : Int) ≤ i) = false := decide_eq_false (by omega)
        have q1n : decide (i < p) = true := decide_eq_true hip
        have q2n : decide (p ≤ i) = false := decide_eq_false (by omega)
        clear hdq e0 hip
        go_wp2
        go_quiet (fail)
        go_wp2
        exact ⟨⟨i + 1, rfl, hlt, hbel.trans (below_drewNq _ _ _)⟩, hm⟩
      · obtain ⟨k, rfl⟩ : ∃ k, i = p + k := ⟨i - p, by omega⟩
        rw [mvL_at] at y0
        have hk : k < P.n := by omega
        have y1 : wr.cell? ⟨db, k, none⟩ = some (.int .i64 (dL P k)) := (HO1.out.later hbel).cell (by omega)
        generalize dL P k = zz at y0 y1
        have q1 : decide (((p + k : Nat) : Int) < p) = false := decide_eq_false (by omega)
        have q1' : decide ((p : Int) + (k : Int) < p) = false := decide_eq_false (by omega)
        have q2 : decide ((p : Int) ≤ ((p + k : Nat) : Int)) = true := decide_eq_true (by omega)
        have q2' : decide ((p : Int) ≤ (p : Int) + (k : Int)) = true := decide_eq_true (by omega)
        have k0 : (0 : Int) ≤ (k : Int) := by omega
        have k1 : (k : Int) < (P.n : Int) := by omega
        have sb : ((p + k : Nat) : Int) - (p : Int) = (k : Int) := by omega
        have sb' : (p : Int) + (k : Int) - (p : Int) = (k : Int) := by omega
        have q1n : decide (p + k < p) = false := decide_eq_false (by omega)
        have q2n : decide (p ≤ p + k) = true := decide_eq_true (by omega)
        clear hdq hip
        go_wp2
        go_quiet (fail)
        go_wp2
        exact ⟨⟨p + k + 1, rfl, hlt, hbel.trans (below_drewNq _ _ _)⟩, hm⟩
    · have dl : decide ((i : Int) < ((p + P.n : Nat) : Int)) = false := decide_eq_false (by omega)
      have dl' : decide ((i : Int) < (p : Int) + (P.n : Int)) = false := decide_eq_false (by omega)
      have hqr := (hbel.block _ hql5).trans hqb5
      have hql : w3.heap.size < wr.heap.size := (Array.getElem?_eq_some_iff.1 hqr).1
      have hb3r : Below w3.heap.size w3 wr := hb35.trans (hbel.mono (by have := hb35.size; omega))
      go_wp2
      have HR1 := vmRun' P v cl q n c K d s wr.drew (HP.out.below (hBr.bel.trans (below_drewNq _ wr 1))) (HC.out.below (hBr.bel.trans (below_drewNq _ wr 1))) HA.out
      refine wp_region_held_drew (S := fun W => Below wr.heap.size wr W) (by kernel_rfl) (below_drewNq _ wr 1) (fun hHeld => ?_)
      refine wpAnyH_take (i := 0) (v := ?hv0u1) rfl (by kernel_rfl) (by kernel_rfl) (by kernel_rfl) (fun _ _ _ h => h) (Or.inl ⟨by rfl, ?hy0u1⟩) (by assumption) ?hr0u1
      case hy0u1 => ((intro W hSw; obtain ⟨a0, a1, a2, a3⟩ := cells4 (hBr.later hSw).pb; go_simp); try with_reducible rfl)
      simp only [List.getElem_toArray, List.getElem_cons_zero, List.getElem_cons_succ, Act.put, List.setIfInBounds_toArray, List.set_cons_zero, List.set_cons_succ]
      refine wpAnyH_take (i := 1) (v := ?hv1u2) rfl (by kernel_rfl) (by kernel_rfl) (by kernel_rfl) (fun _ _ _ h => h) (Or.inl ⟨by rfl, ?hy1u2⟩) (by assumption) ?hr1u2
      case hy1u2 => ((intro W hSw; obtain ⟨⟨b0, b1, b2, b3, b4, b5⟩, b6, b7, b8, b9, b10, b11⟩ := cells12 (hBr.later hSw).cb; go_simp); try with_reducible rfl)
      simp only [List.getElem_toArray, List.getElem_cons_zero, List.getElem_cons_succ, Act.put, List.setIfInBounds_toArray, List.set_cons_zero, List.set_cons_succ]
      refine wpAnyH_take (i := 3) (v := ?hv3u3) rfl (by kernel_rfl) (by kernel_rfl) (by kernel_rfl) (fun _ _ _ h => h) (Or.inl ⟨by rfl, ?hy3u3⟩) (by assumption) ?hr3u3
      case hy3u3 => ((intro W hSw; obtain ⟨a0, a1, a2, a3⟩ := cells4 ((hSw.block _ hql).trans hqr); go_simp); try with_reducible rfl)
      simp only [List.getElem_toArray, List.getElem_cons_zero, List.getElem_cons_succ, Act.put, List.setIfInBounds_toArray, List.set_cons_zero, List.set_cons_succ]
      refine wpAnyH_take (i := 4) (v := ?hv4u4) rfl (by kernel_rfl) (by kernel_rfl) (by kernel_rfl) (fun _ _ _ h => h) (Or.inl ⟨by rfl, ?hy4u4⟩) (by assumption) ?hr4u4
      case hy4u4 => ((intro W hSw; obtain ⟨⟨b0, b1, b2, b3, b4, b5⟩, b6, b7, b8, b9, b10, b11⟩ := cells12 (hBr.later hSw).cb; go_simp); try with_reducible rfl)
      simp only [List.getElem_toArray, List.getElem_cons_zero, List.getElem_cons_succ, Act.put, List.setIfInBounds_toArray, List.set_cons_zero, List.set_cons_succ]
      refine wpAnyH_ready (rs := [2]) (by kernel_rfl) (by simp) (AllReadyH.cons rfl (fun KK hK => ?_) AllReadyH.nil)
      all_goals dsimp -proj only [List.getElem_toArray, List.getElem_cons_zero, List.getElem_cons_succ]
      go_simp
      go_at_call 10
      refine HR1.mono ?_
      rintro e w6 ⟨p1, q1, o1, r1, rfl, hx6, hb6⟩
      try go_wp2_with fail
      have hs6 : Below wr.heap.size wr w6 := (below_drewNq _ wr 1).trans (hb6.mono (Nat.le_refl _))
      refine hK.out _ _ hs6 (fun hHeld => ?_)
      clear hK KK
      try simp only [Act.put, List.setIfInBounds_toArray, List.set_cons_zero, List.set_cons_succ]
      have hB6 := hBr.later hs6
      have HR2 : Calls Try.prog 10 #[.agg #[.int .i64 P.words, .int .i64 P.locals, .slice u.cp (p + P.n) u.cc, .slice u.ep P.m u.ec], .agg #[.int .u64 cl.time, .int .i64 cl.src, .int .u64 cl.seq, .int .i64 cl.dst, .int .i64 cl.kind, .int .i64 cl.data, .slice q n c, .int .u64 d, .int .u64 s, .int .u64 cl.look, .int .i64 cl.parts, .int .i64 cl.fuel]] w6 (fun e w' => ∃ (wp : Option Addr) (wc : Nat) (op : Option Addr) (oc : Nat), e = .returned (.agg #[.int .i64 (effP P cl n K d s).code, .slice wp (effP P cl n K d s).nw wc, .int .u64 (effP P cl n K d s).dice, .int .u64 (effP P cl n K d s).sent, .slice op (effP P cl n K d s).on oc, .int .i64 (effP P cl n K d s).used]) ∧ (KAt w' wp (effP P cl n K d s).nw (effP P cl n K d s).wd ∧ XAt w' op (effP P cl n K d s).on (effP P cl n K d s).oF) ∧ Below w6.heap.size w6 w') := by
        rw [← HOK.out.eff HC.out HA.out]
        exact vmRun' (mvP P p) u cl q n c K d s w6 (HQ.out.below (hb3r.trans (hs6.mono hb3r.size))) (HC.out.below hB6.bel) HA2.out
      refine wpAnyH_ready (rs := [5]) (by kernel_rfl) (by simp) (AllReadyH.cons rfl (fun KK hK => ?_) AllReadyH.nil)
      all_goals dsimp -proj only [List.getElem_toArray, List.getElem_cons_zero, List.getElem_cons_succ]
      go_simp
      go_at_call 10
      refine HR2.mono ?_
      rintro e w7 ⟨p2, q2, o2, r2, rfl, hx7, hb7⟩
      try go_wp2_with fail
      have hs7 : Below wr.heap.size wr w7 := hs6.trans (hb7.mono hs6.size)
      refine hK.out _ _ hs7 (fun hHeld => ?_)
      clear hK KK
      try simp only [Act.put, List.setIfInBounds_toArray, List.set_cons_zero, List.set_cons_succ]
      have HS := sameEffect_yes (effP P cl n K d s) (.agg #[.int .i64 (effP P cl n K d s).code, .slice p1 (effP P cl n K d s).nw q1, .int .u64 (effP P cl n K d s).dice, .int .u64 (effP P cl n K d s).sent, .slice o1 (effP P cl n K d s).on r1, .int .i64 (effP P cl n K d s).used]) (.agg #[.int .i64 (effP P cl n K d s).code, .slice p2 (effP P cl n K d s).nw q2, .int .u64 (effP P cl n K d s).dice, .int .u64 (effP P cl n K d s).sent, .slice o2 (effP P cl n K d s).on r2, .int .i64 (effP P cl n K d s).used]) w7 ⟨p1, q1, o1, r1, rfl, hx6.1.below hb7, hx6.2.below hb7⟩ ⟨p2, q2, o2, r2, rfl, hx7.1, hx7.2⟩ HSH.out.1 HSH.out.2.1 HSH.out.2.2
      refine wpAnyH_ready (rs := [6]) (by kernel_rfl) (by simp) (AllReadyH.cons rfl (fun KK hK => ?_) AllReadyH.nil)
      all_goals dsimp -proj only [List.getElem_toArray, List.getElem_cons_zero, List.getElem_cons_succ]
      go_simp
      go_at_call 13
      refine HS.mono ?_
      rintro e w8 ⟨rfl, hb8⟩
      try go_wp2_with fail
      have hs8 : Below wr.heap.size wr w8 := hs7.trans (hb8.mono hs7.size)
      refine hK.out _ _ hs8 (fun hHeld => ?_)
      clear hK KK
      try simp only [Act.put, List.setIfInBounds_toArray, List.set_cons_zero, List.set_cons_succ]
      refine wpAnyH_take (i := 7) (v := ?hv7u5) rfl (by kernel_rfl) (by kernel_rfl) (by kernel_rfl) (fun _ _ _ h => h) (Or.inl ⟨by rfl, ?hy7u5⟩) (by assumption) ?hr7u5
      case hy7u5 => ((intro W hSw; go_simp); try with_reducible rfl)
      simp only [List.getElem_toArray, List.getElem_cons_zero, List.getElem_cons_succ, Act.put, List.setIfInBounds_toArray, List.set_cons_zero, List.set_cons_succ]
      refine wpAnyH_done (by kernel_rfl) ?_ _
      go_wp2
      go_ret
      exact ⟨rfl, hBr.bel.trans (hs8.mono hBr.bel.size)⟩
theorem moves_law (P : Pg) (v : PgV) (cl : Cl) (q : Option Addr) (n c : Nat) (K : Nat → Int) (d s : Int) (f : Int) (w : World) (h : PAt w P v) (hc : CallAt w cl q n c K d s) (hA64 : ∀ i, i < P.n → In64 (P.a i)) (hlook : u64ok cl.look) (hroom : roomyP P) :
    Calls Try.prog 5 #[.agg #[.int .i64 P.words, .int .i64 P.locals, .slice v.cp P.n v.cc, .slice v.ep P.m v.ec], .agg #[.int .u64 cl.time, .int .i64 cl.src, .int .u64 cl.seq, .int .i64 cl.dst, .int .i64 cl.kind, .int .i64 cl.data, .slice q n c, .int .u64 d, .int .u64 s, .int .u64 cl.look, .int .i64 cl.parts, .int .i64 cl.fuel], .int .i64 f] w fun e w' => e = .returned (.bool true) ∧ Below w.heap.size w w' := by
  by_cases hf : f < 0 ∨ 100 < f ∨ (P.n : Int) + f > 4096
  · exact moves_out P v cl q n c K d s f w h hc hA64 hroom hf
  · by_cases hz : dcode P P.m = 0
    · obtain ⟨p, rfl⟩ : ∃ p : Nat, f = p := ⟨f.toNat, by omega⟩
      exact moves_ok p P v cl q n c K d s w h hc hA64 hroom ⟨hz, by omega, by omega⟩
    · exact moves_bad P v cl q n c K d s f w h hc hA64 hroom (by omega) hz
end Go.Proofs.Ytieanhmkcbcdkaa
