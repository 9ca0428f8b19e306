import Derived.Test.YtkfjcbnhohipgaaMR4
import Derived.ArgAppend
import Derived.BigQuiet
import Derived.Deep.RegionLaw
import Derived.Deep.RegionHeld3
import Derived.Deep.Cut
import Derived.Deep.DeepCutAuto
import Derived.Deep.CutBlock
import Derived.Deep.CutRange
import Derived.Deep.AppendLies
import Derived.Handy
import Derived.Lib.RabinKarpLaws
namespace Go.Proofs.Ytkfjcbnhohipgaa
open Go.ChangeShapes Go.WideShapes Go.ChangeAt Go.RowKit
set_option linter.unusedVariables false
set_option linter.unusedSimpArgs false


theorem MP.lower {W : World} {Fo : Nat → Option Obj} {base base' hb wb bb n : Nat} {room : Int} {cmp : Value} {R : Nat → Nat} {ph fl : Nat → Int} {H : Nat → Nat → Nat → Hf} (h : MP Fo W base hb wb bb n room cmp R ph fl H) (hb' : base' ≤ base) : MP Fo W base' hb wb bb n room cmp R ph fl H := ⟨h.p, h.w.lower hb', h.b.lower hb', fun i hi => (h.r i hi).lower hb', h.ap, fun i j k hi hj hk => (h.h i j k hi hj hk).lower hb', h.hd, Nat.le_trans hb' h.hbs, h.s, h.fr⟩
structure RTS (X : Nat → Nt) (N Rn : Nat) (W1 : World) (B hb wb bb n hd : Nat) (R : Nat → Nat) (wr : World) (r s : Nat → Nat) : Prop where
  pt : ∃ ph H, PT X N Rn wr B hb wb bb n R ph H r s
  ho : Own wr B 53 2 (.slice (some ⟨hd, 0, none⟩) n n) n (hdF r s)
  be : Below B W1 wr

def PIn (W : World) (q : Option Addr) (m : Nat) (Z : Nat → Int) : Prop := m = 0 ∨ ∃ b o, q = some ⟨b, o, none⟩ ∧ b < W.heap.size ∧ ∀ i, i < m → W.cell? ⟨b, o + i, none⟩ = some (.int .i64 (Z i))
theorem infoHD : (Try.prog.info? 53).map (fun i => (i.zero, i.size, i.bytes)) = some (some (.agg #[.int .i64 0, .int .i64 0]), 2, 16) := by kernel_rfl
set_option maxRecDepth 100000 in
set_option maxHeartbeats 4000000 in
theorem rounds_bad (wk rn : Int) (q : Option Addr) (N cq : Nat) (pq : Option Addr) (pn pc : Nat) (X : Nat → Nt) (hf : ¬ FitP wk rn N pn X) (W : World) (h : NIn W q N X) : Calls Try.prog 4 #[.agg #[.int .i64 wk, .int .i64 rn, .slice q N cq, .slice pq pn pc]] W fun e W' => e = .returned (.bool true) ∧ Below W.heap.size W W' := by
  obtain ⟨W1, hW1⟩ : ∃ W1, W.alloc (.cells #[.int .i64 wk, .int .i64 rn, .slice q N cq, .slice pq pn pc] 47) = W1 := ⟨_, rfl⟩
  obtain ⟨SB, hSB⟩ : ∃ SB, W.heap.size = SB := ⟨_, rfl⟩
  have hb1 : Below W.heap.size W W1 := by rw [← hW1]; exact (Below.refl _ W).alloc (Nat.le_refl _) _
  have hc1 : CrAt W1 SB wk rn q N cq pq pn pc := by rw [← hW1, ← hSB]; exact World.alloc_heap_new W _
  have HFI : Hid (∀ w', Below W1.heap.size W1 w' → Calls Try.prog 21 #[.agg #[.int .i64 wk, .int .i64 rn, .slice q N cq, .slice pq pn pc]] w' fun e w9 => e = .returned (.bool false) ∧ Below W.heap.size W w9) := fun w' hw' => by
    have key : Calls Try.prog 21 #[.agg #[.int .i64 wk, .int .i64 rn, .slice q N cq, .slice pq pn pc]] w' fun e w9 => e = .returned (.bool false) ∧ Below w'.heap.size w' w9 := by
      by_cases hg : (1 ≤ wk ∧ wk ≤ 8) ∧ (1 ≤ rn ∧ rn ≤ 6) ∧ (N ≤ 60 ∧ pn ≤ 500)
      · exact fits_good wk rn q N cq pq pn pc X hg false ⟨(fun e => by cases e), fun e => absurd ⟨hg, e⟩ hf⟩ w' ((h.later hb1).later hw')
      · exact fits_bad wk rn q N cq pq pn pc hg w'
    exact key.mono fun e w9 ⟨a1, a2⟩ => ⟨a1, hb1.trans ((hw'.mono hb1.size).trans (a2.mono (Nat.le_trans hb1.size hw'.size)))⟩
  obtain ⟨c0, c1, c2, c3⟩ := hc1.cells
  have HW1 := mhid hW1
  rw [hSB] at HFI ⊢
  clear hb1 hc1 hW1 h hf
  go_enter Try.func4, Try.ntmps4
  go_upto_region 1 with fail
  rw [HW1.out]
  clear hSB
  go_wp2_with (go_at_call 21; (with_reducible refine (HFI.out _ ?_).mono ?_); (first | exact Below.refl _ _ | exact drewB _ | exact below_drewNq _ _ _); rintro e9 w9 ⟨rfl, b9⟩; have B9 := mhid b9; clear b9)
  go_ret
  exact ⟨rfl, B9.out⟩
set_option maxRecDepth 100000 in
set_option maxHeartbeats 40000000 in
theorem rounds_good (n Rn : Nat) (q : Option Addr) (N cq : Nat) (pq : Option Addr) (pn pc : Nat) (X : Nat → Nt) (Z : Nat → Int) (hf : FitP (n : Int) (Rn : Int) N pn X) (W : World) (h : NIn W q N X) (hpi : PIn W pq pn Z) : Calls Try.prog 4 #[.agg #[.int .i64 (n : Int), .int .i64 (Rn : Int), .slice q N cq, .slice pq pn pc]] W fun e W' => e = .returned (.bool true) ∧ Below W.heap.size W W' := by
  obtain ⟨W1, hW1⟩ : ∃ W1, W.alloc (.cells #[.int .i64 (n : Int), .int .i64 (Rn : Int), .slice q N cq, .slice pq pn pc] 47) = W1 := ⟨_, rfl⟩
  obtain ⟨SB, hSB⟩ : ∃ SB, W.heap.size = SB := ⟨_, rfl⟩
  obtain ⟨B, hB⟩ : ∃ B, W1.heap.size = B := ⟨_, rfl⟩
  have hb1 : Below W.heap.size W W1 := by rw [← hW1]; exact (Below.refl _ W).alloc (Nat.le_refl _) _
  have hc1 : CrAt W1 SB (n : Int) (Rn : Int) q N cq pq pn pc := by rw [← hW1, ← hSB]; exact World.alloc_heap_new W _
  have hSBB : SB < B := by rw [← hB]; exact lt_of_block hc1
  have hn1 : 1 ≤ n := by have := hf.1.1; omega
  have hn8 : n ≤ 8 := by have := hf.1.1; omega
  have HF : Hid (NIn W1 q N X ∧ (pn = 0 ∨ ∃ pb po, pq = some ⟨pb, po, none⟩ ∧ pb < B ∧ ∀ i, i < pn → ∀ w', Below B W1 w' → w'.cell? ⟨pb, po + i, none⟩ = some (.int .i64 (Z i))) ∧ (∀ w', Below B W1 w' → CrAt w' SB (n : Int) (Rn : Int) q N cq pq pn pc) ∧ (1 ≤ n ∧ n ≤ 8 ∧ 1 ≤ Rn ∧ Rn ≤ 6 ∧ N ≤ 60 ∧ pn ≤ 500) ∧ n ≤ 64 ∧ W1.heap.size = B ∧ ∀ t, t < N → (0 ≤ (X t).f ∧ (X t).f < (n : Int)) ∧ (0 ≤ (X t).t ∧ (X t).t < (n : Int))) := by
    refine ⟨h.later hb1, ?_, fun w' hw' => (hw'.block SB hSBB).trans hc1, ⟨hn1, hn8, by have := hf.1.2.1; omega, by have := hf.1.2.1; omega, hf.1.2.2.1, hf.1.2.2.2⟩, by omega, hB, hf.2⟩
    rcases hpi with h0 | ⟨b, o, h1, h2, h3⟩
    · exact .inl h0
    · refine .inr ⟨b, o, h1, by rw [← hB]; exact Nat.lt_of_lt_of_le h2 hb1.size, fun i hi w' hw' => ?_⟩
      exact (hw'.cell (p := ⟨b, o + i, none⟩) (by rw [← hB]; exact Nat.lt_of_lt_of_le h2 hb1.size)).trans ((hb1.cell (p := ⟨b, o + i, none⟩) h2).trans (h3 i hi))
  have HFI : Hid (∀ w', Below W1.heap.size W1 w' → Calls Try.prog 21 #[.agg #[.int .i64 (n : Int), .int .i64 (Rn : Int), .slice q N cq, .slice pq pn pc]] w' fun e w9 => e = .returned (.bool true) ∧ Below B W1 w9) := fun w' hw' => (fits_good (n : Int) (Rn : Int) q N cq pq pn pc X hf.1 true ⟨fun _ => hf.2, fun _ => rfl⟩ w' ((h.later hb1).later hw')).mono fun e w9 ⟨a1, a2⟩ => ⟨a1, by rw [← hB]; exact hw'.trans (a2.mono hw'.size)⟩
  have HNW : Hid (∀ w2, Below B W1 w2 → Calls Try.prog 13 #[.int .i64 (n : Int), .int .i64 64, cvB] w2 fun e w3 => ∃ hb wb bb R, e = .returned (.tuple #[.pointer (some ⟨hb, 0, none⟩), .int .i64 0]) ∧ PT X N Rn w3 B hb wb bb n R (fun _ => 0) noH (fun _ => 0) (fun _ => 0) ∧ Below B W1 w3) := fun w2 hw2 => by
    refine (mb_newC 14 #[] n 64 (by omega) (by omega) (by decide) (by decide) w2).mono fun e w3 ⟨hb, wb, bb, R, a1, a2, a3⟩ => ?_
    have hB2 : B ≤ w2.heap.size := by have := hw2.size; rw [hB] at this; exact this
    exact ⟨hb, wb, bb, R, a1, ⟨a2.mp.lower hB2, RS.new X N n Rn (by have := hf.1.2.1; omega), Nat.le_trans hB2 a3.size⟩, hw2.trans (a3.mono hB2)⟩
  obtain ⟨iH, hH1, hH2, hH3, hH4⟩ := binfo infoHD
  have rH : ∀ w : World, (Instr.makeSlice 49 (.int .i64 (n : Int)) (.int .i64 (n : Int))).run Try.prog w = .ok (.slice (some ⟨w.heap.size, 0, none⟩) n n) (w.alloc (.cells (zA (.agg #[.int .i64 0, .int .i64 0]) n 2) 53)) := run_make_eq _ _ iH _ 2 Try.underlying49 hH1 hH2 hH3 n (by rw [hH4]; omega) (by omega)
  have HSBW : Hid (Below SB W W1) := by rw [← hSB]; exact hb1
  have HSBW2 : Hid (SB ≤ B) := Nat.le_of_lt hSBB
  obtain ⟨c0, c1, c2, c3⟩ := hc1.cells
  have HW1 := mhid hW1
  rw [hSB]
  clear hb1 hc1 hW1 h hf hpi hB hSBB hn1 hn8
  go_enter Try.func4, Try.ntmps4
  go_upto_region 1 with fail
  rw [HW1.out]
  clear hSB
  go_upto_region 3 with (go_at_call 21; (with_reducible refine (HFI.out _ ?_).mono ?_); (first | exact Below.refl _ _ | exact drewB _ | exact below_drewNq _ _ _); rintro e9 w2 ⟨rfl, b2⟩)
  obtain ⟨x0, x1, x2, x3⟩ := (HF.out.2.2.1 w2 b2).cells
  have HN2 := HNW.out w2 b2
  clear HFI HNW c0 c1 c2 c3 b2
  go_upto_region 6 with (go_at_call 13; (with_reducible refine HN2.mono ?_); rintro e9 w3 ⟨hb, wb, bb, R, rfl, p3, b3⟩)
  obtain ⟨c0, c1, c2, c3⟩ := (HF.out.2.2.1 w3 b3).cells
  clear HN2 x0 x1 x2 x3
  obtain ⟨w4, hw4⟩ : ∃ w4, w3.alloc (.cells (zA (.agg #[.int .i64 0, .int .i64 0]) n 2) 53) = w4 := ⟨_, rfl⟩
  obtain ⟨hd, hhd⟩ : ∃ a, w3.heap.size = a := ⟨_, rfl⟩
  have hb4 : Below w3.heap.size w3 w4 := by rw [← hw4]; exact (Below.refl _ w3).alloc (Nat.le_refl _) _
  have h4 : RTS X N Rn W1 B hb wb bb n hd R w4 (fun _ => 0) (fun _ => 0) := by
    refine ⟨⟨_, _, p3.later hb4⟩, ?_, b3.trans (hb4.mono p3.bs)⟩
    have o4 := own_new w3 53 (.agg #[.int .i64 0, .int .i64 0]) n 2 (by have := HF.out.2.2.2.1; unfold maxLen; omega)
    rw [hw4, hhd] at o4
    refine (o4.lower (by rw [← hhd]; exact p3.bs)).congr fun j hj => ?_
    rw [made2 _ n j hj]
    unfold hdF
    split <;> rfl
  have H4 := mhid h4
  have HW4 := mhid hw4
  clear hb4 h4 hw4 p3 b3
  go_upto_region 7 with fail
  rw [HW4.out]
  clear c0 c1 c2 c3 hhd rH
  go_wp2_with fail
  go_loopw [6] (fun y wr => ∃ (i : Nat) (r s : Nat → Nat), y = .int .i64 (i : Int) ∧ i ≤ pn ∧ RTS X N Rn W1 B hb wb bb n hd R wr r s) (fun y _ => pn - (intOf y).toNat)
  case atStart => exact ⟨0, _, _, rfl, Nat.zero_le _, H4.out⟩
  case round =>
    obtain ⟨i, r, s, rfl, hi, hrt⟩ := hrel
    obtain ⟨c0, c1, c2, c3⟩ := (HF.out.2.2.1 wr hrt.be).cells
    by_cases hlt : i < pn
    · have dl : decide ((i : Int) < (pn : Int)) = true := by simp; omega
      have dln : decide (i < pn) = true := by simp; omega
      have hme := meas hlt
      obtain ⟨hn1, hn8, hR1, hR6, hN, hpn⟩ := HF.out.2.2.2.1
      have ek : IntKind.i64.wrap ((i : Int) + 1) = (i : Int) + 1 := by rw [IntKind.wrap_i64]; omega
      have k0 : (0 : Int) ≤ (i : Int) := by omega
      have k1 : (i : Int) < (pn : Int) := by omega
      rcases HF.out.2.1 with h0 | ⟨pb, po, hpq, hpb, hpc⟩
      · omega
      have y0 := hpc i hlt wr hrt.be
      obtain ⟨z, hz⟩ : ∃ z, Z i = z := ⟨_, rfl⟩
      rw [hz] at y0
      have nz : ¬ ((n : Int) = 0) := by omega
      have nzn : ¬ (n = 0) := by omega
      obtain ⟨v, hv⟩ : ∃ v, z.tmod (n : Int) = v := ⟨_, rfl⟩
      have hvb : v < 0 ∨ ∃ w : Nat, v = (w : Int) ∧ w < n := by
        have h7 : z.tmod (n : Int) < (n : Int) := Int.tmod_lt_of_pos z (by omega)
        have h6 : -(n : Int) < z.tmod (n : Int) := by
          have := Int.lt_tmod_of_pos z (show (0 : Int) < (n : Int) by omega)
          exact this
        by_cases e : v < 0
        · exact .inl e
        · exact .inr ⟨v.toNat, by omega, by omega⟩
      subst hpq
      have HLT := mhid (And.intro hlt hrt)
      clear hlt hi hpc hz hn1 hn8 hR1 hR6 hN hpn hrt
      go_upto_region 10 with fail
      go_quiet (fail)
      go_upto_region 11 with fail
      generalize hwq : World.drewN wr _ = wq
      have hbq : Below wr.heap.size wr wq := by rw [← hwq]; exact below_drewNq _ _ _
      have hB9 : B ≤ wr.heap.size := by obtain ⟨_, _, hp⟩ := HLT.out.2.pt; exact hp.bs
      have rtq : RTS X N Rn W1 B hb wb bb n hd R wq r s := by
        obtain ⟨ph, H, hp⟩ := HLT.out.2.pt
        exact ⟨⟨ph, H, hp.later hbq⟩, HLT.out.2.ho.later hbq, HLT.out.2.be.trans (hbq.mono hB9)⟩
      obtain ⟨x0, x1, x2, x3⟩ := (HF.out.2.2.1 wq rtq.be).cells
      have HRQ := mhid rtq
      clear hwq hbq hB9 c0 c1 c2 c3 y0 hv rtq nz nzn
      rcases hvb with hv0 | ⟨w, rfl, hw⟩
      · have dv : decide (0 ≤ v) = false := by simp; omega
        clear hv0
        go_quiet (fail)
        go_wp2_with fail
        obtain ⟨ph, H, hp⟩ := HRQ.out.pt
        exact ⟨⟨i + 1, r, s, rfl, HLT.out.1, ⟨ph, H, hp.later (below_drewNq _ _ _)⟩, HRQ.out.ho.later (below_drewNq _ _ _), HRQ.out.be.trans ((below_drewNq _ _ _).mono hp.bs)⟩, hme⟩
      · have dv : decide ((0 : Int) ≤ (w : Int)) = true := by simp
        have w0 : (0 : Int) ≤ (w : Int) := by omega
        have w1 : (w : Int) < (n : Int) := by omega
        have HTU : Hid (∀ w', Below wq.heap.size wq w' → Calls Try.prog 22 #[.pointer (some ⟨hb, 0, none⟩), .agg #[.int .i64 (n : Int), .int .i64 (Rn : Int), .slice q N cq, .slice (some ⟨pb, po, none⟩) pn pc], .pointer (some ⟨hd, w * 2, none⟩), .int .i64 (w : Int)] w' fun e w9 => e = .returned (.bool true) ∧ (∃ r' s', RTS X N Rn W1 B hb wb bb n hd R w9 r' s') ∧ ((w9.cell? ⟨SB, 0, none⟩ = some (.int .i64 (n : Int)) ∧ w9.cell? ⟨SB, 1, none⟩ = some (.int .i64 (Rn : Int))) ∧ (w9.cell? ⟨SB, 2, none⟩ = some (.slice q N cq) ∧ w9.cell? ⟨SB, 3, none⟩ = some (.slice (some ⟨pb, po, none⟩) pn pc)))) := fun w' hw' => by
          obtain ⟨ph, H, hp⟩ := HRQ.out.pt
          have hbw := HRQ.out.be.trans (hw'.mono hp.bs)
          refine (turn_any X N Rn n q cq (some ⟨pb, po, none⟩) pn pc B hb wb bb hd R w hw HF.out.2.2.2.2.1 HF.out.2.2.2.1.2.2.2.1 HF.out.2.2.2.1.2.2.2.2.1 HF.out.2.2.2.2.2.2 W1 HF.out.2.2.2.2.2.1 HF.out.1 w' hbw (hp.later hw') (HRQ.out.ho.later hw')).mono fun e w9 ⟨a1, a2, ph', H', r', s', a3, a4, _⟩ => ?_
          have be9 := hbw.trans a2
          obtain ⟨g0, g1, g2, g3⟩ := (HF.out.2.2.1 w9 be9).cells
          exact ⟨a1, ⟨r', s', ⟨ph', H', a3⟩, a4, be9⟩, ⟨g0, g1⟩, g2, g3⟩
        clear hw
        go_region_held3 (fun w' => (w'.cell? ⟨SB, 0, none⟩ = some (.int .i64 (n : Int)) ∧ w'.cell? ⟨SB, 1, none⟩ = some (.int .i64 (Rn : Int))) ∧ (w'.cell? ⟨SB, 2, none⟩ = some (.slice q N cq) ∧ w'.cell? ⟨SB, 3, none⟩ = some (.slice (some ⟨pb, po, none⟩) pn pc))) (first | exact s7 | go_keep) ((go_at_call 22; (with_reducible refine (HTU.out _ ?_).mono ?_); (first | exact Below.refl _ _ | exact drewB _ | exact below_drewNq _ _ _); rintro e9 w9 ⟨rfl, l9, s7⟩; have L9 := mhid l9; clear l9))
        all_goals (
          go_wp2_with fail
          obtain ⟨r', s', h9⟩ := L9.out
          exact ⟨⟨i + 1, r', s', rfl, HLT.out.1, h9⟩, hme⟩)
    · have dl : decide ((i : Int) < (pn : Int)) = false := by simp; omega
      have dln : decide (i < pn) = false := by simp; omega
      obtain ⟨hn1, hn8, hR1, hR6, hN, hpn⟩ := HF.out.2.2.2.1
      have em : IntKind.i64.wrap ((Rn : Int) * 2) = ((Rn * 2 : Nat) : Int) := by rw [IntKind.wrap_i64]; omega
      obtain ⟨m1, hm1⟩ : ∃ m, Rn * 2 = m := ⟨_, rfl⟩
      rw [hm1] at em
      have em2 : IntKind.i64.wrap ((m1 : Int) + (N : Int)) = ((m1 + N : Nat) : Int) := by rw [IntKind.wrap_i64]; omega
      obtain ⟨m2, hm2⟩ : ∃ m, m1 + N = m := ⟨_, rfl⟩
      rw [hm2] at em2
      have em3 : IntKind.i64.wrap ((m2 : Int) + 2) = ((m2 + 2 : Nat) : Int) := by rw [IntKind.wrap_i64]; omega
      obtain ⟨m3, hm3⟩ : ∃ m, m2 + 2 = m := ⟨_, rfl⟩
      rw [hm3] at em3
      have hb4 : m3 * n ≤ 80 * 8 := Nat.mul_le_mul (by omega) hn8
      have em4 : IntKind.i64.wrap ((m3 : Int) * (n : Int)) = ((m3 * n : Nat) : Int) := by rw [IntKind.wrap_i64, ← Int.natCast_mul]; omega
      obtain ⟨m4, hm4⟩ : ∃ m, m3 * n = m := ⟨_, rfl⟩
      rw [hm4] at em4 hb4
      have hbig : (N + 2 * Rn) * n < m4 := by
        rw [← hm4, show m3 = (N + 2 * Rn) + 2 by omega, Nat.add_mul (N + 2 * Rn) 2 n]
        exact Nat.lt_add_of_pos_right (by omega)
      have HM4 := mhid (And.intro hbig hb4)
      have HI := mhid hrt
      clear hlt hi hn1 hn8 hR1 hR6 hN hpn hm1 hm2 hm3 hm4 hb4 hbig hrt
      go_wp2_with fail
      clear c0 c1 c2 c3 dl dln em em2 em3
      go_loopw [9] (fun y wr => ∃ (i : Nat) (r s : Nat → Nat), y = .int .i64 (i : Int) ∧ i ≤ m4 ∧ RTS X N Rn W1 B hb wb bb n hd R wr r s ∧ ((∀ w, w < n → r w = Rn) ∨ i ≤ MN X N n r s)) (fun y _ => m4 - (intOf y).toNat)
      case atStart => exact ⟨0, r, s, rfl, Nat.zero_le _, HI.out, .inr (Nat.zero_le _)⟩
      case round =>
        clear HI
        obtain ⟨i, r, s, rfl, hi, hrt, hpr⟩ := hrel
        obtain ⟨c0, c1, c2, c3⟩ := (HF.out.2.2.1 wr hrt.be).cells
        by_cases hlt : i < m4
        · have dl : decide ((i : Int) < (m4 : Int)) = true := by simp; omega
          have dln : decide (i < m4) = true := by simp; omega
          have hme := meas hlt
          have ek : IntKind.i64.wrap ((i : Int) + 1) = (i : Int) + 1 := by have := HM4.out.2; rw [IntKind.wrap_i64]; omega
          have HR := mhid (And.intro hrt (And.intro hpr hlt))
          clear hrt hpr hlt hi
          go_wp2_with fail
          clear c0 c1 c2 c3
          go_loopw [10] (fun y wr => ∃ (w : Nat) (r' s' : Nat → Nat), y = .int .i64 (w : Int) ∧ w ≤ n ∧ RTS X N Rn W1 B hb wb bb n hd R wr r' s' ∧ ((r' = r ∧ s' = s ∧ ∀ u, u < w → ¬ canG X N n Rn r s u) ∨ (MN X N n r s < MN X N n r' s' ∧ ¬ ∀ u, u < n → r u = Rn))) (fun y _ => n - (intOf y).toNat)
          case atStart => exact ⟨0, r, s, rfl, Nat.zero_le _, HR.out.1, .inl ⟨rfl, rfl, fun u hu => absurd hu (Nat.not_lt_zero _)⟩⟩
          case round =>
            obtain ⟨w, r', s', rfl, hw, hrt, hpr⟩ := hrel
            obtain ⟨x0, x1, x2, x3⟩ := (HF.out.2.2.1 wr hrt.be).cells
            by_cases hlw : w < n
            · have dw : decide ((w : Int) < (n : Int)) = true := by simp; omega
              have dwn : decide (w < n) = true := by simp; omega
              have hmw := meas hlw
              have ew : IntKind.i64.wrap ((w : Int) + 1) = (w : Int) + 1 := by have := HF.out.2.2.2.1.2.1; rw [IntKind.wrap_i64]; omega
              have w0 : (0 : Int) ≤ (w : Int) := by omega
              have w1 : (w : Int) < (n : Int) := by omega
              have HTU : Hid (∀ w', Below wr.heap.size wr w' → Calls Try.prog 22 #[.pointer (some ⟨hb, 0, none⟩), .agg #[.int .i64 (n : Int), .int .i64 (Rn : Int), .slice q N cq, .slice pq pn pc], .pointer (some ⟨hd, w * 2, none⟩), .int .i64 (w : Int)] w' fun e w9 => e = .returned (.bool true) ∧ (∃ r2 s2, RTS X N Rn W1 B hb wb bb n hd R w9 r2 s2 ∧ ((r2 = r ∧ s2 = s ∧ ∀ u, u < w + 1 → ¬ canG X N n Rn r s u) ∨ (MN X N n r s < MN X N n r2 s2 ∧ ¬ ∀ u, u < n → r u = Rn))) ∧ ((w9.cell? ⟨SB, 0, none⟩ = some (.int .i64 (n : Int)) ∧ w9.cell? ⟨SB, 1, none⟩ = some (.int .i64 (Rn : Int))) ∧ (w9.cell? ⟨SB, 2, none⟩ = some (.slice q N cq) ∧ w9.cell? ⟨SB, 3, none⟩ = some (.slice pq pn pc)))) := fun w' hw' => by
                obtain ⟨ph, H, hp⟩ := hrt.pt
                have hbw := hrt.be.trans (hw'.mono hp.bs)
                refine (turn_any X N Rn n q cq pq pn pc B hb wb bb hd R w hlw HF.out.2.2.2.2.1 HF.out.2.2.2.1.2.2.2.1 HF.out.2.2.2.1.2.2.2.2.1 HF.out.2.2.2.2.2.2 W1 HF.out.2.2.2.2.2.1 HF.out.1 w' hbw (hp.later hw') (hrt.ho.later hw')).mono fun e w9 ⟨a1, a2, ph', H', r2, s2, a3, a4, a5⟩ => ?_
                have be9 := hbw.trans a2
                obtain ⟨g0, g1, g2, g3⟩ := (HF.out.2.2.1 w9 be9).cells
                refine ⟨a1, ⟨r2, s2, ⟨⟨ph', H', a3⟩, a4, be9⟩, ?_⟩, ⟨g0, g1⟩, g2, g3⟩
                rcases a5 with ⟨rfl, rfl, hno⟩ | ⟨hlt9, hadv⟩
                · rcases hpr with ⟨rfl, rfl, h8⟩ | h8
                  · exact .inl ⟨rfl, rfl, fun u hu => by
                      by_cases e9 : u = w
                      · rw [e9]; exact hno
                      · exact h8 u (by omega)⟩
                  · exact .inr h8
                · have hm := hadv.more (n := n) hlw
                  rcases hpr with ⟨rfl, rfl, h8⟩ | h8
                  · exact .inr ⟨by omega, fun h7 => by have := h7 w hlw; omega⟩
                  · exact .inr ⟨by omega, h8.2⟩
              have HLW := mhid hlw
              clear hrt hpr hlw hw
              go_upto_region 20 with fail
              go_region_held3 (fun w' => (w'.cell? ⟨SB, 0, none⟩ = some (.int .i64 (n : Int)) ∧ w'.cell? ⟨SB, 1, none⟩ = some (.int .i64 (Rn : Int))) ∧ (w'.cell? ⟨SB, 2, none⟩ = some (.slice q N cq) ∧ w'.cell? ⟨SB, 3, none⟩ = some (.slice pq pn pc))) (first | exact s7 | go_keep) ((go_at_call 22; (with_reducible refine (HTU.out _ ?_).mono ?_); (first | exact Below.refl _ _ | exact drewB _ | exact below_drewNq _ _ _); rintro e9 w9 ⟨rfl, l9, s7⟩; have L9 := mhid l9; clear l9))
              all_goals (
                go_wp2_with fail
                obtain ⟨r2, s2, h9, h8⟩ := L9.out
                exact ⟨⟨w + 1, r2, s2, rfl, HLW.out, h9, h8⟩, hmw⟩)
            · have dw : decide ((w : Int) < (n : Int)) = false := by simp; omega
              have dwn : decide (w < n) = false := by simp; omega
              obtain rfl : w = n := by omega
              have hnext : (∀ u, u < w → r' u = Rn) ∨ i + 1 ≤ MN X N w r' s' := by
                rcases hpr with ⟨rfl, rfl, h8⟩ | ⟨h8, h7⟩
                · left
                  obtain ⟨ph, H, hp⟩ := hrt.pt
                  intro u hu
                  have he := (hp.rs.e u hu).1
                  rcases Nat.lt_or_ge (r' u) Rn with h9 | h9
                  · obtain ⟨g, hg, hc⟩ := hp.rs.go HF.out.2.2.2.1.1 ⟨u, hu, h9⟩
                    exact absurd hc (h8 g hg)
                  · omega
                · right
                  rcases HR.out.2.1 with h6 | h6
                  · exact absurd h6 h7
                  · omega
              have HK := mhid (And.intro hrt hnext)
              clear hrt hpr hnext hlw hw
              go_wp2_with fail
              exact ⟨⟨i + 1, r', s', rfl, HR.out.2.2, HK.out.1, HK.out.2⟩, hme⟩
        · have dl : decide ((i : Int) < (m4 : Int)) = false := by simp; omega
          have dln : decide (i < m4) = false := by simp; omega
          have hfin : ∀ w, w < n → r w = Rn := by
            rcases hpr with h8 | h8
            · exact h8
            · obtain ⟨ph, H, hp⟩ := hrt.pt
              have h9 := hp.rs.lim
              have h7 := HM4.out.1
              omega
          have HR := mhid (And.intro hrt hfin)
          clear hrt hpr hfin hlt hi
          go_wp2_with fail
          clear c0 c1 c2 c3 dl dln
          go_loopw [11] (fun y wr => ∃ w : Nat, y = .int .i64 (w : Int) ∧ w ≤ n ∧ RTS X N Rn W1 B hb wb bb n hd R wr r s) (fun y _ => n - (intOf y).toNat)
          case atStart => exact ⟨0, rfl, Nat.zero_le _, HR.out.1⟩
          case round =>
            obtain ⟨w, rfl, hw, hrt⟩ := hrel
            obtain ⟨x0, x1, x2, x3⟩ := (HF.out.2.2.1 wr hrt.be).cells
            by_cases hlw : w < n
            · have dw : decide ((w : Int) < (n : Int)) = true := by simp; omega
              have dwn : decide (w < n) = true := by simp; omega
              have hmw := meas hlw
              have ew : IntKind.i64.wrap ((w : Int) + 1) = (w : Int) + 1 := by have := HF.out.2.2.2.1.2.1; rw [IntKind.wrap_i64]; omega
              have w0 : (0 : Int) ≤ (w : Int) := by omega
              have w1 : (w : Int) < (n : Int) := by omega
              have z0 : wr.cell? ⟨hd, w * 2, none⟩ = some (.int .i64 (Rn : Int)) := by
                have h8 := hrt.ho.cell (j := w * 2) (by omega)
                unfold hdF at h8
                rw [if_pos (by omega), show w * 2 / 2 = w by omega, HR.out.2 w hlw] at h8
                exact h8
              have nq : ((Rn : Int) != (Rn : Int)) = false := by simp
              have HK := mhid (And.intro hrt hlw)
              clear hrt hlw hw
              go_upto_region 25 with fail
              go_quiet (fail)
              go_wp2_with fail
              obtain ⟨ph, H, hp⟩ := HK.out.1.pt
              exact ⟨⟨w + 1, rfl, HK.out.2, ⟨ph, H, hp.later (below_drewNq _ _ _)⟩, HK.out.1.ho.later (below_drewNq _ _ _), HK.out.1.be.trans ((below_drewNq _ _ _).mono hp.bs)⟩, hmw⟩
            · have dw : decide ((w : Int) < (n : Int)) = false := by simp; omega
              have dwn : decide (w < n) = false := by simp; omega
              have HK : Hid (Below B W1 wr) := hrt.be
              clear hrt hlw hw
              go_wp2_with fail
              go_ret
              exact ⟨rfl, HSBW.out.trans (HK.out.mono HSBW2.out)⟩
theorem rounds_law (wk rn : Int) (q : Option Addr) (N cq : Nat) (pq : Option Addr) (pn pc : Nat) (X : Nat → Nt) (Z : Nat → Int) (W : World) (h : NIn W q N X) (hpi : PIn W pq pn Z) : Calls Try.prog 4 #[.agg #[.int .i64 wk, .int .i64 rn, .slice q N cq, .slice pq pn pc]] W fun e W' => e = .returned (.bool true) ∧ Below W.heap.size W W' := by
  by_cases hf : FitP wk rn N pn X
  · obtain ⟨n, rfl⟩ := Int.eq_ofNat_of_zero_le (by have := hf.1.1; omega : 0 ≤ wk)
    obtain ⟨Rn, rfl⟩ := Int.eq_ofNat_of_zero_le (by have := hf.1.2.1; omega : 0 ≤ rn)
    exact rounds_good n Rn q N cq pq pn pc X Z hf W h hpi
  · exact rounds_bad wk rn q N cq pq pn pc X hf W h
end Go.Proofs.Ytkfjcbnhohipgaa
