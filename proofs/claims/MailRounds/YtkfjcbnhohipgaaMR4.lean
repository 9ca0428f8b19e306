import Derived.Test.YtkfjcbnhohipgaaMR4a
import Derived.ArgAppend
import Derived.BigQuiet
import Derived.Deep.RegionLaw
import Derived.Deep.RegionHeld3
import Derived.Deep.Cut
import Derived.Deep.DeepCutAuto
import Derived.Deep.CutBlock
import Derived.Deep.CutRange
import Derived.Deep.AppendLies
import Derived.Handy
import Derived.Lib.RabinKarpLaws
namespace Go.Proofs.Ytkfjcbnhohipgaa
open Go.ChangeShapes Go.WideShapes Go.ChangeAt Go.RowKit
set_option linter.unusedVariables false
set_option linter.unusedSimpArgs false



set_option maxRecDepth 100000 in
set_option maxHeartbeats 16000000 in
theorem turn_any (X : Nat → Nt) (N Rn n : Nat) (q : Option Addr) (cq : Nat) (pq : Option Addr) (pn pc B hb wb bb hd : Nat) (R : Nat → Nat) (w : Nat) (hw : w < n) (hn : n ≤ 64) (hR : Rn ≤ 6) (hN : N ≤ 60) (hfit : ∀ t, t < N → (0 ≤ (X t).f ∧ (X t).f < (n : Int)) ∧ (0 ≤ (X t).t ∧ (X t).t < (n : Int))) (W0 : World) (hB0 : W0.heap.size = B) (hin0 : NIn W0 q N X) {ph : Nat → Int} {H : Nat → Nat → Nat → Hf} {r s : Nat → Nat} (W : World) (hbw : Below B W0 W) (hpt : PT X N Rn W B hb wb bb n R ph H r s) (hh : Own W B 53 2 (.slice (some ⟨hd, 0, none⟩) n n) n (hdF r s)) :
    Calls Try.prog 22 #[.pointer (some ⟨hb, 0, none⟩), .agg #[.int .i64 (n : Int), .int .i64 (Rn : Int), .slice q N cq, .slice pq pn pc], .pointer (some ⟨hd, w * 2, none⟩), .int .i64 (w : Int)] W fun e W' => e = .returned (.bool true) ∧ Below B W W' ∧ ∃ ph' H' r' s', PT X N Rn W' B hb wb bb n R ph' H' r' s' ∧ Own W' B 53 2 (.slice (some ⟨hd, 0, none⟩) n n) n (hdF r' s') ∧ TurnR X N n Rn r s w r' s' := by
  obtain ⟨SB, hSB⟩ : ∃ SB, W.heap.size = SB := ⟨_, rfl⟩
  obtain ⟨W1, hW1⟩ : ∃ W1, W.alloc (.cells #[.int .i64 (n : Int), .int .i64 (Rn : Int), .slice q N cq, .slice pq pn pc] 47) = W1 := ⟨_, rfl⟩
  have hb1 : Below W.heap.size W W1 := by rw [← hW1]; exact (Below.refl _ W).alloc (Nat.le_refl _) _
  have hc1 : CrAt W1 SB (n : Int) (Rn : Int) q N cq pq pn pc := by rw [← hW1, ← hSB]; exact World.alloc_heap_new W _
  have hp1 := hpt.later hb1
  have hh1 := hh.later hb1
  have hbB : Below B W W1 := hb1.mono hpt.bs
  obtain ⟨rho, hrho⟩ : ∃ a, r w = a := ⟨_, rfl⟩
  obtain ⟨sig, hsig⟩ : ∃ a, s w = a := ⟨_, rfl⟩
  obtain ⟨M, hM⟩ : ∃ M, onN X N w rho = M := ⟨_, rfl⟩
  have hsl : sig ≤ M + 1 := by rw [← hsig, ← hM, ← hrho]; exact hpt.rs.sl w hw
  have z0 : W1.cell? ⟨hd, w * 2, none⟩ = some (.int .i64 (rho : Int)) := by
    have h8 := hh1.cell (j := w * 2) (by omega)
    unfold hdF at h8
    rw [if_pos (by omega), show w * 2 / 2 = w by omega, hrho] at h8
    exact h8
  have HF : Hid ((∀ w', Below B W w' → NIn w' q N X) ∧ (∀ nb no, q = some ⟨nb, no, none⟩ → N = 0 ∨ nb < B) ∧ N ≤ 60 ∧ Rn ≤ 6 ∧ (n ≤ 64 ∧ True) ∧ ∀ t, t < N → (0 ≤ (X t).f ∧ (X t).f < (n : Int)) ∧ (0 ≤ (X t).t ∧ (X t).t < (n : Int))) := ⟨fun w' hw' => hin0.later (by rw [hB0]; exact hbw.trans hw'), fun nb no hq => by
    rcases hin0 with h0 | ⟨b, o, h1, h2, _⟩
    · exact .inl h0
    · rw [hq] at h1
      injection h1 with h1
      injection h1 with h1
      rw [h1, ← hB0]
      exact .inr h2, hN, hR, ⟨hn, trivial⟩, hfit⟩
  have HWN := mhid hw
  have HRS := mhid (And.intro hrho hsig)
  have HM := mhid hM
  have HW1 := mhid hW1
  have H1 := mhid (And.intro hp1 (And.intro hh1 (And.intro hbB hc1)))
  obtain ⟨c0, c1, c2, c3⟩ := hc1.cells
  have lS := lt_of_block hc1
  have lh := (hh1.lt hd rfl).2
  have HMI : Hid (∀ w', Below W1.heap.size W1 w' → Calls Try.prog 40 #[.agg #[.int .i64 (n : Int), .int .i64 (Rn : Int), .slice q N cq, .slice pq pn pc], .int .i64 (rho : Int), .int .i64 (w : Int)] w' fun e w9 => ∃ oq oc, e = .returned (.slice oq M oc) ∧ Own w9 B 3 1 (.slice oq M oc) M (iLF (ownN X N rho w)) ∧ Below W1.heap.size W1 w9) := fun w' hw' => by
    have h8 := mine_any (n : Int) (Rn : Int) q N cq pq pn pc X rho w (by omega) w' (HF.out.1 w' (hbB.trans (hw'.mono hp1.bs)))
    rw [hM] at h8
    refine h8.mono fun e w9 ⟨v, a1, a2, a3⟩ => ?_
    obtain ⟨oq, oc, rfl⟩ : ∃ q c, v = .slice q M c := by
      rcases a2.form with ⟨a, b⟩ | ⟨g, c, a, _⟩
      · exact ⟨none, 0, by rw [a, b]⟩
      · exact ⟨_, _, a⟩
    exact ⟨oq, oc, a1, a2.lower (Nat.le_trans hp1.bs hw'.size), hw'.trans (a3.mono hw'.size)⟩
  have KP : Hid (∀ w9, Below W1.heap.size W1 w9 → (w9.cell? ⟨SB, 0, none⟩ = some (.int .i64 (n : Int)) ∧ w9.cell? ⟨SB, 1, none⟩ = some (.int .i64 (Rn : Int))) ∧ (w9.cell? ⟨SB, 2, none⟩ = some (.slice q N cq) ∧ (w9.cell? ⟨SB, 3, none⟩ = some (.slice pq pn pc) ∧ w9.cell? ⟨hd, w * 2, none⟩ = some (.int .i64 (rho : Int))))) := fun w9 h9 => ⟨⟨(h9.cell (p := ⟨SB, 0, none⟩) lS).trans c0, (h9.cell (p := ⟨SB, 1, none⟩) lS).trans c1⟩, (h9.cell (p := ⟨SB, 2, none⟩) lS).trans c2, (h9.cell (p := ⟨SB, 3, none⟩) lS).trans c3, (h9.cell (p := ⟨hd, w * 2, none⟩) lh).trans z0⟩
  clear hb1 hc1 hp1 hh1 hbB hrho hsig hM hW1 lS lh hin0 hB0 hbw hpt hh hfit hw hn hR hN
  by_cases hr : rho < Rn
  · have d1 : decide ((Rn : Int) ≤ (rho : Int)) = false := by simp; omega
    have d1n : decide (Rn ≤ rho) = false := by simp; omega
    go_enter Try.func22, Try.ntmps22
    go_upto_region 1 with fail
    rw [HW1.out]
    clear hSB
    go_quiet (fail)
    go_upto_region 3 with fail
    go_region_held3 (fun w' => (w'.cell? ⟨SB, 0, none⟩ = some (.int .i64 (n : Int)) ∧ w'.cell? ⟨SB, 1, none⟩ = some (.int .i64 (Rn : Int))) ∧ (w'.cell? ⟨SB, 2, none⟩ = some (.slice q N cq) ∧ (w'.cell? ⟨SB, 3, none⟩ = some (.slice pq pn pc) ∧ w'.cell? ⟨hd, w * 2, none⟩ = some (.int .i64 (rho : Int))))) (first | exact s6 | go_keep) ((go_at_call 40; (with_reducible refine (HMI.out _ ?_).mono ?_); (first | exact Below.refl _ _ | exact drewB _ | exact below_drewNq _ _ _); rintro e9 w9 ⟨oq, oc, rfl, o9, b9⟩; have s6 := KP.out w9 b9; have O9 := mhid (And.intro o9 b9); clear o9 b9))
    all_goals (
      obtain ⟨⟨t0, t1⟩, t2, t3, t4⟩ := KP.out w9 O9.out.2
      have hb9 := O9.out.2
      have h9p := H1.out.1.later hb9
      have h9h := H1.out.2.1.later hb9
      have s9 : w9.cell? ⟨hd, w * 2 + 1, none⟩ = some (.int .i64 (sig : Int)) := by
        have h8 := h9h.cell (j := w * 2 + 1) (by have := HWN.out; omega)
        unfold hdF at h8
        rw [if_neg (by omega), show (w * 2 + 1) / 2 = w by omega, HRS.out.2] at h8
        exact h8
      have f9 : ∀ k, w9.frozen? ⟨hd, k, none⟩ = false := fun k => by obtain ⟨cr, hcr, _⟩ := h9h.block; exact frz hcr _
      have H9 : Hid (PT X N Rn w9 B hb wb bb n R ph H r s ∧ Own w9 B 53 2 (.slice (some ⟨hd, 0, none⟩) n n) n (hdF r s) ∧ Below B W w9 ∧ CrAt w9 SB (n : Int) (Rn : Int) q N cq pq pn pc) := ⟨h9p, h9h, H1.out.2.2.1.trans (hb9.mono H1.out.1.bs), (hb9.block _ (lt_of_block H1.out.2.2.2)).trans H1.out.2.2.2⟩
      have HO9 : Hid (Own w9 B 3 1 (.slice oq M oc) M (iLF (ownN X N rho w)) ∧ True) := ⟨O9.out.1, trivial⟩
      clear hb9 h9p h9h c0 c1 c2 c3 z0 d1 d1n
      rcases (by omega : sig < M ∨ sig = M ∨ sig = M + 1) with hlt | hlt | hlt
      · clear hsl
        obtain ⟨t0, ht⟩ : ∃ t, (ownN X N rho w)[sig]? = some t := ⟨_, List.getElem?_eq_getElem (by have : (ownN X N rho w).length = M := HM.out; omega)⟩
        have hmem := ownN_mem (List.mem_iff_getElem?.2 ⟨sig, ht⟩)
        have hfit := HF.out.2.2.2.2.2 t0 hmem.1
        obtain ⟨j0, hj0⟩ := Int.eq_ofNat_of_zero_le hfit.2.1
        have hj0n : j0 < n := by have := hfit.2.2; omega
        rcases HO9.out.1.form with ⟨_, h0⟩ | ⟨og, oc', h1, _⟩
        · omega
        injection h1 with h1 _ h1c
        subst h1 h1c
        have x0 : w9.cell? ⟨og, sig, none⟩ = some (.int .i64 (t0 : Int)) := by
          have h8 := HO9.out.1.cell (j := sig) (by omega)
          unfold iLF at h8
          rw [List.getD_eq_getElem?_getD, ht] at h8
          exact h8
        have dl : decide ((sig : Int) < (M : Int)) = true := by simp; omega
        have dln : decide (sig < M) = true := by simp; omega
        have g0 : (0 : Int) ≤ (sig : Int) := by omega
        have g1 : (sig : Int) < (M : Int) := by omega
        have ek : IntKind.i64.wrap ((sig : Int) + 1) = ((sig + 1 : Nat) : Int) := by have := HM.out; have := ownN_len X N rho w; have := HF.out.2.2.1; rw [IntKind.wrap_i64]; omega
        obtain ⟨sig1, hsig1⟩ : ∃ a, sig + 1 = a := ⟨_, rfl⟩
        rw [hsig1] at ek
        obtain ⟨w10, hw10⟩ : ∃ w10, w9.setCell ⟨hd, w * 2 + 1, none⟩ (.int .i64 (sig1 : Int)) = w10 := ⟨_, rfl⟩
        have h10 : ∀ k, k ≠ hd → w10.heap[k]? = w9.heap[k]? := fun k hk => by rw [← hw10]; exact Below.heap_setCell _ _ _ _ hk
        have z10 : w10.heap.size = w9.heap.size := by rw [← hw10]; simp [World.setCell]
        have p10 := H9.out.1.hand H9.out.2.1 z10 h10
        have o10 : Own w10 B 53 2 (.slice (some ⟨hd, 0, none⟩) n n) n (hdF r (upN s w (s w + 1))) := by
          rw [HRS.out.2, hsig1, ← hw10]
          exact hd_set r s w sig1 H9.out.2.1
        have hBhd := (H9.out.2.1.lt hd rfl).1
        have b10 : Below B W w10 := by rw [← hw10]; exact H9.out.2.2.1.setCell (p := ⟨hd, w * 2 + 1, none⟩) hBhd _
        have c10 : CrAt w10 SB (n : Int) (Rn : Int) q N cq pq pn pc := (h10 SB (fun e => H9.out.2.1.apart H9.out.2.2.2 (by decide) hd rfl e.symm)).trans H9.out.2.2.2
        have n10 : NIn w10 q N X := HF.out.1 w10 b10
        rcases n10 with h0 | ⟨nb, no, hq, hnl, hnc⟩
        · omega
        have hnB : nb < B := (HF.out.2.1 nb no hq).resolve_left (by omega)
        obtain ⟨-, -, y2, y3⟩ := hnc t0 hmem.1
        rw [hj0] at y2
        obtain ⟨ak, hak⟩ : ∃ a, (X t0).k = a := ⟨_, rfl⟩
        rw [hak] at y3
        have t0a : (0 : Int) ≤ (t0 : Int) := by omega
        have t0b : (t0 : Int) < (N : Int) := by omega
        have HSD : Hid (∀ w', Below w10.heap.size w10 w' → Calls Try.prog 15 #[.pointer (some ⟨hb, 0, none⟩), .int .i64 (w : Int), .int .i64 (j0 : Int), .agg #[.int .i64 ak, .int .i64 (t0 : Int)]] w' fun e w11 => e = .returned (.int .i64 0) ∧ (Below B W w11 ∧ ∃ H', PT X N Rn w11 B hb wb bb n R ph H' r (upN s w (s w + 1)) ∧ Own w11 B 53 2 (.slice (some ⟨hd, 0, none⟩) n n) n (hdF r (upN s w (s w + 1)))) ∧ (w11.cell? ⟨SB, 2, none⟩ = some (.slice q N cq) ∧ (w11.cell? ⟨nb, no + t0 * 4 + 2, none⟩ = some (.int .i64 (j0 : Int)) ∧ w11.cell? ⟨nb, no + t0 * 4 + 3, none⟩ = some (.int .i64 ak)))) := fun w' hw' => by
          have hbs : B ≤ w10.heap.size := p10.bs
          have hs := (p10.later hw').send HF.out.2.2.2.1 HF.out.2.2.1 (w := w) (j0 := j0) (t0 := t0) HWN.out hj0n (by rw [HRS.out.1]; exact hr) (by rw [HRS.out.1, HRS.out.2, HM.out]; exact hlt) (by rw [HRS.out.1, HRS.out.2]; exact ht) hj0
          rw [hak] at hs
          refine hs.mono fun e w11 ⟨a1, a2, a3, H', a4⟩ => ⟨a1, ⟨(b10.trans (hw'.mono hbs)).trans a2, H', a4, (o10.later hw').kt a3 (by decide)⟩, ?_, ?_, ?_⟩
          · have c11 : CrAt w11 SB (n : Int) (Rn : Int) q N cq pq pn pc := a3 _ _ _ _ ((hw'.block _ (lt_of_block c10)).trans c10) (by decide)
            exact c11.cells.2.2.1
          · exact (a2.cell (p := ⟨nb, no + t0 * 4 + 2, none⟩) hnB).trans ((hw'.cell (p := ⟨nb, no + t0 * 4 + 2, none⟩) hnl).trans y2)
          · exact (a2.cell (p := ⟨nb, no + t0 * 4 + 3, none⟩) hnB).trans ((hw'.cell (p := ⟨nb, no + t0 * 4 + 3, none⟩) hnl).trans y3)
        obtain ⟨-, -, k2, -⟩ := c10.cells
        have HW10 := mhid hw10
        have HEND : Hid (TurnR X N n Rn r s w r (upN s w (s w + 1))) := .inr ⟨by rw [HRS.out.1]; exact hr, .inl ⟨by rw [HRS.out.1, HRS.out.2, HM.out]; omega, rfl, rfl⟩⟩
        have HQ := mhid hq
        clear ht hmem hfit hj0 hj0n hsig1 hw10 h10 z10 p10 o10 b10 c10 hnl hnc hak hnB hlt hr hBhd
        go_upto_region 7 with fail
        rw [HW10.out]
        subst hq
        go_region_held3 (fun w' => w'.cell? ⟨SB, 2, none⟩ = some (.slice (some ⟨nb, no, none⟩) N cq) ∧ (w'.cell? ⟨nb, no + t0 * 4 + 2, none⟩ = some (.int .i64 (j0 : Int)) ∧ w'.cell? ⟨nb, no + t0 * 4 + 3, none⟩ = some (.int .i64 ak))) (first | exact s7 | go_keep) ((go_at_call 15; (with_reducible refine (HSD.out _ ?_).mono ?_); (first | exact Below.refl _ _ | exact drewB _ | exact below_drewNq _ _ _); rintro e9 w11 ⟨rfl, l9, s7⟩; have L9 := mhid l9; clear l9))
        all_goals (
          go_wp2_with fail
          go_ret
          obtain ⟨b11, H11, p11, o11⟩ := L9.out
          exact ⟨rfl, b11, ph, H11, r, _, p11, o11, HEND.out⟩)
      · subst hlt
        clear hsl
        have dl : decide ((sig : Int) < (sig : Int)) = false := by simp
        have dln : decide (sig < sig) = false := by simp
        have de : ((sig : Int) == (sig : Int)) = true := by simp
        have ek : IntKind.i64.wrap ((sig : Int) + 1) = ((sig + 1 : Nat) : Int) := by have := HM.out; have := ownN_len X N rho w; have := HF.out.2.2.1; rw [IntKind.wrap_i64]; omega
        obtain ⟨sig1, hsig1⟩ : ∃ a, sig + 1 = a := ⟨_, rfl⟩
        rw [hsig1] at ek
        have hss : s w = onN X N w (r w) := by rw [HRS.out.1, HRS.out.2, HM.out]
        by_cases hf : Low ph n w ∨ sentP H n w (ph w - 1) ∨ dueP H ph n w
        · have HFL : Calls Try.prog 16 #[.pointer (some ⟨hb, 0, none⟩), .int .i64 (w : Int)] w9 fun e W' => e = .returned (.int .i64 92) ∧ Below B W W' ∧ PT X N Rn W' B hb wb bb n R ph H r s ∧ Own W' B 53 2 (.slice (some ⟨hd, 0, none⟩) n n) n (hdF r s) := (H9.out.1.flipNo HF.out.2.2.2.2.1.1 HF.out.2.2.2.1 HWN.out hf).mono fun e W' ⟨a1, a2, a3, a4⟩ => ⟨a1, H9.out.2.2.1.trans a2, a4, H9.out.2.1.kt a3 (by decide)⟩
          have HEND : Hid (TurnR X N n Rn r s w r s) := .inl ⟨rfl, rfl, fun hc => by
            rcases hc.2 with h8 | ⟨h8, h7⟩
            · omega
            · exact H9.out.1.rs.mayFlip HWN.out hss h8 (h7 hss) hf⟩
          clear hf hss hsig1 hr
          go_wp2_with (go_at_call 16; (with_reducible refine HFL.mono ?_); rintro e9 w11 ⟨rfl, b11, p11, o11⟩; have L9 := mhid (And.intro b11 (And.intro p11 o11)); clear b11 p11 o11)
          go_ret
          exact ⟨rfl, L9.out.1, ph, H, r, s, L9.out.2.1, L9.out.2.2, HEND.out⟩
        · have HFL : Calls Try.prog 16 #[.pointer (some ⟨hb, 0, none⟩), .int .i64 (w : Int)] w9 fun e W' => e = .returned (.int .i64 0) ∧ Below B W W' ∧ (∃ ph', PT X N Rn W' B hb wb bb n R ph' H r (upN s w (s w + 1))) ∧ Own W' B 53 2 (.slice (some ⟨hd, 0, none⟩) n n) n (hdF r s) := (H9.out.1.flipYes HF.out.2.2.2.2.1.1 HF.out.2.2.2.1 HWN.out (by rw [HRS.out.1]; exact hr) hss hf).mono fun e W' ⟨a1, a2, a3, a4⟩ => ⟨a1, H9.out.2.2.1.trans a2, a4, H9.out.2.1.kt a3 (by decide)⟩
          have HEND : Hid (TurnR X N n Rn r s w r (upN s w (s w + 1))) := .inr ⟨by rw [HRS.out.1]; exact hr, .inl ⟨by omega, rfl, rfl⟩⟩
          have HSG := mhid hsig1
          clear hf hss hsig1 hr
          go_upto_region 10 with (go_at_call 16; (with_reducible refine HFL.mono ?_); rintro e9 w11 ⟨rfl, b11, p11, o11⟩)
          have q1 : w11.cell? ⟨hd, w * 2 + 1, none⟩ = some (.int .i64 (sig : Int)) := by
            have h8 := o11.cell (j := w * 2 + 1) (by have := HWN.out; omega)
            unfold hdF at h8
            rw [if_neg (by omega), show (w * 2 + 1) / 2 = w by omega, HRS.out.2] at h8
            exact h8
          have fq : ∀ k, w11.frozen? ⟨hd, k, none⟩ = false := fun k => by obtain ⟨cr, hcr, _⟩ := o11.block; exact frz hcr _
          have L9 := mhid (And.intro b11 (And.intro p11 o11))
          clear b11 p11 o11 HFL
          go_wp2_with fail
          go_ret
          obtain ⟨b11, ⟨ph', p11⟩, o11⟩ := L9.out
          have o12 := hd_set r s w sig1 o11
          refine ⟨rfl, b11.setCell (p := ⟨hd, w * 2 + 1, none⟩) (o11.lt hd rfl).1 _, ph', H, r, _, p11.hand o11 (by simp [World.setCell]) (fun k hk => Below.heap_setCell _ _ _ _ hk), ?_, HEND.out⟩
          rw [HRS.out.2, HSG.out]
          exact o12
      · subst hlt
        clear hsl
        have dl : decide (((M + 1 : Nat) : Int) < (M : Int)) = false := by simp; omega
        have dln : decide (M + 1 < M) = false := by simp
        have de : (((M + 1 : Nat) : Int) == (M : Int)) = false := by simp; omega
        have den : ((M : Int) + 1 == (M : Int)) = false := by simp; omega
        have hss : s w = onN X N w (r w) + 1 := by rw [HRS.out.1, HRS.out.2, HM.out]
        obtain ⟨sg, hsg⟩ : ∃ a, M + 1 = a := ⟨_, rfl⟩
        rw [hsg] at dl dln de s9
        have HSG := mhid hsg
        clear den
        by_cases hl : Low ph n w
        · have HDN : Calls Try.prog 17 #[.pointer (some ⟨hb, 0, none⟩), .int .i64 (w : Int)] w9 fun e W' => e = .returned (.tuple #[.slice none 0 0, .int .i64 92]) ∧ Below B W W' ∧ PT X N Rn W' B hb wb bb n R ph H r s ∧ Own W' B 53 2 (.slice (some ⟨hd, 0, none⟩) n n) n (hdF r s) := (H9.out.1.drainNo HF.out.2.2.2.2.1.1 HWN.out hl).mono fun e W' ⟨a1, a2, a3, a4⟩ => ⟨a1, H9.out.2.2.1.trans a2, a4, H9.out.2.1.kt a3 (by decide)⟩
          have HEND : Hid (TurnR X N n Rn r s w r s) := .inl ⟨rfl, rfl, fun hc => by
            rcases hc.2 with h8 | ⟨h8, _⟩
            · omega
            · obtain ⟨i, hi, h9⟩ := hl
              have := h8 i hi
              rw [H9.out.1.rs.p i hi, H9.out.1.rs.p w HWN.out] at h9
              omega⟩
          clear hl hss hsg hr
          go_wp2_with (go_at_call 17; (with_reducible refine HDN.mono ?_); rintro e9 w11 ⟨rfl, b11, p11, o11⟩; have L9 := mhid (And.intro b11 (And.intro p11 o11)); clear b11 p11 o11)
          go_ret
          exact ⟨rfl, L9.out.1, ph, H, r, s, L9.out.2.1, L9.out.2.2, HEND.out⟩
        · have hdr := H9.out.1.drainOk HF.out.2.2.2.2.1.1 HF.out.2.2.2.1 HWN.out (by rw [HRS.out.1]; exact hr) hss hl
          rw [HRS.out.1] at hdr
          obtain ⟨D, hD⟩ : ∃ D, dueT X N n rho w = D := ⟨_, rfl⟩
          rw [hD] at hdr
          obtain ⟨SL, hSL⟩ : ∃ S, D.length = S := ⟨_, rfl⟩
          rw [hSL] at hdr
          have hSLb : SL ≤ 1000000 := by
            have h8 := dueT_len X N rho w n
            rw [hD, hSL] at h8
            have h7 : n * N ≤ 64 * 60 := Nat.mul_le_mul HF.out.2.2.2.2.1.1 HF.out.2.2.1
            omega
          have HDN : Calls Try.prog 17 #[.pointer (some ⟨hb, 0, none⟩), .int .i64 (w : Int)] w9 fun e W' => ∃ g d, e = .returned (.tuple #[.slice (some ⟨g, 0, none⟩) SL SL, .int .i64 0]) ∧ Below B W W' ∧ Own W' B 31 2 (.slice (some ⟨g, 0, none⟩) SL SL) SL (thF d) ∧ Stb ltK 0 SL (tlF D) d ∧ Srt ltK 0 SL d ∧ (∃ H', PT X N Rn W' B hb wb bb n R ph H' (upN r w (rho + 1)) (upN s w 0)) ∧ Own W' B 53 2 (.slice (some ⟨hd, 0, none⟩) n n) n (hdF r s) ∧ CrAt W' SB (n : Int) (Rn : Int) q N cq pq pn pc := hdr.mono fun e W' ⟨g, d, a1, a2, a3, a4, a5, a6, a7⟩ => ⟨g, d, a1, H9.out.2.2.1.trans a5, a2, a3, a4, a7, H9.out.2.1.kt a6 (by decide), a6 _ _ _ _ H9.out.2.2.2 (by decide)⟩
          have HEND : Hid (TurnR X N n Rn r s w (upN r w (rho + 1)) (upN s w 0)) := .inr ⟨by rw [HRS.out.1]; exact hr, .inr ⟨hss, by rw [HRS.out.1], rfl⟩⟩
          have hR6 := HF.out.2.2.2.1
          have er : IntKind.i64.wrap ((rho : Int) + 1) = ((rho + 1 : Nat) : Int) := by rw [IntKind.wrap_i64]; omega
          obtain ⟨rho1, hrho1⟩ : ∃ a, rho + 1 = a := ⟨_, rfl⟩
          rw [hrho1] at er HDN HEND
          have er1 : IntKind.i64.wrap ((rho1 : Int) - 1) = (rho : Int) := by rw [IntKind.wrap_i64]; omega
          have HDS := mhid (And.intro hD (And.intro hSL hSLb))
          clear hl hss hsg hr hdr hD hSL hSLb hR6 hrho1
          go_upto_region 14 with (go_at_call 17; (with_reducible refine HDN.mono ?_); rintro e9 w11 ⟨g, d, rfl, b11, l11, st11, so11, p11, o11, c11⟩)
          have q0 : w11.cell? ⟨hd, w * 2, none⟩ = some (.int .i64 (rho : Int)) := by
            have h8 := o11.cell (j := w * 2) (by have := HWN.out; omega)
            unfold hdF at h8
            rw [if_pos (by omega), show w * 2 / 2 = w by omega, HRS.out.1] at h8
            exact h8
          have q1 : w11.cell? ⟨hd, w * 2 + 1, none⟩ = some (.int .i64 (sg : Int)) := by
            have h8 := o11.cell (j := w * 2 + 1) (by have := HWN.out; omega)
            unfold hdF at h8
            rw [if_neg (by omega), show (w * 2 + 1) / 2 = w by omega, HRS.out.2, HSG.out] at h8
            exact h8
          have fq : ∀ k, w11.frozen? ⟨hd, k, none⟩ = false := fun k => by obtain ⟨cr, hcr, _⟩ := o11.block; exact frz hcr _
          obtain ⟨w12, hw12⟩ : ∃ w12, (w11.setCell ⟨hd, w * 2, none⟩ (.int .i64 (rho1 : Int))).setCell ⟨hd, w * 2 + 1, none⟩ (.int .i64 0) = w12 := ⟨_, rfl⟩
          have h12 : ∀ k, k ≠ hd → w12.heap[k]? = w11.heap[k]? := fun k hk => by rw [← hw12]; exact (Below.heap_setCell _ _ _ _ hk).trans (Below.heap_setCell _ _ _ _ hk)
          have z12 : w12.heap.size = w11.heap.size := by rw [← hw12]; simp [World.setCell]
          obtain ⟨H12, p11⟩ := p11
          have p12 := p11.hand o11 z12 h12
          have o12 : Own w12 B 53 2 (.slice (some ⟨hd, 0, none⟩) n n) n (hdF (upN r w rho1) (upN s w 0)) := by
            rw [← hw12]
            exact hd_set (upN r w rho1) s w 0 (hd_setR r s w rho1 o11)
          have hBhd := (o11.lt hd rfl).1
          have b12 : Below B W w12 := by rw [← hw12]; exact (b11.setCell (p := ⟨hd, w * 2, none⟩) hBhd _).setCell (p := ⟨hd, w * 2 + 1, none⟩) hBhd _
          have c12 : CrAt w12 SB (n : Int) (Rn : Int) q N cq pq pn pc := (h12 SB (fun e => o11.apart c11 (by decide) hd rfl e.symm)).trans c11
          have l12 := l11.far (W' := w12) fun k hk => h12 k fun e => l11.clash o11 (by decide) hk (by rw [e]; rfl)
          have v0 : w12.cell? ⟨hd, w * 2, none⟩ = some (.int .i64 (rho1 : Int)) := by
            have h8 := o12.cell (j := w * 2) (by have := HWN.out; omega)
            unfold hdF at h8
            rw [if_pos (by omega), show w * 2 / 2 = w by omega, up_at] at h8
            exact h8
          have bs12 : B ≤ w12.heap.size := p12.bs
          have HDU : Hid (∀ w', Below w12.heap.size w12 w' → Calls Try.prog 42 #[.agg #[.int .i64 (n : Int), .int .i64 (Rn : Int), .slice q N cq, .slice pq pn pc], .int .i64 (rho : Int), .int .i64 (w : Int)] w' fun e w13 => ∃ dv d2, e = .returned dv ∧ Own w13 B 31 2 dv SL (thF d2) ∧ (∀ i, i < SL → d i = d2 i) ∧ Below w12.heap.size w12 w13) := fun w' hw' => by
            have b13 : Below B W w' := b12.trans (hw'.mono bs12)
            have hn13 : NIn w' q N X := HF.out.1 w' b13
            have hd9 := dueR_any n (Rn : Int) q N cq pq pn pc X rho w HF.out.2.2.2.2.1.1 (by have := HF.out.2.2.1; omega) w' hn13
            rw [HDS.out.1, HDS.out.2.1] at hd9
            refine hd9.mono fun e w13 ⟨dv, d2, a1, a2, a3, a4, a5⟩ => ⟨dv, d2, a1, a2.lower (Nat.le_trans bs12 hw'.size), stable_one kcK_ord st11 so11 a3 a4, hw'.trans (a5.mono hw'.size)⟩
          have HSA : Hid (∀ w' dv d2, Own w' B 31 2 dv SL (thF d2) → (∀ i, i < SL → d i = d2 i) → Below w12.heap.size w12 w' → Calls Try.prog 41 #[.slice (some ⟨g, 0, none⟩) SL SL, dv] w' fun e w13 => e = .returned (.bool true) ∧ Below w12.heap.size w12 w13) := fun w' dv d2 o9 e9 hw' => (sameT_yes SL d d2 (.slice (some ⟨g, 0, none⟩) SL SL) dv w' (l12.later hw').tat o9.tat e9 HDS.out.2.2).mono fun e w13 ⟨a1, a2⟩ => ⟨a1, hw'.trans (a2.mono hw'.size)⟩
          have HE := mhid (And.intro b12 (And.intro p12 o12))
          have HBS := mhid bs12
          obtain ⟨k0, k1, k2, k3⟩ := c12.cells
          have lS := lt_of_block c12
          have lh := (o12.lt hd rfl).2
          have KP : Hid (∀ w9, Below w12.heap.size w12 w9 → (w9.cell? ⟨SB, 0, none⟩ = some (.int .i64 (n : Int)) ∧ w9.cell? ⟨SB, 1, none⟩ = some (.int .i64 (Rn : Int))) ∧ (w9.cell? ⟨SB, 2, none⟩ = some (.slice q N cq) ∧ (w9.cell? ⟨SB, 3, none⟩ = some (.slice pq pn pc) ∧ w9.cell? ⟨hd, w * 2, none⟩ = some (.int .i64 (rho1 : Int))))) := fun w9 h9 => ⟨⟨(h9.cell (p := ⟨SB, 0, none⟩) lS).trans k0, (h9.cell (p := ⟨SB, 1, none⟩) lS).trans k1⟩, (h9.cell (p := ⟨SB, 2, none⟩) lS).trans k2, (h9.cell (p := ⟨SB, 3, none⟩) lS).trans k3, (h9.cell (p := ⟨hd, w * 2, none⟩) lh).trans v0⟩
          have HW12 := mhid hw12
          clear HDN b11 l11 st11 so11 p11 o11 c11 hw12 h12 z12 p12 o12 hBhd b12 c12 l12 bs12 lS lh
          go_upto_region 18 with fail
          rw [HW12.out]
          clear q0 q1 fq
          go_region_held3 (fun w' => (w'.cell? ⟨SB, 0, none⟩ = some (.int .i64 (n : Int)) ∧ w'.cell? ⟨SB, 1, none⟩ = some (.int .i64 (Rn : Int))) ∧ (w'.cell? ⟨SB, 2, none⟩ = some (.slice q N cq) ∧ (w'.cell? ⟨SB, 3, none⟩ = some (.slice pq pn pc) ∧ w'.cell? ⟨hd, w * 2, none⟩ = some (.int .i64 (rho1 : Int))))) (first | exact s7 | exact s8 | go_keep) ((first | (go_at_call 42; (with_reducible refine (HDU.out _ ?_).mono ?_); (first | exact Below.refl _ _ | exact drewB _ | exact below_drewNq _ _ _); rintro e9 w13 ⟨dv, d2, rfl, o13, e13, b13⟩; have s7 := KP.out w13 b13; have O13 := mhid (And.intro o13 (And.intro e13 b13)); clear o13 e13 b13) | (go_at_call 41; (with_reducible refine (HSA.out _ _ d2 ?_ O13.out.2.1 ?_).mono ?_); (first | exact O13.out.1 | exact O13.out.1.later (drewB _) | exact O13.out.1.later (below_drewNq _ _ _)); (first | exact O13.out.2.2 | exact O13.out.2.2.trans ((drewB _).mono O13.out.2.2.size) | exact O13.out.2.2.trans ((below_drewNq _ _ _).mono O13.out.2.2.size)); rintro e9 w14 ⟨rfl, b14⟩; have s8 := KP.out w14 b14; have O14 := mhid b14; clear b14)))
          all_goals (
            go_wp2_with fail
            go_ret
            obtain ⟨b12, p12, o12⟩ := HE.out
            exact ⟨rfl, b12.trans (O14.out.mono HBS.out), ph, H12, _, _, p12.later O14.out, o12.later O14.out, HEND.out⟩)
      )
  · have d1 : decide ((Rn : Int) ≤ (rho : Int)) = true := by simp; omega
    have d1n : decide (Rn ≤ rho) = true := by simp; omega
    have HEND : Hid (TurnR X N n Rn r s w r s) := .inl ⟨rfl, rfl, fun hc => hr (by rw [← HRS.out.1]; exact hc.1)⟩
    clear hr
    go_enter Try.func22, Try.ntmps22
    go_upto_region 1 with fail
    rw [HW1.out]
    clear hSB
    go_quiet (fail)
    go_wp2_with fail
    go_ret
    exact ⟨rfl, H1.out.2.2.1.trans ((below_drewNq _ _ _).mono H1.out.1.bs), ph, H, r, s, H1.out.1.later (below_drewNq _ _ _), H1.out.2.1.later (below_drewNq _ _ _), HEND.out⟩
end Go.Proofs.Ytkfjcbnhohipgaa
