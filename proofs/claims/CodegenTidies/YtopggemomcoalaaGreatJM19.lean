import Derived.Test.YtopggemomcoalaaGreatJM13
import Derived.WalkMore
import Derived.Test.YtopggemomcoalaaGreatJVB
import Derived.Deep.MidRow
import Derived.Laws.NewBlocks
import Derived.Test.YtopggemomcoalaaGreatJG1
import Derived.Test.YtopggemomcoalaaGreatJV3
import Derived.Laws.Cover3
import Derived.Test.YtopggemomcoalaaGreatJV15
import Derived.Test.YtopggemomcoalaaGreatJM5
namespace Go.Proofs.YtopggemomcoalaaGreat
open Go.ChangeShapes Go.WideShapes Go.ChangeAt Go.RowKit
set_option linter.unusedVariables false

def usedOf (fuel : Int) : Option Value → Nat
  | some (.int .i64 x) => (fuel - x).toNat
  | _ => 0
theorem OkM.us {M : Mc} (h : OkM M) : OkM (usM M) := ⟨h.st, h.lo, h.wd, h.dice, h.sent, h.on⟩
theorem OkM.ov {M : Mc} (h : OkM M) (ov : Value) : OkM (ovM M ov) := ⟨h.st, h.lo, h.wd, h.dice, h.sent, h.on⟩
theorem Dp.le64 {P : Pg} {i : Nat} {d : Int} (h : Dp P i d) : d ≤ 64 := by
  cases h with
  | entry j hj h => omega
  | next i d h hi hf he => exact hf.2
  | jump i d h hi hf he => exact hf.2
theorem doM_used (cl : Cl) (M : Mc) (o a b : Int) : (doM cl M o a b).used = M.used := by
  unfold doM
  by_cases h1 : o = 1
  · rw [if_pos h1]; rfl
  rw [if_neg h1]
  by_cases h2 : o = 2
  · rw [if_pos h2]; rfl
  rw [if_neg h2]
  by_cases h3 : o = 3
  · rw [if_pos h3]; rfl
  rw [if_neg h3]
  by_cases h4 : o = 4
  · rw [if_pos h4]; rfl
  rw [if_neg h4]
  by_cases h5 : o = 5
  · rw [if_pos h5]; rfl
  rw [if_neg h5]
  by_cases h6 : o = 6
  · rw [if_pos h6]; rfl
  rw [if_neg h6]
  by_cases h7 : o = 7
  · rw [if_pos h7]; rfl
  rw [if_neg h7]
  by_cases h8 : o = 8
  · rw [if_pos h8]; rfl
  rw [if_neg h8]
  by_cases h9 : o = 9
  · rw [if_pos h9]; rfl
  rw [if_neg h9]
  by_cases h10 : o = 10
  · rw [if_pos h10]; rfl
  rw [if_neg h10]
  by_cases h11 : o = 11
  · rw [if_pos h11]; rfl
  rw [if_neg h11]
  by_cases h12 : o = 12
  · rw [if_pos h12]; rfl
  rw [if_neg h12]
  by_cases h38 : o = 38
  · rw [if_pos h38]; rfl
  rw [if_neg h38]
  by_cases h37 : o = 37
  · rw [if_pos h37]; rfl
  rw [if_neg h37]
  by_cases h41 : o = 41
  · rw [if_pos h41]; (generalize waitV M.dice (topM M) = r; rcases r with _ | r <;> rfl)
  rw [if_neg h41]
  by_cases h39 : o = 39
  · rw [if_pos h39]; rfl
  rw [if_neg h39]
  by_cases hs : o = 23 ∨ o = 24 ∨ o = 25 ∨ o = 34
  · rw [if_pos hs]; rfl
  rw [if_neg hs]
  by_cases hp : isPairB o = true
  · rw [if_pos hp]; rfl
  rw [if_neg hp]
theorem runP_zero (P : Pg) (cl : Cl) (i : Nat) (M : Mc) : runP P cl 0 i M = (200, M) := by unfold runP; rfl
theorem runP_stop {P : Pg} {cl : Cl} {k i : Nat} {M : Mc} (h : P.op i = 0) : runP P cl (k + 1) i M = (0, usM M) := by
  conv => lhs; unfold runP
  rw [if_pos h]; rfl
theorem runP_jump {P : Pg} {cl : Cl} {k i : Nat} {M : Mc} (h : P.op i = 35) : runP P cl (k + 1) i M = runP P cl k (P.a i).toNat (usM M) := by
  conv => lhs; unfold runP
  rw [if_neg (by omega), if_pos h]; rfl
theorem runP_ifz {P : Pg} {cl : Cl} {k i : Nat} {M : Mc} (h : P.op i = 36) : runP P cl (k + 1) i M = runP P cl k (if topM M = 0 then (P.a i).toNat else i + 1) (popM (usM M)) := by
  conv => lhs; unfold runP
  rw [if_neg (by omega), if_neg (by omega), if_pos h]; rfl
theorem runP_fault {P : Pg} {cl : Cl} {k i : Nat} {M : Mc} (h : P.op i ≠ 0 ∧ P.op i ≠ 35 ∧ P.op i ≠ 36) (hf : doF cl (usM M) (P.op i) (P.a i) (P.b i) ≠ 0) : runP P cl (k + 1) i M = (doF cl (usM M) (P.op i) (P.a i) (P.b i), usM M) := by
  conv => lhs; unfold runP
  rw [if_neg h.1, if_neg h.2.1, if_neg h.2.2]
  exact if_pos hf
theorem runP_go {P : Pg} {cl : Cl} {k i : Nat} {M : Mc} (h : P.op i ≠ 0 ∧ P.op i ≠ 35 ∧ P.op i ≠ 36) (hf : doF cl (usM M) (P.op i) (P.a i) (P.b i) = 0) : runP P cl (k + 1) i M = runP P cl k (i + 1) (doM cl (usM M) (P.op i) (P.a i) (P.b i)) := by
  conv => lhs; unfold runP
  rw [if_neg h.1, if_neg h.2.1, if_neg h.2.2]
  exact if_neg (fun hc => hc hf)
/-- what a handler's run comes to -/
def RR (w0 w' : World) (base mb nw : Nat) (C : Nat → Value) (R : Int × Mc) : Prop := (R.1 = 0 → ∃ ov, MW w0 w' base mb nw C (ovM R.2 ov)) ∧ (R.1 ≠ 0 → ∃ M2, MW w0 w' base mb nw C M2 ∧ M2.used = R.2.used)
set_option maxRecDepth 100000 in
set_option maxHeartbeats 8000000 in
theorem run_any (P : Pg) (g : Gd P) (hs : sizedP P) (hnr : ¬ Rch P P.n) (hbd : ¬ BadD P) (hins : ferr (insE P) 0 P.n = 0) (w0 w : World) (mb nw cc : Nat) (cp : Option Addr) (C : Nat → Value) (M0 : Mc) (cl : Cl) (hC : CC C cl (.slice cp P.n cc)) (hcl : OkC cl) (hnw : P.words = nw) (hI : IAt w0 cp P.n P.op P.a P.b)
    (h : MW w0 w w0.heap.size mb nw C M0) (hok : OkM M0) (i0 : Nat) (hi0 : i0 < P.n) (hd0 : (M0.hi : Int) = dL P i0) (k0 : Nat) (hk0 : M0.used + k0 = cl.fuel) (hu0 : 0 ≤ M0.used) (hfu : cl.fuel ≤ 4096) (hA64 : ∀ i, i < P.n → In64 (P.a i)) :
    Calls Tryz.prog 38 #[.pointer (some ⟨mb, 0, none⟩), .int .i64 i0] w fun e w' => e = .returned (.int .i64 (runP P cl k0 i0 M0).1) ∧ RR w0 w' w0.heap.size mb nw C (runP P cl k0 i0 M0) := by
  have hsol := sol_dL g hnr hbd
  have hn : P.n ≤ 4096 := hs.2.2.1
  obtain h0 | ⟨cb, co, rfl, hcl2, hcc⟩ := hI
  · omega
  obtain ⟨R, hR⟩ : ∃ R, runP P cl k0 i0 M0 = R := ⟨_, rfl⟩
  rw [hR]
  go_enter Tryz.func38, Tryz.ntmps38
  go_wp2
  go_step3
  go_wp2
  go_step3
  go_wp2
  go_loopw [1, 5] (fun x y wr => ∃ (i : Nat) (M : Mc) (ov : Value) (k : Nat), x = .int .i64 i ∧ y = .int .i64 200 ∧ i < P.n ∧ MW w0 wr w0.heap.size mb nw C (ovM M ov) ∧ OkM M ∧ (M.hi : Int) = dL P i ∧ M.used + k = cl.fuel ∧ 0 ≤ M.used ∧ runP P cl k i M = R) (fun _ _ wr => usedOf cl.fuel (wr.cell? ⟨mb, 156, none⟩))
  case atStart => exact ⟨i0, M0, M0.ov, k0, rfl, rfl, hi0, h, hok, hd0, hk0, hu0, hR⟩
  case round =>
    clear h hok hd0 hk0 hu0 hR hi0
    obtain ⟨i, M, ov, k, rfl, rfl, hi, h, hok, hd, hk, hu, hR⟩ := hrel
    have c156 : wr.cell? ⟨mb, 156, none⟩ = some (.int .i64 M.used) := h.box.cell 156 (by omega)
    have c12 := h.fix (k := 12) (by decide) hC.fuel
    have hmu : usedOf cl.fuel (wr.cell? ⟨mb, 156, none⟩) = k := by rw [c156]; show (cl.fuel - M.used).toNat = k; omega
    rcases k with _ | k
    · have dl : decide (M.used < cl.fuel) = false := by simp; omega
      rw [runP_zero] at hR
      go_wp2
      go_quiet (fail)
      go_wp2
      try rw [Exit.noGoto_ret]
      go_ret
      rw [← hR]
      exact ⟨rfl, fun h => (by cases h), fun _ => ⟨_, h.later (below_drewNq _ _ _), rfl⟩⟩
    · have dl : decide (M.used < cl.fuel) = true := by simp; omega
      go_wp2
      go_quiet (fail)
      generalize hwq : World.drewN wr _ = wq
      have hq : MW w0 wq w0.heap.size mb nw C (ovM M ov) := by rw [← hwq]; exact h.later (below_drewNq _ _ _)
      clear hwq c156 c12 dl h
      have hlq := hq.box.lt.1
      have x0 := (cell_below (a := ⟨cb, co + i * 3, none⟩) hq.bel hcl2).trans (hcc i hi).1
      have x1 := (cell_below (a := ⟨cb, co + i * 3 + 1, none⟩) hq.bel hcl2).trans (hcc i hi).2.1
      have x2 := (cell_below (a := ⟨cb, co + i * 3 + 2, none⟩) hq.bel hcl2).trans (hcc i hi).2.2
      have c0 := hq.fix (k := 0) (by decide) hC.code
      have j0 : (0 : Int) ≤ (i : Int) := by omega
      have j1 : (i : Int) < (P.n : Int) := by omega
      obtain ⟨wb, hwb⟩ : ∃ wb, wq.alloc (.cells #[.int .i64 (P.op i), .int .i64 (P.a i), .int .i64 (P.b i)] 36) = wb := ⟨_, rfl⟩
      obtain ⟨hbb, hbx, hsz⟩ := inbox wq (P.op i) (P.a i) (P.b i) wb hwb
      have hb := hq.later hbb
      have c156 : wb.cell? ⟨mb, 156, none⟩ = some (.int .i64 M.used) := hb.box.cell 156 (by omega)
      have f156 := hb.box.frozen 156
      have hws : MW w0 (wq.setCell ⟨mb, 156, none⟩ (.int .i64 (M.used + 1))) w0.heap.size mb nw C (ovM (usM M) ov) := hq.only (Only.set mb wq _ _) (hq.box.setUsed (M.used + 1)) rfl rfl rfl rfl rfl
      have hss : (wq.setCell ⟨mb, 156, none⟩ (.int .i64 (M.used + 1))).heap.size = wq.heap.size := by simp [World.setCell]
      obtain ⟨hbb2, hbx2, hsz2⟩ := inbox (wq.setCell ⟨mb, 156, none⟩ (.int .i64 (M.used + 1))) (P.op i) (P.a i) (P.b i) _ rfl
      rw [hss] at hbx2 hsz2
      have hwu := hws.later hbb2
      obtain ⟨b0, b1, b2⟩ := cells3 hbx2
      rw [← hwb] at c156 f156
      obtain ⟨wu, hwuE⟩ : ∃ wu, ((wq.setCell ⟨mb, 156, none⟩ (.int .i64 (M.used + 1))).alloc (.cells #[.int .i64 (P.op i), .int .i64 (P.a i), .int .i64 (P.b i)] 36)) = wu := ⟨_, rfl⟩
      have HWU : Hid (((wq.setCell ⟨mb, 156, none⟩ (.int .i64 (M.used + 1))).alloc (.cells #[.int .i64 (P.op i), .int .i64 (P.a i), .int .i64 (P.b i)] 36)) = wu) := hwuE
      have hwu2 := hwu
      rw [hwuE] at hwu2
      have hne1 : dL P i ≠ -1 := by omega
      have hfine := hsol.fine i hi hne1
      have hins1 : insErr P (P.op i) (P.a i) (P.b i) = 0 := ferr_zero hins i (by omega) (by omega)
      have hdp := hsol.dp i hi hne1
      have HD : Hid (Dp P i (dL P i)) := hdp
      have HF : Hid (fine P i (dL P i)) := hfine
      have HSOL : Hid (Sol P (dL P)) := hsol
      have hdj : Hid ((M.hi : Int) = dL P i) := hd
      have HR : Hid (runP P cl (k + 1) i M = R) := hR
      have u1 : 0 ≤ M.used + 1 := by omega
      have u2 : M.used ≤ 4096 := by omega
      clear hwuE hbb hbx hsz hwb hcc hsol hfine hdp hd hR hne1 hb hbb2 hbx2 hws
      have hmes : usedOf cl.fuel (wr.cell? ⟨mb, 156, none⟩) = k + 1 := hmu
      have mesU : ∀ (W : World) (M' : Mc), MW w0 W w0.heap.size mb nw C M' → M'.used = M.used + 1 → usedOf cl.fuel (W.cell? ⟨mb, 156, none⟩) < k + 1 := fun W M' hW hu' => by
        have e : W.cell? ⟨mb, 156, none⟩ = some (.int .i64 M'.used) := hW.box.cell 156 (by omega)
        rw [e]
        show (cl.fuel - M'.used).toNat < k + 1
        rw [hu']
        omega
      by_cases h0 : P.op i = 0
      · have d0 : (P.op i == 0) = true := by simpa using h0
        have H0 : Hid (P.op i = 0) := h0
        clear h0
        go_wp2
        try rw [Exit.noGoto_ret]
        go_ret
        have hRR := HR.out
        rw [runP_stop H0.out] at hRR
        rw [← hRR]
        exact ⟨rfl, fun _ => ⟨ov, hwu⟩, fun h => absurd rfl h⟩
      · have d0 : (P.op i == 0) = false := by simpa using h0
        have H0 : Hid (P.op i ≠ 0) := h0
        clear h0
        by_cases h35 : P.op i = 35
        · have d35 : (P.op i == 35) = true := by simpa using h35
          have H35 : Hid (P.op i = 35) := h35
          clear h35
          go_wp2
          have hj : jmp (P.op i) = true := by rw [H35.out]; rfl
          have ha := g.a i hi hj
          have hRR := HR.out
          rw [runP_jump H35.out] at hRR
          have hL := HSOL.out.jump i hi (by have := hdj.out; omega) hj
          refine ⟨⟨(P.a i).toNat, usM M, ov, k, by rw [Int.toNat_of_nonneg ha.1], rfl, by omega, hwu, hok.us, ?_, ?_, u1, hRR⟩, ?_⟩
          · show (M.hi : Int) = _
            rw [hL]
            unfold aft
            rw [H35.out, show pops 35 = 0 from rfl, show pushes 35 = 0 from rfl]
            have := hdj.out
            omega
          · show M.used + 1 + k = cl.fuel
            omega
          · rw [hmes]
            exact mesU _ _ hwu rfl
        · have d35 : (P.op i == 35) = false := by simpa using h35
          have H35 : Hid (P.op i ≠ 35) := h35
          clear h35
          have hle64 : M.hi ≤ 64 := by have := HD.out.le64; have := hdj.out; omega
          have hlq2 : wq.heap.size ≠ mb := by omega
          have bu1 := b1
          rw [HWU.out] at bu1
          by_cases h36 : P.op i = 36
          · have d36 : (P.op i == 36) = true := by simpa using h36
            have hhi : 1 ≤ M.hi := by
              have := HF.out.1
              rw [h36, show pops 36 = 1 from rfl] at this
              have := hdj.out
              omega
            have H36 : Hid (P.op i = 36) := h36
            clear h36
            have HP := popW w0 wu w0.heap.size mb nw C (ovM (usM M) ov) hwu2 (by show 0 < M.hi; omega) (by show M.hi ≤ 64; omega)
            rw [show topM (ovM (usM M) ov) = topM M from rfl] at HP
            have hj : jmp (P.op i) = true := by rw [H36.out]; rfl
            have hen : ends (P.op i) = false := by rw [H36.out]; rfl
            have haft : Hid (aft P i (dL P i) = dL P i - 1) := by
              show aft P i (dL P i) = _
              unfold aft
              rw [H36.out, show pops 36 = 1 from rfl, show pushes 36 = 0 from rfl]
              omega
            have HJ : Hid (jmp (P.op i) = true) := hj
            have HE : Hid (ends (P.op i) = false) := hen
            have HRR : Hid (runP P cl k (if topM M = 0 then (P.a i).toNat else i + 1) (popM (usM M)) = R) := by have h3 := HR.out; rw [runP_ifz H36.out] at h3; exact h3
            clear hj hen
            by_cases ht : topM M = 0
            · have dt : (topM M == 0) = true := by simpa using ht
              have HT : Hid (topM M = 0) := ht
              clear ht
              go_wp2_with ((go_at_call 79; rw [HWU.out]; (with_reducible refine HP.mono ?_); rintro e w1 ⟨rfl, o1, m1⟩; have q1 := only_keeps o1 hlq2 bu1))
              have ha := g.a i hi HJ.out
              have hL := HSOL.out.jump i hi (by have := hdj.out; omega) HJ.out
              have h3 := HRR.out
              rw [if_pos HT.out] at h3
              refine ⟨⟨(P.a i).toNat, popM (usM M), ov, k, by rw [Int.toNat_of_nonneg ha.1], rfl, by omega, m1, hok.us.pop, ?_, ?_, u1, h3⟩, ?_⟩
              · show ((M.hi - 1 : Nat) : Int) = _
                rw [hL, haft.out]
                have := hdj.out
                omega
              · show M.used + 1 + k = cl.fuel
                omega
              · rw [hmes]
                exact mesU _ _ m1 rfl
            · have dt : (topM M == 0) = false := by simpa using ht
              have HT : Hid (topM M ≠ 0) := ht
              clear ht
              go_wp2_with ((go_at_call 79; rw [HWU.out]; (with_reducible refine HP.mono ?_); rintro e w1 ⟨rfl, o1, m1⟩; have q1 := only_keeps o1 hlq2 bu1))
              have hnx := HSOL.out.eq g hnr (.next i _ HD.out hi HF.out HE.out)
              have h3 := HRR.out
              rw [if_neg HT.out] at h3
              refine ⟨⟨i + 1, popM (usM M), ov, k, rfl, rfl, hnx.1, m1, hok.us.pop, ?_, ?_, u1, h3⟩, ?_⟩
              · show ((M.hi - 1 : Nat) : Int) = _
                rw [hnx.2, haft.out]
                have := hdj.out
                omega
              · show M.used + 1 + k = cl.fuel
                omega
              · rw [hmes]
                exact mesU _ _ m1 rfl
          · have d36 : (P.op i == 36) = false := by simpa using h36
            have hf1 : pops (P.op i) ≤ M.hi := by have := HF.out.1; have := hdj.out; omega
            have hf2 : (M.hi : Int) - pops (P.op i) + pushes (P.op i) ≤ 64 := by have := HF.out.2; have := hdj.out; omega
            have HDo := do_any P hs w0 wu w0.heap.size mb nw C (ovM (usM M) ov) cl _ hC hcl (hok.us.ov ov) hnw (P.a i) (P.b i) (P.op i) ⟨H0.out, H35.out, h36⟩ hins1 hwu2 hf1 hf2 hle64
            rw [doF_ov, doM_ov] at HDo
            have HN : Hid (P.op i ≠ 0 ∧ P.op i ≠ 35 ∧ P.op i ≠ 36) := ⟨H0.out, H35.out, h36⟩
            have HOP : Hid (0 ≤ P.op i ∧ P.op i < 42) := g.op i hi
            have HF1 : Hid (pops (P.op i) ≤ (M.hi : Int)) := hf1
            clear h36 hf1 hf2
            by_cases hz : doF cl (usM M) (P.op i) (P.a i) (P.b i) = 0
            · have HZ : Hid (doF cl (usM M) (P.op i) (P.a i) (P.b i) = 0) := hz
              rw [hz] at HDo
              have H40 : Hid (P.op i ≠ 40) := fun e => by
                have h4 := HZ.out
                rw [e] at h4
                unfold doF at h4
                rw [if_pos rfl] at h4
                cases h4
              clear hz
              go_wp2_with ((go_at_call 80; rw [HWU.out]; (with_reducible refine HDo.mono ?_); rintro e w1 ⟨rfl, r1⟩))
              obtain ⟨ov2, m2⟩ := r1.1 rfl
              have hen : ends (P.op i) = false := by
                have h1 := HN.out
                have h2 := H40.out
                unfold ends
                simp [h1.1, h1.2.1, h2]
              have hnx := HSOL.out.eq g hnr (.next i _ HD.out hi HF.out hen)
              have h3 := HR.out
              rw [runP_go HN.out HZ.out] at h3
              have hhi := doM_hi cl (usM M) (P.op i) (P.a i) (P.b i) HOP.out ⟨HN.out.1, HN.out.2.1, HN.out.2.2, H40.out⟩ HZ.out HF1.out
              have hus : (doM cl (usM M) (P.op i) (P.a i) (P.b i)).used = M.used + 1 := doM_used cl (usM M) (P.op i) (P.a i) (P.b i)
              refine ⟨⟨i + 1, doM cl (usM M) (P.op i) (P.a i) (P.b i), ov2, k, rfl, rfl, hnx.1, m2, doM_ok cl hcl (usM M) hok.us (P.op i) (P.a i) (P.b i) ?_ HZ.out ?_, ?_, ?_, ?_, h3⟩, ?_⟩
              · exact hA64 i hi
              · intro e38
                have h5 := ins_two hins1 (by rw [e38]; rfl)
                rw [e38, show limI P 38 = 64 from rfl] at h5
                omega
              · rw [hhi, hnx.2]
                unfold aft
                have := hdj.out
                show (M.hi : Int) - _ + _ = _
                omega
              · rw [hus]; omega
              · rw [hus]; omega
              · rw [hmes]
                exact mesU _ _ m2 hus
            · have dz : (doF cl (usM M) (P.op i) (P.a i) (P.b i) == 0) = false := by simpa using hz
              have HZ : Hid (doF cl (usM M) (P.op i) (P.a i) (P.b i) ≠ 0) := hz
              have h3 := HR.out
              rw [runP_fault HN.out hz] at h3
              have H3 : Hid ((doF cl (usM M) (P.op i) (P.a i) (P.b i), usM M) = R) := h3
              clear hz h3
              go_wp2_with ((go_at_call 80; rw [HWU.out]; (with_reducible refine HDo.mono ?_); rintro e w1 ⟨rfl, r1⟩))
              try rw [Exit.noGoto_ret]
              go_ret
              rw [← H3.out]
              exact ⟨rfl, fun h => absurd h HZ.out, fun _ => r1.2 HZ.out⟩
end Go.Proofs.YtopggemomcoalaaGreat
namespace Go.Proofs.YtopggemomcoalaaGreat
open Go.ChangeShapes Go.WideShapes Go.ChangeAt Go.RowKit
set_option linter.unusedVariables false

def pairsL : List Value := [.nilFunc, .nilFunc, .nilFunc, .nilFunc, .nilFunc, .nilFunc, .nilFunc, .nilFunc, .nilFunc, .nilFunc, .nilFunc, .nilFunc, .nilFunc, .func (.func 59) #[] #[], .func (.func 60) #[] #[], .func (.func 61) #[] #[], .func (.func 62) #[] #[], .func (.func 63) #[] #[], .func (.func 64) #[] #[], .func (.func 65) #[] #[], .func (.func 66) #[] #[], .func (.func 67) #[] #[], .func (.func 68) #[] #[], .nilFunc, .nilFunc, .nilFunc, .func (.func 69) #[] #[], .func (.func 71) #[] #[], .func (.func 72) #[] #[], .func (.func 73) #[] #[], .func (.func 74) #[] #[], .func (.func 75) #[] #[], .func (.func 76) #[] #[], .func (.func 77) #[] #[], .nilFunc, .nilFunc, .nilFunc, .nilFunc, .nilFunc, .nilFunc, .nilFunc, .nilFunc]
theorem pairsL_len : pairsL.length = 42 := rfl
theorem pairsL_one : pairsL.toArray.all (·.oneCell') = true := by kernel_rfl
theorem setRow_far (w : World) (g k : Nat) (cs : Array Value) (h : k ≠ g) : (w.setRow g cs).heap[k]? = w.heap[k]? := by
  unfold World.setRow
  simp [Array.getElem?_modify]
  intro e; exact absurd e.symm h
theorem setRow_below {B g : Nat} {w0 w : World} (cs : Array Value) (h : Below B w0 w) (hg : B ≤ g) : Below B w0 (w.setRow g cs) :=
  ⟨h.os, h.tape, h.output, by simp [World.setRow]; exact h.size, fun k hk => (setRow_far w g k cs (by omega)).trans (h.block k hk)⟩
set_option maxRecDepth 100000 in
set_option maxHeartbeats 4000000 in
theorem pairs_any (w : World) : Calls Tryz.prog 36 #[] w fun e w' => e = .returned (.agg pairsL.toArray) ∧ Below w.heap.size w w' := by
  have hinf : (Tryz.prog.info? 84).map (·.size) = some pairsL.toArray.size := by kernel_rfl
  go_enter Tryz.func36, Tryz.ntmps36
  iterate 68 go_step
  refine wpList_store_row rfl 84 (.tmp 0) (.tmp 19) rfl w.heap.size pairsL.toArray rfl rfl 84 _ (World.alloc_heap_new w _) hinf rfl pairsL_one ?_
  repeat go_step
  have hold := World.alloc_heap_new w (.cells (List.replicate 42 Value.nilFunc).toArray 84)
  refine bodyPost_ret_by (v := .agg pairsL.toArray) (results_cell_row (p := 0) (ty := 84) rfl _ _ w.heap.size 84 _ (0, 0) _ rfl (setRow_heap _ _ _ _ _ _ hold) Tryz.underlying84 rfl hinf) rfl ?_
  exact ⟨rfl, setRow_below _ ((Below.refl _ w).alloc (Nat.le_refl _) _) (Nat.le_refl _)⟩
end Go.Proofs.YtopggemomcoalaaGreat
namespace Go.Proofs.YtopggemomcoalaaGreat
open Go.ChangeShapes Go.WideShapes Go.ChangeAt Go.RowKit
set_option linter.unusedVariables false

/-! ### words, copied -/
theorem infoI64M : (Tryz.prog.info? 2).map (fun i => (i.zero, i.size, i.bytes)) = some (some (.int .i64 0), 1, 8) := by kernel_rfl
theorem run_nil_yesM (n c : Nat) (W : World) : (binOp .eql 50 (.slice none n c) (.slice none 0 0)).run Tryz.prog W = .ok (.bool true) W := by
  have := run_equal_slice_nil (P := Tryz.prog) W 50 2 none n c Tryz.underlying50
  simp [binOp, this]
theorem run_nil_noM (ad : Addr) (n c : Nat) (W : World) : (binOp .eql 50 (.slice (some ad) n c) (.slice none 0 0)).run Tryz.prog W = .ok (.bool false) W := by
  have := run_equal_slice_nil (P := Tryz.prog) W 50 2 (some ad) n c Tryz.underlying50
  simp [binOp, this]
theorem Own.nil0 {W : World} {base : Nat} {t : TypeId} {s : Nat} {F : Nat → Value} : Own W base t s (.slice none 0 0) 0 F := ⟨by simp [cellsF], .inl ⟨rfl, rfl⟩⟩
theorem Own.new0 (w : World) (t : TypeId) (F : Nat → Value) : Own (w.alloc (.cells #[] t)) w.heap.size t 1 (.slice (some ⟨w.heap.size, 0, none⟩) 0 0) 0 F :=
  Own.mk' (World.alloc_heap_new w _) rfl (Nat.le_refl _) (Nat.zero_le _) (Nat.le_refl _) fun j hj => by omega
set_option maxRecDepth 100000 in
set_option maxHeartbeats 1000000 in
theorem clone_anyM (p : Option Addr) (n c : Nat) (K : Nat → Int) (w : World) (hn : n ≤ 17592186044416) (h : KAt w p n K) (h0 : p = none → n = 0 ∧ True) :
    Calls Tryz.prog 78 #[.slice p n c] w fun e w' => ∃ (q : Option Addr) (cc : Nat), e = .returned (.slice q n cc) ∧ Own w' w.heap.size 2 1 (.slice q n cc) n (iv K) ∧ Below w.heap.size w w' := by
  rcases p with _ | ad
  · obtain ⟨rfl, _⟩ := h0 rfl
    have hq := run_nil_yesM 0 c
    go_enter Tryz.func78, Tryz.ntmps78
    go_wp2
    go_ret
    exact ⟨none, 0, rfl, Own.nil0, Below.refl _ _⟩
  · have hq := run_nil_noM ad n c
    obtain ⟨i3, hi3, ha3, hb3, hc3⟩ := info_parts infoI64M
    have hz3 : (Value.int .i64 0).cells.size = 1 := rfl
    obtain ⟨w1, hw1⟩ : ∃ w1, w.alloc (.cells #[] 2) = w1 := ⟨_, rfl⟩
    have hO := Own.new0 w 2 (iv K)
    have hb1 : Below w.heap.size w w1 := by rw [← hw1]; exact (Below.refl _ w).alloc (Nat.le_refl _) _
    rw [hw1] at hO
    have hc : ∀ j u, (intsL K n)[j]? = some u → w1.cell? (ad.add j) = some u := fun j u hu => by
      have hj : j < n := by
        have := (List.getElem?_eq_some_iff.1 hu).1
        rwa [intsL_len] at this
      rw [intsL_get hj] at hu
      cases hu
      rcases h with e0 | ⟨b, o, e, hlt, hcc⟩
      · omega
      · cases e
        rw [addr_add]
        exact (cell_below hb1 hlt).trans (hcc j hj)
    have HW : Hid (w.alloc (.cells #[] 2) = w1) := hw1
    have HO : Hid (w1.ownsRow w.heap.size 2 1 (.slice (some ⟨w.heap.size, 0, none⟩) 0 0) 0 []) := hO
    clear hO hw1
    have hsz := hb1.size
    go_enter Tryz.func78, Tryz.ntmps78
    go_wp2_with (at_builtin; rw [HW.out]; refine wpList_append_own _ rfl (.tmp 5) (.tmp 6) 50 rfl w.heap.size 2 i3 (.int .i64 0) 1 8 Tryz.underlying50 hi3 ha3 hb3 hc3 hz3 (by decide) (.slice (some ⟨w.heap.size, 0, none⟩) 0 0) 0 [] rfl HO.out ad n c (intsL K n) rfl (by rw [intsL_len, Nat.mul_one]) hc (intsL_one K n) (by unfold maxLen; omega) (by omega) hsz ?_; intro v' w2 hown hgrow _)
    go_ret
    have hF : Own w2 w.heap.size 2 1 v' n (iv K) := by
      unfold Own
      have e : cellsF (iv K) (n * 1) = [] ++ intsL K n := by rw [Nat.mul_one]; rfl
      rw [e]
      simpa using hown
    have hB : Below w.heap.size w w2 := hb1.grown hgrow hsz (fun k hk => by simp [Value.ownBlock] at hk; omega)
    rcases hF.form with ⟨e1, e2⟩ | ⟨g, cc, e1, _, _⟩
    · subst e1 e2
      exact ⟨none, 0, rfl, hF, hB⟩
    · subst e1
      exact ⟨_, _, rfl, hF, hB⟩
theorem cells3' {W : World} {b : Nat} {c0 c1 c2 : Value} {t : TypeId} (h : W.heap[b]? = some (.cells #[c0, c1, c2] t (0, 0))) : W.cell? ⟨b, 0, none⟩ = some c0 ∧ W.cell? ⟨b, 1, none⟩ = some c1 ∧ W.cell? ⟨b, 2, none⟩ = some c2 := by
  refine ⟨?_, ?_, ?_⟩
  all_goals (unfold World.cell?; rw [h]; rfl)
theorem frz' {W : World} {b : Nat} {cur : Array Value} {t : TypeId} (h : W.heap[b]? = some (.cells cur t (0, 0))) : ∀ k, W.frozen? ⟨b, k, none⟩ = false := fun k => by simp [World.frozen?, h]
set_option maxRecDepth 100000 in
set_option maxHeartbeats 1000000 in
theorem copied_any (p : Option Addr) (n c : Nat) (K : Nat → Int) (d s : Int) (w : World) (hn : n ≤ 17592186044416) (h : KAt w p n K) (h0 : p = none → n = 0 ∧ True) :
    Calls Tryz.prog 37 #[.agg #[.slice p n c, .int .u64 d, .int .u64 s]] w fun e w' => ∃ (q : Option Addr) (cc : Nat), e = .returned (.agg #[.slice q n cc, .int .u64 d, .int .u64 s]) ∧ Own w' w.heap.size 2 1 (.slice q n cc) n (iv K) ∧ Below w.heap.size w w' := by
  obtain ⟨w1, hw1⟩ : ∃ w1, (w.alloc (.cells #[.slice p n c, .int .u64 d, .int .u64 s] 52)).alloc (.cells #[.slice none 0 0, .int .u64 0, .int .u64 0] 52) = w1 := ⟨_, rfl⟩
  have hb1 : Below w.heap.size w w1 := by rw [← hw1]; exact ((Below.refl _ w).alloc (Nat.le_refl _) _).alloc (by simp) _
  have hbox : w1.heap[w.heap.size]? = some (.cells #[.slice p n c, .int .u64 d, .int .u64 s] 52 (0, 0)) := by
    rw [← hw1, Below.heap_alloc _ _ _ (by simp)]
    exact World.alloc_heap_new w _
  have hres : w1.heap[w.heap.size + 1]? = some (.cells #[.slice none 0 0, .int .u64 0, .int .u64 0] 52 (0, 0)) := by
    rw [← hw1]
    have := World.alloc_heap_new (w.alloc (.cells #[.slice p n c, .int .u64 d, .int .u64 s] 52)) (.cells #[.slice none 0 0, .int .u64 0, .int .u64 0] 52)
    rwa [World.size_alloc] at this
  have hsz : w1.heap.size = w.heap.size + 2 := by rw [← hw1]; simp
  have HC := clone_anyM p n c K w1 hn (h.below hb1) h0
  obtain ⟨a0, a1, a2⟩ := cells3' hbox
  have HW : Hid ((w.alloc (.cells #[.slice p n c, .int .u64 d, .int .u64 s] 52)).alloc (.cells #[.slice none 0 0, .int .u64 0, .int .u64 0] 52) = w1) := hw1
  clear hw1 h h0
  go_enter Tryz.func37, Tryz.ntmps37
  go_wp2_with (go_at_call 78; rw [HW.out]; (with_reducible refine HC.mono ?_); rintro e w2 ⟨q, cc, rfl, hO, hb2⟩; have hbox2 := (hb2.block _ (by omega)).trans hbox; have hres2 := (hb2.block _ (by omega)).trans hres; obtain ⟨b0, b1, b2⟩ := cells3' hbox2; obtain ⟨r0, r1, r2⟩ := cells3' hres2; have bf0 := frz' hbox2 0; have rf0 := frz' hres2 0; have rf1 := frz' hres2 1; have rf2 := frz' hres2 2)
  generalize hWF : (World.setCell (World.setCell (World.setCell (World.setCell _ _ _) _ _) _ _) _ _) = wF
  have hwF : wF = (((w2.setCell ⟨w.heap.size, 0, none⟩ (.slice q n cc)).setCell ⟨w.heap.size + 1, 0, none⟩ (.slice q n cc)).setCell ⟨w.heap.size + 1, 1, none⟩ (.int .u64 d)).setCell ⟨w.heap.size + 1, 2, none⟩ (.int .u64 s) := hWF.symm
  clear hWF
  have hF : wF.heap[w.heap.size + 1]? = some (.cells #[.slice q n cc, .int .u64 d, .int .u64 s] 52 (0, 0)) := by
    have h0 : (w2.setCell ⟨w.heap.size, 0, none⟩ (.slice q n cc)).heap[w.heap.size + 1]? = some (.cells #[.slice none 0 0, .int .u64 0, .int .u64 0] 52 (0, 0)) := (Below.heap_setCell _ _ _ _ (by show w.heap.size + 1 ≠ w.heap.size; omega)).trans hres2
    rw [hwF, setCell_block _ _ _ _ (setCell_block _ _ _ _ (setCell_block _ _ _ _ h0))]
    rfl
  have far : ∀ k, k ≠ w.heap.size → k ≠ w.heap.size + 1 → wF.heap[k]? = w2.heap[k]? := fun k h1 h2 => by
    rw [hwF, Below.heap_setCell _ _ _ _ h2, Below.heap_setCell _ _ _ _ h2, Below.heap_setCell _ _ _ _ h2, Below.heap_setCell _ _ _ _ h1]
  have hbF : Below w.heap.size w wF := by
    rw [hwF]
    exact ((((hb1.trans (hb2.mono (by omega))).setCell (p := ⟨w.heap.size, 0, none⟩) (Nat.le_refl _) _).setCell (p := ⟨w.heap.size + 1, 0, none⟩) (Nat.le_succ _) _).setCell (p := ⟨w.heap.size + 1, 1, none⟩) (Nat.le_succ _) _).setCell (p := ⟨w.heap.size + 1, 2, none⟩) (Nat.le_succ _) _
  obtain ⟨d0, d1, d2⟩ := cells3' hF
  refine bodyPost_ret (v := .agg #[.slice q n cc, .int .u64 d, .int .u64 s]) (by simp [results, Tryz.results37, go_sem, d0, d1, d2]; try rfl) rfl ?_
  refine ⟨q, cc, rfl, ?_, hbF⟩
  rcases hO.form with ⟨e1, e2⟩ | ⟨g, c', e1, e2, e3⟩
  · cases e1
    exact Own.nil0
  · rw [e1] at hO ⊢
    have hO' := hO.far (W' := wF) fun k hk => far k (by have : k = g := by simpa [Value.ownBlock] using hk.symm
                                                        omega) (by have : k = g := by simpa [Value.ownBlock] using hk.symm
                                                                   omega)
    exact Own.lower hO' (by omega)
end Go.Proofs.YtopggemomcoalaaGreat
namespace Go.Proofs.YtopggemomcoalaaGreat
open Go.ChangeShapes Go.WideShapes Go.ChangeAt Go.RowKit
set_option linter.unusedVariables false

/-- the call's cells -/
def cvA (cl : Cl) (p : Option Addr) (n c : Nat) (d s : Int) : Array Value := #[.int .u64 cl.time, .int .i64 cl.src, .int .u64 cl.seq, .int .i64 cl.dst, .int .i64 cl.kind, .int .i64 cl.data, .slice p n c, .int .u64 d, .int .u64 s, .int .u64 cl.look, .int .i64 cl.parts, .int .i64 cl.fuel]
def fitsB (P : Pg) (cl : Cl) (n : Nat) : Bool := decide (1 ≤ cl.parts) && decide (cl.parts ≤ 64) && decide (0 ≤ cl.dst) && decide (cl.dst < cl.parts) && decide (0 ≤ cl.kind) && decide (cl.kind < P.m) && decide ((n : Int) = P.words) && decide (0 ≤ cl.fuel) && decide (cl.fuel ≤ 4096)
theorem fitsB_yes {P : Pg} {cl : Cl} {n : Nat} (h : fitsB P cl n = true) : (1 ≤ cl.parts ∧ cl.parts ≤ 64) ∧ (0 ≤ cl.dst ∧ cl.dst < cl.parts) ∧ (0 ≤ cl.kind ∧ cl.kind < P.m) ∧ (n : Int) = P.words ∧ 0 ≤ cl.fuel ∧ cl.fuel ≤ 4096 := by
  unfold fitsB at h
  simp at h
  omega
set_option maxRecDepth 100000 in
set_option maxHeartbeats 4000000 in
theorem fits_any (P : Pg) (v : PgV) (cl : Cl) (p : Option Addr) (n c : Nat) (d s : Int) (w : World) :
    Calls Tryz.prog 35 #[.agg #[.int .i64 P.words, .int .i64 P.locals, .slice v.cp P.n v.cc, .slice v.ep P.m v.ec], .agg #[.int .u64 cl.time, .int .i64 cl.src, .int .u64 cl.seq, .int .i64 cl.dst, .int .i64 cl.kind, .int .i64 cl.data, .slice p n c, .int .u64 d, .int .u64 s, .int .u64 cl.look, .int .i64 cl.parts, .int .i64 cl.fuel]] w fun e w' => e = .returned (.bool (fitsB P cl n)) ∧ Below w.heap.size w w' := by
  go_enter Tryz.func35, Tryz.ntmps35
  go_wp2
  all_goals first
    | (have hf : fitsB P cl n = false := by
        unfold fitsB
        simp
        omega
       rw [hf]
       go_ret
       exact ⟨rfl, ((Below.refl _ w).alloc (Nat.le_refl _) _).alloc (by simp) _⟩)
    | (have hf : fitsB P cl n = decide (cl.fuel ≤ 4096) := by
        unfold fitsB
        simp [*]
       rw [hf]
       go_ret
       exact ⟨rfl, ((Below.refl _ w).alloc (Nat.le_refl _) _).alloc (by simp) _⟩)
end Go.Proofs.YtopggemomcoalaaGreat
namespace Go.Proofs.YtopggemomcoalaaGreat
open Go.ChangeShapes Go.WideShapes Go.ChangeAt Go.RowKit
set_option linter.unusedVariables false

/-! ### a new machine -/
def machL (code : Value) (cl : Cl) (p : Option Addr) (n c : Nat) (d s : Int) (wv : Value) : List Value :=
  [code] ++ (cvA cl p n c d s).toList ++ pairsL ++ [wv, .int .u64 d, .int .u64 s] ++ List.replicate 32 (.int .i64 0) ++ List.replicate 64 (.int .i64 0) ++ [.int .i64 0, .slice none 0 0, .int .i64 0]
def newM (K : Nat → Int) (d s : Int) (wv : Value) : Mc := ⟨wv, K, 0, fun _ => undef, d, s, fun _ => 0, fun _ => 0, 0, .slice none 0 0, 0⟩
def machC (code : Value) (cl : Cl) (p : Option Addr) (n c : Nat) (d s : Int) (wv : Value) (k : Nat) : Value := (machL code cl p n c d s wv).getD k undef
set_option maxRecDepth 100000 in
theorem mach_cells (code : Value) (cl : Cl) (p : Option Addr) (n c : Nat) (d s : Int) (wv : Value) (K : Nat → Int) : machL code cl p n c d s wv = cellsF (mF (machC code cl p n c d s wv) (newM K d s wv)) 157 := by kernel_rfl
set_option maxRecDepth 100000 in
theorem mach_built (pp : Option Addr) (pn pc : Nat) (cl : Cl) (p : Option Addr) (n c : Nat) (d s : Int) (wv : Value) : Tryz.prog.built 90 [(0, .slice pp pn pc), (1, .agg (cvA cl p n c d s)), (2, .agg pairsL.toArray), (3, .agg #[wv, .int .u64 d, .int .u64 s])] = some (machL (.slice pp pn pc) cl p n c d s wv).toArray := by kernel_rfl
set_option maxRecDepth 100000 in
theorem mach_cc (code : Value) (cl : Cl) (p : Option Addr) (n c : Nat) (d s : Int) (wv : Value) : CC (machC code cl p n c d s wv) cl code := by
  refine ⟨by kernel_rfl, by kernel_rfl, by kernel_rfl, by kernel_rfl, by kernel_rfl, by kernel_rfl, by kernel_rfl, by kernel_rfl, by kernel_rfl, by kernel_rfl, fun o ho => ?_⟩
  rcases ho with rfl | rfl | rfl | rfl | rfl | rfl | rfl | rfl | rfl | rfl | rfl | rfl | rfl | rfl | rfl | rfl | rfl | rfl
  all_goals kernel_rfl
theorem mach_one (code : Value) (cl : Cl) (p : Option Addr) (n c : Nat) (d s : Int) (q : Option Addr) (cc : Nat) (h : code.oneCell' = true) : (machL code cl p n c d s (.slice q n cc)).toArray.all (·.oneCell') = true := by
  refine all_oneCell_toArray fun v hv => ?_
  unfold machL at hv
  simp only [List.mem_append] at hv
  rcases hv with (((((hv | hv) | hv) | hv) | hv) | hv) | hv
  · simp at hv; rw [hv]; exact h
  · simp [cvA] at hv; rcases hv with rfl | rfl | rfl | rfl | rfl | rfl | rfl | rfl | rfl | rfl | rfl | rfl <;> rfl
  · exact (Array.all_eq_true_iff_forall_mem.1 pairsL_one) v (by simpa using hv)
  · simp at hv; rcases hv with rfl | rfl | rfl <;> rfl
  · rw [(List.mem_replicate.1 hv).2]; rfl
  · rw [(List.mem_replicate.1 hv).2]; rfl
  · simp at hv; rcases hv with rfl | rfl | rfl <;> rfl
theorem mach_len (code : Value) (cl : Cl) (p : Option Addr) (n c : Nat) (d s : Int) (wv : Value) : (machL code cl p n c d s wv).length = 157 := by kernel_rfl
theorem infoMach : (Tryz.prog.info? 90).map (fun i => (i.size, i.zero.map (·.cells.size))) = some (157, some 157) := by kernel_rfl
/-- all that a new machine wants lies there -/
theorem gather {wq W : World} {mb n c cc : Nat} {p q : Option Addr} {code : Value} {cl : Cl} {d s : Int} {K : Nat → Int} {zs : Array Value} (hb : Below wq.heap.size wq W) (hm : W.heap[mb]? = some (.cells zs 90 (0, 0))) (hmb : wq.heap.size ≤ mb)
    (hO : Own W wq.heap.size 2 1 (.slice q n cc) n (iv K)) (hd : (Value.slice q n cc).ownBlock ≠ some mb) :
    MW wq (W.setRow mb (machL code cl p n c d s (.slice q n cc)).toArray) wq.heap.size mb n (machC code cl p n c d s (.slice q n cc)) (newM K d s (.slice q n cc)) := by
  have hrow := setRow_heap W mb zs (machL code cl p n c d s (.slice q n cc)).toArray _ _ hm
  refine ⟨?_, ?_, Own.nil0, hd, by simp [newM, Value.ownBlock], fun k _ => by simp [newM, Value.ownBlock], setRow_below _ hb hmb⟩
  · refine Own.mk' hrow (by rw [List.size_toArray, mach_len]) (Nat.le_refl _) (by unfold maxLen; omega) hmb fun j hj => ?_
    rw [mach_cells code cl p n c d s (.slice q n cc) K]
    rw [List.getElem?_toArray, cellsF_at _ (by omega)]
  · exact hO.far fun k hk => setRow_far _ _ _ _ fun e => hd (by rw [← e]; exact hk)
theorem step_alloc_row {P : Program} {ops : Array Oper} {o : Oper} {a : Act} {w : World} {K : Act → World → Prop} {Q : Exit → Act → World → Prop} {E : Prop} (hg : o.guard = none) (ty : TypeId) (hop : o.op = .alloc ty) (i : TypeInfo) (z : Value) (hi : P.info? ty = some i) (hz : i.zero = some z)
    (hK : K (a.put o.dst (.pointer (some ⟨w.heap.size, 0, none⟩))) (w.alloc (.cells z.cells ty))) : if Region.wanted o (yielded ops a.tmps) = true then Oper.wp P o a w K Q else E := by
  have hw : Region.wanted o (yielded ops a.tmps) = true := by simp [Region.wanted, hg]
  rw [if_pos hw]
  unfold Oper.wp execOp
  simp only [hop]
  simp [Instr.alloc, zeroValue, typeInfo, hi, hz, newVar, newRow, newObj, go_sem]
  exact hK
theorem step_build_row {P : Program} {ops : Array Oper} {o : Oper} {a : Act} {w : World} {K : Act → World → Prop} {Q : Exit → Act → World → Prop} {E : Prop} (hg : o.guard = none) (t : TypeId) (parts : Array (Nat × Operand)) (hop : o.op = .build t parts) (cells : Array Value) (vs : List (Nat × Value)) (hv : (parts.map fun (i, x) => (i, a.eval x)).toList = vs) (hb : P.built t vs = some cells)
    (hK : K (a.put o.dst (.agg cells)) w) : if Region.wanted o (yielded ops a.tmps) = true then Oper.wp P o a w K Q else E := by
  have hw : Region.wanted o (yielded ops a.tmps) = true := by simp [Region.wanted, hg]
  rw [if_pos hw]
  refine wp_build t parts hop (by rw [hv, hb]; rfl) ?_
  rw [hv, hb]
  exact hK
theorem yields_build {P : Program} {a : Act} {o : Oper} {W : World} (t : TypeId) (parts : Array (Nat × Operand)) (hop : o.op = .build t parts) (cells : Array Value) (vs : List (Nat × Value)) (hv : (parts.map fun (i, x) => (i, a.eval x)).toList = vs) (hb : P.built t vs = some cells) : (execOp a.eval o).run P W = .ok (.value (.agg cells)) W := by
  unfold execOp
  simp only [hop, Sem.run_bind, run_build W t _ cells (hv ▸ hb), Result.andThen_ok]
  rfl
theorem step_store_row {P : Program} {ops : Array Oper} {o : Oper} {a : Act} {w : World} {K : Act → World → Prop} {Q : Exit → Act → World → Prop} {E : Prop} (hg : o.guard = none) (ty : TypeId) (x y : Operand) (ho : o.op = .store ty x y)
    (g : Nat) (cells : Array Value) (hx : a.eval x = .pointer (some ⟨g, 0, none⟩)) (hy : a.eval y = .agg cells)
    (t : TypeId) (old : Array Value) (hgb : w.heap[g]? = some (.cells old t (0, 0))) (hi : (P.info? ty).map (·.size) = some cells.size)
    (hold : old.size = cells.size) (h1 : cells.all (·.oneCell') = true)
    (h : K (a.put o.dst undef) (w.setRow g cells)) : if Region.wanted o (yielded ops a.tmps) = true then Oper.wp P o a w K Q else E := by
  have hw : Region.wanted o (yielded ops a.tmps) = true := by simp [Region.wanted, hg]
  rw [if_pos hw]
  exact wp_store_row ty x y ho g cells hx hy t old hgb hi hold h1 h
end Go.Proofs.YtopggemomcoalaaGreat
namespace Go.Proofs.YtopggemomcoalaaGreat
open Go.ChangeShapes Go.WideShapes Go.ChangeAt Go.RowKit
set_option linter.unusedVariables false

/-! ### what a handler does is the same wherever its words lie -/
def wvM (M : Mc) (wv : Value) : Mc := { M with wv := wv }
theorem doF_wv (cl : Cl) (M : Mc) (wv : Value) (o a b : Int) : doF cl (wvM M wv) o a b = doF cl M o a b := rfl
theorem waitM_wv (M : Mc) (wv : Value) (r : Option (Int × Int)) : waitM (wvM M wv) r = wvM (waitM M r) wv := by
  rcases r with _ | r <;> rfl
theorem doM_wv (cl : Cl) (M : Mc) (wv : Value) (o a b : Int) : doM cl (wvM M wv) o a b = wvM (doM cl M o a b) wv := by
  unfold doM
  by_cases h1 : o = 1
  · rw [if_pos h1, if_pos h1]; rfl
  rw [if_neg h1, if_neg h1]
  by_cases h2 : o = 2
  · rw [if_pos h2, if_pos h2]; rfl
  rw [if_neg h2, if_neg h2]
  by_cases h3 : o = 3
  · rw [if_pos h3, if_pos h3]; rfl
  rw [if_neg h3, if_neg h3]
  by_cases h4 : o = 4
  · rw [if_pos h4, if_pos h4]; rfl
  rw [if_neg h4, if_neg h4]
  by_cases h5 : o = 5
  · rw [if_pos h5, if_pos h5]; rfl
  rw [if_neg h5, if_neg h5]
  by_cases h6 : o = 6
  · rw [if_pos h6, if_pos h6]; rfl
  rw [if_neg h6, if_neg h6]
  by_cases h7 : o = 7
  · rw [if_pos h7, if_pos h7]; rfl
  rw [if_neg h7, if_neg h7]
  by_cases h8 : o = 8
  · rw [if_pos h8, if_pos h8]; rfl
  rw [if_neg h8, if_neg h8]
  by_cases h9 : o = 9
  · rw [if_pos h9, if_pos h9]; rfl
  rw [if_neg h9, if_neg h9]
  by_cases h10 : o = 10
  · rw [if_pos h10, if_pos h10]; rfl
  rw [if_neg h10, if_neg h10]
  by_cases h11 : o = 11
  · rw [if_pos h11, if_pos h11]; rfl
  rw [if_neg h11, if_neg h11]
  by_cases h12 : o = 12
  · rw [if_pos h12, if_pos h12]; rfl
  rw [if_neg h12, if_neg h12]
  by_cases h38 : o = 38
  · rw [if_pos h38, if_pos h38]; rfl
  rw [if_neg h38, if_neg h38]
  by_cases h37 : o = 37
  · rw [if_pos h37, if_pos h37]; rfl
  rw [if_neg h37, if_neg h37]
  by_cases h41 : o = 41
  · rw [if_pos h41, if_pos h41]; exact waitM_wv M wv _
  rw [if_neg h41, if_neg h41]
  by_cases h39 : o = 39
  · rw [if_pos h39, if_pos h39]; rfl
  rw [if_neg h39, if_neg h39]
  by_cases hs : o = 23 ∨ o = 24 ∨ o = 25 ∨ o = 34
  · rw [if_pos hs, if_pos hs]; rfl
  rw [if_neg hs, if_neg hs]
  by_cases hp : isPairB o = true
  · rw [if_pos hp, if_pos hp]; rfl
  rw [if_neg hp, if_neg hp]
theorem runP_wv (P : Pg) (cl : Cl) (wv : Value) : ∀ (k i : Nat) (M : Mc), runP P cl k i (wvM M wv) = ((runP P cl k i M).1, wvM (runP P cl k i M).2 wv)
  | 0, i, M => by rw [runP_zero, runP_zero]
  | k + 1, i, M => by
    by_cases h0 : P.op i = 0
    · rw [runP_stop h0, runP_stop h0]; rfl
    by_cases h1 : P.op i = 35
    · rw [runP_jump h1, runP_jump h1]; exact runP_wv P cl wv k _ (usM M)
    by_cases h2 : P.op i = 36
    · rw [runP_ifz h2, runP_ifz h2]; exact runP_wv P cl wv k _ (popM (usM M))
    have h3 : P.op i ≠ 0 ∧ P.op i ≠ 35 ∧ P.op i ≠ 36 := ⟨h0, h1, h2⟩
    by_cases hf : doF cl (usM M) (P.op i) (P.a i) (P.b i) = 0
    · rw [runP_go h3 hf, runP_go (M := wvM M wv) h3 hf]
      have e : doM cl (usM (wvM M wv)) (P.op i) (P.a i) (P.b i) = wvM (doM cl (usM M) (P.op i) (P.a i) (P.b i)) wv := doM_wv cl (usM M) wv _ _ _
      rw [e]
      exact runP_wv P cl wv k _ _
    · rw [runP_fault h3 hf, runP_fault (M := wvM M wv) h3 hf]; rfl
/-! ### an effect -/
structure Ef where
  code : Int
  nw : Nat
  wd : Nat → Int
  dice : Int
  sent : Int
  on : Nat
  oF : Nat → Value
  used : Int
def efErr (c : Int) : Ef := ⟨c, 0, fun _ => 0, 0, 0, 0, fun _ => undef, 0⟩
def runOf (P : Pg) (cl : Cl) (K : Nat → Int) (d s : Int) : Int × Mc := runP P cl cl.fuel.toNat (P.en cl.kind.toNat).toNat (newM K d s (.slice none 0 0))
open Classical in
noncomputable def effP (P : Pg) (cl : Cl) (n : Nat) (K : Nat → Int) (d s : Int) : Ef :=
  if dcode P P.m ≠ 0 then efErr (dcode P P.m)
  else if fitsB P cl n = false then efErr 63
  else if P.en cl.kind.toNat = -1 then ⟨0, n, K, d, s, 0, fun _ => undef, 0⟩
  else if (runOf P cl K d s).1 ≠ 0 then ⟨(runOf P cl K d s).1, n, K, d, s, 0, fun _ => undef, (runOf P cl K d s).2.used⟩
  else ⟨0, n, (runOf P cl K d s).2.wd, (runOf P cl K d s).2.dice, (runOf P cl K d s).2.sent, (runOf P cl K d s).2.on, (runOf P cl K d s).2.oF, (runOf P cl K d s).2.used⟩
def EfAt (W : World) (base : Nat) (v : Value) (E : Ef) : Prop := ∃ (wp : Option Addr) (wc : Nat) (op : Option Addr) (oc : Nat), v = .agg #[.int .i64 E.code, .slice wp E.nw wc, .int .u64 E.dice, .int .u64 E.sent, .slice op E.on oc, .int .i64 E.used] ∧ Own W base 2 1 (.slice wp E.nw wc) E.nw (iv E.wd) ∧ Own W base 49 6 (.slice op E.on oc) E.on E.oF
theorem EfAt.later {W W' : World} {base : Nat} {v : Value} {E : Ef} (h : EfAt W base v E) (hb : Below W.heap.size W W') : EfAt W' base v E := by
  obtain ⟨wp, wc, op, oc, h1, h2, h3⟩ := h
  exact ⟨wp, wc, op, oc, h1, h2.later hb, h3.later hb⟩
theorem EfAt.lower {W : World} {base base' : Nat} {v : Value} {E : Ef} (h : EfAt W base v E) (hb : base' ≤ base) : EfAt W base' v E := by
  obtain ⟨wp, wc, op, oc, h1, h2, h3⟩ := h
  exact ⟨wp, wc, op, oc, h1, h2.lower hb, h3.lower hb⟩
/-- a call's words lie there -/
structure CallAt (w : World) (cl : Cl) (p : Option Addr) (n c : Nat) (K : Nat → Int) (d s : Int) : Prop where
  words : KAt w p n K
  nil : p = none → n = 0 ∧ True
  room : n ≤ 17592186044416
  ok : OkC cl
  wd : ∀ j, In64 (K j)
  dice : u64ok d
  sent : u64ok s
theorem CallAt.below {w w' : World} {cl : Cl} {p : Option Addr} {n c : Nat} {K : Nat → Int} {d s : Int} (h : CallAt w cl p n c K d s) (hb : Below w.heap.size w w') : CallAt w' cl p n c K d s := ⟨h.words.below hb, h.nil, h.room, h.ok, h.wd, h.dice, h.sent⟩
theorem in64_0 : In64 0 := ⟨by omega, by omega⟩
theorem newM_ok {w : World} {cl : Cl} {p : Option Addr} {n c : Nat} {K : Nat → Int} {d s : Int} (h : CallAt w cl p n c K d s) (wv : Value) : OkM (newM K d s wv) := ⟨fun _ => in64_0, fun _ => in64_0, h.wd, h.dice, h.sent, Nat.zero_le _⟩
end Go.Proofs.YtopggemomcoalaaGreat
