import Derived.Test.YtfgkmijaimfkjaaX12
namespace Go.Proofs.Ytfgkmijaimfkjaa
open Go.ChangeShapes Go.WideShapes Go.ChangeAt Go.RowKit
set_option linter.unusedVariables false
set_option linter.unusedSimpArgs false
variable {base n : Nat} {B : RB} {R : Rt} {N : Nt}

theorem RL.one {N' : Nt} {R' : Rt} (h : RL n N R) (w : Nat) (hw : RLw n N' R' w) (hN : ∀ i, i ≠ w → N'.up i = N.up i ∧ N'.dn i = N.dn i ∧ N'.rd i = N.rd i ∧ N'.pl i = N.pl i ∧ N'.hs i = N.hs i ∧ N'.dv i = N.dv i) (hR : ∀ i, i ≠ w → R'.up i = R.up i ∧ R'.dn i = R.dn i ∧ R'.th i = R.th i ∧ R'.td i = R.td i ∧ R'.hs i = R.hs i ∧ R'.ls i = R.ls i ∧ R'.dv i = R.dv i) : RL n N' R' := by
  intro i hi
  by_cases e : i = w
  · subst e; exact hw
  · obtain ⟨a1, a2, a3, a4, a5, a6⟩ := hN i e
    obtain ⟨b1, b2, b3, b4, b5, b6, b7⟩ := hR i e
    exact (h i hi).congr a1 a2 a3 a4 a5 a6 b1 b2 b3 b4 b5 b6 b7
set_option maxRecDepth 100000 in
theorem rstep_in (h : RL n N R) (hn : n ≤ 64) (w : Nat) (hw : w < n) (hp : N.pl w ≠ 0) (hp5 : N.pl w ≤ 5) (hr : N.rd w < 1000000000000000000) (W : World) (hR : RN base n 0 B R W) : Calls Try.prog 28 #[.pointer (some ⟨B.rb, 0, none⟩), .int .i64 (w : Int)] W fun e W' => e = .returned (.tuple #[.bool ((stepN J0 n N w).pl w == 0), .int .i64 0]) ∧ ∃ R', RL n (stepN J0 n N w) R' ∧ RC W base n 0 B R' W' := by
  have g := h w hw
  have htd : R.td w = tdl n w (N.pl w) := by rw [g.td, if_neg hp]
  have hsn := h.sns hw
  unfold stepN
  by_cases c1 : N.pl w ≤ 1 ∧ 2 * w + 1 < n
  · rw [if_pos c1]
    rw [tdl1 c1] at htd
    unfold hearN
    by_cases hd : N.up (2 * w + 1) = sns N w
    · rw [if_pos hd]
      refine (rstep1 w hw _ htd c1.2 hn (by rw [(h _ c1.2).up, hsn]; exact hd) W hR).mono ?_
      rintro e W' ⟨rfl, t, hc⟩
      refine ⟨?_, _, ?_, hc⟩
      · rw [show (upF N.pl w (N.pl w + 1) w == 0) = false by rw [upF_at]; simp]
      · refine h.one w ⟨g.up, g.dn, g.th, ?_, ?_, g.ls, g.dv⟩ (fun i e => ⟨rfl, rfl, rfl, upF_ne _ _ e, upF_ne _ _ e, rfl⟩) (fun i e => ⟨rfl, rfl, rfl, setF_ne _ _ e, setF_ne _ _ e, rfl, rfl⟩)
        · show setF R.td w _ w = if upF N.pl w (N.pl w + 1) w = 0 then [] else tdl n w (upF N.pl w (N.pl w + 1) w)
          rw [setF_at, upF_at, if_neg (by omega), show N.pl w + 1 = 2 by omega]
        · intro _ _
          show setF R.hs w (R.hs w) w = upF N.hs w (J0 (N.hs w) _) w
          rw [setF_at, upF_at]
          exact g.hs hp (by omega)
    · rw [if_neg hd]
      refine (rstep1_no w hw _ htd c1.2 hn (by rw [(h _ c1.2).up, hsn]; exact hd) W hR).mono ?_
      rintro e W' ⟨rfl, rfl⟩
      exact ⟨by rw [show (N.pl w == 0) = false by simpa using hp], R, h, RC.start hR⟩
  · rw [if_neg c1]
    by_cases c2 : N.pl w ≤ 2 ∧ 2 * w + 2 < n
    · rw [if_pos c2]
      rw [tdl2 c1 c2] at htd
      unfold hearN
      by_cases hd : N.up (2 * w + 2) = sns N w
      · rw [if_pos hd]
        refine (rstep2 w hw _ htd c2.2 hn (by rw [(h _ c2.2).up, hsn]; exact hd) W hR).mono ?_
        rintro e W' ⟨rfl, t, hc⟩
        refine ⟨?_, _, ?_, hc⟩
        · rw [show (upF N.pl w (N.pl w + 1) w == 0) = false by rw [upF_at]; simp]
        · refine h.one w ⟨g.up, g.dn, g.th, ?_, ?_, g.ls, g.dv⟩ (fun i e => ⟨rfl, rfl, rfl, upF_ne _ _ e, upF_ne _ _ e, rfl⟩) (fun i e => ⟨rfl, rfl, rfl, setF_ne _ _ e, setF_ne _ _ e, rfl, rfl⟩)
          · show setF R.td w _ w = if upF N.pl w (N.pl w + 1) w = 0 then [] else tdl n w (upF N.pl w (N.pl w + 1) w)
            rw [setF_at, upF_at, if_neg (by omega), show N.pl w + 1 = 3 by omega]
          · intro _ _
            show setF R.hs w (R.hs w) w = upF N.hs w (J0 (N.hs w) _) w
            rw [setF_at, upF_at]
            exact g.hs hp (by omega)
      · rw [if_neg hd]
        refine (rstep2_no w hw _ htd c2.2 hn (by rw [(h _ c2.2).up, hsn]; exact hd) W hR).mono ?_
        rintro e W' ⟨rfl, rfl⟩
        exact ⟨by rw [show (N.pl w == 0) = false by simpa using hp], R, h, RC.start hR⟩
    · rw [if_neg c2]
      by_cases c3 : N.pl w ≤ 3 ∧ 0 < w
      · rw [if_pos c3]
        rw [tdl3 c1 c2 c3] at htd
        refine (rstep3 w hw _ htd W hR).mono ?_
        rintro e W' ⟨rfl, t, hc⟩
        refine ⟨?_, _, ?_, hc⟩
        · rw [show ((riseN N w).pl w == 0) = false by unfold riseN; dsimp only; rw [upF_at]; rfl]
        · refine h.one w ⟨?_, g.dn, g.th, ?_, ?_, g.ls, g.dv⟩ (fun i e => ⟨upF_ne _ _ e, rfl, rfl, upF_ne _ _ e, upF_ne _ _ e, rfl⟩) (fun i e => ⟨setF_ne _ _ e, rfl, rfl, setF_ne _ _ e, rfl, rfl, rfl⟩)
          · show setF R.up w _ w = upF N.up w _ w
            rw [setF_at, upF_at, hsn]
          · show setF R.td w _ w = if upF N.pl w 4 w = 0 then [] else tdl n w (upF N.pl w 4 w)
            rw [setF_at, upF_at, if_neg (by decide)]
          · intro _ h4
            rcases h4 with h4 | h4
            · exact absurd (upF_at _ _ _) h4
            · omega
      · rw [if_neg c3]
        by_cases c4 : N.pl w ≤ 4 ∧ 0 < w
        · rw [if_pos c4]
          rw [tdl4 c1 c2 c3 c4] at htd
          have hpn : (w - 1) / 2 < n := by omega
          unfold hearPN
          by_cases hd : N.dn ((w - 1) / 2) = sns N w
          · rw [if_pos hd]
            refine (rstep4 w hw _ htd c4.2 hn (by rw [(h _ hpn).dn, hsn]; exact hd) W hR).mono ?_
            rintro e W' ⟨rfl, t, hc⟩
            refine ⟨?_, _, ?_, hc⟩
            · rw [show (upF N.pl w 5 w == 0) = false by rw [upF_at]; rfl]
            · refine h.one w ⟨g.up, g.dn, g.th, ?_, ?_, g.ls, g.dv⟩ (fun i e => ⟨rfl, rfl, rfl, upF_ne _ _ e, upF_ne _ _ e, rfl⟩) (fun i e => ⟨rfl, rfl, rfl, setF_ne _ _ e, setF_ne _ _ e, rfl, rfl⟩)
              · show setF R.td w _ w = if upF N.pl w 5 w = 0 then [] else tdl n w (upF N.pl w 5 w)
                rw [setF_at, upF_at, if_neg (by decide)]
              · intro _ _
                show setF R.hs w _ w = upF N.hs w _ w
                rw [setF_at, upF_at]
                exact (h _ hpn).dv
          · rw [if_neg hd]
            refine (rstep4_no w hw _ htd c4.2 hn (by rw [(h _ hpn).dn, hsn]; exact hd) W hR).mono ?_
            rintro e W' ⟨rfl, rfl⟩
            exact ⟨by rw [show (N.pl w == 0) = false by simpa using hp], R, h, RC.start hR⟩
        · rw [if_neg c4]
          rw [tdl5 c1 c2 c3 c4] at htd
          have h4 : N.pl w ≠ 4 ∨ w = 0 := by omega
          refine (rstep5 w hw _ htd (by rw [g.th]; exact hr) W hR).mono ?_
          rintro e W' ⟨rfl, t, hc⟩
          have hh : R.hs w = N.hs w := g.hs hp h4
          refine ⟨?_, _, ?_, hc⟩
          · rw [show ((leaveN N w).pl w == 0) = true by unfold leaveN; dsimp only; rw [upF_at]; rfl]
          · refine h.one w ⟨g.up, ?_, ?_, ?_, ?_, ?_, ?_⟩ (fun i e => ⟨rfl, upF_ne _ _ e, upF_ne _ _ e, upF_ne _ _ e, upF_ne _ _ e, upF_ne _ _ e⟩) (fun i e => ⟨rfl, setF_ne _ _ e, setF_ne _ _ e, setF_ne _ _ e, rfl, setF_ne _ _ e, setF_ne _ _ e⟩)
            · show setF R.dn w _ w = upF N.dn w _ w
              rw [setF_at, upF_at, hsn]
            · show setF R.th w _ w = upF N.rd w _ w
              rw [setF_at, upF_at, g.th]
            · show setF R.td w _ w = if upF N.pl w 0 w = 0 then [] else tdl n w (upF N.pl w 0 w)
              rw [setF_at, upF_at, if_pos rfl]
            · intro h0 _
              exact absurd (upF_at _ _ _) h0
            · show setF R.ls w _ w = upF N.dv w _ w
              rw [setF_at, upF_at, hh]
            · show setF R.dv w _ w = upF N.dv w _ w
              rw [setF_at, upF_at, hh]
/-- the reference's Step, by the program's net -/
theorem rstep_any (h : RL n N R) (hn : n ≤ 64) (x : Int) (hp5 : ∀ w, w < n → N.pl w ≤ 5) (hr : ∀ w, w < n → N.rd w < 1000000000000000000) (W : World) (hR : RN base n 0 B R W) : Calls Try.prog 28 #[.pointer (some ⟨B.rb, 0, none⟩), .int .i64 x] W fun e W' => e = .returned (.tuple #[.bool (stpB J0 n N x), .int .i64 (stpE n N x)]) ∧ ∃ R', RL n (stpN J0 n N x) R' ∧ RC W base n 0 B R' W' := by
  unfold stpB stpE stpN
  by_cases hx : inN n x = true
  · obtain ⟨w, hw, rfl⟩ := inN_get hx
    simp only [hx, true_and, if_true, Int.toNat_natCast]
    by_cases hp : N.pl w = 0
    · have h2 := rstep_no (w : Int) W hR (by rw [Int.toNat_natCast]; exact fun e => e.2 ((h w hw).len.2 hp))
      rw [if_pos hx] at h2
      simp only [hp, ne_eq, not_true_eq_false, if_false, if_true]
      refine h2.mono ?_
      rintro e W' ⟨rfl, rfl⟩
      exact ⟨rfl, R, h, RC.start hR⟩
    · simp only [hp, ne_eq, not_false_eq_true, if_false, if_true]
      exact rstep_in h hn w hw hp (hp5 w hw) (hr w hw) W hR
  · have h2 := rstep_no x W hR (fun e => hx e.1)
    rw [if_neg hx] at h2
    simp only [hx, Bool.false_eq_true, false_and, if_false]
    refine h2.mono ?_
    rintro e W' ⟨rfl, rfl⟩
    exact ⟨rfl, R, h, RC.start hR⟩
theorem RL.valE (h : RL n N R) (x : Int) : rvlE n R x = Proofs.Ytfgkmijaimfkjaa.valE n N x := by
  unfold rvlE Proofs.Ytfgkmijaimfkjaa.valE
  by_cases hx : inN n x = true
  · obtain ⟨w, hw, rfl⟩ := inN_get hx
    rw [Int.toNat_natCast, (h w hw).th]
  · rw [if_neg hx, if_neg hx]
theorem RL.valV (h : RL n N R) (x : Int) : rvlV n R x = Proofs.Ytfgkmijaimfkjaa.valV n N x := by
  unfold rvlV Proofs.Ytfgkmijaimfkjaa.valV
  by_cases hx : inN n x = true
  · obtain ⟨w, hw, rfl⟩ := inN_get hx
    rw [Int.toNat_natCast, (h w hw).th, (h w hw).ls]
  · simp only [hx, Bool.false_eq_true, false_and, if_false]
theorem RL.rdE (h : RL n N R) (x : Int) : (if inN n x = true then (R.th x.toNat : Int) else 0) = if inN n x = true then (N.rd x.toNat : Int) else 0 := by
  by_cases hx : inN n x = true
  · obtain ⟨w, hw, rfl⟩ := inN_get hx
    rw [Int.toNat_natCast, (h w hw).th]
  · rw [if_neg hx, if_neg hx]
theorem RL.inE (h : RL n N R) (x : Int) : (inN n x && ((R.td x.toNat).length != 0)) = (inN n x && (N.pl x.toNat != 0)) := by
  by_cases hx : inN n x = true
  · obtain ⟨w, hw, rfl⟩ := inN_get hx
    rw [Int.toNat_natCast]
    have := (h w hw).len
    by_cases e : N.pl w = 0
    · simp [e, this.2 e]
    · rw [show ((R.td w).length != 0) = true from bne_iff_ne.2 (fun hh => e (this.1 hh)), show (N.pl w != 0) = true from bne_iff_ne.2 e]
  · rw [Bool.not_eq_true] at hx
    rw [hx]
    rfl
theorem RL.fl (h : RL n N R) : ∀ j, j < n * 2 → flC R.up R.dn j = flC N.up N.dn j := fun j hj => by
  unfold flC
  rw [(h (j / 2) (by omega)).up, (h (j / 2) (by omega)).dn]
end Go.Proofs.Ytfgkmijaimfkjaa
