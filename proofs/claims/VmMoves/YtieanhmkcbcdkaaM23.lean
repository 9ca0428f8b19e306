import Derived.Test.YtieanhmkcbcdkaaM21
import Derived.Test.YtieanhmkcbcdkaaM22
namespace Go.Proofs.Ytieanhmkcbcdkaa
open Go.ChangeShapes Go.WideShapes Go.ChangeAt Go.RowKit
set_option linter.unusedVariables false

/-- vm.Run, whatever comes -/
theorem vmRun (P : Pg) (v : PgV) (cl : Cl) (p : Option Addr) (n c : Nat) (K : Nat → Int) (d s : Int) (w : World) (h : PAt w P v) (hc : CallAt w cl p n c K d s) (hA64 : ∀ i, i < P.n → In64 (P.a i)) :
    Calls Try.prog 10 #[.agg #[.int .i64 P.words, .int .i64 P.locals, .slice v.cp P.n v.cc, .slice v.ep P.m v.ec], .agg #[.int .u64 cl.time, .int .i64 cl.src, .int .u64 cl.seq, .int .i64 cl.dst, .int .i64 cl.kind, .int .i64 cl.data, .slice p n c, .int .u64 d, .int .u64 s, .int .u64 cl.look, .int .i64 cl.parts, .int .i64 cl.fuel]] w fun e w' => ∃ r, e = .returned r ∧ EfAt w' w.heap.size r (effP P cl n K d s) ∧ Below w.heap.size w w' := by
  by_cases hz : dcode P P.m = 0
  · by_cases hf : fitsB P cl n = true
    · exact run_good P v cl p n c K d s w h hz hf hc hA64
    · have hf' : fitsB P cl n = false := by simpa using hf
      have e : effP P cl n K d s = efErr 63 := by
        unfold effP
        rw [if_neg (by rw [hz]; simp), if_pos hf']
      rw [e]
      exact run_unfit P v cl p n c d s w h hz hf'
  · have e : effP P cl n K d s = efErr (dcode P P.m) := by
      unfold effP
      rw [if_pos hz]
    rw [e]
    exact run_bad P v cl p n c d s w h hz
/-! ### what runs keep -/
theorem doM_out (cl : Cl) (M : Mc) (o a b : Int) (ho : o ≠ 39) : (doM cl M o a b).on = M.on ∧ (doM cl M o a b).oF = M.oF ∧ (doM cl M o a b).sent = M.sent := by
  unfold doM
  by_cases h1 : o = 1
  · rw [if_pos h1]; exact ⟨rfl, rfl, rfl⟩
  rw [if_neg h1]
  by_cases h2 : o = 2
  · rw [if_pos h2]; exact ⟨rfl, rfl, rfl⟩
  rw [if_neg h2]
  by_cases h3 : o = 3
  · rw [if_pos h3]; exact ⟨rfl, rfl, rfl⟩
  rw [if_neg h3]
  by_cases h4 : o = 4
  · rw [if_pos h4]; exact ⟨rfl, rfl, rfl⟩
  rw [if_neg h4]
  by_cases h5 : o = 5
  · rw [if_pos h5]; exact ⟨rfl, rfl, rfl⟩
  rw [if_neg h5]
  by_cases h6 : o = 6
  · rw [if_pos h6]; exact ⟨rfl, rfl, rfl⟩
  rw [if_neg h6]
  by_cases h7 : o = 7
  · rw [if_pos h7]; exact ⟨rfl, rfl, rfl⟩
  rw [if_neg h7]
  by_cases h8 : o = 8
  · rw [if_pos h8]; exact ⟨rfl, rfl, rfl⟩
  rw [if_neg h8]
  by_cases h9 : o = 9
  · rw [if_pos h9]; exact ⟨rfl, rfl, rfl⟩
  rw [if_neg h9]
  by_cases h10 : o = 10
  · rw [if_pos h10]; exact ⟨rfl, rfl, rfl⟩
  rw [if_neg h10]
  by_cases h11 : o = 11
  · rw [if_pos h11]; exact ⟨rfl, rfl, rfl⟩
  rw [if_neg h11]
  by_cases h12 : o = 12
  · rw [if_pos h12]; exact ⟨rfl, rfl, rfl⟩
  rw [if_neg h12]
  by_cases h38 : o = 38
  · rw [if_pos h38]; exact ⟨rfl, rfl, rfl⟩
  rw [if_neg h38]
  by_cases h37 : o = 37
  · rw [if_pos h37]; exact ⟨rfl, rfl, rfl⟩
  rw [if_neg h37]
  by_cases h41 : o = 41
  · rw [if_pos h41]; (generalize waitV M.dice (topM M) = r; rcases r with _ | r <;> exact ⟨rfl, rfl, rfl⟩)
  rw [if_neg h41]
  by_cases h39 : o = 39
  · exact absurd h39 (by omega)
  rw [if_neg h39]
  by_cases hs : o = 23 ∨ o = 24 ∨ o = 25 ∨ o = 34
  · rw [if_pos hs]; exact ⟨rfl, rfl, rfl⟩
  rw [if_neg hs]
  by_cases hp : isPairB o = true
  · rw [if_pos hp]; exact ⟨rfl, rfl, rfl⟩
  rw [if_neg hp]
  exact ⟨rfl, rfl, rfl⟩
theorem doM_dice (cl : Cl) (M : Mc) (o a b : Int) (ho : o ≠ 37 ∧ o ≠ 41) : (doM cl M o a b).dice = M.dice := by
  unfold doM
  by_cases h1 : o = 1
  · rw [if_pos h1]; exact rfl
  rw [if_neg h1]
  by_cases h2 : o = 2
  · rw [if_pos h2]; exact rfl
  rw [if_neg h2]
  by_cases h3 : o = 3
  · rw [if_pos h3]; exact rfl
  rw [if_neg h3]
  by_cases h4 : o = 4
  · rw [if_pos h4]; exact rfl
  rw [if_neg h4]
  by_cases h5 : o = 5
  · rw [if_pos h5]; exact rfl
  rw [if_neg h5]
  by_cases h6 : o = 6
  · rw [if_pos h6]; exact rfl
  rw [if_neg h6]
  by_cases h7 : o = 7
  · rw [if_pos h7]; exact rfl
  rw [if_neg h7]
  by_cases h8 : o = 8
  · rw [if_pos h8]; exact rfl
  rw [if_neg h8]
  by_cases h9 : o = 9
  · rw [if_pos h9]; exact rfl
  rw [if_neg h9]
  by_cases h10 : o = 10
  · rw [if_pos h10]; exact rfl
  rw [if_neg h10]
  by_cases h11 : o = 11
  · rw [if_pos h11]; exact rfl
  rw [if_neg h11]
  by_cases h12 : o = 12
  · rw [if_pos h12]; exact rfl
  rw [if_neg h12]
  by_cases h38 : o = 38
  · rw [if_pos h38]; exact rfl
  rw [if_neg h38]
  by_cases h37 : o = 37
  · exact absurd h37 (by omega)
  rw [if_neg h37]
  by_cases h41 : o = 41
  · exact absurd h41 (by omega)
  rw [if_neg h41]
  by_cases h39 : o = 39
  · rw [if_pos h39]; exact rfl
  rw [if_neg h39]
  by_cases hs : o = 23 ∨ o = 24 ∨ o = 25 ∨ o = 34
  · rw [if_pos hs]; exact rfl
  rw [if_neg hs]
  by_cases hp : isPairB o = true
  · rw [if_pos hp]; exact rfl
  rw [if_neg hp]
def pcOk (p : Int × Int) : Prop := p.2 = 0 ∨ p.2 = 201 ∨ p.2 = 202
theorem pc_ite {c : Prop} [Decidable c] {x y : Int × Int} (hx : pcOk x) (hy : pcOk y) : pcOk (if c then x else y) := by
  split
  · exact hx
  · exact hy
theorem pair_code (o a b : Int) : pcOk (pairV o a b) := by
  unfold pairV
  repeat' apply pc_ite
  all_goals first | exact .inl rfl | exact .inr (.inl rfl) | exact .inr (.inr rfl)
theorem doF_code (cl : Cl) (M : Mc) (o a b : Int) : doF cl M o a b = 0 ∨ 201 ≤ doF cl M o a b ∧ doF cl M o a b ≤ 209 := by
  have hp := pair_code o (topM (popM M)) (topM M)
  unfold pcOk at hp
  unfold doF idxF sendF
  repeat' split
  all_goals omega
theorem runP_code (P : Pg) (cl : Cl) : ∀ (k i : Nat) (M : Mc), (runP P cl k i M).1 = 0 ∨ 200 ≤ (runP P cl k i M).1 ∧ (runP P cl k i M).1 ≤ 209
  | 0, i, M => by rw [runP_zero]; right; simp
  | k + 1, i, M => by
    by_cases h0 : P.op i = 0
    · rw [runP_stop h0]; left; rfl
    by_cases h1 : P.op i = 35
    · rw [runP_jump h1]; exact runP_code P cl k _ _
    by_cases h2 : P.op i = 36
    · rw [runP_ifz h2]; exact runP_code P cl k _ _
    have h3 : P.op i ≠ 0 ∧ P.op i ≠ 35 ∧ P.op i ≠ 36 := ⟨h0, h1, h2⟩
    by_cases hf : doF cl (usM M) (P.op i) (P.a i) (P.b i) = 0
    · rw [runP_go h3 hf]; exact runP_code P cl k _ _
    · rw [runP_fault h3 hf]
      have := doF_code cl (usM M) (P.op i) (P.a i) (P.b i)
      right
      show 200 ≤ doF cl (usM M) (P.op i) (P.a i) (P.b i) ∧ doF cl (usM M) (P.op i) (P.a i) (P.b i) ≤ 209
      omega
theorem us_used (M : Mc) : (usM M).used = M.used + 1 := rfl
theorem popus_used (M : Mc) : (popM (usM M)).used = M.used + 1 := rfl
theorem dous_used (cl : Cl) (M : Mc) (o a b : Int) : (doM cl (usM M) o a b).used = M.used + 1 := doM_used cl (usM M) o a b
theorem runP_used (P : Pg) (cl : Cl) : ∀ (k i : Nat) (M : Mc), M.used ≤ (runP P cl k i M).2.used ∧ (runP P cl k i M).2.used ≤ M.used + k ∧ ((runP P cl k i M).1 ≠ 200 → M.used < (runP P cl k i M).2.used) ∧ ((runP P cl k i M).1 = 200 → (runP P cl k i M).2.used = M.used + k)
  | 0, i, M => by rw [runP_zero]; simp
  | k + 1, i, M => by
    by_cases h0 : P.op i = 0
    · rw [runP_stop h0]
      simp only [us_used]
      refine ⟨by omega, by omega, fun _ => by omega, fun h => by cases h⟩
    by_cases h1 : P.op i = 35
    · rw [runP_jump h1]
      obtain ⟨a1, a2, a3, a4⟩ := runP_used P cl k (P.a i).toNat (usM M)
      rw [us_used] at a1 a2 a3 a4
      exact ⟨by omega, by omega, fun _ => by omega, fun h => by have := a4 h; omega⟩
    by_cases h2 : P.op i = 36
    · rw [runP_ifz h2]
      obtain ⟨a1, a2, a3, a4⟩ := runP_used P cl k (if topM M = 0 then (P.a i).toNat else i + 1) (popM (usM M))
      rw [popus_used] at a1 a2 a3 a4
      exact ⟨by omega, by omega, fun _ => by omega, fun h => by have := a4 h; omega⟩
    have h3 : P.op i ≠ 0 ∧ P.op i ≠ 35 ∧ P.op i ≠ 36 := ⟨h0, h1, h2⟩
    by_cases hf : doF cl (usM M) (P.op i) (P.a i) (P.b i) = 0
    · rw [runP_go h3 hf]
      obtain ⟨a1, a2, a3, a4⟩ := runP_used P cl k (i + 1) (doM cl (usM M) (P.op i) (P.a i) (P.b i))
      rw [dous_used] at a1 a2 a3 a4
      exact ⟨by omega, by omega, fun _ => by omega, fun h => by have := a4 h; omega⟩
    · rw [runP_fault h3 hf]
      have hc := doF_code cl (usM M) (P.op i) (P.a i) (P.b i)
      simp only [us_used]
      exact ⟨by omega, by omega, fun _ => by omega, fun h => by omega⟩
/-- more fuel changes nothing -/
theorem runP_more (P : Pg) (cl : Cl) : ∀ (k i : Nat) (M : Mc) (k' : Nat), (runP P cl k i M).1 ≠ 200 → (runP P cl k i M).2.used ≤ M.used + k' → runP P cl k' i M = runP P cl k i M
  | 0, i, M, k', h, _ => by rw [runP_zero] at h; exact absurd rfl h
  | k + 1, i, M, 0, h, hu => by
    have := (runP_used P cl (k + 1) i M).2.2.1 h
    omega
  | k + 1, i, M, k' + 1, h, hu => by
    by_cases h0 : P.op i = 0
    · rw [runP_stop h0, runP_stop h0]
    by_cases h1 : P.op i = 35
    · rw [runP_jump h1] at h hu ⊢
      rw [runP_jump h1]
      exact runP_more P cl k _ _ k' h (by rw [us_used]; omega)
    by_cases h2 : P.op i = 36
    · rw [runP_ifz h2] at h hu ⊢
      rw [runP_ifz h2]
      exact runP_more P cl k _ _ k' h (by rw [popus_used]; omega)
    have h3 : P.op i ≠ 0 ∧ P.op i ≠ 35 ∧ P.op i ≠ 36 := ⟨h0, h1, h2⟩
    by_cases hf : doF cl (usM M) (P.op i) (P.a i) (P.b i) = 0
    · rw [runP_go h3 hf] at h hu ⊢
      rw [runP_go h3 hf]
      exact runP_more P cl k _ _ k' h (by rw [dous_used]; omega)
    · rw [runP_fault h3 hf, runP_fault h3 hf]
/-- with less it ends for want of it -/
theorem runP_less (P : Pg) (cl : Cl) : ∀ (k' i : Nat) (M : Mc) (k : Nat), (M.used + k' < (runP P cl k i M).2.used ∨ (runP P cl k i M).1 = 200 ∧ k' ≤ k) → (runP P cl k' i M).1 = 200 ∧ (runP P cl k' i M).2.used = M.used + k'
  | 0, i, M, k, h => by rw [runP_zero]; simp
  | k' + 1, i, M, 0, h => by rw [runP_zero] at h; simp only at h; omega
  | k' + 1, i, M, k + 1, h => by
    by_cases h0 : P.op i = 0
    · rw [runP_stop h0] at h
      simp only [us_used] at h
      omega
    by_cases h1 : P.op i = 35
    · rw [runP_jump h1] at h
      rw [runP_jump h1]
      have := runP_less P cl k' _ (usM M) k (h.imp (fun h => by rw [us_used]; omega) (fun h => ⟨h.1, by omega⟩))
      rw [us_used] at this
      exact ⟨this.1, by omega⟩
    by_cases h2 : P.op i = 36
    · rw [runP_ifz h2] at h
      rw [runP_ifz h2]
      have := runP_less P cl k' _ (popM (usM M)) k (h.imp (fun h => by rw [popus_used]; omega) (fun h => ⟨h.1, by omega⟩))
      rw [popus_used] at this
      exact ⟨this.1, by omega⟩
    have h3 : P.op i ≠ 0 ∧ P.op i ≠ 35 ∧ P.op i ≠ 36 := ⟨h0, h1, h2⟩
    by_cases hf : doF cl (usM M) (P.op i) (P.a i) (P.b i) = 0
    · rw [runP_go h3 hf] at h
      rw [runP_go h3 hf]
      have := runP_less P cl k' _ (doM cl (usM M) (P.op i) (P.a i) (P.b i)) k (h.imp (fun h => by rw [dous_used]; omega) (fun h => ⟨h.1, by omega⟩))
      rw [dous_used] at this
      exact ⟨this.1, by omega⟩
    · rw [runP_fault h3 hf] at h
      have hc := doF_code cl (usM M) (P.op i) (P.a i) (P.b i)
      simp only [us_used] at h
      omega
/-- what every instruction keeps, a run keeps -/
theorem runP_ind {P : Pg} (g : Gd P) (hs : sizedP P) (hnr : ¬ Rch P P.n) (hbd : ¬ BadD P) (hins : ferr (insE P) 0 P.n = 0) {cl : Cl} (hcl : OkC cl) (hA64 : ∀ i, i < P.n → In64 (P.a i)) (J : Mc → Prop) (hus : ∀ M, J M → J (usM M)) (hpop : ∀ M, J M → J (popM M))
    (hdo : ∀ M i, i < P.n → OkM M → J (usM M) → insErr P (P.op i) (P.a i) (P.b i) = 0 → doF cl (usM M) (P.op i) (P.a i) (P.b i) = 0 → J (doM cl (usM M) (P.op i) (P.a i) (P.b i))) : ∀ (k i : Nat) (M : Mc), i < P.n → (M.hi : Int) = dL P i → OkM M → J M → J (runP P cl k i M).2 ∧ OkM (runP P cl k i M).2
  | 0, i, M, hi, hd, hok, hJ => by rw [runP_zero]; exact ⟨hJ, hok⟩
  | k + 1, i, M, hi, hd, hok, hJ => by
    have hsol := sol_dL g hnr hbd
    have hdn : dL P i ≠ -1 := by omega
    have HD := hsol.dp i hi hdn
    have HF := hsol.fine i hi hdn
    have hins1 : insErr P (P.op i) (P.a i) (P.b i) = 0 := ferr_zero hins i (by omega) (by omega)
    by_cases h0 : P.op i = 0
    · rw [runP_stop h0]; exact ⟨hus _ hJ, hok.us⟩
    by_cases h1 : P.op i = 35
    · rw [runP_jump h1]
      have hj : jmp (P.op i) = true := by rw [h1]; rfl
      have ha := g.a i hi hj
      have hL := hsol.jump i hi hdn hj
      refine runP_ind g hs hnr hbd hins hcl hA64 J hus hpop hdo k _ _ (by omega) ?_ hok.us (hus _ hJ)
      show (M.hi : Int) = _
      rw [hL]
      unfold aft
      rw [h1, show pops 35 = 0 from rfl, show pushes 35 = 0 from rfl]
      omega
    by_cases h2 : P.op i = 36
    · rw [runP_ifz h2]
      have hj : jmp (P.op i) = true := by rw [h2]; rfl
      have hen : ends (P.op i) = false := by rw [h2]; rfl
      have haft : aft P i (dL P i) = dL P i - 1 := by
        unfold aft
        rw [h2, show pops 36 = 1 from rfl, show pushes 36 = 0 from rfl]
        omega
      have hhi : 1 ≤ M.hi := by
        have := HF.1
        rw [h2, show pops 36 = 1 from rfl] at this
        omega
      by_cases ht : topM M = 0
      · rw [if_pos ht]
        have ha := g.a i hi hj
        have hL := hsol.jump i hi hdn hj
        refine runP_ind g hs hnr hbd hins hcl hA64 J hus hpop hdo k _ _ (by omega) ?_ hok.us.pop (hpop _ (hus _ hJ))
        show ((M.hi - 1 : Nat) : Int) = _
        rw [hL, haft]
        omega
      · rw [if_neg ht]
        have hnx := hsol.eq g hnr (.next i _ HD hi HF hen)
        refine runP_ind g hs hnr hbd hins hcl hA64 J hus hpop hdo k _ _ hnx.1 ?_ hok.us.pop (hpop _ (hus _ hJ))
        show ((M.hi - 1 : Nat) : Int) = _
        rw [hnx.2, haft]
        omega
    have h3 : P.op i ≠ 0 ∧ P.op i ≠ 35 ∧ P.op i ≠ 36 := ⟨h0, h1, h2⟩
    by_cases hf : doF cl (usM M) (P.op i) (P.a i) (P.b i) = 0
    · rw [runP_go h3 hf]
      have h40 : P.op i ≠ 40 := fun e => by
        rw [e] at hf
        unfold doF at hf
        rw [if_pos rfl] at hf
        cases hf
      have hen : ends (P.op i) = false := by
        unfold ends
        simp [h0, h1, h40]
      have hnx := hsol.eq g hnr (.next i _ HD hi HF hen)
      have hf1 : pops (P.op i) ≤ (usM M).hi := by have := HF.1; show pops (P.op i) ≤ (M.hi : Int); omega
      have hhi := doM_hi cl (usM M) (P.op i) (P.a i) (P.b i) (g.op i hi) ⟨h0, h1, h2, h40⟩ hf hf1
      refine runP_ind g hs hnr hbd hins hcl hA64 J hus hpop hdo k _ _ hnx.1 ?_ (doM_ok cl hcl (usM M) hok.us _ _ _ (hA64 i hi) hf ?_) (hdo M i hi hok (hus _ hJ) hins1 hf)
      · rw [hhi, hnx.2]
        unfold aft
        show (M.hi : Int) - _ + _ = _
        omega
      · intro e38
        have h5 := ins_two hins1 (by rw [e38]; rfl)
        rw [e38, show limI P 38 = 64 from rfl] at h5
        omega
    · rw [runP_fault h3 hf]; exact ⟨hus _ hJ, hok.us⟩
/-! ### what is sent -/
structure SInv (P : Pg) (cl : Cl) (s0 : Int) (M : Mc) : Prop where
  on : M.on ≤ 16
  sent : M.sent = u64of (s0 + M.on)
  ev : ∀ i, i < M.on → ∃ D T k X : Int, M.oF (i * 6) = .int .u64 (addN cl.time (u64of D)) ∧ M.oF (i * 6 + 1) = .int .i64 cl.dst ∧ M.oF (i * 6 + 2) = .int .u64 (u64of (s0 + i)) ∧ M.oF (i * 6 + 3) = .int .i64 T ∧ M.oF (i * 6 + 4) = .int .i64 k ∧ M.oF (i * 6 + 5) = .int .i64 X ∧ (0 ≤ T ∧ T < cl.parts) ∧ (0 ≤ k ∧ k < P.m) ∧ ¬ u64of D < cl.look ∧ addE cl.time (u64of D) = 0
theorem u64of_u (x : Int) : u64of (u64of x + 1) = u64of (x + 1) := by
  unfold u64of
  simp only [IntKind.wrap, IntKind.bits, IntKind.signed]
  simp
theorem sinv_do {P : Pg} {cl : Cl} {s0 : Int} (M : Mc) (o a b : Int) (h : SInv P cl s0 M) (hi : insErr P o a b = 0) (hf : doF cl M o a b = 0) : SInv P cl s0 (doM cl M o a b) := by
  by_cases h39 : o = 39
  · subst h39
    have hz : sendF cl M (topM M) (topM (popM M)) = 0 := hf
    have hk := ins_one hi (by decide) (by decide)
    rw [show limI P 39 = P.m from rfl] at hk
    have hon := sendF_on hz
    have e : doM cl M 39 a b = sentM cl a M := by
      unfold doM
      rw [if_neg (by omega), if_neg (by omega), if_neg (by omega), if_neg (by omega), if_neg (by omega), if_neg (by omega), if_neg (by omega), if_neg (by omega), if_neg (by omega), if_neg (by omega), if_neg (by omega), if_neg (by omega), if_neg (by omega), if_neg (by omega), if_neg (by omega), if_pos rfl]
    rw [e]
    have ho := h.on
    refine ⟨by show M.on + 1 ≤ 16; omega, ?_, fun i hi => ?_⟩
    · show u64of (M.sent + 1) = u64of (s0 + ((M.on + 1 : Nat) : Int))
      rw [h.sent, u64of_u]
      congr 1
      omega
    · have hi' : i < M.on + 1 := hi
      by_cases hlt : i < M.on
      · obtain ⟨D, T, k, X, e0, e1, e2, e3, e4, e5, r⟩ := h.ev i hlt
        have ap : ∀ r, r < 6 → (sentM cl a M).oF (i * 6 + r) = M.oF (i * 6 + r) := fun r hr => by
          show oApp M _ (i * 6 + r) = _
          unfold oApp
          rw [if_pos (by omega)]
        refine ⟨D, T, k, X, ?_, ?_, ?_, ?_, ?_, ?_, r⟩
        · rw [← e0]; exact ap 0 (by omega)
        · rw [← e1]; exact ap 1 (by omega)
        · rw [← e2]; exact ap 2 (by omega)
        · rw [← e3]; exact ap 3 (by omega)
        · rw [← e4]; exact ap 4 (by omega)
        · rw [← e5]; exact ap 5 (by omega)
      · obtain rfl : i = M.on := by omega
        have ap : ∀ r, r < 6 → (sentM cl a M).oF (M.on * 6 + r) = (sentEv cl M a (topM M) (topM (popM M)) (topM (popM (popM M)))).getD r undef := fun r hr => by
          show oApp M _ (M.on * 6 + r) = _
          unfold oApp
          rw [if_neg (by omega), show M.on * 6 + r - M.on * 6 = r by omega]
        unfold sendF at hz
        by_cases c1 : topM (popM M) < 0 ∨ cl.parts ≤ topM (popM M)
        · rw [if_pos c1] at hz; cases hz
        rw [if_neg c1] at hz
        by_cases c2 : topM M < 0 ∨ u64of (topM M) < cl.look
        · rw [if_pos c2] at hz; cases hz
        rw [if_neg c2, if_neg hon] at hz
        by_cases c3 : addE cl.time (u64of (topM M)) ≠ 0
        · rw [if_pos c3] at hz; cases hz
        refine ⟨topM M, topM (popM M), a, topM (popM (popM M)), ap 0 (by omega), ap 1 (by omega), ?_, ap 3 (by omega), ap 4 (by omega), ap 5 (by omega), by omega, by omega, fun hc => c2 (.inr hc), by omega⟩
        rw [ap 2 (by omega), ← h.sent]
        rfl
  · obtain ⟨e1, e2, e3⟩ := doM_out cl M o a b h39
    exact ⟨by rw [e1]; exact h.on, by rw [e1, e3]; exact h.sent, fun i hi => by rw [e2]; exact h.ev i (by rw [e1] at hi; exact hi)⟩
theorem SInv.sh {P : Pg} {cl : Cl} {s0 : Int} {M : Mc} (h : SInv P cl s0 M) : EvSh M.on M.oF := fun i hi => by
  obtain ⟨D, T, k, X, e0, e1, e2, e3, e4, e5, _⟩ := h.ev i hi
  exact ⟨_, _, _, _, _, _, e0, e1, e2, e3, e4, e5⟩
/-! ### the dice -/
def nxN : Nat → BitVec 64 → BitVec 64
  | 0, b => b
  | k + 1, b => nx (nxN k b)
theorem nxN_add (j : Nat) : ∀ (k : Nat) (b : BitVec 64), nxN k (nxN j b) = nxN (k + j) b
  | 0, b => by rw [Nat.zero_add]; rfl
  | k + 1, b => by
    show nx (nxN k (nxN j b)) = _
    rw [nxN_add j k b, Nat.add_right_comm]
    rfl
theorem blw_steps : ∀ (k : Nat) (s : BitVec 64) (x : Int), ∃ j, j ≤ k ∧ blw k s x = nxN j s
  | 0, s, x => ⟨0, Nat.le_refl _, rfl⟩
  | k + 1, s, x => by
    by_cases h : U (mx (nx s)) < x
    · rw [blw_more h]
      obtain ⟨j, h1, h2⟩ := blw_steps k (nx s) x
      exact ⟨j + 1, by omega, by rw [h2]; exact nxN_add 1 j s⟩
    · rw [blw_stop h]
      exact ⟨1, by omega, rfl⟩
def DInv (d0 : Int) (M : Mc) : Prop := ∃ j : Nat, (j : Int) ≤ 8 * M.used ∧ M.dice = U (nxN j (B d0))
theorem dinv_do {cl : Cl} {d0 : Int} (M : Mc) (o a b : Int) (h : ∃ j : Nat, (j : Int) ≤ 8 * M.used ∧ M.dice = U (nxN j (B d0))) : DInv d0 (doM cl (usM M) o a b) := by
  obtain ⟨j, h1, h2⟩ := h
  have hu := dous_used cl M o a b
  by_cases h37 : o = 37
  · subst h37
    have e : doM cl (usM M) 37 a b = { pushM (popM (usM M)) (rollV (usM M).dice (topM (usM M))).1 with dice := (rollV (usM M).dice (topM (usM M))).2 } := by
      unfold doM
      rw [if_neg (by omega), if_neg (by omega), if_neg (by omega), if_neg (by omega), if_neg (by omega), if_neg (by omega), if_neg (by omega), if_neg (by omega), if_neg (by omega), if_neg (by omega), if_neg (by omega), if_neg (by omega), if_neg (by omega), if_pos rfl]
    obtain ⟨i, h3, h4⟩ := blw_steps 8 (B M.dice) (18446744073709551616 % (topM (usM M)))
    refine ⟨i + j, by rw [hu]; omega, ?_⟩
    rw [e]
    show (rollV M.dice (topM (usM M))).2 = _
    unfold rollV
    show U (blw 8 (B M.dice) _) = _
    rw [h4, h2, B_U, nxN_add]
  · by_cases h41 : o = 41
    · subst h41
      have e : doM cl (usM M) 41 a b = waitM (usM M) (waitV (usM M).dice (topM (usM M))) := by
        unfold doM
        rw [if_neg (by omega), if_neg (by omega), if_neg (by omega), if_neg (by omega), if_neg (by omega), if_neg (by omega), if_neg (by omega), if_neg (by omega), if_neg (by omega), if_neg (by omega), if_neg (by omega), if_neg (by omega), if_neg (by omega), if_neg (by omega), if_pos rfl]
      have e2 : (usM M).dice = M.dice := rfl
      rw [e2] at e
      by_cases hw : waitV M.dice (topM (usM M)) = none
      · refine ⟨j, by rw [hu]; omega, ?_⟩
        rw [e, hw]
        exact h2
      · obtain ⟨r, hr⟩ := Option.ne_none_iff_exists'.1 hw
        refine ⟨1 + j, by rw [hu]; omega, ?_⟩
        rw [e, hr]
        show r.2 = _
        unfold waitV at hr
        split at hr
        · injection hr with hr
          rw [← hr]
          show U (nx (B M.dice)) = _
          rw [h2, B_U]
          exact congrArg U (nxN_add j 1 (B d0))
        · cases hr
    · refine ⟨j, by rw [hu]; omega, ?_⟩
      rw [doM_dice cl (usM M) o a b ⟨h37, h41⟩]
      exact h2
end Go.Proofs.Ytieanhmkcbcdkaa
