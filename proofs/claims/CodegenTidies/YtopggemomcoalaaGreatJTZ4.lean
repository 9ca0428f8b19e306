import Derived.Test.YtopggemomcoalaaGreatJM23
import Derived.Test.YtopggemomcoalaaGreatJTY7
import Derived.Test.YtopggemomcoalaaGreatJTW18
import Derived.Test.YtopggemomcoalaaGreatJTW21
namespace Go.Proofs.YtopggemomcoalaaGreat
set_option linter.unusedVariables false
set_option linter.unusedSimpArgs false

/-! ### machines that are alike, but for fuel and what lies above the stack -/
structure Mq (M N : Mc) : Prop where
  hi : N.hi = M.hi
  st : ∀ j, j < M.hi → N.st j = M.st j
  wd : N.wd = M.wd
  lo : N.lo = M.lo
  dice : N.dice = M.dice
  sent : N.sent = M.sent
  on : N.on = M.on
  oF : N.oF = M.oF
  us : N.used ≤ M.used
theorem Mq.refl (M : Mc) : Mq M M := ⟨rfl, fun _ _ => rfl, rfl, rfl, rfl, rfl, rfl, rfl, Int.le_refl _⟩
theorem Mq.trans {M N O : Mc} (h : Mq M N) (h' : Mq N O) : Mq M O := ⟨h'.hi.trans h.hi, fun j hj => (h'.st j (by rw [h.hi]; exact hj)).trans (h.st j hj), h'.wd.trans h.wd, h'.lo.trans h.lo, h'.dice.trans h.dice, h'.sent.trans h.sent, h'.on.trans h.on, h'.oF.trans h.oF, Int.le_trans h'.us h.us⟩
theorem Mq.usM {M N : Mc} (h : Mq M N) : Mq (Go.Proofs.YtopggemomcoalaaGreat.usM M) (Go.Proofs.YtopggemomcoalaaGreat.usM N) := ⟨h.hi, h.st, h.wd, h.lo, h.dice, h.sent, h.on, h.oF, by show N.used + 1 ≤ M.used + 1; have := h.us; omega⟩
theorem Mq.late {M N : Mc} (h : Mq M N) : Mq (Go.Proofs.YtopggemomcoalaaGreat.usM M) N := ⟨h.hi, h.st, h.wd, h.lo, h.dice, h.sent, h.on, h.oF, by show N.used ≤ M.used + 1; have := h.us; omega⟩
theorem Mq.push {M N : Mc} (h : Mq M N) (x : Int) : Mq (pushM M x) (pushM N x) := ⟨by show N.hi + 1 = M.hi + 1; rw [h.hi], fun j hj => by
  have hj : j < M.hi + 1 := hj
  show updI N.st N.hi x j = updI M.st M.hi x j
  unfold updI
  rw [h.hi]
  split
  · rfl
  · exact h.st j (by omega), h.wd, h.lo, h.dice, h.sent, h.on, h.oF, h.us⟩
theorem Mq.pop {M N : Mc} (h : Mq M N) : Mq (popM M) (popM N) := ⟨by show N.hi - 1 = M.hi - 1; rw [h.hi], fun j hj => h.st j (by have hj : j < M.hi - 1 := hj; omega), h.wd, h.lo, h.dice, h.sent, h.on, h.oF, h.us⟩
theorem Mq.top {M N : Mc} (h : Mq M N) (h1 : 0 < M.hi) : topM N = topM M := by
  unfold topM
  rw [h.hi]
  exact h.st _ (by omega)
theorem popM_hi (M : Mc) : (popM M).hi = M.hi - 1 := rfl
theorem Mq.mk2 {M N : Mc} (h : Mq M N) (wd lo : Nat → Int) (dice sent : Int) (on : Nat) (oF : Nat → Value) : Mq { M with wd := wd, lo := lo, dice := dice, sent := sent, on := on, oF := oF } { N with wd := wd, lo := lo, dice := dice, sent := sent, on := on, oF := oF } := ⟨h.hi, h.st, rfl, rfl, rfl, rfl, rfl, rfl, h.us⟩
theorem pops_pairB {o : Int} (h : isPairB o = true) : pops o = 2 := by
  have hp : isPair o := by unfold isPairB at h; unfold isPair; simp at h; omega
  exact (pop_pair hp).1
theorem doF_q {cl : Cl} {M N : Mc} (h : Mq M N) (o a b : Int) (hp : pops o ≤ M.hi) : doF cl N o a b = doF cl M o a b := by
  unfold doF
  by_cases h40 : o = 40
  · rw [if_pos h40, if_pos h40]
  rw [if_neg h40, if_neg h40]
  by_cases h5 : o = 5 ∨ o = 38
  · have : pops o = 1 := by rcases h5 with rfl | rfl <;> rfl
    rw [if_pos h5, if_pos h5, h.top (by omega)]
  rw [if_neg h5, if_neg h5]
  by_cases h6 : o = 6
  · have : pops o = 2 := by subst h6; rfl
    rw [if_pos h6, if_pos h6, h.pop.top (by show 0 < M.hi - 1; omega)]
  rw [if_neg h6, if_neg h6]
  by_cases h37 : o = 37
  · have : pops o = 1 := by subst h37; rfl
    rw [if_pos h37, if_pos h37, h.top (by omega)]
  rw [if_neg h37, if_neg h37]
  by_cases h41 : o = 41
  · have : pops o = 1 := by subst h41; rfl
    rw [if_pos h41, if_pos h41, h.top (by omega), h.dice]
  rw [if_neg h41, if_neg h41]
  by_cases h39 : o = 39
  · have : pops o = 3 := by subst h39; rfl
    rw [if_pos h39, if_pos h39, h.top (by omega), h.pop.top (by show 0 < M.hi - 1; omega)]
    unfold sendF
    rw [h.on]
  rw [if_neg h39, if_neg h39]
  by_cases hb : isPairB o = true
  · have := pops_pairB hb
    rw [if_pos hb, if_pos hb, h.top (by omega), h.pop.top (by show 0 < M.hi - 1; omega)]
  · rw [if_neg hb, if_neg hb]
theorem doM_q {cl : Cl} {M N : Mc} (h : Mq M N) (o a b : Int) (hp : pops o ≤ M.hi) : Mq (doM cl M o a b) (doM cl N o a b) := by
  unfold doM
  by_cases h1 : o = 1
  · rw [if_pos h1, if_pos h1]; exact h.push a
  rw [if_neg h1, if_neg h1]
  by_cases h2 : o = 2
  · rw [if_pos h2, if_pos h2]; exact h.pop
  rw [if_neg h2, if_neg h2]
  by_cases h3 : o = 3
  · rw [if_pos h3, if_pos h3, h.wd]; exact h.push _
  rw [if_neg h3, if_neg h3]
  by_cases h4 : o = 4
  · have : pops o = 1 := by subst h4; rfl
    rw [if_pos h4, if_pos h4, h.top (by omega), h.wd]
    exact ⟨h.pop.hi, h.pop.st, rfl, h.lo, h.dice, h.sent, h.on, h.oF, h.us⟩
  rw [if_neg h4, if_neg h4]
  by_cases h5 : o = 5
  · have : pops o = 1 := by subst h5; rfl
    rw [if_pos h5, if_pos h5, h.top (by omega), h.wd]
    exact h.pop.push _
  rw [if_neg h5, if_neg h5]
  by_cases h6 : o = 6
  · have : pops o = 2 := by subst h6; rfl
    rw [if_pos h6, if_pos h6, h.top (by omega), h.pop.top (by show 0 < M.hi - 1; omega), h.wd]
    exact ⟨h.pop.pop.hi, h.pop.pop.st, rfl, h.lo, h.dice, h.sent, h.on, h.oF, h.us⟩
  rw [if_neg h6, if_neg h6]
  by_cases h7 : o = 7
  · rw [if_pos h7, if_pos h7, h.lo]; exact h.push _
  rw [if_neg h7, if_neg h7]
  by_cases h8 : o = 8
  · have : pops o = 1 := by subst h8; rfl
    rw [if_pos h8, if_pos h8, h.top (by omega), h.lo]
    exact ⟨h.pop.hi, h.pop.st, h.wd, rfl, h.dice, h.sent, h.on, h.oF, h.us⟩
  rw [if_neg h8, if_neg h8]
  by_cases h9 : o = 9
  · rw [if_pos h9, if_pos h9]; exact h.push _
  rw [if_neg h9, if_neg h9]
  by_cases h10 : o = 10
  · rw [if_pos h10, if_pos h10]; exact h.push _
  rw [if_neg h10, if_neg h10]
  by_cases h11 : o = 11
  · rw [if_pos h11, if_pos h11]; exact h.push _
  rw [if_neg h11, if_neg h11]
  by_cases h12 : o = 12
  · rw [if_pos h12, if_pos h12]; exact h.push _
  rw [if_neg h12, if_neg h12]
  by_cases h38 : o = 38
  · have : pops o = 1 := by subst h38; rfl
    rw [if_pos h38, if_pos h38, h.top (by omega)]
    exact h.pop.push _
  rw [if_neg h38, if_neg h38]
  by_cases h37 : o = 37
  · have : pops o = 1 := by subst h37; rfl
    rw [if_pos h37, if_pos h37, h.top (by omega), h.dice]
    have h9 := h.pop.push (rollV M.dice (topM M)).1
    exact ⟨h9.hi, h9.st, h.wd, h.lo, rfl, h.sent, h.on, h.oF, h.us⟩
  rw [if_neg h37, if_neg h37]
  by_cases h41 : o = 41
  · have : pops o = 1 := by subst h41; rfl
    rw [if_pos h41, if_pos h41, h.top (by omega), h.dice]
    cases waitV M.dice (topM M) with
    | none => exact h
    | some r =>
      have h9 := h.pop.push r.1
      exact ⟨h9.hi, h9.st, h.wd, h.lo, rfl, h.sent, h.on, h.oF, h.us⟩
  rw [if_neg h41, if_neg h41]
  by_cases h39 : o = 39
  · have : pops o = 3 := by subst h39; rfl
    rw [if_pos h39, if_pos h39]
    have e1 := h.top (by omega)
    have e2 := h.pop.top (by show 0 < M.hi - 1; omega)
    have e3 := h.pop.pop.top (by show 0 < M.hi - 1 - 1; omega)
    have h9 := h.pop.pop.pop
    refine ⟨h9.hi, h9.st, h.wd, h.lo, h.dice, ?_, ?_, ?_, h.us⟩
    · show u64of (N.sent + 1) = u64of (M.sent + 1); rw [h.sent]
    · show N.on + 1 = M.on + 1; rw [h.on]
    · show oApp N (sentEv cl N a (topM N) (topM (popM N)) (topM (popM (popM N)))) = oApp M (sentEv cl M a (topM M) (topM (popM M)) (topM (popM (popM M))))
      rw [e1, e2, e3]
      unfold oApp sentEv
      rw [h.on, h.oF, h.sent]
  rw [if_neg h39, if_neg h39]
  by_cases hs : o = 23 ∨ o = 24 ∨ o = 25 ∨ o = 34
  · have : pops o = 1 := by rcases hs with rfl | rfl | rfl | rfl <;> rfl
    rw [if_pos hs, if_pos hs, h.top (by omega)]
    exact h.pop.push _
  rw [if_neg hs, if_neg hs]
  by_cases hb : isPairB o = true
  · have := pops_pairB hb
    rw [if_pos hb, if_pos hb, h.top (by omega), h.pop.top (by show 0 < M.hi - 1; omega)]
    exact h.pop.pop.push _
  · rw [if_neg hb, if_neg hb]; exact h
/-! ### runs that end alike -/
def Res (r r' : Int × Mc) : Prop := r'.1 = r.1 ∧ Mq r.2 r'.2
theorem ends_no {o : Int} (h0 : o ≠ 0) (h1 : o ≠ 35) (h2 : o ≠ 40) : ends o = false := by
  unfold ends
  simp [h0, h1, h2]
/-- one step, the same on both sides -/
theorem sim_step {cl : Cl} {P Q : Pg} {L : Nat → Int} (v : Vf P L) {k i i' : Nat} {M N : Mc} (hi : i < P.n) (hL : L i = M.hi) (hq : Mq M N) (ho : Q.op i' = P.op i) (ha : jmp (P.op i) = false → Q.a i' = P.a i ∧ Q.b i' = P.b i) (hk : (runP P cl (k + 1) i M).1 ≠ 200)
    (IH : ∀ j j' M N, ((j = (P.a i).toNat ∧ j' = (Q.a i').toNat ∧ jmp (P.op i) = true) ∨ (j = i + 1 ∧ j' = i' + 1 ∧ ends (P.op i) = false)) → j < P.n → L j = M.hi → Mq M N → (runP P cl k j M).1 ≠ 200 → ∃ k', Res (runP P cl k j M) (runP Q cl k' j' N)) : ∃ k', Res (runP P cl (k + 1) i M) (runP Q cl k' i' N) := by
  have hl : L i ≠ -1 := by rw [hL]; omega
  have hf := v.fn i hi hl
  have hpo : pops (P.op i) ≤ M.hi := by unfold fine at hf; rw [hL] at hf; omega
  have h42 := (ins_good (v.ins i hi)).1
  by_cases h0 : P.op i = 0
  · refine ⟨1, ?_⟩
    rw [runP_stop h0, runP_stop (ho.trans h0)]
    exact ⟨rfl, hq.usM⟩
  by_cases h1 : P.op i = 35
  · rw [runP_jump h1] at hk ⊢
    have hj : jmp (P.op i) = true := by rw [h1]; rfl
    have h9 := v.jp i hi hl hj
    have h8 := v.gd.a i hi hj
    have e : aft P i (L i) = L i := by unfold aft; rw [h1, pops35.1, pops35.2]; omega
    obtain ⟨k', h⟩ := IH (P.a i).toNat (Q.a i').toNat (usM M) (usM N) (.inl ⟨rfl, rfl, hj⟩) (by omega) (by rw [h9, e, hL]; rfl) hq.usM hk
    exact ⟨k' + 1, by rw [runP_jump (ho.trans h1)]; exact h⟩
  by_cases h2 : P.op i = 36
  · rw [runP_ifz h2] at hk ⊢
    have hj : jmp (P.op i) = true := by rw [h2]; rfl
    have h9 := v.jp i hi hl hj
    have h8 := v.gd.a i hi hj
    have he : ends (P.op i) = false := by rw [h2]; rfl
    obtain ⟨h7, h6⟩ := v.nx i hi hl he
    have hp1 : pops (P.op i) = 1 := by rw [h2]; rfl
    have e : aft P i (L i) = ((popM (usM M)).hi : Int) := by
      have hp2 : pushes (P.op i) = 0 := by rw [h2]; rfl
      have : (popM (usM M)).hi = M.hi - 1 := rfl
      unfold aft; rw [hL, this, hp1, hp2]; omega
    have ht : topM N = topM M := hq.top (by omega)
    by_cases hz : topM M = 0
    · rw [if_pos hz] at hk ⊢
      obtain ⟨k', h⟩ := IH (P.a i).toNat (Q.a i').toNat (popM (usM M)) (popM (usM N)) (.inl ⟨rfl, rfl, hj⟩) (by omega) (by rw [h9, e]) hq.usM.pop hk
      exact ⟨k' + 1, by rw [runP_ifz (ho.trans h2), if_pos (ht.trans hz)]; exact h⟩
    · rw [if_neg hz] at hk ⊢
      obtain ⟨k', h⟩ := IH (i + 1) (i' + 1) (popM (usM M)) (popM (usM N)) (.inr ⟨rfl, rfl, he⟩) h7 (by rw [h6, e]) hq.usM.pop hk
      exact ⟨k' + 1, by rw [runP_ifz (ho.trans h2), if_neg (by rw [ht]; exact hz)]; exact h⟩
  have h3 : P.op i ≠ 0 ∧ P.op i ≠ 35 ∧ P.op i ≠ 36 := ⟨h0, h1, h2⟩
  have hj : jmp (P.op i) = false := by
    unfold jmp
    simp [h1, h2]
  obtain ⟨ea, eb⟩ := ha hj
  have h3' : Q.op i' ≠ 0 ∧ Q.op i' ≠ 35 ∧ Q.op i' ≠ 36 := by rw [ho]; exact h3
  have hF : doF cl (usM N) (Q.op i') (Q.a i') (Q.b i') = doF cl (usM M) (P.op i) (P.a i) (P.b i) := by
    rw [ho, ea, eb]
    exact doF_q hq.usM _ _ _ hpo
  by_cases hd : doF cl (usM M) (P.op i) (P.a i) (P.b i) = 0
  · rw [runP_go h3 hd] at hk ⊢
    have h40 : P.op i ≠ 40 := fun h9 => by
      unfold doF at hd
      rw [if_pos h9] at hd
      cases hd
    have he := ends_no h0 h1 h40
    obtain ⟨h7, h6⟩ := v.nx i hi hl he
    have hhi := doM_hi cl (usM M) (P.op i) (P.a i) (P.b i) h42 ⟨h0, h1, h2, h40⟩ hd hpo
    have hM : (usM M).hi = M.hi := rfl
    obtain ⟨k', h⟩ := IH (i + 1) (i' + 1) (doM cl (usM M) (P.op i) (P.a i) (P.b i)) (doM cl (usM N) (P.op i) (P.a i) (P.b i)) (.inr ⟨rfl, rfl, he⟩) h7 (by rw [h6, hhi, hM]; unfold aft; rw [hL]) (doM_q hq.usM _ _ _ hpo) hk
    refine ⟨k' + 1, ?_⟩
    rw [runP_go h3' (by rw [hF]; exact hd), ho, ea, eb]
    exact h
  · rw [runP_fault h3 hd]
    refine ⟨1, ?_⟩
    rw [runP_fault h3' (by rw [hF]; exact hd), hF]
    exact ⟨rfl, hq.usM⟩
end Go.Proofs.YtopggemomcoalaaGreat
namespace Go.Proofs.YtopggemomcoalaaGreat
set_option linter.unusedVariables false
set_option linter.unusedSimpArgs false

/-! ### the first two steps of a round do the same -/
theorem no_zero {P : Pg} {cl : Cl} {i : Nat} {M : Mc} {p : Prop} (h : (runP P cl 0 i M).1 ≠ 200) : p := by
  rw [runP_zero] at h
  exact absurd rfl h
theorem sim_id {cl : Cl} {P : Pg} {L : Nat → Int} (v : Vf P L) : ∀ (k i : Nat) (M N : Mc), i < P.n → L i = M.hi → Mq M N → (runP P cl k i M).1 ≠ 200 → ∃ k', Res (runP P cl k i M) (runP P cl k' i N)
  | 0, i, M, N, _, _, _, h => no_zero h
  | k + 1, i, M, N, hi, hL, hq, hk => sim_step v hi hL hq rfl (fun _ => ⟨rfl, rfl⟩) hk fun j j' M N hj hjn hL hq hk => by
    rcases hj with ⟨rfl, rfl, _⟩ | ⟨rfl, rfl, _⟩
    · exact sim_id v k _ M N hjn hL hq hk
    · exact sim_id v k _ M N hjn hL hq hk
theorem lead_sim {cl : Cl} {P : Pg} {L : Nat → Int} (v : Vf P L) : ∀ (k i m : Nat) (M N : Mc), i < P.n → L i = M.hi → Mq M N → (runP P cl k i M).1 ≠ 200 → ∃ k', Res (runP P cl k i M) (runP (leadP P (endP P)) cl k' (jit P m i) N)
  | 0, i, m, M, N, _, _, _, h => no_zero h
  | k + 1, i, m, M, N, hi, hL, hq, hk => by
    have step : jit P m i = i → ∃ k', Res (runP P cl (k + 1) i M) (runP (leadP P (endP P)) cl k' (jit P m i) N) := fun e => by
      rw [e]
      refine sim_step (Q := leadP P (endP P)) v hi hL hq rfl (fun hj => ⟨?_, rfl⟩) hk fun j j' M N hj hjn hL hq hk => ?_
      · show (if jmp (P.op i) = true then ((endP P (P.a i).toNat : Nat) : Int) else P.a i) = P.a i
        rw [if_neg (by rw [hj]; exact Bool.false_ne_true)]
      · rcases hj with ⟨rfl, rfl, hj⟩ | ⟨rfl, rfl, _⟩
        · have ea : (leadP P (endP P)).a i = ((endP P (P.a i).toNat : Nat) : Int) := if_pos hj
          rw [ea, Int.toNat_natCast]
          unfold endP
          split
          · exact lead_sim v k _ 0 M N hjn hL hq hk
          · exact lead_sim v k _ P.n M N hjn hL hq hk
        · exact lead_sim v k (i + 1) 0 M N hjn hL hq hk
    by_cases h1 : P.op i = 35
    · cases m with
      | zero => exact step rfl
      | succ m =>
        rw [runP_jump h1] at hk ⊢
        have hl : L i ≠ -1 := by rw [hL]; omega
        have hj : jmp (P.op i) = true := by rw [h1]; rfl
        have h9 := v.jp i hi hl hj
        have h8 := v.gd.a i hi hj
        have e : aft P i (L i) = L i := by unfold aft; rw [h1, pops35.1, pops35.2]; omega
        have ej : jit P (m + 1) i = jit P m (P.a i).toNat := by
          show jit P m (jst P i) = _
          unfold jst
          rw [if_pos h1]
        rw [ej]
        exact lead_sim v k _ m (usM M) N (by omega) (by rw [h9, e, hL]; rfl) hq.late hk
    · exact step (jit_fix h1 _)
theorem stp1_sim {cl : Cl} {P : Pg} {L : Nat → Int} (v : Vf P L) (c : Nat) (hc : P.op c = 35 ∧ P.op (P.a c).toNat = 0) : ∀ (k i : Nat) (M N : Mc), i < P.n → L i = M.hi → Mq M N → (runP P cl k i M).1 ≠ 200 → ∃ k', Res (runP P cl k i M) (runP (setI P c 0 0 0) cl k' i N)
  | 0, i, M, N, _, _, _, h => no_zero h
  | k + 1, i, M, N, hi, hL, hq, hk => by
    by_cases h : i = c
    · subst h
      rw [runP_jump hc.1] at hk ⊢
      cases k with
      | zero => exact no_zero hk
      | succ k =>
        rw [runP_stop hc.2]
        refine ⟨1, ?_⟩
        rw [runP_stop (by rw [setI_op, if_pos rfl])]
        exact ⟨rfl, hq.usM.late⟩
    · refine sim_step (Q := setI P c 0 0 0) v hi hL hq (by rw [setI_op, if_neg h]) (fun _ => ⟨by rw [setI_a, if_neg h], by rw [setI_b, if_neg h]⟩) hk fun j j' M N hj hjn hL hq hk => ?_
      rw [setI_a, if_neg h] at hj
      rcases hj with ⟨rfl, rfl, hj⟩ | ⟨rfl, rfl, _⟩
      · exact stp1_sim v c hc k _ M N hjn hL hq hk
      · exact stp1_sim v c hc k _ M N hjn hL hq hk
theorem drop_sim {cl : Cl} {P : Pg} {L : Nat → Int} (v : Vf P L) (g : Nat → Bool) (hg : ∀ x, x < P.n → L x ≠ -1 → g x = true → P.op x = 35 ∧ P.a x = ((x + 1 : Nat) : Int)) : ∀ (k i : Nat) (M N : Mc), i < P.n → L i = M.hi → Mq M N → (runP P cl k i M).1 ≠ 200 → ∃ k', Res (runP P cl k i M) (runP (dropP P g) cl k' (tox g i) N)
  | 0, i, M, N, _, _, _, h => no_zero h
  | k + 1, i, M, N, hi, hL, hq, hk => by
    have hl : L i ≠ -1 := by rw [hL]; omega
    cases h : g i with
    | true =>
      obtain ⟨h1, h2⟩ := hg i hi hl h
      rw [runP_jump h1] at hk ⊢
      have hj : jmp (P.op i) = true := by rw [h1]; rfl
      have h9 := v.jp i hi hl hj
      have h8 := v.gd.a i hi hj
      have e : aft P i (L i) = L i := by unfold aft; rw [h1, pops35.1, pops35.2]; omega
      rw [h2, Int.toNat_natCast] at hk h9 ⊢
      have et : tox g i = tox g (i + 1) := by rw [tox_succ, h]; rfl
      rw [et]
      exact drop_sim v g hg k _ (usM M) N (by omega) (by rw [h9, e, hL]; rfl) hq.late hk
    | false =>
      have hk1 : (kpt g P.n).getD (tox g i) 0 = i := by
        rw [List.getD_eq_getElem?_getD, kpt_get g P.n hi h]
        rfl
      have eo : (dropP P g).op (tox g i) = P.op i := by
        show P.op ((kpt g P.n).getD (tox g i) 0) = _
        rw [hk1]
      have ea : (dropP P g).a (tox g i) = if jmp (P.op i) = true then ((tox g (P.a i).toNat : Nat) : Int) else P.a i := by
        show (if jmp (P.op ((kpt g P.n).getD (tox g i) 0)) = true then ((tox g (P.a ((kpt g P.n).getD (tox g i) 0)).toNat : Nat) : Int) else P.a ((kpt g P.n).getD (tox g i) 0)) = _
        rw [hk1]
      have eb : (dropP P g).b (tox g i) = P.b i := by
        show P.b ((kpt g P.n).getD (tox g i) 0) = _
        rw [hk1]
      refine sim_step (Q := dropP P g) v hi hL hq eo (fun hj => ⟨by rw [ea, if_neg (by rw [hj]; exact Bool.false_ne_true)], eb⟩) hk fun j j' M N hj hjn hL hq hk => ?_
      rcases hj with ⟨rfl, rfl, hj⟩ | ⟨rfl, rfl, _⟩
      · rw [ea, if_pos hj, Int.toNat_natCast]
        exact drop_sim v g hg k _ M N hjn hL hq hk
      · have et : tox g i + 1 = tox g (i + 1) := by rw [tox_succ, h]; rfl
        rw [et]
        exact drop_sim v g hg k _ M N hjn hL hq hk
/-! ### what a call sees -/
def Obs (cl : Cl) (P Q : Pg) : Prop := ∀ j, j < P.m → P.en j ≠ -1 → ∀ (k : Nat) (M N : Mc), M.hi = 0 → Mq M N → (runP P cl k (P.en j).toNat M).1 ≠ 200 → ∃ k', Res (runP P cl k (P.en j).toNat M) (runP Q cl k' (Q.en j).toNat N)
theorem Res.trans {a b c : Int × Mc} (h : Res a b) (h' : Res b c) : Res a c := ⟨h'.1.trans h.1, h.2.trans h'.2⟩
theorem Obs.trans {cl : Cl} {P Q R : Pg} {L : Nat → Int} (v : Vf P L) (s : SgE P Q) (h : Obs cl P Q) (h' : Obs cl Q R) : Obs cl P R := fun j hj h0 k M N hM hq hk => by
  obtain ⟨k', h1⟩ := h j hj h0 k M N hM hq hk
  have h2 := v.gd.en j hj
  have h3 := s.2 j hj
  obtain ⟨k2, h4⟩ := h' j (by rw [s.1]; exact hj) (fun h9 => by omega) k' N N (hq.hi.trans hM) (Mq.refl N) (by rw [h1.1]; exact hk)
  exact ⟨k2, h1.trans h4⟩
theorem Vf.ent {P : Pg} {L : Nat → Int} (v : Vf P L) {j : Nat} (hj : j < P.m) (h0 : P.en j ≠ -1) : (P.en j).toNat < P.n ∧ L (P.en j).toNat = 0 := by
  have h1 := v.en j hj
  exact ⟨by omega, v.le j hj (by omega)⟩
theorem Obs.refl {cl : Cl} {P : Pg} {L : Nat → Int} (v : Vf P L) : Obs cl P P := fun j hj h0 k M N hM hq hk => by
  obtain ⟨h1, h2⟩ := v.ent hj h0
  exact sim_id v k _ M N h1 (by rw [h2, hM]; rfl) hq hk
theorem lead_obs {cl : Cl} {P : Pg} {L : Nat → Int} (v : Vf P L) : Obs cl P (leadP P (endP P)) := fun j hj h0 k M N hM hq hk => by
  obtain ⟨h1, h2⟩ := v.ent hj h0
  have e : ((leadP P (endP P)).en j).toNat = endP P (P.en j).toNat := by
    show (if P.en j = -1 then -1 else ((endP P (P.en j).toNat : Nat) : Int)).toNat = _
    rw [if_neg h0, Int.toNat_natCast]
  rw [e]
  unfold endP
  split
  · exact lead_sim v k _ 0 M N h1 (by rw [h2, hM]; rfl) hq hk
  · exact lead_sim v k _ P.n M N h1 (by rw [h2, hM]; rfl) hq hk
theorem stp1_obs {cl : Cl} {P : Pg} {L : Nat → Int} (v : Vf P L) (c : Nat) : Obs cl P (stp1 P c) := fun j hj h0 k M N hM hq hk => by
  obtain ⟨h1, h2⟩ := v.ent hj h0
  unfold stp1
  by_cases hc : P.op c = 35 ∧ P.op (P.a c).toNat = 0
  · rw [if_pos hc]
    exact stp1_sim v c hc k _ M N h1 (by rw [h2, hM]; rfl) hq hk
  · rw [if_neg hc]
    exact sim_id v k _ M N h1 (by rw [h2, hM]; rfl) hq hk
theorem stpN_obs {cl : Cl} {P : Pg} {L : Nat → Int} (v : Vf P L) : ∀ k, k ≤ P.n → Obs cl P (stpN P k)
  | 0, _ => Obs.refl v
  | k + 1, hk => by
    have h1 := stpN_vf v k (by omega)
    have h2 := stpN_n P k
    exact (stpN_obs v k (by omega)).trans v ⟨h2.2.1, fun j hj => by rw [h2.2.2.2.2]⟩ (stp1_obs h1.1 k)
theorem drop_obs {cl : Cl} {P : Pg} {L : Nat → Int} (v : Vf P L) (g : Nat → Bool) (hg : ∀ x, x < P.n → L x ≠ -1 → g x = true → P.op x = 35 ∧ P.a x = ((x + 1 : Nat) : Int)) : Obs cl P (dropP P g) := fun j hj h0 k M N hM hq hk => by
  obtain ⟨h1, h2⟩ := v.ent hj h0
  have e : ((dropP P g).en j).toNat = tox g (P.en j).toNat := by
    show (if P.en j = -1 then -1 else ((tox g (P.en j).toNat : Nat) : Int)).toNat = _
    rw [if_neg h0, Int.toNat_natCast]
  rw [e]
  exact drop_sim v g hg k _ M N h1 (by rw [h2, hM]; rfl) hq hk
theorem dropU_obs {cl : Cl} {P : Pg} {L : Nat → Int} (v : Vf P L) : Obs cl P (dropP P (goU P)) :=
  drop_obs (vf_of v.code).2 (goU P) fun x hx hl h => absurd (of_decide_eq_true h) hl
theorem dropS_obs {cl : Cl} {P : Pg} {L : Nat → Int} (v : Vf P L) : Obs cl P (dropP P (goS P)) :=
  drop_obs v (goS P) fun x hx hl h => by
    unfold goS at h
    rw [Bool.and_eq_true, beq_iff_eq, beq_iff_eq] at h
    exact h
end Go.Proofs.YtopggemomcoalaaGreat
namespace Go.Proofs.YtopggemomcoalaaGreat
set_option linter.unusedVariables false
set_option linter.unusedSimpArgs false

/-! ### the third step does the same -/
theorem block_sim {cl : Cl} {P Q : Pg} {L : Nat → Int} (v : Vf P L) {c s : Nat} (p : Patch P Q c s) (hfr : ∀ x, c < x → x < c + s → FreeP P x)
    (blk : ∀ (k : Nat) (M N : Mc), L c = M.hi → Mq M N → (runP P cl k c M).1 ≠ 200 → ∃ (k2 j f : Nat) (M2 N2 : Mc), k2 < k ∧ runP P cl k c M = runP P cl k2 j M2 ∧ (∀ k3, runP Q cl (k3 + f) c N = runP Q cl k3 j N2) ∧ Mq M2 N2 ∧ j < P.n ∧ L j = M2.hi ∧ ¬ (c < j ∧ j < c + s)) : ∀ (n k : Nat), k ≤ n → ∀ (i : Nat) (M N : Mc), i < P.n → ¬ (c < i ∧ i < c + s) → L i = M.hi → Mq M N → (runP P cl k i M).1 ≠ 200 → ∃ k', Res (runP P cl k i M) (runP Q cl k' i N)
  | n, 0, _, i, M, N, _, _, _, _, h => no_zero h
  | 0, k + 1, hk, i, M, N, _, _, _, _, h => absurd hk (by omega)
  | n + 1, k + 1, hkn, i, M, N, hi, hin, hL, hq, hk => by
    by_cases hc : i = c
    · subst hc
      obtain ⟨k2, j, f, M2, N2, h1, h2, h3, h4, h5, h6, h7⟩ := blk (k + 1) M N hL hq hk
      rw [h2] at hk ⊢
      obtain ⟨k3, h8⟩ := block_sim v p hfr blk n k2 (by omega) j M2 N2 h5 h7 h6 h4 hk
      exact ⟨k3 + f, by rw [h3]; exact h8⟩
    · have ho : i < c ∨ c + s ≤ i := by omega
      refine sim_step (Q := Q) v hi hL hq (p.op i ho) (fun _ => ⟨p.a i ho, p.b i ho⟩) hk fun j j' M N hj hjn hL hq hk => ?_
      rw [p.a i ho] at hj
      rcases hj with ⟨rfl, rfl, hj⟩ | ⟨rfl, rfl, _⟩
      · exact block_sim v p hfr blk n k (by omega) _ M N hjn (fun h9 => (hfr _ h9.1 h9.2).1 i hi hj rfl) hL hq hk
      · exact block_sim v p hfr blk n k (by omega) _ M N hjn (by omega) hL hq hk
theorem block_obs {cl : Cl} {P Q : Pg} {L : Nat → Int} (v : Vf P L) {c s : Nat} (p : Patch P Q c s) (hfr : ∀ x, c < x → x < c + s → FreeP P x)
    (blk : ∀ (k : Nat) (M N : Mc), L c = M.hi → Mq M N → (runP P cl k c M).1 ≠ 200 → ∃ (k2 j f : Nat) (M2 N2 : Mc), k2 < k ∧ runP P cl k c M = runP P cl k2 j M2 ∧ (∀ k3, runP Q cl (k3 + f) c N = runP Q cl k3 j N2) ∧ Mq M2 N2 ∧ j < P.n ∧ L j = M2.hi ∧ ¬ (c < j ∧ j < c + s)) : Obs cl P Q := fun j hj h0 k M N hM hq hk => by
  obtain ⟨h1, h2⟩ := v.ent hj h0
  rw [p.en]
  exact block_sim v p hfr blk k k (Nat.le_refl _) _ M N h1 (fun h9 => (hfr _ h9.1 h9.2).2 j hj h0 rfl) (by rw [h2, hM]; rfl) hq hk
theorem two2_o {o : Int} (h : two2 o = true) : (13 ≤ o ∧ o ≤ 22) ∨ (26 ≤ o ∧ o ≤ 33) := by unfold two2 at h; simp at h; omega
theorem one1_o {o : Int} (h : one1 o = true) : o = 23 ∨ o = 24 ∨ o = 25 ∨ o = 34 := by unfold one1 at h; simp at h; omega
theorem doF_two {cl : Cl} {M : Mc} {o a b : Int} (h : two2 o = true) : doF cl M o a b = (pairV o (topM (popM M)) (topM M)).2 := by
  have h1 := two2_o h
  have h2 : isPairB o = true := h
  unfold doF
  rw [if_neg (by omega), if_neg (by omega), if_neg (by omega), if_neg (by omega), if_neg (by omega), if_neg (by omega), if_pos h2]
theorem doM_two {cl : Cl} {M : Mc} {o a b : Int} (h : two2 o = true) : doM cl M o a b = pushM (popM (popM M)) (pairV o (topM (popM M)) (topM M)).1 := by
  have h1 := two2_o h
  have h2 : isPairB o = true := h
  unfold doM
  rw [if_neg (by omega), if_neg (by omega), if_neg (by omega), if_neg (by omega), if_neg (by omega), if_neg (by omega), if_neg (by omega), if_neg (by omega), if_neg (by omega), if_neg (by omega), if_neg (by omega), if_neg (by omega), if_neg (by omega), if_neg (by omega), if_neg (by omega), if_neg (by omega), if_neg (by omega), if_pos h2]
theorem doF_one {cl : Cl} {M : Mc} {o a b : Int} (h : one1 o = true) : doF cl M o a b = 0 := by
  rcases one1_o h with rfl | rfl | rfl | rfl <;> rfl
theorem doM_one {cl : Cl} {M : Mc} {o a b : Int} (h : one1 o = true) : doM cl M o a b = pushM (popM M) (singleV o (topM M)) := by
  rcases one1_o h with rfl | rfl | rfl | rfl <;> rfl
theorem top_push (M : Mc) (x : Int) : topM (pushM M x) = x := by
  show updI M.st M.hi x (M.hi + 1 - 1) = x
  rw [Nat.add_sub_cancel]
  exact updI_at _ _ _
theorem top_us (M : Mc) : topM (usM M) = topM M := rfl
theorem top_push2 (M : Mc) (x y : Int) : topM (popM (usM (pushM (usM (pushM (usM M) x)) y))) = x := by
  show updI (updI M.st M.hi x) (M.hi + 1) y (M.hi + 1 + 1 - 1 - 1) = x
  rw [show M.hi + 1 + 1 - 1 - 1 = M.hi by omega, updI_ne _ _ (by omega), updI_at]
theorem run_push {P : Pg} {cl : Cl} {k i : Nat} {M : Mc} (h : P.op i = 1) : runP P cl (k + 1) i M = runP P cl k (i + 1) (pushM (usM M) (P.a i)) := by
  rw [runP_go (by rw [h]; decide) (by rw [h]; rfl), h]
  rfl
theorem run_two {P : Pg} {cl : Cl} {k i : Nat} {M : Mc} (h : two2 (P.op i) = true) : runP P cl (k + 1) i M = if (pairV (P.op i) (topM (popM (usM M))) (topM (usM M))).2 = 0 then runP P cl k (i + 1) (pushM (popM (popM (usM M))) (pairV (P.op i) (topM (popM (usM M))) (topM (usM M))).1) else ((pairV (P.op i) (topM (popM (usM M))) (topM (usM M))).2, usM M) := by
  have h1 := two2_o h
  have h3 : P.op i ≠ 0 ∧ P.op i ≠ 35 ∧ P.op i ≠ 36 := by omega
  by_cases hz : (pairV (P.op i) (topM (popM (usM M))) (topM (usM M))).2 = 0
  · rw [if_pos hz, runP_go h3 (by rw [doF_two h]; exact hz), doM_two h]
  · rw [if_neg hz, runP_fault h3 (by rw [doF_two h]; exact hz), doF_two h]
theorem run_one {P : Pg} {cl : Cl} {k i : Nat} {M : Mc} (h : one1 (P.op i) = true) : runP P cl (k + 1) i M = runP P cl k (i + 1) (pushM (popM (usM M)) (singleV (P.op i) (topM (usM M)))) := by
  have h1 := one1_o h
  have h3 : P.op i ≠ 0 ∧ P.op i ≠ 35 ∧ P.op i ≠ 36 := by omega
  rw [runP_go h3 (doF_one h), doM_one h]
/-- what is computed ahead is what the machine would compute -/
theorem eff_run {Q : Pg} {f : Nat} (hf : Q.n = f) (he : Q.en 0 = 0) (h : (effQ Q).code = 0) : (runP Q (clQ f) f 0 (newM (fun _ => 0) 0 0 (.slice none 0 0))).1 = 0 ∧ (effQ Q).wd = (runP Q (clQ f) f 0 (newM (fun _ => 0) 0 0 (.slice none 0 0))).2.wd := by
  subst hf
  have hr : runOf Q (clQ Q.n) (fun _ => 0) 0 0 = runP Q (clQ Q.n) Q.n 0 (newM (fun _ => 0) 0 0 (.slice none 0 0)) := by
    show runP Q (clQ Q.n) ((Q.n : Int)).toNat (Q.en (0 : Int).toNat).toNat _ = _
    rw [show ((0 : Int)).toNat = 0 from rfl, he]
    rfl
  rw [← hr]
  unfold effQ effP at h ⊢
  by_cases h1 : dcode Q Q.m ≠ 0
  · rw [if_pos h1] at h; exact absurd h h1
  rw [if_neg h1] at h ⊢
  by_cases h2 : fitsB Q (clQ Q.n) 1 = false
  · rw [if_pos h2] at h; exact absurd h (by decide)
  rw [if_neg h2] at h ⊢
  have h3 : ¬ Q.en (clQ Q.n).kind.toNat = -1 := by
    show ¬ Q.en 0 = -1
    rw [he]; decide
  rw [if_neg h3] at h ⊢
  by_cases h4 : (runOf Q (clQ Q.n) (fun _ => 0) 0 0).1 ≠ 0
  · rw [if_pos h4] at h; exact absurd h h4
  rw [if_neg h4]
  exact ⟨Decidable.not_not.1 h4, rfl⟩
theorem R2_val {o x y z : Int} (ho : two2 o = true) (h : R2f o x y = some z) : pairV o x y = (z, 0) := by
  unfold R2f at h
  by_cases hc : (effQ (q2 o x y)).code = 0
  · rw [if_pos hc] at h
    injection h with h
    obtain ⟨h1, h2⟩ := eff_run (Q := q2 o x y) (f := 5) rfl rfl hc
    rw [h2] at h
    rw [run_push (P := q2 o x y) (i := 0) rfl, run_push (P := q2 o x y) (i := 0 + 1) rfl, run_two (P := q2 o x y) (i := 0 + 1 + 1) ho, top_us, top_push, top_push2] at h1 h
    have e1 : (q2 o x y).op (0 + 1 + 1) = o := rfl
    have e2 : (q2 o x y).a 0 = x := rfl
    have e3 : (q2 o x y).a (0 + 1) = y := rfl
    rw [e1, e2, e3] at h1 h
    by_cases hz : (pairV o x y).2 = 0
    · rw [if_pos hz] at h1 h
      have e4 : ∀ M : Mc, (runP (q2 o x y) (clQ 5) 2 (0 + 1 + 1 + 1) (pushM M (pairV o x y).1)).2.wd 0 = (pairV o x y).1 := fun M => by
        have e5 : (q2 o x y).op (0 + 1 + 1 + 1) = 4 := rfl
        have e6 : (q2 o x y).a (0 + 1 + 1 + 1) = 0 := rfl
        rw [runP_go (i := 0 + 1 + 1 + 1) (by rw [e5]; decide) rfl, runP_stop (i := 0 + 1 + 1 + 1 + 1) rfl, e5, e6]
        show updI M.wd 0 (topM (usM (pushM M (pairV o x y).1))) 0 = _
        rw [updI_at, top_us, top_push]
      rw [e4] at h
      rw [← h, ← hz]
    · rw [if_neg hz] at h1
      exact absurd h1 hz
  · rw [if_neg hc] at h; cases h
theorem R1_val {o x z : Int} (ho : one1 o = true) (h : R1f o x = some z) : singleV o x = z := by
  unfold R1f at h
  by_cases hc : (effQ (q1 o x)).code = 0
  · rw [if_pos hc] at h
    injection h with h
    obtain ⟨h1, h2⟩ := eff_run (Q := q1 o x) (f := 4) rfl rfl hc
    rw [h2] at h
    rw [run_push (P := q1 o x) (i := 0) rfl, run_one (P := q1 o x) (i := 0 + 1) ho, top_us, top_push] at h
    have e1 : (q1 o x).op (0 + 1) = o := rfl
    have e2 : (q1 o x).a 0 = x := rfl
    rw [e1, e2] at h
    have e4 : ∀ M : Mc, (runP (q1 o x) (clQ 4) 2 (0 + 1 + 1) (pushM M (singleV o x))).2.wd 0 = singleV o x := fun M => by
      have e5 : (q1 o x).op (0 + 1 + 1) = 4 := rfl
      have e6 : (q1 o x).a (0 + 1 + 1) = 0 := rfl
      rw [runP_go (i := 0 + 1 + 1) (by rw [e5]; decide) rfl, runP_stop (i := 0 + 1 + 1 + 1) rfl, e5, e6]
      show updI M.wd 0 (topM (usM (pushM M (singleV o x)))) 0 = _
      rw [updI_at, top_us, top_push]
    rw [e4] at h
    exact h
  · rw [if_neg hc] at h; cases h
end Go.Proofs.YtopggemomcoalaaGreat
namespace Go.Proofs.YtopggemomcoalaaGreat
set_option linter.unusedVariables false
set_option linter.unusedSimpArgs false

/-! ### the four folds -/
theorem mq_pp {M N : Mc} (h : Mq M N) (x : Int) : Mq (popM (usM (pushM (usM M) x))) (usM (usM N)) := ⟨by show N.hi = M.hi + 1 - 1; rw [h.hi]; rfl, fun j hj => by
  have hj : j < M.hi + 1 - 1 := hj
  show N.st j = updI M.st M.hi x j
  rw [updI_ne _ _ (by omega)]
  exact h.st j (by omega), h.wd, h.lo, h.dice, h.sent, h.on, h.oF, by show N.used + 1 + 1 ≤ M.used + 1 + 1; have := h.us; omega⟩
theorem mq_pp0 {M N : Mc} (h : Mq M N) (x : Int) : Mq (popM (pushM M x)) N := ⟨by show N.hi = M.hi + 1 - 1; rw [h.hi]; rfl, fun j hj => by
  have hj : j < M.hi + 1 - 1 := hj
  show N.st j = updI M.st M.hi x j
  rw [updI_ne _ _ (by omega)]
  exact h.st j (by omega), h.wd, h.lo, h.dice, h.sent, h.on, h.oF, h.us⟩
theorem mq_ppp {M N : Mc} (h : Mq M N) (x y : Int) : Mq (popM (popM (usM (pushM (usM (pushM (usM M) x)) y)))) (usM (usM (usM N))) := by
  have e : popM (popM (usM (pushM (usM (pushM (usM M) x)) y))) = popM (popM (pushM (pushM (usM (usM (usM M))) x) y)) := rfl
  rw [e]
  exact (mq_pp0 (Mq.refl _) y).pop.trans (mq_pp0 h.usM.usM.usM x)
variable {cl : Cl} {P : Pg} {L : Nat → Int} {c : Nat}
theorem nx_L (v : Vf P L) (hf : Full P L) {i : Nat} (hi : i < P.n) (he : ends (P.op i) = false) : i + 1 < P.n ∧ L (i + 1) = L i - pops (P.op i) + pushes (P.op i) := by
  obtain ⟨h1, h2⟩ := v.nx i hi (hf i hi) he
  exact ⟨h1, h2⟩
theorem fold3_obs (v : Vf P L) (hf : Full P L) (hc : c < P.n) (h1 : P.op c = 1) (h2 : P.op (c + 1) = 1) (h3 : two2 (P.op (c + 2)) = true) (f1 : FreeP P (c + 1)) (f2 : FreeP P (c + 2)) {z : Int} (hz : pairV (P.op (c + 2)) (P.a c) (P.a (c + 1)) = (z, 0)) : Obs cl P (fold3 P c z) := by
  obtain ⟨_, _, p⟩ := fold3_vf v hf hc h1 h2 h3 f1 f2 z
  refine block_obs v p (fun x hx1 hx2 => ?_) fun k M N hL hq hk => ?_
  · rcases (by omega : x = c + 1 ∨ x = c + 2) with rfl | rfl
    · exact f1
    · exact f2
  obtain ⟨n1, l1, _⟩ := push_L v hf hc h1
  obtain ⟨n2, l2, _⟩ := push_L v hf n1 h2
  obtain ⟨b1, b2, b3, _⟩ := two2_io h3
  obtain ⟨n3, l3⟩ := nx_L v hf n2 b3
  have o0 : (fold3 P c z).op c = 35 := by unfold fold3 stepI; rw [setI_op, if_neg (by omega), setI_op, if_neg (by omega), setI_op, if_pos rfl]
  have o1 : (fold3 P c z).op (c + 1) = 35 := by unfold fold3 stepI; rw [setI_op, if_neg (by omega), setI_op, if_pos rfl]
  have o2 : (fold3 P c z).op (c + 1 + 1) = 1 := by unfold fold3; rw [setI_op, if_pos rfl]
  have a0 : ((fold3 P c z).a c).toNat = c + 1 := by unfold fold3 stepI; rw [setI_a, if_neg (by omega), setI_a, if_neg (by omega), setI_a, if_pos rfl, Int.toNat_natCast]
  have a1 : ((fold3 P c z).a (c + 1)).toNat = c + 1 + 1 := by unfold fold3 stepI; rw [setI_a, if_neg (by omega), setI_a, if_pos rfl, Int.toNat_natCast]
  have a2 : (fold3 P c z).a (c + 1 + 1) = z := by unfold fold3; rw [setI_a, if_pos rfl]
  match k with
  | 0 => exact no_zero hk
  | 1 => rw [run_push h1] at hk; exact no_zero hk
  | 2 => rw [run_push h1, run_push h2] at hk; exact no_zero hk
  | k + 3 =>
    refine ⟨k, c + 1 + 1 + 1, 3, pushM (popM (popM (usM (pushM (usM (pushM (usM M) (P.a c))) (P.a (c + 1)))))) z, pushM (usM (usM (usM N))) z, by omega, ?_, fun k3 => ?_, (mq_ppp hq _ _).push z, n3, ?_, by omega⟩
    · have e : pairV (P.op (c + 1 + 1)) (P.a c) (P.a (c + 1)) = (z, 0) := hz
      rw [run_push h1, run_push h2, run_two (i := c + 1 + 1) h3, top_us, top_push, top_push2, e, if_pos rfl]
    · rw [runP_jump o0, a0, runP_jump o1, a1, run_push o2, a2]
    · have e : (pushM (popM (popM (usM (pushM (usM (pushM (usM M) (P.a c))) (P.a (c + 1)))))) z).hi = M.hi + 1 + 1 - 1 - 1 + 1 := rfl
      have l3 : L (c + 1 + 1 + 1) = L (c + 1 + 1) - pops (P.op (c + 2)) + pushes (P.op (c + 2)) := l3
      have l2 : L (c + 1 + 1) = L (c + 1) + 1 := l2
      rw [e, l3, b1, b2, l2, l1, hL]
      omega
theorem fold2_obs (v : Vf P L) (hf : Full P L) (hc : c < P.n) (h1 : P.op c = 1) (h3 : one1 (P.op (c + 1)) = true) (f1 : FreeP P (c + 1)) {z : Int} (hz : singleV (P.op (c + 1)) (P.a c) = z) : Obs cl P (fold2 P c z) := by
  obtain ⟨_, _, p⟩ := fold2_vf v hf hc h1 h3 f1 z
  refine block_obs v p (fun x hx1 hx2 => ?_) fun k M N hL hq hk => ?_
  · obtain rfl : x = c + 1 := by omega
    exact f1
  obtain ⟨n1, l1, _⟩ := push_L v hf hc h1
  obtain ⟨b1, b2, b3, _⟩ := one1_io h3
  obtain ⟨n2, l2⟩ := nx_L v hf n1 b3
  have o0 : (fold2 P c z).op c = 35 := by unfold fold2 stepI; rw [setI_op, if_neg (by omega), setI_op, if_pos rfl]
  have o1 : (fold2 P c z).op (c + 1) = 1 := by unfold fold2; rw [setI_op, if_pos rfl]
  have a0 : ((fold2 P c z).a c).toNat = c + 1 := by unfold fold2 stepI; rw [setI_a, if_neg (by omega), setI_a, if_pos rfl, Int.toNat_natCast]
  have a1 : (fold2 P c z).a (c + 1) = z := by unfold fold2; rw [setI_a, if_pos rfl]
  match k with
  | 0 => exact no_zero hk
  | 1 => rw [run_push h1] at hk; exact no_zero hk
  | k + 2 =>
    refine ⟨k, c + 1 + 1, 2, pushM (popM (usM (pushM (usM M) (P.a c)))) z, pushM (usM (usM N)) z, by omega, ?_, fun k3 => ?_, (mq_pp hq _).push z, n2, ?_, by omega⟩
    · rw [run_push h1, run_one h3, top_us, top_push, hz]
    · rw [runP_jump o0, a0, run_push o1, a1]
    · have e : (pushM (popM (usM (pushM (usM M) (P.a c)))) z).hi = M.hi + 1 - 1 + 1 := rfl
      rw [e, l2, b1, b2, l1, hL]
      omega
theorem run_pop {P : Pg} {cl : Cl} {k i : Nat} {M : Mc} (h : P.op i = 2) : runP P cl (k + 1) i M = runP P cl k (i + 1) (popM (usM M)) := by
  rw [runP_go (by rw [h]; decide) (by rw [h]; rfl), h]
  rfl
theorem foldPop_obs (v : Vf P L) (hf : Full P L) (hc : c < P.n) (h1 : P.op c = 1) (h3 : P.op (c + 1) = 2) (f1 : FreeP P (c + 1)) : Obs cl P (foldPop P c) := by
  obtain ⟨_, _, p⟩ := foldPop_vf v hf hc h1 h3 f1
  refine block_obs v p (fun x hx1 hx2 => ?_) fun k M N hL hq hk => ?_
  · obtain rfl : x = c + 1 := by omega
    exact f1
  obtain ⟨n1, l1, _⟩ := push_L v hf hc h1
  obtain ⟨n2, l2⟩ := nx_L v hf n1 (by rw [h3]; rfl)
  have b1 : pops (P.op (c + 1)) = 1 := by rw [h3]; rfl
  have b2 : pushes (P.op (c + 1)) = 0 := by rw [h3]; rfl
  have o0 : (foldPop P c).op c = 35 := by unfold foldPop stepI; rw [setI_op, if_neg (by omega), setI_op, if_pos rfl]
  have o1 : (foldPop P c).op (c + 1) = 35 := by unfold foldPop stepI; rw [setI_op, if_pos rfl]
  have a0 : ((foldPop P c).a c).toNat = c + 1 := by unfold foldPop stepI; rw [setI_a, if_neg (by omega), setI_a, if_pos rfl, Int.toNat_natCast]
  have a1 : ((foldPop P c).a (c + 1)).toNat = c + 1 + 1 := by unfold foldPop stepI; rw [setI_a, if_pos rfl, Int.toNat_natCast]
  match k with
  | 0 => exact no_zero hk
  | 1 => rw [run_push h1] at hk; exact no_zero hk
  | k + 2 =>
    refine ⟨k, c + 1 + 1, 2, popM (usM (pushM (usM M) (P.a c))), usM (usM N), by omega, ?_, fun k3 => ?_, mq_pp hq _, n2, ?_, by omega⟩
    · rw [run_push h1, run_pop h3]
    · rw [runP_jump o0, a0, runP_jump o1, a1]
    · have e : (popM (usM (pushM (usM M) (P.a c)))).hi = M.hi + 1 - 1 := rfl
      rw [e, l2, b1, b2, l1, hL]
      omega
theorem foldZero_obs (v : Vf P L) (hf : Full P L) (hc : c < P.n) (h1 : P.op c = 1) (h3 : P.op (c + 1) = 36) (f1 : FreeP P (c + 1)) : Obs cl P (foldZero P c) := by
  obtain ⟨_, _, p⟩ := foldZero_vf v hf hc h1 h3 f1
  refine block_obs v p (fun x hx1 hx2 => ?_) fun k M N hL hq hk => ?_
  · obtain rfl : x = c + 1 := by omega
    exact f1
  obtain ⟨n1, l1, _⟩ := push_L v hf hc h1
  obtain ⟨n2, l2⟩ := nx_L v hf n1 (by rw [h3]; rfl)
  have hj : jmp (P.op (c + 1)) = true := by rw [h3]; rfl
  have hjp := v.jp (c + 1) n1 (hf _ n1) hj
  have hga := v.gd.a (c + 1) n1 hj
  have b1 : pops (P.op (c + 1)) = 1 := by rw [h3]; rfl
  have b2 : pushes (P.op (c + 1)) = 0 := by rw [h3]; rfl
  have e : (popM (usM (pushM (usM M) (P.a c)))).hi = M.hi + 1 - 1 := rfl
  by_cases hz : P.a c = 0
  · have o0 : (foldZero P c).op c = 35 := by unfold foldZero stepI; rw [if_pos hz, setI_op, if_pos rfl]
    have o1 : (foldZero P c).op (c + 1) = 35 := by unfold foldZero stepI; rw [if_pos hz, setI_op, if_neg (by omega), setI_op, if_pos rfl]
    have a0 : ((foldZero P c).a c).toNat = c + 1 := by unfold foldZero stepI; rw [if_pos hz, setI_a, if_pos rfl, Int.toNat_natCast]
    have a1 : (foldZero P c).a (c + 1) = P.a (c + 1) := by unfold foldZero stepI; rw [if_pos hz, setI_a, if_neg (by omega), setI_a, if_pos rfl]
    match k with
    | 0 => exact no_zero hk
    | 1 => rw [run_push h1] at hk; exact no_zero hk
    | k + 2 =>
      refine ⟨k, (P.a (c + 1)).toNat, 2, popM (usM (pushM (usM M) (P.a c))), usM (usM N), by omega, ?_, fun k3 => ?_, mq_pp hq _, by omega, ?_, fun h9 => ?_⟩
      · rw [run_push h1, runP_ifz h3, top_push, if_pos hz]
      · rw [runP_jump o0, a0, runP_jump o1, a1]
      · unfold aft at hjp
        rw [e, hjp, b1, b2, l1, hL]
        omega
      · exact f1.1 (c + 1) n1 hj (by omega)
  · have o0 : (foldZero P c).op c = 35 := by unfold foldZero stepI; rw [if_neg hz, setI_op, if_pos rfl]
    have o1 : (foldZero P c).op (c + 1) = 35 := by unfold foldZero stepI; rw [if_neg hz, setI_op, if_neg (by omega), setI_op, if_pos rfl]
    have a0 : ((foldZero P c).a c).toNat = c + 1 := by unfold foldZero stepI; rw [if_neg hz, setI_a, if_pos rfl, Int.toNat_natCast]
    have a1 : ((foldZero P c).a (c + 1)).toNat = c + 1 + 1 := by unfold foldZero stepI; rw [if_neg hz, setI_a, if_neg (by omega), setI_a, if_pos rfl, Int.toNat_natCast]
    match k with
    | 0 => exact no_zero hk
    | 1 => rw [run_push h1] at hk; exact no_zero hk
    | k + 2 =>
      refine ⟨k, c + 1 + 1, 2, popM (usM (pushM (usM M) (P.a c))), usM (usM N), by omega, ?_, fun k3 => ?_, mq_pp hq _, n2, ?_, by omega⟩
      · rw [run_push h1, runP_ifz h3, top_push, if_neg hz]
      · rw [runP_jump o0, a0, runP_jump o1, a1]
      · rw [e, l2, b1, b2, l1, hL]
        omega
/-! ### the whole step, a round, and Tidy -/
theorem fat_obs (v : Vf P L) (hf : Full P L) {fr : Nat → Bool} (hc : c < P.n) (hfr : ∀ x, c < x → fr x = true → FreeP P x) : Obs cl P (fatP R2f R1f fr P c).1 := by
  unfold fatP
  by_cases h1 : P.op c = 1 ∧ fr (c + 1) = true
  · rw [if_pos h1]
    have f1 := hfr (c + 1) (by omega) h1.2
    by_cases h2 : P.op (c + 1) = 1 ∧ fr (c + 2) = true ∧ two2 (P.op (c + 2)) = true
    · rw [if_pos h2]
      have f2 := hfr (c + 2) (by omega) h2.2.1
      cases h9 : R2f (P.op (c + 2)) (P.a c) (P.a (c + 1)) with
      | none => exact Obs.refl v
      | some z => exact fold3_obs v hf hc h1.1 h2.1 h2.2.2 f1 f2 (R2_val h2.2.2 h9)
    · rw [if_neg h2]
      by_cases h3 : one1 (P.op (c + 1)) = true
      · rw [if_pos h3]
        cases h9 : R1f (P.op (c + 1)) (P.a c) with
        | none => exact Obs.refl v
        | some z => exact fold2_obs v hf hc h1.1 h3 f1 (R1_val h3 h9)
      · rw [if_neg h3]
        by_cases h4 : P.op (c + 1) = 2
        · rw [if_pos h4]; exact foldPop_obs v hf hc h1.1 h4 f1
        · rw [if_neg h4]
          by_cases h5 : P.op (c + 1) = 36
          · rw [if_pos h5]; exact foldZero_obs v hf hc h1.1 h5 f1
          · rw [if_neg h5]; exact Obs.refl v
  · rw [if_neg h1]; exact Obs.refl v
theorem foldL_obs {fr : Nat → Bool} : ∀ (f c : Nat) {P : Pg} {L : Nat → Int}, Vf P L → Full P L → (∀ x, c < x → fr x = true → FreeP P x) → Obs cl P (foldL R2f R1f fr f c P)
  | 0, c, P, L, v, hf, hfr => Obs.refl v
  | f + 1, c, P, L, v, hf, hfr => by
    show Obs cl P (if c < P.n then foldL R2f R1f fr f (c + (fatP R2f R1f fr P c).2) (fatP R2f R1f fr P c).1 else P)
    by_cases hc : c < P.n
    · rw [if_pos hc]
      have ho := fat_obs (cl := cl) v hf hc hfr
      rcases fat_any R2f R1f v hf hc hfr with h | ⟨Q, s, h, hs, hR⟩
      · rw [h]
        exact foldL_obs f (c + 1) v hf fun x hx h9 => hfr x (by omega) h9
      · rw [h] at ho ⊢
        exact ho.trans v ⟨hR.pa.m, fun j hj => by rw [hR.pa.en]⟩ (foldL_obs f (c + s) hR.vf.1 hR.vf.2 fun x hx h9 => hR.fr x hx (hfr x (by omega) h9))
    · rw [if_neg hc]
      exact Obs.refl v
theorem rnd_obs (v : Vf P L) : Obs cl P (rndP R2f R1f P) := by
  obtain ⟨v2, n2⟩ := shP_vf v
  have s2 := stpN_n (leadP P (endP P)) P.n
  obtain ⟨L3, v3, f3⟩ := goU_drop v2
  obtain ⟨L4, v4, f4⟩ := goS_drop v3 f3
  have v1 := lead_gd v
  have o1 : Obs cl P (shP P) := (lead_obs v).trans v (lead_sg v.gd (endP P)) (stpN_obs v1 P.n (Nat.le_refl _))
  have g2 : SgE P (shP P) := (lead_sg v.gd (endP P)).trans ⟨s2.2.1, fun j hj => by rw [show (shP P).en = (leadP P (endP P)).en from s2.2.2.2.2]⟩
  have o2 : Obs cl P (dropP (shP P) (goU (shP P))) := o1.trans v g2 (dropU_obs v2)
  have g3 : SgE P (dropP (shP P) (goU (shP P))) := g2.trans (drop_sg v2.gd _)
  have o3 : Obs cl P (dropsP (shP P)) := o2.trans v g3 (dropS_obs v3)
  have g4 : SgE P (dropsP (shP P)) := g3.trans (drop_sg v3.gd _)
  have v4' : Vf (dropsP (shP P)) L4 := v4
  have f4' : Full (dropsP (shP P)) L4 := f4
  exact o3.trans v g4 (foldL_obs _ 0 v4' f4' fun x _ h => of_decide_eq_true h)
theorem rndI_obs (v : Vf P L) (ha : A64 P) : ∀ k, Obs cl P (rndI P k)
  | 0 => Obs.refl v
  | k + 1 => by
    obtain ⟨⟨L', v'⟩, _, s', _⟩ := rndI_vf v ha k
    exact (rndI_obs v ha k).trans v s' (rnd_obs v')
/-- THE TIDIER IS SOUND, plainly: unless the fuel is used up, what comes out does the same with no more fuel -/
theorem tid_eff {P Q : Pg} {L : Nat → Int} (v : Vf P L) (ha : A64 P) (h : Tid P Q) (cl : Cl) (n : Nat) (K : Nat → Int) (d s : Int) (hF : (effP P cl n K d s).code ≠ 200) :
    (effP Q cl n K d s).code = (effP P cl n K d s).code ∧ (effP Q cl n K d s).nw = (effP P cl n K d s).nw ∧ (effP Q cl n K d s).wd = (effP P cl n K d s).wd ∧ (effP Q cl n K d s).dice = (effP P cl n K d s).dice ∧ (effP Q cl n K d s).sent = (effP P cl n K d s).sent ∧ (effP Q cl n K d s).on = (effP P cl n K d s).on ∧ (effP Q cl n K d s).oF = (effP P cl n K d s).oF ∧ (effP Q cl n K d s).used ≤ (effP P cl n K d s).used := by
  obtain ⟨⟨L', v', _⟩, _, sg, _, hw, hl, _⟩ := h.done v ha
  have ho : Obs cl P Q := by obtain ⟨k, rfl, _⟩ := h; exact rndI_obs v ha (k + 1)
  have hfit : fitsB Q cl n = fitsB P cl n := by unfold fitsB; rw [sg.1, hw]
  unfold effP at hF ⊢
  have c1 : ¬ dcode P P.m ≠ 0 := fun h => h v.code
  have c2 : ¬ dcode Q Q.m ≠ 0 := fun h => h v'.code
  rw [if_neg c1] at hF
  rw [if_neg c1, if_neg c2, hfit]
  by_cases h2 : fitsB P cl n = false
  · rw [if_pos h2, if_pos h2]
    exact ⟨rfl, rfl, rfl, rfl, rfl, rfl, rfl, Int.le_refl _⟩
  rw [if_neg h2] at hF
  rw [if_neg h2, if_neg h2]
  have hk := (fitsB_yes (by simpa using h2 : fitsB P cl n = true)).2.2.1
  have hk2 : cl.kind.toNat < P.m := by omega
  by_cases h3 : P.en cl.kind.toNat = -1
  · have h4 : Q.en cl.kind.toNat = -1 := by
      have := (sg.2 _ hk2).2 (by omega)
      have := v'.gd.en cl.kind.toNat (by rw [sg.1]; exact hk2)
      omega
    rw [if_pos h3, if_pos h4]
    exact ⟨rfl, rfl, rfl, rfl, rfl, rfl, rfl, Int.le_refl _⟩
  have h4 : Q.en cl.kind.toNat ≠ -1 := fun h9 => by
    have := (sg.2 _ hk2).1 (by omega)
    have := v.gd.en cl.kind.toNat hk2
    omega
  rw [if_neg h3] at hF
  rw [if_neg h3, if_neg h4]
  have hr : (runOf P cl K d s).1 ≠ 200 := fun h9 => by
    rw [if_pos (by rw [h9]; decide)] at hF
    exact hF h9
  obtain ⟨k', hR⟩ := ho cl.kind.toNat hk2 h3 cl.fuel.toNat (newM K d s (.slice none 0 0)) (newM K d s (.slice none 0 0)) rfl (Mq.refl _) hr
  have hR : Res (runOf P cl K d s) (runP Q cl k' (Q.en cl.kind.toNat).toNat (newM K d s (.slice none 0 0))) := hR
  have hu := (runP_used P cl cl.fuel.toNat (P.en cl.kind.toNat).toNat (newM K d s (.slice none 0 0))).2.1
  have hu : (runOf P cl K d s).2.used ≤ (0 : Int) + cl.fuel.toNat := hu
  have e : runOf Q cl K d s = runP Q cl k' (Q.en cl.kind.toNat).toNat (newM K d s (.slice none 0 0)) := runP_more Q cl k' _ _ cl.fuel.toNat (by rw [hR.1]; exact hr) (by
    have := hR.2.us
    show _ ≤ (0 : Int) + cl.fuel.toNat
    omega)
  rw [← e] at hR
  obtain ⟨q1, q2⟩ := hR
  by_cases h5 : (runOf P cl K d s).1 ≠ 0
  · rw [if_pos h5, if_pos (by rw [q1]; exact h5)]
    exact ⟨q1, rfl, rfl, rfl, rfl, rfl, rfl, q2.us⟩
  · rw [if_neg h5, if_neg (by rw [q1]; exact h5)]
    exact ⟨rfl, rfl, q2.wd, q2.dice, q2.sent, q2.on, q2.oF, q2.us⟩
end Go.Proofs.YtopggemomcoalaaGreat
