import Derived.Test.YtkalhmofjpalkaaCP2
namespace Go.Proofs.Ytkalhmofjpalkaa
open Go.ChangeShapes Go.WideShapes Go.ChangeAt Go.RowKit
set_option linter.unusedVariables false
set_option linter.unusedSimpArgs false

/-! ### nobody waits for ever -/
def dpN (w : Nat) : Nat := (if 1 ≤ w then 1 else 0) + (if 3 ≤ w then 1 else 0) + (if 7 ≤ w then 1 else 0) + (if 15 ≤ w then 1 else 0) + (if 31 ≤ w then 1 else 0) + (if 63 ≤ w then 1 else 0)
def lvN (n : Nat) : Nat := 1 + (if 2 ≤ n then 1 else 0) + (if 4 ≤ n then 1 else 0) + (if 8 ≤ n then 1 else 0) + (if 16 ≤ n then 1 else 0) + (if 32 ≤ n then 1 else 0) + (if 64 ≤ n then 1 else 0)
theorem dp_kids : ∀ w, w < 32 → dpN (2 * w + 1) = dpN w + 1 ∧ dpN (2 * w + 2) = dpN w + 1 ∨ 2 * w + 2 = 64 ∧ dpN (2 * w + 1) = dpN w + 1 := by decide
theorem dp_lv (n w : Nat) (hn : n ≤ 64) (hw : w < n) : dpN w + 1 ≤ lvN n := by
  unfold dpN lvN
  have e1 : 1 ≤ w → 2 ≤ n := by omega
  have e2 : 3 ≤ w → 4 ≤ n := by omega
  have e3 : 7 ≤ w → 8 ≤ n := by omega
  have e4 : 15 ≤ w → 16 ≤ n := by omega
  have e5 : 31 ≤ w → 32 ≤ n := by omega
  have e6 : 63 ≤ w → 64 ≤ n := by omega
  have m : ∀ (p q : Prop) [Decidable p] [Decidable q], (p → q) → (if p then 1 else 0 : Nat) ≤ (if q then 1 else 0) := fun p q _ _ h => by
    by_cases hp : p
    · rw [if_pos hp, if_pos (h hp)]; exact Nat.le_refl _
    · rw [if_neg hp]; exact Nat.zero_le _
  have := m _ _ e1
  have := m _ _ e2
  have := m _ _ e3
  have := m _ _ e4
  have := m _ _ e5
  have := m _ _ e6
  omega
theorem dp_par (n c : Nat) (hn : n ≤ 64) (h0 : 0 < c) (hc : c < n) : dpN c = dpN ((c - 1) / 2) + 1 := by
  have h := dp_kids ((c - 1) / 2) (by omega)
  have e : c = 2 * ((c - 1) / 2) + 1 ∨ c = 2 * ((c - 1) / 2) + 2 := by omega
  rcases h with ⟨h1, h2⟩ | ⟨h1, h2⟩
  · rcases e with e | e
    · rw [← e] at h1; exact h1
    · rw [← e] at h2; exact h2
  · rcases e with e | e
    · rw [← e] at h2; exact h2
    · omega
/-- the step that a worker makes next -/
def acP (n p w : Nat) : Nat :=
  if p ≤ 1 ∧ 2 * w + 1 < n then 1
  else if p ≤ 2 ∧ 2 * w + 2 < n then 2
  else if p ≤ 3 ∧ 0 < w then 3
  else if p ≤ 4 ∧ 0 < w then 4
  else 5
/-- by when (in widths) it has been stepped for the last time -/
def dlN (L : Nat) (d q : Nat) : Nat :=
  match q with
  | 1 => 3 * (L - 1 - d)
  | 2 => 3 * (L - 1 - d) + 1
  | 3 => 3 * (L - 1 - d) + 2
  | 4 => 3 * L + 2 * d - 2
  | _ => 3 * L + 2 * d - 1
structure Due (n k : Nat) (N : Nt) (idle : Nat → Nat) (i : Nat) : Prop where
  iv : Inv n N
  r0 : ∀ w, w < n → N.pl w ≠ 0 → N.rd w = 0
  r1 : ∀ w, w < n → N.pl w = 0 → N.rd w = 1
  du : ∀ w, w < n → N.pl w ≠ 0 → i ≤ dlN (lvN n) (dpN w) (acP n (N.pl w) w) * k + idle w
def nextI (idle : Nat → Nat) (w : Nat) : Nat → Nat := fun x => if x = w then 0 else idle x + 1
theorem dl_mono (L d : Nat) (hd : d + 1 ≤ L) {q q' : Nat} (h1 : 1 ≤ q) (h : q < q') (h5 : q' ≤ 5) (hr : d = 0 → q ≤ 2) (hr2 : d = 0 → q' ≠ 3 ∧ q' ≠ 4) : dlN L d q + 1 ≤ dlN L d q' := by
  have e : q = 1 ∨ q = 2 ∨ q = 3 ∨ q = 4 := by omega
  have e' : q' = 2 ∨ q' = 3 ∨ q' = 4 ∨ q' = 5 := by omega
  rcases e with rfl | rfl | rfl | rfl <;> rcases e' with rfl | rfl | rfl | rfl <;> simp only [dlN] <;> omega
theorem dp_pos {n w : Nat} (hn : n ≤ 64) (hw : w < n) (h0 : 0 < w) : 1 ≤ dpN w := by
  have := dp_par n w hn h0 hw
  omega
theorem Due.upd {n k : Nat} {N : Nt} {idle : Nat → Nat} {i : Nat} (h : Due n k N idle i) (w : Nat) (hw : w < n) (N' : Nt) (hI : Inv n N') (p' r' : Nat) (hpl : N'.pl = upF N.pl w p') (hrd : N'.rd = upF N.rd w r') (h0 : p' ≠ 0 → r' = 0) (h1 : p' = 0 → r' = 1) (hd : p' ≠ 0 → i + 1 ≤ dlN (lvN n) (dpN w) (acP n p' w) * k) : Due n k N' (nextI idle w) (i + 1) := by
  refine ⟨hI, fun x hx => ?_, fun x hx => ?_, fun x hx => ?_⟩
  · rw [hpl, hrd]
    by_cases e : x = w
    · subst e; rw [upF_at, upF_at]; exact h0
    · rw [upF_ne _ _ e, upF_ne _ _ e]; exact h.r0 x hx
  · rw [hpl, hrd]
    by_cases e : x = w
    · subst e; rw [upF_at, upF_at]; exact h1
    · rw [upF_ne _ _ e, upF_ne _ _ e]; exact h.r1 x hx
  · rw [hpl]
    unfold nextI
    by_cases e : x = w
    · subst e; rw [upF_at, if_pos rfl]; exact fun hp => hd hp
    · rw [upF_ne _ _ e, if_neg e]
      intro hp
      have := h.du x hx hp
      omega
theorem due_step {n k : Nat} {N : Nt} {idle : Nat → Nat} {i : Nat} (J : Int → Int → Int) (hn : n ≤ 64) (h : Due n k N idle i) (hid : ∀ x, x < n → N.pl x ≠ 0 → idle x + 1 ≤ k) (w : Nat) (hw : w < n) (hp : N.pl w ≠ 0) : Due n k (stepN J n N w) (nextI idle w) (i + 1) := by
  have hI' := h.iv.step J w hw (by omega)
  have h5 := h.iv.p5 w hw
  have hdp := dp_lv n w hn hw
  have hr0 := h.r0 w hw hp
  have late : ∀ x u, x < n → N.pl x ≠ 0 → dlN (lvN n) (dpN x) (acP n (N.pl x) x) + 1 ≤ u → i + 1 ≤ u * k := fun x u hx hpx hq => by
    have h1 := h.du x hx hpx
    have h2 := hid x hx hpx
    refine Nat.le_trans ?_ (Nat.mul_le_mul_right k hq)
    rw [Nat.succ_mul]
    omega
  have ac1 : ∀ x, 1 ≤ acP n (N.pl x) x ∧ acP n (N.pl x) x ≤ 5 := fun x => by
    unfold acP
    repeat' split
    all_goals omega
  have sn : sns N w = true := by unfold sns; rw [hr0]; rfl
  /- a child that has not risen -/
  have kid : ∀ c, c < n → 0 < c → (c - 1) / 2 = w → N.up c ≠ sns N w → i + 1 ≤ (3 * (lvN n - 1 - dpN w)) * k := fun c hc h0 he hu => by
    have u := h.iv.up c h0 hc
    rw [sn] at hu
    rw [u] at hu
    have hcp : N.pl c ≠ 0 ∧ N.pl c < 4 := by
      by_cases e : N.pl c = 0
      · have := h.r1 c hc e
        rw [this, e] at hu
        exact absurd rfl hu
      · refine ⟨e, ?_⟩
        have := h.r0 c hc e
        by_cases e4 : 4 ≤ N.pl c
        · rw [this] at hu
          unfold rsN at hu
          rw [if_pos e4] at hu
          exact absurd rfl hu
        · omega
    have d1 := dp_par n c hn h0 hc
    have d2 := dp_lv n c hn hc
    rw [he] at d1
    refine late c _ hc hcp.1 ?_
    have hq : acP n (N.pl c) c ≤ 3 := by
      unfold acP
      repeat' split
      all_goals omega
    have hq1 := (ac1 c).1
    have e : acP n (N.pl c) c = 1 ∨ acP n (N.pl c) c = 2 ∨ acP n (N.pl c) c = 3 := by omega
    rcases e with e | e | e <;> rw [e] <;> simp only [dlN] <;> omega
  have prog : ∀ p', p' ≠ 0 → acP n (N.pl w) w < acP n p' w → acP n p' w ≤ 5 → (w = 0 → acP n (N.pl w) w ≤ 2 ∧ acP n p' w ≠ 3 ∧ acP n p' w ≠ 4) → i + 1 ≤ dlN (lvN n) (dpN w) (acP n p' w) * k := fun p' _ h1 h2 h3 => by
    refine late w _ hw hp (dl_mono _ _ hdp (ac1 w).1 h1 h2 (fun e => ?_) (fun e => ?_))
    · refine (h3 ?_).1
      by_cases w0 : 0 < w
      · have := dp_pos hn hw w0; omega
      · omega
    · refine (h3 ?_).2
      by_cases w0 : 0 < w
      · have := dp_pos hn hw w0; omega
      · omega
  have acW : ∀ p', acP n p' w = (if p' ≤ 1 ∧ 2 * w + 1 < n then 1 else if p' ≤ 2 ∧ 2 * w + 2 < n then 2 else if p' ≤ 3 ∧ 0 < w then 3 else if p' ≤ 4 ∧ 0 < w then 4 else 5) := fun _ => rfl
  have same : acP n (N.pl w) w ≤ 5 → i + 1 ≤ dlN (lvN n) (dpN w) (acP n (N.pl w) w) * k → Due n k N (nextI idle w) (i + 1) := fun _ hd => h.upd w hw N h.iv (N.pl w) (N.rd w) (upF_self _ _).symm (upF_self _ _).symm (fun _ => hr0) (fun e => absurd e hp) (fun _ => hd)
  by_cases c1 : N.pl w ≤ 1 ∧ 2 * w + 1 < n
  · have hs : stepN J n N w = hearN J N w (2 * w + 1) := by unfold stepN; rw [if_pos c1]
    have ha : acP n (N.pl w) w = 1 := by rw [acW, if_pos c1]
    rw [hs] at hI' ⊢
    unfold hearN at hI' ⊢
    by_cases hu : N.up (2 * w + 1) = sns N w
    · rw [if_pos hu] at hI' ⊢
      refine h.upd w hw _ hI' (N.pl w + 1) (N.rd w) rfl (upF_self _ _).symm (fun _ => hr0) (fun e => by omega) (fun e => prog _ e ?_ ?_ ?_)
      · rw [ha, acW, if_neg (by omega)]; repeat' split
        all_goals omega
      · rw [acW]; repeat' split
        all_goals omega
      · intro e0
        rw [ha, acW, if_neg (by omega)]
        repeat' split
        all_goals omega
    · rw [if_neg hu] at hI' ⊢
      refine same (by omega) ?_
      rw [ha]
      exact kid _ c1.2 (by omega) (by omega) hu
  · by_cases c2 : N.pl w ≤ 2 ∧ 2 * w + 2 < n
    · have hs : stepN J n N w = hearN J N w (2 * w + 2) := by unfold stepN; rw [if_neg c1, if_pos c2]
      have ha : acP n (N.pl w) w = 2 := by rw [acW, if_neg c1, if_pos c2]
      rw [hs] at hI' ⊢
      unfold hearN at hI' ⊢
      by_cases hu : N.up (2 * w + 2) = sns N w
      · rw [if_pos hu] at hI' ⊢
        refine h.upd w hw _ hI' (N.pl w + 1) (N.rd w) rfl (upF_self _ _).symm (fun _ => hr0) (fun e => by omega) (fun e => prog _ e ?_ ?_ ?_)
        · rw [ha, acW, if_neg (by omega), if_neg (by omega)]; repeat' split
          all_goals omega
        · rw [acW]; repeat' split
          all_goals omega
        · intro e0
          rw [ha, acW, if_neg (by omega), if_neg (by omega)]
          repeat' split
          all_goals omega
      · rw [if_neg hu] at hI' ⊢
        refine same (by omega) ?_
        rw [ha]
        refine Nat.le_trans (kid _ c2.2 (by omega) (by omega) hu) (Nat.mul_le_mul_right k ?_)
        simp only [dlN]
        omega
    · by_cases c3 : N.pl w ≤ 3 ∧ 0 < w
      · have hs : stepN J n N w = riseN N w := by unfold stepN; rw [if_neg c1, if_neg c2, if_pos c3]
        have ha : acP n (N.pl w) w = 3 := by rw [acW, if_neg c1, if_neg c2, if_pos c3]
        rw [hs] at hI' ⊢
        have hb : acP n 4 w = 4 := by rw [acW, if_neg (by omega), if_neg (by omega), if_neg (by omega), if_pos (by omega)]
        exact h.upd w hw _ hI' 4 (N.rd w) rfl (upF_self _ _).symm (fun _ => hr0) (fun e => by omega) (fun e => prog _ e (by rw [ha, hb]; omega) (by rw [hb]; omega) (fun e0 => by omega))
      · by_cases c4 : N.pl w ≤ 4 ∧ 0 < w
        · have hs : stepN J n N w = hearPN N w := by unfold stepN; rw [if_neg c1, if_neg c2, if_neg c3, if_pos c4]
          have ha : acP n (N.pl w) w = 4 := by rw [acW, if_neg c1, if_neg c2, if_neg c3, if_pos c4]
          have hb : acP n 5 w = 5 := by rw [acW, if_neg (by omega), if_neg (by omega), if_neg (by omega), if_neg (by omega)]
          rw [hs] at hI' ⊢
          unfold hearPN at hI' ⊢
          by_cases hu : N.dn ((w - 1) / 2) = sns N w
          · rw [if_pos hu] at hI' ⊢
            exact h.upd w hw _ hI' 5 (N.rd w) rfl (upF_self _ _).symm (fun _ => hr0) (fun e => by omega) (fun e => prog _ e (by rw [ha, hb]; omega) (by rw [hb]; omega) (fun e0 => by omega))
          · rw [if_neg hu] at hI' ⊢
            refine same (by omega) ?_
            rw [ha]
            have hd := h.iv.dn ((w - 1) / 2) (by omega)
            rw [sn, hd] at hu
            have hpp : N.pl ((w - 1) / 2) ≠ 0 := fun e => by
              rw [h.r1 _ (by omega) e] at hu
              exact absurd rfl hu
            have d1 := dp_par n w hn c4.2 hw
            have d2 := dp_lv n ((w - 1) / 2) hn (by omega)
            refine late ((w - 1) / 2) _ (by omega) hpp ?_
            have hq := ac1 ((w - 1) / 2)
            have e : acP n (N.pl ((w - 1) / 2)) ((w - 1) / 2) = 1 ∨ acP n (N.pl ((w - 1) / 2)) ((w - 1) / 2) = 2 ∨ acP n (N.pl ((w - 1) / 2)) ((w - 1) / 2) = 3 ∨ acP n (N.pl ((w - 1) / 2)) ((w - 1) / 2) = 4 ∨ acP n (N.pl ((w - 1) / 2)) ((w - 1) / 2) = 5 := by omega
            rcases e with e | e | e | e | e <;> rw [e] <;> simp only [dlN] <;> omega
        · have hs : stepN J n N w = leaveN N w := by unfold stepN; rw [if_neg c1, if_neg c2, if_neg c3, if_neg c4]
          rw [hs] at hI' ⊢
          exact h.upd w hw _ hI' 0 (N.rd w + 1) rfl rfl (fun e => absurd rfl e) (fun _ => by omega) (fun e => absurd rfl e)
/-- behind so many steps all are through -/
theorem due_end {n k : Nat} {N : Nt} {idle : Nat → Nat} {i : Nat} (hn : n ≤ 64) (h : Due n k N idle i) (hid : ∀ x, x < n → N.pl x ≠ 0 → idle x + 1 ≤ k) (hi : 5 * lvN n * k ≤ i) (w : Nat) (hw : w < n) : N.pl w = 0 := by
  by_cases hp : N.pl w = 0
  · exact hp
  · exfalso
    have h1 := h.du w hw hp
    have h2 := hid w hw hp
    have h3 := dp_lv n w hn hw
    have h4 : dlN (lvN n) (dpN w) (acP n (N.pl w) w) + 1 ≤ 5 * lvN n := by
      have e : ∃ q, acP n (N.pl w) w = q := ⟨_, rfl⟩
      obtain ⟨q, e⟩ := e
      rw [e]
      have hq : 1 ≤ q ∧ q ≤ 5 := by
        rw [← e]
        unfold acP
        repeat' split
        all_goals omega
      have e2 : q = 1 ∨ q = 2 ∨ q = 3 ∨ q = 4 ∨ q = 5 := by omega
      rcases e2 with rfl | rfl | rfl | rfl | rfl <;> simp only [dlN] <;> omega
    have h5 := Nat.mul_le_mul_right k h4
    rw [Nat.succ_mul] at h5
    omega
end Go.Proofs.Ytkalhmofjpalkaa
