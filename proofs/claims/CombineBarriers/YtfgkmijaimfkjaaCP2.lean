import Derived.Test.YtfgkmijaimfkjaaCP
namespace Go.Proofs.Ytfgkmijaimfkjaa
open Go.ChangeShapes Go.WideShapes Go.ChangeAt Go.RowKit
set_option linter.unusedVariables false
set_option linter.unusedSimpArgs false

/-! ### the joined value -/
def JJ (J : Int → Int → Int) (n : Nat) (V : Nat → Int) : Nat → Nat → Int
  | 0, w => V w
  | f + 1, w => if 2 * w + 2 < n then J (J (V w) (JJ J n V f (2 * w + 1))) (JJ J n V f (2 * w + 2)) else if 2 * w + 1 < n then J (V w) (JJ J n V f (2 * w + 1)) else V w
theorem JJ_more (J : Int → Int → Int) (n : Nat) (V : Nat → Int) : ∀ f w, n ≤ w + f → JJ J n V (f + 1) w = JJ J n V f w
  | 0, w, h => by
    show (if _ then _ else _) = _
    rw [if_neg (by omega), if_neg (by omega)]
    rfl
  | f + 1, w, h => by
    have e1 := JJ_more J n V f (2 * w + 1) (by omega)
    have e2 := JJ_more J n V f (2 * w + 2) (by omega)
    show (if _ then J (J (V w) (JJ J n V (f + 1) (2 * w + 1))) (JJ J n V (f + 1) (2 * w + 2)) else if _ then J (V w) (JJ J n V (f + 1) (2 * w + 1)) else V w) = _
    rw [e1, e2]
    rfl
def JT (J : Int → Int → Int) (n : Nat) (V : Nat → Int) (w : Nat) : Int := JJ J n V n w
theorem JT_eq (J : Int → Int → Int) (n : Nat) (V : Nat → Int) (w : Nat) : JT J n V w = if 2 * w + 2 < n then J (J (V w) (JT J n V (2 * w + 1))) (JT J n V (2 * w + 2)) else if 2 * w + 1 < n then J (V w) (JT J n V (2 * w + 1)) else V w := by
  unfold JT
  rw [← JJ_more J n V n w (by omega)]
  rfl
/-- the values of a net in which B r w is what w brings to its round r -/
structure Vals (J : Int → Int → Int) (n : Nat) (B : Nat → Nat → Int) (N : Nt) : Prop where
  v1 : ∀ w, w < n → N.pl w = 1 → N.hs w = B (N.rd w + 1) w
  v2 : ∀ w, w < n → N.pl w = 2 → N.hs w = J (B (N.rd w + 1) w) (JT J n (B (N.rd w + 1)) (2 * w + 1))
  v3 : ∀ w, w < n → N.pl w = 3 → N.hs w = JT J n (B (N.rd w + 1)) w
  v4 : ∀ w, 0 < w → w < n → 4 ≤ N.pl w → N.uv w = JT J n (B (N.rd w + 1)) w
  v5 : ∀ w, w < n → N.pl w = 5 → N.hs w = JT J n (B (N.rd w + 1)) 0
  v6 : ∀ w, w < n → 0 < N.rd w → N.dv w = JT J n (B (N.rd w)) 0
theorem Vals.new (J : Int → Int → Int) (n : Nat) (B : Nat → Nat → Int) : Vals J n B Nt.new :=
  ⟨fun _ _ h => by simp [Nt.new] at h, fun _ _ h => by simp [Nt.new] at h, fun _ _ h => by simp [Nt.new] at h, fun _ _ _ h => by simp [Nt.new] at h, fun _ _ h => by simp [Nt.new] at h, fun _ _ h => by simp [Nt.new] at h⟩
theorem Vals.upd {J : Int → Int → Int} {n : Nat} {B : Nat → Nat → Int} {N : Nt} (h : Vals J n B N) (w : Nat) (hw : w < n) (N' : Nt) (pw rw' : Nat) (hh uu dd : Int) (hpl : N'.pl = upF N.pl w pw) (hrd : N'.rd = upF N.rd w rw') (hhs : N'.hs = upF N.hs w hh) (huv : N'.uv = upF N.uv w uu) (hdv : N'.dv = upF N.dv w dd)
    (a1 : pw = 1 → hh = B (rw' + 1) w) (a2 : pw = 2 → hh = J (B (rw' + 1) w) (JT J n (B (rw' + 1)) (2 * w + 1))) (a3 : pw = 3 → hh = JT J n (B (rw' + 1)) w) (a4 : 0 < w → 4 ≤ pw → uu = JT J n (B (rw' + 1)) w) (a5 : pw = 5 → hh = JT J n (B (rw' + 1)) 0) (a6 : 0 < rw' → dd = JT J n (B rw') 0) : Vals J n B N' := by
  refine ⟨fun j hj => ?_, fun j hj => ?_, fun j hj => ?_, fun j h0 hj => ?_, fun j hj => ?_, fun j hj => ?_⟩
  · rw [hpl, hrd, hhs]
    by_cases e : j = w
    · subst e; rw [upF_at, upF_at, upF_at]; exact a1
    · rw [upF_ne _ _ e, upF_ne _ _ e, upF_ne _ _ e]; exact h.v1 j hj
  · rw [hpl, hrd, hhs]
    by_cases e : j = w
    · subst e; rw [upF_at, upF_at, upF_at]; exact a2
    · rw [upF_ne _ _ e, upF_ne _ _ e, upF_ne _ _ e]; exact h.v2 j hj
  · rw [hpl, hrd, hhs]
    by_cases e : j = w
    · subst e; rw [upF_at, upF_at, upF_at]; exact a3
    · rw [upF_ne _ _ e, upF_ne _ _ e, upF_ne _ _ e]; exact h.v3 j hj
  · rw [hpl, hrd, huv]
    by_cases e : j = w
    · subst e; rw [upF_at, upF_at, upF_at]; exact a4 h0
    · rw [upF_ne _ _ e, upF_ne _ _ e, upF_ne _ _ e]; exact h.v4 j h0 hj
  · rw [hpl, hrd, hhs]
    by_cases e : j = w
    · subst e; rw [upF_at, upF_at, upF_at]; exact a5
    · rw [upF_ne _ _ e, upF_ne _ _ e, upF_ne _ _ e]; exact h.v5 j hj
  · rw [hrd, hdv]
    by_cases e : j = w
    · subst e; rw [upF_at, upF_at]; exact a6
    · rw [upF_ne _ _ e, upF_ne _ _ e]; exact h.v6 j hj
variable {J : Int → Int → Int} {n : Nat} {B : Nat → Nat → Int} {N : Nt}
theorem Vals.enter (h : Vals J n B N) (w : Nat) (hw : w < n) : Vals J n B (enterN N w (B (N.rd w + 1) w)) :=
  h.upd w hw _ 1 (N.rd w) _ (N.uv w) (N.dv w) rfl (upF_self _ _).symm rfl (upF_self _ _).symm (upF_self _ _).symm (fun _ => rfl) (fun e => by omega) (fun e => by omega) (fun _ e => by omega) (fun e => by omega) (h.v6 w hw)
theorem Vals.hear (hI : Inv n N) (h : Vals J n B N) (w c : Nat) (hw : w < n) (hc : c < n) (hcw : (c = 2 * w + 1 ∧ N.pl w = 1) ∨ (c = 2 * w + 2 ∧ N.pl w = 2)) : Vals J n B (hearN J N w c) := by
  unfold hearN
  by_cases hs : N.up c = sns N w
  · rw [if_pos hs]
    obtain ⟨q4, qr⟩ := hI.heard w c hc (by omega) (by omega) (by omega) hs
    have hu := h.v4 c (by omega) hc q4
    rw [qr] at hu
    refine h.upd w hw _ (N.pl w + 1) (N.rd w) _ (N.uv w) (N.dv w) rfl (upF_self _ _).symm rfl (upF_self _ _).symm (upF_self _ _).symm (fun e => by omega) (fun e => ?_) (fun e => ?_) (fun _ e => by omega) (fun e => by omega) (h.v6 w hw)
    · rcases hcw with ⟨rfl, h1⟩ | ⟨rfl, h1⟩
      · rw [hu, h.v1 w hw h1]
      · omega
    · rcases hcw with ⟨rfl, h1⟩ | ⟨rfl, h1⟩
      · omega
      · rw [hu, h.v2 w hw h1, JT_eq J n _ w, if_pos hc]
  · rw [if_neg hs]; exact h
/-- who has read all its children has its part's joined value -/
theorem Vals.has (hI : Inv n N) (h : Vals J n B N) (w : Nat) (hw : w < n) (h1 : 1 ≤ N.pl w) (h3 : N.pl w ≤ 3) (c1 : ¬ (N.pl w ≤ 1 ∧ 2 * w + 1 < n)) (c2 : ¬ (N.pl w ≤ 2 ∧ 2 * w + 2 < n)) : N.hs w = JT J n (B (N.rd w + 1)) w := by
  have hp : N.pl w = 1 ∨ N.pl w = 2 ∨ N.pl w = 3 := by omega
  rcases hp with hp | hp | hp
  · rw [h.v1 w hw hp, JT_eq, if_neg (by omega), if_neg (by omega)]
  · rw [h.v2 w hw hp, JT_eq J n _ w, if_neg (by omega), if_pos (hI.p2 w hw hp)]
  · exact h.v3 w hw hp
theorem Vals.step (hI : Inv n N) (h : Vals J n B N) (w : Nat) (hw : w < n) (hp : 1 ≤ N.pl w) : Vals J n B (stepN J n N w) := by
  have h5 := hI.p5 w hw
  unfold stepN
  by_cases c1 : N.pl w ≤ 1 ∧ 2 * w + 1 < n
  · rw [if_pos c1]; exact Vals.hear hI h w _ hw c1.2 (by omega)
  · rw [if_neg c1]
    by_cases c2 : N.pl w ≤ 2 ∧ 2 * w + 2 < n
    · rw [if_pos c2]; exact Vals.hear hI h w _ hw c2.2 (by omega)
    · rw [if_neg c2]
      by_cases c3 : N.pl w ≤ 3 ∧ 0 < w
      · rw [if_pos c3]
        have hh := Vals.has hI h w hw hp c3.1 c1 c2
        exact h.upd w hw _ 4 (N.rd w) 0 (N.hs w) (N.dv w) rfl (upF_self _ _).symm rfl rfl (upF_self _ _).symm (fun e => by omega) (fun e => by omega) (fun e => by omega) (fun _ _ => hh) (fun e => by omega) (h.v6 w hw)
      · rw [if_neg c3]
        by_cases c4 : N.pl w ≤ 4 ∧ 0 < w
        · rw [if_pos c4]
          have h4 : N.pl w = 4 := by omega
          unfold hearPN
          by_cases hs : N.dn ((w - 1) / 2) = sns N w
          · rw [if_pos hs]
            have hr : N.rd ((w - 1) / 2) = N.rd w + 1 := by
              have := hI.ed w c4.2 hw
              have u := hI.dn ((w - 1) / 2) (by omega)
              rw [hs] at u
              unfold sns at u
              have u' := (par2 _ _).1 u.symm
              unfold EdC hrN at this
              rw [if_neg (by omega : ¬ N.pl w = 5)] at this
              omega
            have hd := h.v6 ((w - 1) / 2) (by omega) (by omega)
            rw [hr] at hd
            exact h.upd w hw _ 5 (N.rd w) _ (N.uv w) (N.dv w) rfl (upF_self _ _).symm rfl (upF_self _ _).symm (upF_self _ _).symm (fun e => by omega) (fun e => by omega) (fun e => by omega) (fun _ _ => h.v4 w c4.2 hw (by omega)) (fun _ => hd) (h.v6 w hw)
          · rw [if_neg hs]; exact h
        · rw [if_neg c4]
          have hh : N.hs w = JT J n (B (N.rd w + 1)) 0 := by
            by_cases w0 : 0 < w
            · exact h.v5 w hw (by omega)
            · have : w = 0 := by omega
              subst this
              exact Vals.has hI h 0 hw hp hI.p0 c1 c2
          exact h.upd w hw _ 0 (N.rd w + 1) 0 0 (N.hs w) rfl rfl rfl rfl rfl (fun e => by omega) (fun e => by omega) (fun e => by omega) (fun _ e => by omega) (fun e => by omega) (fun _ => hh)
/-- nobody is through a round that somebody has not entered -/
theorem Inv.root (hI : Inv n N) : ∀ w, w < n → N.rd w ≤ N.rd 0 := by
  intro w
  induction w using Nat.strongRecOn with
  | ind w ih =>
    intro hw
    by_cases w0 : 0 < w
    · have h1 := ih ((w - 1) / 2) (by omega) (by omega)
      have := hI.ed w w0 hw
      unfold EdC hrN at this
      omega
    · have : w = 0 := by omega
      subst this
      exact Nat.le_refl _
theorem Inv.all (hI : Inv n N) : ∀ k, 0 < k → k < n → N.rd 0 ≤ rsN (N.rd k) (N.pl k) := by
  intro k
  induction k using Nat.strongRecOn with
  | ind k ih =>
    intro k0 hk
    have e := hI.ed k k0 hk
    unfold EdC rdN at e
    by_cases p0 : 0 < (k - 1) / 2
    · have h1 := ih ((k - 1) / 2) (by omega) p0 (by omega)
      have h2 : rsN (N.rd ((k - 1) / 2)) (N.pl ((k - 1) / 2)) ≤ rsN (N.rd k) (N.pl k) := by
        refine Nat.le_trans ?_ e.1
        unfold rsN
        by_cases h4 : 4 ≤ N.pl ((k - 1) / 2)
        · rw [if_pos h4, if_pos (by omega)]; omega
        · rw [if_neg h4]; omega
      omega
    · have : (k - 1) / 2 = 0 := by omega
      rw [this] at e
      omega
theorem Inv.entered (hI : Inv n N) (w k : Nat) (hw : w < n) (hk : k < n) : N.rd w ≤ N.rd k + (if N.pl k = 0 then 0 else 1) := by
  have h1 := hI.root w hw
  by_cases k0 : 0 < k
  · have := hI.all k k0 hk
    unfold rsN at this
    by_cases h4 : 4 ≤ N.pl k
    · rw [if_pos h4] at this; rw [if_neg (by omega)]; omega
    · rw [if_neg h4] at this; omega
  · have : k = 0 := by omega
    subst this
    omega
end Go.Proofs.Ytfgkmijaimfkjaa
