import Derived.Test.YtfgkmijaimfkjaaC3
namespace Go.Proofs.Ytfgkmijaimfkjaa
open Go.ChangeShapes Go.WideShapes Go.ChangeAt Go.RowKit
set_option linter.unusedVariables false
set_option linter.unusedSimpArgs false

/-! ### a net's tree: nobody runs ahead -/
def rsN (r p : Nat) : Nat := r + (if 4 ≤ p then 1 else 0)
def hrN (r p : Nat) : Nat := r + (if p = 5 then 1 else 0)
def rdN (c rq pq : Nat) : Nat := rq + (if (c % 2 = 1 ∧ 2 ≤ pq) ∨ (c % 2 = 0 ∧ 3 ≤ pq) then 1 else 0)
/-- a child (its rounds, its place) and its parent (likewise) -/
def EdC (c r p rq pq : Nat) : Prop := rdN c rq pq ≤ rsN r p ∧ rsN r p ≤ rdN c rq pq + 1 ∧ hrN r p ≤ rq ∧ rq ≤ hrN r p + 1
structure Inv (n : Nat) (N : Nt) : Prop where
  p5 : ∀ w, w < n → N.pl w ≤ 5
  p0 : N.pl 0 ≤ 3
  p2 : ∀ w, w < n → N.pl w = 2 → 2 * w + 1 < n
  p3 : ∀ w, w < n → N.pl w = 3 → 2 * w + 2 < n
  up : ∀ w, 0 < w → w < n → N.up w = (rsN (N.rd w) (N.pl w) % 2 == 1)
  dn : ∀ w, w < n → N.dn w = (N.rd w % 2 == 1)
  ed : ∀ c, 0 < c → c < n → EdC c (N.rd c) (N.pl c) (N.rd ((c - 1) / 2)) (N.pl ((c - 1) / 2))
theorem Inv.new (n : Nat) : Inv n Nt.new :=
  ⟨fun _ _ => by simp [Nt.new], by simp [Nt.new], fun _ _ h => by simp [Nt.new] at h, fun _ _ h => by simp [Nt.new] at h, fun _ _ _ => by simp [Nt.new, rsN], fun _ _ => by simp [Nt.new], fun c _ _ => by simp [EdC, rdN, rsN, hrN, Nt.new]⟩
theorem Inv.upd {n : Nat} {N : Nt} (h : Inv n N) (w : Nat) (hw : w < n) (N' : Nt) (pw rw' : Nat) (uw dw : Bool) (hpl : N'.pl = upF N.pl w pw) (hrd : N'.rd = upF N.rd w rw') (hup : N'.up = upF N.up w uw) (hdn : N'.dn = upF N.dn w dw)
    (a5 : pw ≤ 5) (a0 : w = 0 → pw ≤ 3) (a2 : pw = 2 → 2 * w + 1 < n) (a3 : pw = 3 → 2 * w + 2 < n) (au : 0 < w → uw = (rsN rw' pw % 2 == 1)) (ad : dw = (rw' % 2 == 1)) (ae : 0 < w → EdC w rw' pw (N.rd ((w - 1) / 2)) (N.pl ((w - 1) / 2))) (ac : ∀ c, 0 < c → c < n → (c - 1) / 2 = w → EdC c (N.rd c) (N.pl c) rw' pw) : Inv n N' := by
  refine ⟨fun j hj => ?_, ?_, fun j hj => ?_, fun j hj => ?_, fun j h0 hj => ?_, fun j hj => ?_, fun c h0 hc => ?_⟩
  · rw [hpl]
    by_cases e : j = w
    · subst e; rw [upF_at]; exact a5
    · rw [upF_ne _ _ e]; exact h.p5 j hj
  · rw [hpl]
    by_cases e : (0 : Nat) = w
    · subst e; rw [upF_at]; exact a0 rfl
    · rw [upF_ne _ _ e]; exact h.p0
  · rw [hpl]
    by_cases e : j = w
    · subst e; rw [upF_at]; exact a2
    · rw [upF_ne _ _ e]; exact h.p2 j hj
  · rw [hpl]
    by_cases e : j = w
    · subst e; rw [upF_at]; exact a3
    · rw [upF_ne _ _ e]; exact h.p3 j hj
  · rw [hpl, hrd, hup]
    by_cases e : j = w
    · subst e; rw [upF_at, upF_at, upF_at]; exact au h0
    · rw [upF_ne _ _ e, upF_ne _ _ e, upF_ne _ _ e]; exact h.up j h0 hj
  · rw [hrd, hdn]
    by_cases e : j = w
    · subst e; rw [upF_at, upF_at]; exact ad
    · rw [upF_ne _ _ e, upF_ne _ _ e]; exact h.dn j hj
  · rw [hpl, hrd]
    by_cases e : c = w
    · subst e
      have e2 : (c - 1) / 2 ≠ c := by omega
      rw [upF_at, upF_at, upF_ne _ _ e2, upF_ne _ _ e2]; exact ae h0
    · by_cases e2 : (c - 1) / 2 = w
      · rw [e2, upF_at, upF_at, upF_ne _ _ e, upF_ne _ _ e]
        exact ac c h0 hc e2
      · rw [upF_ne _ _ e, upF_ne _ _ e, upF_ne _ _ e2, upF_ne _ _ e2]
        exact h.ed c h0 hc
theorem upF_self {α : Type} (F : Nat → α) (w : Nat) : upF F w (F w) = F := by
  funext j
  unfold upF
  split
  · next e => rw [e]
  · rfl
theorem par2 (x y : Nat) : ((x % 2 == 1) = (y % 2 == 0)) ↔ x % 2 ≠ y % 2 := by
  rw [Bool.eq_iff_iff]
  simp
  omega
theorem Inv.enter {n : Nat} {N : Nt} (h : Inv n N) (w : Nat) (hw : w < n) (v : Int) (hp : N.pl w = 0) : Inv n (enterN N w v) := by
  refine h.upd w hw _ 1 (N.rd w) (N.up w) (N.dn w) rfl (upF_self _ _).symm (upF_self _ _).symm (upF_self _ _).symm (by omega) (fun e => by omega) (fun e => by omega) (fun e => by omega) (fun h0 => ?_) (h.dn w hw) (fun h0 => ?_) (fun c h0 hc he => ?_)
  · have := h.up w h0 hw
    rw [hp] at this
    exact this
  · have := h.ed w h0 hw
    rw [hp] at this
    exact this
  · have := h.ed c h0 hc
    rw [he, hp] at this
    unfold EdC rdN at this ⊢
    simp at this ⊢
    exact this
/-- what a child has told is of this very round -/
theorem Inv.heard {n : Nat} {N : Nt} (h : Inv n N) (w c : Nat) (hc : c < n) (h0 : 0 < c) (hw : (c - 1) / 2 = w) (hnr : ¬ ((c % 2 = 1 ∧ 2 ≤ N.pl w) ∨ (c % 2 = 0 ∧ 3 ≤ N.pl w))) (hs : N.up c = sns N w) : 4 ≤ N.pl c ∧ N.rd c = N.rd w := by
  have e := h.ed c h0 hc
  have u := h.up c h0 hc
  rw [hs] at u
  unfold sns at u
  have u' := (par2 _ _).1 u.symm
  rw [hw] at e
  unfold EdC rdN rsN hrN at e
  unfold rsN at u'
  rw [if_neg hnr] at e
  by_cases h4 : 4 ≤ N.pl c
  · rw [if_pos h4] at e u'
    refine ⟨h4, ?_⟩
    by_cases h5 : N.pl c = 5
    · rw [if_pos h5] at e; omega
    · rw [if_neg h5] at e; omega
  · rw [if_neg h4] at e u'
    have h5 : ¬ N.pl c = 5 := by omega
    rw [if_neg h5] at e
    omega
theorem Inv.hear {n : Nat} {N : Nt} (h : Inv n N) (J : Int → Int → Int) (w c : Nat) (hw : w < n) (hc : c < n) (hcw : (c = 2 * w + 1 ∧ N.pl w = 1) ∨ (c = 2 * w + 2 ∧ N.pl w = 2)) : Inv n (hearN J N w c) := by
  unfold hearN
  by_cases hs : N.up c = sns N w
  · rw [if_pos hs]
    obtain ⟨q4, qr⟩ := h.heard w c hc (by omega) (by omega) (by omega) hs
    refine h.upd w hw _ (N.pl w + 1) (N.rd w) (N.up w) (N.dn w) rfl (upF_self _ _).symm (upF_self _ _).symm (upF_self _ _).symm (by omega) (fun e => by omega) (fun e => by omega) (fun e => by omega) (fun h0 => ?_) (h.dn w hw) (fun h0 => ?_) (fun c' h0 hc' he => ?_)
    · have := h.up w h0 hw
      unfold rsN at this ⊢
      rw [if_neg (by omega)] at this ⊢
      exact this
    · have := h.ed w h0 hw
      unfold EdC rsN hrN at this ⊢
      rw [if_neg (by omega : ¬ 4 ≤ N.pl w + 1), if_neg (by omega : ¬ N.pl w + 1 = 5)]
      rw [if_neg (by omega : ¬ 4 ≤ N.pl w), if_neg (by omega : ¬ N.pl w = 5)] at this
      exact this
    · have := h.ed c' h0 hc'
      rw [he] at this
      unfold EdC rdN rsN hrN at this ⊢
      by_cases e3 : c' = c
      · subst e3
        rw [if_pos q4] at this ⊢
        rw [if_pos (by omega)]
        rw [if_neg (by omega : ¬ ((c' % 2 = 1 ∧ 2 ≤ N.pl w) ∨ (c' % 2 = 0 ∧ 3 ≤ N.pl w)))] at this
        omega
      · have e4 : ((c' % 2 = 1 ∧ 2 ≤ N.pl w + 1) ∨ (c' % 2 = 0 ∧ 3 ≤ N.pl w + 1)) ↔ ((c' % 2 = 1 ∧ 2 ≤ N.pl w) ∨ (c' % 2 = 0 ∧ 3 ≤ N.pl w)) := by omega
        simp only [e4]
        exact this
  · rw [if_neg hs]; exact h
theorem par1 (x : Nat) : (x % 2 == 0) = ((x + 1) % 2 == 1) := by
  rw [Bool.eq_iff_iff]
  simp
  omega
theorem Inv.rise {n : Nat} {N : Nt} (h : Inv n N) (w : Nat) (hw : w < n) (h0 : 0 < w) (h1 : 1 ≤ N.pl w) (h3 : N.pl w ≤ 3) (hd : ∀ c, 0 < c → c < n → (c - 1) / 2 = w → (c % 2 = 1 ∧ 2 ≤ N.pl w) ∨ (c % 2 = 0 ∧ 3 ≤ N.pl w)) : Inv n (riseN N w) := by
  refine h.upd w hw _ 4 (N.rd w) (sns N w) (N.dn w) rfl (upF_self _ _).symm rfl (upF_self _ _).symm (by omega) (fun e => by omega) (fun e => by omega) (fun e => by omega) (fun _ => ?_) (h.dn w hw) (fun _ => ?_) (fun c' h0' hc' he => ?_)
  · unfold sns rsN
    rw [if_pos (by omega)]
    exact par1 _
  · have := h.ed w h0 hw
    unfold EdC rsN hrN rdN at this ⊢
    rw [if_pos (by omega : 4 ≤ 4), if_neg (by omega : ¬ 4 = 5)]
    rw [if_neg (by omega : ¬ 4 ≤ N.pl w), if_neg (by omega : ¬ N.pl w = 5)] at this
    omega
  · have := h.ed c' h0' hc'
    rw [he] at this
    have hd' := hd c' h0' hc' he
    unfold EdC rdN at this ⊢
    rw [if_pos hd'] at this
    rw [if_pos (by omega)]
    exact this
theorem Inv.hearP {n : Nat} {N : Nt} (h : Inv n N) (w : Nat) (hw : w < n) (h0 : 0 < w) (h4 : N.pl w = 4) : Inv n (hearPN N w) := by
  unfold hearPN
  by_cases hs : N.dn ((w - 1) / 2) = sns N w
  · rw [if_pos hs]
    have hr : N.rd ((w - 1) / 2) = N.rd w + 1 := by
      have := h.ed w h0 hw
      have u := h.dn ((w - 1) / 2) (by omega)
      rw [hs] at u
      unfold sns at u
      have u' := (par2 _ _).1 u.symm
      unfold EdC hrN at this
      rw [if_neg (by omega : ¬ N.pl w = 5)] at this
      omega
    refine h.upd w hw _ 5 (N.rd w) (N.up w) (N.dn w) rfl (upF_self _ _).symm (upF_self _ _).symm (upF_self _ _).symm (by omega) (fun e => by omega) (fun e => by omega) (fun e => by omega) (fun _ => ?_) (h.dn w hw) (fun _ => ?_) (fun c' h0' hc' he => ?_)
    · have := h.up w h0 hw
      rw [h4] at this
      exact this
    · have := h.ed w h0 hw
      unfold EdC rsN hrN rdN at this ⊢
      rw [if_pos (by omega : 4 ≤ 5), if_pos (by omega : 5 = 5)]
      rw [if_pos (by omega : 4 ≤ N.pl w), if_neg (by omega : ¬ N.pl w = 5)] at this
      omega
    · have := h.ed c' h0' hc'
      rw [he, h4] at this
      unfold EdC rdN at this ⊢
      rw [if_pos (by omega)] at this ⊢
      exact this
  · rw [if_neg hs]; exact h
theorem Inv.leave {n : Nat} {N : Nt} (h : Inv n N) (w : Nat) (hw : w < n) (h1 : (0 < w ∧ N.pl w = 5) ∨ (w = 0 ∧ 1 ≤ N.pl w ∧ ∀ c, 0 < c → c < n → (c - 1) / 2 = w → (c % 2 = 1 ∧ 2 ≤ N.pl w) ∨ (c % 2 = 0 ∧ 3 ≤ N.pl w))) : Inv n (leaveN N w) := by
  have hd : ∀ c, 0 < c → c < n → (c - 1) / 2 = w → (c % 2 = 1 ∧ 2 ≤ N.pl w) ∨ (c % 2 = 0 ∧ 3 ≤ N.pl w) := by
    rcases h1 with ⟨_, h5⟩ | ⟨_, _, h3⟩
    · intro c _ _ _; omega
    · exact h3
  refine h.upd w hw _ 0 (N.rd w + 1) (N.up w) (sns N w) rfl rfl (upF_self _ _).symm rfl (by omega) (fun e => by omega) (fun e => by omega) (fun e => by omega) (fun h0 => ?_) (par1 _) (fun h0 => ?_) (fun c' h0' hc' he => ?_)
  · have h5 : N.pl w = 5 := by omega
    have := h.up w h0 hw
    rw [h5] at this
    exact this
  · have h5 : N.pl w = 5 := by omega
    have := h.ed w h0 hw
    rw [h5] at this
    exact this
  · have := h.ed c' h0' hc'
    have hd' := hd c' h0' hc' he
    rw [he] at this
    unfold EdC rdN rsN hrN at this ⊢
    rw [if_pos hd'] at this
    rw [if_neg (by omega)]
    by_cases q4 : 4 ≤ N.pl c'
    · rw [if_pos q4] at this ⊢
      by_cases q5 : N.pl c' = 5
      · rw [if_pos q5] at this ⊢; omega
      · rw [if_neg q5] at this ⊢; omega
    · rw [if_neg q4] at this ⊢
      rw [if_neg (by omega : ¬ N.pl c' = 5)] at this ⊢
      omega
theorem Inv.step {n : Nat} {N : Nt} (h : Inv n N) (J : Int → Int → Int) (w : Nat) (hw : w < n) (hp : 1 ≤ N.pl w) : Inv n (stepN J n N w) := by
  have h5 := h.p5 w hw
  unfold stepN
  by_cases c1 : N.pl w ≤ 1 ∧ 2 * w + 1 < n
  · rw [if_pos c1]; exact h.hear J w _ hw c1.2 (by omega)
  · rw [if_neg c1]
    by_cases c2 : N.pl w ≤ 2 ∧ 2 * w + 2 < n
    · rw [if_pos c2]; exact h.hear J w _ hw c2.2 (by omega)
    · rw [if_neg c2]
      have hd : N.pl w ≤ 3 → ∀ c, 0 < c → c < n → (c - 1) / 2 = w → (c % 2 = 1 ∧ 2 ≤ N.pl w) ∨ (c % 2 = 0 ∧ 3 ≤ N.pl w) := fun _ c h0 hc he => by omega
      by_cases c3 : N.pl w ≤ 3 ∧ 0 < w
      · rw [if_pos c3]; exact h.rise w hw c3.2 hp c3.1 (hd c3.1)
      · rw [if_neg c3]
        by_cases c4 : N.pl w ≤ 4 ∧ 0 < w
        · rw [if_pos c4]; exact h.hearP w hw c4.2 (by omega)
        · rw [if_neg c4]
          refine h.leave w hw ?_
          by_cases w0 : 0 < w
          · exact .inl ⟨w0, by omega⟩
          · have : w = 0 := by omega
            subst this
            exact .inr ⟨rfl, hp, hd h.p0⟩
end Go.Proofs.Ytfgkmijaimfkjaa
