import Derived.Test.YtagchghhpggnlaaGreatJRP1
namespace Go.Proofs.YtagchghhpggnlaaGreat
open Go.ChangeShapes Go.WideShapes Go.ChangeAt Go.RowKit
set_option linter.unusedVariables false
set_option linter.unusedSimpArgs false

/-! ### more fuel -/
theorem runP_anyfuel (P : Pg) (cl cl2 : Cl) (h : ∀ M o a b, doF cl2 M o a b = doF cl M o a b ∧ doM cl2 M o a b = doM cl M o a b) : ∀ (k i : Nat) (M : Mc), runP P cl2 k i M = runP P cl k i M
  | 0, i, M => by rw [runP_zero, runP_zero]
  | k + 1, i, M => by
    by_cases h0 : P.op i = 0
    · rw [runP_stop h0, runP_stop h0]
    by_cases h1 : P.op i = 35
    · rw [runP_jump h1, runP_jump h1]; exact runP_anyfuel P cl cl2 h k _ _
    by_cases h2 : P.op i = 36
    · rw [runP_ifz h2, runP_ifz h2]; exact runP_anyfuel P cl cl2 h k _ _
    have h3 : P.op i ≠ 0 ∧ P.op i ≠ 35 ∧ P.op i ≠ 36 := ⟨h0, h1, h2⟩
    obtain ⟨hF, hM⟩ := h (usM M) (P.op i) (P.a i) (P.b i)
    by_cases hf : doF cl (usM M) (P.op i) (P.a i) (P.b i) = 0
    · rw [runP_go h3 hf, runP_go (cl := cl2) h3 (hF.trans hf), hM]
      exact runP_anyfuel P cl cl2 h k _ _
    · rw [runP_fault h3 hf, runP_fault (cl := cl2) h3 (by rw [hF]; exact hf), hF]
def fuA (p : Pl) (f : Int) : Pl := { p with fu := f }
theorem eff_fuel {P : Pg} {cl : Cl} {n : Nat} {K : Nat → Int} {d s f : Int} (hz : dcode P P.m = 0) (hf : fitsB P cl n = true) (hle : cl.fuel ≤ f) (hff : f ≤ 4096) (hne : (effP P cl n K d s).code ≠ 200) : effP P { cl with fuel := f } n K d s = effP P cl n K d s := by
  obtain ⟨⟨k1, k2⟩, ⟨k3, k4⟩, ⟨k5, k6⟩, k7, k8, k9⟩ := fitsB_yes hf
  have hf2 : fitsB P { cl with fuel := f } n = true := by
    unfold fitsB
    simp only [decide_eq_true k1, decide_eq_true k2, decide_eq_true k3, decide_eq_true k4, decide_eq_true k5, decide_eq_true k6, decide_eq_true k7, decide_eq_true (show 0 ≤ f by omega), decide_eq_true hff]
    rfl
  have hR2 : runOf P { cl with fuel := f } K d s = runP P cl f.toNat (P.en cl.kind.toNat).toNat (newM K d s (.slice none 0 0)) := runP_anyfuel P cl { cl with fuel := f } (fun M o a b => ⟨rfl, rfl⟩) f.toNat _ _
  have hR : runOf P cl K d s = runP P cl cl.fuel.toNat (P.en cl.kind.toNat).toNat (newM K d s (.slice none 0 0)) := rfl
  have hM0 : (newM K d s (.slice none 0 0)).used = 0 := rfl
  have hX : effP P cl n K d s = if P.en cl.kind.toNat = -1 then ⟨0, n, K, d, s, 0, fun _ => undef, 0⟩ else if (runOf P cl K d s).1 ≠ 0 then ⟨(runOf P cl K d s).1, n, K, d, s, 0, fun _ => undef, (runOf P cl K d s).2.used⟩ else ⟨0, n, (runOf P cl K d s).2.wd, (runOf P cl K d s).2.dice, (runOf P cl K d s).2.sent, (runOf P cl K d s).2.on, (runOf P cl K d s).2.oF, (runOf P cl K d s).2.used⟩ := by
    unfold effP
    rw [if_neg (by rw [hz]; simp), if_neg (by rw [hf]; simp)]
  have hY : effP P { cl with fuel := f } n K d s = if P.en cl.kind.toNat = -1 then ⟨0, n, K, d, s, 0, fun _ => undef, 0⟩ else if (runOf P { cl with fuel := f } K d s).1 ≠ 0 then ⟨(runOf P { cl with fuel := f } K d s).1, n, K, d, s, 0, fun _ => undef, (runOf P { cl with fuel := f } K d s).2.used⟩ else ⟨0, n, (runOf P { cl with fuel := f } K d s).2.wd, (runOf P { cl with fuel := f } K d s).2.dice, (runOf P { cl with fuel := f } K d s).2.sent, (runOf P { cl with fuel := f } K d s).2.on, (runOf P { cl with fuel := f } K d s).2.oF, (runOf P { cl with fuel := f } K d s).2.used⟩ := by
    unfold effP
    rw [if_neg (by rw [hz]; simp), if_neg (by rw [hf2]; simp)]
  by_cases hen : P.en cl.kind.toNat = -1
  · rw [if_pos hen] at hX hY
    rw [hX, hY]
  · rw [if_neg hen] at hX hY
    have hu := (runP_used P cl cl.fuel.toNat (P.en cl.kind.toNat).toNat (newM K d s (.slice none 0 0))).2.1
    have h200 : (runOf P cl K d s).1 ≠ 200 := fun e => by
      rw [if_pos (by rw [e]; decide)] at hX
      rw [hX] at hne
      exact hne e
    have hm := runP_more P cl cl.fuel.toNat (P.en cl.kind.toNat).toNat (newM K d s (.slice none 0 0)) f.toNat (by rw [← hR]; exact h200) (by rw [hM0] at hu ⊢; omega)
    rw [← hR2, ← hR] at hm
    rw [hm] at hY
    rw [hX, hY]
theorem effA_fuel {p : Pl} {A : Ab} {e : Se} {f : Int} (hF : FitE p A e) (hle : p.fu ≤ f) (hff : f ≤ 4096) (hne : (effA p A e).code ≠ 200) : effA (fuA p f) A e = effA p A e :=
  eff_fuel (cl := clA p e) hF.z hF.fits hle hff hne
theorem nextA_eff {p q : Pl} {A : Ab} {x : Se} (h : effA q A x = effA p A x) : nextA q A x = nextA p A x := by
  unfold nextA
  rw [h]
theorem StepsR.fuel {p : Pl} (hp : PlOk p) {f : Int} (hle : p.fu ≤ f) (hff : f ≤ 4096) {A : Ab} (ha : AOk2 p A) {n : Nat} {B : Ab} (h : StepsR p A n B) : StepsR (fuA p f) A n B := by
  induction h with
  | zero => exact .zero
  | more h1 h2 ih =>
    obtain ⟨ho, hl, hc, rfl⟩ := h2.zero
    rename_i n B x
    have hF := fitE hp (steps_ok hp ha h1) hl.1
    have he := effA_fuel hF hle hff (by rw [hc]; decide)
    refine ih.more (x := x) (.inr ⟨ho, x, hl, .inr ⟨by rw [he]; exact hc, rfl, rfl, (nextA_eff he).symm⟩⟩)
/-- more fuel, where none was used up -/
theorem fuel_end {p : Pl} (hp : PlOk p) {f : Int} (hle : p.fu ≤ f) (hff : f ≤ 4096) {C : Ab} {k cd : Int} {x : Se} (h : EndR p (fstA p) C) (hr : ResK p C k cd x) (hne : ¬ (k = 3 ∧ cd = 200)) : EndR (fuA p f) (fstA (fuA p f)) C ∧ ResK (fuA p f) C k cd x := by
  refine ⟨?_, hr⟩
  obtain ⟨n, B, y, c, h1, h2, h3⟩ := h
  have hs := h1.fuel hp hle hff (fst_ok hp)
  have hf := steps_f (show (fstA p).f = 0 from rfl) h1
  rcases h2 with ⟨ho, rfl, rfl, rfl⟩ | ⟨ho, z, hz, ⟨e1, e2, rfl, rfl⟩ | ⟨_, e, _⟩⟩
  · exact ⟨n, C, _, 128, hs, .inl ⟨ho, rfl, rfl, rfl⟩, by decide⟩
  · have hF := fitE hp (steps_ok hp (fst_ok hp) h1) hz.1
    have hn2 : (effA p B z).code ≠ 200 := fun e => by
      rcases hr with ⟨a, b, c9, _⟩ | ⟨a, _⟩
      · exact hne ⟨b, c9.trans e⟩
      · exact e1 a
    have he := effA_fuel hF hle hff hn2
    exact ⟨n, B, zeroE, c, hs, .inr ⟨ho, z, hz, .inl ⟨by rw [he]; exact e1, by rw [he]; exact e2, rfl, by rw [he]⟩⟩, h3⟩
  · exact absurd e h3
theorem fuA_ok {p : Pl} (h : PlOk p) {f : Int} (hle : p.fu ≤ f) (hff : f ≤ 4096) : PlOk (fuA p f) := ⟨h.ki, h.gp, h.gt, h.gs, h.lk, h.bu, ⟨by have := h.fu; show 1 ≤ f; omega, hff⟩, h.a64, h.k64, h.s64⟩
theorem fuA_vc {p : Pl} {f c : Int} (h1 : 1 ≤ p.fu) (hle : p.fu ≤ f) (hff : f ≤ 4096) (h : VC p c) : VC (fuA p f) c := by
  have e1 : (p.fu < 1 ∨ 4096 < p.fu) ↔ False := ⟨fun e => by omega, False.elim⟩
  have e2 : ((fuA p f).fu < 1 ∨ 4096 < (fuA p f).fu) ↔ False := ⟨fun e => by have e' : f < 1 ∨ 4096 < f := e; omega, False.elim⟩
  unfold VC at h ⊢
  rw [e1] at h
  rw [e2]
  exact h
/-! ### two starts change places -/
def swS (S : Nat → St) (i : Nat) : Nat → St := fun j => if j = i then S (i + 1) else if j = i + 1 then S i else S j
def swA (p : Pl) (i : Nat) : Pl := { p with S := swS p.S i }
theorem swS_0 (S : Nat → St) (i : Nat) : swS S i i = S (i + 1) := by unfold swS; rw [if_pos rfl]
theorem swS_1 (S : Nat → St) (i : Nat) : swS S i (i + 1) = S i := by unfold swS; rw [if_neg (by omega), if_pos rfl]
theorem swS_2 (S : Nat → St) {i j : Nat} (h0 : j ≠ i) (h1 : j ≠ i + 1) : swS S i j = S j := by unfold swS; rw [if_neg h0, if_neg h1]
theorem sw_cnt (S : Nat → St) (i : Nat) (d : Int) : ∀ n, n ≤ i ∨ i + 2 ≤ n → cntS (swS S i) n d = cntS S n d
  | 0, _ => rfl
  | n + 1, h => by
    by_cases e : n = i + 1
    · subst e
      have h0 := sw_cnt S i d i (.inl (Nat.le_refl _))
      show cntS (swS S i) i d + (if (swS S i i).d = d then 1 else 0) + (if (swS S i (i + 1)).d = d then 1 else 0) = cntS S i d + (if (S i).d = d then 1 else 0) + (if (S (i + 1)).d = d then 1 else 0)
      rw [h0, swS_0, swS_1]
      omega
    · have h0 := sw_cnt S i d n (by omega)
      show cntS (swS S i) n d + (if (swS S i n).d = d then 1 else 0) = cntS S n d + (if (S n).d = d then 1 else 0)
      rw [h0, swS_2 S (by omega) e]
theorem sw_ev0 (S : Nat → St) (i : Nat) (h : (S i).d ≠ (S (i + 1)).d) : evS (swS S i) i = evS S (i + 1) := by
  unfold evS
  rw [swS_0, sw_cnt S i _ i (.inl (Nat.le_refl _))]
  have : cntS S (i + 1) (S (i + 1)).d = cntS S i (S (i + 1)).d := by
    show cntS S i (S (i + 1)).d + (if (S i).d = (S (i + 1)).d then 1 else 0) = _
    rw [if_neg h]
    rfl
  rw [this]
theorem sw_ev1 (S : Nat → St) (i : Nat) (h : (S i).d ≠ (S (i + 1)).d) : evS (swS S i) (i + 1) = evS S i := by
  unfold evS
  rw [swS_1]
  have : cntS (swS S i) (i + 1) (S i).d = cntS S i (S i).d := by
    show cntS (swS S i) i (S i).d + (if (swS S i i).d = (S i).d then 1 else 0) = _
    rw [swS_0, if_neg (fun e => h e.symm), sw_cnt S i _ i (.inl (Nat.le_refl _))]
    rfl
  rw [this]
theorem sw_ev2 (S : Nat → St) {i j : Nat} (h0 : j ≠ i) (h1 : j ≠ i + 1) : evS (swS S i) j = evS S j := by
  unfold evS
  rw [swS_2 S h0 h1, sw_cnt S i _ j (by omega)]
theorem sw_fst {p : Pl} {i : Nat} (hi : i + 1 < p.ns) (h : (p.S i).d ≠ (p.S (i + 1)).d) : fstA (swA p i) = fstA p := by
  have hM : InX p.ns (evS (swS p.S i)) = InX p.ns (evS p.S) := by
    funext x
    apply propext
    constructor
    · rintro ⟨j, hj, rfl⟩
      by_cases e0 : j = i
      · subst e0; exact ⟨j + 1, hi, (sw_ev0 p.S j h).symm⟩
      by_cases e1 : j = i + 1
      · subst e1; exact ⟨i, by omega, (sw_ev1 p.S i h).symm⟩
      exact ⟨j, hj, (sw_ev2 p.S e0 e1).symm⟩
    · rintro ⟨j, hj, rfl⟩
      by_cases e0 : j = i
      · subst e0; exact ⟨j + 1, hi, sw_ev1 p.S j h⟩
      by_cases e1 : j = i + 1
      · subst e1; exact ⟨i, by omega, sw_ev0 p.S i h⟩
      exact ⟨j, hj, sw_ev2 p.S e0 e1⟩
  have hs : (fun j : Nat => ((cntS (swS p.S i) p.ns (j : Int) : Nat) : Int)) = fun j : Nat => ((cntS p.S p.ns (j : Int) : Nat) : Int) := by
    funext j
    rw [sw_cnt p.S i _ p.ns (.inr hi)]
  show (⟨p.K, fun j => dz p.sd j, fun j => (cntS (swS p.S i) p.ns (j : Int) : Nat), InX p.ns (evS (swS p.S i)), 0, fun _ => zeroE, 0⟩ : Ab) = ⟨p.K, fun j => dz p.sd j, fun j => (cntS p.S p.ns (j : Int) : Nat), InX p.ns (evS p.S), 0, fun _ => zeroE, 0⟩
  rw [hM, hs]
theorem StepsR.same {p q : Pl} (h : ∀ A x c B, StepR p A x c B → StepR q A x c B) {A : Ab} {n : Nat} {B : Ab} (hs : StepsR p A n B) : StepsR q A n B := by
  induction hs with
  | zero => exact .zero
  | more h1 h2 ih => exact ih.more (h _ _ _ _ h2)
theorem EndR.same {p q : Pl} (h : ∀ A x c B, StepR p A x c B → StepR q A x c B) {A C : Ab} (he : EndR p A C) : EndR q A C := by
  obtain ⟨n, B, x, c, h1, h2, h3⟩ := he
  exact ⟨n, B, x, c, h1.same h, h _ _ _ _ h2, h3⟩
theorem sw_end {p : Pl} {i : Nat} (hi : i + 1 < p.ns) (h : (p.S i).d ≠ (p.S (i + 1)).d) {C : Ab} {k cd : Int} {x : Se} (he : EndR p (fstA p) C) (hr : ResK p C k cd x) : EndR (swA p i) (fstA (swA p i)) C ∧ ResK (swA p i) C k cd x := by
  rw [sw_fst hi h]
  exact ⟨EndR.same (q := swA p i) (fun A x c B (h9 : StepR p A x c B) => (show StepR (swA p i) A x c B from h9)) he, hr⟩
theorem sw_all {P : St → Prop} {S : Nat → St} {n i : Nat} (hi : i + 1 < n) : (∀ j, j < n → P (swS S i j)) ↔ ∀ j, j < n → P (S j) := by
  constructor
  · intro h j hj
    by_cases e0 : j = i
    · subst e0; have := h (j + 1) hi; rwa [swS_1] at this
    by_cases e1 : j = i + 1
    · subst e1; have := h i (by omega); rwa [swS_0] at this
    have := h j hj
    rwa [swS_2 S e0 e1] at this
  · intro h j hj
    by_cases e0 : j = i
    · subst e0; rw [swS_0]; exact h _ hi
    by_cases e1 : j = i + 1
    · subst e1; rw [swS_1]; exact h _ (by omega)
    rw [swS_2 S e0 e1]
    exact h j hj
theorem sw_gs {p : Pl} {i : Nat} (hi : i + 1 < p.ns) : GS (swA p i) ↔ GS p := by
  show (p.ns ≤ 256 ∧ ∀ j, j < p.ns → ((0 ≤ (swS p.S i j).d ∧ (swS p.S i j).d < (p.nq : Int)) ∧ 0 ≤ (swS p.S i j).k ∧ (swS p.S i j).k < p.ki)) ↔ (p.ns ≤ 256 ∧ ∀ j, j < p.ns → ((0 ≤ (p.S j).d ∧ (p.S j).d < (p.nq : Int)) ∧ 0 ≤ (p.S j).k ∧ (p.S j).k < p.ki))
  rw [sw_all (P := fun s => (0 ≤ s.d ∧ s.d < (p.nq : Int)) ∧ 0 ≤ s.k ∧ s.k < p.ki) hi]
theorem sw_vc {p : Pl} {i : Nat} (hi : i + 1 < p.ns) {c : Int} (h : VC p c) : VC (swA p i) c := by
  unfold VC at h ⊢
  rw [sw_gs hi]
  exact h
theorem sw_ok {p : Pl} {i : Nat} (hi : i + 1 < p.ns) (h : PlOk p) : PlOk (swA p i) := ⟨h.ki, h.gp, h.gt, (sw_gs hi).2 h.gs, h.lk, h.bu, h.fu, h.a64, h.k64, (sw_all (P := fun s => u64ok s.t ∧ In64 s.v) hi).2 h.s64⟩
end Go.Proofs.YtagchghhpggnlaaGreat
