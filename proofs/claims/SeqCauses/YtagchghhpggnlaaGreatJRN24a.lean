import Derived.Test.YtagchghhpggnlaaGreatJSV2
import Derived.Test.YtagchghhpggnlaaGreatJRN7
import Derived.Test.YtagchghhpggnlaaGreatJSO9
import Derived.Test.YtagchghhpggnlaaGreatJRN16
import Derived.Test.YtagchghhpggnlaaGreatJRN13
namespace Go.Proofs.YtagchghhpggnlaaGreat
open Go.ChangeShapes Go.WideShapes Go.ChangeAt Go.RowKit
set_option linter.unusedVariables false
set_option linter.unusedSimpArgs false

theorem VC.some (p : Pl) : ∃ c, VC p c := by
  unfold VC
  by_cases h1 : p.ki < 0 ∨ 32 < p.ki
  · exact ⟨_, .inl ⟨h1, rfl⟩⟩
  by_cases h2 : GP p
  · by_cases h3 : GT p
    · by_cases h4 : GS p
      · by_cases h5 : p.lk = 0
        · exact ⟨_, .inr ⟨h1, .inr ⟨h2, .inr ⟨h3, .inr ⟨h4, .inl ⟨h5, rfl⟩⟩⟩⟩⟩⟩
        by_cases h6 : p.bu < 0 ∨ 4096 < p.bu
        · exact ⟨_, .inr ⟨h1, .inr ⟨h2, .inr ⟨h3, .inr ⟨h4, .inr ⟨h5, .inl ⟨h6, rfl⟩⟩⟩⟩⟩⟩⟩
        by_cases h7 : p.fu < 1 ∨ 4096 < p.fu
        · exact ⟨_, .inr ⟨h1, .inr ⟨h2, .inr ⟨h3, .inr ⟨h4, .inr ⟨h5, .inr ⟨h6, .inl ⟨h7, rfl⟩⟩⟩⟩⟩⟩⟩⟩
        · exact ⟨_, .inr ⟨h1, .inr ⟨h2, .inr ⟨h3, .inr ⟨h4, .inr ⟨h5, .inr ⟨h6, .inr ⟨h7, rfl⟩⟩⟩⟩⟩⟩⟩⟩
      · exact ⟨_, .inr ⟨h1, .inr ⟨h2, .inr ⟨h3, .inl ⟨h4, rfl⟩⟩⟩⟩⟩
    · exact ⟨_, .inr ⟨h1, .inr ⟨h2, .inl ⟨h3, rfl⟩⟩⟩⟩
  · exact ⟨_, .inr ⟨h1, .inl ⟨h2, rfl⟩⟩⟩
theorem SIn.take {W : World} {p : Option Addr} {m k : Nat} {X : Nat → Se} (h : SIn W p m X) (hk : k ≤ m) : SIn W p k X := by
  by_cases h0 : k = 0
  · exact .inl h0
  rcases h with h | ⟨b, o, e, hl, hc⟩
  · omega
  · exact .inr ⟨b, o, e, hl, fun j hj => hc j (by omega)⟩
theorem okVC {p : Pl} (h : PlOk p) : VC p 0 := .inr ⟨by have := h.ki; omega, .inr ⟨h.gp, .inr ⟨h.gt, .inr ⟨h.gs, .inr ⟨by have := h.lk; omega, .inr ⟨by have := h.bu; omega, .inr ⟨by have := h.fu; omega, rfl⟩⟩⟩⟩⟩⟩⟩
end Go.Proofs.YtagchghhpggnlaaGreat
namespace Go.Proofs.YtagchghhpggnlaaGreat
open Go.ChangeShapes Go.WideShapes Go.ChangeAt Go.RowKit
set_option linter.unusedVariables false
set_option linter.unusedSimpArgs false

/-! ### a smaller budget -/
def budA (p : Pl) (b : Int) : Pl := { p with bu := b }
theorem StepsR.bud {p : Pl} {b : Int} {A : Ab} {n : Nat} {B : Ab} (h : StepsR p A n B) (hb : (A.m : Int) + n ≤ b) : StepsR (budA p b) A n B := by
  induction h with
  | zero => exact .zero
  | more h1 h2 ih =>
    rename_i n B C x
    refine (ih (by omega)).more (x := x) ?_
    rcases h2 with ⟨_, e, _⟩ | ⟨ho, y, hy, ⟨e, e', _⟩ | ⟨e1, _, rfl, rfl⟩⟩
    · cases e
    · exact absurd e'.symm e
    · refine .inr ⟨?_, x, hy, .inr ⟨e1, rfl, rfl, rfl⟩⟩
      have hm := h1.m
      rintro (e | e | e)
      · exact ho (.inl e)
      · exact ho (.inr (.inl e))
      · have e9 : b ≤ (B.m : Int) := e
        omega
theorem StepsR.zs {p : Pl} {A : Ab} {n : Nat} {B : Ab} (h : StepsR p A n B) : ∀ i, i < A.m → B.Z i = A.Z i := by
  induction h with
  | zero => exact fun _ _ => rfl
  | more h1 h2 ih =>
    intro i hi
    have hm := h1.m
    rcases h2 with ⟨_, e, _⟩ | ⟨_, y, _, ⟨e, e', _⟩ | ⟨_, _, rfl, rfl⟩⟩
    · cases e
    · exact absurd e'.symm e
    · show setS _ _ _ i = _
      unfold setS
      rw [if_neg (by omega)]
      exact ih i hi
theorem StepsR.cut {p : Pl} {A : Ab} {n : Nat} {B : Ab} (h : StepsR p A n B) : ∀ m, m ≤ n → ∃ B', StepsR p A m B' ∧ ∀ i, i < A.m + m → B.Z i = B'.Z i := by
  induction h with
  | zero =>
    intro m hm
    obtain rfl : m = 0 := by omega
    exact ⟨A, .zero, fun _ _ => rfl⟩
  | more h1 h2 ih =>
    rename_i n B C x
    intro m hm
    by_cases e : m = n + 1
    · subst e
      exact ⟨C, h1.more h2, fun _ _ => rfl⟩
    · obtain ⟨B', hB', hz⟩ := ih m (by omega)
      refine ⟨B', hB', fun i hi => ?_⟩
      have hm1 := h1.m
      have hm2 := hB'.m
      rcases h2 with ⟨_, e, _⟩ | ⟨_, y, _, ⟨e, e', _⟩ | ⟨_, _, rfl, rfl⟩⟩
      · cases e
      · exact absurd e'.symm e
      · show setS _ _ _ i = _
        unfold setS
        rw [if_neg (by omega)]
        exact hz i hi
theorem steps_f {p : Pl} {A : Ab} (ha : A.f = 0) {n : Nat} {B : Ab} (h : StepsR p A n B) : B.f = 0 := by
  induction h with
  | zero => exact ha
  | more k1 k2 ih =>
    rcases k2 with ⟨_, e, _⟩ | ⟨_, y, _, ⟨e, e', _⟩ | ⟨_, _, _, rfl⟩⟩
    · cases e
    · exact absurd e'.symm e
    · exact ih
/-- what a smaller budget comes to -/
theorem bud_end {p : Pl} (hbu : 0 ≤ p.bu) {C C' : Ab} {N : Nat} (h : EndR p (fstA p) C) (h' : EndR (budA p (min p.bu (N : Int))) (fstA p) C') {k cd k' cd' : Int} {x x' : Se} (hr : ResK p C k cd x) (hr' : ResK (budA p (min p.bu (N : Int))) C' k' cd' x') :
    (N < C.m → k' = 2 ∧ C'.m = N ∧ ∀ i, i < N → C'.Z i = C.Z i) ∧
    (N = C.m → k = 3 → k' = 2 ∧ C'.m = C.m ∧ (∀ i, i < C.m → C'.Z i = C.Z i) ∧ C'.K = C.K ∧ C'.d = C.d ∧ C'.s = C.s) ∧
    (C.m ≤ N → (N = C.m → k ≠ 3) → C' = C ∧ k' = k ∧ cd' = cd ∧ x' = x) := by
  obtain ⟨n, B, y, c, h1, h2, h3⟩ := h
  have hm := h1.m
  have hm0 : (fstA p).m = 0 := rfl
  have hf := steps_f (show (fstA p).f = 0 from rfl) h1
  -- C's own place
  have hCm : C.m = n := by
    rcases h2 with ⟨_, _, _, rfl⟩ | ⟨_, z, _, ⟨_, _, _, rfl⟩ | ⟨_, e, _⟩⟩
    · omega
    · show B.m = n; omega
    · exact absurd e h3
  -- a run that the budget cuts at a point that was not over
  have key : ∀ (B' : Ab), StepsR p (fstA p) N B' → N ≤ n → ¬ Over p B' → C' = B' ∧ k' = 2 := fun B' hB hN ho => by
    have hm' := hB.m
    have hf' := steps_f (show (fstA p).f = 0 from rfl) hB
    have hns : ¬ p.bu ≤ (B'.m : Int) := fun e => ho (.inr (.inr e))
    have hmin : min p.bu (N : Int) = N := by omega
    rw [hmin] at h' hr'
    have hsp : Spent (budA p N) B' := (by omega : (N : Int) ≤ (B'.m : Int))
    have he : EndR (budA p N) (fstA p) B' := ⟨N, B', zeroE, 128, hB.bud (by rw [hm0]; omega), .inl ⟨.inr (.inr hsp), rfl, rfl, rfl⟩, by decide⟩
    obtain rfl := h'.one he
    refine ⟨rfl, ?_⟩
    have hni : ¬ Idle (budA p N) C' := fun e => ho (.inr (.inl e))
    exact (hr'.one (.inr ⟨hf', rfl, .inr ⟨hni, .inl ⟨hsp, rfl, rfl⟩⟩⟩)).1
  have pre : ∀ (B' : Ab), StepsR p (fstA p) N B' → N < n → ¬ Over p B' := fun B' hB hN ho => by
    obtain ⟨B1, x1, C1, j1, j2, _⟩ := h1.pre N hN
    obtain rfl := j1.one hB
    rcases j2 with ⟨_, e, _⟩ | ⟨e, _⟩
    · cases e
    · exact e ho
  refine ⟨fun hN => ?_, fun hN hk => ?_, fun hN hk => ?_⟩
  · obtain ⟨B', hB, hz⟩ := h1.cut N (by omega)
    obtain ⟨rfl, hk'⟩ := key B' hB (by omega) (pre B' hB (by omega))
    refine ⟨hk', by have := hB.m; omega, fun i hi => ?_⟩
    have hzz := (hz i (by omega)).symm
    rcases h2 with ⟨_, _, _, rfl⟩ | ⟨_, z, _, ⟨_, _, _, rfl⟩ | ⟨_, e, _⟩⟩
    · exact hzz
    · exact hzz
    · exact absurd e h3
  · have hfa : C.f ≠ 0 := fun e => by
      rcases hr with ⟨a, _⟩ | ⟨_, _, ⟨_, e9, _⟩ | ⟨_, ⟨_, e9, _⟩ | ⟨_, e9, _⟩⟩⟩
      · exact a e
      all_goals (rw [hk] at e9; cases e9)
    rcases h2 with ⟨_, _, _, rfl⟩ | ⟨ho, z, _, ⟨_, _, _, rfl⟩ | ⟨_, e, _⟩⟩
    · exact absurd hf hfa
    · have hNn : N = n := by omega
      subst hNn
      obtain ⟨rfl, hk'⟩ := key B h1 (Nat.le_refl _) ho
      exact ⟨hk', rfl, fun _ _ => rfl, rfl, rfl, rfl⟩
    · exact absurd e h3
  · have hbn : (n : Int) ≤ p.bu := by
      rcases Nat.eq_zero_or_pos n with e | e
      · omega
      · obtain ⟨B1, x1, C1, j1, j2, _⟩ := h1.pre (n - 1) (by omega)
        have := j1.m
        rcases j2 with ⟨_, e, _⟩ | ⟨e, _⟩
        · cases e
        · have : ¬ p.bu ≤ (B1.m : Int) := fun e9 => e (.inr (.inr e9))
          omega
    have hst := h1.bud (b := min p.bu (N : Int)) (by rw [hm0]; omega)
    rcases h2 with ⟨ho, _, _, rfl⟩ | ⟨ho, z, hz, ⟨e1, e2, _, rfl⟩ | ⟨_, e, _⟩⟩
    · have ho' : Over (budA p (min p.bu (N : Int))) C := by
        rcases ho with e | e | e
        · exact .inl e
        · exact .inr (.inl e)
        · exact .inr (.inr (by have e9 : p.bu ≤ (C.m : Int) := e; show min p.bu (N : Int) ≤ (C.m : Int); omega))
      have he : EndR (budA p (min p.bu (N : Int))) (fstA p) C := ⟨n, C, zeroE, 128, hst, .inl ⟨ho', rfl, rfl, rfl⟩, by decide⟩
      obtain rfl := h'.one he
      refine ⟨rfl, ?_⟩
      refine hr'.one ?_
      rcases hr with ⟨a, _⟩ | ⟨a, a2, ⟨a3, a4⟩ | ⟨a3, ⟨a4, a5⟩ | ⟨a4, _⟩⟩⟩
      · exact absurd hf a
      · exact .inr ⟨a, a2, .inl ⟨a3, a4⟩⟩
      · exact .inr ⟨a, a2, .inr ⟨a3, .inl ⟨by have e9 : p.bu ≤ (C'.m : Int) := a4; show min p.bu (N : Int) ≤ (C'.m : Int); omega, a5⟩⟩⟩
      · rcases ho with e | e | e
        · exact absurd hf e
        · exact absurd e a3
        · exact absurd e a4
    · have hkk : k = 3 := by
        rcases hr with ⟨_, e, _⟩ | ⟨a, _⟩
        · exact e
        · exact absurd a e1
      have hNm : n < N := by
        rcases Nat.lt_or_ge n N with e | e
        · exact e
        · exact absurd hkk (hk (by omega))
      have hns : ¬ p.bu ≤ (B.m : Int) := fun e => ho (.inr (.inr e))
      have ho' : ¬ Over (budA p (min p.bu (N : Int))) B := by
        rintro (e | e | e)
        · exact ho (.inl e)
        · exact ho (.inr (.inl e))
        · have e9 : min p.bu (N : Int) ≤ (B.m : Int) := e
          omega
      have he : EndR (budA p (min p.bu (N : Int))) (fstA p) { B with f := (effA p B z).code } := ⟨n, B, zeroE, (effA p B z).code, hst, .inr ⟨ho', z, hz, .inl ⟨e1, rfl, rfl, rfl⟩⟩, e1⟩
      obtain rfl := h'.one he
      refine ⟨rfl, ?_⟩
      refine hr'.one ?_
      rcases hr with ⟨a, a2⟩ | ⟨a, _⟩
      · exact .inl ⟨a, a2⟩
      · exact absurd a e1
    · exact absurd e h3
end Go.Proofs.YtagchghhpggnlaaGreat
