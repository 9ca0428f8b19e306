import Derived.Test.YtieanhmkcbcdkaaM23
namespace Go.Proofs.Ytieanhmkcbcdkaa
open Go.ChangeShapes Go.WideShapes Go.ChangeAt Go.RowKit
set_option linter.unusedVariables false

/-! ### programs without jumps -/
theorem ferr_all {f : Nat → Int} : ∀ {k i : Nat}, (∀ j, i ≤ j → j < i + k → f j = 0) → ferr f i k = 0
  | 0, i, _ => rfl
  | k + 1, i, h => by
    unfold ferr
    rw [if_neg (by simpa using h i (by omega) (by omega))]
    exact ferr_all fun j h1 h2 => h j (by omega) (by omega)
structure Straight (P : Pg) (L : Nat → Int) : Prop where
  sz : sizedP P
  ins : ∀ i, i < P.n → insE P i = 0
  en : ∀ j, j < P.m → P.en j = -1 ∨ P.en j = 0
  ex : ∃ j, j < P.m ∧ P.en j = 0
  nj : ∀ i, i < P.n → jmp (P.op i) = false
  last : ends (P.op (P.n - 1)) = true
  mid : ∀ i, i + 1 < P.n → ends (P.op i) = false
  l0 : L 0 = 0
  st : ∀ i, i + 1 < P.n → L (i + 1) = aft P i (L i)
  fn : ∀ i, i < P.n → fine P i (L i)
  pos : 0 < P.n
theorem Straight.dp {P : Pg} {L : Nat → Int} (h : Straight P L) : ∀ i, i < P.n → Dp P i (L i)
  | 0, hi => by
    obtain ⟨j, hj, e⟩ := h.ex
    have := Dp.entry (P := P) j hj (by omega)
    rw [e] at this
    rw [h.l0]
    exact this
  | i + 1, hi => by
    rw [h.st i hi]
    exact .next i _ (h.dp i (by omega)) (by omega) (h.fn i (by omega)) (h.mid i hi)
theorem Straight.rch {P : Pg} {L : Nat → Int} (h : Straight P L) {i : Nat} (hr : Rch P i) : i < P.n := by
  have hp := h.pos
  induction hr with
  | entry j hj h0 => rcases h.en j hj with e | e <;> omega
  | next i hr hi he ih =>
    rcases Nat.lt_or_ge (i + 1) P.n with z | z
    · exact z
    · obtain rfl : i = P.n - 1 := by omega
      rw [h.last] at he
      cases he
  | jump i hr hi hj ih => rw [h.nj i hi] at hj; cases hj
theorem Straight.ok {P : Pg} {L : Nat → Int} (h : Straight P L) : dcode P P.m = 0 := by
  have h1 : ferr (insE P) 0 P.n = 0 := ferr_all fun j _ hj => h.ins j (by omega)
  have h2 : ferr (entE P) 0 P.m = 0 := ferr_all fun j _ hj => by
    unfold entE
    have := h.en j (by omega)
    have := h.pos
    rw [if_pos (by omega)]
  have g := gd_of h1 h2
  have hnr : ¬ Rch P P.n := fun hc => by have := h.rch hc; omega
  refine dcode_5 h.sz h1 h2 hnr (Sol.good (L := L) g hnr ⟨fun i hi _ => h.dp i hi, fun j hj hz => ?_, fun i hi _ => h.fn i hi, fun i hi _ he => ?_, fun i hi _ hj => ?_⟩)
  · rcases h.en j hj with e | e
    · omega
    · rw [e]; exact h.l0
  · rcases Nat.lt_or_ge (i + 1) P.n with z | z
    · exact h.st i z
    · obtain rfl : i = P.n - 1 := by omega
      rw [h.last] at he
      cases he
  · rw [h.nj i hi] at hj; cases hj
end Go.Proofs.Ytieanhmkcbcdkaa
