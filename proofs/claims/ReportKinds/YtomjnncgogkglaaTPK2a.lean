import Derived.Test.YtomjnncgogkglaaTPK1
import Derived.Test.YtomjnncgogkglaaTPR
namespace Go.Proofs.Ytomjnncgogkglaa
open Go.ChangeShapes Go.WideShapes Go.ChangeAt Go.RowKit
set_option linter.unusedVariables false
set_option linter.unusedSimpArgs false

theorem kc_sumK {κ : Nat → Int} {n : Nat} {L : List (Int × Int)} (h : L.Pairwise (fun x y => x.1 ≠ y.1)) (hp : ∀ x ∈ L, 0 < kc κ x.1 n) : L.length ≤ n := by
  induction n generalizing L with
  | zero =>
    cases L with
    | nil => exact Nat.le_refl _
    | cons a l => exact absurd (hp a (by simp)) (Nat.lt_irrefl _)
  | succ n ih =>
    have h1 := ih (L := L.filter fun x => x.1 != κ n) (h.sublist List.filter_sublist) (fun x hx => by
      obtain ⟨h2, h3⟩ := List.mem_filter.1 hx
      have := hp x h2
      rw [kc_no (fun e => by rw [e] at h3; simp at h3)] at this
      exact this)
    have h2 : (L.filter fun x => x.1 == κ n).length ≤ 1 := by
      have hs : (L.filter fun x => x.1 == κ n).Pairwise (fun x y => x.1 ≠ y.1) := h.sublist List.filter_sublist
      have hm : ∀ a ∈ L.filter (fun x => x.1 == κ n), a.1 = κ n := fun a ha => by simpa using (List.mem_filter.1 ha).2
      generalize L.filter (fun x => x.1 == κ n) = Q at hs hm ⊢
      match Q, hs, hm with
      | [], _, _ => exact Nat.zero_le _
      | [a], _, _ => exact Nat.le_refl _
      | a :: b :: l, hs, hm => exact absurd ((hm a (by simp)).trans (hm b (by simp)).symm) ((List.pairwise_cons.1 hs).1 b (by simp))
    have h3 : L.length = (L.filter fun x => x.1 == κ n).length + (L.filter fun x => x.1 != κ n).length := by
      clear h hp h1 h2 ih
      induction L with
      | nil => rfl
      | cons a l ih =>
        by_cases e : a.1 = κ n
        · simp [e] at ih ⊢; omega
        · simp [e] at ih ⊢; omega
    omega
theorem kc_in {κ : Nat → Int} {x : Int} {n : Nat} : 0 < kc κ x (n + 1) ↔ 0 < kc κ x n ∨ x = κ n := by
  by_cases h : κ n = x
  · rw [kc_yes h]
    constructor
    · intro _; exact .inr h.symm
    · intro _; omega
  · rw [kc_no h]
    constructor
    · intro h1; exact .inl h1
    · rintro (h1 | h1)
      · exact h1
      · exact absurd h1.symm h
def kOrd (x y : Int × Int) : Prop := y.2 < x.2 ∨ (x.2 = y.2 ∧ x.1 < y.1)
/-- the kinds told so far: those with more than n events, and of those with n the first j -/
structure RK (κ : Nat → Int) (N : Nat) (K : List Int) (n j : Nat) (M : List (Int × Int)) : Prop where
  pw : M.Pairwise kOrd
  mem : ∀ k c, (k, c) ∈ M ↔ (c = kc κ k N ∧ 0 < kc κ k N ∧ (n < kc κ k N ∨ (kc κ k N = n ∧ k ∈ K.take j)))
theorem RK.start (κ : Nat → Int) (N : Nat) (K : List Int) : RK κ N K N 0 [] := ⟨List.Pairwise.nil, fun k c => by
  have := kc_le κ k N
  simp
  intro _ _
  omega⟩
theorem take_in {K : List Int} {j : Nat} (hj : j < K.length) (k : Int) : k ∈ K.take (j + 1) ↔ k ∈ K.take j ∨ k = itA K j := by
  have e := itA_some hj
  rw [List.getElem?_eq_getElem hj] at e
  injection e with e
  rw [List.take_succ_eq_append_getElem hj, List.mem_append, List.mem_singleton, e]
theorem take_lt {K : List Int} (hr : RisI K) {j : Nat} (hj : j < K.length) : ∀ x ∈ K.take j, x < itA K j := fun x hx => by
  have e := itA_some hj
  rw [List.getElem?_eq_getElem hj] at e
  injection e with e
  have h1 : K = K.take j ++ K.drop j := (List.take_append_drop _ _).symm
  have hr' := hr
  rw [h1] at hr'
  have := (List.pairwise_append.1 hr').2.2 x hx K[j] (by rw [List.drop_eq_getElem_cons hj]; exact List.mem_cons_self)
  rw [e] at this
  exact this
theorem RK.no {κ : Nat → Int} {N : Nat} {K : List Int} {n j : Nat} {M : List (Int × Int)} (h : RK κ N K n j M) (hj : j < K.length) (hc : kc κ (itA K j) N ≠ n) : RK κ N K n (j + 1) M := ⟨h.pw, fun k c => by
  rw [h.mem, take_in hj]
  constructor
  · rintro ⟨h1, h2, h3 | ⟨h3, h4⟩⟩
    · exact ⟨h1, h2, .inl h3⟩
    · exact ⟨h1, h2, .inr ⟨h3, .inl h4⟩⟩
  · rintro ⟨h1, h2, h3 | ⟨h3, h4 | rfl⟩⟩
    · exact ⟨h1, h2, .inl h3⟩
    · exact ⟨h1, h2, .inr ⟨h3, h4⟩⟩
    · exact absurd h3 hc⟩
theorem RK.yes {κ : Nat → Int} {N : Nat} {K : List Int} {n j : Nat} {M : List (Int × Int)} (h : RK κ N K n j M) (hr : RisI K) (hj : j < K.length) (hn : 0 < n) (hc : kc κ (itA K j) N = n) : RK κ N K n (j + 1) (M ++ [(itA K j, (n : Int))]) := by
  refine ⟨List.pairwise_append.2 ⟨h.pw, by simp, fun a ha b hb => ?_⟩, fun k c => ?_⟩
  · rw [List.mem_singleton.1 hb]
    obtain ⟨k, c⟩ := a
    obtain ⟨h1, h2, h3 | ⟨h3, h4⟩⟩ := (h.mem k c).1 ha
    · exact .inl (by show (n : Int) < c; omega)
    · exact .inr ⟨by show c = (n : Int); omega, take_lt hr hj k h4⟩
  · rw [List.mem_append, List.mem_singleton, h.mem, take_in hj, Prod.mk.injEq]
    constructor
    · rintro (⟨h1, h2, h3 | ⟨h3, h4⟩⟩ | ⟨rfl, rfl⟩)
      · exact ⟨h1, h2, .inl h3⟩
      · exact ⟨h1, h2, .inr ⟨h3, .inl h4⟩⟩
      · exact ⟨by rw [hc], by omega, .inr ⟨hc, .inr rfl⟩⟩
    · rintro ⟨h1, h2, h3 | ⟨h3, h4 | rfl⟩⟩
      · exact .inl ⟨h1, h2, .inl h3⟩
      · exact .inl ⟨h1, h2, .inr ⟨h3, h4⟩⟩
      · exact .inr ⟨rfl, by rw [h1, h3]⟩
theorem RK.next {κ : Nat → Int} {N : Nat} {K : List Int} {n : Nat} {M : List (Int × Int)} (h : RK κ N K (n + 1) K.length M) (hK : ∀ x, x ∈ K ↔ 0 < kc κ x N) : RK κ N K n 0 M := ⟨h.pw, fun k c => by
  rw [h.mem, List.take_length]
  have := hK k
  constructor
  · rintro ⟨h1, h2, h3 | ⟨h3, h4⟩⟩
    · exact ⟨h1, h2, .inl (by omega)⟩
    · exact ⟨h1, h2, .inl (by omega)⟩
  · rintro ⟨h1, h2, h3 | ⟨h3, h4⟩⟩
    · rcases Nat.lt_or_ge (n + 1) (kc κ k N) with h5 | h5
      · exact ⟨h1, h2, .inl h5⟩
      · exact ⟨h1, h2, .inr ⟨by omega, this.2 h2⟩⟩
    · simp at h4⟩
theorem RK.nd {κ : Nat → Int} {N : Nat} {K : List Int} {n j : Nat} {M : List (Int × Int)} (h : RK κ N K n j M) : M.Pairwise (fun x y => x.1 ≠ y.1) := by
  have h1 : ∀ x ∈ M, x.2 = kc κ x.1 N := fun x hx => ((h.mem x.1 x.2).1 hx).1
  refine List.Pairwise.imp_of_mem (fun {a b} ha hb hab e => ?_) h.pw
  have e1 := h1 a ha
  have e2 := h1 b hb
  rw [e] at e1
  rcases hab with hab | hab <;> omega
theorem RK.len {κ : Nat → Int} {N : Nat} {K : List Int} {n j : Nat} {M : List (Int × Int)} (h : RK κ N K n j M) : M.length ≤ N := kc_sumK h.nd (fun x hx => ((h.mem x.1 x.2).1 hx).2.1)
theorem RK.done {κ : Nat → Int} {N : Nat} {K : List Int} {M : List (Int × Int)} (h : RK κ N K 0 0 M) : HM κ N M := ⟨h.nd, fun k c => by
  rw [h.mem]
  constructor
  · rintro ⟨h1, h2, _⟩; exact ⟨h2, h1⟩
  · rintro ⟨h1, h2⟩; exact ⟨h2, h1, .inl h1⟩⟩
end Go.Proofs.Ytomjnncgogkglaa
