import Derived.Test.YtnofndpgodledaaSO3
namespace Go.Proofs.Ytnofndpgodledaa
set_option linter.unusedVariables false
set_option linter.unusedSimpArgs false

/-! ### of a sorted stable list the first of each key -/
def sk (x y : Se) : Prop := x.t = y.t ∧ x.s = y.s ∧ x.q = y.q
theorem sk_iff (x y : Se) : sk x y ↔ klt x y = false ∧ klt y x = false := by
  unfold sk
  rw [klt_not, klt_not]
  omega
theorem sk.symm {x y : Se} (h : sk x y) : sk y x := ⟨h.1.symm, h.2.1.symm, h.2.2.symm⟩
def skB (x y : Se) : Bool := decide (x.t = y.t) && decide (x.s = y.s) && decide (x.q = y.q)
theorem skB_iff (x y : Se) : skB x y = true ↔ sk x y := by
  unfold skB sk
  simp [and_assoc]
/-- what is kept of the first i -/
def dl (d : Nat → Se) : Nat → List Se
  | 0 => []
  | i + 1 => dl d i ++ (if i = 0 ∨ skB (d i) (d (i - 1)) = false then [d i] else [])
theorem dl_mem (d : Nat → Se) (n : Nat) (x : Se) : x ∈ dl d n ↔ ∃ i, i < n ∧ x = d i ∧ (i = 0 ∨ skB (d i) (d (i - 1)) = false) := by
  induction n with
  | zero => simp [dl]
  | succ n ih =>
    unfold dl
    rw [List.mem_append, ih]
    constructor
    · rintro (⟨i, h1, h2⟩ | h)
      · exact ⟨i, by omega, h2⟩
      · split at h
        · rename_i hc
          simp at h
          exact ⟨n, by omega, h, hc⟩
        · simp at h
    · rintro ⟨i, h1, h2, h3⟩
      by_cases e : i = n
      · subst e
        right
        rw [if_pos h3]
        simp [h2]
      · exact .inl ⟨i, by omega, h2, h3⟩
/-- it rises -/
theorem dl_rise {n : Nat} {d : Nat → Se} (hs : Srt klt 0 n d) (m : Nat) (hm : m ≤ n) : (dl d m).Pairwise (fun x y => klt x y = true) := by
  induction m with
  | zero => exact List.Pairwise.nil
  | succ m ih =>
    unfold dl
    rw [List.pairwise_append]
    refine ⟨ih (by omega), ?_, ?_⟩
    · split
      · exact List.pairwise_singleton _ _
      · exact List.Pairwise.nil
    · intro x hx y hy
      split at hy
      · rename_i hc
        simp at hy
        subst hy
        obtain ⟨i, h1, rfl, _⟩ := (dl_mem d m x).1 hx
        rcases hc with hc | hc
        · omega
        · have h2 := hs (m - 1) m (Nat.zero_le _) (by omega) (by omega)
          have h3 : klt (d (m - 1)) (d m) = true := by
            cases e : klt (d (m - 1)) (d m) with
            | true => rfl
            | false =>
              have := (skB_iff _ _).2 ((sk_iff _ _).2 ⟨h2, e⟩)
              rw [this] at hc
              cases hc
          exact klt_ord.le_lt (hs.le klt_ord (Nat.zero_le _) (show i ≤ m - 1 by omega) (by omega)) h3
      · simp at hy
/-- it holds just those ahead of which none of their key came in -/
theorem dl_first {n : Nat} {X d : Nat → Se} (hst : Stb klt 0 n X d) (hs : Srt klt 0 n d) (x : Se) : x ∈ dl d n ↔ ∃ j, j < n ∧ x = X j ∧ ∀ k, k < j → ¬ sk (X k) (X j) := by
  obtain ⟨f, g, h⟩ := hst
  rw [dl_mem]
  have gin : ∀ j, j < n → g j < n := fun j hj => by
    by_cases e : g j < n
    · exact e
    · have := h.out (g j) (by omega)
      rw [h.ri] at this
      omega
  constructor
  · rintro ⟨i, h1, rfl, hc⟩
    have hf := (h.inr i (Nat.zero_le _) h1).2
    refine ⟨f i, hf, h.val i, fun k hk hsk => ?_⟩
    have hj : d (g k) = X k := by rw [h.val, h.ri]
    rw [← hj, ← h.val] at hsk
    have hgk := gin k (by omega)
    rcases Nat.lt_trichotomy (g k) i with e | e | e
    · rcases hc with hc | hc
      · omega
      · have a1 := hs.le klt_ord (Nat.zero_le _) (show g k ≤ i - 1 by omega) (by omega)
        have a2 := hs (i - 1) i (Nat.zero_le _) (by omega) h1
        have a3 := (sk_iff _ _).1 hsk
        have a4 := klt_ord.ntr _ _ _ a1 a3.1
        have := (skB_iff _ _).2 ((sk_iff _ _).2 ⟨a2, a4⟩)
        rw [this] at hc
        cases hc
    · have := h.ri k
      rw [e] at this
      omega
    · rcases h.st i (g k) e with y | y
      · rw [h.ri] at y
        omega
      · rw [((sk_iff _ _).1 hsk).2] at y
        cases y
  · rintro ⟨j, hj, rfl, hno⟩
    refine ⟨g j, gin j hj, by rw [h.val, h.ri], ?_⟩
    by_cases e0 : g j = 0
    · exact .inl e0
    · right
      cases e : skB (d (g j)) (d (g j - 1)) with
      | false => rfl
      | true =>
        exfalso
        have hsk := (skB_iff _ _).1 e
        rcases h.st (g j - 1) (g j) (by omega) with y | y
        · rw [h.ri] at y
          refine hno _ y ?_
          have a1 : d (g j - 1) = X (f (g j - 1)) := h.val _
          have a2 : d (g j) = X j := by rw [h.val, h.ri]
          rw [a1, a2] at hsk
          exact hsk.symm
        · rw [((sk_iff _ _).1 hsk).2] at y
          cases y
/-- two rising lists of the same events are one -/
theorem rise_one : ∀ (L M : List Se), L.Pairwise (fun x y => klt x y = true) → M.Pairwise (fun x y => klt x y = true) → (∀ x, x ∈ L ↔ x ∈ M) → L = M
  | [], [], _, _, _ => rfl
  | [], y :: M, _, _, h => by have := (h y).2 (by simp); simp at this
  | x :: L, [], _, _, h => by have := (h x).1 (by simp); simp at this
  | x :: L, y :: M, h1, h2, h => by
    rw [List.pairwise_cons] at h1 h2
    have hxy : x = y := by
      have a1 := (h x).1 (by simp)
      have a2 := (h y).2 (by simp)
      simp at a1 a2
      rcases a1 with a1 | a1
      · exact a1
      · rcases a2 with a2 | a2
        · exact a2.symm
        · have b1 := h2.1 x a1
          have b2 := h1.1 y a2
          rw [klt_ord.asym b1] at b2
          cases b2
    subst hxy
    have hL : ∀ z, z ∈ L ↔ z ∈ M := fun z => by
      constructor
      · intro hz
        have a := (h z).1 (by simp [hz])
        simp at a
        rcases a with a | a
        · have := h1.1 z hz
          rw [a, klt_ord.irr] at this
          cases this
        · exact a
      · intro hz
        have a := (h z).2 (by simp [hz])
        simp at a
        rcases a with a | a
        · have := h2.1 z hz
          rw [a, klt_ord.irr] at this
          cases this
        · exact a
    rw [rise_one L M h1.2 h2.2 hL]
end Go.Proofs.Ytnofndpgodledaa
