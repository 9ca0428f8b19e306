import Derived.Test.YtcifdlncbekohaaDoorPEM
import Derived.ChangeOld
namespace Go.Proofs.YtcifdlncbekohaaDoor
open Go.ChangeShapes Go.WideShapes Go.ChangeAt Go.RowKit
set_option linter.unusedVariables false
set_option linter.unusedSimpArgs false

/-! ### how often an event stands in a list, purely -/
def num (P : Nat → Bool) : Nat → Nat
  | 0 => 0
  | n + 1 => num P n + (if P n then 1 else 0)
theorem num_congr {P Q : Nat → Bool} : ∀ {n : Nat}, (∀ i, i < n → P i = Q i) → num P n = num Q n
  | 0, _ => rfl
  | n + 1, h => by
    unfold num
    rw [num_congr (fun i hi => h i (by omega)), h n (by omega)]
theorem num_le (P : Nat → Bool) : ∀ n, num P n ≤ n
  | 0 => Nat.le_refl _
  | n + 1 => by
    unfold num
    have := num_le P n
    split <;> omega
theorem num_rm {Q : Nat → Bool} {j : Nat} (hj : Q j = true) : ∀ {m : Nat}, j < m → num Q m = num (fun i => Q i && !decide (i = j)) m + 1
  | 0, h => absurd h (by omega)
  | m + 1, h => by
    unfold num
    by_cases e : j = m
    · subst e
      rw [num_congr (P := fun i => Q i && !decide (i = j)) (Q := Q) (fun i hi => by
        have : decide (i = j) = false := decide_eq_false (by omega)
        rw [this]; simp), hj]
      simp
    · have hm : decide (m = j) = false := decide_eq_false (fun h => e h.symm)
      rw [num_rm hj (by omega : j < m), hm]
      simp
      omega
theorem num_inj {P : Nat → Bool} {g : Nat → Nat} {m : Nat} : ∀ {n : Nat} {Q : Nat → Bool}, (∀ i, i < n → P i = true → g i < m ∧ Q (g i) = true) → (∀ i j, g i = g j → i = j) → num P n ≤ num Q m
  | 0, _, _, _ => Nat.zero_le _
  | n + 1, Q, h, hi => by
    show num P n + (if P n = true then 1 else 0) ≤ num Q m
    by_cases hp : P n = true
    · obtain ⟨h1, h2⟩ := h n (by omega) hp
      rw [num_rm h2 h1, if_pos hp]
      have := num_inj (P := P) (g := g) (m := m) (n := n) (Q := fun i => Q i && !decide (i = g n)) (fun i hin hpi => by
        obtain ⟨k1, k2⟩ := h i (by omega) hpi
        refine ⟨k1, ?_⟩
        have : decide (g i = g n) = false := decide_eq_false (fun e => by have := hi _ _ e; omega)
        rw [k2, this]; rfl) hi
      omega
    · rw [if_neg hp]
      exact num_inj (fun i hin hpi => h i (by omega) hpi) hi
def seSame (a b : Se) : Bool := decide (a.t = b.t ∧ a.s = b.s ∧ a.q = b.q ∧ a.d = b.d ∧ a.k = b.k ∧ a.v = b.v)
def cnt (X : Nat → Se) (e : Se) (n : Nat) : Nat := num (fun i => seSame (X i) e) n
theorem cnt_zero (X : Nat → Se) (e : Se) : cnt X e 0 = 0 := rfl
theorem cnt_succ (X : Nat → Se) (e : Se) (n : Nat) : cnt X e (n + 1) = cnt X e n + (if seSame (X n) e then 1 else 0) := rfl
theorem cnt_le (X : Nat → Se) (e : Se) (n : Nat) : cnt X e n ≤ n := num_le _ _
theorem cnt_congr {X Y : Nat → Se} {e : Se} {n : Nat} (h : ∀ i, i < n → X i = Y i) : cnt X e n = cnt Y e n := num_congr fun i hi => by rw [h i hi]
theorem cnt_cat (O X : Nat → Se) (e : Se) (n : Nat) : ∀ m, cnt (catS O X n) e (n + m) = cnt O e n + cnt X e m
  | 0 => by
    rw [Nat.add_zero, cnt_zero, Nat.add_zero]
    exact cnt_congr fun i hi => by unfold catS; rw [if_pos hi]
  | m + 1 => by
    rw [show n + (m + 1) = n + m + 1 by omega, cnt_succ, cnt_cat O X e n m, cnt_succ]
    have : catS O X n (n + m) = X m := by unfold catS; rw [if_neg (by omega), show n + m - n = m by omega]
    rw [this]
    omega
def sumC (Y : Nat → LsP) (e : Se) : Nat → Nat
  | 0 => 0
  | k + 1 => sumC Y e k + cnt (Y k).X e (Y k).n
theorem cnt_catL (Y : Nat → LsP) (e : Se) : ∀ m, cnt (catL Y m) e (offL Y m) = sumC Y e m
  | 0 => rfl
  | m + 1 => by
    show cnt (catS (catL Y m) (Y m).X (offL Y m)) e (offL Y m + (Y m).n) = sumC Y e m + _
    rw [cnt_cat, cnt_catL Y e m]
theorem sumC_le (Y : Nat → LsP) (e : Se) : ∀ m, sumC Y e m ≤ offL Y m
  | 0 => Nat.le_refl _
  | m + 1 => by
    have h1 := sumC_le Y e m
    have h2 := cnt_le (Y m).X e (Y m).n
    show sumC Y e m + cnt (Y m).X e (Y m).n ≤ offL Y m + (Y m).n
    omega
theorem cnt_stb {c d : Nat → Se} {n : Nat} (e : Se) (h : Stb klt 0 n c d) : cnt d e n = cnt c e n := by
  obtain ⟨f, g, hs⟩ := h
  have hg : ∀ i, i < n → g i < n := fun i hi => by
    rcases Nat.lt_or_ge (g i) n with h | h
    · exact h
    · have := hs.out (g i) (by omega)
      rw [hs.ri] at this
      omega
  have hfi : ∀ i j, f i = f j → i = j := fun i j h => by rw [← hs.li i, h, hs.li]
  have hgi : ∀ i j, g i = g j → i = j := fun i j h => by rw [← hs.ri i, h, hs.ri]
  refine Nat.le_antisymm ?_ ?_
  · exact num_inj (g := f) (fun i hi hp => ⟨(hs.inr i (Nat.zero_le _) hi).2, by rw [← hs.val]; exact hp⟩) hfi
  · exact num_inj (g := g) (fun i hi hp => ⟨hg i hi, by rw [hs.val, hs.ri]; exact hp⟩) hgi
theorem seSame_refl (e : Se) : seSame e e = true := by simp [seSame]

/-! ### count -/
theorem eql_se (e f : Se) (W : World) : (binOp .eql 36 (.agg #[.int .u64 e.t, .int .i64 e.s, .int .u64 e.q, .int .i64 e.d, .int .i64 e.k, .int .i64 e.v]) (.agg #[.int .u64 f.t, .int .i64 f.s, .int .u64 f.q, .int .i64 f.d, .int .i64 f.k, .int .i64 f.v])).run Tryd.prog W = .ok (.bool (seSame e f)) W := by
  unfold seSame
  by_cases h0 : e.t = f.t
  · have g0 : (e.t == f.t) = true := by simpa using h0
    by_cases h1 : e.s = f.s
    · have g1 : (e.s == f.s) = true := by simpa using h1
      by_cases h2 : e.q = f.q
      · have g2 : (e.q == f.q) = true := by simpa using h2
        by_cases h3 : e.d = f.d
        · have g3 : (e.d == f.d) = true := by simpa using h3
          by_cases h4 : e.k = f.k
          · have g4 : (e.k == f.k) = true := by simpa using h4
            by_cases h5 : e.v = f.v
            · have g5 : (e.v == f.v) = true := by simpa using h5
              go_simp
              try omega
            · have g5 : (e.v == f.v) = false := by simpa using h5
              go_simp
              try omega
          · have g4 : (e.k == f.k) = false := by simpa using h4
            go_simp
            try omega
        · have g3 : (e.d == f.d) = false := by simpa using h3
          go_simp
          try omega
      · have g2 : (e.q == f.q) = false := by simpa using h2
        go_simp
        try omega
    · have g1 : (e.s == f.s) = false := by simpa using h1
      go_simp
      try omega
  · have g0 : (e.t == f.t) = false := by simpa using h0
    go_simp
    try omega
end Go.Proofs.YtcifdlncbekohaaDoor
