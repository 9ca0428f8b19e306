import Derived.Test.YtlklolmhaiaaiaaKY29
namespace Go.Proofs.Ytlklolmhaiaaiaa
set_option linter.unusedVariables false
set_option linter.unusedSimpArgs false

/-! ### the potential: the product over all nodes of (size and 1) -/
def Tr.pot : Tr → Nat
  | .nil => 1
  | .node l _ r => l.pot * r.pot * (l.size + r.size + 2)
theorem Tr.pot_pos : ∀ t : Tr, 0 < t.pot
  | .nil => Nat.one_pos
  | .node l p r => Nat.mul_pos (Nat.mul_pos (Tr.pot_pos l) (Tr.pot_pos r)) (by omega)
theorem amgm (x y : Nat) : 4 * (x * y) ≤ (x + y) * (x + y) := by
  rcases Nat.le_total x y with h | h
  · obtain ⟨d, rfl⟩ := Nat.exists_eq_add_of_le h
    have h1 : x * (x + d) = x * x + x * d := Nat.mul_add _ _ _
    have h2 : (x + (x + d)) * (x + (x + d)) = 4 * (x * x) + 4 * (x * d) + d * d := by grind
    omega
  · obtain ⟨d, rfl⟩ := Nat.exists_eq_add_of_le h
    have h1 : (y + d) * y = y * y + y * d := by grind
    have h2 : (y + d + y) * (y + d + y) = 4 * (y * y) + 4 * (y * d) + d * d := by grind
    omega
theorem zig1 {u v w x y : Nat} (h1 : u + x = w) (h2 : u ≤ v) (h3 : y ≤ w) : 2 * (u * u) * (x * y) ≤ w * w * (v * w) := by
  have h4 := amgm u x
  rw [h1] at h4
  have h5 : 2 * (u * x) ≤ w * w := by omega
  have h6 : 2 * (u * u) * (x * y) = (2 * (u * x)) * (u * y) := by grind
  rw [h6]
  exact Nat.mul_le_mul h5 (Nat.mul_le_mul h2 h3)
theorem zag1 {u v w x y : Nat} (h1 : x + y ≤ w + 1) (h2 : u + 1 ≤ v) (h3 : u + 2 ≤ w) : 2 * (u * u) * (x * y) ≤ w * w * (v * w) := by
  have h4 := amgm x y
  have h5 : (x + y) * (x + y) ≤ (w + 1) * (w + 1) := Nat.mul_le_mul h1 h1
  have h6 : u * ((w + 1) * (w + 1)) ≤ w * (w * w) := by
    obtain ⟨a, rfl⟩ : ∃ a, w = a + 2 := ⟨w - 2, by omega⟩
    refine Nat.le_trans (Nat.mul_le_mul (show u ≤ a by omega) (Nat.le_refl _)) ?_
    have e1 : a * ((a + 2 + 1) * (a + 2 + 1)) = a * (a * a) + 6 * (a * a) + 9 * a := by grind
    have e2 : (a + 2) * ((a + 2) * (a + 2)) = a * (a * a) + 6 * (a * a) + 12 * a + 8 := by grind
    omega
  have h7 : 4 * (u * u * (x * y)) ≤ u * (u * ((w + 1) * (w + 1))) := by
    have e1 : 4 * (u * u * (x * y)) = u * (u * (4 * (x * y))) := by grind
    rw [e1]
    exact Nat.mul_le_mul (Nat.le_refl _) (Nat.mul_le_mul (Nat.le_refl _) (Nat.le_trans h4 h5))
  have h8 : u * (u * ((w + 1) * (w + 1))) ≤ v * (w * (w * w)) := Nat.mul_le_mul (by omega) h6
  have e2 : w * w * (v * w) = v * (w * (w * w)) := by grind
  have e3 : 2 * (u * u) * (x * y) = 2 * (u * u * (x * y)) := by grind
  omega
/-- one step of the induction: what is gone into has the answers' product x for its product p, its width u -/
theorem pot_step {k k' u w x p z y X P : Nat} (ih : 2 ^ k' * (x * x) ≤ 4 * ((u * u * p) * (u * u * p))) (hk : k ≤ k' + 2) (hX : X = x * z) (hP : P = p * y) (hz : 2 * (u * u) * z ≤ w * w * y) : 2 ^ k * (X * X) ≤ 4 * ((w * w * P) * (w * w * P)) := by
  subst hX hP
  have h1 : 2 ^ k ≤ 4 * 2 ^ k' := by
    have := Nat.pow_le_pow_right (n := 2) (by decide) hk
    rw [Nat.pow_add] at this
    omega
  have h2 : 2 ^ k * (x * z * (x * z)) ≤ 4 * 2 ^ k' * (x * z * (x * z)) := Nat.mul_le_mul h1 (Nat.le_refl _)
  have h3 : 4 * 2 ^ k' * (x * z * (x * z)) = 4 * (2 ^ k' * (x * x)) * (z * z) := by grind
  have h4 : 4 * (2 ^ k' * (x * x)) * (z * z) ≤ 4 * (4 * ((u * u * p) * (u * u * p))) * (z * z) := Nat.mul_le_mul (Nat.mul_le_mul (Nat.le_refl _) ih) (Nat.le_refl _)
  have h5 : 4 * (4 * ((u * u * p) * (u * u * p))) * (z * z) = 4 * ((2 * (u * u) * z * p) * (2 * (u * u) * z * p)) := by grind
  have h6 : 2 * (u * u) * z * p ≤ w * w * (p * y) := by
    have := Nat.mul_le_mul hz (Nat.le_refl p)
    have e : w * w * y * p = w * w * (p * y) := by grind
    omega
  have h7 := Nat.mul_le_mul h6 h6
  omega
/-- where nothing is gone into -/
theorem pot_flat {w X P : Nat} (h1 : X ≤ P) (hw : 0 < w) : ∀ k, k ≤ 1 → 2 ^ k * (X * X) ≤ 4 * ((w * w * P) * (w * w * P)) := fun k hk => by
  have h2 : 2 ^ k ≤ 2 := by
    have := Nat.pow_le_pow_right (n := 2) (by decide) hk
    omega
  have h3 : X * X ≤ P * P := Nat.mul_le_mul h1 h1
  have h4 : 2 ^ k * (X * X) ≤ 2 * (P * P) := Nat.mul_le_mul h2 h3
  have h5 : 1 * P ≤ w * w * P := Nat.mul_le_mul (Nat.mul_pos hw hw) (Nat.le_refl _)
  rw [Nat.one_mul] at h5
  have h6 := Nat.mul_le_mul h5 h5
  omega
theorem open_sizes {sd : Tr → Int} (hs : Side sd) : ∀ (n : Nat) (t : Tr), t.size ≤ n → (openT sd t).a.size + (openT sd t).b.size ≤ t.size
  | n, .nil, _ => by rw [openT_nil]; simp [Tr.size]
  | 0, .node a x b, h => by simp [Tr.size] at h
  | n + 1, .node a x b, hn => by
    simp only [Tr.size] at hn
    rcases hs a x b with h | h | h
    · cases a with
      | nil => rw [openT_l h]; simp [Tr.size]
      | node c y d =>
        simp only [Tr.size] at hn
        rcases hs c y d with h2 | h2 | h2
        · have ih := open_sizes hs n c (by omega)
          rw [openT_ll h h2]; simp only [Tr.size]; omega
        · have ih := open_sizes hs n d (by omega)
          rw [openT_lr h h2]; simp only [Tr.size]; omega
        · rw [openT_lh h h2]; simp only [Tr.size]; omega
    · cases b with
      | nil => rw [openT_r h]; simp [Tr.size]
      | node c y d =>
        simp only [Tr.size] at hn
        rcases hs c y d with h2 | h2 | h2
        · have ih := open_sizes hs n c (by omega)
          rw [openT_rl h h2]; simp only [Tr.size]; omega
        · have ih := open_sizes hs n d (by omega)
          rw [openT_rr h h2]; simp only [Tr.size]; omega
        · rw [openT_rh h h2]; simp only [Tr.size]; omega
    · rw [openT_here h]; simp only [Tr.size]; omega
theorem bit_le (t : Tr) : t.bit ≤ 1 := by cases t <;> simp [Tr.bit]
/-- the balance of one open -/
theorem open_pot {sd : Tr → Int} (hs : Side sd) : ∀ (n : Nat) (t : Tr), t.size ≤ n → 2 ^ (openT sd t).k * (((openT sd t).a.pot * (openT sd t).b.pot) * ((openT sd t).a.pot * (openT sd t).b.pot)) ≤ 4 * (((t.size + 1) * (t.size + 1) * t.pot) * ((t.size + 1) * (t.size + 1) * t.pot))
  | n, .nil, _ => by rw [openT_nil]; simp [Tr.size, Tr.pot]
  | 0, .node a x b, h => by simp [Tr.size] at h
  | n + 1, .node a x b, hn => by
    simp only [Tr.size] at hn
    rcases hs a x b with h | h | h
    · cases a with
      | nil => rw [openT_l h]; exact pot_flat (by simp [Tr.pot]) (by omega) 0 (by omega)
      | node c y d =>
        simp only [Tr.size] at hn
        rcases hs c y d with h2 | h2 | h2
        · have ih := open_pot hs n c (by omega)
          have sz := open_sizes hs n c (by omega)
          have hb := bit_le c
          rw [openT_ll h h2]
          refine pot_step (z := d.pot * b.pot * ((d.size + b.size + 2) * ((openT sd c).b.size + (d.size + b.size + 1) + 2))) (y := d.pot * b.pot * ((c.size + d.size + 2) * (c.size + d.size + 1 + b.size + 2))) ih (by dsimp only; omega) ?_ ?_ ?_
          · simp only [Tr.pot, Tr.size]; grind
          · simp only [Tr.pot, Tr.size]; grind
          · have := zig1 (u := c.size + 1) (x := d.size + b.size + 2) (w := c.size + d.size + b.size + 3) (v := c.size + d.size + 2) (y := (openT sd c).b.size + (d.size + b.size + 1) + 2) (by omega) (by omega) (by omega)
            have h9 := Nat.mul_le_mul (Nat.le_refl (d.pot * b.pot)) this
            simp only [Tr.size]
            grind
        · have ih := open_pot hs n d (by omega)
          have sz := open_sizes hs n d (by omega)
          have hb := bit_le d
          rw [openT_lr h h2]
          refine pot_step (z := c.pot * b.pot * ((c.size + (openT sd d).a.size + 2) * ((openT sd d).b.size + b.size + 2))) (y := c.pot * b.pot * ((c.size + d.size + 2) * (c.size + d.size + 1 + b.size + 2))) ih (by dsimp only; omega) ?_ ?_ ?_
          · simp only [Tr.pot, Tr.size]; grind
          · simp only [Tr.pot, Tr.size]; grind
          · have := zag1 (u := d.size + 1) (x := c.size + (openT sd d).a.size + 2) (w := c.size + d.size + b.size + 3) (v := c.size + d.size + 2) (y := (openT sd d).b.size + b.size + 2) (by omega) (by omega) (by omega)
            have h9 := Nat.mul_le_mul (Nat.le_refl (c.pot * b.pot)) this
            simp only [Tr.size]
            grind
        · rw [openT_lh h h2]
          refine pot_flat ?_ (by omega) 1 (by omega)
          simp only [Tr.pot, Tr.size]
          have h9 : d.size + b.size + 2 ≤ (c.size + d.size + 2) * (c.size + d.size + 1 + b.size + 2) := Nat.le_trans (show d.size + b.size + 2 ≤ 1 * (c.size + d.size + 1 + b.size + 2) by omega) (Nat.mul_le_mul (by omega) (Nat.le_refl _))
          have := Nat.mul_le_mul (Nat.le_refl (c.pot * d.pot * b.pot)) h9
          grind
    · cases b with
      | nil => rw [openT_r h]; exact pot_flat (by simp [Tr.pot]) (by omega) 0 (by omega)
      | node c y d =>
        simp only [Tr.size] at hn
        rcases hs c y d with h2 | h2 | h2
        · have ih := open_pot hs n c (by omega)
          have sz := open_sizes hs n c (by omega)
          have hb := bit_le c
          rw [openT_rl h h2]
          refine pot_step (z := a.pot * d.pot * ((a.size + (openT sd c).a.size + 2) * ((openT sd c).b.size + d.size + 2))) (y := a.pot * d.pot * ((c.size + d.size + 2) * (a.size + (c.size + d.size + 1) + 2))) ih (by dsimp only; omega) ?_ ?_ ?_
          · simp only [Tr.pot, Tr.size]; grind
          · simp only [Tr.pot, Tr.size]; grind
          · have := zag1 (u := c.size + 1) (x := a.size + (openT sd c).a.size + 2) (w := a.size + c.size + d.size + 3) (v := c.size + d.size + 2) (y := (openT sd c).b.size + d.size + 2) (by omega) (by omega) (by omega)
            have h9 := Nat.mul_le_mul (Nat.le_refl (a.pot * d.pot)) this
            simp only [Tr.size]
            grind
        · have ih := open_pot hs n d (by omega)
          have sz := open_sizes hs n d (by omega)
          have hb := bit_le d
          rw [openT_rr h h2]
          refine pot_step (z := a.pot * c.pot * ((a.size + c.size + 2) * (a.size + c.size + 1 + (openT sd d).a.size + 2))) (y := a.pot * c.pot * ((c.size + d.size + 2) * (a.size + (c.size + d.size + 1) + 2))) ih (by dsimp only; omega) ?_ ?_ ?_
          · simp only [Tr.pot, Tr.size]; grind
          · simp only [Tr.pot, Tr.size]; grind
          · have := zig1 (u := d.size + 1) (x := a.size + c.size + 2) (w := a.size + c.size + d.size + 3) (v := c.size + d.size + 2) (y := a.size + c.size + 1 + (openT sd d).a.size + 2) (by omega) (by omega) (by omega)
            have h9 := Nat.mul_le_mul (Nat.le_refl (a.pot * c.pot)) this
            simp only [Tr.size]
            grind
        · rw [openT_rh h h2]
          refine pot_flat ?_ (by omega) 1 (by omega)
          simp only [Tr.pot, Tr.size]
          have h9 : a.size + c.size + 2 ≤ (c.size + d.size + 2) * (a.size + (c.size + d.size + 1) + 2) := Nat.le_trans (show a.size + c.size + 2 ≤ 1 * (a.size + (c.size + d.size + 1) + 2) by omega) (Nat.mul_le_mul (by omega) (Nat.le_refl _))
          have := Nat.mul_le_mul (Nat.le_refl (a.pot * c.pot * d.pot)) h9
          grind
    · rw [openT_here h]
      refine pot_flat ?_ (by omega) 0 (by omega)
      have := Nat.mul_le_mul (Nat.le_refl (a.pot * b.pot)) (show 1 ≤ a.size + b.size + 2 by omega)
      simp only [Tr.pot]
      omega
theorem openL_a : ∀ (n : Nat) (t : Tr), t.size ≤ n → (openT sdL t).a = .nil
  | n, .nil, _ => by rw [openT_nil]
  | 0, .node a x b, h => by simp [Tr.size] at h
  | n + 1, .node a x b, hn => by
    simp only [Tr.size] at hn
    cases a with
    | nil => rw [openT_here (show sdL (.node .nil x b) = 2 from rfl)]
    | node c y d =>
      simp only [Tr.size] at hn
      cases c with
      | nil => rw [openT_lh (show sdL (.node (.node .nil y d) x b) = 0 from rfl) (show sdL (.node .nil y d) = 2 from rfl)]
      | node c1 y1 d1 =>
        rw [openT_ll (show sdL (.node (.node (.node c1 y1 d1) y d) x b) = 0 from rfl) (show sdL (.node (.node c1 y1 d1) y d) = 0 from rfl)]
        exact openL_a n _ (by simp only [Tr.size] at hn ⊢; omega)
theorem openL_size {b : Tr} (hb : b ≠ .nil) : (openT sdL b).b.size + 1 ≤ b.size := by
  have h : ∀ (n : Nat) (t : Tr), t.size ≤ n → t ≠ .nil → (openT sdL t).b.size + 1 ≤ t.size := by
    intro n
    induction n with
    | zero => intro t h1 h2; cases t with
      | nil => exact absurd rfl h2
      | node l p r => simp [Tr.size] at h1
    | succ n ih =>
      intro t hn h2
      cases t with
      | nil => exact absurd rfl h2
      | node a x b =>
        simp only [Tr.size] at hn
        cases a with
        | nil => rw [openT_here (show sdL (.node .nil x b) = 2 from rfl)]; simp only [Tr.size]; omega
        | node c y d =>
          simp only [Tr.size] at hn
          cases c with
          | nil => rw [openT_lh (show sdL (.node (.node .nil y d) x b) = 0 from rfl) (show sdL (.node .nil y d) = 2 from rfl)]; simp only [Tr.size]; omega
          | node c1 y1 d1 =>
            rw [openT_ll (show sdL (.node (.node (.node c1 y1 d1) y d) x b) = 0 from rfl) (show sdL (.node (.node c1 y1 d1) y d) = 0 from rfl)]
            have := ih (.node c1 y1 d1) (by simp only [Tr.size] at hn ⊢; omega) (fun h => nomatch h)
            simp only [Tr.size] at this ⊢
            omega
  exact h b.size b (Nat.le_refl _) hb
/-! ### the share of a call -/
def dig (n : Nat) : Nat := if h : n = 0 then 0 else dig (n / 2) + 1
termination_by n
decreasing_by omega
theorem dig_zero : dig 0 = 0 := by rw [dig]; rfl
theorem dig_pos {n : Nat} (h : n ≠ 0) : dig n = dig (n / 2) + 1 := by rw [dig]; simp [h]
theorem dig_le : ∀ (m n : Nat), n ≤ m → n + 1 ≤ 2 ^ dig n
  | m, 0, _ => by rw [dig_zero]; simp
  | 0, n + 1, h => by omega
  | m + 1, n + 1, h => by
    rw [dig_pos (by omega), Nat.pow_succ]
    have := dig_le m ((n + 1) / 2) (by omega)
    omega
theorem dig_small : ∀ (k n : Nat), n < 2 ^ k → dig n ≤ k
  | k, 0, _ => by rw [dig_zero]; omega
  | 0, n + 1, h => by simp at h
  | k + 1, n + 1, h => by
    rw [dig_pos (by omega)]
    have := dig_small k ((n + 1) / 2) (by rw [Nat.pow_succ] at h; omega)
    omega
def share (n : Nat) : Nat := 6 + 10 * dig n
theorem pow_share (n : Nat) : 64 * (((n + 1) * (n + 1) * ((n + 1) * (n + 1)) * (n + 1)) * ((n + 1) * (n + 1) * ((n + 1) * (n + 1)) * (n + 1))) ≤ 2 ^ share n := by
  have h := dig_le n n (Nat.le_refl _)
  unfold share
  generalize n + 1 = w at *
  have h2 : 2 ^ (6 + 10 * dig n) = 64 * (((2 ^ dig n) * (2 ^ dig n) * ((2 ^ dig n) * (2 ^ dig n)) * (2 ^ dig n)) * ((2 ^ dig n) * (2 ^ dig n) * ((2 ^ dig n) * (2 ^ dig n)) * (2 ^ dig n))) := by
    rw [Nat.pow_add, Nat.mul_comm 10, Nat.pow_mul]
    generalize 2 ^ dig n = v
    grind
  rw [h2]
  have h3 := Nat.mul_le_mul h h
  have h4 := Nat.mul_le_mul (Nat.mul_le_mul h3 h3) h
  exact Nat.mul_le_mul (Nat.le_refl _) (Nat.mul_le_mul h4 h4)
/-- one open and a new root -/
theorem pot_share {k n X P z Y : Nat} (h : 2 ^ k * (X * X) ≤ 4 * (((n + 1) * (n + 1) * P) * ((n + 1) * (n + 1) * P))) (hz : z ≤ n + 2) (hY : Y ≤ X * z) : 2 ^ k * (Y * Y) ≤ 2 ^ share n * (P * P) := by
  refine Nat.le_trans ?_ (Nat.mul_le_mul (pow_share n) (Nat.le_refl (P * P)))
  have hz2 : z ≤ 2 * (n + 1) := by omega
  have hw : 1 ≤ n + 1 := by omega
  generalize n + 1 = w at *
  have h1 : 2 ^ k * (Y * Y) ≤ 2 ^ k * ((X * z) * (X * z)) := Nat.mul_le_mul (Nat.le_refl _) (Nat.mul_le_mul hY hY)
  have h2 : 2 ^ k * ((X * z) * (X * z)) = 2 ^ k * (X * X) * (z * z) := by grind
  have h3 : 2 ^ k * (X * X) * (z * z) ≤ 4 * ((w * w * P) * (w * w * P)) * ((2 * w) * (2 * w)) := Nat.mul_le_mul h (Nat.mul_le_mul hz2 hz2)
  have h4 : 4 * ((w * w * P) * (w * w * P)) * ((2 * w) * (2 * w)) = 16 * (w * w * (w * w) * (w * w)) * (P * P) := by grind
  have h5 : w * w * (w * w) * (w * w) * (1 * 1 * (1 * 1)) ≤ w * w * (w * w) * (w * w) * (w * w * (w * w)) := Nat.mul_le_mul (Nat.le_refl _) (Nat.mul_le_mul (Nat.mul_le_mul hw hw) (Nat.mul_le_mul hw hw))
  have h6 : 64 * ((w * w * (w * w) * w) * (w * w * (w * w) * w)) * (P * P) = 64 * (w * w * (w * w) * (w * w) * (w * w * (w * w))) * (P * P) := by grind
  rw [h6]
  have h7 : 16 * (w * w * (w * w) * (w * w)) ≤ 64 * (w * w * (w * w) * (w * w) * (w * w * (w * w))) := by omega
  have h8 := Nat.mul_le_mul h7 (Nat.le_refl (P * P))
  omega
/-- two opens and a new root -/
theorem pot_join {k k2 n B Bo P A z Y : Nat} (h : 2 ^ k * ((A * B) * (A * B)) ≤ 4 * (((n + 1) * (n + 1) * P) * ((n + 1) * (n + 1) * P))) (h2 : 2 ^ k2 * (Bo * Bo) ≤ 4 * (((n + 1) * (n + 1) * B) * ((n + 1) * (n + 1) * B))) (hz : z ≤ n + 1) (hY : Y ≤ A * Bo * z) : 2 ^ (k + k2) * (Y * Y) ≤ 2 ^ share n * (P * P) := by
  refine Nat.le_trans ?_ (Nat.mul_le_mul (pow_share n) (Nat.le_refl (P * P)))
  generalize n + 1 = w at *
  rw [Nat.pow_add]
  have h1 : 2 ^ k * 2 ^ k2 * (Y * Y) ≤ 2 ^ k * 2 ^ k2 * ((A * Bo * z) * (A * Bo * z)) := Nat.mul_le_mul (Nat.le_refl _) (Nat.mul_le_mul hY hY)
  have e1 : 2 ^ k * 2 ^ k2 * ((A * Bo * z) * (A * Bo * z)) = (2 ^ k2 * (Bo * Bo)) * (2 ^ k * (A * A) * (z * z)) := by grind
  have h3 : (2 ^ k2 * (Bo * Bo)) * (2 ^ k * (A * A) * (z * z)) ≤ 4 * ((w * w * B) * (w * w * B)) * (2 ^ k * (A * A) * (w * w)) := Nat.mul_le_mul h2 (Nat.mul_le_mul (Nat.le_refl _) (Nat.mul_le_mul hz hz))
  have e2 : 4 * ((w * w * B) * (w * w * B)) * (2 ^ k * (A * A) * (w * w)) = 4 * (w * w * (w * w) * (w * w)) * (2 ^ k * ((A * B) * (A * B))) := by grind
  have h4 : 4 * (w * w * (w * w) * (w * w)) * (2 ^ k * ((A * B) * (A * B))) ≤ 4 * (w * w * (w * w) * (w * w)) * (4 * ((w * w * P) * (w * w * P))) := Nat.mul_le_mul (Nat.le_refl _) h
  have e3 : 4 * (w * w * (w * w) * (w * w)) * (4 * ((w * w * P) * (w * w * P))) = 16 * ((w * w * (w * w) * w) * (w * w * (w * w) * w)) * (P * P) := by grind
  have h5 : 16 * ((w * w * (w * w) * w) * (w * w * (w * w) * w)) * (P * P) ≤ 64 * ((w * w * (w * w) * w) * (w * w * (w * w) * w)) * (P * P) := Nat.mul_le_mul (by omega) (Nat.le_refl _)
  omega
/-! ### what each call does to the potential -/
def Tr.pw (t : Tr) : Nat := t.pot * t.pot
theorem Tr.pw_pos (t : Tr) : 0 < t.pw := Nat.mul_pos t.pot_pos t.pot_pos
theorem pot_node {sd : Tr → Int} (hs : Side sd) (t : Tr) (p : Nat) : 2 ^ (openT sd t).k * (Tr.node (openT sd t).a p (openT sd t).b).pw ≤ 2 ^ share t.size * t.pw := by
  have h1 := open_pot hs t.size t (Nat.le_refl _)
  have h2 := open_sizes hs t.size t (Nat.le_refl _)
  exact pot_share h1 (z := (openT sd t).a.size + (openT sd t).b.size + 2) (by omega) (Nat.le_refl _)
theorem pot_left {sd : Tr → Int} (hs : Side sd) (t : Tr) : 2 ^ (openT sd t).k * (openT sd t).a.pw ≤ 2 ^ share t.size * t.pw := by
  refine pot_share (open_pot hs t.size t (Nat.le_refl _)) (z := 1) (by omega) ?_
  have := Nat.mul_le_mul (Nat.le_refl (openT sd t).a.pot) (openT sd t).b.pot_pos
  omega
theorem pot_right {sd : Tr → Int} (hs : Side sd) (t : Tr) : 2 ^ (openT sd t).k * (openT sd t).b.pw ≤ 2 ^ share t.size * t.pw := by
  refine pot_share (open_pot hs t.size t (Nat.le_refl _)) (z := 1) (by omega) ?_
  have := Nat.mul_le_mul (openT sd t).a.pot_pos (Nat.le_refl (openT sd t).b.pot)
  omega
theorem pot_joined {sd : Tr → Int} (hs : Side sd) (t : Tr) : 2 ^ ((openT sd t).k + joinK (openT sd t).a (openT sd t).b) * (joinT (openT sd t).a (openT sd t).b).pw ≤ 2 ^ share t.size * t.pw := by
  by_cases hb : (openT sd t).b = .nil
  · have e : joinT (openT sd t).a (openT sd t).b = (openT sd t).a := by rw [hb]; cases (openT sd t).a <;> rfl
    have e2 : joinK (openT sd t).a (openT sd t).b = 0 := by rw [hb]; cases (openT sd t).a <;> rfl
    rw [e, e2]
    exact pot_left hs t
  · by_cases ha : (openT sd t).a = .nil
    · have e : joinT (openT sd t).a (openT sd t).b = (openT sd t).b := by rw [ha]; cases (openT sd t).b <;> rfl
      have e2 : joinK (openT sd t).a (openT sd t).b = 0 := by rw [ha]; cases (openT sd t).b <;> rfl
      rw [e, e2]
      exact pot_right hs t
    · rw [joinT_pos ha hb, joinK_pos ha hb]
      have h1 := open_pot hs t.size t (Nat.le_refl _)
      have h2 := open_sizes hs t.size t (Nat.le_refl _)
      have h3 := open_pot side_sdL (openT sd t).b.size (openT sd t).b (Nat.le_refl _)
      rw [openL_a _ _ (Nat.le_refl _)] at h3
      have h4 : (openT sdL (openT sd t).b).b.size + 1 ≤ (openT sd t).b.size := openL_size hb
      generalize hO : openT sd t = O at *
      generalize openT sdL O.b = Q at *
      have h5 : 2 ^ Q.k * (Q.b.pot * Q.b.pot) ≤ 4 * (((t.size + 1) * (t.size + 1) * O.b.pot) * ((t.size + 1) * (t.size + 1) * O.b.pot)) := by
        have e : Tr.pot .nil = 1 := rfl
        rw [e, Nat.one_mul] at h3
        refine Nat.le_trans h3 ?_
        have a1 : O.b.size + 1 ≤ t.size + 1 := by omega
        have a2 := Nat.mul_le_mul (Nat.mul_le_mul a1 a1) (Nat.le_refl O.b.pot)
        exact Nat.mul_le_mul (Nat.le_refl _) (Nat.mul_le_mul a2 a2)
      exact pot_join h1 h5 (z := O.a.size + Q.b.size + 2) (by omega) (Nat.le_refl _)
end Go.Proofs.Ytlklolmhaiaaiaa
