import Derived.Handy
namespace Go.Proofs.YtcifdlncbekohaaDoor
set_option linter.unusedVariables false
set_option linter.unusedSimpArgs false

/-! ### stable rearrangements, purely -/
/-- a strict order whose incomparable ones are alike -/
structure SOrd {α : Type} (lt : α → α → Bool) : Prop where
  irr : ∀ x, lt x x = false
  tr : ∀ x y z, lt x y = true → lt y z = true → lt x z = true
  ntr : ∀ x y z, lt x y = false → lt y z = false → lt x z = false
variable {α : Type} {lt : α → α → Bool}
theorem SOrd.asym (h : SOrd lt) {x y : α} (hxy : lt x y = true) : lt y x = false := by
  cases e : lt y x with
  | false => rfl
  | true => have := h.tr _ _ _ hxy e; rw [h.irr] at this; cases this
/-- x < y and y ≤ z -/
theorem SOrd.lt_le (h : SOrd lt) {x y z : α} (h1 : lt x y = true) (h2 : lt z y = false) : lt x z = true := by
  cases e : lt x z with
  | true => rfl
  | false => have := h.ntr _ _ _ e h2; rw [h1] at this; cases this
/-- x ≤ y and y < z -/
theorem SOrd.le_lt (h : SOrd lt) {x y z : α} (h1 : lt y x = false) (h2 : lt y z = true) : lt x z = true := by
  cases e : lt x z with
  | true => rfl
  | false => have := h.ntr _ _ _ h1 e; rw [h2] at this; cases this
/-- c' has what c has, in [a, b) rearranged; what has changed sides was out of order -/
structure SR (lt : α → α → Bool) (a b : Nat) (c c' : Nat → α) (f g : Nat → Nat) : Prop where
  out : ∀ i, ¬ (a ≤ i ∧ i < b) → f i = i
  inr : ∀ i, a ≤ i → i < b → a ≤ f i ∧ f i < b
  li : ∀ i, g (f i) = i
  ri : ∀ i, f (g i) = i
  val : ∀ i, c' i = c (f i)
  st : ∀ i j, i < j → f i < f j ∨ lt (c' i) (c' j) = true
def Stb (lt : α → α → Bool) (a b : Nat) (c c' : Nat → α) : Prop := ∃ f g, SR lt a b c c' f g
theorem Stb.refl (a b : Nat) (c : Nat → α) : Stb lt a b c c := ⟨id, id, fun _ _ => rfl, fun i h1 h2 => ⟨h1, h2⟩, fun _ => rfl, fun _ => rfl, fun _ => rfl, fun _ _ h => .inl h⟩
theorem Stb.trans {a b : Nat} {c d e : Nat → α} (h1 : Stb lt a b c d) (h2 : Stb lt a b d e) : Stb lt a b c e := by
  obtain ⟨f, g, h⟩ := h1
  obtain ⟨p, q, k⟩ := h2
  refine ⟨fun i => f (p i), fun i => q (g i), fun i hi => ?_, fun i x y => ?_, fun i => ?_, fun i => ?_, fun i => ?_, fun i j hij => ?_⟩
  · show f (p i) = i
    rw [k.out i hi, h.out i hi]
  · have := k.inr i x y
    exact h.inr _ this.1 this.2
  · show q (g (f (p i))) = i
    rw [h.li, k.li]
  · show f (p (q (g i))) = i
    rw [k.ri, h.ri]
  · rw [k.val, h.val]
  · show f (p i) < f (p j) ∨ _
    by_cases hp : p i < p j
    · rcases h.st (p i) (p j) hp with x | x
      · exact .inl x
      · right; rw [k.val i, k.val j]; exact x
    · rcases k.st i j hij with x | x
      · exact absurd x hp
      · exact .inr x
theorem Stb.widen {a b a' b' : Nat} {c d : Nat → α} (h : Stb lt a b c d) (ha : a' ≤ a) (hb : b ≤ b') : Stb lt a' b' c d := by
  obtain ⟨f, g, h⟩ := h
  refine ⟨f, g, fun i hi => h.out i (fun x => hi ⟨by omega, by omega⟩), fun i x y => ?_, h.li, h.ri, h.val, h.st⟩
  by_cases e : a ≤ i ∧ i < b
  · have := h.inr i e.1 e.2
    omega
  · rw [h.out i e]
    exact ⟨x, y⟩
theorem Stb.same {a b : Nat} {c d : Nat → α} (h : Stb lt a b c d) {i : Nat} (hi : ¬ (a ≤ i ∧ i < b)) : d i = c i := by
  obtain ⟨f, g, h⟩ := h
  rw [h.val, h.out i hi]
/-- what lies in [a, b) comes out of [a, b) -/
theorem Stb.from {a b : Nat} {c d : Nat → α} (h : Stb lt a b c d) {i : Nat} (h1 : a ≤ i) (h2 : i < b) : ∃ j, a ≤ j ∧ j < b ∧ d i = c j := by
  obtain ⟨f, g, h⟩ := h
  exact ⟨f i, (h.inr i h1 h2).1, (h.inr i h1 h2).2, h.val i⟩
/-- two neighbours -/
def swp (c : Nat → α) (i j : Nat) : Nat → α := fun k => if k = i then c j else if k = j then c i else c k
theorem Stb.swap {a b : Nat} (c : Nat → α) (k : Nat) (h1 : a ≤ k) (h2 : k + 1 < b) (hlt : lt (c (k + 1)) (c k) = true) : Stb lt a b c (swp c k (k + 1)) := by
  let f : Nat → Nat := fun i => if i = k then k + 1 else if i = k + 1 then k else i
  have hf : ∀ i, f i = if i = k then k + 1 else if i = k + 1 then k else i := fun _ => rfl
  have inv : ∀ i, f (f i) = i := fun i => by
    rw [hf, hf]
    by_cases e1 : i = k
    · simp [e1]
    · by_cases e2 : i = k + 1
      · simp [e2]
      · simp [e1, e2]
  refine ⟨f, f, fun i hi => ?_, fun i x y => ?_, inv, inv, fun i => ?_, fun i j hij => ?_⟩
  · rw [hf, if_neg (by omega), if_neg (by omega)]
  · rw [hf]
    split
    · omega
    · split <;> omega
  · unfold swp
    rw [hf]
    split
    · rfl
    · split <;> rfl
  · rw [hf, hf]
    by_cases e1 : i = k
    · by_cases e2 : j = k + 1
      · right
        unfold swp
        rw [if_pos e1, e2, if_neg (by omega), if_pos rfl]
        exact hlt
      · left
        rw [if_pos e1, if_neg (by omega), if_neg e2]
        omega
    · left
      rw [if_neg e1]
      by_cases e2 : i = k + 1
      · rw [if_pos e2, if_neg (by omega), if_neg (by omega)]
        omega
      · rw [if_neg e2]
        split
        · omega
        · split <;> omega
/-- two blocks change places -/
def rotF (c : Nat → α) (a m b : Nat) : Nat → α := fun i => if a ≤ i ∧ i < a + (b - m) then c (i + (m - a)) else if a + (b - m) ≤ i ∧ i < b then c (i - (b - m)) else c i
theorem Stb.rot {a m b : Nat} (c : Nat → α) (h1 : a ≤ m) (h2 : m ≤ b) (hlt : ∀ x y, a ≤ x → x < m → m ≤ y → y < b → lt (c y) (c x) = true) : Stb lt a b c (rotF c a m b) := by
  let f : Nat → Nat := fun i => if a ≤ i ∧ i < a + (b - m) then i + (m - a) else if a + (b - m) ≤ i ∧ i < b then i - (b - m) else i
  let g : Nat → Nat := fun i => if a ≤ i ∧ i < m then i + (b - m) else if m ≤ i ∧ i < b then i - (m - a) else i
  have hf : ∀ i, f i = if a ≤ i ∧ i < a + (b - m) then i + (m - a) else if a + (b - m) ≤ i ∧ i < b then i - (b - m) else i := fun _ => rfl
  have hg : ∀ i, g i = if a ≤ i ∧ i < m then i + (b - m) else if m ≤ i ∧ i < b then i - (m - a) else i := fun _ => rfl
  have val : ∀ i, rotF c a m b i = c (f i) := fun i => by
    unfold rotF
    rw [hf]
    split
    · rfl
    · split <;> rfl
  refine ⟨f, g, fun i hi => ?_, fun i x y => ?_, fun i => ?_, fun i => ?_, val, fun i j hij => ?_⟩
  · rw [hf, if_neg (by omega), if_neg (by omega)]
  · rw [hf]
    split
    · omega
    · split <;> omega
  · rw [hf]
    split
    · rw [hg, if_neg (by omega), if_pos (by omega)]; omega
    · split
      · rw [hg, if_pos (by omega)]; omega
      · rw [hg, if_neg (by omega), if_neg (by omega)]
  · rw [hg]
    split
    · rw [hf, if_neg (by omega), if_pos (by omega)]; omega
    · split
      · rw [hf, if_pos (by omega)]; omega
      · rw [hf, if_neg (by omega), if_neg (by omega)]
  · by_cases e1 : a ≤ i ∧ i < a + (b - m)
    · by_cases e2 : a + (b - m) ≤ j ∧ j < b
      · right
        rw [val, val, hf, hf, if_pos e1, if_neg (by omega), if_pos e2]
        exact hlt _ _ (by omega) (by omega) (by omega) (by omega)
      · left
        rw [hf, hf, if_pos e1]
        split
        · omega
        · omega
    · left
      rw [hf, hf, if_neg e1]
      split
      · split
        · omega
        · split <;> omega
      · split
        · omega
        · split <;> omega
/-! ### rotate by swapping blocks -/
/-- [x, x+n) and [y, y+n) change places -/
def swpR (c : Nat → α) (x y n : Nat) : Nat → α := fun i => if x ≤ i ∧ i < x + n then c (y + (i - x)) else if y ≤ i ∧ i < y + n then c (x + (i - y)) else c i
theorem swpR_zero (c : Nat → α) (x y : Nat) : swpR c x y 0 = c := by
  funext i
  unfold swpR
  rw [if_neg (by omega), if_neg (by omega)]
theorem swpR_succ (c : Nat → α) (x y n : Nat) (h : x + n < y) : swpR c x y (n + 1) = swp (swpR c x y n) (x + n) (y + n) := by
  funext i
  unfold swp swpR
  by_cases e1 : i = x + n
  · subst e1
    rw [if_pos (by omega), if_pos rfl, if_neg (by omega), if_neg (by omega)]
    congr 1
    omega
  · rw [if_neg e1]
    by_cases e2 : i = y + n
    · subst e2
      rw [if_neg (by omega), if_pos (by omega), if_pos rfl, if_neg (by omega), if_neg (by omega)]
      congr 1
      omega
    · rw [if_neg e2]
      by_cases e3 : x ≤ i ∧ i < x + n
      · rw [if_pos (by omega), if_pos e3]
      · rw [if_neg (by omega), if_neg e3]
        by_cases e4 : y ≤ i ∧ i < y + n
        · rw [if_pos (by omega), if_pos e4]
        · rw [if_neg (by omega), if_neg e4]
theorem rot_gt (c : Nat → α) (m i j : Nat) (hi : i ≤ m) (hj : 0 < j) (h : j < i) : rotF (swpR c (m - i) m j) (m - (i - j)) m (m + j) = rotF c (m - i) m (m + j) := by
  funext k
  have e1 : m + j - m = j := by omega
  have e2 : m - (m - (i - j)) = i - j := by omega
  have e3 : m - (m - i) = i := by omega
  unfold rotF swpR
  rw [e1, e2, e3]
  by_cases a1 : m - i ≤ k ∧ k < m - i + j
  · rw [if_neg (by omega), if_neg (by omega), if_pos a1, if_pos (by omega)]
    congr 1
    omega
  · by_cases a2 : m - (i - j) ≤ k ∧ k < m - (i - j) + j
    · rw [if_pos a2, if_neg (by omega), if_pos (by omega), if_neg a1, if_pos (by omega)]
      congr 1
      omega
    · by_cases a3 : m - (i - j) + j ≤ k ∧ k < m + j
      · rw [if_neg a2, if_pos a3, if_neg (by omega), if_neg (by omega), if_neg a1, if_pos (by omega)]
      · rw [if_neg a2, if_neg a3, if_neg a1, if_neg (by omega), if_neg a1, if_neg (by omega)]
theorem rot_lt (c : Nat → α) (m i j : Nat) (hi : i ≤ m) (h0 : 0 < i) (h : i < j) : rotF (swpR c (m - i) (m + j - i) i) (m - i) m (m + (j - i)) = rotF c (m - i) m (m + j) := by
  funext k
  have e1 : m + (j - i) - m = j - i := by omega
  have e2 : m - (m - i) = i := by omega
  have e3 : m + j - m = j := by omega
  unfold rotF swpR
  rw [e1, e2, e3]
  by_cases a1 : m - i ≤ k ∧ k < m - i + (j - i)
  · rw [if_pos a1, if_neg (by omega), if_neg (by omega), if_pos (by omega)]
  · rw [if_neg a1]
    by_cases a2 : m - i + (j - i) ≤ k ∧ k < m + (j - i)
    · rw [if_pos a2, if_pos (by omega), if_pos (by omega)]
      congr 1
      omega
    · rw [if_neg a2]
      by_cases a3 : m + j - i ≤ k ∧ k < m + j - i + i
      · rw [if_neg (by omega), if_pos a3, if_neg (by omega), if_pos (by omega)]
        congr 1
        omega
      · rw [if_neg (by omega), if_neg a3, if_neg (by omega), if_neg (by omega)]
theorem rot_eq (c : Nat → α) (m i : Nat) (hi : i ≤ m) : swpR c (m - i) m i = rotF c (m - i) m (m + i) := by
  funext k
  have e1 : m + i - m = i := by omega
  have e2 : m - (m - i) = i := by omega
  unfold rotF swpR
  rw [e1, e2]
  by_cases a1 : m - i ≤ k ∧ k < m - i + i
  · rw [if_pos a1, if_pos a1]
    congr 1
    omega
  · rw [if_neg a1, if_neg a1]
    by_cases a2 : m ≤ k ∧ k < m + i
    · rw [if_pos a2, if_pos (by omega)]
      congr 1
      omega
    · rw [if_neg a2, if_neg (by omega)]
end Go.Proofs.YtcifdlncbekohaaDoor
