import Derived.Test.YtlojkcodndjfbaaY1
namespace Go.Proofs.Ytlojkcodndjfbaa
open Go.ChangeShapes Go.WideShapes Go.ChangeAt Go.RowKit
set_option linter.unusedVariables false

/-! ### the arena as it lies -/
structure Ev where
  t : Int
  s : Int
  q : Int
  d : Int
  k : Int
  v : Int
def ev0 : Ev := ⟨0, 0, 0, 0, 0, 0⟩
structure Ar where
  E : Nat → Ev
  L : Nat → Nat
  R : Nat → Nat
def ndC (e : Ev) (l r : Nat) (x : Nat) : Value :=
  match x with
  | 0 => .int .u64 e.t
  | 1 => .int .i64 e.s
  | 2 => .int .u64 e.q
  | 3 => .int .i64 e.d
  | 4 => .int .i64 e.k
  | 5 => .int .i64 e.v
  | 6 => .int .i64 (l : Int)
  | _ => .int .i64 (r : Int)
def ndF (A : Ar) (x : Nat) : Value := ndC (A.E (x / 8)) (A.L (x / 8)) (A.R (x / 8)) (x % 8)
def qF (qv : Value) (free root size room work : Int) (x : Nat) : Value :=
  match x with
  | 0 => qv
  | 1 => .int .i64 free
  | 2 => .int .i64 root
  | 3 => .int .i64 size
  | 4 => .int .i64 room
  | _ => .int .i64 work
structure QW (W : World) (base qb g c n : Nat) (A : Ar) (free root size room work : Int) : Prop where
  box : Own W base 65 6 (.slice (some ⟨qb, 0, none⟩) 1 1) 1 (qF (.slice (some ⟨g, 0, none⟩) n c) free root size room work)
  row : Own W base 77 8 (.slice (some ⟨g, 0, none⟩) n c) n (ndF A)
  ne : g ≠ qb
/-- all blocks but these stay -/
structure Ch (S : Nat → Prop) (W W' : World) : Prop where
  os : W'.os = W.os
  tape : W'.tape = W.tape
  output : W'.output = W.output
  size : W.heap.size ≤ W'.heap.size
  block : ∀ k, k < W.heap.size → ¬ S k → W'.heap[k]? = W.heap[k]?
theorem Ch.refl (S : Nat → Prop) (W : World) : Ch S W W := ⟨rfl, rfl, rfl, Nat.le_refl _, fun _ _ _ => rfl⟩
theorem Ch.trans {S : Nat → Prop} {a b c : World} (h : Ch S a b) (h' : Ch S b c) : Ch S a c := ⟨h'.os.trans h.os, h'.tape.trans h.tape, h'.output.trans h.output, Nat.le_trans h.size h'.size, fun k hk hs => (h'.block k (Nat.lt_of_lt_of_le hk h.size) hs).trans (h.block k hk hs)⟩
theorem Ch.mono {S S' : Nat → Prop} {a b : World} (h : Ch S a b) (hs : ∀ k, S k → S' k) : Ch S' a b := ⟨h.os, h.tape, h.output, h.size, fun k hk h' => h.block k hk fun e => h' (hs k e)⟩
theorem Ch.set (S : Nat → Prop) (W : World) (b k : Nat) (v : Value) (h : S b) : Ch S W (W.setCell ⟨b, k, none⟩ v) := ⟨rfl, rfl, rfl, by simp [World.setCell], fun j _ hs => Below.heap_setCell _ _ _ _ fun e => hs (by show S j; rw [show j = b from e]; exact h)⟩
theorem Ch.below {S : Nat → Prop} {W W' : World} (h : Below W.heap.size W W') : Ch S W W' := ⟨h.os, h.tape, h.output, h.size, fun k hk _ => h.block k hk⟩
theorem Ch.drew (S : Nat → Prop) (W : World) (n : Nat) : Ch S W (W.drewN n) := Ch.below (below_drewNq _ _ _)
theorem Ch.toBelow {S : Nat → Prop} {W W' : World} {B : Nat} (h : Ch S W W') (hB : B ≤ W.heap.size) (hs : ∀ k, S k → B ≤ k) : Below B W W' := ⟨h.os, h.tape, h.output, h.size, fun k hk => h.block k (by omega) fun e => by have := hs k e; omega⟩
theorem QW.lt {W : World} {base qb g c n : Nat} {A : Ar} {f r s m k : Int} (h : QW W base qb g c n A f r s m k) : (qb < W.heap.size ∧ base ≤ qb) ∧ g < W.heap.size ∧ base ≤ g := ⟨⟨(Own.lt h.box qb rfl).2, (Own.lt h.box qb rfl).1⟩, (Own.lt h.row g rfl).2, (Own.lt h.row g rfl).1⟩
theorem QW.later {W W' : World} {base qb g c n : Nat} {A : Ar} {f r s m k : Int} (h : QW W base qb g c n A f r s m k) (hb : Below W.heap.size W W') : QW W' base qb g c n A f r s m k := ⟨h.box.later hb, h.row.later hb, h.ne⟩
theorem QW.keep {W W' : World} {base qb g c n : Nat} {A : Ar} {f r s m k : Int} (h : QW W base qb g c n A f r s m k) {S : Nat → Prop} (hc : Ch S W W') (h1 : ¬ S qb) (h2 : ¬ S g) : QW W' base qb g c n A f r s m k := ⟨h.box.far fun k e => by cases e; exact hc.block _ h.lt.1.1 h1, h.row.far fun k e => by cases e; exact hc.block _ h.lt.2.1 h2, h.ne⟩
theorem QW.cap {W : World} {base qb g c n : Nat} {A : Ar} {f r s m k : Int} (h : QW W base qb g c n A f r s m k) : n ≤ c ∧ c ≤ maxLen := by
  obtain ⟨cur, _, _, h1, h2, _⟩ := h.row.block
  exact ⟨h1, h2⟩
theorem QW.cells {W : World} {base qb g c n : Nat} {A : Ar} {f r s m k : Int} (h : QW W base qb g c n A f r s m k) : W.cell? ⟨qb, 0, none⟩ = some (.slice (some ⟨g, 0, none⟩) n c) ∧ W.cell? ⟨qb, 1, none⟩ = some (.int .i64 f) ∧ W.cell? ⟨qb, 2, none⟩ = some (.int .i64 r) ∧ W.cell? ⟨qb, 3, none⟩ = some (.int .i64 s) ∧ W.cell? ⟨qb, 4, none⟩ = some (.int .i64 m) ∧ W.cell? ⟨qb, 5, none⟩ = some (.int .i64 k) :=
  ⟨h.box.cell (by decide), h.box.cell (by decide), h.box.cell (by decide), h.box.cell (by decide), h.box.cell (by decide), h.box.cell (by decide)⟩
theorem ndF_at (A : Ar) (p r : Nat) (h : r < 8) : ndF A (p * 8 + r) = ndC (A.E p) (A.L p) (A.R p) r := by
  unfold ndF
  rw [show (p * 8 + r) / 8 = p by omega, show (p * 8 + r) % 8 = r by omega]
theorem QW.nd {W : World} {base qb g c n : Nat} {A : Ar} {f r s m k : Int} (h : QW W base qb g c n A f r s m k) {p : Nat} (hp : p < n) (x : Nat) (hx : x < 8) : W.cell? ⟨g, p * 8 + x, none⟩ = some (ndC (A.E p) (A.L p) (A.R p) x) := by
  rw [h.row.cell (j := p * 8 + x) (by omega), ndF_at _ _ _ hx]
theorem own_frozen {W : World} {base : Nat} {t : TypeId} {s b m c : Nat} {F : Nat → Value} (h : Own W base t s (.slice (some ⟨b, 0, none⟩) m c) m F) (k : Nat) : W.frozen? ⟨b, k, none⟩ = false := by
  obtain ⟨cur, h1, _⟩ := Own.block h
  simp [World.frozen?, h1]
/-- one cell of a row written -/
theorem own_put {W : World} {base : Nat} {t : TypeId} {s b m c : Nat} {F G : Nat → Value} (h : Own W base t s (.slice (some ⟨b, 0, none⟩) m c) m F) (k : Nat) (v : Value) (hv : G k = v) (he : ∀ j, j < m * s → j ≠ k → F j = G j) : Own (W.setCell ⟨b, k, none⟩ v) base t s (.slice (some ⟨b, 0, none⟩) m c) m G := by
  refine Own.congr (Own.put h k [v]) fun j hj => ?_
  unfold putF
  by_cases e : j = k
  · subst e
    rw [if_pos (by simp)]
    simp [hv]
  · rw [if_neg (by simp; omega)]
    exact he j hj e
theorem own_other {W : World} {base : Nat} {t : TypeId} {s b m c : Nat} {F : Nat → Value} (h : Own W base t s (.slice (some ⟨b, 0, none⟩) m c) m F) (b' k : Nat) (v : Value) (hne : b ≠ b') : Own (W.setCell ⟨b', k, none⟩ v) base t s (.slice (some ⟨b, 0, none⟩) m c) m F := h.far fun k e => by cases e; exact Below.heap_setCell _ _ _ _ hne
theorem QW.setR {W : World} {base qb g c n : Nat} {A : Ar} {f r s m k : Int} (h : QW W base qb g c n A f r s m k) (p x : Nat) : QW (W.setCell ⟨g, p * 8 + 7, none⟩ (.int .i64 (x : Int))) base qb g c n { A with R := upd A.R p x } f r s m k := by
  refine ⟨own_other h.box _ _ _ fun e => h.ne e.symm, own_put h.row _ _ ?_ fun j hj hne => ?_, h.ne⟩
  · rw [ndF_at _ _ _ (by decide)]; simp [ndC, upd_at]
  · obtain ⟨i, y, hy, rfl⟩ : ∃ i y, y < 8 ∧ j = i * 8 + y := ⟨j / 8, j % 8, by omega, by omega⟩
    rw [ndF_at _ _ _ hy, ndF_at _ _ _ hy]
    by_cases hi : i = p
    · subst hi
      have : y = 0 ∨ y = 1 ∨ y = 2 ∨ y = 3 ∨ y = 4 ∨ y = 5 ∨ y = 6 := by omega
      rcases this with rfl | rfl | rfl | rfl | rfl | rfl | rfl <;> rfl
    · simp only [upd_ne _ _ hi]
theorem QW.setL {W : World} {base qb g c n : Nat} {A : Ar} {f r s m k : Int} (h : QW W base qb g c n A f r s m k) (p x : Nat) : QW (W.setCell ⟨g, p * 8 + 6, none⟩ (.int .i64 (x : Int))) base qb g c n { A with L := upd A.L p x } f r s m k := by
  refine ⟨own_other h.box _ _ _ fun e => h.ne e.symm, own_put h.row _ _ ?_ fun j hj hne => ?_, h.ne⟩
  · rw [ndF_at _ _ _ (by decide)]; simp [ndC, upd_at]
  · obtain ⟨i, y, hy, rfl⟩ : ∃ i y, y < 8 ∧ j = i * 8 + y := ⟨j / 8, j % 8, by omega, by omega⟩
    rw [ndF_at _ _ _ hy, ndF_at _ _ _ hy]
    by_cases hi : i = p
    · subst hi
      have : y = 0 ∨ y = 1 ∨ y = 2 ∨ y = 3 ∨ y = 4 ∨ y = 5 ∨ y = 7 := by omega
      rcases this with rfl | rfl | rfl | rfl | rfl | rfl | rfl <;> rfl
    · simp only [upd_ne _ _ hi]
theorem QW.setBox {W : World} {base qb g c n : Nat} {A : Ar} {f r s m k : Int} (h : QW W base qb g c n A f r s m k) (x : Nat) (y : Int) (f' r' s' m' k' : Int) (hv : qF (.slice (some ⟨g, 0, none⟩) n c) f' r' s' m' k' x = .int .i64 y) (he : ∀ j, j < 6 → j ≠ x → qF (.slice (some ⟨g, 0, none⟩) n c) f r s m k j = qF (.slice (some ⟨g, 0, none⟩) n c) f' r' s' m' k' j) : QW (W.setCell ⟨qb, x, none⟩ (.int .i64 y)) base qb g c n A f' r' s' m' k' :=
  ⟨own_put h.box _ _ hv fun j hj hne => he j (by omega) hne, own_other h.row _ _ _ h.ne, h.ne⟩
/-! ### the halves -/
def HBx (W : World) (hb : Nat) (r0 r1 l0 l1 : Nat) : Prop := W.heap[hb]? = some (.cells #[.int .i64 (r0 : Int), .int .i64 (r1 : Int), .int .i64 (l0 : Int), .int .i64 (l1 : Int)] 100 (0, 0))
theorem HBx.cells {W : World} {hb r0 r1 l0 l1 : Nat} (h : HBx W hb r0 r1 l0 l1) : W.cell? ⟨hb, 0, none⟩ = some (.int .i64 (r0 : Int)) ∧ W.cell? ⟨hb, 1, none⟩ = some (.int .i64 (r1 : Int)) ∧ W.cell? ⟨hb, 2, none⟩ = some (.int .i64 (l0 : Int)) ∧ W.cell? ⟨hb, 3, none⟩ = some (.int .i64 (l1 : Int)) := by
  unfold HBx at h
  refine ⟨?_, ?_, ?_, ?_⟩
  all_goals (unfold World.cell?; rw [h]; rfl)
theorem HBx.frz {W : World} {hb r0 r1 l0 l1 : Nat} (h : HBx W hb r0 r1 l0 l1) (k : Nat) : W.frozen? ⟨hb, k, none⟩ = false := by
  unfold HBx at h
  simp [World.frozen?, h]
theorem HBx.lt {W : World} {hb r0 r1 l0 l1 : Nat} (h : HBx W hb r0 r1 l0 l1) : hb < W.heap.size := lt_of_block h
def S2 (qb g : Nat) : Nat → Prop := fun k => k = qb ∨ k = g
def S3 (qb g hb : Nat) : Nat → Prop := fun k => k = qb ∨ k = g ∨ k = hb
theorem HBx.keep {W W' : World} {hb r0 r1 l0 l1 : Nat} {S : Nat → Prop} (h : HBx W hb r0 r1 l0 l1) (hc : Ch S W W') (hs : ¬ S hb) : HBx W' hb r0 r1 l0 l1 := (hc.block hb h.lt hs).trans h
theorem HBx.set {W : World} {hb r0 r1 l0 l1 : Nat} (h : HBx W hb r0 r1 l0 l1) (x : Nat) : HBx (W.setCell ⟨hb, 0, none⟩ (.int .i64 (x : Int))) hb x r1 l0 l1 ∧ HBx (W.setCell ⟨hb, 1, none⟩ (.int .i64 (x : Int))) hb r0 x l0 l1 ∧ HBx (W.setCell ⟨hb, 2, none⟩ (.int .i64 (x : Int))) hb r0 r1 x l1 ∧ HBx (W.setCell ⟨hb, 3, none⟩ (.int .i64 (x : Int))) hb r0 r1 l0 x := by
  unfold HBx at h ⊢
  refine ⟨?_, ?_, ?_, ?_⟩
  all_goals (rw [setCell_block _ _ _ _ h]; rfl)
end Go.Proofs.Ytlojkcodndjfbaa
