import Derived.Test.YtcifdlncbekohaaDoorCmp
import Derived.Test.YtcifdlncbekohaaDoorSO2
import Derived.Test.YtcifdlncbekohaaDoorQ0
import Derived.Deep.RegionLaw
import Derived.Deep.RegionHeld3
import Derived.Deep.Cut
import Derived.Deep.DeepCutAuto
import Derived.Deep.CutBlock
import Derived.Deep.CutRange
import Derived.Handy
namespace Go.Proofs.YtcifdlncbekohaaDoor
open Go.ChangeShapes Go.WideShapes Go.ChangeAt Go.RowKit
set_option linter.unusedVariables false
set_option linter.unusedSimpArgs false

/-! ### events, and the order of their keys -/
structure Se where
  t : Int
  s : Int
  q : Int
  d : Int
  k : Int
  v : Int
def seL (e : Se) : List Value := [.int .u64 e.t, .int .i64 e.s, .int .u64 e.q, .int .i64 e.d, .int .i64 e.k, .int .i64 e.v]
def seC (e : Se) (r : Nat) : Value := (seL e).getD r undef
def seF (c : Nat → Se) (j : Nat) : Value := seC (c (j / 6)) (j % 6)
theorem seF_at (c : Nat → Se) (i r : Nat) (h : r < 6) : seF c (i * 6 + r) = seC (c i) r := by
  unfold seF
  rw [show (i * 6 + r) / 6 = i by omega, show (i * 6 + r) % 6 = r by omega]
def kc (x y : Se) : Int := keyCmp x.t x.s x.q y.t y.s y.q
def klt (x y : Se) : Bool := decide (kc x y < 0)
theorem cmpN_lt (x y : Int) : cmpN x y < 0 ↔ x < y := by unfold cmpN; split <;> (try split) <;> omega
theorem cmpN_z (x y : Int) : cmpN x y = 0 ↔ x = y := by unfold cmpN; split <;> (try split) <;> omega
theorem klt_iff (x y : Se) : klt x y = true ↔ x.t < y.t ∨ (x.t = y.t ∧ (x.s < y.s ∨ (x.s = y.s ∧ x.q < y.q))) := by
  unfold klt kc keyCmp orN
  rw [decide_eq_true_iff]
  have a1 := cmpN_lt x.t y.t
  have a2 := cmpN_z x.t y.t
  have a3 := cmpN_lt x.s y.s
  have a4 := cmpN_z x.s y.s
  have a5 := cmpN_lt x.q y.q
  by_cases h1 : cmpN x.t y.t = 0
  · rw [if_pos h1]
    by_cases h2 : cmpN x.s y.s = 0
    · rw [if_pos h2]; omega
    · rw [if_neg h2]; omega
  · rw [if_neg h1]; omega
theorem klt_not (x y : Se) : klt x y = false ↔ ¬ (x.t < y.t ∨ (x.t = y.t ∧ (x.s < y.s ∨ (x.s = y.s ∧ x.q < y.q)))) := by
  rw [← klt_iff]
  simp
theorem klt_ord : SOrd klt where
  irr x := by rw [klt_not]; omega
  tr x y z h1 h2 := by rw [klt_iff] at *; omega
  ntr x y z h1 h2 := by rw [klt_not] at *; omega
/-! ### a row of events, one's own -/
/-- all blocks but one stay -/
structure Kp (g : Nat) (W W' : World) : Prop where
  os : W'.os = W.os
  tape : W'.tape = W.tape
  output : W'.output = W.output
  size : W.heap.size ≤ W'.heap.size
  block : ∀ k, k < W.heap.size → k ≠ g → W'.heap[k]? = W.heap[k]?
theorem Kp.refl (g : Nat) (W : World) : Kp g W W := ⟨rfl, rfl, rfl, Nat.le_refl _, fun _ _ _ => rfl⟩
theorem Kp.trans {g : Nat} {a b c : World} (h : Kp g a b) (h' : Kp g b c) : Kp g a c := ⟨h'.os.trans h.os, h'.tape.trans h.tape, h'.output.trans h.output, Nat.le_trans h.size h'.size, fun k hk hs => (h'.block k (Nat.lt_of_lt_of_le hk h.size) hs).trans (h.block k hk hs)⟩
theorem Kp.below {g : Nat} {W W' : World} (h : Below W.heap.size W W') : Kp g W W' := ⟨h.os, h.tape, h.output, h.size, fun k hk _ => h.block k hk⟩
theorem Kp.set (g k : Nat) (W : World) (v : Value) : Kp g W (W.setCell ⟨g, k, none⟩ v) := ⟨rfl, rfl, rfl, by simp [World.setCell], fun j _ hs => Below.heap_setCell _ _ _ _ hs⟩
theorem Kp.sets (g o : Nat) (W : World) (vs : List Value) : Kp g W (W.setCells g o vs) := by
  induction vs generalizing W o with
  | nil => exact Kp.refl _ _
  | cons v vs ih => exact (Kp.set g o W v).trans (ih (o + 1) (W.setCell ⟨g, o, none⟩ v))
theorem Kp.toBelow {g B : Nat} {W W' : World} (h : Kp g W W') (h1 : B ≤ W.heap.size) (h2 : B ≤ g) : Below B W W' := ⟨h.os, h.tape, h.output, h.size, fun k hk => h.block k (by omega) (by omega)⟩
theorem drewS (w : World) : Below w.heap.size w w.drew := ⟨rfl, rfl, rfl, Nat.le_refl _, fun _ _ => rfl⟩
def SRow (W : World) (base g n cap : Nat) (c : Nat → Se) : Prop := Own W base 36 6 (.slice (some ⟨g, 0, none⟩) n cap) n (seF c)
variable {W W' : World} {base g n cap : Nat} {c d : Nat → Se}
theorem SRow.congr (h : SRow W base g n cap c) (he : ∀ i, i < n → c i = d i) : SRow W base g n cap d := Own.congr h fun j hj => by
  unfold seF
  rw [he (j / 6) (by omega)]
theorem SRow.later (h : SRow W base g n cap c) (hb : Below W.heap.size W W') : SRow W' base g n cap c := Own.later h hb
theorem SRow.lt (h : SRow W base g n cap c) : base ≤ g ∧ g < W.heap.size := Own.lt h g rfl
theorem SRow.cells (h : SRow W base g n cap c) {i : Nat} (hi : i < n) : W.cell? ⟨g, i * 6, none⟩ = some (.int .u64 (c i).t) ∧ W.cell? ⟨g, i * 6 + 1, none⟩ = some (.int .i64 (c i).s) ∧ W.cell? ⟨g, i * 6 + 2, none⟩ = some (.int .u64 (c i).q) ∧ W.cell? ⟨g, i * 6 + 3, none⟩ = some (.int .i64 (c i).d) ∧ W.cell? ⟨g, i * 6 + 4, none⟩ = some (.int .i64 (c i).k) ∧ W.cell? ⟨g, i * 6 + 5, none⟩ = some (.int .i64 (c i).v) := by
  have hh : ∀ r, r < 6 → W.cell? ⟨g, i * 6 + r, none⟩ = some (seC (c i) r) := fun r hr => by rw [Own.cell h (j := i * 6 + r) (by omega), seF_at _ _ _ hr]
  exact ⟨hh 0 (by decide), hh 1 (by decide), hh 2 (by decide), hh 3 (by decide), hh 4 (by decide), hh 5 (by decide)⟩
theorem SRow.fz (h : SRow W base g n cap c) (k : Nat) : W.frozen? ⟨g, k, none⟩ = false := by
  obtain ⟨cur, h1, _⟩ := Own.block h
  simp [World.frozen?, h1]
def setS {β : Type} (c : Nat → β) (i : Nat) (e : β) : Nat → β := fun j => if j = i then e else c j
theorem SRow.put (h : SRow W base g n cap c) (i : Nat) (e : Se) : SRow (W.setCells g (i * 6) (seL e)) base g n cap (setS c i e) := by
  refine Own.congr (Own.put h (i * 6) (seL e)) fun j hj => ?_
  have hl : (seL e).length = 6 := rfl
  unfold putF
  by_cases x : i * 6 ≤ j ∧ j < i * 6 + (seL e).length
  · rw [if_pos x]
    obtain ⟨r, rfl⟩ : ∃ r, j = i * 6 + r := ⟨j - i * 6, by omega⟩
    rw [seF_at _ _ _ (by omega), show i * 6 + r - i * 6 = r by omega]
    unfold setS
    rw [if_pos rfl]
    rfl
  · rw [if_neg x]
    unfold seF setS
    rw [if_neg (by omega)]
theorem swp_sets (c : Nat → Se) (i j : Nat) : setS (setS c i (c j)) j (c i) = swp c i j := by
  funext k
  unfold setS swp
  by_cases e1 : k = j
  · rw [if_pos e1]
    by_cases e2 : k = i
    · rw [if_pos e2, ← e1, ← e2]
    · rw [if_neg e2, if_pos e1]
  · rw [if_neg e1]
    by_cases e2 : k = i
    · rw [if_pos e2, if_pos e2]
    · rw [if_neg e2, if_neg e2, if_neg e1]
theorem swp_sets' (c : Nat → Se) (i j : Nat) : setS (setS c j (c i)) i (c j) = swp c i j := by
  funext k
  unfold setS swp
  by_cases e1 : k = i
  · rw [if_pos e1]
  · rw [if_neg e1]
set_option maxRecDepth 100000 in
theorem cev_any (x y : Se) (w : World) : Calls Tryd.prog 30 #[.agg #[.int .u64 x.t, .int .i64 x.s, .int .u64 x.q, .int .i64 x.d, .int .i64 x.k, .int .i64 x.v], .agg #[.int .u64 y.t, .int .i64 y.s, .int .u64 y.q, .int .i64 y.d, .int .i64 y.k, .int .i64 y.v]] w fun e w' => e = .returned (.int .i64 (kc x y)) ∧ Below w.heap.size w w' := by
  unfold kc
  have HC := fun w' => compare_any x.t x.s x.q y.t y.s y.q w'
  generalize keyCmp x.t x.s x.q y.t y.s y.q = r at *
  go_enter Tryd.func30, Tryd.ntmps30
  go_wp2_with (go_at_call 9; (with_reducible refine (HC _).mono ?_); rintro e w1 ⟨rfl, hb⟩)
  go_ret
  refine ⟨rfl, Below.trans (b := (w.alloc _).alloc _) ?_ (hb.mono (by simp [World.size_alloc]; omega))⟩
  exact ((Below.refl _ w).alloc (Nat.le_refl _) _).alloc (by simp [World.size_alloc]) _
end Go.Proofs.YtcifdlncbekohaaDoor
