import Derived.Test.YtjfefjlajgpkaaaOR2
import Derived.Test.YtjfefjlajgpkaaaA4
namespace Go.Proofs.Ytjfefjlajgpkaaa
open Go.ChangeShapes Go.WideShapes Go.ChangeAt Go.RowKit
set_option linter.unusedVariables false
set_option linter.unusedSimpArgs false

theorem infoLT : (Try.prog.info? 23).map (fun i => (i.zero, i.size, i.bytes)) = some (some (.slice none 0 0), 1, 24) := by kernel_rfl
theorem own_typ {W : World} {b b' : Nat} {t u : TypeId} {s s' : Nat} {v v' : Value} {m m' : Nat} {F F' : Nat → Value} (h : Own W b t s v m F) (h' : Own W b' u s' v' m' F') (hne : t ≠ u) (g : Nat) (e : v.ownBlock = some g) : v'.ownBlock ≠ some g := fun e' => by
  obtain ⟨_, _, cur, h1⟩ := h.kind e
  obtain ⟨_, _, cur', h2⟩ := h'.kind e'
  rw [h1] at h2
  injection h2 with h2
  injection h2 with _ h3 _
  exact hne h3
def rmF (Y : Nat → LsP) (G : Nat → Nat) (j : Nat) : Value := .slice (some ⟨G j, 0, none⟩) ((Y j).n + 3) ((Y j).n + 3)
def gvF (Y : Nat → LsP) (G : Nat → Nat) (j : Nat) : Value := .slice (some ⟨G j, 0, none⟩) (Y j).n ((Y j).n + 3)
/-- the lists with room, as they lie -/
structure RI (w wr : World) (Y : Nat → LsP) (k kr kg : Nat) (G : Nat → Nat) (rv gv : Value) : Prop where
  rooms : Own wr w.heap.size 23 1 rv kr (rmF Y G)
  given : Own wr w.heap.size 23 1 gv kg (gvF Y G)
  apart : ∀ g, rv.ownBlock = some g → gv.ownBlock ≠ some g
  rows : ∀ j, j < k → SRow wr w.heap.size (G j) ((Y j).n + 3) ((Y j).n + 3) (rX (Y j).X (Y j).n ((Y j).n + 3))
  bel : Below w.heap.size w wr
variable {w wr w' : World} {Y : Nat → LsP} {k kr kg : Nat} {G : Nat → Nat} {rv gv : Value}
theorem RI.zero : RI w w Y 0 0 0 G (.slice none 0 0) (.slice none 0 0) := ⟨World.ownsRow_nil _ _ _ _, World.ownsRow_nil _ _ _ _, fun g e => (by cases e), fun j hj => absurd hj (Nat.not_lt_zero _), Below.refl _ _⟩
theorem RI.later (h : RI w wr Y k kr kg G rv gv) (hb : Below wr.heap.size wr w') : RI w w' Y k kr kg G rv gv :=
  ⟨Own.later h.rooms hb, Own.later h.given hb, h.apart, fun j hj => SRow.later (h.rows j hj) hb, h.bel.trans (hb.mono h.bel.size)⟩
theorem RI.row (h : RI w wr Y k k k G rv gv) (hb : Below wr.heap.size wr w') (hr : SRow w' wr.heap.size wr.heap.size ((Y k).n + 3) ((Y k).n + 3) (rX (Y k).X (Y k).n ((Y k).n + 3))) : RI w w' Y (k + 1) k k (ext G k wr.heap.size) rv gv := by
  have h1 := h.later hb
  refine ⟨Own.congr h1.rooms fun j hj => ?_, Own.congr h1.given fun j hj => ?_, h1.apart, fun j hj => ?_, h1.bel⟩
  · unfold rmF
    rw [ext_ne _ _ _ (by omega)]
  · unfold gvF
    rw [ext_ne _ _ _ (by omega)]
  · by_cases e : j = k
    · rw [e, ext_at]
      exact Own.lower hr h.bel.size
    · rw [ext_ne _ _ _ e]
      exact h1.rows j (by omega)
theorem RI.pushR (h : RI w wr Y k kr kg G rv gv) {rv' : Value} (ho : Own w' w.heap.size 23 1 rv' (kr + 1) (rmF Y G)) (hg : wr.grownBy w' rv.ownBlock) (hn : rv'.ownBlock = rv.ownBlock ∨ rv'.ownBlock = some wr.heap.size) : RI w w' Y k (kr + 1) kg G rv' gv := by
  refine ⟨ho, h.given.grown hg fun g e e' => h.apart g e' e, fun g e e' => ?_, fun j hj => Own.grown (h.rows j hj) hg fun g e e' => own_typ (h.rows j hj) h.rooms neT g e e', h.bel.grown hg h.bel.size fun r e => (Own.lt h.rooms r e).1⟩
  have hl := (Own.lt h.given g e').2
  rcases hn with hn | hn
  · rw [hn] at e
    exact h.apart g e e'
  · rw [hn] at e
    injection e with e
    omega
theorem RI.pushG (h : RI w wr Y k kr kg G rv gv) {gv' : Value} (ho : Own w' w.heap.size 23 1 gv' (kg + 1) (gvF Y G)) (hg : wr.grownBy w' gv.ownBlock) (hn : gv'.ownBlock = gv.ownBlock ∨ gv'.ownBlock = some wr.heap.size) : RI w w' Y k kr (kg + 1) G rv gv' := by
  refine ⟨h.rooms.grown hg fun g e e' => h.apart g e e', ho, fun g e e' => ?_, fun j hj => Own.grown (h.rows j hj) hg fun g e e' => own_typ (h.rows j hj) h.given neT g e e', h.bel.grown hg h.bel.size fun r e => (Own.lt h.given r e).1⟩
  have hl := (Own.lt h.rooms g e).2
  rcases hn with hn | hn
  · rw [hn] at e'
    exact h.apart g e e'
  · rw [hn] at e'
    injection e' with e'
    omega
theorem one_app (F : Nat → Value) (k : Nat) (x : Value) (h : F k = x) : cellsF F (k * 1) ++ [x] = cellsF F ((k + 1) * 1) := by
  have e : [x] = cellsF (fun _ => x) 1 := rfl
  rw [e, cellsF_append, Nat.mul_one, Nat.mul_one]
  refine cellsF_congr fun j hj => ?_
  by_cases h9 : j < k
  · rw [if_pos h9]
  · rw [if_neg h9, ← h, show j = k by omega]
theorem offL_congr {Y Z : Nat → LsP} (h : ∀ j, (Y j).n = (Z j).n) (k : Nat) : offL Y k = offL Z k := by
  induction k with
  | zero => rfl
  | succ k ih => show offL Y k + (Y k).n = offL Z k + (Z k).n; rw [ih, h k]
theorem catL_congr {Y Z : Nat → LsP} (h : ∀ j, (Y j).n = (Z j).n ∧ (Y j).X = (Z j).X) (k : Nat) : catL Y k = catL Z k := by
  induction k with
  | zero => rfl
  | succ k ih => show catS (catL Y k) (Y k).X (offL Y k) = catS (catL Z k) (Z k).X (offL Z k); rw [ih, (h k).2, offL_congr (fun j => (h j).1)]
def gvY (Y : Nat → LsP) (G : Nat → Nat) (j : Nat) : LsP := ⟨some ⟨G j, 0, none⟩, (Y j).n + 3, (Y j).n, (Y j).X⟩
theorem RI.lists (h : RI w wr Y k k k G rv gv) : ∃ gp gc, gv = .slice gp k gc ∧ LsIn wr gp k (gvY Y G) := by
  have hg := h.given
  rcases hg.form with ⟨h1, h2⟩ | ⟨g, c, h1, h2, h3⟩
  · exact ⟨none, 0, by rw [h1, h2], .inl h2, fun j hj => room_sin (h.rows j hj)⟩
  · subst h1
    refine ⟨_, c, rfl, .inr ⟨g, 0, rfl, h3, fun j hj => ?_⟩, fun j hj => room_sin (h.rows j hj)⟩
    rw [Nat.zero_add]
    exact Own.cell hg (j := j) (by omega)
/-- the first list, or none -/
def fsY (Y : Nat → LsP) (k : Nat) : LsP := if k = 0 then ⟨none, 0, 0, fun _ => zeS⟩ else Y 0
theorem fs_in {p : Option Addr} {m : Nat} (h : LsIn w p m Y) : SIn w (fsY Y m).p (fsY Y m).n (fsY Y m).X := by
  unfold fsY
  by_cases e : m = 0
  · rw [if_pos e]
    exact .inl rfl
  · rw [if_neg e]
    exact h.2 0 (by omega)
theorem fs_le (m : Nat) : (fsY Y m).n ≤ offL Y m := by
  unfold fsY
  by_cases e : m = 0
  · rw [if_pos e]
    exact Nat.zero_le _
  · rw [if_neg e]
    have h1 : offL Y 1 ≤ offL Y m := offL_mono Y (by omega)
    have h2 : offL Y 1 = offL Y 0 + (Y 0).n := rfl
    omega
theorem n_le {j m : Nat} (h : j < m) : (Y j).n ≤ offL Y m := by
  have h1 : offL Y (j + 1) ≤ offL Y m := offL_mono Y h
  have h2 : offL Y (j + 1) = offL Y j + (Y j).n := rfl
  omega
end Go.Proofs.Ytjfefjlajgpkaaa
