import Derived.Test.YtkfjcbnhohipgaaSO2
import Derived.Test.YtkfjcbnhohipgaaW0
import Derived.Test.YtkfjcbnhohipgaaA1
import Derived.Deep.RegionLaw
import Derived.Deep.RegionHeld3
import Derived.Deep.Cut
import Derived.Deep.DeepCutAuto
import Derived.Deep.CutBlock
import Derived.Deep.CutRange
import Derived.Handy
namespace Go.Proofs.Ytkfjcbnhohipgaa.ST
open Go.ChangeShapes Go.WideShapes Go.ChangeAt Go.RowKit
set_option linter.unusedVariables false
set_option linter.unusedSimpArgs false
variable {β : Type} {rp : β → Int × Int} {kc : β → β → Int}

def klt (kc : β → β → Int) (x y : β) : Bool := decide (kc x y < 0)
def eF (rp : β → Int × Int) (c : Nat → β) (j : Nat) : Value := if j % 2 = 0 then .int .i64 (rp (c (j / 2))).1 else .int .i64 (rp (c (j / 2))).2
theorem eF_at0 (c : Nat → β) (i : Nat) : eF rp c (i * 2) = .int .i64 (rp (c i)).1 := by
  unfold eF
  rw [show (i * 2) / 2 = i by omega]
  rw [if_pos (by omega)]
theorem eF_at1 (c : Nat → β) (i : Nat) : eF rp c (i * 2 + 1) = .int .i64 (rp (c i)).2 := by
  unfold eF
  rw [show (i * 2 + 1) / 2 = i by omega]
  rw [if_neg (by omega)]
/-- all blocks but one stay -/
structure Kp (g : Nat) (W W' : World) : Prop where
  os : W'.os = W.os
  tape : W'.tape = W.tape
  output : W'.output = W.output
  size : W.heap.size ≤ W'.heap.size
  block : ∀ k, k < W.heap.size → k ≠ g → W'.heap[k]? = W.heap[k]?
theorem Kp.refl (g : Nat) (W : World) : Kp g W W := ⟨rfl, rfl, rfl, Nat.le_refl _, fun _ _ _ => rfl⟩
theorem Kp.trans {g : Nat} {a b c : World} (h : Kp g a b) (h' : Kp g b c) : Kp g a c := ⟨h'.os.trans h.os, h'.tape.trans h.tape, h'.output.trans h.output, Nat.le_trans h.size h'.size, fun k hk hs => (h'.block k (Nat.lt_of_lt_of_le hk h.size) hs).trans (h.block k hk hs)⟩
theorem Kp.below {g : Nat} {W W' : World} (h : Below W.heap.size W W') : Kp g W W' := ⟨h.os, h.tape, h.output, h.size, fun k hk _ => h.block k hk⟩
theorem Kp.set (g k : Nat) (W : World) (v : Value) : Kp g W (W.setCell ⟨g, k, none⟩ v) := ⟨rfl, rfl, rfl, by simp [World.setCell], fun j _ hs => Below.heap_setCell _ _ _ _ hs⟩
theorem Kp.sets (g o : Nat) (W : World) (vs : List Value) : Kp g W (W.setCells g o vs) := by
  induction vs generalizing W o with
  | nil => exact Kp.refl _ _
  | cons v vs ih => exact (Kp.set g o W v).trans (ih (o + 1) (W.setCell ⟨g, o, none⟩ v))
theorem Kp.toBelow {g B : Nat} {W W' : World} (h : Kp g W W') (h1 : B ≤ W.heap.size) (h2 : B ≤ g) : Below B W W' := ⟨h.os, h.tape, h.output, h.size, fun k hk => h.block k (by omega) (by omega)⟩
theorem drewS (w : World) : Below w.heap.size w w.drew := ⟨rfl, rfl, rfl, Nat.le_refl _, fun _ _ => rfl⟩
def SRow (rp : β → Int × Int) (W : World) (base g n cap : Nat) (c : Nat → β) : Prop := Own W base 31 2 (.slice (some ⟨g, 0, none⟩) n cap) n (eF rp c)
variable {W W' : World} {base g n cap : Nat} {c d : Nat → β}
theorem SRow.congr (h : SRow rp W base g n cap c) (he : ∀ i, i < n → c i = d i) : SRow rp W base g n cap d := Own.congr h fun j hj => by
  unfold eF
  rw [he (j / 2) (by omega)]
theorem SRow.later (h : SRow rp W base g n cap c) (hb : Below W.heap.size W W') : SRow rp W' base g n cap c := Own.later h hb
theorem SRow.lt (h : SRow rp W base g n cap c) : base ≤ g ∧ g < W.heap.size := Own.lt h g rfl
theorem SRow.cells (h : SRow rp W base g n cap c) {i : Nat} (hi : i < n) : W.cell? ⟨g, i * 2, none⟩ = some (.int .i64 (rp (c i)).1) ∧ W.cell? ⟨g, i * 2 + 1, none⟩ = some (.int .i64 (rp (c i)).2) :=
  ⟨by rw [Own.cell h (j := i * 2) (by omega), eF_at0], by rw [Own.cell h (j := i * 2 + 1) (by omega), eF_at1]⟩
theorem SRow.fz (h : SRow rp W base g n cap c) (k : Nat) : W.frozen? ⟨g, k, none⟩ = false := by
  obtain ⟨cur, h1, _⟩ := Own.block h
  simp [World.frozen?, h1]
def eL (rp : β → Int × Int) (e : β) : List Value := [.int .i64 (rp e).1, .int .i64 (rp e).2]
def setS {β : Type} (c : Nat → β) (i : Nat) (e : β) : Nat → β := fun j => if j = i then e else c j
theorem SRow.put (h : SRow rp W base g n cap c) (i : Nat) (e : β) : SRow rp (W.setCells g (i * 2) (eL rp e)) base g n cap (setS c i e) := by
  refine Own.congr (Own.put h (i * 2) (eL rp e)) fun j hj => ?_
  have hl : (eL rp e).length = 2 := rfl
  unfold putF
  by_cases x : i * 2 ≤ j ∧ j < i * 2 + (eL rp e).length
  · rw [if_pos x]
    obtain ⟨r, hr, rfl⟩ : ∃ r, r < 2 ∧ j = i * 2 + r := ⟨j - i * 2, by omega, by omega⟩
    rw [show i * 2 + r - i * 2 = r by omega]
    obtain rfl | rfl : r = 0 ∨ r = 1 := by omega
    · rw [Nat.add_zero, eF_at0]
      unfold setS
      rw [if_pos rfl]
      rfl
    · rw [eF_at1]
      unfold setS
      rw [if_pos rfl]
      rfl
  · rw [if_neg x]
    have hne : ¬ j / 2 = i := by omega
    unfold eF setS
    simp only [if_neg hne]
theorem swp_sets (c : Nat → β) (i j : Nat) : setS (setS c i (c j)) j (c i) = swp c i j := by
  funext k
  unfold setS swp
  by_cases e1 : k = j
  · rw [if_pos e1]
    by_cases e2 : k = i
    · rw [if_pos e2, ← e1, ← e2]
    · rw [if_neg e2, if_pos e1]
  · rw [if_neg e1]
    by_cases e2 : k = i
    · rw [if_pos e2, if_pos e2]
    · rw [if_neg e2, if_neg e2, if_neg e1]
theorem swp_sets' (c : Nat → β) (i j : Nat) : setS (setS c j (c i)) i (c j) = swp c i j := by
  funext k
  unfold setS swp
  by_cases e1 : k = i
  · rw [if_pos e1]
  · rw [if_neg e1]
/-- the compare: what it tells, as long as nothing but the row's block has changed -/
def CmpOk (rp : β → Int × Int) (kc : β → β → Int) (n g : Nat) (W : World) : Prop := 0 < n → ∀ x y W', Kp g W W' → Calls Try.prog 14 #[.agg #[.int .i64 (rp x).1, .int .i64 (rp x).2], .agg #[.int .i64 (rp y).1, .int .i64 (rp y).2]] W' fun e w' => e = .returned (.int .i64 (kc x y)) ∧ Below W'.heap.size W' w'
theorem CmpOk.on (h : CmpOk rp kc n g W) (hk : Kp g W W') : CmpOk rp kc n g W' := fun hn x y W2 h2 => h hn x y W2 (hk.trans h2)
end Go.Proofs.Ytkfjcbnhohipgaa.ST
