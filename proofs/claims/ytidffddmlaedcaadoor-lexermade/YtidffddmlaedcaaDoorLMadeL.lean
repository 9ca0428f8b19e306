import Derived.Test.YtidffddmlaedcaaDoorLMadeS
import Derived.Test.YtidffddmlaedcaaDoorLAwake
namespace Go.Proofs.YtidffddmlaedcaaDoor
open Go.ChangeShapes Go.WideShapes Go.ChangeAt Go.RowKit
set_option linter.unusedVariables false

/-- a pick as it lies -/
structure Pv where
  wh : Int
  gp : Int
  num : Nat
def Pv.q (x : Pv) : Pk := ⟨(x.wh % 72).toNat, gIdx x.gp, x.num⟩
theorem Pv.ok (x : Pv) (h : x.num < 18446744073709551616) : x.q.ok := ⟨by show (x.wh % 72).toNat < 72; omega, (gIdx_eq x.gp).2, h⟩
def PAt (W : World) (p : Option Addr) (n : Nat) (X : Nat → Pv) : Prop :=
  n = 0 ∨ ∃ b o, p = some ⟨b, o, none⟩ ∧ b < W.heap.size ∧ ∀ i, i < n → W.cell? ⟨b, o + i * 3, none⟩ = some (.int .i64 (X i).wh) ∧ W.cell? ⟨b, o + i * 3 + 1, none⟩ = some (.int .i64 (X i).gp) ∧ W.cell? ⟨b, o + i * 3 + 2, none⟩ = some (.int .u64 (X i).num)
theorem cell_below' {W W' : World} {a : Addr} {n : Nat} (hb : Below n W W') (hlt : a.block < n) : W'.cell? a = W.cell? a := by
  unfold World.cell?
  rw [hb.block _ hlt]
def qs (X : Nat → Pv) (i : Nat) : List Pk := (List.range i).map fun k => (X k).q
theorem qs_succ (X : Nat → Pv) (i : Nat) : qs X (i + 1) = qs X i ++ [(X i).q] := by
  unfold qs
  rw [List.range_succ, List.map_append]
  rfl
theorem gap_len (k : Nat) : (gapB k).length ≤ 10 := by
  match k with
  | 0 | 1 | 2 | 3 | 4 | 5 | 6 | 7 => decide
  | k + 8 => simp [gapB, gap8]
theorem spl60_len : (List.range 60).all (fun w => decide ((spl (kind60 w)).length ≤ 31)) = true := by decide +kernel
theorem name8_len : name8.all (fun t => decide (t.length ≤ 31)) = true := by decide +kernel
theorem text_len (w num : Nat) (hw : w < 72) (hn : num < 18446744073709551616) : (tok72 w num).2.1.length ≤ 31 := by
  unfold tok72
  by_cases h1 : w < 60
  · rw [if_pos h1]
    exact of_decide_eq_true (List.all_eq_true.1 spl60_len w (List.mem_range.2 h1))
  · rw [if_neg h1]
    by_cases h2 : w < 68
    · rw [if_pos h2]
      have hlt : w - 60 < name8.length := by show w - 60 < 8; omega
      have h := of_decide_eq_true (List.all_eq_true.1 name8_len _ (List.getElem_mem hlt))
      rw [List.getElem?_eq_getElem hlt]
      exact h
    · rw [if_neg h2]
      show (dec num (w - 68)).length ≤ 31
      unfold dec
      have := digs_len20 num hn
      simp
      omega
theorem pos_le (s : Bs) : ∀ l c, (pos s l c).1 ≤ l + s.length ∧ (pos s l c).2 ≤ c + s.length + 1 := by
  induction s with
  | nil => intro l c; exact ⟨Nat.le_refl _, by show c ≤ _; omega⟩
  | cons x r ih =>
    intro l c
    unfold pos
    split
    · have := ih (l + 1) 1; simp; omega
    · have := ih l (c + 1); simp; omega
theorem pos_take (g : Bs) (k : Nat) (h : k < g.length) (l c : Nat) : pos (g.take (k + 1)) l c = if g[k].toNat = 10 then ((pos (g.take k) l c).1 + 1, 1) else ((pos (g.take k) l c).1, (pos (g.take k) l c).2 + 1) := by
  rw [List.take_succ_eq_append_getElem h, pos_app]
  show (if g[k].toNat = 10 then pos [] _ _ else pos [] _ _) = _
  split <;> rfl
theorem tmod72 (x : Int) : (x.tmod 72 = (((x % 72).toNat : Nat) : Int) ∧ decide (x.tmod 72 < 0) = false) ∨ (x.tmod 72 = (((x % 72).toNat : Nat) : Int) - 72 ∧ decide (x.tmod 72 < 0) = true) := by
  rcases Int.lt_or_le x 0 with h | h
  · have h1 : x.tmod 72 = -((-x) % 72) := by
      rw [Int.tmod_eq_emod]
      split <;> omega
    by_cases h2 : x % 72 = 0
    · left
      refine ⟨by omega, decide_eq_false (by omega)⟩
    · right
      refine ⟨by omega, decide_eq_true (by omega)⟩
  · left
    have h1 : x.tmod 72 = x % 72 := Int.tmod_eq_emod_of_nonneg h
    exact ⟨by omega, decide_eq_false (by omega)⟩
end Go.Proofs.YtidffddmlaedcaaDoor
