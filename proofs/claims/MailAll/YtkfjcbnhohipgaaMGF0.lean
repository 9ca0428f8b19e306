import Derived.Test.YtkfjcbnhohipgaaMGE
import Derived.BigQuiet
import Derived.Deep.RegionLaw
import Derived.Deep.RegionHeld3
import Derived.Deep.Cut
import Derived.Deep.DeepCutAuto
import Derived.Deep.CutBlock
import Derived.Deep.CutRange
import Derived.Deep.AppendLies
import Derived.Handy
import Derived.Lib.RabinKarpLaws
namespace Go.Proofs.Ytkfjcbnhohipgaa
open Go.ChangeShapes Go.WideShapes Go.ChangeAt Go.RowKit
set_option linter.unusedVariables false
set_option linter.unusedSimpArgs false


theorem SX.form {Fo : Nat → Option Obj} {W : World} {base sb : Nat} {V : Nat → Value} {n : Nat → Nat} {F : Nat → Nat → Value} {m : Nat} (h : SX Fo W base sb V n F m) (i : Nat) (hi : i < 4) : ∃ q c, V i = .slice q (n i) c := by
  rcases (h.o i hi).1.form with ⟨a, b⟩ | ⟨g, c, a, _⟩
  · exact ⟨none, 0, by rw [a, b]⟩
  · exact ⟨_, _, a⟩
/-- the pairs, the kept lists with their copies; those from i on share with nobody -/
structure EN (W : World) (base N2 i : Nat) (F0 F1 F2 F3 : Nat → Value) (n0 : Nat) : Prop where
  pr : ∀ j, j < n0 → ∃ mm k, mm ≤ 1000000 ∧ Own W base 31 2 (F0 j) mm (thF k) ∧ Own W base 31 2 (F1 j) mm (thF k)
  lt : ∀ j, j < N2 → ∃ mm k, mm ≤ 65536 ∧ Own W base 31 2 (F2 j) mm (thF k) ∧ Own W base 31 2 (F3 j) mm (thF k)
  e2 : ∀ j, i ≤ j → j < N2 → ∀ b, (F2 j).ownBlock = some b → (F3 j).ownBlock ≠ some b ∧ (∀ x, x < n0 → (F0 x).ownBlock ≠ some b ∧ (F1 x).ownBlock ≠ some b) ∧ ∀ x, x < N2 → x ≠ j → (F2 x).ownBlock ≠ some b ∧ (F3 x).ownBlock ≠ some b
  e3 : ∀ j, i ≤ j → j < N2 → ∀ b, (F3 j).ownBlock = some b → (F2 j).ownBlock ≠ some b ∧ (∀ x, x < n0 → (F0 x).ownBlock ≠ some b ∧ (F1 x).ownBlock ≠ some b) ∧ ∀ x, x < N2 → x ≠ j → (F2 x).ownBlock ≠ some b ∧ (F3 x).ownBlock ≠ some b
section
variable {W W' : World} {base N2 i n0 : Nat} {F0 F1 F2 F3 : Nat → Value}
theorem EN.map (h : EN W base N2 i F0 F1 F2 F3 n0) (hk : ∀ {B mm : Nat} {u : Value} {F : Nat → Value}, Own W B 31 2 u mm F → Own W' B 31 2 u mm F) : EN W' base N2 i F0 F1 F2 F3 n0 := by
  refine ⟨fun j hj => ?_, fun j hj => ?_, h.e2, h.e3⟩
  · obtain ⟨mm, k, a, b, c⟩ := h.pr j hj
    exact ⟨mm, k, a, hk b, hk c⟩
  · obtain ⟨mm, k, a, b, c⟩ := h.lt j hj
    exact ⟨mm, k, a, hk b, hk c⟩
theorem EN.later (h : EN W base N2 i F0 F1 F2 F3 n0) (hb : Below W.heap.size W W') : EN W' base N2 i F0 F1 F2 F3 n0 := h.map fun hu => hu.later hb
theorem EN.low (h : EN W base N2 i F0 F1 F2 F3 n0) {b : Nat} (hb : W.heap.size ≤ b) (j : Nat) (hj : j < N2) : (F2 j).ownBlock ≠ some b ∧ (F3 j).ownBlock ≠ some b := by
  obtain ⟨mm, k, _, h1, h2⟩ := h.lt j hj
  exact ⟨fun e => by have := (h1.lt b e).2; omega, fun e => by have := (h2.lt b e).2; omega⟩
theorem EN.grow2 (h : EN W base N2 i F0 F1 F2 F3 n0) (hi : i < N2) (hg : W.grownBy W' (F2 i).ownBlock) (hl : ∃ mm k, mm ≤ 65536 ∧ Own W' base 31 2 (F2 i) mm (thF k) ∧ Own W base 31 2 (F3 i) mm (thF k)) : EN W' base N2 i F0 F1 F2 F3 n0 := by
  have e := h.e2 i (Nat.le_refl _) hi
  refine ⟨fun j hj => ?_, fun j hj => ?_, h.e2, h.e3⟩
  · obtain ⟨mm, k, a, b, c⟩ := h.pr j hj
    exact ⟨mm, k, a, b.keptBy hg fun q hq e9 => ((e q e9).2.1 j hj).1 hq, c.keptBy hg fun q hq e9 => ((e q e9).2.1 j hj).2 hq⟩
  · by_cases ej : j = i
    · subst ej
      obtain ⟨mm, k, a, b, c⟩ := hl
      exact ⟨mm, k, a, b, c.keptBy hg fun q hq e9 => (e q e9).1 hq⟩
    · obtain ⟨mm, k, a, b, c⟩ := h.lt j hj
      exact ⟨mm, k, a, b.keptBy hg fun q hq e9 => ((e q e9).2.2 j hj ej).1 hq, c.keptBy hg fun q hq e9 => ((e q e9).2.2 j hj ej).2 hq⟩
theorem EN.grow3 (h : EN W base N2 i F0 F1 F2 F3 n0) (hi : i < N2) (hg : W.grownBy W' (F3 i).ownBlock) (hl : ∃ mm k, mm ≤ 65536 ∧ Own W base 31 2 (F2 i) mm (thF k) ∧ Own W' base 31 2 (F3 i) mm (thF k)) : EN W' base N2 i F0 F1 F2 F3 n0 := by
  have e := h.e3 i (Nat.le_refl _) hi
  refine ⟨fun j hj => ?_, fun j hj => ?_, h.e2, h.e3⟩
  · obtain ⟨mm, k, a, b, c⟩ := h.pr j hj
    exact ⟨mm, k, a, b.keptBy hg fun q hq e9 => ((e q e9).2.1 j hj).1 hq, c.keptBy hg fun q hq e9 => ((e q e9).2.1 j hj).2 hq⟩
  · by_cases ej : j = i
    · subst ej
      obtain ⟨mm, k, a, b, c⟩ := hl
      exact ⟨mm, k, a, b.keptBy hg fun q hq e9 => (e q e9).1 hq, c⟩
    · obtain ⟨mm, k, a, b, c⟩ := h.lt j hj
      exact ⟨mm, k, a, b.keptBy hg fun q hq e9 => ((e q e9).2.2 j hj ej).1 hq, c.keptBy hg fun q hq e9 => ((e q e9).2.2 j hj ej).2 hq⟩
theorem apF_pair (A B : Nat → Value) {n j : Nat} (a b : Value) (P : Value → Value → Prop) (h1 : j < n → P (A j) (B j)) (h2 : P a b) (hj : j < n + 1) : P (apF A n [a] j) (apF B n [b] j) := by
  by_cases e : j < n
  · rw [apF_lt A _ e, apF_lt B _ e]; exact h1 e
  · obtain rfl : j = n := by omega
    have x := apF_at A j 0 [a]
    have y := apF_at B j 0 [b]
    rw [Nat.add_zero] at x y
    rw [x, y]
    exact h2
theorem EN.next (h : EN W base N2 i F0 F1 F2 F3 n0) (hi : i < N2) (gl gw : Value) (hp : ∃ mm k, mm ≤ 1000000 ∧ Own W base 31 2 gl mm (thF k) ∧ Own W base 31 2 gw mm (thF k))
    (hl : ∀ b, gl.ownBlock = some b → (F2 i).ownBlock = some b ∨ ∀ j, j < N2 → (F2 j).ownBlock ≠ some b ∧ (F3 j).ownBlock ≠ some b) (hw : ∀ b, gw.ownBlock = some b → (F3 i).ownBlock = some b ∨ ∀ j, j < N2 → (F2 j).ownBlock ≠ some b ∧ (F3 j).ownBlock ≠ some b) : EN W base N2 (i + 1) (apF F0 n0 [gl]) (apF F1 n0 [gw]) F2 F3 (n0 + 1) := by
  have gn2 : ∀ j, i + 1 ≤ j → j < N2 → ∀ b, (F2 j).ownBlock = some b → gl.ownBlock ≠ some b ∧ gw.ownBlock ≠ some b := fun j h1 h2 b hb => ⟨fun e => by
      rcases hl b e with e9 | e9
      · exact ((h.e2 j (by omega) h2 b hb).2.2 i hi (by omega)).1 e9
      · exact (e9 j h2).1 hb, fun e => by
      rcases hw b e with e9 | e9
      · exact ((h.e2 j (by omega) h2 b hb).2.2 i hi (by omega)).2 e9
      · exact (e9 j h2).1 hb⟩
  have gn3 : ∀ j, i + 1 ≤ j → j < N2 → ∀ b, (F3 j).ownBlock = some b → gl.ownBlock ≠ some b ∧ gw.ownBlock ≠ some b := fun j h1 h2 b hb => ⟨fun e => by
      rcases hl b e with e9 | e9
      · exact ((h.e3 j (by omega) h2 b hb).2.2 i hi (by omega)).1 e9
      · exact (e9 j h2).2 hb, fun e => by
      rcases hw b e with e9 | e9
      · exact ((h.e3 j (by omega) h2 b hb).2.2 i hi (by omega)).2 e9
      · exact (e9 j h2).2 hb⟩
  refine ⟨fun j hj => apF_pair F0 F1 gl gw (fun u v => ∃ mm k, mm ≤ 1000000 ∧ Own W base 31 2 u mm (thF k) ∧ Own W base 31 2 v mm (thF k)) (fun e => h.pr j e) hp hj, h.lt, fun j h1 h2 b hb => ?_, fun j h1 h2 b hb => ?_⟩
  · obtain ⟨a1, a2, a3⟩ := h.e2 j (by omega) h2 b hb
    exact ⟨a1, fun x hx => apF_pair F0 F1 gl gw (fun u v => u.ownBlock ≠ some b ∧ v.ownBlock ≠ some b) (fun e => a2 x e) (gn2 j h1 h2 b hb) hx, a3⟩
  · obtain ⟨a1, a2, a3⟩ := h.e3 j (by omega) h2 b hb
    exact ⟨a1, fun x hx => apF_pair F0 F1 gl gw (fun u v => u.ownBlock ≠ some b ∧ v.ownBlock ≠ some b) (fun e => a2 x e) (gn3 j h1 h2 b hb) hx, a3⟩
theorem EN.start {V : Nat → Value} {n : Nat → Nat} {F : Nat → Nat → Value} {T : Nat} {xl xw : Nat → Nat} (h : SC W base V n F T xl xw) : EN W base (n 2) 0 (F 0) (F 1) (F 2) (F 3) (n 0) := by
  refine ⟨fun j hj => ?_, fun j hj => ?_, fun j _ hj b hb => ?_, fun j _ hj b hb => ?_⟩
  · obtain ⟨x, y, mm, k, _, _, _, h3, h4, h5, h6, h7⟩ := h.pr j hj
    rw [h3, h4]
    exact ⟨mm, k, by omega, h6, h7⟩
  · obtain ⟨_, _, h3, h4, mm, k, h5, h6, h7⟩ := h.lt j hj
    rw [h3, h4]
    exact ⟨mm, k, h5, h6, h7⟩
  · obtain ⟨a1, a2, a3, a4, _⟩ := h.lt j hj
    rw [a3] at hb
    have key : ∀ y, 4 ≤ y → y ≠ xl j → (V y).ownBlock ≠ some b := fun y hy hne e => (h.ex j hj y b hy e).1 hne hb
    refine ⟨by rw [a4]; exact key _ a2.1 (Ne.symm (h.ne j j hj hj).1), fun x hx => ?_, fun x hx hxj => ?_⟩
    · obtain ⟨p, q, mm, k, p1, q1, pq, h3, h4, _⟩ := h.pr x hx
      rw [h3, h4]
      exact ⟨key p p1.1 (pq j hj).1.1, key q q1.1 (pq j hj).2.1⟩
    · obtain ⟨b1, b2, b3, b4, _⟩ := h.lt x hx
      rw [b3, b4]
      exact ⟨key _ b1.1 ((h.ne x j hx hj).2 hxj).1, key _ b2.1 (Ne.symm (h.ne j x hj hx).1)⟩
  · obtain ⟨a1, a2, a3, a4, _⟩ := h.lt j hj
    rw [a4] at hb
    have key : ∀ y, 4 ≤ y → y ≠ xw j → (V y).ownBlock ≠ some b := fun y hy hne e => (h.ex j hj y b hy e).2 hne hb
    refine ⟨by rw [a3]; exact key _ a1.1 (h.ne j j hj hj).1, fun x hx => ?_, fun x hx hxj => ?_⟩
    · obtain ⟨p, q, mm, k, p1, q1, pq, h3, h4, _⟩ := h.pr x hx
      rw [h3, h4]
      exact ⟨key p p1.1 (pq j hj).1.2, key q q1.1 (pq j hj).2.2⟩
    · obtain ⟨b1, b2, b3, b4, _⟩ := h.lt x hx
      rw [b3, b4]
      exact ⟨key _ b1.1 (h.ne x j hx hj).1, key _ b2.1 ((h.ne x j hx hj).2 hxj).2⟩
end
/-- one row behind a row of rows, inside a region that draws -/
theorem one_row {Fo : Nat → Option Obj} {base sb : Nat} {V : Nat → Value} {n : Nat → Nat} {F : Nat → Nat → Value} {m : Nat} {w5 : World} (h : SX Fo w5 base sb V n F m) (hb : base ≤ w5.heap.size) (i : Nat) (hi : i < 4) (hm : m ≤ 1000000) (a : Value) (ha : a.oneCell' = true) : n i ≤ m ∧ (w5.alloc (.cells #[a] 37)).ownsRow base 37 1 (V i) (n i) (cellsF (F i) (n i * 1)) ∧ ∀ v' w6, w6.ownsRow base 37 1 v' (n i + 1) (cellsF (F i) (n i * 1) ++ [a]) → (w5.alloc (.cells #[a] 37)).grownBy w6 (V i).ownBlock → (v'.ownBlock = (V i).ownBlock ∨ v'.ownBlock = some (w5.alloc (.cells #[a] 37)).heap.size) → (∃ q c, v' = .slice q (n i + 1) c) ∧ w6.cell? ⟨sb, i, none⟩ = some (V i) ∧ w6.frozen? ⟨sb, i, none⟩ = false ∧ SX Fo (w6.setCell ⟨sb, i, none⟩ v') base sb (setV V i v') (st1 n i (n i + 1)) (st1 F i (apF (F i) (n i) [a])) (m + 2) ∧ Below base w5 (w6.setCell ⟨sb, i, none⟩ v') ∧ (∀ {B' n' : Nat} {u : Value} {F' : Nat → Value}, Own w5 B' 31 2 u n' F' → Own (w6.setCell ⟨sb, i, none⟩ v') B' 31 2 u n' F') := by
  have ha5 : Below w5.heap.size w5 (w5.alloc (.cells #[a] 37)) := (Below.refl _ w5).alloc (Nat.le_refl _) _
  have h5 := h.later ha5
  obtain ⟨ho, hn⟩ := h5.o i hi
  refine ⟨hn, ho, fun v' w6 k1 k2 k3 => ?_⟩
  have k1' := own_of_row k1
  have hap := h5.app (Nat.le_trans hb ha5.size) i hi v' (n i + 1) (apF (F i) (n i) [a]) k1' (by omega) k2 (fun k hk => by
    rcases k3 with k3 | k3
    · rw [k3] at hk; exact .inl hk
    · rw [k3] at hk; injection hk with hk; exact .inr (by omega))
  refine ⟨?_, hap.1, hap.2.1, hap.2.2.1, (ha5.mono hb).trans hap.2.2.2.1, fun {B' n' u F'} hu => hap.2.2.2.2 (hu.later ha5)⟩
  rcases k1'.form with ⟨_, h8⟩ | ⟨g6, c6, h8, _⟩
  · omega
  · exact ⟨_, _, h8⟩
end Go.Proofs.Ytkfjcbnhohipgaa
