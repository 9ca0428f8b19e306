import Derived.Test.YtcifdlncbekohaaDoorRO2
import Derived.BigQuiet
namespace Go.Proofs.YtcifdlncbekohaaDoor
open Go.ChangeShapes Go.WideShapes Go.ChangeAt Go.RowKit
set_option linter.unusedVariables false
set_option linter.unusedSimpArgs false

/-! ### the same events -/
theorem neq_seV (a b c d e f : Int) (W : World) : (binOp .neq 36 (.agg #[.int .u64 a, .int .i64 b, .int .u64 c, .int .i64 d, .int .i64 e, .int .i64 f]) (.agg #[.int .u64 a, .int .i64 b, .int .u64 c, .int .i64 d, .int .i64 e, .int .i64 f])).run Tryd.prog W = .ok (.bool false) W := by
  go_simp
theorem SIn.congr {W : World} {p : Option Addr} {m : Nat} {X Y : Nat → Se} (h : SIn W p m X) (he : ∀ j, j < m → X j = Y j) : SIn W p m Y := by
  rcases h with h | ⟨b, o, h1, h2, h3⟩
  · exact .inl h
  · exact .inr ⟨b, o, h1, h2, fun j hj => by rw [h3 j hj]; unfold seF; rw [he (j / 6) (by omega)]⟩
theorem own_sin0 {W : World} {base n c : Nat} {p : Option Addr} {X : Nat → Se} (h : Own W base 36 6 (.slice p n c) n (seF X)) : SIn W p n X := by
  rcases h.form with ⟨h1, h2⟩ | ⟨g, c', h1, h2, h3⟩
  · exact .inl h2
  · injection h1 with e1 e2 e3
    subst e1
    subst e3
    refine .inr ⟨g, 0, rfl, h3, fun j hj => ?_⟩
    rw [Nat.zero_add]
    exact h.cell (j := j) hj
set_option maxRecDepth 100000 in
set_option maxHeartbeats 2000000 in
theorem sEvents_yes (n : Nat) (X : Nat → Se) (p1 p2 : Option Addr) (c1 c2 : Nat) (hL : n ≤ 2932031007402) (w : World) (h1 : SIn w p1 n X) (h2 : SIn w p2 n X) :
    Calls Tryd.prog 8 #[.slice p1 n c1, .slice p2 n c2] w fun e w' => e = .returned (.bool true) ∧ Below w.heap.size w w' := by
  have HH1 : Hid (SIn w p1 n X) := h1
  have HH2 : Hid (SIn w p2 n X) := h2
  clear h1 h2
  go_enter Tryd.func8, Tryd.ntmps8
  go_wp2
  go_loopw [13] (fun v wr => ∃ i : Nat, v = .int .i64 i ∧ i ≤ n ∧ Below w.heap.size w wr) (fun v _ => n - (intOf v).toNat)
  case atStart => exact ⟨0, rfl, Nat.zero_le _, Below.refl _ _⟩
  case round =>
    obtain ⟨i, rfl, hi, hbel⟩ := hrel
    by_cases hlt : i < n
    · have dl : decide ((i : Int) < n) = true := decide_eq_true (by omega)
      have hm := meas hlt
      obtain ⟨g1, o1, rfl, hg1, x0, x1, x2, x3, x4, x5⟩ := (HH1.out.below hbel).at hlt
      obtain ⟨g2, o2, rfl, hg2, y0, y1, y2, y3, y4, y5⟩ := (HH2.out.below hbel).at hlt
      have ne1 := neq_seV (X i).t (X i).s (X i).q (X i).d (X i).k (X i).v
      clear HH1 HH2
      go_wp2
      go_quiet (fail)
      go_wp2
      exact ⟨⟨i + 1, rfl, hlt, hbel.trans (below_drewNq _ _ _)⟩, hm⟩
    · have dl : decide ((i : Int) < n) = false := decide_eq_false (by omega)
      obtain rfl : i = n := by omega
      clear HH1 HH2
      go_wp2
      go_ret
      exact ⟨rfl, hbel⟩
end Go.Proofs.YtcifdlncbekohaaDoor
