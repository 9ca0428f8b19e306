import Derived.Test.YtfgkmijaimfkjaaX2
import Derived.Test.YtfgkmijaimfkjaaC4
namespace Go.Proofs.Ytfgkmijaimfkjaa
open Go.ChangeShapes Go.WideShapes Go.ChangeAt Go.RowKit
set_option linter.unusedVariables false
set_option linter.unusedSimpArgs false
variable {base n kd : Nat} {B : RB} {R : Rt}

set_option maxRecDepth 100000 in
theorem ris_any (x : Int) (W : World) (h : RN base n kd B R W) : Calls Try.prog 63 #[.pointer (some ⟨B.rb, 0, none⟩), .int .i64 x] W fun e W' => e = .returned (.bool (inN n x)) ∧ W' = W := by
  obtain ⟨⟨c0, c1, c2, c3⟩, ⟨c4, c5, c6⟩, c7, c8, c9⟩ := h.cells
  unfold inN
  by_cases h0 : 0 ≤ x
  · have d0 : decide (0 ≤ x) = true := by simpa using h0
    by_cases h1 : x < (n : Int)
    · have d1 : decide (x < (n : Int)) = true := by simpa using h1
      go_enter Try.func63, Try.ntmps63
      go_wp2
      go_ret
      exact ⟨by simp [h0, h1], rfl⟩
    · have d1 : decide (x < (n : Int)) = false := by simpa using h1
      go_enter Try.func63, Try.ntmps63
      go_wp2
      go_ret
      exact ⟨by simp [h0, h1], rfl⟩
  · have d0 : decide (0 ≤ x) = false := by simpa using h0
    go_enter Try.func63, Try.ntmps63
    go_wp2
    go_ret
    exact ⟨by simp [h0], rfl⟩
set_option maxRecDepth 100000 in
theorem rrounds_any (x : Int) (W : World) (h : RN base n kd B R W) : Calls Try.prog 30 #[.pointer (some ⟨B.rb, 0, none⟩), .int .i64 x] W fun e W' => e = .returned (.int .i64 (if inN n x = true then (R.th x.toNat : Int) else 0)) ∧ W' = W := by
  obtain ⟨⟨c0, c1, c2, c3⟩, ⟨c4, c5, c6⟩, c7, c8, c9⟩ := h.cells
  have HK := ris_any x W h
  by_cases hx : inN n x = true
  · obtain ⟨w, hw, rfl⟩ := inN_get hx
    have k1 := Own.cell h.th (j := w) (by omega)
    unfold ntF at k1
    have i0 : (0 : Int) ≤ (w : Int) := by omega
    have i1 : (w : Int) < (n : Int) := by omega
    rw [hx] at HK ⊢
    simp only [Int.toNat_natCast, if_true]
    generalize R.th w = r at k1 ⊢
    go_enter Try.func30, Try.ntmps30
    go_wp2_with (go_at_call 63; (with_reducible refine HK.mono ?_); rintro e w1 ⟨rfl, h9⟩; subst h9)
    go_ret
    exact ⟨rfl, rfl⟩
  · rw [Bool.not_eq_true] at hx
    rw [hx] at HK ⊢
    simp only [Bool.false_eq_true, if_false]
    go_enter Try.func30, Try.ntmps30
    go_wp2_with (go_at_call 63; (with_reducible refine HK.mono ?_); rintro e w1 ⟨rfl, h9⟩; subst h9)
    go_ret
    exact ⟨rfl, rfl⟩
/-- a worker's list of steps: its form -/
theorem RN.tdv {W : World} (h : RN base n kd B R W) {w : Nat} (hw : w < n) : ∃ p c, R.tv w = .slice p (R.td w).length c ∧ (R.td w).length ≤ c ∧ W.cell? ⟨B.tb, w, none⟩ = some (.slice p (R.td w).length c) ∧ (R.td w ≠ [] → ∃ b o, p = some ⟨b, o, none⟩ ∧ b < W.heap.size ∧ base ≤ b ∧ ∀ i, i < (R.td w).length → W.cell? ⟨b, o + i, none⟩ = some (.int .i64 (((R.td w).getD i 0 : Nat) : Int))) := by
  obtain ⟨p, c, h1, h2, h3⟩ := h.tl w hw
  have k1 := Own.cell h.td (j := w) (by omega)
  refine ⟨p, c, h1, h2, by rw [k1, h1], fun hne => ?_⟩
  obtain ⟨b, o, cur, a1, a2, a3, a4, a5⟩ := h3 hne
  refine ⟨b, o, a1, lt_of_block a4, a2, fun i hi => ?_⟩
  unfold World.cell?
  rw [a4]
  exact a5 i hi
set_option maxRecDepth 100000 in
theorem rinside_any (x : Int) (W : World) (h : RN base n kd B R W) : Calls Try.prog 31 #[.pointer (some ⟨B.rb, 0, none⟩), .int .i64 x] W fun e W' => e = .returned (.bool (inN n x && ((R.td x.toNat).length != 0))) ∧ W' = W := by
  obtain ⟨⟨c0, c1, c2, c3⟩, ⟨c4, c5, c6⟩, c7, c8, c9⟩ := h.cells
  have HK := ris_any x W h
  by_cases hx : inN n x = true
  · obtain ⟨w, hw, rfl⟩ := inN_get hx
    obtain ⟨p, c, _, _, k1, _⟩ := h.tdv hw
    have i0 : (0 : Int) ≤ (w : Int) := by omega
    have i1 : (w : Int) < (n : Int) := by omega
    rw [hx] at HK ⊢
    simp only [Int.toNat_natCast, Bool.true_and]
    generalize (R.td w).length = r at k1 ⊢
    go_enter Try.func31, Try.ntmps31
    go_wp2_with (go_at_call 63; (with_reducible refine HK.mono ?_); rintro e w1 ⟨rfl, h9⟩; subst h9)
    go_ret
    exact ⟨ret_bool (by cases r <;> simp), rfl⟩
  · rw [Bool.not_eq_true] at hx
    rw [hx] at HK ⊢
    go_enter Try.func31, Try.ntmps31
    go_wp2_with (go_at_call 63; (with_reducible refine HK.mono ?_); rintro e w1 ⟨rfl, h9⟩; subst h9)
    go_ret
    exact ⟨rfl, rfl⟩
def rvA (x : Int) : Value := .agg #[.int .i64 x, .int .u64 0, .bool false, .bool false, .bool false, .int .u64 0, .int .i64 0, .int .u64 0, .int .i64 0, .int .i64 0]
def rvlV (n : Nat) (R : Rt) (x : Int) : Int := if inN n x = true ∧ R.th x.toNat ≠ 0 then R.ls x.toNat else 0
def rvlE (n : Nat) (R : Rt) (x : Int) : Int := if inN n x = true then (if R.th x.toNat = 0 then 82 else 0) else 91
set_option maxRecDepth 100000 in
set_option maxHeartbeats 1000000 in
theorem rvalue_any (x : Int) (W : World) (h : RN base n kd B R W) : Calls Try.prog 29 #[.pointer (some ⟨B.rb, 0, none⟩), .int .i64 x] W fun e W' => e = .returned (.tuple #[rvA (rvlV n R x), .int .i64 (rvlE n R x)]) ∧ Below W.heap.size W W' := by
  obtain ⟨⟨c0, c1, c2, c3⟩, ⟨c4, c5, c6⟩, c7, c8, c9⟩ := h.cells
  obtain ⟨⟨l0, l1, l2, l3⟩, l4, l5, l6, l7, l8⟩ := h.lt
  have HK := fun o => ris_any x (W.alloc o) (h.later ((Below.refl _ W).alloc (Nat.le_refl _) o))
  unfold rvlV rvlE rvA
  by_cases hx : inN n x = true
  · obtain ⟨w, hw, rfl⟩ := inN_get hx
    have k1 := Own.cell h.th (j := w) (by omega)
    unfold ntF at k1
    obtain ⟨⟨t0, t1, t2, t3, t4⟩, t5, t6, t7, t8, t9⟩ := own_ten h.ls hw
    have i0 : (0 : Int) ≤ (w : Int) := by omega
    have i1 : (w : Int) < (n : Int) := by omega
    simp only [hx] at HK ⊢
    simp only [Int.toNat_natCast, if_true, true_and]
    by_cases hr : R.th w = 0
    · have hr' : ((R.th w : Int) == 0) = true := by simp [hr]
      simp only [hr, ne_eq, not_true_eq_false, if_false, if_true]
      generalize R.th w = r at *
      clear hr
      go_enter Try.func29, Try.ntmps29
      go_wp2_with (go_at_call 63; (with_reducible refine (HK _).mono ?_); rintro e w1 ⟨rfl, h9⟩; subst h9)
      go_returns
      exact ⟨rfl, by repeat (first | exact Below.refl _ _ | apply Below.drew | refine Below.alloc ?_ (by simp <;> omega) _ | refine Below.setCell ?_ (by simp <;> omega) _)⟩
    · have hr' : ((R.th w : Int) == 0) = false := by simp [hr]
      simp only [hr, ne_eq, not_false_eq_true, if_false, if_true]
      generalize R.th w = r at *
      generalize R.ls w = y at *
      clear hr
      go_enter Try.func29, Try.ntmps29
      go_wp2_with (go_at_call 63; (with_reducible refine (HK _).mono ?_); rintro e w1 ⟨rfl, h9⟩; subst h9)
      go_returns
      exact ⟨rfl, by repeat (first | exact Below.refl _ _ | apply Below.drew | refine Below.alloc ?_ (by simp <;> omega) _ | refine Below.setCell ?_ (by simp <;> omega) _)⟩
  · rw [Bool.not_eq_true] at hx
    simp only [hx] at HK ⊢
    simp only [Bool.false_eq_true, if_false, false_and]
    go_enter Try.func29, Try.ntmps29
    go_wp2_with (go_at_call 63; (with_reducible refine (HK _).mono ?_); rintro e w1 ⟨rfl, h9⟩; subst h9)
    go_returns
    exact ⟨rfl, by repeat (first | exact Below.refl _ _ | apply Below.drew | refine Below.alloc ?_ (by simp <;> omega) _ | refine Below.setCell ?_ (by simp <;> omega) _)⟩
end Go.Proofs.Ytfgkmijaimfkjaa
