import Derived.Test.YtkfjcbnhohipgaaB1
namespace Go.Proofs.Ytkfjcbnhohipgaa
open Go.ChangeShapes Go.WideShapes Go.ChangeAt Go.RowKit
set_option linter.unusedVariables false
set_option linter.unusedSimpArgs false

set_option maxRecDepth 100000 in
theorem knows_any (hb wb bb n : Nat) (room x : Int) (cmp : Value) (W : World) (h : PAt9 W hb wb bb n room cmp) : Calls Try.prog 30 #[.pointer (some ⟨hb, 0, none⟩), .int .i64 x] W fun e W' => e = .returned (.bool (decide (0 ≤ x) && decide (x < (n : Int)))) ∧ W' = W := by
  obtain ⟨c0, c1, c2, c3⟩ := h.cells
  by_cases h0 : 0 ≤ x
  · have d0 : decide (0 ≤ x) = true := by simpa using h0
    by_cases h1 : x < (n : Int)
    · have d1 : decide (x < (n : Int)) = true := by simpa using h1
      go_enter Try.func30, Try.ntmps30
      go_wp2
      go_ret
      exact ⟨by simp [h0, h1], rfl⟩
    · have d1 : decide (x < (n : Int)) = false := by simpa using h1
      go_enter Try.func30, Try.ntmps30
      go_wp2
      go_ret
      exact ⟨by simp [h0, h1], rfl⟩
  · have d0 : decide (0 ≤ x) = false := by simpa using h0
    go_enter Try.func30, Try.ntmps30
    go_wp2
    go_ret
    exact ⟨by simp [h0], rfl⟩
theorem knows_yes (hb wb bb n : Nat) (room : Int) (x : Nat) (hx : x < n) (cmp : Value) (W : World) (h : PAt9 W hb wb bb n room cmp) : Calls Try.prog 30 #[.pointer (some ⟨hb, 0, none⟩), .int .i64 (x : Int)] W fun e W' => e = .returned (.bool true) ∧ W' = W := (knows_any hb wb bb n room x cmp W h).mono fun e W' hh => ⟨by rw [hh.1]; simp; omega, hh.2⟩
theorem knows_no (hb wb bb n : Nat) (room x : Int) (hx : x < 0 ∨ (n : Int) ≤ x) (cmp : Value) (W : World) (h : PAt9 W hb wb bb n room cmp) : Calls Try.prog 30 #[.pointer (some ⟨hb, 0, none⟩), .int .i64 x] W fun e W' => e = .returned (.bool false) ∧ W' = W := (knows_any hb wb bb n room x cmp W h).mono fun e W' hh => ⟨by rw [hh.1]; simp; omega, hh.2⟩
/-- where the workers are -/
def WK (W : World) (wb n : Nat) (ph fl : Nat → Int) : Prop := ∀ i, i < n → W.cell? ⟨wb, i * 2, none⟩ = some (.int .i64 (ph i)) ∧ W.cell? ⟨wb, i * 2 + 1, none⟩ = some (.int .i64 (fl i))
set_option maxRecDepth 100000 in
theorem phase_yes (hb wb bb n : Nat) (room : Int) (x : Nat) (hx : x < n) (cmp : Value) (ph fl : Nat → Int) (W : World) (h : PAt9 W hb wb bb n room cmp) (hw : WK W wb n ph fl) : Calls Try.prog 19 #[.pointer (some ⟨hb, 0, none⟩), .int .i64 (x : Int)] W fun e W' => e = .returned (.int .i64 (ph x)) ∧ W' = W := by
  obtain ⟨c0, c1, c2, c3⟩ := h.cells
  obtain ⟨y0, y1⟩ := hw x hx
  have i0 : (0 : Int) ≤ (x : Int) := by omega
  have i1 : (x : Int) < (n : Int) := by omega
  have HK := knows_yes hb wb bb n room x hx cmp W h
  clear hw h
  go_enter Try.func19, Try.ntmps19
  go_wp2_with (go_at_call 30; (with_reducible refine HK.mono ?_); rintro e w1 ⟨rfl, h9⟩; subst h9)
  go_ret
  exact ⟨rfl, rfl⟩
set_option maxRecDepth 100000 in
theorem phase_no (hb wb bb n : Nat) (room x : Int) (hx : x < 0 ∨ (n : Int) ≤ x) (cmp : Value) (W : World) (h : PAt9 W hb wb bb n room cmp) : Calls Try.prog 19 #[.pointer (some ⟨hb, 0, none⟩), .int .i64 x] W fun e W' => e = .returned (.int .i64 (-1)) ∧ W' = W := by
  have HK := knows_no hb wb bb n room x hx cmp W h
  clear h hx
  go_enter Try.func19, Try.ntmps19
  go_wp2_with (go_at_call 30; (with_reducible refine HK.mono ?_); rintro e w1 ⟨rfl, h9⟩; subst h9)
  go_ret
  exact ⟨rfl, rfl⟩
set_option maxRecDepth 100000 in
theorem err_yes (hb wb bb n : Nat) (room : Int) (x : Nat) (hx : x < n) (cmp : Value) (ph fl : Nat → Int) (W : World) (h : PAt9 W hb wb bb n room cmp) (hw : WK W wb n ph fl) : Calls Try.prog 20 #[.pointer (some ⟨hb, 0, none⟩), .int .i64 (x : Int)] W fun e W' => e = .returned (.int .i64 (fl x)) ∧ W' = W := by
  obtain ⟨c0, c1, c2, c3⟩ := h.cells
  obtain ⟨y0, y1⟩ := hw x hx
  have i0 : (0 : Int) ≤ (x : Int) := by omega
  have i1 : (x : Int) < (n : Int) := by omega
  have HK := knows_yes hb wb bb n room x hx cmp W h
  clear hw h
  go_enter Try.func20, Try.ntmps20
  go_wp2_with (go_at_call 30; (with_reducible refine HK.mono ?_); rintro e w1 ⟨rfl, h9⟩; subst h9)
  go_ret
  exact ⟨rfl, rfl⟩
set_option maxRecDepth 100000 in
theorem err_no (hb wb bb n : Nat) (room x : Int) (hx : x < 0 ∨ (n : Int) ≤ x) (cmp : Value) (W : World) (h : PAt9 W hb wb bb n room cmp) : Calls Try.prog 20 #[.pointer (some ⟨hb, 0, none⟩), .int .i64 x] W fun e W' => e = .returned (.int .i64 91) ∧ W' = W := by
  have HK := knows_no hb wb bb n room x hx cmp W h
  clear h hx
  go_enter Try.func20, Try.ntmps20
  go_wp2_with (go_at_call 30; (with_reducible refine HK.mono ?_); rintro e w1 ⟨rfl, h9⟩; subst h9)
  go_ret
  exact ⟨rfl, rfl⟩
/-- the boxes' lengths -/
structure BX (W : World) (hb wb bb n : Nat) (room : Int) (cmp : Value) (R : Nat → Nat) (ln : Nat → Nat → Nat → Nat) : Prop where
  p : PAt9 W hb wb bb n room cmp
  b : ∀ i, i < n → W.cell? ⟨bb, i, none⟩ = some (.slice (some ⟨R i, 0, none⟩) n n)
  r : ∀ i j, i < n → j < n → ∃ q0 c0 q1 c1, W.cell? ⟨R i, j * 2, none⟩ = some (.slice q0 (ln i j 0) c0) ∧ W.cell? ⟨R i, j * 2 + 1, none⟩ = some (.slice q1 (ln i j 1) c1)
  s : ∀ i j h, ln i j h ≤ 1024
def sm (f : Nat → Nat) : Nat → Nat
  | 0 => 0
  | k + 1 => sm f k + f k
theorem sm_le (f : Nat → Nat) (c : Nat) (h : ∀ i, f i ≤ c) : ∀ k, sm f k ≤ c * k
  | 0 => Nat.le_refl _
  | k + 1 => by
    have := sm_le f c h k
    have := h k
    rw [Nat.mul_succ]
    show sm f k + f k ≤ _
    omega
set_option maxRecDepth 100000 in
set_option maxHeartbeats 4000000 in
theorem waiting_yes (hb wb bb n : Nat) (room : Int) (x : Nat) (hx : x < n) (hn : n ≤ 64) (cmp : Value) (R : Nat → Nat) (ln : Nat → Nat → Nat → Nat) (W : World) (h : BX W hb wb bb n room cmp R ln) : Calls Try.prog 25 #[.pointer (some ⟨hb, 0, none⟩), .int .i64 (x : Int)] W fun e W' => e = .returned (.tuple #[.int .i64 (sm (fun i => ln i x 0 + ln i x 1) n : Nat), .int .i64 0]) ∧ W' = W := by
  obtain ⟨c0, c1, c2, c3⟩ := h.p.cells
  have HK := knows_yes hb wb bb n room x hx cmp W h.p
  have i0 : (0 : Int) ≤ (x : Int) := by omega
  have i1 : (x : Int) < (n : Int) := by omega
  have HX : Hid (BX W hb wb bb n room cmp R ln) := h
  clear h
  go_enter Try.func25, Try.ntmps25
  go_wp2_with (go_at_call 30; (with_reducible refine HK.mono ?_); rintro e w1 ⟨rfl, h9⟩; subst h9)
  go_loopw [6, 19] (fun a v wr => ∃ k : Nat, a = .int .i64 (sm (fun i => ln i x 0 + ln i x 1) k : Nat) ∧ v = .int .i64 (k : Int) ∧ k ≤ n ∧ wr = w1) (fun _ v _ => n - (intOf v).toNat)
  case atStart => exact ⟨0, rfl, rfl, Nat.zero_le _, rfl⟩
  case round =>
    obtain ⟨k, rfl, rfl, hk, rfl⟩ := hrel
    by_cases hlt : k < n
    · have dl : decide ((k : Int) < (n : Int)) = true := by simp; omega
      have hm := meas hlt
      have k0 : (0 : Int) ≤ (k : Int) := by omega
      have k1 : (k : Int) < (n : Int) := by omega
      have y0 := HX.out.b k hlt
      obtain ⟨q0, d0, q1, d1, y1, y2⟩ := HX.out.r k x hlt hx
      have hs := sm_le (fun i => ln i x 0 + ln i x 1) 2048 (fun i => by have := HX.out.s i x 0; have := HX.out.s i x 1; show ln i x 0 + ln i x 1 ≤ 2048; omega) k
      have l0 := HX.out.s k x 0
      have l1 := HX.out.s k x 1
      have hnx : sm (fun i => ln i x 0 + ln i x 1) (k + 1) = sm (fun i => ln i x 0 + ln i x 1) k + (ln k x 0 + ln k x 1) := rfl
      have ek : IntKind.i64.wrap ((k : Int) + 1) = (k : Int) + 1 := by rw [IntKind.wrap_i64]; omega
      generalize sm (fun i => ln i x 0 + ln i x 1) k = t at hs hnx ⊢
      generalize ln k x 0 = u0 at *
      generalize ln k x 1 = u1 at *
      have e0 : IntKind.i64.wrap ((t : Int) + (u0 : Int)) = ((t + u0 : Nat) : Int) := by rw [IntKind.wrap_i64]; omega
      have e1 : IntKind.i64.wrap (((t + u0 : Nat) : Int) + (u1 : Int)) = ((t + u0 + u1 : Nat) : Int) := by rw [IntKind.wrap_i64]; omega
      have j0 : ∀ w : World, (Instr.index 78 (.agg #[.slice q0 u0 d0, .slice q1 u1 d1]) (.int .i64 0)).run Try.prog w = .ok (.slice q0 u0 d0) w := fun _ => by kernel_rfl
      have j1 : ∀ w : World, (Instr.index 78 (.agg #[.slice q0 u0 d0, .slice q1 u1 d1]) (.int .i64 1)).run Try.prog w = .ok (.slice q1 u1 d1) w := fun _ => by kernel_rfl
      go_wp2_with fail
      go_loopw [6, 32] (fun a v wr' => ∃ h : Nat, h ≤ 2 ∧ v = .int .i64 (h : Int) ∧ a = .int .i64 ((t + (if 0 < h then u0 else 0) + (if 1 < h then u1 else 0) : Nat) : Int) ∧ wr' = wr) (fun _ v _ => 2 - (intOf v).toNat)
      case atStart => exact ⟨0, by decide, rfl, rfl, rfl⟩
      case round =>
        obtain ⟨h, hh, rfl, rfl, h9⟩ := hrel
        subst h9
        have h3 : h = 0 ∨ h = 1 ∨ h = 2 := by omega
        rcases h3 with rfl | rfl | rfl
        · go_wp2_with fail
          refine ⟨⟨1, by decide, rfl, ?_, by first | rfl | trivial⟩, by simp [intOf]⟩
          simp
        · go_wp2_with fail
          refine ⟨⟨2, by decide, rfl, ?_, by first | rfl | trivial⟩, by simp [intOf]⟩
          simp
        · go_wp2_with fail
          refine ⟨⟨k + 1, ?_, rfl, hlt, by first | rfl | trivial⟩, hm⟩
          rw [hnx, Nat.add_assoc]
          rfl
    · have dl : decide ((k : Int) < (n : Int)) = false := by simp; omega
      obtain rfl : k = n := by omega
      go_wp2_with fail
      refine bodyPost_ret (v := .tuple #[.int .i64 (sm (fun i => ln i x 0 + ln i x 1) k : Nat), .int .i64 0]) (by simp [results, Try.results25, go_sem]) rfl ?_
      exact ⟨rfl, rfl⟩
set_option maxRecDepth 100000 in
theorem waiting_no (hb wb bb n : Nat) (room x : Int) (hx : x < 0 ∨ (n : Int) ≤ x) (cmp : Value) (W : World) (h : PAt9 W hb wb bb n room cmp) : Calls Try.prog 25 #[.pointer (some ⟨hb, 0, none⟩), .int .i64 x] W fun e W' => e = .returned (.tuple #[.int .i64 0, .int .i64 91]) ∧ W' = W := by
  have HK := knows_no hb wb bb n room x hx cmp W h
  clear h hx
  go_enter Try.func25, Try.ntmps25
  go_wp2_with (go_at_call 30; (with_reducible refine HK.mono ?_); rintro e w1 ⟨rfl, h9⟩; subst h9)
  exact bodyPost_ret (v := .tuple #[.int .i64 0, .int .i64 91]) (by simp [results, Try.results25, go_sem]) rfl ⟨rfl, rfl⟩
end Go.Proofs.Ytkfjcbnhohipgaa
