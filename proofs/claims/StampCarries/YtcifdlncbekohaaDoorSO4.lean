import Derived.Test.YtcifdlncbekohaaDoorSO3
namespace Go.Proofs.YtcifdlncbekohaaDoor
open Go.ChangeShapes Go.WideShapes Go.ChangeAt Go.RowKit
set_option linter.unusedVariables false
set_option linter.unusedSimpArgs false
variable {base g n cap : Nat} {c : Nat → Se}

theorem smeas {n k : Nat} (h : k < n) : n - (intOf (.int .i64 ((k : Int) + 1))).toNat < n - (intOf (.int .i64 (k : Int))).toNat := by
  simp only [intOf]
  omega
theorem swp_row {W : World} {d : Nat → Se} (h : SRow W base g n cap d) (p r : Nat) (X Y : Se) (hX : d p = X) (hY : d r = Y) : SRow ((((((((((((((W).setCell ⟨g, p * 6, none⟩ (.int .u64 Y.t)).setCell ⟨g, p * 6 + 1, none⟩ (.int .i64 Y.s)).setCell ⟨g, p * 6 + 2, none⟩ (.int .u64 Y.q)).setCell ⟨g, p * 6 + 3, none⟩ (.int .i64 Y.d)).setCell ⟨g, p * 6 + 4, none⟩ (.int .i64 Y.k)).setCell ⟨g, p * 6 + 5, none⟩ (.int .i64 Y.v)).setCell ⟨g, r * 6, none⟩ (.int .u64 X.t)).setCell ⟨g, r * 6 + 1, none⟩ (.int .i64 X.s)).setCell ⟨g, r * 6 + 2, none⟩ (.int .u64 X.q)).setCell ⟨g, r * 6 + 3, none⟩ (.int .i64 X.d)).setCell ⟨g, r * 6 + 4, none⟩ (.int .i64 X.k)).setCell ⟨g, r * 6 + 5, none⟩ (.int .i64 X.v)).drew) base g n cap (swp d p r) ∧ Kp g W ((((((((((((((W).setCell ⟨g, p * 6, none⟩ (.int .u64 Y.t)).setCell ⟨g, p * 6 + 1, none⟩ (.int .i64 Y.s)).setCell ⟨g, p * 6 + 2, none⟩ (.int .u64 Y.q)).setCell ⟨g, p * 6 + 3, none⟩ (.int .i64 Y.d)).setCell ⟨g, p * 6 + 4, none⟩ (.int .i64 Y.k)).setCell ⟨g, p * 6 + 5, none⟩ (.int .i64 Y.v)).setCell ⟨g, r * 6, none⟩ (.int .u64 X.t)).setCell ⟨g, r * 6 + 1, none⟩ (.int .i64 X.s)).setCell ⟨g, r * 6 + 2, none⟩ (.int .u64 X.q)).setCell ⟨g, r * 6 + 3, none⟩ (.int .i64 X.d)).setCell ⟨g, r * 6 + 4, none⟩ (.int .i64 X.k)).setCell ⟨g, r * 6 + 5, none⟩ (.int .i64 X.v)).drew) := by
  subst hX hY
  have h1 := (h.put p (d r)).put r (d p)
  rw [swp_sets] at h1
  exact ⟨SRow.later h1 (drewS _), ((Kp.sets g (p * 6) W (seL (d r))).trans (Kp.sets g (r * 6) _ (seL (d p)))).trans (Kp.below (drewS _))⟩
theorem swp_row' {W : World} {d : Nat → Se} (h : SRow W base g n cap d) (p r : Nat) (X Y : Se) (hX : d p = X) (hY : d r = Y) : SRow ((((((((((((((W).setCell ⟨g, r * 6, none⟩ (.int .u64 X.t)).setCell ⟨g, r * 6 + 1, none⟩ (.int .i64 X.s)).setCell ⟨g, r * 6 + 2, none⟩ (.int .u64 X.q)).setCell ⟨g, r * 6 + 3, none⟩ (.int .i64 X.d)).setCell ⟨g, r * 6 + 4, none⟩ (.int .i64 X.k)).setCell ⟨g, r * 6 + 5, none⟩ (.int .i64 X.v)).setCell ⟨g, p * 6, none⟩ (.int .u64 Y.t)).setCell ⟨g, p * 6 + 1, none⟩ (.int .i64 Y.s)).setCell ⟨g, p * 6 + 2, none⟩ (.int .u64 Y.q)).setCell ⟨g, p * 6 + 3, none⟩ (.int .i64 Y.d)).setCell ⟨g, p * 6 + 4, none⟩ (.int .i64 Y.k)).setCell ⟨g, p * 6 + 5, none⟩ (.int .i64 Y.v)).drew) base g n cap (swp d p r) ∧ Kp g W ((((((((((((((W).setCell ⟨g, r * 6, none⟩ (.int .u64 X.t)).setCell ⟨g, r * 6 + 1, none⟩ (.int .i64 X.s)).setCell ⟨g, r * 6 + 2, none⟩ (.int .u64 X.q)).setCell ⟨g, r * 6 + 3, none⟩ (.int .i64 X.d)).setCell ⟨g, r * 6 + 4, none⟩ (.int .i64 X.k)).setCell ⟨g, r * 6 + 5, none⟩ (.int .i64 X.v)).setCell ⟨g, p * 6, none⟩ (.int .u64 Y.t)).setCell ⟨g, p * 6 + 1, none⟩ (.int .i64 Y.s)).setCell ⟨g, p * 6 + 2, none⟩ (.int .u64 Y.q)).setCell ⟨g, p * 6 + 3, none⟩ (.int .i64 Y.d)).setCell ⟨g, p * 6 + 4, none⟩ (.int .i64 Y.k)).setCell ⟨g, p * 6 + 5, none⟩ (.int .i64 Y.v)).drew) := by
  subst hX hY
  have h1 := (h.put r (d p)).put p (d r)
  rw [swp_sets'] at h1
  exact ⟨SRow.later h1 (drewS _), ((Kp.sets g (r * 6) W (seL (d p))).trans (Kp.sets g (p * 6) _ (seL (d r)))).trans (Kp.below (drewS _))⟩
set_option maxRecDepth 100000 in
set_option maxHeartbeats 1000000 in
theorem swr_any (fv : Value) (x y k : Nat) (hx : x + k ≤ y) (hy : y + k ≤ n) (hn : n ≤ 2932031007402) (W : World) (h : SRow W base g n cap c) : Calls Tryd.prog 78 #[.slice (some ⟨g, 0, none⟩) n cap, .int .i64 (x : Int), .int .i64 (y : Int), .int .i64 (k : Int), fv] W fun e W' => e = .returned (.tuple #[]) ∧ SRow W' base g n cap (swpR c x y k) ∧ Kp g W W' := by
  have HH : Hid (SRow W base g n cap c) := h
  clear h
  go_enter Tryd.func78, Tryd.ntmps78
  go_wp2_with fail
  go_loopw [10] (fun z wr => ∃ i : Nat, z = .int .i64 (i : Int) ∧ i ≤ k ∧ SRow wr base g n cap (swpR c x y i) ∧ Kp g W wr) (fun z _ => k - (intOf z).toNat)
  case atStart => exact ⟨0, rfl, Nat.zero_le _, by rw [swpR_zero]; exact HH.out, Kp.refl _ _⟩
  case round =>
    obtain ⟨i, rfl, hik, hr, hkp⟩ := hrel
    by_cases hlt : i < k
    · have dl : decide ((i : Int) < (k : Int)) = true := by simp; omega
      have hm := smeas hlt
      have e1 : IntKind.i64.wrap ((x : Int) + (i : Int)) = ((x + i : Nat) : Int) := by rw [IntKind.wrap_i64]; omega
      have e2 : IntKind.i64.wrap ((y : Int) + (i : Int)) = ((y + i : Nat) : Int) := by rw [IntKind.wrap_i64]; omega
      have e3 : IntKind.i64.wrap ((i : Int) + 1) = (i : Int) + 1 := by rw [IntKind.wrap_i64]; omega
      obtain ⟨p, hp⟩ : ∃ p, x + i = p := ⟨_, rfl⟩
      obtain ⟨r, hr'⟩ : ∃ r, y + i = r := ⟨_, rfl⟩
      have HPR : Hid (x + i = p ∧ y + i = r) := ⟨hp, hr'⟩
      rw [hp] at e1
      rw [hr'] at e2
      have p0 : (0 : Int) ≤ (p : Int) := by omega
      have p1 : (p : Int) < (n : Int) := by omega
      have r0 : (0 : Int) ≤ (r : Int) := by omega
      have r1 : (r : Int) < (n : Int) := by omega
      have hpr : p < r := by omega
      obtain ⟨a0, a1, a2, a3, a4, a5⟩ := hr.cells (i := p) (by omega)
      obtain ⟨b0, b1, b2, b3, b4, b5⟩ := hr.cells (i := r) (by omega)
      have fg := hr.fz
      have HR : Hid (SRow wr base g n cap (swpR c x y i)) := hr
      have HK : Hid (Kp g W wr) := hkp
      clear hr hkp hp hr'
      obtain ⟨X, hX⟩ : ∃ X, swpR c x y i p = X := ⟨_, rfl⟩
      obtain ⟨Y, hY⟩ : ∃ Y, swpR c x y i r = Y := ⟨_, rfl⟩
      have HXY : Hid (swpR c x y i p = X ∧ swpR c x y i r = Y) := ⟨hX, hY⟩
      rw [hX] at a0 a1 a2 a3 a4 a5
      rw [hY] at b0 b1 b2 b3 b4 b5
      clear hX hY
      have hne : ∀ u v, u < 6 → v < 6 → p * 6 + u ≠ r * 6 + v := fun u v _ _ => by omega
      go_upto_region 3 with fail
      go_region
      all_goals (
        go_wp2_with fail
        refine ⟨⟨i + 1, rfl, hlt, ?_⟩, hm⟩
        rw [swpR_succ _ _ _ _ (by omega), HPR.out.1, HPR.out.2]
        first | (with_reducible refine (swp_row HR.out p r X Y HXY.out.1 HXY.out.2).imp id fun z => HK.out.trans z) | (with_reducible refine (swp_row' HR.out p r X Y HXY.out.1 HXY.out.2).imp id fun z => HK.out.trans z))
    · have dl : decide ((i : Int) < (k : Int)) = false := by simp; omega
      obtain rfl : i = k := by omega
      go_wp2_with fail
      go_end0
      exact ⟨rfl, hr, hkp⟩
set_option maxRecDepth 100000 in
set_option maxHeartbeats 1000000 in
theorem rot_any (fv : Value) (a m b : Nat) (ha : a < m) (hb : m < b) (hbn : b ≤ n) (hn : n ≤ 2932031007402) (W : World) (h : SRow W base g n cap c) : Calls Tryd.prog 76 #[.slice (some ⟨g, 0, none⟩) n cap, .int .i64 (a : Int), .int .i64 (m : Int), .int .i64 (b : Int), fv] W fun e W' => e = .returned (.tuple #[]) ∧ SRow W' base g n cap (rotF c a m b) ∧ Kp g W W' := by
  have HH : Hid (SRow W base g n cap c) := h
  have e1 : IntKind.i64.wrap ((m : Int) - (a : Int)) = ((m - a : Nat) : Int) := by rw [IntKind.wrap_i64]; omega
  have e2 : IntKind.i64.wrap ((b : Int) - (m : Int)) = ((b - m : Nat) : Int) := by rw [IntKind.wrap_i64]; omega
  clear h
  go_enter Tryd.func76, Tryd.ntmps76
  go_wp2_with fail
  go_loopw [10, 11] (fun x y wr => ∃ (i j : Nat) (d : Nat → Se), x = .int .i64 (i : Int) ∧ y = .int .i64 (j : Int) ∧ 0 < i ∧ 0 < j ∧ i ≤ m - a ∧ j ≤ b - m ∧ SRow wr base g n cap d ∧ rotF d (m - i) m (m + j) = rotF c a m b ∧ Kp g W wr) (fun x y _ => (intOf x).toNat + (intOf y).toNat)
  case atStart => exact ⟨m - a, b - m, c, rfl, rfl, by omega, by omega, Nat.le_refl _, Nat.le_refl _, HH.out, by rw [show m - (m - a) = a by omega, show m + (b - m) = b by omega], Kp.refl _ _⟩
  case round =>
    obtain ⟨i, j, d, rfl, rfl, hi0, hj0, hi, hj, hr, hrot, hkp⟩ := hrel
    have f1 : IntKind.i64.wrap ((m : Int) - (i : Int)) = ((m - i : Nat) : Int) := by rw [IntKind.wrap_i64]; omega
    by_cases hij : i = j
    · subst hij
      have dn : ((i : Int) != (i : Int)) = false := by simp
      have HS := swr_any fv (m - i) m i (by omega) (by omega) hn wr hr
      rw [rot_eq d m i (by omega), hrot] at HS
      have HK : Hid (Kp g W wr) := hkp
      clear hr hrot hkp
      go_wp2_with (go_at_call 78; (with_reducible refine HS.mono ?_); rintro e w1 ⟨rfl, h1, h2⟩)
      go_end0
      exact ⟨rfl, h1, HK.out.trans h2⟩
    · have dn : ((i : Int) != (j : Int)) = true := by simp; omega
      by_cases hgt : j < i
      · have dg : decide ((j : Int) < (i : Int)) = true := by simp; omega
        have dg2 : decide (j < i) = true := by simp; omega
        have f2 : IntKind.i64.wrap ((i : Int) - (j : Int)) = ((i - j : Nat) : Int) := by rw [IntKind.wrap_i64]; omega
        have HS := swr_any fv (m - i) m j (by omega) (by omega) hn wr hr
        have hrot2 := (rot_gt d m i j (by omega) hj0 hgt).trans hrot
        have HK : Hid (Kp g W wr ∧ rotF (swpR d (m - i) m j) (m - (i - j)) m (m + j) = rotF c a m b) := ⟨hkp, hrot2⟩
        clear hr hrot hkp hrot2
        go_wp2_with (go_at_call 78; (with_reducible refine HS.mono ?_); rintro e w1 ⟨rfl, h1, h2⟩)
        refine ⟨⟨i - j, j, _, rfl, rfl, by omega, hj0, by omega, hj, h1, HK.out.2, HK.out.1.trans h2⟩, ?_⟩
        simp only [intOf]
        omega
      · have dg : decide ((j : Int) < (i : Int)) = false := by simp; omega
        have dg2 : decide (j < i) = false := by simp; omega
        have f2 : IntKind.i64.wrap ((j : Int) - (i : Int)) = ((j - i : Nat) : Int) := by rw [IntKind.wrap_i64]; omega
        have f3 : IntKind.i64.wrap ((m : Int) + (j : Int)) = (m : Int) + (j : Int) := by rw [IntKind.wrap_i64]; omega
        have f4 : IntKind.i64.wrap ((m : Int) + (j : Int) - (i : Int)) = ((m + j - i : Nat) : Int) := by rw [IntKind.wrap_i64]; omega
        have HS := swr_any fv (m - i) (m + j - i) i (by omega) (by omega) hn wr hr
        have hrot2 := (rot_lt d m i j (by omega) hi0 (by omega)).trans hrot
        have HK : Hid (Kp g W wr ∧ rotF (swpR d (m - i) (m + j - i) i) (m - i) m (m + (j - i)) = rotF c a m b) := ⟨hkp, hrot2⟩
        clear hr hrot hkp hrot2
        go_wp2_with (go_at_call 78; (with_reducible refine HS.mono ?_); rintro e w1 ⟨rfl, h1, h2⟩)
        refine ⟨⟨i, j - i, _, rfl, rfl, hi0, by omega, hi, by omega, h1, HK.out.2, HK.out.1.trans h2⟩, ?_⟩
        simp only [intOf]
        omega
end Go.Proofs.YtcifdlncbekohaaDoor
