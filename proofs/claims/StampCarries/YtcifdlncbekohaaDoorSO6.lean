import Derived.Test.YtcifdlncbekohaaDoorSO5
namespace Go.Proofs.YtcifdlncbekohaaDoor
open Go.ChangeShapes Go.WideShapes Go.ChangeAt Go.RowKit
set_option linter.unusedVariables false
set_option linter.unusedSimpArgs false
variable {base g n cap : Nat} {c : Nat → Se}

theorem left_self {α : Type} (c : Nat → α) (a : Nat) : rotF c a (a + 1) (a + 1) = c := by
  funext k
  unfold rotF
  rw [if_neg (by omega)]
  split
  · congr 1; omega
  · rfl
theorem left_step {α : Type} (c : Nat → α) (a k : Nat) (h : a ≤ k) : swp (rotF c a (a + 1) (k + 1)) k (k + 1) = rotF c a (a + 1) (k + 1 + 1) := by
  funext x
  unfold swp
  by_cases a1 : x = k
  · subst a1
    rw [if_pos rfl, rotF_out c (by omega) (by omega) (.inr (by omega)), rotF_lo c h (by omega)]
    congr 1
    omega
  · rw [if_neg a1]
    by_cases a2 : x = k + 1
    · subst a2
      rw [if_pos rfl, rotF_hi c (by omega) (by omega), rotF_hi c (by omega) (by omega)]
      congr 1
      omega
    · rw [if_neg a2]
      by_cases a3 : x < a
      · rw [rotF_out c (by omega) (by omega) (.inl a3), rotF_out c (by omega) (by omega) (.inl a3)]
      · by_cases a4 : x < k
        · rw [rotF_lo c (by omega) (by omega), rotF_lo c (by omega) (by omega)]
        · rw [rotF_out c (by omega) (by omega) (.inr (by omega)), rotF_out c (by omega) (by omega) (.inr (by omega))]
set_option maxRecDepth 100000 in
set_option maxHeartbeats 2000000 in
theorem sym_one (a m b : Nat) (hma : a + 1 = m) (hab : a + 1 < b) (hbn : b ≤ n) (hn : n ≤ 2932031007402) (hs : Srt klt (a + 1) b c) (W : World) (h : SRow W base g n cap c) : Calls Tryd.prog 68 #[.slice (some ⟨g, 0, none⟩) n cap, .int .i64 (a : Int), .int .i64 (m : Int), .int .i64 (b : Int), .func (.func 30) #[] #[]] W fun e W' => e = .returned (.tuple #[]) ∧ ∃ d, SRow W' base g n cap d ∧ Stb klt a b c d ∧ Srt klt a b d ∧ Kp g W W' := by
  have HH : Hid (SRow W base g n cap c) := h
  have HE := ceEnter
  have HS : Hid (Srt klt (a + 1) b c) := hs
  have e0 : IntKind.i64.wrap ((m : Int) - (a : Int)) = 1 := by rw [IntKind.wrap_i64]; omega
  have e00 : (((m : Int) - (a : Int)) == 1) = true := by simp; omega
  have HMA : Hid (a + 1 = m) := hma
  clear h hs hma
  go_enter Tryd.func68, Tryd.ntmps68
  go_wp2_with fail
  go_loopw [10, 11] (fun x y wr => ∃ i j : Nat, x = .int .i64 (i : Int) ∧ y = .int .i64 (j : Int) ∧ a + 1 ≤ i ∧ i ≤ j ∧ j ≤ b ∧ SRow wr base g n cap c ∧ (a + 1 < i → klt (c (i - 1)) (c a) = true) ∧ (j < b → klt (c j) (c a) = false) ∧ Kp g W wr) (fun x y _ => (intOf y).toNat - (intOf x).toNat)
  case atStart => exact ⟨m, b, rfl, rfl, by have := HMA.out; omega, by have := HMA.out; omega, Nat.le_refl _, HH.out, fun e => by have := HMA.out; omega, fun e => by omega, Kp.refl _ _⟩
  case round =>
    obtain ⟨i, j, rfl, rfl, h1, h2, h3, hr, hlo, hhi, hkp⟩ := hrel
    by_cases hlt : i < j
    · have dl : decide ((i : Int) < (j : Int)) = true := by simp; omega
      obtain ⟨mm, hm⟩ : ∃ mm, (i + j) / 2 = mm := ⟨_, rfl⟩
      have em : ((i : Int) + (j : Int)) / 2 = (mm : Int) := by omega
      have e1 : IntKind.i64.wrap ((i : Int) + (j : Int)) = ((i + j : Nat) : Int) := by rw [IntKind.wrap_i64]; omega
      have e3 : IntKind.i64.wrap ((mm : Int) + 1) = ((mm + 1 : Nat) : Int) := by rw [IntKind.wrap_i64]; omega
      have m0 : (0 : Int) ≤ (mm : Int) := by omega
      have m1 : (mm : Int) < (n : Int) := by omega
      have q0 : (0 : Int) ≤ (a : Int) := by omega
      have q1 : (a : Int) < (n : Int) := by omega
      have HK : Hid (Kp g W wr ∧ (a + 1 < i → klt (c (i - 1)) (c a) = true) ∧ (j < b → klt (c j) (c a) = false)) := ⟨hkp, hlo, hhi⟩
      clear hkp hlo hhi
      have HC := fun w' => cev_any (c mm) (c a) w'
      obtain ⟨X, hX2⟩ : ∃ X, c mm = X := ⟨_, rfl⟩
      obtain ⟨Y, hY2⟩ : ∃ Y, c a = Y := ⟨_, rfl⟩
      obtain ⟨a0, a1, a2, a3, a4, a5⟩ := hr.cells (i := mm) (by omega)
      obtain ⟨b0, b1, b2, b3, b4, b5⟩ := hr.cells (i := a) (by omega)
      rw [hX2] at a0 a1 a2 a3 a4 a5
      rw [hY2] at b0 b1 b2 b3 b4 b5
      rw [hX2, hY2] at HC
      obtain ⟨q, hq⟩ : ∃ q, decide (kc X Y < 0) = q := ⟨_, rfl⟩
      have HX : Hid (c mm = X ∧ c a = Y ∧ klt X Y = q) := ⟨hX2, hY2, hq⟩
      have HR2 : Hid (SRow wr base g n cap c) := hr
      clear hX2 hY2
      generalize kc X Y = kk at HC hq
      go_upto_region 5 with fail
      go_region_held3 (fun w' => (((w'.cell? ⟨g, mm * 6, none⟩ = some (.int .u64 X.t) ∧ (w'.cell? ⟨g, mm * 6 + 1, none⟩ = some (.int .i64 X.s) ∧ w'.cell? ⟨g, mm * 6 + 2, none⟩ = some (.int .u64 X.q))) ∧ (w'.cell? ⟨g, mm * 6 + 3, none⟩ = some (.int .i64 X.d) ∧ (w'.cell? ⟨g, mm * 6 + 4, none⟩ = some (.int .i64 X.k) ∧ w'.cell? ⟨g, mm * 6 + 5, none⟩ = some (.int .i64 X.v)))) ∧ ((w'.cell? ⟨g, a * 6, none⟩ = some (.int .u64 Y.t) ∧ (w'.cell? ⟨g, a * 6 + 1, none⟩ = some (.int .i64 Y.s) ∧ w'.cell? ⟨g, a * 6 + 2, none⟩ = some (.int .u64 Y.q))) ∧ (w'.cell? ⟨g, a * 6 + 3, none⟩ = some (.int .i64 Y.d) ∧ (w'.cell? ⟨g, a * 6 + 4, none⟩ = some (.int .i64 Y.k) ∧ w'.cell? ⟨g, a * 6 + 5, none⟩ = some (.int .i64 Y.v)))))) (first | exact s6 | go_keep) ((go_at_call 30; (with_reducible refine (HC _).mono ?_); rintro e w1 ⟨rfl, hb1⟩; have hB1 : Below wr.heap.size wr w1 := (by first | exact hb1 | exact (drewS _).trans hb1 | exact (below_drewNq _ _ _).trans hb1); have hr3 := HR2.out.later hB1; obtain ⟨a0, a1, a2, a3, a4, a5⟩ := hr3.cells (i := mm) (by omega); obtain ⟨b0, b1, b2, b3, b4, b5⟩ := hr3.cells (i := a) (by omega); rw [HX.out.1] at a0 a1 a2 a3 a4 a5; rw [HX.out.2.1] at b0 b1 b2 b3 b4 b5; have s6 : (((w1.cell? ⟨g, mm * 6, none⟩ = some (.int .u64 X.t) ∧ (w1.cell? ⟨g, mm * 6 + 1, none⟩ = some (.int .i64 X.s) ∧ w1.cell? ⟨g, mm * 6 + 2, none⟩ = some (.int .u64 X.q))) ∧ (w1.cell? ⟨g, mm * 6 + 3, none⟩ = some (.int .i64 X.d) ∧ (w1.cell? ⟨g, mm * 6 + 4, none⟩ = some (.int .i64 X.k) ∧ w1.cell? ⟨g, mm * 6 + 5, none⟩ = some (.int .i64 X.v)))) ∧ ((w1.cell? ⟨g, a * 6, none⟩ = some (.int .u64 Y.t) ∧ (w1.cell? ⟨g, a * 6 + 1, none⟩ = some (.int .i64 Y.s) ∧ w1.cell? ⟨g, a * 6 + 2, none⟩ = some (.int .u64 Y.q))) ∧ (w1.cell? ⟨g, a * 6 + 3, none⟩ = some (.int .i64 Y.d) ∧ (w1.cell? ⟨g, a * 6 + 4, none⟩ = some (.int .i64 Y.k) ∧ w1.cell? ⟨g, a * 6 + 5, none⟩ = some (.int .i64 Y.v))))) := ⟨⟨⟨a0, a1, a2⟩, a3, a4, a5⟩, ⟨b0, b1, b2⟩, b3, b4, b5⟩; have HR3 : Hid (SRow w1 base g n cap c ∧ Kp g wr w1) := ⟨hr3, Kp.below hB1⟩; clear hb1 hB1 hr3))
      all_goals (
        cases q
        · go_wp2_with fail
          refine ⟨⟨i, mm, rfl, rfl, h1, by omega, by omega, HR3.out.1, HK.out.2.1, fun _ => by rw [HX.out.1, HX.out.2.1]; exact HX.out.2.2, HK.out.1.trans HR3.out.2⟩, by simp only [intOf]; omega⟩
        · go_wp2_with fail
          refine ⟨⟨mm + 1, j, rfl, rfl, by omega, by omega, h3, HR3.out.1, fun _ => by rw [show mm + 1 - 1 = mm by omega, HX.out.1, HX.out.2.1]; exact HX.out.2.2, HK.out.2.2, HK.out.1.trans HR3.out.2⟩, by simp only [intOf]; omega⟩)
    · have dl : decide ((i : Int) < (j : Int)) = false := by simp; omega
      obtain rfl : i = j := by omega
      have ei : IntKind.i64.wrap ((i : Int) - 1) = ((i - 1 : Nat) : Int) := by rw [IntKind.wrap_i64]; omega
      obtain ⟨t, ht⟩ : ∃ t, i - 1 = t := ⟨_, rfl⟩
      rw [ht] at ei
      have HZ : Hid (SRow wr base g n cap c ∧ (a + 1 < i → klt (c (i - 1)) (c a) = true) ∧ (i < b → klt (c i) (c a) = false) ∧ Kp g W wr ∧ i - 1 = t) := ⟨hr, hlo, hhi, hkp, ht⟩
      have hat : a ≤ t := by omega
      have htn : t + 1 ≤ b := by omega
      clear hr hlo hhi hkp ht
      go_wp2_with fail
      go_loopw [13] (fun z wr' => ∃ k : Nat, z = .int .i64 (k : Int) ∧ a ≤ k ∧ k ≤ t ∧ SRow wr' base g n cap (rotF c a (a + 1) (k + 1)) ∧ Kp g W wr') (fun z _ => t - (intOf z).toNat)
      case atStart => exact ⟨a, rfl, Nat.le_refl _, hat, by rw [left_self]; exact HZ.out.1, HZ.out.2.2.2.1⟩
      case round =>
        obtain ⟨k, rfl, hak, hkt, hr2, hkp2⟩ := hrel
        by_cases hlt2 : k < t
        · have dk : decide ((k : Int) < (t : Int)) = true := by simp; omega
          have ek : IntKind.i64.wrap ((k : Int) + 1) = ((k + 1 : Nat) : Int) := by rw [IntKind.wrap_i64]; omega
          obtain ⟨r, hr9⟩ : ∃ r, k + 1 = r := ⟨_, rfl⟩
          have HR9 : Hid (k + 1 = r) := hr9
          rw [hr9] at ek
          have k0 : (0 : Int) ≤ (k : Int) := by omega
          have k1 : (k : Int) < (n : Int) := by omega
          have r0 : (0 : Int) ≤ (r : Int) := by omega
          have r1 : (r : Int) < (n : Int) := by omega
          have hkr : k < r := by omega
          clear hr9
          obtain ⟨a0, a1, a2, a3, a4, a5⟩ := hr2.cells (i := k) (by omega)
          obtain ⟨b0, b1, b2, b3, b4, b5⟩ := hr2.cells (i := r) (by omega)
          have fg := hr2.fz
          obtain ⟨X, hX⟩ : ∃ X, rotF c a (a + 1) (k + 1) k = X := ⟨_, rfl⟩
          obtain ⟨Y, hY⟩ : ∃ Y, rotF c a (a + 1) (k + 1) r = Y := ⟨_, rfl⟩
          have HXY : Hid (rotF c a (a + 1) (k + 1) k = X ∧ rotF c a (a + 1) (k + 1) r = Y) := ⟨hX, hY⟩
          rw [hX] at a0 a1 a2 a3 a4 a5
          rw [hY] at b0 b1 b2 b3 b4 b5
          have HR2 : Hid (SRow wr base g n cap (rotF c a (a + 1) (k + 1)) ∧ Kp g W wr) := ⟨hr2, hkp2⟩
          clear hX hY hr2 hkp2
          go_upto_region 11 with fail
          go_region
          all_goals (
            go_wp2_with fail
            have hr9 := HR9.out
            refine ⟨⟨r, rfl, by omega, by omega, ?_⟩, by simp only [intOf]; omega⟩
            have hst : swp (rotF c a (a + 1) (k + 1)) k r = rotF c a (a + 1) (r + 1) := by rw [← hr9]; exact left_step c a k hak
            rw [← hst]
            first | (with_reducible refine (swp_row HR2.out.1 k r X Y HXY.out.1 HXY.out.2).imp id fun z => HR2.out.2.trans z) | (with_reducible refine (swp_row' HR2.out.1 k r X Y HXY.out.1 HXY.out.2).imp id fun z => HR2.out.2.trans z))
        · have dk : decide ((k : Int) < (t : Int)) = false := by simp; omega
          obtain rfl : k = t := by omega
          go_wp2_with fail
          (first | go_end0 | go_returns)
          have hi := HZ.out.2.2.2.2
          obtain ⟨s1, s2⟩ := ins_left klt_ord (j := k + 1) (by omega) htn HS.out (fun e => by have := HZ.out.2.1 (by omega); rw [show i - 1 = k + 1 - 1 by omega] at this; exact this) (fun e => by have := HZ.out.2.2.1 (by omega); rw [show i = k + 1 by omega] at this; exact this)
          exact ⟨rfl, _, hr2, s1, s2, hkp2⟩
set_option maxRecDepth 100000 in
set_option maxHeartbeats 2000000 in
theorem sym_last (a m b : Nat) (hmb : m + 1 = b) (ham : a + 1 < m) (hbn : m + 1 ≤ n) (hn : n ≤ 2932031007402) (hs : Srt klt a m c) (W : World) (h : SRow W base g n cap c) : Calls Tryd.prog 68 #[.slice (some ⟨g, 0, none⟩) n cap, .int .i64 (a : Int), .int .i64 (m : Int), .int .i64 (b : Int), .func (.func 30) #[] #[]] W fun e W' => e = .returned (.tuple #[]) ∧ ∃ d, SRow W' base g n cap d ∧ Stb klt a b c d ∧ Srt klt a b d ∧ Kp g W W' := by
  have HH : Hid (SRow W base g n cap c) := h
  have HE := ceEnter
  have HS : Hid (Srt klt a m c) := hs
  have e0 : IntKind.i64.wrap ((m : Int) - (a : Int)) = ((m - a : Nat) : Int) := by rw [IntKind.wrap_i64]; omega
  have e00 : (((m - a : Nat) : Int) == 1) = false := by simp; omega
  have e01 : (((m : Int) - (a : Int)) == 1) = false := by simp; omega
  have e02 : IntKind.i64.wrap ((b : Int) - (m : Int)) = 1 := by rw [IntKind.wrap_i64]; omega
  have e03 : (((b : Int) - (m : Int)) == 1) = true := by simp; omega
  have HMB : Hid (m + 1 = b) := hmb
  clear h hs hmb
  go_enter Tryd.func68, Tryd.ntmps68
  go_wp2_with fail
  go_loopw [14, 15] (fun x y wr => ∃ i j : Nat, x = .int .i64 (i : Int) ∧ y = .int .i64 (j : Int) ∧ a ≤ i ∧ i ≤ j ∧ j ≤ m ∧ SRow wr base g n cap c ∧ (a < i → klt (c m) (c (i - 1)) = false) ∧ (j < m → klt (c m) (c j) = true) ∧ Kp g W wr) (fun x y _ => (intOf y).toNat - (intOf x).toNat)
  case atStart => exact ⟨a, m, rfl, rfl, Nat.le_refl _, by omega, Nat.le_refl _, HH.out, fun e => by omega, fun e => by omega, Kp.refl _ _⟩
  case round =>
    obtain ⟨i, j, rfl, rfl, h1, h2, h3, hr, hlo, hhi, hkp⟩ := hrel
    by_cases hlt : i < j
    · have dl : decide ((i : Int) < (j : Int)) = true := by simp; omega
      obtain ⟨p, hp⟩ : ∃ p, (i + j) / 2 = p := ⟨_, rfl⟩
      have em : ((i : Int) + (j : Int)) / 2 = (p : Int) := by omega
      have e1 : IntKind.i64.wrap ((i : Int) + (j : Int)) = ((i + j : Nat) : Int) := by rw [IntKind.wrap_i64]; omega
      have e3 : IntKind.i64.wrap ((p : Int) + 1) = ((p + 1 : Nat) : Int) := by rw [IntKind.wrap_i64]; omega
      have m0 : (0 : Int) ≤ (p : Int) := by omega
      have m1 : (p : Int) < (n : Int) := by omega
      have q0 : (0 : Int) ≤ (m : Int) := by omega
      have q1 : (m : Int) < (n : Int) := by omega
      have HK : Hid (Kp g W wr ∧ (a < i → klt (c m) (c (i - 1)) = false) ∧ (j < m → klt (c m) (c j) = true)) := ⟨hkp, hlo, hhi⟩
      clear hkp hlo hhi
      have HC := fun w' => cev_any (c m) (c p) w'
      obtain ⟨X, hX2⟩ : ∃ X, c m = X := ⟨_, rfl⟩
      obtain ⟨Y, hY2⟩ : ∃ Y, c p = Y := ⟨_, rfl⟩
      obtain ⟨a0, a1, a2, a3, a4, a5⟩ := hr.cells (i := m) (by omega)
      obtain ⟨b0, b1, b2, b3, b4, b5⟩ := hr.cells (i := p) (by omega)
      rw [hX2] at a0 a1 a2 a3 a4 a5
      rw [hY2] at b0 b1 b2 b3 b4 b5
      rw [hX2, hY2] at HC
      obtain ⟨q, hq⟩ : ∃ q, decide (kc X Y < 0) = q := ⟨_, rfl⟩
      have HX : Hid (c m = X ∧ c p = Y ∧ klt X Y = q) := ⟨hX2, hY2, hq⟩
      have HR2 : Hid (SRow wr base g n cap c) := hr
      clear hX2 hY2
      generalize kc X Y = kk at HC hq
      go_upto_region 17 with fail
      go_region_held3 (fun w' => (((w'.cell? ⟨g, m * 6, none⟩ = some (.int .u64 X.t) ∧ (w'.cell? ⟨g, m * 6 + 1, none⟩ = some (.int .i64 X.s) ∧ w'.cell? ⟨g, m * 6 + 2, none⟩ = some (.int .u64 X.q))) ∧ (w'.cell? ⟨g, m * 6 + 3, none⟩ = some (.int .i64 X.d) ∧ (w'.cell? ⟨g, m * 6 + 4, none⟩ = some (.int .i64 X.k) ∧ w'.cell? ⟨g, m * 6 + 5, none⟩ = some (.int .i64 X.v)))) ∧ ((w'.cell? ⟨g, p * 6, none⟩ = some (.int .u64 Y.t) ∧ (w'.cell? ⟨g, p * 6 + 1, none⟩ = some (.int .i64 Y.s) ∧ w'.cell? ⟨g, p * 6 + 2, none⟩ = some (.int .u64 Y.q))) ∧ (w'.cell? ⟨g, p * 6 + 3, none⟩ = some (.int .i64 Y.d) ∧ (w'.cell? ⟨g, p * 6 + 4, none⟩ = some (.int .i64 Y.k) ∧ w'.cell? ⟨g, p * 6 + 5, none⟩ = some (.int .i64 Y.v)))))) (first | exact s6 | go_keep) ((go_at_call 30; (with_reducible refine (HC _).mono ?_); rintro e w1 ⟨rfl, hb1⟩; have hB1 : Below wr.heap.size wr w1 := (by first | exact hb1 | exact (drewS _).trans hb1 | exact (below_drewNq _ _ _).trans hb1); have hr3 := HR2.out.later hB1; obtain ⟨a0, a1, a2, a3, a4, a5⟩ := hr3.cells (i := m) (by omega); obtain ⟨b0, b1, b2, b3, b4, b5⟩ := hr3.cells (i := p) (by omega); rw [HX.out.1] at a0 a1 a2 a3 a4 a5; rw [HX.out.2.1] at b0 b1 b2 b3 b4 b5; have s6 : (((w1.cell? ⟨g, m * 6, none⟩ = some (.int .u64 X.t) ∧ (w1.cell? ⟨g, m * 6 + 1, none⟩ = some (.int .i64 X.s) ∧ w1.cell? ⟨g, m * 6 + 2, none⟩ = some (.int .u64 X.q))) ∧ (w1.cell? ⟨g, m * 6 + 3, none⟩ = some (.int .i64 X.d) ∧ (w1.cell? ⟨g, m * 6 + 4, none⟩ = some (.int .i64 X.k) ∧ w1.cell? ⟨g, m * 6 + 5, none⟩ = some (.int .i64 X.v)))) ∧ ((w1.cell? ⟨g, p * 6, none⟩ = some (.int .u64 Y.t) ∧ (w1.cell? ⟨g, p * 6 + 1, none⟩ = some (.int .i64 Y.s) ∧ w1.cell? ⟨g, p * 6 + 2, none⟩ = some (.int .u64 Y.q))) ∧ (w1.cell? ⟨g, p * 6 + 3, none⟩ = some (.int .i64 Y.d) ∧ (w1.cell? ⟨g, p * 6 + 4, none⟩ = some (.int .i64 Y.k) ∧ w1.cell? ⟨g, p * 6 + 5, none⟩ = some (.int .i64 Y.v))))) := ⟨⟨⟨a0, a1, a2⟩, a3, a4, a5⟩, ⟨b0, b1, b2⟩, b3, b4, b5⟩; have HR3 : Hid (SRow w1 base g n cap c ∧ Kp g wr w1) := ⟨hr3, Kp.below hB1⟩; clear hb1 hB1 hr3))
      all_goals (
        cases q
        · go_wp2_with fail
          refine ⟨⟨p + 1, j, rfl, rfl, by omega, by omega, h3, HR3.out.1, fun _ => by rw [show p + 1 - 1 = p by omega, HX.out.1, HX.out.2.1]; exact HX.out.2.2, HK.out.2.2, HK.out.1.trans HR3.out.2⟩, by simp only [intOf]; omega⟩
        · go_wp2_with fail
          refine ⟨⟨i, p, rfl, rfl, h1, by omega, by omega, HR3.out.1, HK.out.2.1, fun _ => by rw [HX.out.1, HX.out.2.1]; exact HX.out.2.2, HK.out.1.trans HR3.out.2⟩, by simp only [intOf]; omega⟩)
    · have dl : decide ((i : Int) < (j : Int)) = false := by simp; omega
      obtain rfl : i = j := by omega
      have HZ : Hid (SRow wr base g n cap c ∧ (a < i → klt (c m) (c (i - 1)) = false) ∧ (i < m → klt (c m) (c i) = true) ∧ Kp g W wr) := ⟨hr, hlo, hhi, hkp⟩
      clear hr hlo hhi hkp
      go_wp2_with fail
      go_loopw [17] (fun z wr' => ∃ k : Nat, z = .int .i64 (k : Int) ∧ i ≤ k ∧ k ≤ m ∧ SRow wr' base g n cap (rotF c k m (m + 1)) ∧ Kp g W wr') (fun z _ => (intOf z).toNat)
      case atStart => exact ⟨m, rfl, h3, Nat.le_refl _, by rw [rot_self]; exact HZ.out.1, HZ.out.2.2.2⟩
      case round =>
        obtain ⟨k, rfl, hik, hkm, hr2, hkp2⟩ := hrel
        by_cases hlt2 : i < k
        · have dk : decide ((i : Int) < (k : Int)) = true := by simp; omega
          have dk2 : decide (i < k) = true := by simp; omega
          have ek : IntKind.i64.wrap ((k : Int) - 1) = ((k - 1 : Nat) : Int) := by rw [IntKind.wrap_i64]; omega
          obtain ⟨r, hr9⟩ : ∃ r, k - 1 = r := ⟨_, rfl⟩
          have HR9 : Hid (k - 1 = r) := hr9
          rw [hr9] at ek
          have k0 : (0 : Int) ≤ (k : Int) := by omega
          have k1 : (k : Int) < (n : Int) := by omega
          have r0 : (0 : Int) ≤ (r : Int) := by omega
          have r1 : (r : Int) < (n : Int) := by omega
          have hkr : r < k := by omega
          clear hr9
          obtain ⟨a0, a1, a2, a3, a4, a5⟩ := hr2.cells (i := k) (by omega)
          obtain ⟨b0, b1, b2, b3, b4, b5⟩ := hr2.cells (i := r) (by omega)
          have fg := hr2.fz
          obtain ⟨X, hX⟩ : ∃ X, rotF c k m (m + 1) k = X := ⟨_, rfl⟩
          obtain ⟨Y, hY⟩ : ∃ Y, rotF c k m (m + 1) r = Y := ⟨_, rfl⟩
          have HXY : Hid (rotF c k m (m + 1) k = X ∧ rotF c k m (m + 1) r = Y) := ⟨hX, hY⟩
          rw [hX] at a0 a1 a2 a3 a4 a5
          rw [hY] at b0 b1 b2 b3 b4 b5
          have HR2 : Hid (SRow wr base g n cap (rotF c k m (m + 1)) ∧ Kp g W wr) := ⟨hr2, hkp2⟩
          clear hX hY hr2 hkp2
          go_upto_region 23 with fail
          go_region
          all_goals (
            go_wp2_with fail
            have hr9 := HR9.out
            refine ⟨⟨r, rfl, by omega, by omega, ?_⟩, by simp only [intOf]; omega⟩
            have hst := ins_step c m k (by omega) hkm
            rw [hr9] at hst
            rw [← hst]
            first | (with_reducible refine (swp_row HR2.out.1 k r X Y HXY.out.1 HXY.out.2).imp id fun z => HR2.out.2.trans z) | (with_reducible refine (swp_row' HR2.out.1 k r X Y HXY.out.1 HXY.out.2).imp id fun z => HR2.out.2.trans z))
        · have dk : decide ((i : Int) < (k : Int)) = false := by simp; omega
          have dk2 : decide (i < k) = false := by simp; omega
          obtain rfl : k = i := by omega
          go_wp2_with fail
          (first | go_end0 | go_returns)
          obtain ⟨s1, s2⟩ := ins_right klt_ord h1 h3 HS.out (fun x x1 x2 => klt_ord.lt_le (HZ.out.2.2.1 (by omega)) (HS.out.le klt_ord h1 x1 x2)) HZ.out.2.1
          rw [HMB.out] at s1 s2 hr2
          exact ⟨rfl, _, hr2, s1, s2, hkp2⟩
end Go.Proofs.YtcifdlncbekohaaDoor
