import Derived.Test.YtagchghhpggnlaaGreatZSO4
namespace Go.Proofs.YtagchghhpggnlaaGreat
open Go.ChangeShapes Go.WideShapes Go.ChangeAt Go.RowKit
set_option linter.unusedVariables false
set_option linter.unusedSimpArgs false
variable {base g n cap : Nat} {c : Nat → Se}

theorem rot_self {α : Type} (d : Nat → α) (i : Nat) : rotF d i i (i + 1) = d := by
  funext k
  unfold rotF
  split
  · congr 1; omega
  · rw [if_neg (by omega)]
theorem ins_step {α : Type} (d : Nat → α) (i j : Nat) (h0 : 0 < j) (hj : j ≤ i) : swp (rotF d j i (i + 1)) j (j - 1) = rotF d (j - 1) i (i + 1) := by
  funext k
  have e1 : i + 1 - i = 1 := by omega
  unfold swp
  by_cases a1 : k = j
  · subst a1
    rw [if_pos rfl, rotF_out d (by omega) hj (.inl (by omega)), rotF_hi d (by omega) (by omega), e1]
  · rw [if_neg a1]
    by_cases a2 : k = j - 1
    · subst a2
      rw [if_pos rfl, rotF_lo d (Nat.le_refl _) (by omega), rotF_lo d (Nat.le_refl _) (by omega)]
      congr 1
      omega
    · rw [if_neg a2]
      by_cases a3 : k < j - 1
      · rw [rotF_out d (by omega) hj (.inl (by omega)), rotF_out d (by omega) (by omega) (.inl (by omega))]
      · by_cases a4 : k < i + 1
        · rw [rotF_hi d (by omega) a4, rotF_hi d (by omega) a4]
        · rw [rotF_out d (by omega) hj (.inr (by omega)), rotF_out d (by omega) (by omega) (.inr (by omega))]
theorem ceEnter (args : Array Value) (W : World) : Sem.run Tryz.prog (callFunc 62 args) W = .ok (.enter 62 args) W := by go_simp
abbrev fvE : Value := .func (.func 62) #[] #[]
set_option maxRecDepth 100000 in
set_option maxHeartbeats 2000000 in
theorem isort_any (a b : Nat) (hab : a ≤ b) (hbn : b ≤ n) (hn : n ≤ 2932031007402) (W : World) (h : SRow W base g n cap c) : Calls Tryz.prog 152 #[.slice (some ⟨g, 0, none⟩) n cap, .int .i64 (a : Int), .int .i64 (b : Int), .func (.func 62) #[] #[]] W fun e W' => e = .returned (.tuple #[]) ∧ ∃ d, SRow W' base g n cap d ∧ Stb klt a b c d ∧ Srt klt a b d ∧ Kp g W W' := by
  have HH : Hid (SRow W base g n cap c) := h
  have HE := ceEnter
  have e0 : IntKind.i64.wrap ((a : Int) + 1) = ((a + 1 : Nat) : Int) := by rw [IntKind.wrap_i64]; omega
  clear h
  go_enter Tryz.func152, Tryz.ntmps152
  go_wp2_with fail
  go_loopw [8] (fun x wr => ∃ (i : Nat) (d : Nat → Se), x = .int .i64 (i : Int) ∧ a + 1 ≤ i ∧ (i ≤ b ∨ i = a + 1) ∧ SRow wr base g n cap d ∧ Stb klt a b c d ∧ Srt klt a i d ∧ Kp g W wr) (fun x _ => b - (intOf x).toNat)
  case atStart => exact ⟨a + 1, c, rfl, Nat.le_refl _, .inr rfl, HH.out, Stb.refl _ _ _, Srt.small (by omega), Kp.refl _ _⟩
  case round =>
    obtain ⟨i, d, rfl, hai, hib, hr, hst, hso, hkp⟩ := hrel
    by_cases hlt : i < b
    · have dl : decide ((i : Int) < (b : Int)) = true := by simp; omega
      have hm := smeas hlt
      have ei : IntKind.i64.wrap ((i : Int) + 1) = (i : Int) + 1 := by rw [IntKind.wrap_i64]; omega
      have HR : Hid (SRow wr base g n cap d ∧ Stb klt a b c d ∧ Srt klt a i d ∧ Kp g W wr) := ⟨hr, hst, hso, hkp⟩
      clear hr hst hso hkp
      go_wp2_with fail
      go_loopw [9] (fun y wr' => ∃ j : Nat, y = .int .i64 (j : Int) ∧ a ≤ j ∧ j ≤ i ∧ SRow wr' base g n cap (rotF d j i (i + 1)) ∧ (∀ x, j ≤ x → x < i → klt (d i) (d x) = true) ∧ Kp g W wr') (fun y _ => (intOf y).toNat)
      case atStart => exact ⟨i, rfl, by omega, Nat.le_refl _, by rw [rot_self]; exact HR.out.1, fun x h1 h2 => by omega, HR.out.2.2.2⟩
      case round =>
        obtain ⟨j, rfl, haj, hji, hr2, hall, hkp2⟩ := hrel
        by_cases hja : a < j
        · have dj : decide ((a : Int) < (j : Int)) = true := by simp; omega
          have dj2 : decide (a < j) = true := by simp; omega
          have ej : IntKind.i64.wrap ((j : Int) - 1) = ((j - 1 : Nat) : Int) := by rw [IntKind.wrap_i64]; omega
          obtain ⟨p, hp⟩ : ∃ p, j - 1 = p := ⟨_, rfl⟩
          rw [hp] at ej
          have hpj : p < j := by omega
          have j0 : (0 : Int) ≤ (j : Int) := by omega
          have j1 : (j : Int) < (n : Int) := by omega
          have p0 : (0 : Int) ≤ (p : Int) := by omega
          have p1 : (p : Int) < (n : Int) := by omega
          have hX : rotF d j i (i + 1) j = d i := by
            rw [rotF_lo d (Nat.le_refl _) (by omega)]
            congr 1
            omega
          have hY : rotF d j i (i + 1) p = d p := rotF_out d (by omega) hji (.inl hpj)
          have HC := fun w' => cev_any (d i) (d p) w'
          obtain ⟨X, hX2⟩ : ∃ X, d i = X := ⟨_, rfl⟩
          obtain ⟨Y, hY2⟩ : ∃ Y, d p = Y := ⟨_, rfl⟩
          rw [hX2] at hX HC
          rw [hY2] at hY HC
          obtain ⟨a0, a1, a2, a3, a4, a5⟩ := hr2.cells (i := j) (by omega)
          obtain ⟨b0, b1, b2, b3, b4, b5⟩ := hr2.cells (i := p) (by omega)
          rw [hX] at a0 a1 a2 a3 a4 a5
          rw [hY] at b0 b1 b2 b3 b4 b5
          obtain ⟨q, hq⟩ : ∃ q, decide (kc X Y < 0) = q := ⟨_, rfl⟩
          have HX : Hid (rotF d j i (i + 1) j = X ∧ rotF d j i (i + 1) p = Y ∧ d i = X ∧ d p = Y ∧ klt X Y = q ∧ j - 1 = p) := ⟨hX, hY, hX2, hY2, hq, hp⟩
          have HR2 : Hid (SRow wr base g n cap (rotF d j i (i + 1)) ∧ (∀ x, j ≤ x → x < i → klt (d i) (d x) = true) ∧ Kp g W wr) := ⟨hr2, hall, hkp2⟩
          have HGL : Hid (g < wr.heap.size) := hr2.lt.2
          clear hX hY hX2 hY2 hr2 hall hkp2 hp
          generalize kc X Y = kk at HC hq
          go_upto_region 4 with fail
          go_region_held3 (fun w' => (((w'.cell? ⟨g, j * 6, none⟩ = some (.int .u64 X.t) ∧ (w'.cell? ⟨g, j * 6 + 1, none⟩ = some (.int .i64 X.s) ∧ w'.cell? ⟨g, j * 6 + 2, none⟩ = some (.int .u64 X.q))) ∧ (w'.cell? ⟨g, j * 6 + 3, none⟩ = some (.int .i64 X.d) ∧ (w'.cell? ⟨g, j * 6 + 4, none⟩ = some (.int .i64 X.k) ∧ w'.cell? ⟨g, j * 6 + 5, none⟩ = some (.int .i64 X.v)))) ∧ ((w'.cell? ⟨g, p * 6, none⟩ = some (.int .u64 Y.t) ∧ (w'.cell? ⟨g, p * 6 + 1, none⟩ = some (.int .i64 Y.s) ∧ w'.cell? ⟨g, p * 6 + 2, none⟩ = some (.int .u64 Y.q))) ∧ (w'.cell? ⟨g, p * 6 + 3, none⟩ = some (.int .i64 Y.d) ∧ (w'.cell? ⟨g, p * 6 + 4, none⟩ = some (.int .i64 Y.k) ∧ w'.cell? ⟨g, p * 6 + 5, none⟩ = some (.int .i64 Y.v)))))) (first | exact s6 | go_keep) ((go_at_call 62; (with_reducible refine (HC _).mono ?_); rintro e w1 ⟨rfl, hb1⟩; have hB1 : Below wr.heap.size wr w1 := (by first | exact hb1 | exact (drewS _).trans hb1 | exact (below_drewNq _ _ _).trans hb1); have hr3 := HR2.out.1.later hB1; obtain ⟨a0, a1, a2, a3, a4, a5⟩ := hr3.cells (i := j) (by omega); obtain ⟨b0, b1, b2, b3, b4, b5⟩ := hr3.cells (i := p) (by omega); rw [HX.out.1] at a0 a1 a2 a3 a4 a5; rw [HX.out.2.1] at b0 b1 b2 b3 b4 b5; have fg := hr3.fz; have s6 : (((w1.cell? ⟨g, j * 6, none⟩ = some (.int .u64 X.t) ∧ (w1.cell? ⟨g, j * 6 + 1, none⟩ = some (.int .i64 X.s) ∧ w1.cell? ⟨g, j * 6 + 2, none⟩ = some (.int .u64 X.q))) ∧ (w1.cell? ⟨g, j * 6 + 3, none⟩ = some (.int .i64 X.d) ∧ (w1.cell? ⟨g, j * 6 + 4, none⟩ = some (.int .i64 X.k) ∧ w1.cell? ⟨g, j * 6 + 5, none⟩ = some (.int .i64 X.v)))) ∧ ((w1.cell? ⟨g, p * 6, none⟩ = some (.int .u64 Y.t) ∧ (w1.cell? ⟨g, p * 6 + 1, none⟩ = some (.int .i64 Y.s) ∧ w1.cell? ⟨g, p * 6 + 2, none⟩ = some (.int .u64 Y.q))) ∧ (w1.cell? ⟨g, p * 6 + 3, none⟩ = some (.int .i64 Y.d) ∧ (w1.cell? ⟨g, p * 6 + 4, none⟩ = some (.int .i64 Y.k) ∧ w1.cell? ⟨g, p * 6 + 5, none⟩ = some (.int .i64 Y.v))))) := ⟨⟨⟨a0, a1, a2⟩, a3, a4, a5⟩, ⟨b0, b1, b2⟩, b3, b4, b5⟩; have HR3 : Hid (SRow w1 base g n cap (rotF d j i (i + 1)) ∧ Kp g W w1) := ⟨hr3, HR2.out.2.2.trans (Kp.below hB1)⟩; clear hb1 hB1 hr3))
          all_goals (
            cases q
            · go_wp2_with fail
              obtain ⟨s1, s2⟩ := ins_right klt_ord haj hji HR.out.2.2.1 HR2.out.2.1 (fun _ => by rw [HX.out.2.2.1, HX.out.2.2.2.2.2, HX.out.2.2.2.1]; exact HX.out.2.2.2.2.1)
              exact ⟨⟨i + 1, _, rfl, by omega, .inl hlt, HR3.out.1, HR.out.2.1.trans (s1.widen (Nat.le_refl _) hlt), s2, HR3.out.2⟩, hm⟩
            · go_upto_region 6 with fail
              go_region
              all_goals (
                go_wp2_with fail
                have hp := HX.out.2.2.2.2.2
                refine ⟨⟨p, rfl, by omega, by omega, ?_⟩, by simp only [intOf]; omega⟩
                have hall2 : ∀ x, p ≤ x → x < i → klt (d i) (d x) = true := fun x x1 x2 => by
                  by_cases e : x = p
                  · rw [e, HX.out.2.2.1, HX.out.2.2.2.1]; exact HX.out.2.2.2.2.1
                  · exact HR2.out.2.1 x (by omega) x2
                have hst := ins_step d i j (by omega) hji
                rw [HX.out.2.2.2.2.2] at hst
                rw [← hst]
                first | (with_reducible refine (swp_row HR3.out.1 j p X Y HX.out.1 HX.out.2.1).imp id fun z => ⟨hall2, HR3.out.2.trans z⟩) | (with_reducible refine (swp_row' HR3.out.1 j p X Y HX.out.1 HX.out.2.1).imp id fun z => ⟨hall2, HR3.out.2.trans z⟩)))
        · have dj : decide ((a : Int) < (j : Int)) = false := by simp; omega
          have dj2 : decide (a < j) = false := by simp; omega
          obtain rfl : j = a := by omega
          have HR2 : Hid (SRow wr base g n cap (rotF d j i (i + 1)) ∧ (∀ x, j ≤ x → x < i → klt (d i) (d x) = true) ∧ Kp g W wr) := ⟨hr2, hall, hkp2⟩
          clear hr2 hall hkp2
          go_upto_region 4 with fail
          go_quiet (fail)
          go_wp2_with fail
          obtain ⟨s1, s2⟩ := ins_right klt_ord haj hji HR.out.2.2.1 HR2.out.2.1 (fun e => by omega)
          exact ⟨⟨i + 1, _, rfl, by omega, .inl hlt, HR2.out.1.later (below_drewNq _ _ _), HR.out.2.1.trans (s1.widen (Nat.le_refl _) hlt), s2, HR2.out.2.2.trans (Kp.below (below_drewNq _ _ _))⟩, hm⟩
    · have dl : decide ((i : Int) < (b : Int)) = false := by simp; omega
      go_wp2_with fail
      go_end0
      exact ⟨rfl, d, hr, hst, hso.sub (Nat.le_refl _) (by omega), hkp⟩
end Go.Proofs.YtagchghhpggnlaaGreat
namespace Go.Proofs.YtagchghhpggnlaaGreat
open Go.ChangeShapes Go.WideShapes Go.ChangeAt Go.RowKit
set_option linter.unusedVariables false
set_option linter.unusedSimpArgs false
variable {base g n cap : Nat} {c : Nat → Se}

theorem left_self {α : Type} (c : Nat → α) (a : Nat) : rotF c a (a + 1) (a + 1) = c := by
  funext k
  unfold rotF
  rw [if_neg (by omega)]
  split
  · congr 1; omega
  · rfl
theorem left_step {α : Type} (c : Nat → α) (a k : Nat) (h : a ≤ k) : swp (rotF c a (a + 1) (k + 1)) k (k + 1) = rotF c a (a + 1) (k + 1 + 1) := by
  funext x
  unfold swp
  by_cases a1 : x = k
  · subst a1
    rw [if_pos rfl, rotF_out c (by omega) (by omega) (.inr (by omega)), rotF_lo c h (by omega)]
    congr 1
    omega
  · rw [if_neg a1]
    by_cases a2 : x = k + 1
    · subst a2
      rw [if_pos rfl, rotF_hi c (by omega) (by omega), rotF_hi c (by omega) (by omega)]
      congr 1
      omega
    · rw [if_neg a2]
      by_cases a3 : x < a
      · rw [rotF_out c (by omega) (by omega) (.inl a3), rotF_out c (by omega) (by omega) (.inl a3)]
      · by_cases a4 : x < k
        · rw [rotF_lo c (by omega) (by omega), rotF_lo c (by omega) (by omega)]
        · rw [rotF_out c (by omega) (by omega) (.inr (by omega)), rotF_out c (by omega) (by omega) (.inr (by omega))]
set_option maxRecDepth 100000 in
set_option maxHeartbeats 2000000 in
theorem sym_one (a m b : Nat) (hma : a + 1 = m) (hab : a + 1 < b) (hbn : b ≤ n) (hn : n ≤ 2932031007402) (hs : Srt klt (a + 1) b c) (W : World) (h : SRow W base g n cap c) : Calls Tryz.prog 153 #[.slice (some ⟨g, 0, none⟩) n cap, .int .i64 (a : Int), .int .i64 (m : Int), .int .i64 (b : Int), .func (.func 62) #[] #[]] W fun e W' => e = .returned (.tuple #[]) ∧ ∃ d, SRow W' base g n cap d ∧ Stb klt a b c d ∧ Srt klt a b d ∧ Kp g W W' := by
  have HH : Hid (SRow W base g n cap c) := h
  have HE := ceEnter
  have HS : Hid (Srt klt (a + 1) b c) := hs
  have e0 : IntKind.i64.wrap ((m : Int) - (a : Int)) = 1 := by rw [IntKind.wrap_i64]; omega
  have e00 : (((m : Int) - (a : Int)) == 1) = true := by simp; omega
  have HMA : Hid (a + 1 = m) := hma
  clear h hs hma
  go_enter Tryz.func153, Tryz.ntmps153
  go_wp2_with fail
  go_loopw [10, 11] (fun x y wr => ∃ i j : Nat, x = .int .i64 (i : Int) ∧ y = .int .i64 (j : Int) ∧ a + 1 ≤ i ∧ i ≤ j ∧ j ≤ b ∧ SRow wr base g n cap c ∧ (a + 1 < i → klt (c (i - 1)) (c a) = true) ∧ (j < b → klt (c j) (c a) = false) ∧ Kp g W wr) (fun x y _ => (intOf y).toNat - (intOf x).toNat)
  case atStart => exact ⟨m, b, rfl, rfl, by have := HMA.out; omega, by have := HMA.out; omega, Nat.le_refl _, HH.out, fun e => by have := HMA.out; omega, fun e => by omega, Kp.refl _ _⟩
  case round =>
    obtain ⟨i, j, rfl, rfl, h1, h2, h3, hr, hlo, hhi, hkp⟩ := hrel
    by_cases hlt : i < j
    · have dl : decide ((i : Int) < (j : Int)) = true := by simp; omega
      obtain ⟨mm, hm⟩ : ∃ mm, (i + j) / 2 = mm := ⟨_, rfl⟩
      have em : ((i : Int) + (j : Int)) / 2 = (mm : Int) := by omega
      have e1 : IntKind.i64.wrap ((i : Int) + (j : Int)) = ((i + j : Nat) : Int) := by rw [IntKind.wrap_i64]; omega
      have e3 : IntKind.i64.wrap ((mm : Int) + 1) = ((mm + 1 : Nat) : Int) := by rw [IntKind.wrap_i64]; omega
      have m0 : (0 : Int) ≤ (mm : Int) := by omega
      have m1 : (mm : Int) < (n : Int) := by omega
      have q0 : (0 : Int) ≤ (a : Int) := by omega
      have q1 : (a : Int) < (n : Int) := by omega
      have HK : Hid (Kp g W wr ∧ (a + 1 < i → klt (c (i - 1)) (c a) = true) ∧ (j < b → klt (c j) (c a) = false)) := ⟨hkp, hlo, hhi⟩
      clear hkp hlo hhi
      have HC := fun w' => cev_any (c mm) (c a) w'
      obtain ⟨X, hX2⟩ : ∃ X, c mm = X := ⟨_, rfl⟩
      obtain ⟨Y, hY2⟩ : ∃ Y, c a = Y := ⟨_, rfl⟩
      obtain ⟨a0, a1, a2, a3, a4, a5⟩ := hr.cells (i := mm) (by omega)
      obtain ⟨b0, b1, b2, b3, b4, b5⟩ := hr.cells (i := a) (by omega)
      rw [hX2] at a0 a1 a2 a3 a4 a5
      rw [hY2] at b0 b1 b2 b3 b4 b5
      rw [hX2, hY2] at HC
      obtain ⟨q, hq⟩ : ∃ q, decide (kc X Y < 0) = q := ⟨_, rfl⟩
      have HX : Hid (c mm = X ∧ c a = Y ∧ klt X Y = q) := ⟨hX2, hY2, hq⟩
      have HR2 : Hid (SRow wr base g n cap c) := hr
      clear hX2 hY2
      generalize kc X Y = kk at HC hq
      go_upto_region 5 with fail
      go_region_held3 (fun w' => (((w'.cell? ⟨g, mm * 6, none⟩ = some (.int .u64 X.t) ∧ (w'.cell? ⟨g, mm * 6 + 1, none⟩ = some (.int .i64 X.s) ∧ w'.cell? ⟨g, mm * 6 + 2, none⟩ = some (.int .u64 X.q))) ∧ (w'.cell? ⟨g, mm * 6 + 3, none⟩ = some (.int .i64 X.d) ∧ (w'.cell? ⟨g, mm * 6 + 4, none⟩ = some (.int .i64 X.k) ∧ w'.cell? ⟨g, mm * 6 + 5, none⟩ = some (.int .i64 X.v)))) ∧ ((w'.cell? ⟨g, a * 6, none⟩ = some (.int .u64 Y.t) ∧ (w'.cell? ⟨g, a * 6 + 1, none⟩ = some (.int .i64 Y.s) ∧ w'.cell? ⟨g, a * 6 + 2, none⟩ = some (.int .u64 Y.q))) ∧ (w'.cell? ⟨g, a * 6 + 3, none⟩ = some (.int .i64 Y.d) ∧ (w'.cell? ⟨g, a * 6 + 4, none⟩ = some (.int .i64 Y.k) ∧ w'.cell? ⟨g, a * 6 + 5, none⟩ = some (.int .i64 Y.v)))))) (first | exact s6 | go_keep) ((go_at_call 62; (with_reducible refine (HC _).mono ?_); rintro e w1 ⟨rfl, hb1⟩; have hB1 : Below wr.heap.size wr w1 := (by first | exact hb1 | exact (drewS _).trans hb1 | exact (below_drewNq _ _ _).trans hb1); have hr3 := HR2.out.later hB1; obtain ⟨a0, a1, a2, a3, a4, a5⟩ := hr3.cells (i := mm) (by omega); obtain ⟨b0, b1, b2, b3, b4, b5⟩ := hr3.cells (i := a) (by omega); rw [HX.out.1] at a0 a1 a2 a3 a4 a5; rw [HX.out.2.1] at b0 b1 b2 b3 b4 b5; have s6 : (((w1.cell? ⟨g, mm * 6, none⟩ = some (.int .u64 X.t) ∧ (w1.cell? ⟨g, mm * 6 + 1, none⟩ = some (.int .i64 X.s) ∧ w1.cell? ⟨g, mm * 6 + 2, none⟩ = some (.int .u64 X.q))) ∧ (w1.cell? ⟨g, mm * 6 + 3, none⟩ = some (.int .i64 X.d) ∧ (w1.cell? ⟨g, mm * 6 + 4, none⟩ = some (.int .i64 X.k) ∧ w1.cell? ⟨g, mm * 6 + 5, none⟩ = some (.int .i64 X.v)))) ∧ ((w1.cell? ⟨g, a * 6, none⟩ = some (.int .u64 Y.t) ∧ (w1.cell? ⟨g, a * 6 + 1, none⟩ = some (.int .i64 Y.s) ∧ w1.cell? ⟨g, a * 6 + 2, none⟩ = some (.int .u64 Y.q))) ∧ (w1.cell? ⟨g, a * 6 + 3, none⟩ = some (.int .i64 Y.d) ∧ (w1.cell? ⟨g, a * 6 + 4, none⟩ = some (.int .i64 Y.k) ∧ w1.cell? ⟨g, a * 6 + 5, none⟩ = some (.int .i64 Y.v))))) := ⟨⟨⟨a0, a1, a2⟩, a3, a4, a5⟩, ⟨b0, b1, b2⟩, b3, b4, b5⟩; have HR3 : Hid (SRow w1 base g n cap c ∧ Kp g wr w1) := ⟨hr3, Kp.below hB1⟩; clear hb1 hB1 hr3))
      all_goals (
        cases q
        · go_wp2_with fail
          refine ⟨⟨i, mm, rfl, rfl, h1, by omega, by omega, HR3.out.1, HK.out.2.1, fun _ => by rw [HX.out.1, HX.out.2.1]; exact HX.out.2.2, HK.out.1.trans HR3.out.2⟩, by simp only [intOf]; omega⟩
        · go_wp2_with fail
          refine ⟨⟨mm + 1, j, rfl, rfl, by omega, by omega, h3, HR3.out.1, fun _ => by rw [show mm + 1 - 1 = mm by omega, HX.out.1, HX.out.2.1]; exact HX.out.2.2, HK.out.2.2, HK.out.1.trans HR3.out.2⟩, by simp only [intOf]; omega⟩)
    · have dl : decide ((i : Int) < (j : Int)) = false := by simp; omega
      obtain rfl : i = j := by omega
      have ei : IntKind.i64.wrap ((i : Int) - 1) = ((i - 1 : Nat) : Int) := by rw [IntKind.wrap_i64]; omega
      obtain ⟨t, ht⟩ : ∃ t, i - 1 = t := ⟨_, rfl⟩
      rw [ht] at ei
      have HZ : Hid (SRow wr base g n cap c ∧ (a + 1 < i → klt (c (i - 1)) (c a) = true) ∧ (i < b → klt (c i) (c a) = false) ∧ Kp g W wr ∧ i - 1 = t) := ⟨hr, hlo, hhi, hkp, ht⟩
      have hat : a ≤ t := by omega
      have htn : t + 1 ≤ b := by omega
      clear hr hlo hhi hkp ht
      go_wp2_with fail
      go_loopw [13] (fun z wr' => ∃ k : Nat, z = .int .i64 (k : Int) ∧ a ≤ k ∧ k ≤ t ∧ SRow wr' base g n cap (rotF c a (a + 1) (k + 1)) ∧ Kp g W wr') (fun z _ => t - (intOf z).toNat)
      case atStart => exact ⟨a, rfl, Nat.le_refl _, hat, by rw [left_self]; exact HZ.out.1, HZ.out.2.2.2.1⟩
      case round =>
        obtain ⟨k, rfl, hak, hkt, hr2, hkp2⟩ := hrel
        by_cases hlt2 : k < t
        · have dk : decide ((k : Int) < (t : Int)) = true := by simp; omega
          have ek : IntKind.i64.wrap ((k : Int) + 1) = ((k + 1 : Nat) : Int) := by rw [IntKind.wrap_i64]; omega
          obtain ⟨r, hr9⟩ : ∃ r, k + 1 = r := ⟨_, rfl⟩
          have HR9 : Hid (k + 1 = r) := hr9
          rw [hr9] at ek
          have k0 : (0 : Int) ≤ (k : Int) := by omega
          have k1 : (k : Int) < (n : Int) := by omega
          have r0 : (0 : Int) ≤ (r : Int) := by omega
          have r1 : (r : Int) < (n : Int) := by omega
          have hkr : k < r := by omega
          clear hr9
          obtain ⟨a0, a1, a2, a3, a4, a5⟩ := hr2.cells (i := k) (by omega)
          obtain ⟨b0, b1, b2, b3, b4, b5⟩ := hr2.cells (i := r) (by omega)
          have fg := hr2.fz
          obtain ⟨X, hX⟩ : ∃ X, rotF c a (a + 1) (k + 1) k = X := ⟨_, rfl⟩
          obtain ⟨Y, hY⟩ : ∃ Y, rotF c a (a + 1) (k + 1) r = Y := ⟨_, rfl⟩
          have HXY : Hid (rotF c a (a + 1) (k + 1) k = X ∧ rotF c a (a + 1) (k + 1) r = Y) := ⟨hX, hY⟩
          rw [hX] at a0 a1 a2 a3 a4 a5
          rw [hY] at b0 b1 b2 b3 b4 b5
          have HR2 : Hid (SRow wr base g n cap (rotF c a (a + 1) (k + 1)) ∧ Kp g W wr) := ⟨hr2, hkp2⟩
          clear hX hY hr2 hkp2
          go_upto_region 11 with fail
          go_region
          all_goals (
            go_wp2_with fail
            have hr9 := HR9.out
            refine ⟨⟨r, rfl, by omega, by omega, ?_⟩, by simp only [intOf]; omega⟩
            have hst : swp (rotF c a (a + 1) (k + 1)) k r = rotF c a (a + 1) (r + 1) := by rw [← hr9]; exact left_step c a k hak
            rw [← hst]
            first | (with_reducible refine (swp_row HR2.out.1 k r X Y HXY.out.1 HXY.out.2).imp id fun z => HR2.out.2.trans z) | (with_reducible refine (swp_row' HR2.out.1 k r X Y HXY.out.1 HXY.out.2).imp id fun z => HR2.out.2.trans z))
        · have dk : decide ((k : Int) < (t : Int)) = false := by simp; omega
          obtain rfl : k = t := by omega
          go_wp2_with fail
          (first | go_end0 | go_returns)
          have hi := HZ.out.2.2.2.2
          obtain ⟨s1, s2⟩ := ins_left klt_ord (j := k + 1) (by omega) htn HS.out (fun e => by have := HZ.out.2.1 (by omega); rw [show i - 1 = k + 1 - 1 by omega] at this; exact this) (fun e => by have := HZ.out.2.2.1 (by omega); rw [show i = k + 1 by omega] at this; exact this)
          exact ⟨rfl, _, hr2, s1, s2, hkp2⟩
set_option maxRecDepth 100000 in
set_option maxHeartbeats 2000000 in
theorem sym_last (a m b : Nat) (hmb : m + 1 = b) (ham : a + 1 < m) (hbn : m + 1 ≤ n) (hn : n ≤ 2932031007402) (hs : Srt klt a m c) (W : World) (h : SRow W base g n cap c) : Calls Tryz.prog 153 #[.slice (some ⟨g, 0, none⟩) n cap, .int .i64 (a : Int), .int .i64 (m : Int), .int .i64 (b : Int), .func (.func 62) #[] #[]] W fun e W' => e = .returned (.tuple #[]) ∧ ∃ d, SRow W' base g n cap d ∧ Stb klt a b c d ∧ Srt klt a b d ∧ Kp g W W' := by
  have HH : Hid (SRow W base g n cap c) := h
  have HE := ceEnter
  have HS : Hid (Srt klt a m c) := hs
  have e0 : IntKind.i64.wrap ((m : Int) - (a : Int)) = ((m - a : Nat) : Int) := by rw [IntKind.wrap_i64]; omega
  have e00 : (((m - a : Nat) : Int) == 1) = false := by simp; omega
  have e01 : (((m : Int) - (a : Int)) == 1) = false := by simp; omega
  have e02 : IntKind.i64.wrap ((b : Int) - (m : Int)) = 1 := by rw [IntKind.wrap_i64]; omega
  have e03 : (((b : Int) - (m : Int)) == 1) = true := by simp; omega
  have HMB : Hid (m + 1 = b) := hmb
  clear h hs hmb
  go_enter Tryz.func153, Tryz.ntmps153
  go_wp2_with fail
  go_loopw [14, 15] (fun x y wr => ∃ i j : Nat, x = .int .i64 (i : Int) ∧ y = .int .i64 (j : Int) ∧ a ≤ i ∧ i ≤ j ∧ j ≤ m ∧ SRow wr base g n cap c ∧ (a < i → klt (c m) (c (i - 1)) = false) ∧ (j < m → klt (c m) (c j) = true) ∧ Kp g W wr) (fun x y _ => (intOf y).toNat - (intOf x).toNat)
  case atStart => exact ⟨a, m, rfl, rfl, Nat.le_refl _, by omega, Nat.le_refl _, HH.out, fun e => by omega, fun e => by omega, Kp.refl _ _⟩
  case round =>
    obtain ⟨i, j, rfl, rfl, h1, h2, h3, hr, hlo, hhi, hkp⟩ := hrel
    by_cases hlt : i < j
    · have dl : decide ((i : Int) < (j : Int)) = true := by simp; omega
      obtain ⟨p, hp⟩ : ∃ p, (i + j) / 2 = p := ⟨_, rfl⟩
      have em : ((i : Int) + (j : Int)) / 2 = (p : Int) := by omega
      have e1 : IntKind.i64.wrap ((i : Int) + (j : Int)) = ((i + j : Nat) : Int) := by rw [IntKind.wrap_i64]; omega
      have e3 : IntKind.i64.wrap ((p : Int) + 1) = ((p + 1 : Nat) : Int) := by rw [IntKind.wrap_i64]; omega
      have m0 : (0 : Int) ≤ (p : Int) := by omega
      have m1 : (p : Int) < (n : Int) := by omega
      have q0 : (0 : Int) ≤ (m : Int) := by omega
      have q1 : (m : Int) < (n : Int) := by omega
      have HK : Hid (Kp g W wr ∧ (a < i → klt (c m) (c (i - 1)) = false) ∧ (j < m → klt (c m) (c j) = true)) := ⟨hkp, hlo, hhi⟩
      clear hkp hlo hhi
      have HC := fun w' => cev_any (c m) (c p) w'
      obtain ⟨X, hX2⟩ : ∃ X, c m = X := ⟨_, rfl⟩
      obtain ⟨Y, hY2⟩ : ∃ Y, c p = Y := ⟨_, rfl⟩
      obtain ⟨a0, a1, a2, a3, a4, a5⟩ := hr.cells (i := m) (by omega)
      obtain ⟨b0, b1, b2, b3, b4, b5⟩ := hr.cells (i := p) (by omega)
      rw [hX2] at a0 a1 a2 a3 a4 a5
      rw [hY2] at b0 b1 b2 b3 b4 b5
      rw [hX2, hY2] at HC
      obtain ⟨q, hq⟩ : ∃ q, decide (kc X Y < 0) = q := ⟨_, rfl⟩
      have HX : Hid (c m = X ∧ c p = Y ∧ klt X Y = q) := ⟨hX2, hY2, hq⟩
      have HR2 : Hid (SRow wr base g n cap c) := hr
      clear hX2 hY2
      generalize kc X Y = kk at HC hq
      go_upto_region 17 with fail
      go_region_held3 (fun w' => (((w'.cell? ⟨g, m * 6, none⟩ = some (.int .u64 X.t) ∧ (w'.cell? ⟨g, m * 6 + 1, none⟩ = some (.int .i64 X.s) ∧ w'.cell? ⟨g, m * 6 + 2, none⟩ = some (.int .u64 X.q))) ∧ (w'.cell? ⟨g, m * 6 + 3, none⟩ = some (.int .i64 X.d) ∧ (w'.cell? ⟨g, m * 6 + 4, none⟩ = some (.int .i64 X.k) ∧ w'.cell? ⟨g, m * 6 + 5, none⟩ = some (.int .i64 X.v)))) ∧ ((w'.cell? ⟨g, p * 6, none⟩ = some (.int .u64 Y.t) ∧ (w'.cell? ⟨g, p * 6 + 1, none⟩ = some (.int .i64 Y.s) ∧ w'.cell? ⟨g, p * 6 + 2, none⟩ = some (.int .u64 Y.q))) ∧ (w'.cell? ⟨g, p * 6 + 3, none⟩ = some (.int .i64 Y.d) ∧ (w'.cell? ⟨g, p * 6 + 4, none⟩ = some (.int .i64 Y.k) ∧ w'.cell? ⟨g, p * 6 + 5, none⟩ = some (.int .i64 Y.v)))))) (first | exact s6 | go_keep) ((go_at_call 62; (with_reducible refine (HC _).mono ?_); rintro e w1 ⟨rfl, hb1⟩; have hB1 : Below wr.heap.size wr w1 := (by first | exact hb1 | exact (drewS _).trans hb1 | exact (below_drewNq _ _ _).trans hb1); have hr3 := HR2.out.later hB1; obtain ⟨a0, a1, a2, a3, a4, a5⟩ := hr3.cells (i := m) (by omega); obtain ⟨b0, b1, b2, b3, b4, b5⟩ := hr3.cells (i := p) (by omega); rw [HX.out.1] at a0 a1 a2 a3 a4 a5; rw [HX.out.2.1] at b0 b1 b2 b3 b4 b5; have s6 : (((w1.cell? ⟨g, m * 6, none⟩ = some (.int .u64 X.t) ∧ (w1.cell? ⟨g, m * 6 + 1, none⟩ = some (.int .i64 X.s) ∧ w1.cell? ⟨g, m * 6 + 2, none⟩ = some (.int .u64 X.q))) ∧ (w1.cell? ⟨g, m * 6 + 3, none⟩ = some (.int .i64 X.d) ∧ (w1.cell? ⟨g, m * 6 + 4, none⟩ = some (.int .i64 X.k) ∧ w1.cell? ⟨g, m * 6 + 5, none⟩ = some (.int .i64 X.v)))) ∧ ((w1.cell? ⟨g, p * 6, none⟩ = some (.int .u64 Y.t) ∧ (w1.cell? ⟨g, p * 6 + 1, none⟩ = some (.int .i64 Y.s) ∧ w1.cell? ⟨g, p * 6 + 2, none⟩ = some (.int .u64 Y.q))) ∧ (w1.cell? ⟨g, p * 6 + 3, none⟩ = some (.int .i64 Y.d) ∧ (w1.cell? ⟨g, p * 6 + 4, none⟩ = some (.int .i64 Y.k) ∧ w1.cell? ⟨g, p * 6 + 5, none⟩ = some (.int .i64 Y.v))))) := ⟨⟨⟨a0, a1, a2⟩, a3, a4, a5⟩, ⟨b0, b1, b2⟩, b3, b4, b5⟩; have HR3 : Hid (SRow w1 base g n cap c ∧ Kp g wr w1) := ⟨hr3, Kp.below hB1⟩; clear hb1 hB1 hr3))
      all_goals (
        cases q
        · go_wp2_with fail
          refine ⟨⟨p + 1, j, rfl, rfl, by omega, by omega, h3, HR3.out.1, fun _ => by rw [show p + 1 - 1 = p by omega, HX.out.1, HX.out.2.1]; exact HX.out.2.2, HK.out.2.2, HK.out.1.trans HR3.out.2⟩, by simp only [intOf]; omega⟩
        · go_wp2_with fail
          refine ⟨⟨i, p, rfl, rfl, h1, by omega, by omega, HR3.out.1, HK.out.2.1, fun _ => by rw [HX.out.1, HX.out.2.1]; exact HX.out.2.2, HK.out.1.trans HR3.out.2⟩, by simp only [intOf]; omega⟩)
    · have dl : decide ((i : Int) < (j : Int)) = false := by simp; omega
      obtain rfl : i = j := by omega
      have HZ : Hid (SRow wr base g n cap c ∧ (a < i → klt (c m) (c (i - 1)) = false) ∧ (i < m → klt (c m) (c i) = true) ∧ Kp g W wr) := ⟨hr, hlo, hhi, hkp⟩
      clear hr hlo hhi hkp
      go_wp2_with fail
      go_loopw [17] (fun z wr' => ∃ k : Nat, z = .int .i64 (k : Int) ∧ i ≤ k ∧ k ≤ m ∧ SRow wr' base g n cap (rotF c k m (m + 1)) ∧ Kp g W wr') (fun z _ => (intOf z).toNat)
      case atStart => exact ⟨m, rfl, h3, Nat.le_refl _, by rw [rot_self]; exact HZ.out.1, HZ.out.2.2.2⟩
      case round =>
        obtain ⟨k, rfl, hik, hkm, hr2, hkp2⟩ := hrel
        by_cases hlt2 : i < k
        · have dk : decide ((i : Int) < (k : Int)) = true := by simp; omega
          have dk2 : decide (i < k) = true := by simp; omega
          have ek : IntKind.i64.wrap ((k : Int) - 1) = ((k - 1 : Nat) : Int) := by rw [IntKind.wrap_i64]; omega
          obtain ⟨r, hr9⟩ : ∃ r, k - 1 = r := ⟨_, rfl⟩
          have HR9 : Hid (k - 1 = r) := hr9
          rw [hr9] at ek
          have k0 : (0 : Int) ≤ (k : Int) := by omega
          have k1 : (k : Int) < (n : Int) := by omega
          have r0 : (0 : Int) ≤ (r : Int) := by omega
          have r1 : (r : Int) < (n : Int) := by omega
          have hkr : r < k := by omega
          clear hr9
          obtain ⟨a0, a1, a2, a3, a4, a5⟩ := hr2.cells (i := k) (by omega)
          obtain ⟨b0, b1, b2, b3, b4, b5⟩ := hr2.cells (i := r) (by omega)
          have fg := hr2.fz
          obtain ⟨X, hX⟩ : ∃ X, rotF c k m (m + 1) k = X := ⟨_, rfl⟩
          obtain ⟨Y, hY⟩ : ∃ Y, rotF c k m (m + 1) r = Y := ⟨_, rfl⟩
          have HXY : Hid (rotF c k m (m + 1) k = X ∧ rotF c k m (m + 1) r = Y) := ⟨hX, hY⟩
          rw [hX] at a0 a1 a2 a3 a4 a5
          rw [hY] at b0 b1 b2 b3 b4 b5
          have HR2 : Hid (SRow wr base g n cap (rotF c k m (m + 1)) ∧ Kp g W wr) := ⟨hr2, hkp2⟩
          clear hX hY hr2 hkp2
          go_upto_region 23 with fail
          go_region
          all_goals (
            go_wp2_with fail
            have hr9 := HR9.out
            refine ⟨⟨r, rfl, by omega, by omega, ?_⟩, by simp only [intOf]; omega⟩
            have hst := ins_step c m k (by omega) hkm
            rw [hr9] at hst
            rw [← hst]
            first | (with_reducible refine (swp_row HR2.out.1 k r X Y HXY.out.1 HXY.out.2).imp id fun z => HR2.out.2.trans z) | (with_reducible refine (swp_row' HR2.out.1 k r X Y HXY.out.1 HXY.out.2).imp id fun z => HR2.out.2.trans z))
        · have dk : decide ((i : Int) < (k : Int)) = false := by simp; omega
          have dk2 : decide (i < k) = false := by simp; omega
          obtain rfl : k = i := by omega
          go_wp2_with fail
          (first | go_end0 | go_returns)
          obtain ⟨s1, s2⟩ := ins_right klt_ord h1 h3 HS.out (fun x x1 x2 => klt_ord.lt_le (HZ.out.2.2.1 (by omega)) (HS.out.le klt_ord h1 x1 x2)) HZ.out.2.1
          rw [HMB.out] at s1 s2 hr2
          exact ⟨rfl, _, hr2, s1, s2, hkp2⟩
end Go.Proofs.YtagchghhpggnlaaGreat
namespace Go.Proofs.YtagchghhpggnlaaGreat
open Go.ChangeShapes Go.WideShapes Go.ChangeAt Go.RowKit
set_option linter.unusedVariables false
set_option linter.unusedSimpArgs false
variable {base g n cap : Nat} {c : Nat → Se}

theorem rot_none {α : Type} (c : Nat → α) {s m e : Nat} (h1 : s ≤ m) (h2 : m ≤ e) (h : ¬ (s < m ∧ m < e)) : rotF c s m e = c := by
  funext x
  unfold rotF
  split
  · congr 1; omega
  · split
    · congr 1; omega
    · rfl
/-- the contract, for stretches no longer than this -/
def SymOk (base g n cap N : Nat) : Prop := ∀ (a m b : Nat) (c : Nat → Se) (W : World), b - a ≤ N → a < m → m < b → b ≤ n → Srt klt a m c → Srt klt m b c → SRow W base g n cap c → Calls Tryz.prog 153 #[.slice (some ⟨g, 0, none⟩) n cap, .int .i64 (a : Int), .int .i64 (m : Int), .int .i64 (b : Int), .func (.func 62) #[] #[]] W fun e W' => e = .returned (.tuple #[]) ∧ ∃ d, SRow W' base g n cap d ∧ Stb klt a b c d ∧ Srt klt a b d ∧ Kp g W W'
set_option maxRecDepth 100000 in
set_option maxHeartbeats 4000000 in
theorem sym_big (N : Nat) (ih : SymOk base g n cap N) (a m b : Nat) (hN : b - a ≤ N + 1) (ham : a + 1 < m) (hmb : m + 1 < b) (hbn : b ≤ n) (hn : n ≤ 2932031007402) (hu : Srt klt a m c) (hv : Srt klt m b c) (W : World) (h : SRow W base g n cap c) : Calls Tryz.prog 153 #[.slice (some ⟨g, 0, none⟩) n cap, .int .i64 (a : Int), .int .i64 (m : Int), .int .i64 (b : Int), .func (.func 62) #[] #[]] W fun e W' => e = .returned (.tuple #[]) ∧ ∃ d, SRow W' base g n cap d ∧ Stb klt a b c d ∧ Srt klt a b d ∧ Kp g W W' := by
  have HH : Hid (SRow W base g n cap c) := h
  have HE := ceEnter
  have HS : Hid (Srt klt a m c ∧ Srt klt m b c) := ⟨hu, hv⟩
  have e0 : IntKind.i64.wrap ((m : Int) - (a : Int)) = ((m - a : Nat) : Int) := by rw [IntKind.wrap_i64]; omega
  have e01 : (((m : Int) - (a : Int)) == 1) = false := by simp; omega
  have e02 : (((m - a : Nat) : Int) == 1) = false := by simp; omega
  have e03 : IntKind.i64.wrap ((b : Int) - (m : Int)) = ((b - m : Nat) : Int) := by rw [IntKind.wrap_i64]; omega
  have e04 : (((b : Int) - (m : Int)) == 1) = false := by simp; omega
  have e05 : (((b - m : Nat) : Int) == 1) = false := by simp; omega
  obtain ⟨mid, hmid⟩ : ∃ mid, (a + b) / 2 = mid := ⟨_, rfl⟩
  have em : ((a : Int) + (b : Int)) / 2 = (mid : Int) := by omega
  have e06 : IntKind.i64.wrap ((a : Int) + (b : Int)) = ((a + b : Nat) : Int) := by rw [IntKind.wrap_i64]; omega
  obtain ⟨nn, hnn⟩ : ∃ nn, mid + m = nn := ⟨_, rfl⟩
  have e07 : IntKind.i64.wrap ((mid : Int) + (m : Int)) = (nn : Int) := by rw [IntKind.wrap_i64]; omega
  have e09 : IntKind.i64.wrap ((nn : Int) - 1) = ((nn - 1 : Nat) : Int) := by rw [IntKind.wrap_i64]; omega
  obtain ⟨pp, hpp⟩ : ∃ pp, nn - 1 = pp := ⟨_, rfl⟩
  obtain ⟨nb, hnb⟩ : ∃ nb, nn - b = nb := ⟨_, rfl⟩
  rw [hpp] at e09
  have HM : Hid ((a + b) / 2 = mid ∧ mid + m = nn ∧ nn - 1 = pp ∧ nn - b = nb) := ⟨hmid, hnn, hpp, hnb⟩
  have HIH : Hid (SymOk base g n cap N) := ih
  clear h hu hv hmid hnn hpp hnb ih
  go_enter Tryz.func153, Tryz.ntmps153
  go_upto_if 140 with fail
  go_cut [20, 21] (fun x y wc => ∃ s r : Nat, x = .int .i64 (s : Int) ∧ y = .int .i64 (r : Int) ∧ a ≤ s ∧ s ≤ r ∧ r ≤ m ∧ r ≤ mid ∧ nn ≤ s + b ∧ (a < s → nn < s + b → False) ∧ (r < m → r < mid → False) ∧ SRow wc base g n cap c ∧ Kp g W wc)
  case first => as_aux_lemma =>
    have hm4 := HM.out
    by_cases hgt : mid < m
    · have dg : decide ((mid : Int) < (m : Int)) = true := by simp; omega
      have dg2 : decide (mid < m) = true := by simp; omega
      have e08 : IntKind.i64.wrap ((nn : Int) - (b : Int)) = (nb : Int) := by rw [IntKind.wrap_i64]; omega
      clear hm4
      go_wp2_with fail
      go_meet
      have hm4 := HM.out
      exact ⟨nb, mid, rfl, rfl, by omega, by omega, by omega, Nat.le_refl _, by omega, fun _ _ => by omega, fun _ _ => by omega, HH.out, Kp.refl _ _⟩
    · have dg : decide ((mid : Int) < (m : Int)) = false := by simp; omega
      have dg2 : decide (mid < m) = false := by simp; omega
      clear hm4
      go_wp2_with fail
      go_meet
      have hm4 := HM.out
      exact ⟨a, m, rfl, rfl, Nat.le_refl _, by omega, Nat.le_refl _, by omega, by omega, fun _ _ => by omega, fun _ _ => by omega, HH.out, Kp.refl _ _⟩
  case rest => as_aux_lemma =>
    obtain ⟨s0, r0, rfl, rfl, i1, i2, i3, i4, i5, i6, i7, hr, hkp⟩ := hcut
    have HZ : Hid (SRow wc base g n cap c ∧ Kp g W wc) := ⟨hr, hkp⟩
    clear hr hkp HH
    go_wp2_with fail
    go_loopw [20, 21] (fun x y wr => ∃ s r : Nat, x = .int .i64 (s : Int) ∧ y = .int .i64 (r : Int) ∧ a ≤ s ∧ s ≤ r ∧ r ≤ m ∧ r ≤ mid ∧ nn ≤ s + b ∧ (a < s → nn < s + b → klt (c (nn - s)) (c (s - 1)) = false) ∧ (r < m → r < mid → klt (c (nn - r - 1)) (c r) = true) ∧ SRow wr base g n cap c ∧ Kp g W wr) (fun x y _ => (intOf y).toNat - (intOf x).toNat)
    case atStart => exact ⟨s0, r0, rfl, rfl, i1, i2, i3, i4, i5, fun x y => (i6 x y).elim, fun x y => (i7 x y).elim, HZ.out.1, HZ.out.2⟩
    case round =>
      obtain ⟨s, r, rfl, rfl, h1, h2, h3, h4, h5, hlo, hhi, hr, hkp⟩ := hrel
      clear HZ
      by_cases hlt : s < r
      · have dl : decide ((s : Int) < (r : Int)) = true := by simp; omega
        have hm4 := HM.out
        obtain ⟨k, hk⟩ : ∃ k, (s + r) / 2 = k := ⟨_, rfl⟩
        have ek : ((s : Int) + (r : Int)) / 2 = (k : Int) := by omega
        have e1 : IntKind.i64.wrap ((s : Int) + (r : Int)) = ((s + r : Nat) : Int) := by rw [IntKind.wrap_i64]; omega
        have e2 : IntKind.i64.wrap ((pp : Int) - (k : Int)) = ((pp - k : Nat) : Int) := by rw [IntKind.wrap_i64]; omega
        obtain ⟨u, hu⟩ : ∃ u, pp - k = u := ⟨_, rfl⟩
        rw [hu] at e2
        have e3 : IntKind.i64.wrap ((k : Int) + 1) = ((k + 1 : Nat) : Int) := by rw [IntKind.wrap_i64]; omega
        have hun : u < n := by omega
        have hkn : k < n := by omega
        have f1 : s ≤ k := by omega
        have f2 : k < r := by omega
        have m0 : (0 : Int) ≤ (k : Int) := by omega
        have m1 : (k : Int) < (n : Int) := by omega
        have q0 : (0 : Int) ≤ (u : Int) := by omega
        have q1 : (u : Int) < (n : Int) := by omega
        have HU : Hid (nn - (k + 1) = u ∧ nn - k - 1 = u) := ⟨by omega, by omega⟩
        have HK : Hid (Kp g W wr ∧ (a < s → nn < s + b → klt (c (nn - s)) (c (s - 1)) = false) ∧ (r < m → r < mid → klt (c (nn - r - 1)) (c r) = true)) := ⟨hkp, hlo, hhi⟩
        clear hkp hlo hhi hm4 hk hu
        have HC := fun w' => cev_any (c u) (c k) w'
        obtain ⟨X, hX2⟩ : ∃ X, c u = X := ⟨_, rfl⟩
        obtain ⟨Y, hY2⟩ : ∃ Y, c k = Y := ⟨_, rfl⟩
        obtain ⟨a0, a1, a2, a3, a4, a5⟩ := hr.cells (i := u) (by omega)
        obtain ⟨b0, b1, b2, b3, b4, b5⟩ := hr.cells (i := k) (by omega)
        rw [hX2] at a0 a1 a2 a3 a4 a5
        rw [hY2] at b0 b1 b2 b3 b4 b5
        rw [hX2, hY2] at HC
        obtain ⟨q, hq⟩ : ∃ q, decide (kc X Y < 0) = q := ⟨_, rfl⟩
        have HX : Hid (c u = X ∧ c k = Y ∧ klt X Y = q) := ⟨hX2, hY2, hq⟩
        have HR2 : Hid (SRow wr base g n cap c) := hr
        clear hX2 hY2
        generalize kc X Y = kk at HC hq
        go_upto_region 35 with fail
        go_region_held3 (fun w' => (((w'.cell? ⟨g, u * 6, none⟩ = some (.int .u64 X.t) ∧ (w'.cell? ⟨g, u * 6 + 1, none⟩ = some (.int .i64 X.s) ∧ w'.cell? ⟨g, u * 6 + 2, none⟩ = some (.int .u64 X.q))) ∧ (w'.cell? ⟨g, u * 6 + 3, none⟩ = some (.int .i64 X.d) ∧ (w'.cell? ⟨g, u * 6 + 4, none⟩ = some (.int .i64 X.k) ∧ w'.cell? ⟨g, u * 6 + 5, none⟩ = some (.int .i64 X.v)))) ∧ ((w'.cell? ⟨g, k * 6, none⟩ = some (.int .u64 Y.t) ∧ (w'.cell? ⟨g, k * 6 + 1, none⟩ = some (.int .i64 Y.s) ∧ w'.cell? ⟨g, k * 6 + 2, none⟩ = some (.int .u64 Y.q))) ∧ (w'.cell? ⟨g, k * 6 + 3, none⟩ = some (.int .i64 Y.d) ∧ (w'.cell? ⟨g, k * 6 + 4, none⟩ = some (.int .i64 Y.k) ∧ w'.cell? ⟨g, k * 6 + 5, none⟩ = some (.int .i64 Y.v)))))) (first | exact s6 | go_keep) ((go_at_call 62; (with_reducible refine (HC _).mono ?_); rintro e w1 ⟨rfl, hb1⟩; have hB1 : Below wr.heap.size wr w1 := (by first | exact hb1 | exact (drewS _).trans hb1 | exact (below_drewNq _ _ _).trans hb1); have hr3 := HR2.out.later hB1; obtain ⟨a0, a1, a2, a3, a4, a5⟩ := hr3.cells (i := u) (by omega); obtain ⟨b0, b1, b2, b3, b4, b5⟩ := hr3.cells (i := k) (by omega); rw [HX.out.1] at a0 a1 a2 a3 a4 a5; rw [HX.out.2.1] at b0 b1 b2 b3 b4 b5; have s6 : (((w1.cell? ⟨g, u * 6, none⟩ = some (.int .u64 X.t) ∧ (w1.cell? ⟨g, u * 6 + 1, none⟩ = some (.int .i64 X.s) ∧ w1.cell? ⟨g, u * 6 + 2, none⟩ = some (.int .u64 X.q))) ∧ (w1.cell? ⟨g, u * 6 + 3, none⟩ = some (.int .i64 X.d) ∧ (w1.cell? ⟨g, u * 6 + 4, none⟩ = some (.int .i64 X.k) ∧ w1.cell? ⟨g, u * 6 + 5, none⟩ = some (.int .i64 X.v)))) ∧ ((w1.cell? ⟨g, k * 6, none⟩ = some (.int .u64 Y.t) ∧ (w1.cell? ⟨g, k * 6 + 1, none⟩ = some (.int .i64 Y.s) ∧ w1.cell? ⟨g, k * 6 + 2, none⟩ = some (.int .u64 Y.q))) ∧ (w1.cell? ⟨g, k * 6 + 3, none⟩ = some (.int .i64 Y.d) ∧ (w1.cell? ⟨g, k * 6 + 4, none⟩ = some (.int .i64 Y.k) ∧ w1.cell? ⟨g, k * 6 + 5, none⟩ = some (.int .i64 Y.v))))) := ⟨⟨⟨a0, a1, a2⟩, a3, a4, a5⟩, ⟨b0, b1, b2⟩, b3, b4, b5⟩; have HR3 : Hid (SRow w1 base g n cap c ∧ Kp g wr w1) := ⟨hr3, Kp.below hB1⟩; clear hb1 hB1 hr3))
        all_goals (
          cases q
          · go_wp2_with fail
            refine ⟨⟨k + 1, r, rfl, rfl, by omega, by omega, h3, h4, by omega, fun _ _ => by rw [HU.out.1, show k + 1 - 1 = k by omega, HX.out.1, HX.out.2.1]; exact HX.out.2.2, HK.out.2.2, HR3.out.1, HK.out.1.trans HR3.out.2⟩, by simp only [intOf]; omega⟩
          · go_wp2_with fail
            refine ⟨⟨s, k, rfl, rfl, h1, by omega, by omega, by omega, h5, HK.out.2.1, fun _ _ => by rw [HU.out.2, HX.out.1, HX.out.2.1]; exact HX.out.2.2, HR3.out.1, HK.out.1.trans HR3.out.2⟩, by simp only [intOf]; omega⟩)
      · have dl : decide ((s : Int) < (r : Int)) = false := by simp; omega
        obtain rfl : s = r := by omega
        have hm4 := HM.out
        have e1 : IntKind.i64.wrap ((nn : Int) - (s : Int)) = ((nn - s : Nat) : Int) := by rw [IntKind.wrap_i64]; omega
        obtain ⟨e, he⟩ : ∃ e, nn - s = e := ⟨_, rfl⟩
        rw [he] at e1 hlo
        obtain ⟨k1, ⟨k2, k3⟩, ⟨k4, k5⟩, k6⟩ := sym_key (mid := mid) (e := e) klt_ord h1 h3 (by omega) (by omega) (by omega) HS.out.1 HS.out.2 (fun x y => hlo x (by omega)) (fun x y => by have := hhi x (by omega); rw [show nn - s - 1 = e - 1 by omega] at this; exact this)
        have HROT := fun hx hy => rot_any (c := c) (.func (.func 62) #[] #[]) s m e hx hy (by omega) hn wr hr
        have HNO := rot_none c (s := s) (m := m) (e := e) h3 (by omega)
        obtain ⟨d, hd⟩ : ∃ d, rotF c s m e = d := ⟨_, rfl⟩
        rw [hd] at k1 k2 k3 k4 k5 k6 HROT HNO
        have HD : Hid (Stb klt s e c d ∧ (Srt klt a s d ∧ Srt klt s mid d) ∧ (Srt klt mid e d ∧ Srt klt e b d) ∧ (∀ x y, a ≤ x → x < mid → mid ≤ y → y < b → klt (d y) (d x) = false)) := ⟨k1, ⟨k2, k3⟩, ⟨k4, k5⟩, k6⟩
        have HNO2 : Hid (¬ (s < m ∧ m < e) → d = c) := HNO
        have HZ : Hid (SRow wr base g n cap c ∧ Kp g W wr) := ⟨hr, hkp⟩
        have HQ : Hid ((a + b) / 2 = mid ∧ mid + m = s + e ∧ e ≤ b ∧ m ≤ e) := ⟨hm4.1, by omega, by omega, by omega⟩
        clear k1 k2 k3 k4 k5 k6 hd HNO hr hkp hlo hhi hm4 he HM
        go_upto_region 39 with fail
        go_cut [185] (fun t wc => t = .bool (decide (s < m ∧ m < e)) ∧ wc = wr)
        case first => as_aux_lemma =>
          by_cases hA : s < m
          · have dA : decide ((s : Int) < (m : Int)) = true := by simp; omega
            have dA2 : decide (s < m) = true := by simp; omega
            by_cases hB : m < e
            · have dB : decide ((m : Int) < (e : Int)) = true := by simp; omega
              have dB2 : decide (m < e) = true := by simp; omega
              go_wp2_with fail
              go_meet
              exact ⟨by simp [hA, hB], rfl⟩
            · have dB : decide ((m : Int) < (e : Int)) = false := by simp; omega
              have dB2 : decide (m < e) = false := by simp; omega
              go_wp2_with fail
              go_meet
              exact ⟨by simp [hB], rfl⟩
          · have dA : decide ((s : Int) < (m : Int)) = false := by simp; omega
            have dA2 : decide (s < m) = false := by simp; omega
            go_wp2_with fail
            go_meet
            exact ⟨by simp [hA], rfl⟩
        case rest => as_aux_lemma =>
        obtain ⟨rfl, h9⟩ := hcut
        have h8 := h9.symm
        subst h8
        clear h9
        obtain ⟨q, hq⟩ : ∃ q, decide (s < m ∧ m < e) = q := ⟨_, rfl⟩
        have HG : Hid (decide (s < m ∧ m < e) = q) := hq
        rw [hq]
        clear hq
        go_upto_if 185 with fail
        go_cut [] (fun wc => SRow wc base g n cap d ∧ Kp g W wc)
        case first => as_aux_lemma =>
          cases q
          case false =>
            have hg : ¬ (s < m ∧ m < e) := by have := HG.out; simpa using this
            go_wp2_with fail
            go_meet
            rw [HNO2.out hg]
            exact HZ.out
          case true =>
            have hg : s < m ∧ m < e := by have := HG.out; simpa using this
            have HR := HROT hg.1 hg.2
            clear HROT
            go_wp2_with (go_at_call 171; (with_reducible refine HR.mono ?_); rintro e9 w2 ⟨rfl, h5, h6⟩; have H2 : Hid (SRow w2 base g n cap d ∧ Kp g wr w2) := ⟨h5, h6⟩; clear h5 h6)
            go_meet
            exact ⟨H2.out.1, HZ.out.2.trans H2.out.2⟩
        case rest => as_aux_lemma =>
        obtain ⟨hr, hkp⟩ := hcut
        have HZ2 : Hid (SRow wc base g n cap d ∧ Kp g W wc) := ⟨hr, hkp⟩
        clear hr hkp HZ HROT HNO2 HG
        have HZ := HZ2
        clear HZ2
        obtain ⟨wx, hwx⟩ : ∃ wx, wx = wc := ⟨_, rfl⟩
        subst hwx
        clear q
        go_upto_region 41 with fail
        go_cut [199] (fun t wc => t = .bool (decide (a < s ∧ s < mid)) ∧ wc = wx)
        case first => as_aux_lemma =>
          by_cases hA : a < s
          · have dA : decide ((a : Int) < (s : Int)) = true := by simp; omega
            have dA2 : decide (a < s) = true := by simp; omega
            by_cases hB : s < mid
            · have dB : decide ((s : Int) < (mid : Int)) = true := by simp; omega
              have dB2 : decide (s < mid) = true := by simp; omega
              go_wp2_with fail
              go_meet
              exact ⟨by simp [hA, hB], rfl⟩
            · have dB : decide ((s : Int) < (mid : Int)) = false := by simp; omega
              have dB2 : decide (s < mid) = false := by simp; omega
              go_wp2_with fail
              go_meet
              exact ⟨by simp [hB], rfl⟩
          · have dA : decide ((a : Int) < (s : Int)) = false := by simp; omega
            have dA2 : decide (a < s) = false := by simp; omega
            go_wp2_with fail
            go_meet
            exact ⟨by simp [hA], rfl⟩
        case rest => as_aux_lemma =>
        obtain ⟨rfl, h9⟩ := hcut
        have h8 := h9.symm
        subst h8
        clear h9
        obtain ⟨q, hq⟩ : ∃ q, decide (a < s ∧ s < mid) = q := ⟨_, rfl⟩
        have HG : Hid (decide (a < s ∧ s < mid) = q) := hq
        rw [hq]
        clear hq
        go_upto_if 199 with fail
        go_cut [] (fun wc => ∃ d1, SRow wc base g n cap d1 ∧ Kp g W wc ∧ Stb klt a mid d d1 ∧ Srt klt a mid d1)
        case first => as_aux_lemma =>
          cases q
          case false =>
            have hg : ¬ (a < s ∧ s < mid) := by have := HG.out; simpa using this
            go_wp2_with fail
            go_meet
            have hq4 := HQ.out
            refine ⟨d, HZ.out.1, HZ.out.2, Stb.refl _ _ _, ?_⟩
            by_cases hs0 : a < s
            · exact HD.out.2.1.1.sub (Nat.le_refl _) (by omega)
            · have := HD.out.2.1.2
              rw [show s = a by omega] at this
              exact this
          case true =>
            have hg : a < s ∧ s < mid := by have := HG.out; simpa using this
            have HR := HIH.out a s mid d wx (by have := HQ.out; omega) hg.1 hg.2 (by have := HQ.out; omega) HD.out.2.1.1 HD.out.2.1.2 HZ.out.1
            go_wp2_with (go_at_call 153; (with_reducible refine HR.mono ?_); rintro e9 w2 ⟨rfl, d1, h5, h6, h7, h8⟩; have H2 : Hid (SRow w2 base g n cap d1 ∧ Stb klt a mid d d1 ∧ Srt klt a mid d1 ∧ Kp g wx w2) := ⟨h5, h6, h7, h8⟩; clear h5 h6 h7 h8)
            go_meet
            exact ⟨d1, H2.out.1, HZ.out.2.trans H2.out.2.2.2, H2.out.2.1, H2.out.2.2.1⟩
        case rest => as_aux_lemma =>
        obtain ⟨d1, hr, hkp, hst, hso⟩ := hcut
        have HZ2 : Hid (SRow wc base g n cap d1 ∧ Kp g W wc ∧ Stb klt a mid d d1 ∧ Srt klt a mid d1) := ⟨hr, hkp, hst, hso⟩
        clear hr hkp hst hso HZ HG
        have HZ := HZ2
        clear HZ2
        obtain ⟨wy, hwy⟩ : ∃ wy, wy = wc := ⟨_, rfl⟩
        subst hwy
        clear q
        have HV : Hid (Srt klt mid e d1 ∧ Srt klt e b d1) := ⟨HD.out.2.2.1.1.congr fun i i1 i2 => HZ.out.2.2.1.same (by omega), HD.out.2.2.1.2.congr fun i i1 i2 => HZ.out.2.2.1.same (by have := HQ.out; omega)⟩
        go_upto_region 43 with fail
        go_cut [213] (fun t wc => t = .bool (decide (mid < e ∧ e < b)) ∧ wc = wy)
        case first => as_aux_lemma =>
          by_cases hA : mid < e
          · have dA : decide ((mid : Int) < (e : Int)) = true := by simp; omega
            have dA2 : decide (mid < e) = true := by simp; omega
            by_cases hB : e < b
            · have dB : decide ((e : Int) < (b : Int)) = true := by simp; omega
              have dB2 : decide (e < b) = true := by simp; omega
              go_wp2_with fail
              go_meet
              exact ⟨by simp [hA, hB], rfl⟩
            · have dB : decide ((e : Int) < (b : Int)) = false := by simp; omega
              have dB2 : decide (e < b) = false := by simp; omega
              go_wp2_with fail
              go_meet
              exact ⟨by simp [hB], rfl⟩
          · have dA : decide ((mid : Int) < (e : Int)) = false := by simp; omega
            have dA2 : decide (mid < e) = false := by simp; omega
            go_wp2_with fail
            go_meet
            exact ⟨by simp [hA], rfl⟩
        case rest => as_aux_lemma =>
        obtain ⟨rfl, h9⟩ := hcut
        have h8 := h9.symm
        subst h8
        clear h9
        obtain ⟨q, hq⟩ : ∃ q, decide (mid < e ∧ e < b) = q := ⟨_, rfl⟩
        have HG : Hid (decide (mid < e ∧ e < b) = q) := hq
        rw [hq]
        clear hq
        cases q
        case false =>
          have hg : ¬ (mid < e ∧ e < b) := by have := HG.out; simpa using this
          go_wp2_with fail
          (first | go_end0 | go_returns)
          have hq4 := HQ.out
          have hso2 : Srt klt mid b d1 := by
            by_cases hs0 : mid < e
            · exact HV.out.1.sub (Nat.le_refl _) (by omega)
            · have := HV.out.2
              rw [show e = mid by omega] at this
              exact this
          obtain ⟨s1, s2⟩ := sym_join (a := a) (mid := mid) (b := b) (by omega) (by omega) HD.out.2.2.2 HZ.out.2.2.1 HZ.out.2.2.2 (Stb.refl _ _ _) hso2
          exact ⟨rfl, d1, HZ.out.1, (HD.out.1.widen h1 hq4.2.2.1).trans s1, s2, HZ.out.2.1⟩
        case true =>
          have hg : mid < e ∧ e < b := by have := HG.out; simpa using this
          have HR := HIH.out mid e b d1 wy (by have := HQ.out; omega) hg.1 hg.2 hbn HV.out.1 HV.out.2 HZ.out.1
          go_wp2_with (go_at_call 153; (with_reducible refine HR.mono ?_); rintro e9 w2 ⟨rfl, d2, h5, h6, h7, h8⟩; have H2 : Hid (SRow w2 base g n cap d2 ∧ Stb klt mid b d1 d2 ∧ Srt klt mid b d2 ∧ Kp g wy w2) := ⟨h5, h6, h7, h8⟩; clear h5 h6 h7 h8)
          (first | go_end0 | go_returns)
          have hq4 := HQ.out
          obtain ⟨s1, s2⟩ := sym_join (a := a) (mid := mid) (b := b) (by omega) (by omega) HD.out.2.2.2 HZ.out.2.2.1 HZ.out.2.2.2 H2.out.2.1 H2.out.2.2.1
          exact ⟨rfl, d2, H2.out.1, (HD.out.1.widen h1 hq4.2.2.1).trans s1, s2, HZ.out.2.1.trans H2.out.2.2.2⟩
theorem sym_any (hn : n ≤ 2932031007402) : ∀ N, SymOk base g n cap N := by
  intro N
  induction N with
  | zero => intro a m b c W h1 h2 h3; omega
  | succ N ih =>
    intro a m b c W h1 h2 h3 h4 hu hv hr
    by_cases e1 : a + 1 = m
    · subst e1; exact sym_one a (a + 1) b rfl h3 h4 hn hv W hr
    · by_cases e2 : m + 1 = b
      · subst e2; exact sym_last a m (m + 1) rfl (by omega) h4 hn hu W hr
      · exact sym_big N ih a m b h1 (by omega) (by omega) h4 hn hu hv W hr
end Go.Proofs.YtagchghhpggnlaaGreat
namespace Go.Proofs.YtagchghhpggnlaaGreat
open Go.ChangeShapes Go.WideShapes Go.ChangeAt Go.RowKit
set_option linter.unusedVariables false
set_option linter.unusedSimpArgs false
variable {base g n cap : Nat} {c : Nat → Se}

/-! ### blocks -/
theorem mul_lt' {p q B : Nat} (h : p < q) : p * B + B ≤ q * B := by
  have h1 := Nat.mul_le_mul_right B h
  rw [Nat.succ_mul] at h1
  exact h1
def BS (B n : Nat) (d : Nat → Se) : Prop := ∀ p, Srt klt (p * B) (min (p * B + B) n) d
def FB (B q : Nat) (d : Nat → Se) : Prop := ∀ p, p < q → Srt klt (p * B) (p * B + B) d
def RB2 (B a n : Nat) (d : Nat → Se) : Prop := ∀ p, a ≤ p * B → Srt klt (p * B) (min (p * B + B) n) d
theorem FB.next {B q e : Nat} {d d' : Nat → Se} (h : FB B q d) (hs : Stb klt (q * B) e d d') (hr : Srt klt (q * B) (q * B + B) d') : FB B (q + 1) d' := fun p hp => by
  by_cases e1 : p = q
  · rw [e1]; exact hr
  · have := mul_lt' (B := B) (show p < q by omega)
    exact (h p (by omega)).congr fun i i1 i2 => hs.same (by omega)
theorem FB.bs {B q n : Nat} {d : Nat → Se} (h : FB B q d) (hr : Srt klt (q * B) n d) (hn : n < q * B + B) (hq : q * B ≤ n) : BS B n d := fun p => by
  rcases Nat.lt_trichotomy p q with x | x | x
  · exact (h p x).sub (Nat.le_refl _) (Nat.min_le_left _ _)
  · rw [x]; exact hr.sub (Nat.le_refl _) (Nat.min_le_right _ _)
  · have := mul_lt' (B := B) x
    exact Srt.small (by have := Nat.min_le_right (p * B + B) n; omega)
theorem RB2.next {B a a' lo hi n : Nat} {d d' : Nat → Se} (h : RB2 B a n d) (hs : Stb klt lo hi d d') (h1 : hi ≤ a') (h2 : a ≤ a') : RB2 B a' n d' := fun p hp => (h p (by omega)).congr fun i i1 i2 => hs.same (by omega)
theorem two_mul' (q B : Nat) : (2 * q) * B = q * (2 * B) ∧ (2 * q + 1) * B = q * (2 * B) + B := by
  have h1 : (2 * q) * B = q * (2 * B) := by rw [Nat.mul_comm 2 q, Nat.mul_assoc]
  exact ⟨h1, by rw [Nat.succ_mul, h1]⟩
set_option maxRecDepth 100000 in
set_option maxHeartbeats 4000000 in
theorem stable_any (hn : n ≤ 2932031007402) (W : World) (h : SRow W base g n cap c) : Calls Tryz.prog 125 #[.slice (some ⟨g, 0, none⟩) n cap, .int .i64 (n : Int), .func (.func 62) #[] #[]] W fun e W' => e = .returned (.tuple #[]) ∧ ∃ d, SRow W' base g n cap d ∧ Stb klt 0 n c d ∧ Srt klt 0 n d ∧ Kp g W W' := by
  have HH : Hid (SRow W base g n cap c) := h
  clear h
  go_enter Tryz.func125, Tryz.ntmps125
  go_upto_block 0 with fail
  go_cut [7, 8] (fun x y wc => ∃ (q : Nat) (d : Nat → Se), x = .int .i64 ((q * 20 : Nat) : Int) ∧ n < q * 20 + 20 ∧ q * 20 ≤ n ∧ SRow wc base g n cap d ∧ Kp g W wc ∧ Stb klt 0 n c d ∧ FB 20 q d)
  case first => as_aux_lemma =>
    go_wp2_with fail
    go_loopw [7, 8] (fun x y wr => ∃ (q a b : Nat) (d : Nat → Se), x = .int .i64 (a : Int) ∧ y = .int .i64 (b : Int) ∧ a = q * 20 ∧ b = q * 20 + 20 ∧ q * 20 ≤ n ∧ SRow wr base g n cap d ∧ Kp g W wr ∧ Stb klt 0 n c d ∧ FB 20 q d) (fun _ y _ => n + 20 - (intOf y).toNat)
    case atStart => exact ⟨0, 0, 20, c, rfl, rfl, rfl, rfl, Nat.zero_le _, HH.out, Kp.refl _ _, Stb.refl _ _ _, fun p hp => by omega⟩
    case round =>
      obtain ⟨q, a, b, d, rfl, rfl, ha, hb, hq, hr, hkp, hst, hfb⟩ := hrel
      by_cases hle : b ≤ n
      · have dl : decide ((b : Int) ≤ (n : Int)) = true := by simp; omega
        have eb : IntKind.i64.wrap ((b : Int) + 20) = ((b + 20 : Nat) : Int) := by rw [IntKind.wrap_i64]; omega
        have HI := isort_any (c := d) a b (by omega) hle hn wr hr
        have HZ : Hid (Kp g W wr ∧ Stb klt 0 n c d ∧ FB 20 q d ∧ a = q * 20 ∧ b = q * 20 + 20) := ⟨hkp, hst, hfb, ha, hb⟩
        clear hr hkp hst hfb ha hb hq
        go_wp2_with (go_at_call 152; (with_reducible refine HI.mono ?_); rintro e9 w2 ⟨rfl, d2, h5, h6, h7, h8⟩; have H2 : Hid (SRow w2 base g n cap d2 ∧ Stb klt a b d d2 ∧ Srt klt a b d2 ∧ Kp g wr w2) := ⟨h5, h6, h7, h8⟩; clear h5 h6 h7 h8)
        obtain ⟨z1, z2, z3, z4, z5⟩ := HZ.out
        have e6 := H2.out.2.1
        have e7 := H2.out.2.2.1
        rw [z4] at e6
        rw [z4, z5] at e7
        refine ⟨⟨q + 1, b, b + 20, d2, rfl, rfl, by omega, by omega, by omega, H2.out.1, z1.trans H2.out.2.2.2, z2.trans (H2.out.2.1.widen (Nat.zero_le _) hle), z3.next e6 e7⟩, by simp only [intOf]; omega⟩
      · have dl : decide ((b : Int) ≤ (n : Int)) = false := by simp; omega
        go_wp2_with fail
        go_meet
        exact ⟨q, d, by rw [ha], by omega, hq, hr, hkp, hst, hfb⟩
  case rest => as_aux_lemma =>
    obtain ⟨q, d, rfl, hq1, hq2, hr, hkp, hst, hfb⟩ := hcut
    obtain ⟨a, ha⟩ : ∃ a, q * 20 = a := ⟨_, rfl⟩
    rw [ha] at hq1 hq2
    rw [ha]
    have HI := isort_any (c := d) a n hq2 (Nat.le_refl _) hn wc hr
    have HZ : Hid (Kp g W wc ∧ Stb klt 0 n c d ∧ FB 20 q d ∧ q * 20 = a) := ⟨hkp, hst, hfb, ha⟩
    clear hr hkp hst hfb ha HH
    go_upto_block 2 with (go_at_call 152; (with_reducible refine HI.mono ?_); rintro e9 w2 ⟨rfl, d2, h5, h6, h7, h8⟩; have H2 : Hid (SRow w2 base g n cap d2 ∧ Stb klt a n d d2 ∧ Srt klt a n d2 ∧ Kp g wc w2) := ⟨h5, h6, h7, h8⟩; clear h5 h6 h7 h8)
    obtain ⟨z1, z2, z3, z4⟩ := HZ.out
    have hbs : BS 20 n d2 := FB.bs (q := q) (fun p hp => by
      have := mul_lt' (B := 20) hp
      exact (z3 p hp).congr fun i i1 i2 => H2.out.2.1.same (by omega)) (by rw [z4]; exact H2.out.2.2.1) (by omega) (by omega)
    have HZ2 : Hid (SRow w2 base g n cap d2 ∧ Kp g W w2 ∧ Stb klt 0 n c d2 ∧ BS 20 n d2) := ⟨H2.out.1, z1.trans H2.out.2.2.2, z2.trans (H2.out.2.1.widen (Nat.zero_le _) (Nat.le_refl _)), hbs⟩
    clear z1 z2 z3 z4 hbs HZ H2 HI
    go_wp2_with fail
    go_loopw [6] (fun x wr => ∃ (B : Nat) (d : Nat → Se), x = .int .i64 (B : Int) ∧ 20 ≤ B ∧ SRow wr base g n cap d ∧ Kp g W wr ∧ Stb klt 0 n c d ∧ BS B n d) (fun x _ => n - (intOf x).toNat)
    case atStart => exact ⟨20, d2, rfl, Nat.le_refl _, HZ2.out.1, HZ2.out.2.1, HZ2.out.2.2.1, HZ2.out.2.2.2⟩
    case round =>
      obtain ⟨B, d, rfl, hB, hr, hkp, hst, hbs⟩ := hrel
      clear HZ2
      by_cases hlt : B < n
      · have dl : decide ((B : Int) < (n : Int)) = true := by simp; omega
        obtain ⟨C, hC⟩ : ∃ C, 2 * B = C := ⟨_, rfl⟩
        have f1 : IntKind.i64.wrap (2 * (B : Int)) = (C : Int) := by rw [IntKind.wrap_i64]; omega
        have f2 : IntKind.i64.wrap ((B : Int) * 2) = (C : Int) := by rw [IntKind.wrap_i64]; omega
        have HC : Hid (2 * B = C) := hC
        have HZ : Hid (SRow wr base g n cap d ∧ Kp g W wr ∧ Stb klt 0 n c d ∧ BS B n d) := ⟨hr, hkp, hst, hbs⟩
        clear hr hkp hst hbs hC
        go_upto_block 4 with fail
        go_cut [7, 8] (fun x y wc => ∃ (q a : Nat) (d1 : Nat → Se), x = .int .i64 (a : Int) ∧ q * C = a ∧ a ≤ n ∧ n < a + C ∧ SRow wc base g n cap d1 ∧ Kp g W wc ∧ Stb klt 0 n c d1 ∧ FB C q d1 ∧ RB2 B a n d1)
        case first => as_aux_lemma =>
          go_wp2_with fail
          go_loopw [7, 8] (fun x y wr' => ∃ (q a b : Nat) (d1 : Nat → Se), x = .int .i64 (a : Int) ∧ y = .int .i64 (b : Int) ∧ q * C = a ∧ a + C = b ∧ a ≤ n ∧ SRow wr' base g n cap d1 ∧ Kp g W wr' ∧ Stb klt 0 n c d1 ∧ FB C q d1 ∧ RB2 B a n d1) (fun _ y _ => n + C - (intOf y).toNat)
          case atStart => exact ⟨0, 0, C, d, rfl, rfl, Nat.zero_mul _, Nat.zero_add _, Nat.zero_le _, HZ.out.1, HZ.out.2.1, HZ.out.2.2.1, fun p hp => by omega, fun p _ => HZ.out.2.2.2 p⟩
          case round =>
            obtain ⟨q, a, b, d1, rfl, rfl, ha, hb, han, hr, hkp, hst, hfb, hrb⟩ := hrel
            by_cases hle : b ≤ n
            · have dl2 : decide ((b : Int) ≤ (n : Int)) = true := by simp; omega
              have hC := HC.out
              obtain ⟨mm, hmm⟩ : ∃ mm, a + B = mm := ⟨_, rfl⟩
              have f3 : IntKind.i64.wrap ((a : Int) + (B : Int)) = (mm : Int) := by rw [IntKind.wrap_i64]; omega
              have f4 : IntKind.i64.wrap ((b : Int) + (C : Int)) = ((b + C : Nat) : Int) := by rw [IntKind.wrap_i64]; omega
              obtain ⟨t1, t2⟩ := two_mul' q B
              rw [hC, ha] at t1 t2
              have s1 : Srt klt a mm d1 := by
                have := hrb (2 * q) (by omega)
                rw [t1] at this
                exact this.sub (Nat.le_refl _) (by omega)
              have s2 : Srt klt mm b d1 := by
                have := hrb (2 * q + 1) (by omega)
                rw [t2] at this
                exact this.sub (by omega) (by omega)
              have HS := sym_any (base := base) (g := g) (cap := cap) hn (b - a) a mm b d1 wr (Nat.le_refl _) (by omega) (by omega) hle s1 s2 hr
              have HZ3 : Hid (Kp g W wr ∧ Stb klt 0 n c d1 ∧ FB C q d1 ∧ RB2 B a n d1 ∧ q * C = a ∧ a + C = b) := ⟨hkp, hst, hfb, hrb, ha, hb⟩
              clear hr hkp hst hfb hrb ha hb t1 t2 s1 s2 hC hmm
              go_wp2_with (go_at_call 153; (with_reducible refine HS.mono ?_); rintro e9 w2 ⟨rfl, d2, h5, h6, h7, h8⟩; have H2 : Hid (SRow w2 base g n cap d2 ∧ Stb klt a b d1 d2 ∧ Srt klt a b d2 ∧ Kp g wr w2) := ⟨h5, h6, h7, h8⟩; clear h5 h6 h7 h8)
              obtain ⟨z1, z2, z3, z4, z5, z6⟩ := HZ3.out
              have e6 := H2.out.2.1
              have e7 := H2.out.2.2.1
              have hC := HC.out
              refine ⟨⟨q + 1, b, b + C, d2, rfl, rfl, by rw [Nat.succ_mul, z5, z6], rfl, hle, H2.out.1, z1.trans H2.out.2.2.2, z2.trans (e6.widen (Nat.zero_le _) hle), z3.next (by rw [z5]; exact e6) (by rw [z5, z6]; exact e7), z4.next e6 (Nat.le_refl _) (by omega)⟩, by simp only [intOf]; omega⟩
            · have dl2 : decide ((b : Int) ≤ (n : Int)) = false := by simp; omega
              go_wp2_with fail
              go_meet
              exact ⟨q, a, d1, rfl, ha, han, by omega, hr, hkp, hst, hfb, hrb⟩
        case rest => as_aux_lemma =>
          obtain ⟨q, a, d1, rfl, ha, han, hac, hr, hkp, hst, hfb, hrb⟩ := hcut
          clear HZ
          have hC := HC.out
          obtain ⟨mm, hmm⟩ : ∃ mm, a + B = mm := ⟨_, rfl⟩
          have f3 : IntKind.i64.wrap ((a : Int) + (B : Int)) = (mm : Int) := by rw [IntKind.wrap_i64]; omega
          obtain ⟨t1, t2⟩ := two_mul' q B
          rw [hC, ha] at t1 t2
          by_cases hmn : mm < n
          · have dm : decide ((mm : Int) < (n : Int)) = true := by simp; omega
            have s1 : Srt klt a mm d1 := by
              have := hrb (2 * q) (by omega)
              rw [t1] at this
              exact this.sub (Nat.le_refl _) (by omega)
            have s2 : Srt klt mm n d1 := by
              have := hrb (2 * q + 1) (by omega)
              rw [t2] at this
              exact this.sub (by omega) (by omega)
            have HS := sym_any (base := base) (g := g) (cap := cap) hn (n - a) a mm n d1 wc (Nat.le_refl _) (by omega) hmn (Nat.le_refl _) s1 s2 hr
            have HZ3 : Hid (Kp g W wc ∧ Stb klt 0 n c d1 ∧ FB C q d1 ∧ q * C = a) := ⟨hkp, hst, hfb, ha⟩
            clear hr hkp hst hfb hrb ha t1 t2 s1 s2 hC hmm
            go_wp2_with (go_at_call 153; (with_reducible refine HS.mono ?_); rintro e9 w2 ⟨rfl, d2, h5, h6, h7, h8⟩; have H2 : Hid (SRow w2 base g n cap d2 ∧ Stb klt a n d1 d2 ∧ Srt klt a n d2 ∧ Kp g wc w2) := ⟨h5, h6, h7, h8⟩; clear h5 h6 h7 h8)
            obtain ⟨z1, z2, z3, z4⟩ := HZ3.out
            have hC := HC.out
            have hb2 : BS C n d2 := FB.bs (q := q) (fun p hp => by
              have := mul_lt' (B := C) hp
              exact (z3 p hp).congr fun i i1 i2 => H2.out.2.1.same (by omega)) (by rw [z4]; exact H2.out.2.2.1) (by omega) (by omega)
            exact ⟨⟨C, d2, rfl, by omega, H2.out.1, z1.trans H2.out.2.2.2, z2.trans (H2.out.2.1.widen (Nat.zero_le _) (Nat.le_refl _)), hb2⟩, by simp only [intOf]; omega⟩
          · have dm : decide ((mm : Int) < (n : Int)) = false := by simp; omega
            have s1 : Srt klt a n d1 := by
              have := hrb (2 * q) (by omega)
              rw [t1] at this
              exact this.sub (Nat.le_refl _) (by omega)
            have hb2 : BS C n d1 := FB.bs (q := q) hfb (by rw [ha]; exact s1) (by omega) (by omega)
            have HZ3 : Hid (SRow wc base g n cap d1 ∧ Kp g W wc ∧ Stb klt 0 n c d1 ∧ BS C n d1) := ⟨hr, hkp, hst, hb2⟩
            clear hr hkp hst hfb hrb ha t1 t2 s1 hb2 hC hmm
            go_wp2_with fail
            have hC := HC.out
            exact ⟨⟨C, d1, rfl, by omega, HZ3.out.1, HZ3.out.2.1, HZ3.out.2.2.1, HZ3.out.2.2.2⟩, by simp only [intOf]; omega⟩
      · have dl : decide ((B : Int) < (n : Int)) = false := by simp; omega
        go_wp2_with fail
        (first | go_end0 | go_returns)
        have h0 := hbs 0
        rw [Nat.zero_mul] at h0
        exact ⟨rfl, d, hr, hst, h0.sub (Nat.le_refl _) (by omega), hkp⟩
set_option maxRecDepth 100000 in
theorem sortS_any (hn : n ≤ 2932031007402) (W : World) (h : SRow W base g n cap c) : Calls Tryz.prog 88 #[.slice (some ⟨g, 0, none⟩) n cap, .func (.func 62) #[] #[]] W fun e W' => e = .returned (.tuple #[]) ∧ ∃ d, SRow W' base g n cap d ∧ Stb klt 0 n c d ∧ Srt klt 0 n d ∧ Kp g W W' := by
  have HS := stable_any hn W h
  clear h
  go_enter Tryz.func88, Tryz.ntmps88
  go_wp2_with (go_at_call 125; (with_reducible refine HS.mono ?_); rintro e9 w2 ⟨rfl, h5⟩; have H2 : Hid (∃ d, SRow w2 base g n cap d ∧ Stb klt 0 n c d ∧ Srt klt 0 n d ∧ Kp g W w2) := h5; clear h5)
  (first | go_end0 | go_returns)
  exact ⟨rfl, H2.out⟩
end Go.Proofs.YtagchghhpggnlaaGreat
namespace Go.Proofs.YtagchghhpggnlaaGreat
open Go.ChangeShapes Go.WideShapes Go.ChangeAt Go.RowKit
set_option linter.unusedVariables false
set_option linter.unusedSimpArgs false

theorem sinfo {i? : Option TypeInfo} {z : Value} {s b : Nat} (h : i?.map (fun i => (i.zero, i.size, i.bytes)) = some (some z, s, b)) : ∃ i, i? = some i ∧ i.zero = some z ∧ i.size = s ∧ i.bytes = b := by
  cases i? with
  | none => cases h
  | some i =>
    simp at h
    exact ⟨i, rfl, h.1, h.2.1, h.2.2⟩
theorem infoSE : (Tryz.prog.info? 39).map (fun i => (i.zero, i.size, i.bytes)) = some (some (.agg #[.int .u64 0, .int .i64 0, .int .u64 0, .int .i64 0, .int .i64 0, .int .i64 0]), 6, 48) := by kernel_rfl
/-- events that lie somewhere -/
def SIn (W : World) (p : Option Addr) (m : Nat) (X : Nat → Se) : Prop := m = 0 ∨ ∃ b o, p = some ⟨b, o, none⟩ ∧ b < W.heap.size ∧ ∀ j, j < m * 6 → W.cell? ⟨b, o + j, none⟩ = some (seF X j)
theorem SIn.below {W W' : World} {p : Option Addr} {m : Nat} {X : Nat → Se} (h : SIn W p m X) (hb : Below W.heap.size W W') : SIn W' p m X := by
  rcases h with h | ⟨b, o, h1, h2, h3⟩
  · exact .inl h
  · exact .inr ⟨b, o, h1, Nat.lt_of_lt_of_le h2 hb.size, fun j hj => (cell_below (a := ⟨b, o + j, none⟩) hb h2).trans (h3 j hj)⟩
theorem seF_one (X : Nat → Se) (j : Nat) : (seF X j).oneCell' = true := by
  unfold seF seC seL
  have : j % 6 = 0 ∨ j % 6 = 1 ∨ j % 6 = 2 ∨ j % 6 = 3 ∨ j % 6 = 4 ∨ j % 6 = 5 := by omega
  rcases this with h | h | h | h | h | h <;> rw [h] <;> rfl
set_option maxRecDepth 100000 in
set_option maxHeartbeats 2000000 in
theorem sorted_any (p : Option Addr) (n cp : Nat) (X : Nat → Se) (hn : n ≤ 2932031007402) (w : World) (hsrc : SIn w p n X) : Calls Tryz.prog 61 #[.slice p n cp, .func (.func 62) #[] #[]] w fun e w' => ∃ g d, e = .returned (.slice (some ⟨g, 0, none⟩) n n) ∧ SRow w' w.heap.size g n n d ∧ Stb klt 0 n X d ∧ Srt klt 0 n d ∧ Below w.heap.size w w' := by
  obtain ⟨i6, hi6, ha6, hb6, hc6⟩ := sinfo infoSE
  have hsz : (Tryz.prog.info? 39).map (·.size) = some 6 := by simp [hi6, hb6]
  have HS : Hid (SIn w p n X) := hsrc
  clear hsrc
  go_enter Tryz.func61, Tryz.ntmps61
  go_wp2_with (at_make; refine wpList_make_full _ rfl (.tmp 7) (.tmp 7) 34 rfl w.heap.size 39 i6 _ 6 Tryz.underlying34 hi6 ha6 hb6 .i64 .i64 n n n rfl rfl rfl rfl ?c1 ?c2 ?c3 ?_)
  case c1 => rw [hc6]; omega
  case c2 => unfold maxLen; omega
  case c3 => exact Nat.le_refl _
  intro w1 hown hgrow
  have hb1 : Below w.heap.size w w1 := (Below.refl _ _).grown hgrow (Nat.le_refl _) (by simp)
  have hO := own_of_row hown
  have hs2 : n = 0 ∨ ∃ ad, p = some ad ∧ ∀ j, j < n * 6 → w1.cell? (ad.add j) = some (seF X j) := by
    rcases HS.out with h | ⟨b, o, hp, hb, hc⟩
    · exact .inl h
    · exact .inr ⟨_, hp, fun j hj => by rw [addr_add0]; exact (cell_below (a := ⟨b, o + j, none⟩) hb1 hb).trans (hc j hj)⟩
  have HB1 : Hid (Below w.heap.size w w1) := hb1
  clear hown hgrow hb1
  go_wp2_with (refine wpList_copy_head rfl (.tmp 9) (.tmp 10) 34 34 rfl 39 6 Tryz.underlying34 hsz w.heap.size w.heap.size n n n cp p rfl rfl (Nat.le_refl _) _ (seF X) hO (fun j _ => seF_one X j) hs2 w.heap.size w HB1.out (Nat.le_refl _) ?_; intro w2 hO2 hB2)
  have hO3 : SRow w2 w.heap.size w.heap.size n n X := hO2.out.congr fun j hj => by rw [if_pos hj]
  have HSO := sortS_any hn w2 hO3
  have HB2 : Hid (Below w.heap.size w w2) := hB2
  clear hO2 hO3 hB2 hO hs2
  go_wp2_with (go_at_call 88; (with_reducible refine HSO.mono ?_); rintro e9 w3 ⟨rfl, d, h5, h6, h7, h8⟩; have H3 : Hid (SRow w3 w.heap.size w.heap.size n n d ∧ Stb klt 0 n X d ∧ Srt klt 0 n d ∧ Kp w.heap.size w2 w3) := ⟨h5, h6, h7, h8⟩; clear h5 h6 h7 h8)
  go_ret
  exact ⟨_, d, rfl, H3.out.1, H3.out.2.1, H3.out.2.2.1, HB2.out.trans (H3.out.2.2.2.toBelow HB2.out.size (Nat.le_refl _))⟩
set_option maxRecDepth 100000 in
theorem order_any (p : Option Addr) (n cp : Nat) (X : Nat → Se) (hn : n ≤ 2932031007402) (w : World) (hsrc : SIn w p n X) : Calls Tryz.prog 29 #[.slice p n cp] w fun e w' => ∃ g d, e = .returned (.slice (some ⟨g, 0, none⟩) n n) ∧ SRow w' w.heap.size g n n d ∧ Stb klt 0 n X d ∧ Srt klt 0 n d ∧ Below w.heap.size w w' := by
  have HS := sorted_any p n cp X hn w hsrc
  clear hsrc
  go_enter Tryz.func29, Tryz.ntmps29
  go_wp2_with (go_at_call 61; (with_reducible refine HS.mono ?_); rintro e9 w3 ⟨g, d, rfl, h5⟩; have H3 : Hid (SRow w3 w.heap.size g n n d ∧ Stb klt 0 n X d ∧ Srt klt 0 n d ∧ Below w.heap.size w w3) := h5; clear h5)
  go_ret
  exact ⟨g, d, rfl, H3.out⟩
end Go.Proofs.YtagchghhpggnlaaGreat
