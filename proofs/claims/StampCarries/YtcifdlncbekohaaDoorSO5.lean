import Derived.Test.YtcifdlncbekohaaDoorSO4
namespace Go.Proofs.YtcifdlncbekohaaDoor
open Go.ChangeShapes Go.WideShapes Go.ChangeAt Go.RowKit
set_option linter.unusedVariables false
set_option linter.unusedSimpArgs false
variable {base g n cap : Nat} {c : Nat → Se}

theorem rot_self {α : Type} (d : Nat → α) (i : Nat) : rotF d i i (i + 1) = d := by
  funext k
  unfold rotF
  split
  · congr 1; omega
  · rw [if_neg (by omega)]
theorem ins_step {α : Type} (d : Nat → α) (i j : Nat) (h0 : 0 < j) (hj : j ≤ i) : swp (rotF d j i (i + 1)) j (j - 1) = rotF d (j - 1) i (i + 1) := by
  funext k
  have e1 : i + 1 - i = 1 := by omega
  unfold swp
  by_cases a1 : k = j
  · subst a1
    rw [if_pos rfl, rotF_out d (by omega) hj (.inl (by omega)), rotF_hi d (by omega) (by omega), e1]
  · rw [if_neg a1]
    by_cases a2 : k = j - 1
    · subst a2
      rw [if_pos rfl, rotF_lo d (Nat.le_refl _) (by omega), rotF_lo d (Nat.le_refl _) (by omega)]
      congr 1
      omega
    · rw [if_neg a2]
      by_cases a3 : k < j - 1
      · rw [rotF_out d (by omega) hj (.inl (by omega)), rotF_out d (by omega) (by omega) (.inl (by omega))]
      · by_cases a4 : k < i + 1
        · rw [rotF_hi d (by omega) a4, rotF_hi d (by omega) a4]
        · rw [rotF_out d (by omega) hj (.inr (by omega)), rotF_out d (by omega) (by omega) (.inr (by omega))]
theorem ceEnter (args : Array Value) (W : World) : Sem.run Tryd.prog (callFunc 30 args) W = .ok (.enter 30 args) W := by go_simp
abbrev fvE : Value := .func (.func 30) #[] #[]
set_option maxRecDepth 100000 in
set_option maxHeartbeats 2000000 in
theorem isort_any (a b : Nat) (hab : a ≤ b) (hbn : b ≤ n) (hn : n ≤ 2932031007402) (W : World) (h : SRow W base g n cap c) : Calls Tryd.prog 67 #[.slice (some ⟨g, 0, none⟩) n cap, .int .i64 (a : Int), .int .i64 (b : Int), .func (.func 30) #[] #[]] W fun e W' => e = .returned (.tuple #[]) ∧ ∃ d, SRow W' base g n cap d ∧ Stb klt a b c d ∧ Srt klt a b d ∧ Kp g W W' := by
  have HH : Hid (SRow W base g n cap c) := h
  have HE := ceEnter
  have e0 : IntKind.i64.wrap ((a : Int) + 1) = ((a + 1 : Nat) : Int) := by rw [IntKind.wrap_i64]; omega
  clear h
  go_enter Tryd.func67, Tryd.ntmps67
  go_wp2_with fail
  go_loopw [8] (fun x wr => ∃ (i : Nat) (d : Nat → Se), x = .int .i64 (i : Int) ∧ a + 1 ≤ i ∧ (i ≤ b ∨ i = a + 1) ∧ SRow wr base g n cap d ∧ Stb klt a b c d ∧ Srt klt a i d ∧ Kp g W wr) (fun x _ => b - (intOf x).toNat)
  case atStart => exact ⟨a + 1, c, rfl, Nat.le_refl _, .inr rfl, HH.out, Stb.refl _ _ _, Srt.small (by omega), Kp.refl _ _⟩
  case round =>
    obtain ⟨i, d, rfl, hai, hib, hr, hst, hso, hkp⟩ := hrel
    by_cases hlt : i < b
    · have dl : decide ((i : Int) < (b : Int)) = true := by simp; omega
      have hm := smeas hlt
      have ei : IntKind.i64.wrap ((i : Int) + 1) = (i : Int) + 1 := by rw [IntKind.wrap_i64]; omega
      have HR : Hid (SRow wr base g n cap d ∧ Stb klt a b c d ∧ Srt klt a i d ∧ Kp g W wr) := ⟨hr, hst, hso, hkp⟩
      clear hr hst hso hkp
      go_wp2_with fail
      go_loopw [9] (fun y wr' => ∃ j : Nat, y = .int .i64 (j : Int) ∧ a ≤ j ∧ j ≤ i ∧ SRow wr' base g n cap (rotF d j i (i + 1)) ∧ (∀ x, j ≤ x → x < i → klt (d i) (d x) = true) ∧ Kp g W wr') (fun y _ => (intOf y).toNat)
      case atStart => exact ⟨i, rfl, by omega, Nat.le_refl _, by rw [rot_self]; exact HR.out.1, fun x h1 h2 => by omega, HR.out.2.2.2⟩
      case round =>
        obtain ⟨j, rfl, haj, hji, hr2, hall, hkp2⟩ := hrel
        by_cases hja : a < j
        · have dj : decide ((a : Int) < (j : Int)) = true := by simp; omega
          have dj2 : decide (a < j) = true := by simp; omega
          have ej : IntKind.i64.wrap ((j : Int) - 1) = ((j - 1 : Nat) : Int) := by rw [IntKind.wrap_i64]; omega
          obtain ⟨p, hp⟩ : ∃ p, j - 1 = p := ⟨_, rfl⟩
          rw [hp] at ej
          have hpj : p < j := by omega
          have j0 : (0 : Int) ≤ (j : Int) := by omega
          have j1 : (j : Int) < (n : Int) := by omega
          have p0 : (0 : Int) ≤ (p : Int) := by omega
          have p1 : (p : Int) < (n : Int) := by omega
          have hX : rotF d j i (i + 1) j = d i := by
            rw [rotF_lo d (Nat.le_refl _) (by omega)]
            congr 1
            omega
          have hY : rotF d j i (i + 1) p = d p := rotF_out d (by omega) hji (.inl hpj)
          have HC := fun w' => cev_any (d i) (d p) w'
          obtain ⟨X, hX2⟩ : ∃ X, d i = X := ⟨_, rfl⟩
          obtain ⟨Y, hY2⟩ : ∃ Y, d p = Y := ⟨_, rfl⟩
          rw [hX2] at hX HC
          rw [hY2] at hY HC
          obtain ⟨a0, a1, a2, a3, a4, a5⟩ := hr2.cells (i := j) (by omega)
          obtain ⟨b0, b1, b2, b3, b4, b5⟩ := hr2.cells (i := p) (by omega)
          rw [hX] at a0 a1 a2 a3 a4 a5
          rw [hY] at b0 b1 b2 b3 b4 b5
          obtain ⟨q, hq⟩ : ∃ q, decide (kc X Y < 0) = q := ⟨_, rfl⟩
          have HX : Hid (rotF d j i (i + 1) j = X ∧ rotF d j i (i + 1) p = Y ∧ d i = X ∧ d p = Y ∧ klt X Y = q ∧ j - 1 = p) := ⟨hX, hY, hX2, hY2, hq, hp⟩
          have HR2 : Hid (SRow wr base g n cap (rotF d j i (i + 1)) ∧ (∀ x, j ≤ x → x < i → klt (d i) (d x) = true) ∧ Kp g W wr) := ⟨hr2, hall, hkp2⟩
          have HGL : Hid (g < wr.heap.size) := hr2.lt.2
          clear hX hY hX2 hY2 hr2 hall hkp2 hp
          generalize kc X Y = kk at HC hq
          go_upto_region 4 with fail
          go_region_held3 (fun w' => (((w'.cell? ⟨g, j * 6, none⟩ = some (.int .u64 X.t) ∧ (w'.cell? ⟨g, j * 6 + 1, none⟩ = some (.int .i64 X.s) ∧ w'.cell? ⟨g, j * 6 + 2, none⟩ = some (.int .u64 X.q))) ∧ (w'.cell? ⟨g, j * 6 + 3, none⟩ = some (.int .i64 X.d) ∧ (w'.cell? ⟨g, j * 6 + 4, none⟩ = some (.int .i64 X.k) ∧ w'.cell? ⟨g, j * 6 + 5, none⟩ = some (.int .i64 X.v)))) ∧ ((w'.cell? ⟨g, p * 6, none⟩ = some (.int .u64 Y.t) ∧ (w'.cell? ⟨g, p * 6 + 1, none⟩ = some (.int .i64 Y.s) ∧ w'.cell? ⟨g, p * 6 + 2, none⟩ = some (.int .u64 Y.q))) ∧ (w'.cell? ⟨g, p * 6 + 3, none⟩ = some (.int .i64 Y.d) ∧ (w'.cell? ⟨g, p * 6 + 4, none⟩ = some (.int .i64 Y.k) ∧ w'.cell? ⟨g, p * 6 + 5, none⟩ = some (.int .i64 Y.v)))))) (first | exact s6 | go_keep) ((go_at_call 30; (with_reducible refine (HC _).mono ?_); rintro e w1 ⟨rfl, hb1⟩; have hB1 : Below wr.heap.size wr w1 := (by first | exact hb1 | exact (drewS _).trans hb1 | exact (below_drewNq _ _ _).trans hb1); have hr3 := HR2.out.1.later hB1; obtain ⟨a0, a1, a2, a3, a4, a5⟩ := hr3.cells (i := j) (by omega); obtain ⟨b0, b1, b2, b3, b4, b5⟩ := hr3.cells (i := p) (by omega); rw [HX.out.1] at a0 a1 a2 a3 a4 a5; rw [HX.out.2.1] at b0 b1 b2 b3 b4 b5; have fg := hr3.fz; have s6 : (((w1.cell? ⟨g, j * 6, none⟩ = some (.int .u64 X.t) ∧ (w1.cell? ⟨g, j * 6 + 1, none⟩ = some (.int .i64 X.s) ∧ w1.cell? ⟨g, j * 6 + 2, none⟩ = some (.int .u64 X.q))) ∧ (w1.cell? ⟨g, j * 6 + 3, none⟩ = some (.int .i64 X.d) ∧ (w1.cell? ⟨g, j * 6 + 4, none⟩ = some (.int .i64 X.k) ∧ w1.cell? ⟨g, j * 6 + 5, none⟩ = some (.int .i64 X.v)))) ∧ ((w1.cell? ⟨g, p * 6, none⟩ = some (.int .u64 Y.t) ∧ (w1.cell? ⟨g, p * 6 + 1, none⟩ = some (.int .i64 Y.s) ∧ w1.cell? ⟨g, p * 6 + 2, none⟩ = some (.int .u64 Y.q))) ∧ (w1.cell? ⟨g, p * 6 + 3, none⟩ = some (.int .i64 Y.d) ∧ (w1.cell? ⟨g, p * 6 + 4, none⟩ = some (.int .i64 Y.k) ∧ w1.cell? ⟨g, p * 6 + 5, none⟩ = some (.int .i64 Y.v))))) := ⟨⟨⟨a0, a1, a2⟩, a3, a4, a5⟩, ⟨b0, b1, b2⟩, b3, b4, b5⟩; have HR3 : Hid (SRow w1 base g n cap (rotF d j i (i + 1)) ∧ Kp g W w1) := ⟨hr3, HR2.out.2.2.trans (Kp.below hB1)⟩; clear hb1 hB1 hr3))
          all_goals (
            cases q
            · go_wp2_with fail
              obtain ⟨s1, s2⟩ := ins_right klt_ord haj hji HR.out.2.2.1 HR2.out.2.1 (fun _ => by rw [HX.out.2.2.1, HX.out.2.2.2.2.2, HX.out.2.2.2.1]; exact HX.out.2.2.2.2.1)
              exact ⟨⟨i + 1, _, rfl, by omega, .inl hlt, HR3.out.1, HR.out.2.1.trans (s1.widen (Nat.le_refl _) hlt), s2, HR3.out.2⟩, hm⟩
            · go_upto_region 6 with fail
              go_region
              all_goals (
                go_wp2_with fail
                have hp := HX.out.2.2.2.2.2
                refine ⟨⟨p, rfl, by omega, by omega, ?_⟩, by simp only [intOf]; omega⟩
                have hall2 : ∀ x, p ≤ x → x < i → klt (d i) (d x) = true := fun x x1 x2 => by
                  by_cases e : x = p
                  · rw [e, HX.out.2.2.1, HX.out.2.2.2.1]; exact HX.out.2.2.2.2.1
                  · exact HR2.out.2.1 x (by omega) x2
                have hst := ins_step d i j (by omega) hji
                rw [HX.out.2.2.2.2.2] at hst
                rw [← hst]
                first | (with_reducible refine (swp_row HR3.out.1 j p X Y HX.out.1 HX.out.2.1).imp id fun z => ⟨hall2, HR3.out.2.trans z⟩) | (with_reducible refine (swp_row' HR3.out.1 j p X Y HX.out.1 HX.out.2.1).imp id fun z => ⟨hall2, HR3.out.2.trans z⟩)))
        · have dj : decide ((a : Int) < (j : Int)) = false := by simp; omega
          have dj2 : decide (a < j) = false := by simp; omega
          obtain rfl : j = a := by omega
          have HR2 : Hid (SRow wr base g n cap (rotF d j i (i + 1)) ∧ (∀ x, j ≤ x → x < i → klt (d i) (d x) = true) ∧ Kp g W wr) := ⟨hr2, hall, hkp2⟩
          clear hr2 hall hkp2
          go_upto_region 4 with fail
          go_quiet (fail)
          go_wp2_with fail
          obtain ⟨s1, s2⟩ := ins_right klt_ord haj hji HR.out.2.2.1 HR2.out.2.1 (fun e => by omega)
          exact ⟨⟨i + 1, _, rfl, by omega, .inl hlt, HR2.out.1.later (below_drewNq _ _ _), HR.out.2.1.trans (s1.widen (Nat.le_refl _) hlt), s2, HR2.out.2.2.trans (Kp.below (below_drewNq _ _ _))⟩, hm⟩
    · have dl : decide ((i : Int) < (b : Int)) = false := by simp; omega
      go_wp2_with fail
      go_end0
      exact ⟨rfl, d, hr, hst, hso.sub (Nat.le_refl _) (by omega), hkp⟩
end Go.Proofs.YtcifdlncbekohaaDoor
