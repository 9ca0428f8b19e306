import Derived.Test.YtkfjcbnhohipgaaST4
namespace Go.Proofs.Ytkfjcbnhohipgaa.ST
open Go.ChangeShapes Go.WideShapes Go.ChangeAt Go.RowKit
set_option linter.unusedVariables false
set_option linter.unusedSimpArgs false
variable {β : Type} {rp : β → Int × Int} {kc : β → β → Int}
variable {base g n cap : Nat} {c : Nat → β}

theorem rot_self {α : Type} (d : Nat → α) (i : Nat) : rotF d i i (i + 1) = d := by
  funext k
  unfold rotF
  split
  · congr 1; omega
  · rw [if_neg (by omega)]
theorem ins_step {α : Type} (d : Nat → α) (i j : Nat) (h0 : 0 < j) (hj : j ≤ i) : swp (rotF d j i (i + 1)) j (j - 1) = rotF d (j - 1) i (i + 1) := by
  funext k
  have e1 : i + 1 - i = 1 := by omega
  unfold swp
  by_cases a1 : k = j
  · subst a1
    rw [if_pos rfl, rotF_out d (by omega) hj (.inl (by omega)), rotF_hi d (by omega) (by omega), e1]
  · rw [if_neg a1]
    by_cases a2 : k = j - 1
    · subst a2
      rw [if_pos rfl, rotF_lo d (Nat.le_refl _) (by omega), rotF_lo d (Nat.le_refl _) (by omega)]
      congr 1
      omega
    · rw [if_neg a2]
      by_cases a3 : k < j - 1
      · rw [rotF_out d (by omega) hj (.inl (by omega)), rotF_out d (by omega) (by omega) (.inl (by omega))]
      · by_cases a4 : k < i + 1
        · rw [rotF_hi d (by omega) a4, rotF_hi d (by omega) a4]
        · rw [rotF_out d (by omega) hj (.inr (by omega)), rotF_out d (by omega) (by omega) (.inr (by omega))]
theorem ceEnter (args : Array Value) (W : World) : Sem.run Try.prog (callFunc 14 args) W = .ok (.enter 14 args) W := by go_simp
set_option maxRecDepth 100000 in
set_option maxHeartbeats 2000000 in
theorem isort_any (ho : SOrd (klt kc)) (a b : Nat) (hab : a ≤ b) (hbn : b ≤ n) (hn : n ≤ 2932031007402) (W : World) (h : SRow rp W base g n cap c) (hcm : CmpOk rp kc n g W) : Calls Try.prog 60 #[.slice (some ⟨g, 0, none⟩) n cap, .int .i64 (a : Int), .int .i64 (b : Int), .func (.func 14) #[] #[]] W fun e W' => e = .returned (.tuple #[]) ∧ ∃ d, SRow rp W' base g n cap d ∧ Stb (klt kc) a b c d ∧ Srt (klt kc) a b d ∧ Kp g W W' := by
  have HH : Hid (SRow rp W base g n cap c) := h
  have HE := ceEnter
  have HCM : Hid (CmpOk rp kc n g W) := hcm
  clear hcm
  have e0 : IntKind.i64.wrap ((a : Int) + 1) = ((a + 1 : Nat) : Int) := by rw [IntKind.wrap_i64]; omega
  clear h
  go_enter Try.func60, Try.ntmps60
  go_wp2_with fail
  go_loopw [8] (fun x wr => ∃ (i : Nat) (d : Nat → β), x = .int .i64 (i : Int) ∧ a + 1 ≤ i ∧ (i ≤ b ∨ i = a + 1) ∧ SRow rp wr base g n cap d ∧ Stb (klt kc) a b c d ∧ Srt (klt kc) a i d ∧ Kp g W wr) (fun x _ => b - (intOf x).toNat)
  case atStart => exact ⟨a + 1, c, rfl, Nat.le_refl _, .inr rfl, HH.out, Stb.refl _ _ _, Srt.small (by omega), Kp.refl _ _⟩
  case round =>
    obtain ⟨i, d, rfl, hai, hib, hr, hst, hso, hkp⟩ := hrel
    by_cases hlt : i < b
    · have dl : decide ((i : Int) < (b : Int)) = true := by simp; omega
      have hm := smeas hlt
      have ei : IntKind.i64.wrap ((i : Int) + 1) = (i : Int) + 1 := by rw [IntKind.wrap_i64]; omega
      have HR : Hid (SRow rp wr base g n cap d ∧ Stb (klt kc) a b c d ∧ Srt (klt kc) a i d ∧ Kp g W wr) := ⟨hr, hst, hso, hkp⟩
      clear hr hst hso hkp
      go_wp2_with fail
      go_loopw [9] (fun y wr' => ∃ j : Nat, y = .int .i64 (j : Int) ∧ a ≤ j ∧ j ≤ i ∧ SRow rp wr' base g n cap (rotF d j i (i + 1)) ∧ (∀ x, j ≤ x → x < i → (klt kc) (d i) (d x) = true) ∧ Kp g W wr') (fun y _ => (intOf y).toNat)
      case atStart => exact ⟨i, rfl, by omega, Nat.le_refl _, by rw [rot_self]; exact HR.out.1, fun x h1 h2 => by omega, HR.out.2.2.2⟩
      case round =>
        obtain ⟨j, rfl, haj, hji, hr2, hall, hkp2⟩ := hrel
        by_cases hja : a < j
        · have dj : decide ((a : Int) < (j : Int)) = true := by simp; omega
          have dj2 : decide (a < j) = true := by simp; omega
          have ej : IntKind.i64.wrap ((j : Int) - 1) = ((j - 1 : Nat) : Int) := by rw [IntKind.wrap_i64]; omega
          obtain ⟨p, hp⟩ : ∃ p, j - 1 = p := ⟨_, rfl⟩
          rw [hp] at ej
          have hpj : p < j := by omega
          have j0 : (0 : Int) ≤ (j : Int) := by omega
          have j1 : (j : Int) < (n : Int) := by omega
          have p0 : (0 : Int) ≤ (p : Int) := by omega
          have p1 : (p : Int) < (n : Int) := by omega
          have hX : rotF d j i (i + 1) j = d i := by
            rw [rotF_lo d (Nat.le_refl _) (by omega)]
            congr 1
            omega
          have hY : rotF d j i (i + 1) p = d p := rotF_out d (by omega) hji (.inl hpj)
          have HC := fun w' (hw' : Kp g W w') => HCM.out (by omega) (d i) (d p) w' hw'
          have KW : Hid (Kp g W wr) := hkp2
          obtain ⟨X, hX2⟩ : ∃ X, d i = X := ⟨_, rfl⟩
          obtain ⟨Y, hY2⟩ : ∃ Y, d p = Y := ⟨_, rfl⟩
          rw [hX2] at hX HC
          rw [hY2] at hY HC
          obtain ⟨a0, a1⟩ := hr2.cells (i := j) (by omega)
          obtain ⟨b0, b1⟩ := hr2.cells (i := p) (by omega)
          rw [hX] at a0 a1
          rw [hY] at b0 b1
          obtain ⟨q, hq⟩ : ∃ q, decide (kc X Y < 0) = q := ⟨_, rfl⟩
          have HX : Hid (rotF d j i (i + 1) j = X ∧ rotF d j i (i + 1) p = Y ∧ d i = X ∧ d p = Y ∧ (klt kc) X Y = q ∧ j - 1 = p) := ⟨hX, hY, hX2, hY2, hq, hp⟩
          have HR2 : Hid (SRow rp wr base g n cap (rotF d j i (i + 1)) ∧ (∀ x, j ≤ x → x < i → (klt kc) (d i) (d x) = true) ∧ Kp g W wr) := ⟨hr2, hall, hkp2⟩
          have HGL : Hid (g < wr.heap.size) := hr2.lt.2
          clear hX hY hX2 hY2 hr2 hall hkp2 hp
          generalize kc X Y = kk at HC hq
          go_upto_region 4 with fail
          go_region_held3 (fun w' => ((w'.cell? ⟨g, j * 2, none⟩ = some (.int .i64 (rp X).1) ∧ w'.cell? ⟨g, j * 2 + 1, none⟩ = some (.int .i64 (rp X).2)) ∧ (w'.cell? ⟨g, p * 2, none⟩ = some (.int .i64 (rp Y).1) ∧ w'.cell? ⟨g, p * 2 + 1, none⟩ = some (.int .i64 (rp Y).2)))) (first | exact s6 | go_keep) ((go_at_call 14; (with_reducible refine (HC _ ?_).mono ?_); (first | exact KW.out | exact KW.out.trans (Kp.below (drewS _)) | exact KW.out.trans (Kp.below (below_drewNq _ _ _))); rintro e w1 ⟨rfl, hb1⟩; have hB1 : Below wr.heap.size wr w1 := (by first | exact hb1 | exact (drewS _).trans hb1 | exact (below_drewNq _ _ _).trans hb1); have hr3 := HR2.out.1.later hB1; obtain ⟨a0, a1⟩ := hr3.cells (i := j) (by omega); obtain ⟨b0, b1⟩ := hr3.cells (i := p) (by omega); rw [HX.out.1] at a0 a1; rw [HX.out.2.1] at b0 b1; have fg := hr3.fz; have s6 : ((w1.cell? ⟨g, j * 2, none⟩ = some (.int .i64 (rp X).1) ∧ w1.cell? ⟨g, j * 2 + 1, none⟩ = some (.int .i64 (rp X).2)) ∧ (w1.cell? ⟨g, p * 2, none⟩ = some (.int .i64 (rp Y).1) ∧ w1.cell? ⟨g, p * 2 + 1, none⟩ = some (.int .i64 (rp Y).2))) := ⟨⟨a0, a1⟩, ⟨b0, b1⟩⟩; have HR3 : Hid (SRow rp w1 base g n cap (rotF d j i (i + 1)) ∧ Kp g W w1) := ⟨hr3, HR2.out.2.2.trans (Kp.below hB1)⟩; clear hb1 hB1 hr3))
          all_goals (
            cases q
            · go_wp2_with fail
              obtain ⟨s1, s2⟩ := ins_right ho haj hji HR.out.2.2.1 HR2.out.2.1 (fun _ => by rw [HX.out.2.2.1, HX.out.2.2.2.2.2, HX.out.2.2.2.1]; exact HX.out.2.2.2.2.1)
              exact ⟨⟨i + 1, _, rfl, by omega, .inl hlt, HR3.out.1, HR.out.2.1.trans (s1.widen (Nat.le_refl _) hlt), s2, HR3.out.2⟩, hm⟩
            · go_upto_region 6 with fail
              go_region
              all_goals (
                go_wp2_with fail
                have hp := HX.out.2.2.2.2.2
                refine ⟨⟨p, rfl, by omega, by omega, ?_⟩, by simp only [intOf]; omega⟩
                have hall2 : ∀ x, p ≤ x → x < i → (klt kc) (d i) (d x) = true := fun x x1 x2 => by
                  by_cases e : x = p
                  · rw [e, HX.out.2.2.1, HX.out.2.2.2.1]; exact HX.out.2.2.2.2.1
                  · exact HR2.out.2.1 x (by omega) x2
                have hst := ins_step d i j (by omega) hji
                rw [HX.out.2.2.2.2.2] at hst
                rw [← hst]
                first | (with_reducible refine (swp_row HR3.out.1 j p X Y HX.out.1 HX.out.2.1).imp id fun z => ⟨hall2, HR3.out.2.trans z⟩) | (with_reducible refine (swp_row' HR3.out.1 j p X Y HX.out.1 HX.out.2.1).imp id fun z => ⟨hall2, HR3.out.2.trans z⟩)))
        · have dj : decide ((a : Int) < (j : Int)) = false := by simp; omega
          have dj2 : decide (a < j) = false := by simp; omega
          obtain rfl : j = a := by omega
          have HR2 : Hid (SRow rp wr base g n cap (rotF d j i (i + 1)) ∧ (∀ x, j ≤ x → x < i → (klt kc) (d i) (d x) = true) ∧ Kp g W wr) := ⟨hr2, hall, hkp2⟩
          clear hr2 hall hkp2
          go_upto_region 4 with fail
          go_quiet (fail)
          go_wp2_with fail
          obtain ⟨s1, s2⟩ := ins_right ho haj hji HR.out.2.2.1 HR2.out.2.1 (fun e => by omega)
          exact ⟨⟨i + 1, _, rfl, by omega, .inl hlt, HR2.out.1.later (below_drewNq _ _ _), HR.out.2.1.trans (s1.widen (Nat.le_refl _) hlt), s2, HR2.out.2.2.trans (Kp.below (below_drewNq _ _ _))⟩, hm⟩
    · have dl : decide ((i : Int) < (b : Int)) = false := by simp; omega
      go_wp2_with fail
      go_end0
      exact ⟨rfl, d, hr, hst, hso.sub (Nat.le_refl _) (by omega), hkp⟩
end Go.Proofs.Ytkfjcbnhohipgaa.ST
