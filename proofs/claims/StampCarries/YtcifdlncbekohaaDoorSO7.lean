import Derived.Test.YtcifdlncbekohaaDoorSO6
namespace Go.Proofs.YtcifdlncbekohaaDoor
open Go.ChangeShapes Go.WideShapes Go.ChangeAt Go.RowKit
set_option linter.unusedVariables false
set_option linter.unusedSimpArgs false
variable {base g n cap : Nat} {c : Nat → Se}

theorem rot_none {α : Type} (c : Nat → α) {s m e : Nat} (h1 : s ≤ m) (h2 : m ≤ e) (h : ¬ (s < m ∧ m < e)) : rotF c s m e = c := by
  funext x
  unfold rotF
  split
  · congr 1; omega
  · split
    · congr 1; omega
    · rfl
/-- the contract, for stretches no longer than this -/
def SymOk (base g n cap N : Nat) : Prop := ∀ (a m b : Nat) (c : Nat → Se) (W : World), b - a ≤ N → a < m → m < b → b ≤ n → Srt klt a m c → Srt klt m b c → SRow W base g n cap c → Calls Tryd.prog 68 #[.slice (some ⟨g, 0, none⟩) n cap, .int .i64 (a : Int), .int .i64 (m : Int), .int .i64 (b : Int), .func (.func 30) #[] #[]] W fun e W' => e = .returned (.tuple #[]) ∧ ∃ d, SRow W' base g n cap d ∧ Stb klt a b c d ∧ Srt klt a b d ∧ Kp g W W'
set_option maxRecDepth 100000 in
set_option maxHeartbeats 4000000 in
theorem sym_big (N : Nat) (ih : SymOk base g n cap N) (a m b : Nat) (hN : b - a ≤ N + 1) (ham : a + 1 < m) (hmb : m + 1 < b) (hbn : b ≤ n) (hn : n ≤ 2932031007402) (hu : Srt klt a m c) (hv : Srt klt m b c) (W : World) (h : SRow W base g n cap c) : Calls Tryd.prog 68 #[.slice (some ⟨g, 0, none⟩) n cap, .int .i64 (a : Int), .int .i64 (m : Int), .int .i64 (b : Int), .func (.func 30) #[] #[]] W fun e W' => e = .returned (.tuple #[]) ∧ ∃ d, SRow W' base g n cap d ∧ Stb klt a b c d ∧ Srt klt a b d ∧ Kp g W W' := by
  have HH : Hid (SRow W base g n cap c) := h
  have HE := ceEnter
  have HS : Hid (Srt klt a m c ∧ Srt klt m b c) := ⟨hu, hv⟩
  have e0 : IntKind.i64.wrap ((m : Int) - (a : Int)) = ((m - a : Nat) : Int) := by rw [IntKind.wrap_i64]; omega
  have e01 : (((m : Int) - (a : Int)) == 1) = false := by simp; omega
  have e02 : (((m - a : Nat) : Int) == 1) = false := by simp; omega
  have e03 : IntKind.i64.wrap ((b : Int) - (m : Int)) = ((b - m : Nat) : Int) := by rw [IntKind.wrap_i64]; omega
  have e04 : (((b : Int) - (m : Int)) == 1) = false := by simp; omega
  have e05 : (((b - m : Nat) : Int) == 1) = false := by simp; omega
  obtain ⟨mid, hmid⟩ : ∃ mid, (a + b) / 2 = mid := ⟨_, rfl⟩
  have em : ((a : Int) + (b : Int)) / 2 = (mid : Int) := by omega
  have e06 : IntKind.i64.wrap ((a : Int) + (b : Int)) = ((a + b : Nat) : Int) := by rw [IntKind.wrap_i64]; omega
  obtain ⟨nn, hnn⟩ : ∃ nn, mid + m = nn := ⟨_, rfl⟩
  have e07 : IntKind.i64.wrap ((mid : Int) + (m : Int)) = (nn : Int) := by rw [IntKind.wrap_i64]; omega
  have e09 : IntKind.i64.wrap ((nn : Int) - 1) = ((nn - 1 : Nat) : Int) := by rw [IntKind.wrap_i64]; omega
  obtain ⟨pp, hpp⟩ : ∃ pp, nn - 1 = pp := ⟨_, rfl⟩
  obtain ⟨nb, hnb⟩ : ∃ nb, nn - b = nb := ⟨_, rfl⟩
  rw [hpp] at e09
  have HM : Hid ((a + b) / 2 = mid ∧ mid + m = nn ∧ nn - 1 = pp ∧ nn - b = nb) := ⟨hmid, hnn, hpp, hnb⟩
  have HIH : Hid (SymOk base g n cap N) := ih
  clear h hu hv hmid hnn hpp hnb ih
  go_enter Tryd.func68, Tryd.ntmps68
  go_upto_if 140 with fail
  go_cut [20, 21] (fun x y wc => ∃ s r : Nat, x = .int .i64 (s : Int) ∧ y = .int .i64 (r : Int) ∧ a ≤ s ∧ s ≤ r ∧ r ≤ m ∧ r ≤ mid ∧ nn ≤ s + b ∧ (a < s → nn < s + b → False) ∧ (r < m → r < mid → False) ∧ SRow wc base g n cap c ∧ Kp g W wc)
  case first => as_aux_lemma =>
    have hm4 := HM.out
    by_cases hgt : mid < m
    · have dg : decide ((mid : Int) < (m : Int)) = true := by simp; omega
      have dg2 : decide (mid < m) = true := by simp; omega
      have e08 : IntKind.i64.wrap ((nn : Int) - (b : Int)) = (nb : Int) := by rw [IntKind.wrap_i64]; omega
      clear hm4
      go_wp2_with fail
      go_meet
      have hm4 := HM.out
      exact ⟨nb, mid, rfl, rfl, by omega, by omega, by omega, Nat.le_refl _, by omega, fun _ _ => by omega, fun _ _ => by omega, HH.out, Kp.refl _ _⟩
    · have dg : decide ((mid : Int) < (m : Int)) = false := by simp; omega
      have dg2 : decide (mid < m) = false := by simp; omega
      clear hm4
      go_wp2_with fail
      go_meet
      have hm4 := HM.out
      exact ⟨a, m, rfl, rfl, Nat.le_refl _, by omega, Nat.le_refl _, by omega, by omega, fun _ _ => by omega, fun _ _ => by omega, HH.out, Kp.refl _ _⟩
  case rest => as_aux_lemma =>
    obtain ⟨s0, r0, rfl, rfl, i1, i2, i3, i4, i5, i6, i7, hr, hkp⟩ := hcut
    have HZ : Hid (SRow wc base g n cap c ∧ Kp g W wc) := ⟨hr, hkp⟩
    clear hr hkp HH
    go_wp2_with fail
    go_loopw [20, 21] (fun x y wr => ∃ s r : Nat, x = .int .i64 (s : Int) ∧ y = .int .i64 (r : Int) ∧ a ≤ s ∧ s ≤ r ∧ r ≤ m ∧ r ≤ mid ∧ nn ≤ s + b ∧ (a < s → nn < s + b → klt (c (nn - s)) (c (s - 1)) = false) ∧ (r < m → r < mid → klt (c (nn - r - 1)) (c r) = true) ∧ SRow wr base g n cap c ∧ Kp g W wr) (fun x y _ => (intOf y).toNat - (intOf x).toNat)
    case atStart => exact ⟨s0, r0, rfl, rfl, i1, i2, i3, i4, i5, fun x y => (i6 x y).elim, fun x y => (i7 x y).elim, HZ.out.1, HZ.out.2⟩
    case round =>
      obtain ⟨s, r, rfl, rfl, h1, h2, h3, h4, h5, hlo, hhi, hr, hkp⟩ := hrel
      clear HZ
      by_cases hlt : s < r
      · have dl : decide ((s : Int) < (r : Int)) = true := by simp; omega
        have hm4 := HM.out
        obtain ⟨k, hk⟩ : ∃ k, (s + r) / 2 = k := ⟨_, rfl⟩
        have ek : ((s : Int) + (r : Int)) / 2 = (k : Int) := by omega
        have e1 : IntKind.i64.wrap ((s : Int) + (r : Int)) = ((s + r : Nat) : Int) := by rw [IntKind.wrap_i64]; omega
        have e2 : IntKind.i64.wrap ((pp : Int) - (k : Int)) = ((pp - k : Nat) : Int) := by rw [IntKind.wrap_i64]; omega
        obtain ⟨u, hu⟩ : ∃ u, pp - k = u := ⟨_, rfl⟩
        rw [hu] at e2
        have e3 : IntKind.i64.wrap ((k : Int) + 1) = ((k + 1 : Nat) : Int) := by rw [IntKind.wrap_i64]; omega
        have hun : u < n := by omega
        have hkn : k < n := by omega
        have f1 : s ≤ k := by omega
        have f2 : k < r := by omega
        have m0 : (0 : Int) ≤ (k : Int) := by omega
        have m1 : (k : Int) < (n : Int) := by omega
        have q0 : (0 : Int) ≤ (u : Int) := by omega
        have q1 : (u : Int) < (n : Int) := by omega
        have HU : Hid (nn - (k + 1) = u ∧ nn - k - 1 = u) := ⟨by omega, by omega⟩
        have HK : Hid (Kp g W wr ∧ (a < s → nn < s + b → klt (c (nn - s)) (c (s - 1)) = false) ∧ (r < m → r < mid → klt (c (nn - r - 1)) (c r) = true)) := ⟨hkp, hlo, hhi⟩
        clear hkp hlo hhi hm4 hk hu
        have HC := fun w' => cev_any (c u) (c k) w'
        obtain ⟨X, hX2⟩ : ∃ X, c u = X := ⟨_, rfl⟩
        obtain ⟨Y, hY2⟩ : ∃ Y, c k = Y := ⟨_, rfl⟩
        obtain ⟨a0, a1, a2, a3, a4, a5⟩ := hr.cells (i := u) (by omega)
        obtain ⟨b0, b1, b2, b3, b4, b5⟩ := hr.cells (i := k) (by omega)
        rw [hX2] at a0 a1 a2 a3 a4 a5
        rw [hY2] at b0 b1 b2 b3 b4 b5
        rw [hX2, hY2] at HC
        obtain ⟨q, hq⟩ : ∃ q, decide (kc X Y < 0) = q := ⟨_, rfl⟩
        have HX : Hid (c u = X ∧ c k = Y ∧ klt X Y = q) := ⟨hX2, hY2, hq⟩
        have HR2 : Hid (SRow wr base g n cap c) := hr
        clear hX2 hY2
        generalize kc X Y = kk at HC hq
        go_upto_region 35 with fail
        go_region_held3 (fun w' => (((w'.cell? ⟨g, u * 6, none⟩ = some (.int .u64 X.t) ∧ (w'.cell? ⟨g, u * 6 + 1, none⟩ = some (.int .i64 X.s) ∧ w'.cell? ⟨g, u * 6 + 2, none⟩ = some (.int .u64 X.q))) ∧ (w'.cell? ⟨g, u * 6 + 3, none⟩ = some (.int .i64 X.d) ∧ (w'.cell? ⟨g, u * 6 + 4, none⟩ = some (.int .i64 X.k) ∧ w'.cell? ⟨g, u * 6 + 5, none⟩ = some (.int .i64 X.v)))) ∧ ((w'.cell? ⟨g, k * 6, none⟩ = some (.int .u64 Y.t) ∧ (w'.cell? ⟨g, k * 6 + 1, none⟩ = some (.int .i64 Y.s) ∧ w'.cell? ⟨g, k * 6 + 2, none⟩ = some (.int .u64 Y.q))) ∧ (w'.cell? ⟨g, k * 6 + 3, none⟩ = some (.int .i64 Y.d) ∧ (w'.cell? ⟨g, k * 6 + 4, none⟩ = some (.int .i64 Y.k) ∧ w'.cell? ⟨g, k * 6 + 5, none⟩ = some (.int .i64 Y.v)))))) (first | exact s6 | go_keep) ((go_at_call 30; (with_reducible refine (HC _).mono ?_); rintro e w1 ⟨rfl, hb1⟩; have hB1 : Below wr.heap.size wr w1 := (by first | exact hb1 | exact (drewS _).trans hb1 | exact (below_drewNq _ _ _).trans hb1); have hr3 := HR2.out.later hB1; obtain ⟨a0, a1, a2, a3, a4, a5⟩ := hr3.cells (i := u) (by omega); obtain ⟨b0, b1, b2, b3, b4, b5⟩ := hr3.cells (i := k) (by omega); rw [HX.out.1] at a0 a1 a2 a3 a4 a5; rw [HX.out.2.1] at b0 b1 b2 b3 b4 b5; have s6 : (((w1.cell? ⟨g, u * 6, none⟩ = some (.int .u64 X.t) ∧ (w1.cell? ⟨g, u * 6 + 1, none⟩ = some (.int .i64 X.s) ∧ w1.cell? ⟨g, u * 6 + 2, none⟩ = some (.int .u64 X.q))) ∧ (w1.cell? ⟨g, u * 6 + 3, none⟩ = some (.int .i64 X.d) ∧ (w1.cell? ⟨g, u * 6 + 4, none⟩ = some (.int .i64 X.k) ∧ w1.cell? ⟨g, u * 6 + 5, none⟩ = some (.int .i64 X.v)))) ∧ ((w1.cell? ⟨g, k * 6, none⟩ = some (.int .u64 Y.t) ∧ (w1.cell? ⟨g, k * 6 + 1, none⟩ = some (.int .i64 Y.s) ∧ w1.cell? ⟨g, k * 6 + 2, none⟩ = some (.int .u64 Y.q))) ∧ (w1.cell? ⟨g, k * 6 + 3, none⟩ = some (.int .i64 Y.d) ∧ (w1.cell? ⟨g, k * 6 + 4, none⟩ = some (.int .i64 Y.k) ∧ w1.cell? ⟨g, k * 6 + 5, none⟩ = some (.int .i64 Y.v))))) := ⟨⟨⟨a0, a1, a2⟩, a3, a4, a5⟩, ⟨b0, b1, b2⟩, b3, b4, b5⟩; have HR3 : Hid (SRow w1 base g n cap c ∧ Kp g wr w1) := ⟨hr3, Kp.below hB1⟩; clear hb1 hB1 hr3))
        all_goals (
          cases q
          · go_wp2_with fail
            refine ⟨⟨k + 1, r, rfl, rfl, by omega, by omega, h3, h4, by omega, fun _ _ => by rw [HU.out.1, show k + 1 - 1 = k by omega, HX.out.1, HX.out.2.1]; exact HX.out.2.2, HK.out.2.2, HR3.out.1, HK.out.1.trans HR3.out.2⟩, by simp only [intOf]; omega⟩
          · go_wp2_with fail
            refine ⟨⟨s, k, rfl, rfl, h1, by omega, by omega, by omega, h5, HK.out.2.1, fun _ _ => by rw [HU.out.2, HX.out.1, HX.out.2.1]; exact HX.out.2.2, HR3.out.1, HK.out.1.trans HR3.out.2⟩, by simp only [intOf]; omega⟩)
      · have dl : decide ((s : Int) < (r : Int)) = false := by simp; omega
        obtain rfl : s = r := by omega
        have hm4 := HM.out
        have e1 : IntKind.i64.wrap ((nn : Int) - (s : Int)) = ((nn - s : Nat) : Int) := by rw [IntKind.wrap_i64]; omega
        obtain ⟨e, he⟩ : ∃ e, nn - s = e := ⟨_, rfl⟩
        rw [he] at e1 hlo
        obtain ⟨k1, ⟨k2, k3⟩, ⟨k4, k5⟩, k6⟩ := sym_key (mid := mid) (e := e) klt_ord h1 h3 (by omega) (by omega) (by omega) HS.out.1 HS.out.2 (fun x y => hlo x (by omega)) (fun x y => by have := hhi x (by omega); rw [show nn - s - 1 = e - 1 by omega] at this; exact this)
        have HROT := fun hx hy => rot_any (c := c) (.func (.func 30) #[] #[]) s m e hx hy (by omega) hn wr hr
        have HNO := rot_none c (s := s) (m := m) (e := e) h3 (by omega)
        obtain ⟨d, hd⟩ : ∃ d, rotF c s m e = d := ⟨_, rfl⟩
        rw [hd] at k1 k2 k3 k4 k5 k6 HROT HNO
        have HD : Hid (Stb klt s e c d ∧ (Srt klt a s d ∧ Srt klt s mid d) ∧ (Srt klt mid e d ∧ Srt klt e b d) ∧ (∀ x y, a ≤ x → x < mid → mid ≤ y → y < b → klt (d y) (d x) = false)) := ⟨k1, ⟨k2, k3⟩, ⟨k4, k5⟩, k6⟩
        have HNO2 : Hid (¬ (s < m ∧ m < e) → d = c) := HNO
        have HZ : Hid (SRow wr base g n cap c ∧ Kp g W wr) := ⟨hr, hkp⟩
        have HQ : Hid ((a + b) / 2 = mid ∧ mid + m = s + e ∧ e ≤ b ∧ m ≤ e) := ⟨hm4.1, by omega, by omega, by omega⟩
        clear k1 k2 k3 k4 k5 k6 hd HNO hr hkp hlo hhi hm4 he HM
        go_upto_region 39 with fail
        go_cut [185] (fun t wc => t = .bool (decide (s < m ∧ m < e)) ∧ wc = wr)
        case first => as_aux_lemma =>
          by_cases hA : s < m
          · have dA : decide ((s : Int) < (m : Int)) = true := by simp; omega
            have dA2 : decide (s < m) = true := by simp; omega
            by_cases hB : m < e
            · have dB : decide ((m : Int) < (e : Int)) = true := by simp; omega
              have dB2 : decide (m < e) = true := by simp; omega
              go_wp2_with fail
              go_meet
              exact ⟨by simp [hA, hB], rfl⟩
            · have dB : decide ((m : Int) < (e : Int)) = false := by simp; omega
              have dB2 : decide (m < e) = false := by simp; omega
              go_wp2_with fail
              go_meet
              exact ⟨by simp [hB], rfl⟩
          · have dA : decide ((s : Int) < (m : Int)) = false := by simp; omega
            have dA2 : decide (s < m) = false := by simp; omega
            go_wp2_with fail
            go_meet
            exact ⟨by simp [hA], rfl⟩
        case rest => as_aux_lemma =>
        obtain ⟨rfl, h9⟩ := hcut
        have h8 := h9.symm
        subst h8
        clear h9
        obtain ⟨q, hq⟩ : ∃ q, decide (s < m ∧ m < e) = q := ⟨_, rfl⟩
        have HG : Hid (decide (s < m ∧ m < e) = q) := hq
        rw [hq]
        clear hq
        go_upto_if 185 with fail
        go_cut [] (fun wc => SRow wc base g n cap d ∧ Kp g W wc)
        case first => as_aux_lemma =>
          cases q
          case false =>
            have hg : ¬ (s < m ∧ m < e) := by have := HG.out; simpa using this
            go_wp2_with fail
            go_meet
            rw [HNO2.out hg]
            exact HZ.out
          case true =>
            have hg : s < m ∧ m < e := by have := HG.out; simpa using this
            have HR := HROT hg.1 hg.2
            clear HROT
            go_wp2_with (go_at_call 76; (with_reducible refine HR.mono ?_); rintro e9 w2 ⟨rfl, h5, h6⟩; have H2 : Hid (SRow w2 base g n cap d ∧ Kp g wr w2) := ⟨h5, h6⟩; clear h5 h6)
            go_meet
            exact ⟨H2.out.1, HZ.out.2.trans H2.out.2⟩
        case rest => as_aux_lemma =>
        obtain ⟨hr, hkp⟩ := hcut
        have HZ2 : Hid (SRow wc base g n cap d ∧ Kp g W wc) := ⟨hr, hkp⟩
        clear hr hkp HZ HROT HNO2 HG
        have HZ := HZ2
        clear HZ2
        obtain ⟨wx, hwx⟩ : ∃ wx, wx = wc := ⟨_, rfl⟩
        subst hwx
        clear q
        go_upto_region 41 with fail
        go_cut [199] (fun t wc => t = .bool (decide (a < s ∧ s < mid)) ∧ wc = wx)
        case first => as_aux_lemma =>
          by_cases hA : a < s
          · have dA : decide ((a : Int) < (s : Int)) = true := by simp; omega
            have dA2 : decide (a < s) = true := by simp; omega
            by_cases hB : s < mid
            · have dB : decide ((s : Int) < (mid : Int)) = true := by simp; omega
              have dB2 : decide (s < mid) = true := by simp; omega
              go_wp2_with fail
              go_meet
              exact ⟨by simp [hA, hB], rfl⟩
            · have dB : decide ((s : Int) < (mid : Int)) = false := by simp; omega
              have dB2 : decide (s < mid) = false := by simp; omega
              go_wp2_with fail
              go_meet
              exact ⟨by simp [hB], rfl⟩
          · have dA : decide ((a : Int) < (s : Int)) = false := by simp; omega
            have dA2 : decide (a < s) = false := by simp; omega
            go_wp2_with fail
            go_meet
            exact ⟨by simp [hA], rfl⟩
        case rest => as_aux_lemma =>
        obtain ⟨rfl, h9⟩ := hcut
        have h8 := h9.symm
        subst h8
        clear h9
        obtain ⟨q, hq⟩ : ∃ q, decide (a < s ∧ s < mid) = q := ⟨_, rfl⟩
        have HG : Hid (decide (a < s ∧ s < mid) = q) := hq
        rw [hq]
        clear hq
        go_upto_if 199 with fail
        go_cut [] (fun wc => ∃ d1, SRow wc base g n cap d1 ∧ Kp g W wc ∧ Stb klt a mid d d1 ∧ Srt klt a mid d1)
        case first => as_aux_lemma =>
          cases q
          case false =>
            have hg : ¬ (a < s ∧ s < mid) := by have := HG.out; simpa using this
            go_wp2_with fail
            go_meet
            have hq4 := HQ.out
            refine ⟨d, HZ.out.1, HZ.out.2, Stb.refl _ _ _, ?_⟩
            by_cases hs0 : a < s
            · exact HD.out.2.1.1.sub (Nat.le_refl _) (by omega)
            · have := HD.out.2.1.2
              rw [show s = a by omega] at this
              exact this
          case true =>
            have hg : a < s ∧ s < mid := by have := HG.out; simpa using this
            have HR := HIH.out a s mid d wx (by have := HQ.out; omega) hg.1 hg.2 (by have := HQ.out; omega) HD.out.2.1.1 HD.out.2.1.2 HZ.out.1
            go_wp2_with (go_at_call 68; (with_reducible refine HR.mono ?_); rintro e9 w2 ⟨rfl, d1, h5, h6, h7, h8⟩; have H2 : Hid (SRow w2 base g n cap d1 ∧ Stb klt a mid d d1 ∧ Srt klt a mid d1 ∧ Kp g wx w2) := ⟨h5, h6, h7, h8⟩; clear h5 h6 h7 h8)
            go_meet
            exact ⟨d1, H2.out.1, HZ.out.2.trans H2.out.2.2.2, H2.out.2.1, H2.out.2.2.1⟩
        case rest => as_aux_lemma =>
        obtain ⟨d1, hr, hkp, hst, hso⟩ := hcut
        have HZ2 : Hid (SRow wc base g n cap d1 ∧ Kp g W wc ∧ Stb klt a mid d d1 ∧ Srt klt a mid d1) := ⟨hr, hkp, hst, hso⟩
        clear hr hkp hst hso HZ HG
        have HZ := HZ2
        clear HZ2
        obtain ⟨wy, hwy⟩ : ∃ wy, wy = wc := ⟨_, rfl⟩
        subst hwy
        clear q
        have HV : Hid (Srt klt mid e d1 ∧ Srt klt e b d1) := ⟨HD.out.2.2.1.1.congr fun i i1 i2 => HZ.out.2.2.1.same (by omega), HD.out.2.2.1.2.congr fun i i1 i2 => HZ.out.2.2.1.same (by have := HQ.out; omega)⟩
        go_upto_region 43 with fail
        go_cut [213] (fun t wc => t = .bool (decide (mid < e ∧ e < b)) ∧ wc = wy)
        case first => as_aux_lemma =>
          by_cases hA : mid < e
          · have dA : decide ((mid : Int) < (e : Int)) = true := by simp; omega
            have dA2 : decide (mid < e) = true := by simp; omega
            by_cases hB : e < b
            · have dB : decide ((e : Int) < (b : Int)) = true := by simp; omega
              have dB2 : decide (e < b) = true := by simp; omega
              go_wp2_with fail
              go_meet
              exact ⟨by simp [hA, hB], rfl⟩
            · have dB : decide ((e : Int) < (b : Int)) = false := by simp; omega
              have dB2 : decide (e < b) = false := by simp; omega
              go_wp2_with fail
              go_meet
              exact ⟨by simp [hB], rfl⟩
          · have dA : decide ((mid : Int) < (e : Int)) = false := by simp; omega
            have dA2 : decide (mid < e) = false := by simp; omega
            go_wp2_with fail
            go_meet
            exact ⟨by simp [hA], rfl⟩
        case rest => as_aux_lemma =>
        obtain ⟨rfl, h9⟩ := hcut
        have h8 := h9.symm
        subst h8
        clear h9
        obtain ⟨q, hq⟩ : ∃ q, decide (mid < e ∧ e < b) = q := ⟨_, rfl⟩
        have HG : Hid (decide (mid < e ∧ e < b) = q) := hq
        rw [hq]
        clear hq
        cases q
        case false =>
          have hg : ¬ (mid < e ∧ e < b) := by have := HG.out; simpa using this
          go_wp2_with fail
          (first | go_end0 | go_returns)
          have hq4 := HQ.out
          have hso2 : Srt klt mid b d1 := by
            by_cases hs0 : mid < e
            · exact HV.out.1.sub (Nat.le_refl _) (by omega)
            · have := HV.out.2
              rw [show e = mid by omega] at this
              exact this
          obtain ⟨s1, s2⟩ := sym_join (a := a) (mid := mid) (b := b) (by omega) (by omega) HD.out.2.2.2 HZ.out.2.2.1 HZ.out.2.2.2 (Stb.refl _ _ _) hso2
          exact ⟨rfl, d1, HZ.out.1, (HD.out.1.widen h1 hq4.2.2.1).trans s1, s2, HZ.out.2.1⟩
        case true =>
          have hg : mid < e ∧ e < b := by have := HG.out; simpa using this
          have HR := HIH.out mid e b d1 wy (by have := HQ.out; omega) hg.1 hg.2 hbn HV.out.1 HV.out.2 HZ.out.1
          go_wp2_with (go_at_call 68; (with_reducible refine HR.mono ?_); rintro e9 w2 ⟨rfl, d2, h5, h6, h7, h8⟩; have H2 : Hid (SRow w2 base g n cap d2 ∧ Stb klt mid b d1 d2 ∧ Srt klt mid b d2 ∧ Kp g wy w2) := ⟨h5, h6, h7, h8⟩; clear h5 h6 h7 h8)
          (first | go_end0 | go_returns)
          have hq4 := HQ.out
          obtain ⟨s1, s2⟩ := sym_join (a := a) (mid := mid) (b := b) (by omega) (by omega) HD.out.2.2.2 HZ.out.2.2.1 HZ.out.2.2.2 H2.out.2.1 H2.out.2.2.1
          exact ⟨rfl, d2, H2.out.1, (HD.out.1.widen h1 hq4.2.2.1).trans s1, s2, HZ.out.2.1.trans H2.out.2.2.2⟩
theorem sym_any (hn : n ≤ 2932031007402) : ∀ N, SymOk base g n cap N := by
  intro N
  induction N with
  | zero => intro a m b c W h1 h2 h3; omega
  | succ N ih =>
    intro a m b c W h1 h2 h3 h4 hu hv hr
    by_cases e1 : a + 1 = m
    · subst e1; exact sym_one a (a + 1) b rfl h3 h4 hn hv W hr
    · by_cases e2 : m + 1 = b
      · subst e2; exact sym_last a m (m + 1) rfl (by omega) h4 hn hu W hr
      · exact sym_big N ih a m b h1 (by omega) (by omega) h4 hn hu hv W hr
end Go.Proofs.YtcifdlncbekohaaDoor
