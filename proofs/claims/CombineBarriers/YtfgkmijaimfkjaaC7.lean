import Derived.Test.YtfgkmijaimfkjaaC6
namespace Go.Proofs.Ytfgkmijaimfkjaa
open Go.ChangeShapes Go.WideShapes Go.ChangeAt Go.RowKit
set_option linter.unusedVariables false
set_option linter.unusedSimpArgs false
variable {base hb wb cb n : Nat} {jv : Value} {N : Nt}

set_option maxRecDepth 100000 in
set_option maxHeartbeats 2000000 in
theorem nstep_any (f : Nat) (caps : Array Value) (J : Int → Int → Int) (K : World → Prop) (SJ : Nat → Prop) (hJ : Jn f caps J K SJ hb wb cb) (w : Nat) (hw : w < n) (hn : n ≤ 64) (hp0 : 0 < N.pl w) (hp5 : N.pl w ≤ 5) (hr : N.rd w < 1000000000000000000) (W : World) (h : NW base hb wb cb n (.func (.func f) #[] caps) N W) (hk : K W) : Calls Try.prog 102 #[.pointer (some ⟨hb, 0, none⟩), .int .i64 (w : Int)] W fun e W' => e = .returned (.tuple #[]) ∧ NK W base hb wb cb n (.func (.func f) #[] caps) K SJ (stepN J n N w) W' := by
  obtain ⟨c0, c1, c2⟩ := h.cells
  obtain ⟨k0, k1, k2⟩ := h.wk hw
  have i0 : (0 : Int) ≤ (w : Int) := by omega
  have i1 : (w : Int) < (n : Int) := by omega
  have e1 : IntKind.i64.wrap (2 * (w : Int)) = 2 * (w : Int) := by rw [IntKind.wrap_i64]; omega
  have e2 : IntKind.i64.wrap (2 * (w : Int) + 1) = ((2 * w + 1 : Nat) : Int) := by rw [IntKind.wrap_i64]; omega
  have e3 : IntKind.i64.wrap (2 * (w : Int) + 2) = ((2 * w + 2 : Nat) : Int) := by rw [IntKind.wrap_i64]; omega
  have HK1 := nknows_any ((2 * w + 1 : Nat) : Int) W h
  have HK2 := nknows_any ((2 * w + 2 : Nat) : Int) W h
  rw [inN_nat] at HK1 HK2
  have HH1 := fun hc => nhearC_any (hb := hb) (N := N) f caps J K SJ hJ w (2 * w + 1) hw hc (by omega) W h hk
  have HH2 := fun hc => nhearC_any (hb := hb) (N := N) f caps J K SJ hJ w (2 * w + 2) hw hc (by omega) W h hk
  have HR := nrise_any w hw W h
  have HP0 := fun h0 => nhearP_any w h0 hw hn W h
  have HL := nleave_any w hw hr W h
  obtain ⟨p, hp⟩ : ∃ p, N.pl w = p := ⟨_, rfl⟩
  unfold stepN
  rw [hp] at hp0 hp5 k0 ⊢
  have HJ : Hid (Jn f caps J K SJ hb wb cb) := hJ
  have HKW : Hid (K W) := hk
  clear hJ hk h hp
  generalize hy1 : ((2 * w + 1 : Nat) : Int) = y1 at *
  generalize hy2 : ((2 * w + 2 : Nat) : Int) = y2 at *
  have hp : p = 1 ∨ p = 2 ∨ p = 3 ∨ p = 4 ∨ p = 5 := by omega
  rcases hp with rfl | rfl | rfl | rfl | rfl
  · by_cases h1 : 2 * w + 1 < n
    · rw [if_pos ⟨by decide, h1⟩]
      have HH := HH1 h1
      simp only [h1, decide_true] at HK1
      clear HH1 HH2 HR HP0 HL HK2
      go_enter Try.func102, Try.ntmps102
      go_wp2_with (first | (go_at_call 101; (first | (with_reducible refine HK1.mono ?_) | (with_reducible refine HK2.mono ?_)); rintro e w1 ⟨rfl, h9⟩; subst h9) | (go_at_call 117; (with_reducible refine HH.mono ?_); rintro e w2 ⟨rfl, hz⟩; have HZ : Hid (_ ∧ True) := ⟨hz, trivial⟩; clear hz))
      (first | go_end0 | go_returns)
      exact ⟨rfl, HZ.out.1⟩
    · have h2 : ¬ 2 * w + 2 < n := by omega
      simp only [h1, decide_false] at HK1
      simp only [h2, decide_false] at HK2
      rw [if_neg (fun e => h1 e.2), if_neg (fun e => h2 e.2)]
      by_cases h0 : 0 < w
      · have d0 : decide ((0 : Int) < (w : Int)) = true := by simp; omega
        rw [if_pos ⟨by decide, h0⟩]
        clear HH1 HH2 HP0 HL
        go_enter Try.func102, Try.ntmps102
        go_wp2_with (first | (go_at_call 101; (first | (with_reducible refine HK1.mono ?_) | (with_reducible refine HK2.mono ?_)); rintro e w1 ⟨rfl, h9⟩; subst h9) | (go_at_call 118; (with_reducible refine HR.mono ?_); rintro e w2 ⟨rfl, hz⟩; have HZ : Hid (_ ∧ True) := ⟨hz, trivial⟩; clear hz))
        (first | go_end0 | go_returns)
        exact ⟨rfl, NK.of HJ.out HKW.out HZ.out.1⟩
      · have d0 : decide ((0 : Int) < (w : Int)) = false := by simp; omega
        rw [if_neg (fun e => h0 e.2), if_neg (fun e => h0 e.2)]
        clear HH1 HH2 HP0 HR
        go_enter Try.func102, Try.ntmps102
        go_wp2_with (first | (go_at_call 101; (first | (with_reducible refine HK1.mono ?_) | (with_reducible refine HK2.mono ?_)); rintro e w1 ⟨rfl, h9⟩; subst h9) | (go_at_call 120; (with_reducible refine HL.mono ?_); rintro e w2 ⟨rfl, hz⟩; have HZ : Hid (_ ∧ True) := ⟨hz, trivial⟩; clear hz))
        (first | go_end0 | go_returns)
        exact ⟨rfl, NK.of HJ.out HKW.out HZ.out.1⟩
  · rw [if_neg (fun e => absurd e.1 (by decide))]
    by_cases h2 : 2 * w + 2 < n
    · rw [if_pos ⟨by decide, h2⟩]
      have HH := HH2 h2
      simp only [h2, decide_true] at HK2
      clear HH1 HH2 HR HP0 HL HK1
      go_enter Try.func102, Try.ntmps102
      go_wp2_with (first | (go_at_call 101; (first | (with_reducible refine HK1.mono ?_) | (with_reducible refine HK2.mono ?_)); rintro e w1 ⟨rfl, h9⟩; subst h9) | (go_at_call 117; (with_reducible refine HH.mono ?_); rintro e w2 ⟨rfl, hz⟩; have HZ : Hid (_ ∧ True) := ⟨hz, trivial⟩; clear hz))
      (first | go_end0 | go_returns)
      exact ⟨rfl, HZ.out.1⟩
    · simp only [h2, decide_false] at HK2
      rw [if_neg (fun e => h2 e.2)]
      by_cases h0 : 0 < w
      · have d0 : decide ((0 : Int) < (w : Int)) = true := by simp; omega
        rw [if_pos ⟨by decide, h0⟩]
        clear HH1 HH2 HP0 HL HK1
        go_enter Try.func102, Try.ntmps102
        go_wp2_with (first | (go_at_call 101; (first | (with_reducible refine HK1.mono ?_) | (with_reducible refine HK2.mono ?_)); rintro e w1 ⟨rfl, h9⟩; subst h9) | (go_at_call 118; (with_reducible refine HR.mono ?_); rintro e w2 ⟨rfl, hz⟩; have HZ : Hid (_ ∧ True) := ⟨hz, trivial⟩; clear hz))
        (first | go_end0 | go_returns)
        exact ⟨rfl, NK.of HJ.out HKW.out HZ.out.1⟩
      · have d0 : decide ((0 : Int) < (w : Int)) = false := by simp; omega
        rw [if_neg (fun e => h0 e.2), if_neg (fun e => h0 e.2)]
        clear HH1 HH2 HP0 HR HK1
        go_enter Try.func102, Try.ntmps102
        go_wp2_with (first | (go_at_call 101; (first | (with_reducible refine HK1.mono ?_) | (with_reducible refine HK2.mono ?_)); rintro e w1 ⟨rfl, h9⟩; subst h9) | (go_at_call 120; (with_reducible refine HL.mono ?_); rintro e w2 ⟨rfl, hz⟩; have HZ : Hid (_ ∧ True) := ⟨hz, trivial⟩; clear hz))
        (first | go_end0 | go_returns)
        exact ⟨rfl, NK.of HJ.out HKW.out HZ.out.1⟩
  · rw [if_neg (fun e => absurd e.1 (by decide)), if_neg (fun e => absurd e.1 (by decide))]
    by_cases h0 : 0 < w
    · have d0 : decide ((0 : Int) < (w : Int)) = true := by simp; omega
      rw [if_pos ⟨by decide, h0⟩]
      clear HH1 HH2 HP0 HL HK1 HK2
      go_enter Try.func102, Try.ntmps102
      go_wp2_with (first | (go_at_call 101; (first | (with_reducible refine HK1.mono ?_) | (with_reducible refine HK2.mono ?_)); rintro e w1 ⟨rfl, h9⟩; subst h9) | (go_at_call 118; (with_reducible refine HR.mono ?_); rintro e w2 ⟨rfl, hz⟩; have HZ : Hid (_ ∧ True) := ⟨hz, trivial⟩; clear hz))
      (first | go_end0 | go_returns)
      exact ⟨rfl, NK.of HJ.out HKW.out HZ.out.1⟩
    · have d0 : decide ((0 : Int) < (w : Int)) = false := by simp; omega
      rw [if_neg (fun e => h0 e.2), if_neg (fun e => h0 e.2)]
      clear HH1 HH2 HP0 HR HK1 HK2
      go_enter Try.func102, Try.ntmps102
      go_wp2_with (first | (go_at_call 101; (first | (with_reducible refine HK1.mono ?_) | (with_reducible refine HK2.mono ?_)); rintro e w1 ⟨rfl, h9⟩; subst h9) | (go_at_call 120; (with_reducible refine HL.mono ?_); rintro e w2 ⟨rfl, hz⟩; have HZ : Hid (_ ∧ True) := ⟨hz, trivial⟩; clear hz))
      (first | go_end0 | go_returns)
      exact ⟨rfl, NK.of HJ.out HKW.out HZ.out.1⟩
  · rw [if_neg (fun e => absurd e.1 (by decide)), if_neg (fun e => absurd e.1 (by decide)), if_neg (fun e => absurd e.1 (by decide))]
    by_cases h0 : 0 < w
    · have d0 : decide ((0 : Int) < (w : Int)) = true := by simp; omega
      rw [if_pos ⟨by decide, h0⟩]
      have HP := HP0 h0
      clear HH1 HH2 HP0 HR HL HK1 HK2
      go_enter Try.func102, Try.ntmps102
      go_wp2_with (first | (go_at_call 101; (first | (with_reducible refine HK1.mono ?_) | (with_reducible refine HK2.mono ?_)); rintro e w1 ⟨rfl, h9⟩; subst h9) | (go_at_call 119; (with_reducible refine HP.mono ?_); rintro e w2 ⟨rfl, hz⟩; have HZ : Hid (_ ∧ True) := ⟨hz, trivial⟩; clear hz))
      (first | go_end0 | go_returns)
      exact ⟨rfl, NK.of HJ.out HKW.out HZ.out.1⟩
    · have d0 : decide ((0 : Int) < (w : Int)) = false := by simp; omega
      rw [if_neg (fun e => h0 e.2)]
      clear HH1 HH2 HP0 HR HK1 HK2
      go_enter Try.func102, Try.ntmps102
      go_wp2_with (first | (go_at_call 101; (first | (with_reducible refine HK1.mono ?_) | (with_reducible refine HK2.mono ?_)); rintro e w1 ⟨rfl, h9⟩; subst h9) | (go_at_call 120; (with_reducible refine HL.mono ?_); rintro e w2 ⟨rfl, hz⟩; have HZ : Hid (_ ∧ True) := ⟨hz, trivial⟩; clear hz))
      (first | go_end0 | go_returns)
      exact ⟨rfl, NK.of HJ.out HKW.out HZ.out.1⟩
  · rw [if_neg (fun e => absurd e.1 (by decide)), if_neg (fun e => absurd e.1 (by decide)), if_neg (fun e => absurd e.1 (by decide)), if_neg (fun e => absurd e.1 (by decide))]
    clear HH1 HH2 HP0 HR HK1 HK2
    go_enter Try.func102, Try.ntmps102
    go_wp2_with (first | (go_at_call 101; (first | (with_reducible refine HK1.mono ?_) | (with_reducible refine HK2.mono ?_)); rintro e w1 ⟨rfl, h9⟩; subst h9) | (go_at_call 120; (with_reducible refine HL.mono ?_); rintro e w2 ⟨rfl, hz⟩; have HZ : Hid (_ ∧ True) := ⟨hz, trivial⟩; clear hz))
    (first | go_end0 | go_returns)
    exact ⟨rfl, NK.of HJ.out HKW.out HZ.out.1⟩
end Go.Proofs.Ytfgkmijaimfkjaa
