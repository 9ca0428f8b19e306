import Derived.Test.YtcifdlncbekohaaDoorSO7
namespace Go.Proofs.YtcifdlncbekohaaDoor
open Go.ChangeShapes Go.WideShapes Go.ChangeAt Go.RowKit
set_option linter.unusedVariables false
set_option linter.unusedSimpArgs false
variable {base g n cap : Nat} {c : Nat → Se}

/-! ### blocks -/
theorem mul_lt' {p q B : Nat} (h : p < q) : p * B + B ≤ q * B := by
  have h1 := Nat.mul_le_mul_right B h
  rw [Nat.succ_mul] at h1
  exact h1
def BS (B n : Nat) (d : Nat → Se) : Prop := ∀ p, Srt klt (p * B) (min (p * B + B) n) d
def FB (B q : Nat) (d : Nat → Se) : Prop := ∀ p, p < q → Srt klt (p * B) (p * B + B) d
def RB2 (B a n : Nat) (d : Nat → Se) : Prop := ∀ p, a ≤ p * B → Srt klt (p * B) (min (p * B + B) n) d
theorem FB.next {B q e : Nat} {d d' : Nat → Se} (h : FB B q d) (hs : Stb klt (q * B) e d d') (hr : Srt klt (q * B) (q * B + B) d') : FB B (q + 1) d' := fun p hp => by
  by_cases e1 : p = q
  · rw [e1]; exact hr
  · have := mul_lt' (B := B) (show p < q by omega)
    exact (h p (by omega)).congr fun i i1 i2 => hs.same (by omega)
theorem FB.bs {B q n : Nat} {d : Nat → Se} (h : FB B q d) (hr : Srt klt (q * B) n d) (hn : n < q * B + B) (hq : q * B ≤ n) : BS B n d := fun p => by
  rcases Nat.lt_trichotomy p q with x | x | x
  · exact (h p x).sub (Nat.le_refl _) (Nat.min_le_left _ _)
  · rw [x]; exact hr.sub (Nat.le_refl _) (Nat.min_le_right _ _)
  · have := mul_lt' (B := B) x
    exact Srt.small (by have := Nat.min_le_right (p * B + B) n; omega)
theorem RB2.next {B a a' lo hi n : Nat} {d d' : Nat → Se} (h : RB2 B a n d) (hs : Stb klt lo hi d d') (h1 : hi ≤ a') (h2 : a ≤ a') : RB2 B a' n d' := fun p hp => (h p (by omega)).congr fun i i1 i2 => hs.same (by omega)
theorem two_mul' (q B : Nat) : (2 * q) * B = q * (2 * B) ∧ (2 * q + 1) * B = q * (2 * B) + B := by
  have h1 : (2 * q) * B = q * (2 * B) := by rw [Nat.mul_comm 2 q, Nat.mul_assoc]
  exact ⟨h1, by rw [Nat.succ_mul, h1]⟩
set_option maxRecDepth 100000 in
set_option maxHeartbeats 4000000 in
theorem stable_any (hn : n ≤ 2932031007402) (W : World) (h : SRow W base g n cap c) : Calls Tryd.prog 51 #[.slice (some ⟨g, 0, none⟩) n cap, .int .i64 (n : Int), .func (.func 30) #[] #[]] W fun e W' => e = .returned (.tuple #[]) ∧ ∃ d, SRow W' base g n cap d ∧ Stb klt 0 n c d ∧ Srt klt 0 n d ∧ Kp g W W' := by
  have HH : Hid (SRow W base g n cap c) := h
  clear h
  go_enter Tryd.func51, Tryd.ntmps51
  go_upto_block 0 with fail
  go_cut [7, 8] (fun x y wc => ∃ (q : Nat) (d : Nat → Se), x = .int .i64 ((q * 20 : Nat) : Int) ∧ n < q * 20 + 20 ∧ q * 20 ≤ n ∧ SRow wc base g n cap d ∧ Kp g W wc ∧ Stb klt 0 n c d ∧ FB 20 q d)
  case first => as_aux_lemma =>
    go_wp2_with fail
    go_loopw [7, 8] (fun x y wr => ∃ (q a b : Nat) (d : Nat → Se), x = .int .i64 (a : Int) ∧ y = .int .i64 (b : Int) ∧ a = q * 20 ∧ b = q * 20 + 20 ∧ q * 20 ≤ n ∧ SRow wr base g n cap d ∧ Kp g W wr ∧ Stb klt 0 n c d ∧ FB 20 q d) (fun _ y _ => n + 20 - (intOf y).toNat)
    case atStart => exact ⟨0, 0, 20, c, rfl, rfl, rfl, rfl, Nat.zero_le _, HH.out, Kp.refl _ _, Stb.refl _ _ _, fun p hp => by omega⟩
    case round =>
      obtain ⟨q, a, b, d, rfl, rfl, ha, hb, hq, hr, hkp, hst, hfb⟩ := hrel
      by_cases hle : b ≤ n
      · have dl : decide ((b : Int) ≤ (n : Int)) = true := by simp; omega
        have eb : IntKind.i64.wrap ((b : Int) + 20) = ((b + 20 : Nat) : Int) := by rw [IntKind.wrap_i64]; omega
        have HI := isort_any (c := d) a b (by omega) hle hn wr hr
        have HZ : Hid (Kp g W wr ∧ Stb klt 0 n c d ∧ FB 20 q d ∧ a = q * 20 ∧ b = q * 20 + 20) := ⟨hkp, hst, hfb, ha, hb⟩
        clear hr hkp hst hfb ha hb hq
        go_wp2_with (go_at_call 67; (with_reducible refine HI.mono ?_); rintro e9 w2 ⟨rfl, d2, h5, h6, h7, h8⟩; have H2 : Hid (SRow w2 base g n cap d2 ∧ Stb klt a b d d2 ∧ Srt klt a b d2 ∧ Kp g wr w2) := ⟨h5, h6, h7, h8⟩; clear h5 h6 h7 h8)
        obtain ⟨z1, z2, z3, z4, z5⟩ := HZ.out
        have e6 := H2.out.2.1
        have e7 := H2.out.2.2.1
        rw [z4] at e6
        rw [z4, z5] at e7
        refine ⟨⟨q + 1, b, b + 20, d2, rfl, rfl, by omega, by omega, by omega, H2.out.1, z1.trans H2.out.2.2.2, z2.trans (H2.out.2.1.widen (Nat.zero_le _) hle), z3.next e6 e7⟩, by simp only [intOf]; omega⟩
      · have dl : decide ((b : Int) ≤ (n : Int)) = false := by simp; omega
        go_wp2_with fail
        go_meet
        exact ⟨q, d, by rw [ha], by omega, hq, hr, hkp, hst, hfb⟩
  case rest => as_aux_lemma =>
    obtain ⟨q, d, rfl, hq1, hq2, hr, hkp, hst, hfb⟩ := hcut
    obtain ⟨a, ha⟩ : ∃ a, q * 20 = a := ⟨_, rfl⟩
    rw [ha] at hq1 hq2
    rw [ha]
    have HI := isort_any (c := d) a n hq2 (Nat.le_refl _) hn wc hr
    have HZ : Hid (Kp g W wc ∧ Stb klt 0 n c d ∧ FB 20 q d ∧ q * 20 = a) := ⟨hkp, hst, hfb, ha⟩
    clear hr hkp hst hfb ha HH
    go_upto_block 2 with (go_at_call 67; (with_reducible refine HI.mono ?_); rintro e9 w2 ⟨rfl, d2, h5, h6, h7, h8⟩; have H2 : Hid (SRow w2 base g n cap d2 ∧ Stb klt a n d d2 ∧ Srt klt a n d2 ∧ Kp g wc w2) := ⟨h5, h6, h7, h8⟩; clear h5 h6 h7 h8)
    obtain ⟨z1, z2, z3, z4⟩ := HZ.out
    have hbs : BS 20 n d2 := FB.bs (q := q) (fun p hp => by
      have := mul_lt' (B := 20) hp
      exact (z3 p hp).congr fun i i1 i2 => H2.out.2.1.same (by omega)) (by rw [z4]; exact H2.out.2.2.1) (by omega) (by omega)
    have HZ2 : Hid (SRow w2 base g n cap d2 ∧ Kp g W w2 ∧ Stb klt 0 n c d2 ∧ BS 20 n d2) := ⟨H2.out.1, z1.trans H2.out.2.2.2, z2.trans (H2.out.2.1.widen (Nat.zero_le _) (Nat.le_refl _)), hbs⟩
    clear z1 z2 z3 z4 hbs HZ H2 HI
    go_wp2_with fail
    go_loopw [6] (fun x wr => ∃ (B : Nat) (d : Nat → Se), x = .int .i64 (B : Int) ∧ 20 ≤ B ∧ SRow wr base g n cap d ∧ Kp g W wr ∧ Stb klt 0 n c d ∧ BS B n d) (fun x _ => n - (intOf x).toNat)
    case atStart => exact ⟨20, d2, rfl, Nat.le_refl _, HZ2.out.1, HZ2.out.2.1, HZ2.out.2.2.1, HZ2.out.2.2.2⟩
    case round =>
      obtain ⟨B, d, rfl, hB, hr, hkp, hst, hbs⟩ := hrel
      clear HZ2
      by_cases hlt : B < n
      · have dl : decide ((B : Int) < (n : Int)) = true := by simp; omega
        obtain ⟨C, hC⟩ : ∃ C, 2 * B = C := ⟨_, rfl⟩
        have f1 : IntKind.i64.wrap (2 * (B : Int)) = (C : Int) := by rw [IntKind.wrap_i64]; omega
        have f2 : IntKind.i64.wrap ((B : Int) * 2) = (C : Int) := by rw [IntKind.wrap_i64]; omega
        have HC : Hid (2 * B = C) := hC
        have HZ : Hid (SRow wr base g n cap d ∧ Kp g W wr ∧ Stb klt 0 n c d ∧ BS B n d) := ⟨hr, hkp, hst, hbs⟩
        clear hr hkp hst hbs hC
        go_upto_block 4 with fail
        go_cut [7, 8] (fun x y wc => ∃ (q a : Nat) (d1 : Nat → Se), x = .int .i64 (a : Int) ∧ q * C = a ∧ a ≤ n ∧ n < a + C ∧ SRow wc base g n cap d1 ∧ Kp g W wc ∧ Stb klt 0 n c d1 ∧ FB C q d1 ∧ RB2 B a n d1)
        case first => as_aux_lemma =>
          go_wp2_with fail
          go_loopw [7, 8] (fun x y wr' => ∃ (q a b : Nat) (d1 : Nat → Se), x = .int .i64 (a : Int) ∧ y = .int .i64 (b : Int) ∧ q * C = a ∧ a + C = b ∧ a ≤ n ∧ SRow wr' base g n cap d1 ∧ Kp g W wr' ∧ Stb klt 0 n c d1 ∧ FB C q d1 ∧ RB2 B a n d1) (fun _ y _ => n + C - (intOf y).toNat)
          case atStart => exact ⟨0, 0, C, d, rfl, rfl, Nat.zero_mul _, Nat.zero_add _, Nat.zero_le _, HZ.out.1, HZ.out.2.1, HZ.out.2.2.1, fun p hp => by omega, fun p _ => HZ.out.2.2.2 p⟩
          case round =>
            obtain ⟨q, a, b, d1, rfl, rfl, ha, hb, han, hr, hkp, hst, hfb, hrb⟩ := hrel
            by_cases hle : b ≤ n
            · have dl2 : decide ((b : Int) ≤ (n : Int)) = true := by simp; omega
              have hC := HC.out
              obtain ⟨mm, hmm⟩ : ∃ mm, a + B = mm := ⟨_, rfl⟩
              have f3 : IntKind.i64.wrap ((a : Int) + (B : Int)) = (mm : Int) := by rw [IntKind.wrap_i64]; omega
              have f4 : IntKind.i64.wrap ((b : Int) + (C : Int)) = ((b + C : Nat) : Int) := by rw [IntKind.wrap_i64]; omega
              obtain ⟨t1, t2⟩ := two_mul' q B
              rw [hC, ha] at t1 t2
              have s1 : Srt klt a mm d1 := by
                have := hrb (2 * q) (by omega)
                rw [t1] at this
                exact this.sub (Nat.le_refl _) (by omega)
              have s2 : Srt klt mm b d1 := by
                have := hrb (2 * q + 1) (by omega)
                rw [t2] at this
                exact this.sub (by omega) (by omega)
              have HS := sym_any (base := base) (g := g) (cap := cap) hn (b - a) a mm b d1 wr (Nat.le_refl _) (by omega) (by omega) hle s1 s2 hr
              have HZ3 : Hid (Kp g W wr ∧ Stb klt 0 n c d1 ∧ FB C q d1 ∧ RB2 B a n d1 ∧ q * C = a ∧ a + C = b) := ⟨hkp, hst, hfb, hrb, ha, hb⟩
              clear hr hkp hst hfb hrb ha hb t1 t2 s1 s2 hC hmm
              go_wp2_with (go_at_call 68; (with_reducible refine HS.mono ?_); rintro e9 w2 ⟨rfl, d2, h5, h6, h7, h8⟩; have H2 : Hid (SRow w2 base g n cap d2 ∧ Stb klt a b d1 d2 ∧ Srt klt a b d2 ∧ Kp g wr w2) := ⟨h5, h6, h7, h8⟩; clear h5 h6 h7 h8)
              obtain ⟨z1, z2, z3, z4, z5, z6⟩ := HZ3.out
              have e6 := H2.out.2.1
              have e7 := H2.out.2.2.1
              have hC := HC.out
              refine ⟨⟨q + 1, b, b + C, d2, rfl, rfl, by rw [Nat.succ_mul, z5, z6], rfl, hle, H2.out.1, z1.trans H2.out.2.2.2, z2.trans (e6.widen (Nat.zero_le _) hle), z3.next (by rw [z5]; exact e6) (by rw [z5, z6]; exact e7), z4.next e6 (Nat.le_refl _) (by omega)⟩, by simp only [intOf]; omega⟩
            · have dl2 : decide ((b : Int) ≤ (n : Int)) = false := by simp; omega
              go_wp2_with fail
              go_meet
              exact ⟨q, a, d1, rfl, ha, han, by omega, hr, hkp, hst, hfb, hrb⟩
        case rest => as_aux_lemma =>
          obtain ⟨q, a, d1, rfl, ha, han, hac, hr, hkp, hst, hfb, hrb⟩ := hcut
          clear HZ
          have hC := HC.out
          obtain ⟨mm, hmm⟩ : ∃ mm, a + B = mm := ⟨_, rfl⟩
          have f3 : IntKind.i64.wrap ((a : Int) + (B : Int)) = (mm : Int) := by rw [IntKind.wrap_i64]; omega
          obtain ⟨t1, t2⟩ := two_mul' q B
          rw [hC, ha] at t1 t2
          by_cases hmn : mm < n
          · have dm : decide ((mm : Int) < (n : Int)) = true := by simp; omega
            have s1 : Srt klt a mm d1 := by
              have := hrb (2 * q) (by omega)
              rw [t1] at this
              exact this.sub (Nat.le_refl _) (by omega)
            have s2 : Srt klt mm n d1 := by
              have := hrb (2 * q + 1) (by omega)
              rw [t2] at this
              exact this.sub (by omega) (by omega)
            have HS := sym_any (base := base) (g := g) (cap := cap) hn (n - a) a mm n d1 wc (Nat.le_refl _) (by omega) hmn (Nat.le_refl _) s1 s2 hr
            have HZ3 : Hid (Kp g W wc ∧ Stb klt 0 n c d1 ∧ FB C q d1 ∧ q * C = a) := ⟨hkp, hst, hfb, ha⟩
            clear hr hkp hst hfb hrb ha t1 t2 s1 s2 hC hmm
            go_wp2_with (go_at_call 68; (with_reducible refine HS.mono ?_); rintro e9 w2 ⟨rfl, d2, h5, h6, h7, h8⟩; have H2 : Hid (SRow w2 base g n cap d2 ∧ Stb klt a n d1 d2 ∧ Srt klt a n d2 ∧ Kp g wc w2) := ⟨h5, h6, h7, h8⟩; clear h5 h6 h7 h8)
            obtain ⟨z1, z2, z3, z4⟩ := HZ3.out
            have hC := HC.out
            have hb2 : BS C n d2 := FB.bs (q := q) (fun p hp => by
              have := mul_lt' (B := C) hp
              exact (z3 p hp).congr fun i i1 i2 => H2.out.2.1.same (by omega)) (by rw [z4]; exact H2.out.2.2.1) (by omega) (by omega)
            exact ⟨⟨C, d2, rfl, by omega, H2.out.1, z1.trans H2.out.2.2.2, z2.trans (H2.out.2.1.widen (Nat.zero_le _) (Nat.le_refl _)), hb2⟩, by simp only [intOf]; omega⟩
          · have dm : decide ((mm : Int) < (n : Int)) = false := by simp; omega
            have s1 : Srt klt a n d1 := by
              have := hrb (2 * q) (by omega)
              rw [t1] at this
              exact this.sub (Nat.le_refl _) (by omega)
            have hb2 : BS C n d1 := FB.bs (q := q) hfb (by rw [ha]; exact s1) (by omega) (by omega)
            have HZ3 : Hid (SRow wc base g n cap d1 ∧ Kp g W wc ∧ Stb klt 0 n c d1 ∧ BS C n d1) := ⟨hr, hkp, hst, hb2⟩
            clear hr hkp hst hfb hrb ha t1 t2 s1 hb2 hC hmm
            go_wp2_with fail
            have hC := HC.out
            exact ⟨⟨C, d1, rfl, by omega, HZ3.out.1, HZ3.out.2.1, HZ3.out.2.2.1, HZ3.out.2.2.2⟩, by simp only [intOf]; omega⟩
      · have dl : decide ((B : Int) < (n : Int)) = false := by simp; omega
        go_wp2_with fail
        (first | go_end0 | go_returns)
        have h0 := hbs 0
        rw [Nat.zero_mul] at h0
        exact ⟨rfl, d, hr, hst, h0.sub (Nat.le_refl _) (by omega), hkp⟩
set_option maxRecDepth 100000 in
theorem sortS_any (hn : n ≤ 2932031007402) (W : World) (h : SRow W base g n cap c) : Calls Tryd.prog 42 #[.slice (some ⟨g, 0, none⟩) n cap, .func (.func 30) #[] #[]] W fun e W' => e = .returned (.tuple #[]) ∧ ∃ d, SRow W' base g n cap d ∧ Stb klt 0 n c d ∧ Srt klt 0 n d ∧ Kp g W W' := by
  have HS := stable_any hn W h
  clear h
  go_enter Tryd.func42, Tryd.ntmps42
  go_wp2_with (go_at_call 51; (with_reducible refine HS.mono ?_); rintro e9 w2 ⟨rfl, h5⟩; have H2 : Hid (∃ d, SRow w2 base g n cap d ∧ Stb klt 0 n c d ∧ Srt klt 0 n d ∧ Kp g W w2) := h5; clear h5)
  (first | go_end0 | go_returns)
  exact ⟨rfl, H2.out⟩
end Go.Proofs.YtcifdlncbekohaaDoor
