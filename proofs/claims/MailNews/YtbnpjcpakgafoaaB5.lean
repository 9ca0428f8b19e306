import Derived.Test.YtbnpjcpakgafoaaB4
namespace Go.Proofs.Ytbnpjcpakgafoaa
open Go.ChangeShapes Go.WideShapes Go.ChangeAt Go.RowKit
set_option linter.unusedVariables false
set_option linter.unusedSimpArgs false

def nbad (x room : Int) : Int := if x < 1 ∨ 64 < x then 100 else 84
set_option maxRecDepth 100000 in
theorem mb_newBad (x room : Int) (h : (x < 1 ∨ 64 < x) ∨ (room < 1 ∨ 1024 < room)) (W : World) :
    Calls Try.prog 24 #[.int .i64 x, .int .i64 room, .nilFunc] W fun e w' => e = .returned (.tuple #[.pointer none, .int .i64 (nbad x room)]) ∧ w' = W := by
  unfold nbad
  by_cases h1 : x < 1
  · have d1 : decide (x < 1) = true := by simpa using h1
    rw [if_pos (.inl h1)]
    go_enter Try.func24, Try.ntmps24
    go_wp2
    exact bodyPost_ret (v := .tuple #[.pointer none, .int .i64 100]) (by simp [results, Try.results24, go_sem]) rfl ⟨rfl, rfl⟩
  · have d1 : decide (x < 1) = false := by simpa using h1
    by_cases h2 : 64 < x
    · have d2 : decide (64 < x) = true := by simpa using h2
      rw [if_pos (.inr h2)]
      go_enter Try.func24, Try.ntmps24
      go_wp2
      exact bodyPost_ret (v := .tuple #[.pointer none, .int .i64 100]) (by simp [results, Try.results24, go_sem]) rfl ⟨rfl, rfl⟩
    · have d2 : decide (64 < x) = false := by simpa using h2
      rw [if_neg (by omega)]
      by_cases h3 : room < 1
      · have d3 : decide (room < 1) = true := by simpa using h3
        go_enter Try.func24, Try.ntmps24
        go_wp2
        exact bodyPost_ret (v := .tuple #[.pointer none, .int .i64 84]) (by simp [results, Try.results24, go_sem]) rfl ⟨rfl, rfl⟩
      · have d3 : decide (room < 1) = false := by simpa using h3
        have d4 : decide (1024 < room) = true := by simp; omega
        go_enter Try.func24, Try.ntmps24
        go_wp2
        exact bodyPost_ret (v := .tuple #[.pointer none, .int .i64 84]) (by simp [results, Try.results24, go_sem]) rfl ⟨rfl, rfl⟩
set_option maxRecDepth 100000 in
theorem ref_newBad (x room : Int) (h : (x < 1 ∨ 64 < x) ∨ (room < 1 ∨ 1024 < room)) (W : World) :
    Calls Try.prog 25 #[.int .i64 x, .int .i64 room, .bool false] W fun e w' => e = .returned (.tuple #[.pointer none, .int .i64 (nbad x room)]) ∧ w' = W := by
  unfold nbad
  by_cases h1 : x < 1
  · have d1 : decide (x < 1) = true := by simpa using h1
    rw [if_pos (.inl h1)]
    go_enter Try.func25, Try.ntmps25
    go_wp2
    exact bodyPost_ret (v := .tuple #[.pointer none, .int .i64 100]) (by simp [results, Try.results25, go_sem]) rfl ⟨rfl, rfl⟩
  · have d1 : decide (x < 1) = false := by simpa using h1
    by_cases h2 : 64 < x
    · have d2 : decide (64 < x) = true := by simpa using h2
      rw [if_pos (.inr h2)]
      go_enter Try.func25, Try.ntmps25
      go_wp2
      exact bodyPost_ret (v := .tuple #[.pointer none, .int .i64 100]) (by simp [results, Try.results25, go_sem]) rfl ⟨rfl, rfl⟩
    · have d2 : decide (64 < x) = false := by simpa using h2
      rw [if_neg (by omega)]
      by_cases h3 : room < 1
      · have d3 : decide (room < 1) = true := by simpa using h3
        go_enter Try.func25, Try.ntmps25
        go_wp2
        exact bodyPost_ret (v := .tuple #[.pointer none, .int .i64 84]) (by simp [results, Try.results25, go_sem]) rfl ⟨rfl, rfl⟩
      · have d3 : decide (room < 1) = false := by simpa using h3
        have d4 : decide (1024 < room) = true := by simp; omega
        go_enter Try.func25, Try.ntmps25
        go_wp2
        exact bodyPost_ret (v := .tuple #[.pointer none, .int .i64 84]) (by simp [results, Try.results25, go_sem]) rfl ⟨rfl, rfl⟩
theorem sm_zero (n : Nat) : sm (fun _ => 0 + 0) n = 0 := by
  induction n with
  | zero => rfl
  | succ n ih => show sm _ n + (0 + 0) = 0; rw [ih]
theorem sm_one (x n : Nat) : sm (fun i => (if i = x ∧ x = x ∧ 0 = 0 then 1 else 0) + (if i = x ∧ x = x ∧ 1 = 0 then 1 else 0)) n = if x < n then 1 else 0 := by
  induction n with
  | zero => rfl
  | succ n ih =>
    show sm _ n + _ = _
    rw [ih]
    by_cases e : n = x
    · subst e
      simp
    · simp [e]
      by_cases e2 : x < n
      · rw [if_pos e2, if_pos (by omega)]
      · rw [if_neg e2, if_neg (by omega)]
set_option maxRecDepth 100000 in
set_option maxHeartbeats 4000000 in
theorem mailNews_bad (x room : Int) (h : (x < 1 ∨ 64 < x) ∨ (room < 1 ∨ 1024 < room)) (W : World) :
    Calls Try.prog 7 #[.int .i64 x, .int .i64 room] W fun e w' => e = .returned (.bool true) ∧ Below W.heap.size W w' := by
  have H1 := mb_newBad x room h W
  have H2 := ref_newBad x room h W
  generalize nbad x room = c at H1 H2
  clear h
  go_enter Try.func7, Try.ntmps7
  go_wp2_with (first | (go_at_call 24; (with_reducible refine H1.mono ?_); rintro e w1 ⟨rfl, h9⟩; subst h9) | (go_at_call 25; (with_reducible refine H2.mono ?_); rintro e w1 ⟨rfl, h9⟩; subst h9))
  go_ret
  exact ⟨rfl, Below.refl _ _⟩
set_option maxRecDepth 100000 in
set_option maxHeartbeats 4000000 in
theorem mailNews_good (n : Nat) (room : Int) (h1 : 1 ≤ n) (h2 : n ≤ 64) (h3 : 1 ≤ room) (h4 : room ≤ 1024) (W : World) :
    Calls Try.prog 7 #[.int .i64 (n : Int), .int .i64 room] W fun e w' => e = .returned (.bool true) ∧ Below W.heap.size W w' := by
  have H1 := mb_new n room h1 h2 h3 h4 W
  have H2 := ref_new n room h1 h2 h3 h4
  go_enter Try.func7, Try.ntmps7
  go_wp2_with (first | (go_at_call 24; (with_reducible refine H1.mono ?_); rintro e w1 ⟨hb, wb, bb, cmp, R, rfl, hN, hb1⟩; have HN : Hid (NP w1 W.heap.size hb wb bb n room cmp R n) := hN; clear hN) | (go_at_call 25; (with_reducible refine (H2 w1).mono ?_); rintro e w2 ⟨qb, pb, fb, rfl, hR, hb2⟩; have HR : Hid (RP w2 w1.heap.size qb pb fb n room) := hR; clear hR))
  have hB2 : Below W.heap.size W w2 := hb1.trans (hb2.mono hb1.size)
  have HN2 : Hid (NP w2 W.heap.size hb wb bb n room cmp R n) := HN.out.later hb2
  have HB2 : Hid (Below W.heap.size W w2) := hB2
  clear hb1 hb2 hB2 HN H1 H2
  go_loopw [9] (fun v wr => ∃ z : Int, v = .int .i64 z ∧ -1 ≤ z ∧ z ≤ 65 ∧ wr = w2) (fun v _ => (65 - intOf v).toNat)
  case atStart => exact ⟨-1, rfl, by omega, by omega, rfl⟩
  case round =>
    obtain ⟨z, rfl, hz1, hz2, h9⟩ := hrel
    subst h9
    by_cases hlt : z ≤ 64
    · have dl : decide (z ≤ 64) = true := by simpa using hlt
      have ez : IntKind.i64.wrap (z + 1) = z + 1 := by rw [IntKind.wrap_i64]; omega
      have hm : (65 - intOf (.int .i64 (z + 1))).toNat < (65 - intOf (.int .i64 z)).toNat := by simp only [intOf]; omega
      by_cases hk : z < 0 ∨ (n : Int) ≤ z
      · have A1 := waiting_no hb wb bb n room z hk cmp wr HN2.out.p
        have A2 := rwait_no z hk wr HR.out
        have A3 := phase_no hb wb bb n room z hk cmp wr HN2.out.p
        have A4 := rphase_no z hk wr HR.out
        have A5 := err_no hb wb bb n room z hk cmp wr HN2.out.p
        have A6 := rerr_no z hk wr HR.out
        clear hk
        go_wp2_with (first | (go_at_call 26; (with_reducible refine A1.mono ?_); rintro e w9 ⟨rfl, h9⟩; subst h9) | (go_at_call 27; (with_reducible refine A2.mono ?_); rintro e w9 ⟨rfl, h9⟩; subst h9) | (go_at_call 28; (with_reducible refine A3.mono ?_); rintro e w9 ⟨rfl, h9⟩; subst h9) | (go_at_call 29; (with_reducible refine A4.mono ?_); rintro e w9 ⟨rfl, h9⟩; subst h9) | (go_at_call 30; (with_reducible refine A5.mono ?_); rintro e w9 ⟨rfl, h9⟩; subst h9) | (go_at_call 31; (with_reducible refine A6.mono ?_); rintro e w9 ⟨rfl, h9⟩; subst h9))
        exact ⟨⟨z + 1, rfl, by omega, by omega, by first | rfl | trivial⟩, hm⟩
      · obtain ⟨k, rfl⟩ : ∃ k : Nat, z = (k : Int) := ⟨z.toNat, by omega⟩
        have hkn : k < n := by omega
        have A1 := waiting_yes hb wb bb n room k hkn h2 cmp R _ wr HN2.out.bx
        rw [sm_zero] at A1
        have A2 := rwait_yes k hkn wr HR.out
        have A3 := phase_yes hb wb bb n room k hkn cmp _ _ wr HN2.out.p HN2.out.wk
        have A4 := rphase_yes k hkn wr HR.out
        have A5 := err_yes hb wb bb n room k hkn cmp _ _ wr HN2.out.p HN2.out.wk
        have A6 := rerr_yes k hkn wr HR.out
        clear hk
        go_wp2_with (first | (go_at_call 26; (with_reducible refine A1.mono ?_); rintro e w9 ⟨rfl, h9⟩; subst h9) | (go_at_call 27; (with_reducible refine A2.mono ?_); rintro e w9 ⟨rfl, h9⟩; subst h9) | (go_at_call 28; (with_reducible refine A3.mono ?_); rintro e w9 ⟨rfl, h9⟩; subst h9) | (go_at_call 29; (with_reducible refine A4.mono ?_); rintro e w9 ⟨rfl, h9⟩; subst h9) | (go_at_call 30; (with_reducible refine A5.mono ?_); rintro e w9 ⟨rfl, h9⟩; subst h9) | (go_at_call 31; (with_reducible refine A6.mono ?_); rintro e w9 ⟨rfl, h9⟩; subst h9))
        exact ⟨⟨(k : Int) + 1, rfl, by omega, by omega, by first | rfl | trivial⟩, hm⟩
    · have dl : decide (z ≤ 64) = false := by simpa using hlt
      obtain ⟨x, hx⟩ : ∃ x : Nat, x + 1 = n := ⟨n - 1, by omega⟩
      have ex : IntKind.i64.wrap ((n : Int) - 1) = (x : Int) := by rw [IntKind.wrap_i64]; omega
      have A1 := send_new x n (by omega) h3 wr HN2.out HB2.out.size
      have HA2 : Hid (∀ w5, BX w5 hb wb bb n room cmp R (fun i j h => if i = x ∧ j = x ∧ h = 0 then 1 else 0) → Calls Try.prog 26 #[.pointer (some ⟨hb, 0, none⟩), .int .i64 (x : Int)] w5 fun e W' => e = .returned (.tuple #[.int .i64 1, .int .i64 0]) ∧ W' = w5) := fun w5 h5 => by
        have h6 := waiting_yes hb wb bb n room x (by omega) h2 cmp R _ w5 h5
        rw [sm_one, if_pos (by omega)] at h6
        exact h6
      clear hx
      go_wp2_with (first | (go_at_call 32; (with_reducible refine A1.mono ?_); rintro e w5 ⟨rfl, h5, hb5⟩; have A2 := HA2.out w5 h5; have HB5 : Hid (Below W.heap.size wr w5) := hb5; clear h5 hb5) | (go_at_call 26; (with_reducible refine A2.mono ?_); rintro e w9 ⟨rfl, h9⟩; subst h9))
      go_ret
      exact ⟨rfl, HB2.out.trans HB5.out⟩
theorem mailNews_law (x room : Int) (W : World) : Calls Try.prog 7 #[.int .i64 x, .int .i64 room] W fun e w' => e = .returned (.bool true) ∧ Below W.heap.size W w' := by
  by_cases h : (x < 1 ∨ 64 < x) ∨ (room < 1 ∨ 1024 < room)
  · exact mailNews_bad x room h W
  · obtain ⟨n, rfl⟩ : ∃ n : Nat, x = (n : Int) := ⟨x.toNat, by omega⟩
    exact mailNews_good n room (by omega) (by omega) (by omega) (by omega) W
end Go.Proofs.Ytbnpjcpakgafoaa
