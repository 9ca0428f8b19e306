import Derived.Test.YtckhliilndfljaaDoorLRefL
namespace Go.Proofs.YtckhliilndfljaaDoor
open Go.ChangeShapes Go.WideShapes Go.ChangeAt Go.RowKit
set_option linter.unusedVariables false

theorem mkI_spl (k : Nat) (h : 50 ≤ k) (h2 : k < 80) : mkI k = spl k := by
  unfold mkI
  rw [if_pos (by omega)]
  rfl
theorem lng_eq (s : Bs) (n k best : Nat) : lng s (n + 1) k best = lng s n (k + 1) (if lngC s k best then k else best) := rfl

set_option maxRecDepth 100000 in
set_option maxHeartbeats 1000000 in
theorem rlongest_any (s : Bs) (hl : s.length ≤ maxLen) (w : World) :
    Calls Tryd.prog 54 #[.string ⟨s.toArray⟩] w fun e w' => e = .returned (.int .i64 (lngS s)) ∧ Below w.heap.size w w' := by
  have hsz : (⟨s.toArray⟩ : ByteArray).size = s.length := by simp [ByteArray.size]
  go_enter Tryd.func54, Tryd.ntmps54
  go_wp2
  go_loopw [3, 4] (fun v3 v4 wr => ∃ k n best : Nat, v3 = .int .i64 best ∧ v4 = .int .i64 k ∧ k + n = 80 ∧ 50 ≤ k ∧ (best = 0 ∨ 50 ≤ best ∧ best < 80) ∧ Hid (lngS s = lng s n k best) ∧ Below w.heap.size w wr) (fun _ v4 _ => 80 - (intOf v4).toNat)
  case atStart => exact ⟨50, 30, 0, rfl, rfl, rfl, by omega, .inl rfl, rfl, Below.refl _ _⟩
  case round =>
    obtain ⟨k, n, best, rfl, rfl, hkn, hk, hbest, hinv, hb⟩ := hrel
    cases n with
    | zero =>
      have d0 : decide ((k : Int) ≤ 79) = false := decide_eq_false (by omega)
      have e : Hid (lngS s = best) := by show _ = best; rw [hinv.out]; rfl
      clear hinv
      go_wp2
      go_ret
      exact ⟨by rw [e.out]; rfl, hb⟩
    | succ n =>
      have d0 : decide ((k : Int) ≤ 79) = true := decide_eq_true (by omega)
      have H10 := rmark0_any k (by omega) wr
      rw [mkI_spl k hk (by omega)] at H10
      have H1 : Hid (Calls Tryd.prog 55 #[.int .i64 k] wr fun e w' => e = .returned (.string ⟨(spl k).toArray⟩) ∧ Below wr.heap.size wr w') := H10
      have HL : Hid (lng s (n + 1) k best = lng s n (k + 1) (if lngC s k best then k else best)) := lng_eq s n k best
      have HLC : Hid (lngC s k best = (!(spl k).isEmpty && decide ((spl k).length ≤ s.length) && (s.take (spl k).length == spl k) && (best == 0 || decide ((spl k).length > (spl best).length)))) := rfl
      have htake := ext_take s (spl k).length
      have r1 : k + 1 + n = 80 := by omega
      have r2 : 50 ≤ k + 1 := by omega
      have r3 : 80 - (intOf (.int .i64 ((k : Int) + 1))).toNat < 80 - (intOf (.int .i64 (k : Int))).toNat := meas (by omega : k < 80)
      have r4 : k = 0 ∨ 50 ≤ k ∧ k < 80 := .inr ⟨hk, by omega⟩
      have htz : (⟨(spl k).toArray⟩ : ByteArray).size = (spl k).length := by simp [ByteArray.size]
      have H2 : 50 ≤ best ∧ best < 80 → ∀ w', Hid (Calls Tryd.prog 55 #[.int .i64 best] w' fun e w'' => e = .returned (.string ⟨(spl best).toArray⟩) ∧ Below w'.heap.size w' w'') := fun h w' => by
        have := rmark0_any best (by omega) w'
        rw [mkI_spl best h.1 h.2] at this
        exact this
      clear H10
      cases c1 : (spl k).isEmpty with
      | true =>
        have HF : Hid (lngC s k best = false) := by show _ = _; rw [HLC.out, c1]; rfl
        clear HLC H2
        go_wp2_with (first | (go_at_call 55; (with_reducible refine (H1.out).mono ?_); rintro e w1 ⟨rfl, hb1⟩; clear H1))
        exact ⟨⟨k + 1, n, best, rfl, rfl, r1, r2, hbest, by show _ = _; rw [hinv.out, HL.out, HF.out, if_neg (by simp)], hb.trans (hb1.mono hb.size)⟩, r3⟩
      | false =>
        by_cases h2 : (spl k).length ≤ s.length
        · have d2 : decide (((spl k).length : Int) ≤ s.length) = true := decide_eq_true (by omega)
          cases c3 : (s.take (spl k).length == spl k) with
          | false =>
            have HF : Hid (lngC s k best = false) := by show _ = _; rw [HLC.out, c1, c3]; simp
            clear HLC H2
            go_wp2_with (first | (go_at_call 55; (with_reducible refine (H1.out).mono ?_); rintro e w1 ⟨rfl, hb1⟩; clear H1))
            exact ⟨⟨k + 1, n, best, rfl, rfl, r1, r2, hbest, by show _ = _; rw [hinv.out, HL.out, HF.out, if_neg (by simp)], hb.trans (hb1.mono hb.size)⟩, r3⟩
          | true =>
            by_cases h0 : best = 0
            · have d4 : ((best : Int) == 0) = true := by simp; omega
              have HF : Hid (lngC s k best = true) := by show _ = _; rw [HLC.out, c1, c3, decide_eq_true h2, h0]; rfl
              clear HLC H2
              go_wp2_with (first | (go_at_call 55; (with_reducible refine (H1.out).mono ?_); rintro e w1 ⟨rfl, hb1⟩; clear H1))
              exact ⟨⟨k + 1, n, k, rfl, rfl, r1, r2, r4, by show _ = _; rw [hinv.out, HL.out, HF.out, if_pos rfl], hb.trans (hb1.mono hb.size)⟩, r3⟩
            · have d4 : ((best : Int) == 0) = false := by simp; omega
              have H2 := H2 (by omega)
              have hbz : (⟨(spl best).toArray⟩ : ByteArray).size = (spl best).length := by simp [ByteArray.size]
              by_cases h5 : (spl k).length > (spl best).length
              · have d5 : decide (((spl k).length : Int) > (spl best).length) = true := decide_eq_true (by omega)
                have d6 : decide (((spl best).length : Int) < (spl k).length) = true := decide_eq_true (by omega)
                have HF : Hid (lngC s k best = true) := by show _ = _; rw [HLC.out, c1, c3, decide_eq_true h2, decide_eq_true h5]; simp
                clear HLC
                go_wp2_with (first | (go_at_call 55; (with_reducible refine (H1.out).mono ?_); rintro e w1 ⟨rfl, hb1⟩; clear H1) | (go_at_call 55; (with_reducible refine ((H2 w1).out).mono ?_); rintro e w2 ⟨rfl, hb2⟩; clear H2))
                exact ⟨⟨k + 1, n, k, rfl, rfl, r1, r2, r4, by show _ = _; rw [hinv.out, HL.out, HF.out, if_pos rfl], (hb.trans (hb1.mono hb.size)).trans (hb2.mono (hb.trans (hb1.mono hb.size)).size)⟩, r3⟩
              · have d5 : decide (((spl k).length : Int) > (spl best).length) = false := decide_eq_false (by omega)
                have d6 : decide (((spl best).length : Int) < (spl k).length) = false := decide_eq_false (by omega)
                have HF : Hid (lngC s k best = false) := by show _ = _; rw [HLC.out, decide_eq_false h5]; simp [h0]
                clear HLC
                go_wp2_with (first | (go_at_call 55; (with_reducible refine (H1.out).mono ?_); rintro e w1 ⟨rfl, hb1⟩; clear H1) | (go_at_call 55; (with_reducible refine ((H2 w1).out).mono ?_); rintro e w2 ⟨rfl, hb2⟩; clear H2))
                exact ⟨⟨k + 1, n, best, rfl, rfl, r1, r2, hbest, by show _ = _; rw [hinv.out, HL.out, HF.out, if_neg (by simp)], (hb.trans (hb1.mono hb.size)).trans (hb2.mono (hb.trans (hb1.mono hb.size)).size)⟩, r3⟩
        · have d2 : decide (((spl k).length : Int) ≤ s.length) = false := decide_eq_false (by omega)
          have HF : Hid (lngC s k best = false) := by show _ = _; rw [HLC.out, decide_eq_false h2]; simp
          clear HLC H2
          go_wp2_with (first | (go_at_call 55; (with_reducible refine (H1.out).mono ?_); rintro e w1 ⟨rfl, hb1⟩; clear H1))
          exact ⟨⟨k + 1, n, best, rfl, rfl, r1, r2, hbest, by show _ = _; rw [hinv.out, HL.out, HF.out, if_neg (by simp)], hb.trans (hb1.mono hb.size)⟩, r3⟩

end Go.Proofs.YtckhliilndfljaaDoor
