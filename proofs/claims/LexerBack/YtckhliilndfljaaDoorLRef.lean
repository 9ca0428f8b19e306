import Derived.Test.YtckhliilndfljaaDoorLWord
namespace Go.Proofs.YtckhliilndfljaaDoor
open Go.ChangeShapes Go.WideShapes Go.ChangeAt Go.RowKit
set_option linter.unusedVariables false

theorem rletter_any (c : UInt8) (w : World) : Calls Tryd.prog 53 #[.int .u8 c.toNat] w fun e w' => e = .returned (.bool (pL c)) ∧ w' = w := by
  unfold pL
  generalize c.toNat = r
  go_enter Tryd.func53, Tryd.ntmps53
  go_wp2
  all_goals go_ret
  all_goals (refine ⟨congrArg (fun b => Ending.returned (Value.bool b)) ?_, rfl⟩; rw [Bool.eq_iff_iff]; simp [isL]; try omega)
theorem rdigit_any (c : UInt8) (w : World) : Calls Tryd.prog 51 #[.int .u8 c.toNat] w fun e w' => e = .returned (.bool (pD c)) ∧ w' = w := by
  unfold pD
  generalize c.toNat = r
  go_enter Tryd.func51, Tryd.ntmps51
  go_wp2
  all_goals go_ret
  all_goals (refine ⟨congrArg (fun b => Ending.returned (Value.bool b)) ?_, rfl⟩; rw [Bool.eq_iff_iff]; simp [isD]; try omega)

theorem pN_eq (c : UInt8) : pN c = (pL c || pD c || ((c.toNat : Int) == 95)) := by
  unfold pN inN pL pD
  congr 1
  rw [Bool.eq_iff_iff]
  simp
  omega
def nameL (s : Bs) : Nat := if headIs pL s = true then (s.takeWhile pN).length else 0

theorem wrap_succ {n L : Nat} (hl : L ≤ maxLen) (h : n < L) : wrap64 ((n : Int) + 1) = n + 1 := by
  have h2 : L ≤ 9223372036854775807 := Nat.le_trans hl (by unfold maxLen; omega)
  unfold wrap64
  omega

theorem meas {n L : Nat} (h : n < L) : L - (intOf (.int .i64 ((n : Int) + 1))).toNat < L - (intOf (.int .i64 (n : Int))).toNat := by
  show L - (n + 1) < L - n
  omega

set_option maxRecDepth 100000 in
theorem rname_any (s : Bs) (hl : s.length ≤ maxLen) (w : World) :
    Calls Tryd.prog 49 #[.string ⟨s.toArray⟩] w fun e w' => e = .returned (.int .i64 (nameL s)) ∧ w' = w := by
  have hsz : (⟨s.toArray⟩ : ByteArray).size = s.length := by simp [ByteArray.size]
  by_cases hnil : s = []
  · subst hnil
    have e : nameL [] = 0 := rfl
    rw [e]
    go_enter Tryd.func49, Tryd.ntmps49
    go_wp2
    all_goals go_ret
    all_goals exact ⟨rfl, rfl⟩
  · obtain ⟨c, r, hs⟩ : ∃ c r, s = c :: r := by cases s with | nil => exact absurd rfl hnil | cons c r => exact ⟨c, r, rfl⟩
    have hE : s.isEmpty = false := by rw [hs]; rfl
    have hlen : 0 < s.length := by rw [hs]; simp
    have hlt : 0 < (⟨s.toArray⟩ : ByteArray).size := by omega
    have h0 : ((⟨s.toArray⟩ : ByteArray)[0]'hlt) = c := by subst hs; rfl
    have hP : headIs pL s = pL c := by rw [hs]; rfl
    have H0 : ∀ w', Hid (Calls Tryd.prog 53 #[.int .u8 c.toNat] w' fun e w'' => e = .returned (.bool (pL c)) ∧ w'' = w') := fun w' => rletter_any c w'
    clear hs
    unfold nameL
    rw [hP]
    cases hc : pL c with
    | false =>
      rw [hc] at H0
      rw [if_neg (by simp)]
      go_enter Tryd.func49, Tryd.ntmps49
      go_wp2_with (go_at_call 53; with_reducible refine ((H0 _).out).mono ?_; rintro e w' ⟨rfl, hw⟩; subst w')
      go_ret
      exact ⟨rfl, rfl⟩
    | true =>
      rw [hc] at H0
      rw [if_pos rfl]
      go_enter Tryd.func49, Tryd.ntmps49
      go_wp2_with (go_at_call 53; with_reducible refine ((H0 _).out).mono ?_; rintro e w' ⟨rfl, hw⟩; subst w')
      clear H0
      go_loop [3] (fun v => ∃ n : Nat, v = .int .i64 n ∧ n ≤ s.length ∧ Hid ((s.takeWhile pN).length = tw inN s n + n)) (fun v => s.length - (intOf v).toNat)
      case atStart => exact ⟨0, rfl, by omega, rfl⟩
      case round =>
        obtain ⟨n, rfl, hn, hinv⟩ := hrel
        by_cases hlt : n < s.length
        · have hltb : n < (⟨s.toArray⟩ : ByteArray).size := by omega
          obtain ⟨d, hd⟩ : ∃ d, s[n] = d := ⟨_, rfl⟩
          have hg : ((⟨s.toArray⟩ : ByteArray)[n]'hltb) = d := by rw [← hd]; rfl
          have d0 : decide ((n : Int) < s.length) = true := decide_eq_true (by omega)
          have hwn : wrap64 ((n : Int) + 1) = n + 1 := wrap_succ hl hlt
          have HL : ∀ w', Hid (Calls Tryd.prog 53 #[.int .u8 d.toNat] w' fun e w'' => e = .returned (.bool (pL d)) ∧ w'' = w') := fun w' => rletter_any d w'
          have HD : ∀ w', Hid (Calls Tryd.prog 51 #[.int .u8 d.toNat] w' fun e w'' => e = .returned (.bool (pD d)) ∧ w'' = w') := fun w' => rdigit_any d w'
          have hpn := pN_eq d
          have hpy := tw_yes inN s n hlt
          have hpz := tw_no inN s n hlt
          rw [hd] at hpy hpz
          change pN d = true → _ at hpy
          change pN d = false → _ at hpz
          rw [hpn] at hpy hpz
          clear hpn
          generalize pL d = b1 at HL hpy hpz
          generalize pD d = b2 at HD hpy hpz
          clear hl hE hP hc h0
          cases b1 with
          | true =>
            clear HD
            have HE : Hid ((s.takeWhile pN).length = tw inN s (n + 1) + (n + 1)) := by show _ = _; rw [hinv.out, hpy (by simp)]; omega
            clear hpy hpz hinv
            go_wp2_with (first | (go_at_call 53; with_reducible refine ((HL _).out).mono ?_; rintro e w' ⟨rfl, hw⟩; subst w') | (go_at_call 51; with_reducible refine ((HD _).out).mono ?_; rintro e w' ⟨rfl, hw⟩; subst w'))
            exact ⟨⟨n + 1, by rw [hwn]; rfl, by omega, HE⟩, by rw [hwn]; exact meas hlt⟩
          | false =>
            cases b2 with
            | true =>
              have HE : Hid ((s.takeWhile pN).length = tw inN s (n + 1) + (n + 1)) := by show _ = _; rw [hinv.out, hpy (by simp)]; omega
              clear hpy hpz hinv
              go_wp2_with (first | (go_at_call 53; with_reducible refine ((HL _).out).mono ?_; rintro e w' ⟨rfl, hw⟩; subst w') | (go_at_call 51; with_reducible refine ((HD _).out).mono ?_; rintro e w' ⟨rfl, hw⟩; subst w'))
              exact ⟨⟨n + 1, by rw [hwn]; rfl, by omega, HE⟩, by rw [hwn]; exact meas hlt⟩
            | false =>
              cases hb3 : ((d.toNat : Int) == 95) with
              | true =>
                rw [hb3] at hpy hpz
                have HE : Hid ((s.takeWhile pN).length = tw inN s (n + 1) + (n + 1)) := by show _ = _; rw [hinv.out, hpy (by simp)]; omega
                clear hpy hpz hinv
                go_wp2_with (first | (go_at_call 53; with_reducible refine ((HL _).out).mono ?_; rintro e w' ⟨rfl, hw⟩; subst w') | (go_at_call 51; with_reducible refine ((HD _).out).mono ?_; rintro e w' ⟨rfl, hw⟩; subst w'))
                exact ⟨⟨n + 1, by rw [hwn]; rfl, by omega, HE⟩, by rw [hwn]; exact meas hlt⟩
              | false =>
                rw [hb3] at hpy hpz
                have HE : Hid ((s.takeWhile pN).length = n) := by show _ = n; rw [hinv.out, hpz rfl]; omega
                clear hpy hpz hinv
                go_wp2_with (first | (go_at_call 53; with_reducible refine ((HL _).out).mono ?_; rintro e w' ⟨rfl, hw⟩; subst w') | (go_at_call 51; with_reducible refine ((HD _).out).mono ?_; rintro e w' ⟨rfl, hw⟩; subst w'))
                go_ret
                exact ⟨by rw [HE.out]; rfl, rfl⟩
        · have HE : Hid ((s.takeWhile pN).length = n) := by show _ = n; rw [hinv.out, tw_end inN s n hlt]; omega
          have d0 : decide ((n : Int) < s.length) = false := decide_eq_false (by omega)
          clear hinv
          go_wp2
          go_ret
          exact ⟨by rw [HE.out]; rfl, rfl⟩

end Go.Proofs.YtckhliilndfljaaDoor
