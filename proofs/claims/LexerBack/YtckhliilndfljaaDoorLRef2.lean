import Derived.Test.YtckhliilndfljaaDoorLRef
namespace Go.Proofs.YtckhliilndfljaaDoor
open Go.ChangeShapes Go.WideShapes Go.ChangeAt Go.RowKit
set_option linter.unusedVariables false

theorem wdK_more (s : Bs) (hs : s ≠ []) (n k : Nat) (h : k + n = 50) (h41 : 41 ≤ k) : wdK s n k = 1 := by
  induction n generalizing k with
  | zero => rfl
  | succ n ih =>
    rw [wdK_eq, if_neg, ih (k + 1) (by omega) (by omega)]
    intro he
    apply hs
    rw [← he]
    unfold spl
    rw [if_neg (by omega), if_pos (by omega), List.getElem?_eq_none (by show 31 ≤ _; omega)]
    rfl
theorem wdK_long (s : Bs) (hs : s ≠ []) (n k : Nat) (h : k + n = 41) : wdK s (n + 9) k = wdK s n k := by
  induction n generalizing k with
  | zero =>
    rw [wdK_more s hs (0 + 9) k (by omega) (by omega)]
    rfl
  | succ n ih =>
    have e : n + 1 + 9 = (n + 9) + 1 := by omega
    rw [e, wdK_eq s (n + 9) k, wdK_eq s n k, ih (k + 1) (by omega)]
theorem wdI_spl (k : Nat) (h : 10 ≤ k) (h2 : k < 50) : wdI k = spl k := by
  unfold wdI
  by_cases h3 : (k : Int) < 41
  · rw [if_pos (by omega)]; rfl
  · rw [if_neg (by omega)]
    unfold spl
    rw [if_neg (by omega), if_pos (by omega), List.getElem?_eq_none (by show 31 ≤ _; omega)]
    rfl

set_option maxRecDepth 100000 in
theorem rWord_any (s : Bs) (hl : s.length ≤ maxLen) (w : World) :
    Calls Tryd.prog 50 #[.string ⟨s.toArray⟩] w fun e w' => e = .returned (.int .i64 (wordP s)) ∧ Below w.heap.size w w' := by
  have H0 : Hid (Calls Tryd.prog 49 #[.string ⟨s.toArray⟩] w fun e w' => e = .returned (.int .i64 (nameL s)) ∧ w' = w) := rname_any s hl w
  have ht : (s.takeWhile pN).length ≤ s.length := (List.takeWhile_sublist _).length_le
  have hta := tw_all_iff pN s
  have hnl : nameL s ≤ s.length := by unfold nameL; split <;> omega
  by_cases hok : headIs pL s = true ∧ s.all pN = true ∧ s.length ≤ 31
  · have e : nameL s = s.length := by unfold nameL; rw [if_pos hok.1, hta.2 hok.2.1]
    have hne : s ≠ [] := by rintro rfl; exact absurd hok.1 (by simp [headIs])
    have hpos : 0 < s.length := List.length_pos_iff.2 hne
    have e2 : wordP s = wdK s 40 10 := by unfold wordP; rw [if_pos hok]; exact (wdK_long s hne 31 10 rfl).symm
    rw [e] at H0
    rw [e2]
    have d0 : ((s.length : Int) == 0) = false := by simp; omega
    have d1 : decide ((s.length : Int) > 31) = false := decide_eq_false (by omega)
    have HW : ∀ (k : Nat) w', 10 ≤ k → k < 50 → Hid (Calls Tryd.prog 62 #[.int .i64 k] w' fun e w'' => e = .returned (.string ⟨(spl k).toArray⟩) ∧ Below w'.heap.size w' w'') := fun k w' h1 h2 => by
      have := rword_any k (by omega) w'
      rw [wdI_spl k h1 h2] at this
      exact this
    clear hta hnl hok ht e e2
    go_enter Tryd.func50, Tryd.ntmps50
    go_wp2_with (go_at_call 49; with_reducible refine (H0.out).mono ?_; rintro e w' ⟨rfl, hw⟩; subst w')
    clear H0
    go_loopw [4] (fun v wr => ∃ k n : Nat, v = .int .i64 k ∧ k + n = 50 ∧ 10 ≤ k ∧ Hid (wdK s 40 10 = wdK s n k) ∧ Below w.heap.size w wr) (fun v _ => 50 - (intOf v).toNat)
    case atStart => exact ⟨10, 40, rfl, rfl, by omega, rfl, Below.refl _ _⟩
    case round =>
      obtain ⟨k, n, rfl, hkn, hk, hinv, hb⟩ := hrel
      cases n with
      | zero =>
        have d2 : decide ((k : Int) < 50) = false := decide_eq_false (by omega)
        have e : Hid (wdK s 40 10 = 1) := by show _ = 1; rw [hinv.out]; rfl
        clear hinv HW
        go_wp2
        go_ret
        exact ⟨by rw [e.out]; rfl, hb⟩
      | succ n =>
        have d2 : decide ((k : Int) < 50) = true := decide_eq_true (by omega)
        have H := HW k wr hk (by omega)
        clear HW
        by_cases he : spl k = s
        · have hs : (spl k == s) = true := by simpa using he
          have e : Hid (wdK s 40 10 = k) := by show _ = k; rw [hinv.out, wdK_eq, if_pos he]
          clear hinv he
          go_wp2_with (go_at_call 62; with_reducible refine (H.out).mono ?_; rintro e w' ⟨rfl, hb2⟩)
          go_ret
          exact ⟨by rw [e.out]; rfl, hb.trans (hb2.mono hb.size)⟩
        · have hs : (spl k == s) = false := by simpa using he
          have e : Hid (wdK s 40 10 = wdK s n (k + 1)) := by show _ = _; rw [hinv.out, wdK_eq, if_neg he]
          clear hinv he
          go_wp2_with (go_at_call 62; with_reducible refine (H.out).mono ?_; rintro e w' ⟨rfl, hb2⟩)
          go_roundw
          case rel => exact ⟨k + 1, n, by go_num, by omega, by omega, e, hb.trans (hb2.mono hb.size)⟩
          case measure => simp [intOf]; omega
  · have e : wordP s = 0 := by unfold wordP; rw [if_neg hok]
    rw [e]
    have hq : nameL s = 0 ∨ nameL s ≠ 0 ∧ nameL s < s.length ∨ nameL s ≠ 0 ∧ ¬ nameL s < s.length ∧ 31 < nameL s := by
      unfold nameL at hnl ⊢
      by_cases h1 : headIs pL s = true
      · rw [if_pos h1] at hnl ⊢
        by_cases h2 : (s.takeWhile pN).length = s.length
        · have h3 : s.takeWhile pN = s := (List.takeWhile_prefix pN).eq_of_length h2
          have h4 : ¬ s.length ≤ 31 := fun h => hok ⟨h1, hta.1 h3, h⟩
          omega
        · omega
      · rw [if_neg h1]; omega
    clear hok hta ht e
    generalize nameL s = m at *
    rcases hq with hq | ⟨h0, hq⟩ | ⟨h0, h1, hq⟩
    · subst hq
      go_enter Tryd.func50, Tryd.ntmps50
      go_wp2_with (go_at_call 49; with_reducible refine (H0.out).mono ?_; rintro e w' ⟨rfl, hw⟩; subst w')
      go_ret
      exact ⟨rfl, Below.refl _ _⟩
    · have d0 : ((m : Int) == 0) = false := by simp; omega
      have d1 : decide ((m : Int) < s.length) = true := decide_eq_true (by omega)
      go_enter Tryd.func50, Tryd.ntmps50
      go_wp2_with (go_at_call 49; with_reducible refine (H0.out).mono ?_; rintro e w' ⟨rfl, hw⟩; subst w')
      go_ret
      exact ⟨rfl, Below.refl _ _⟩
    · have d0 : ((m : Int) == 0) = false := by simp; omega
      have d1 : decide ((m : Int) < s.length) = false := decide_eq_false (by omega)
      have d2 : decide ((m : Int) > 31) = true := decide_eq_true (by omega)
      go_enter Tryd.func50, Tryd.ntmps50
      go_wp2_with (go_at_call 49; with_reducible refine (H0.out).mono ?_; rintro e w' ⟨rfl, hw⟩; subst w')
      go_ret
      exact ⟨rfl, Below.refl _ _⟩


end Go.Proofs.YtckhliilndfljaaDoor
