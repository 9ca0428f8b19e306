import Derived.Test.YtmekcccmnkgodaaGreatDoorFLMark
import Derived.Laws.RangeAny
import Derived.Laws.RangeString
namespace Go.Proofs.YtmekcccmnkgodaaGreatDoor
open Go.ChangeShapes Go.WideShapes Go.ChangeAt Go.RowKit
set_option linter.unusedVariables false

theorem decode_wide (s : ByteArray) (pos : Nat) (h : pos < s.size) (ha : 128 ≤ (s[pos]'h).toNat) : pos + (Utf8.decode s pos).2 ≤ s.size ∧ ∀ j, j < (Utf8.decode s pos).2 → 128 ≤ (s.get! (pos + j)).toNat := by
  have hn : ¬ (s[pos]'h).toNat < 128 := by omega
  have h0 : (s.get! (pos + 0)).toNat = (s[pos]'h).toNat := by rw [get_at s pos h]
  have one : pos + 1 ≤ s.size ∧ ∀ j, j < 1 → 128 ≤ (s.get! (pos + j)).toNat := by
    refine ⟨by omega, fun j hj => ?_⟩
    obtain rfl : j = 0 := by omega
    rw [h0]
    exact ha
  have c1 : ∀ k, (s.get! (pos + k)).toNat / 64 = 2 → 128 ≤ (s.get! (pos + k)).toNat := fun k hk => by omega
  unfold Utf8.decode
  simp only [get_at s pos h, hn, if_false]
  split
  · rename_i h1
    simp only [Bool.and_eq_true, beq_iff_eq, decide_eq_true_eq] at h1
    split
    · refine ⟨by simp only; omega, fun j hj => ?_⟩
      simp only at hj
      rcases (by omega : j = 0 ∨ j = 1) with rfl | rfl
      · rw [h0]; exact ha
      · exact c1 1 h1.2.2
    · exact one
  · split
    · rename_i h1
      simp only [Bool.and_eq_true, beq_iff_eq, decide_eq_true_eq] at h1
      split
      · refine ⟨by simp only; omega, fun j hj => ?_⟩
        simp only at hj
        rcases (by omega : j = 0 ∨ j = 1 ∨ j = 2) with rfl | rfl | rfl
        · rw [h0]; exact ha
        · exact c1 1 h1.1.2.2
        · exact c1 2 h1.2.2
      · exact one
    · split
      · rename_i h1
        simp only [Bool.and_eq_true, beq_iff_eq, decide_eq_true_eq] at h1
        split
        · refine ⟨by simp only; omega, fun j hj => ?_⟩
          simp only at hj
          rcases (by omega : j = 0 ∨ j = 1 ∨ j = 2 ∨ j = 3) with rfl | rfl | rfl | rfl
          · rw [h0]; exact ha
          · exact c1 1 h1.1.1.2.2
          · exact c1 2 h1.1.2.2
          · exact c1 3 h1.2.2
        · exact one
      · exact one

/-- how many bytes from pos on belong -/
def tw (p : Nat → Bool) (l : Bs) (pos : Nat) : Nat := ((l.drop pos).takeWhile fun c => p c.toNat).length
theorem tw_end (p : Nat → Bool) (l : Bs) (pos : Nat) (h : ¬ pos < l.length) : tw p l pos = 0 := by
  unfold tw
  rw [List.drop_eq_nil_of_le (by omega)]
  rfl
theorem tw_yes (p : Nat → Bool) (l : Bs) (pos : Nat) (h : pos < l.length) (hp : p (l[pos]).toNat = true) : tw p l pos = tw p l (pos + 1) + 1 := by
  unfold tw
  rw [List.drop_eq_getElem_cons h, List.takeWhile_cons, if_pos hp]
  rfl
theorem tw_no (p : Nat → Bool) (l : Bs) (pos : Nat) (h : pos < l.length) (hp : p (l[pos]).toNat = false) : tw p l pos = 0 := by
  unfold tw
  rw [List.drop_eq_getElem_cons h, List.takeWhile_cons, if_neg (by rw [hp]; simp)]
  rfl
theorem tw_many (p : Nat → Bool) (l : Bs) : ∀ (k pos : Nat), pos + k ≤ l.length → (∀ j (h : pos + j < l.length), j < k → p (l[pos + j]).toNat = true) → tw p l pos = tw p l (pos + k) + k
  | 0, pos, _, _ => by simp
  | k + 1, pos, hk, h => by
    rw [tw_yes p l pos (by omega) (by have := h 0 (by omega) (by omega); simpa using this), tw_many p l k (pos + 1) (by omega) (fun j hj hjk => by
      have := h (j + 1) (by omega) (by omega)
      have e : pos + (j + 1) = pos + 1 + j := by omega
      simp only [e] at this
      exact this)]
    have e : pos + 1 + k = pos + (k + 1) := by omega
    rw [e]
    omega
theorem get_l (l : Bs) (i : Nat) (h : i < (⟨l.toArray⟩ : ByteArray).size) : (⟨l.toArray⟩ : ByteArray)[i]'h = l[i]'(by simpa [ByteArray.size] using h) := rfl
theorem getb_l (l : Bs) (i : Nat) (h : i < l.length) : (⟨l.toArray⟩ : ByteArray).get! i = l[i] := by
  have h' : i < (⟨l.toArray⟩ : ByteArray).size := by simpa [ByteArray.size] using h
  have := get_at (⟨l.toArray⟩ : ByteArray) i h'
  exact this
/-- one step of a range over a text: what comes, and how far it leads -/
theorem step_l (p : Nat → Bool) (hi : Bool) (hh : ∀ r, 128 ≤ r → p r = hi) (l : Bs) (pos : Nat) (h : pos < l.length) : 1 ≤ (Utf8.decode ⟨l.toArray⟩ pos).2 ∧ pos + (Utf8.decode ⟨l.toArray⟩ pos).2 ≤ l.length ∧ p (Utf8.decode ⟨l.toArray⟩ pos).1 = p (l[pos]).toNat ∧
    (p (l[pos]).toNat = true → tw p l pos = tw p l (pos + (Utf8.decode ⟨l.toArray⟩ pos).2) + (Utf8.decode ⟨l.toArray⟩ pos).2) := by
  have h' : pos < (⟨l.toArray⟩ : ByteArray).size := by simpa [ByteArray.size] using h
  by_cases ha : (l[pos]).toNat < 128
  · rw [decode_ascii ⟨l.toArray⟩ pos h' ha]
    exact ⟨Nat.le_refl _, h, rfl, fun hp => tw_yes p l pos h hp⟩
  · have hg : 128 ≤ ((⟨l.toArray⟩ : ByteArray)[pos]'h').toNat := by rw [get_l]; omega
    have h1 := decode_high ⟨l.toArray⟩ pos h' hg
    have h2 := decode_wide ⟨l.toArray⟩ pos h' hg
    have hsz : (⟨l.toArray⟩ : ByteArray).size = l.length := by simp [ByteArray.size]
    refine ⟨h1.2, by omega, by rw [hh _ h1.1, hh _ (by omega)], fun hp => tw_many p l _ pos (by omega) fun j hj hjk => ?_⟩
    have := h2.2 j hjk
    rw [getb_l l (pos + j) hj] at this
    rw [hh _ this]
    rw [hh _ (by omega)] at hp
    exact hp
theorem tw_all (p : Nat → Bool) (l : Bs) : tw p l 0 = (l.takeWhile fun c => p c.toNat).length := rfl
theorem tw_le (p : Nat → Bool) (l : Bs) : tw p l 0 ≤ l.length := by
  rw [tw_all]
  exact (List.takeWhile_sublist _).length_le

theorem isLetter_any (r : Nat) (w : World) : Calls Tryz.prog 65 #[.int .i32 r] w fun e w' => e = .returned (.bool (isL r)) ∧ w' = w := by
  go_enter Tryz.func65, Tryz.ntmps65
  go_wp2
  all_goals go_ret
  all_goals (refine ⟨congrArg (fun b => Ending.returned (Value.bool b)) ?_, rfl⟩; rw [Bool.eq_iff_iff]; simp [isL]; try omega)
theorem isDigit_any (r : Nat) (w : World) : Calls Tryz.prog 67 #[.int .i32 r] w fun e w' => e = .returned (.bool (isD r)) ∧ w' = w := by
  go_enter Tryz.func67, Tryz.ntmps67
  go_wp2
  all_goals go_ret
  all_goals (refine ⟨congrArg (fun b => Ending.returned (Value.bool b)) ?_, rfl⟩; rw [Bool.eq_iff_iff]; simp [isD]; try omega)
theorem inName_any (r : Nat) (w : World) : Calls Tryz.prog 87 #[.int .i32 r] w fun e w' => e = .returned (.bool (inN r)) ∧ w' = w := by
  have H1 : Hid (Calls Tryz.prog 65 #[.int .i32 r] w fun e w' => e = .returned (.bool (isL r)) ∧ w' = w) := isLetter_any r w
  have H2 : Hid (Calls Tryz.prog 67 #[.int .i32 r] w fun e w' => e = .returned (.bool (isD r)) ∧ w' = w) := isDigit_any r w
  unfold inN
  generalize isL r = b1 at H1 ⊢
  generalize isD r = b2 at H2 ⊢
  go_enter Tryz.func87, Tryz.ntmps87
  cases b1 <;> cases b2
  all_goals go_wp2_with (first | (go_at_call 65; with_reducible refine (H1.out).mono ?_; rintro e w' ⟨rfl, hw⟩; subst w') | (go_at_call 67; with_reducible refine (H2.out).mono ?_; rintro e w' ⟨rfl, hw⟩; subst w'))
  all_goals go_ret
  all_goals (refine ⟨congrArg (fun b => Ending.returned (Value.bool b)) ?_, rfl⟩; rw [Bool.eq_iff_iff]; simp; try omega)
def inC (r : Nat) : Bool := r != 10
theorem inComment_any (r : Nat) (w : World) : Calls Tryz.prog 45 #[.int .i32 r] w fun e w' => e = .returned (.bool (inC r)) ∧ w' = w := by
  go_enter Tryz.func45, Tryz.ntmps45
  go_wp2
  all_goals go_ret
  all_goals (refine ⟨congrArg (fun b => Ending.returned (Value.bool b)) ?_, rfl⟩; rw [Bool.eq_iff_iff]; simp [inC]; try omega)

set_option maxRecDepth 100000 in
theorem span_inName (l : Bs) (hl : l.length ≤ maxLen) (w : World) :
    Calls Tryz.prog 44 #[.string ⟨l.toArray⟩, .func (.func 87) #[] #[]] w fun e w' => e = .returned (.int .i64 (l.takeWhile fun c => inN c.toNat).length) ∧ Below w.heap.size w w' := by
  have hsz : (⟨l.toArray⟩ : ByteArray).size = l.length := by simp [ByteArray.size]
  rw [← tw_all]
  have HP : ∀ r w, Hid (Calls Tryz.prog 87 #[.int .i32 (r : Nat)] w fun e w' => e = .returned (.bool (inN r)) ∧ w' = w) := fun r w => inName_any r w
  obtain ⟨P, hP⟩ : ∃ P, P = inN := ⟨_, rfl⟩
  rw [← hP] at HP ⊢
  have hh : ∀ r, 128 ≤ r → P r = false := by intro r hr; rw [hP]; simp [inN, isL, isD]; omega
  clear hP
  obtain ⟨b, hb⟩ : ∃ b : ByteArray, ⟨l.toArray⟩ = b := ⟨_, rfl⟩
  rw [hb] at hsz ⊢
  go_enter Tryz.func44, Tryz.ntmps44
  go_wp2
  go_loopw [] (fun wr => ∃ pos, wr = w.iter b pos ∧ pos ≤ l.length ∧ tw P l 0 = tw P l pos + pos) (fun wr => l.length - wr.iterPos w.heap.size)
  case atStart => exact ⟨0, rfl, by omega, rfl⟩
  case round =>
    obtain ⟨pos, rfl, hpos, hinv⟩ := hrel
    by_cases hp : pos < l.length
    · have hnx : ∀ ty, (Instr.next (.pointer (some ⟨w.heap.size, 0, none⟩)) true ty).run Tryz.prog (w.iter b pos) = _ := fun ty => run_next_any w b pos ty (by omega)
      have hst := step_l P _ hh l pos hp
      rw [hb] at hst
      revert hnx hst
      generalize (Utf8.decode b pos).1 = rn
      generalize (Utf8.decode b pos).2 = wd
      intro hnx ⟨hs1, hs2, hs3, hs4⟩
      have H := HP rn (w.iter b (pos + wd))
      have HI : Hid (tw P l 0 = tw P l pos + pos) := hinv
      clear HP hinv hb
      cases hb1 : P (l[pos]).toNat with
      | true =>
        rw [hs3, hb1] at H
        have e4 := hs4 hb1
        have HE : Hid (tw P l pos = tw P l (pos + wd) + wd) := e4
        clear hs4 e4 hs3 hh
        go_wp2_with (go_at_call 87; with_reducible refine (H.out).mono ?_; rintro e w' ⟨rfl, hw⟩; subst w')
        go_roundw
        case rel => exact ⟨pos + wd, rfl, hs2, by rw [HI.out, HE.out]; omega⟩
        case measure => simp; omega
      | false =>
        rw [hs3, hb1] at H
        have e4 : tw P l pos = 0 := tw_no P l pos hp hb1
        have HE : Hid (tw P l 0 = pos) := by show tw P l 0 = pos; rw [HI.out, e4]; omega
        clear hs4 e4 hs3 hh
        go_wp2_with (go_at_call 87; with_reducible refine (H.out).mono ?_; rintro e w' ⟨rfl, hw⟩; subst w')
        go_ret
        exact ⟨by rw [HE.out]; rfl, (Below.refl _ w).alloc (Nat.le_refl _) _⟩
    · have hnx : ∀ ty, (Instr.next (.pointer (some ⟨w.heap.size, 0, none⟩)) true ty).run Tryz.prog (w.iter b pos) = _ := fun ty => run_next_end w b pos ty (by omega)
      have e4 : tw P l 0 = l.length := by rw [hinv, tw_end P l pos hp]; omega
      have HE : Hid (tw P l 0 = l.length) := e4
      clear hinv e4 HP hh hb
      go_wp2
      go_ret
      exact ⟨by rw [HE.out]; simp, (Below.refl _ w).alloc (Nat.le_refl _) _⟩
set_option maxRecDepth 100000 in
theorem span_isDigit (l : Bs) (hl : l.length ≤ maxLen) (w : World) :
    Calls Tryz.prog 44 #[.string ⟨l.toArray⟩, .func (.func 67) #[] #[]] w fun e w' => e = .returned (.int .i64 (l.takeWhile fun c => isD c.toNat).length) ∧ Below w.heap.size w w' := by
  have hsz : (⟨l.toArray⟩ : ByteArray).size = l.length := by simp [ByteArray.size]
  rw [← tw_all]
  have HP : ∀ r w, Hid (Calls Tryz.prog 67 #[.int .i32 (r : Nat)] w fun e w' => e = .returned (.bool (isD r)) ∧ w' = w) := fun r w => isDigit_any r w
  obtain ⟨P, hP⟩ : ∃ P, P = isD := ⟨_, rfl⟩
  rw [← hP] at HP ⊢
  have hh : ∀ r, 128 ≤ r → P r = false := by intro r hr; rw [hP]; simp [isD]; omega
  clear hP
  obtain ⟨b, hb⟩ : ∃ b : ByteArray, ⟨l.toArray⟩ = b := ⟨_, rfl⟩
  rw [hb] at hsz ⊢
  go_enter Tryz.func44, Tryz.ntmps44
  go_wp2
  go_loopw [] (fun wr => ∃ pos, wr = w.iter b pos ∧ pos ≤ l.length ∧ tw P l 0 = tw P l pos + pos) (fun wr => l.length - wr.iterPos w.heap.size)
  case atStart => exact ⟨0, rfl, by omega, rfl⟩
  case round =>
    obtain ⟨pos, rfl, hpos, hinv⟩ := hrel
    by_cases hp : pos < l.length
    · have hnx : ∀ ty, (Instr.next (.pointer (some ⟨w.heap.size, 0, none⟩)) true ty).run Tryz.prog (w.iter b pos) = _ := fun ty => run_next_any w b pos ty (by omega)
      have hst := step_l P _ hh l pos hp
      rw [hb] at hst
      revert hnx hst
      generalize (Utf8.decode b pos).1 = rn
      generalize (Utf8.decode b pos).2 = wd
      intro hnx ⟨hs1, hs2, hs3, hs4⟩
      have H := HP rn (w.iter b (pos + wd))
      have HI : Hid (tw P l 0 = tw P l pos + pos) := hinv
      clear HP hinv hb
      cases hb1 : P (l[pos]).toNat with
      | true =>
        rw [hs3, hb1] at H
        have e4 := hs4 hb1
        have HE : Hid (tw P l pos = tw P l (pos + wd) + wd) := e4
        clear hs4 e4 hs3 hh
        go_wp2_with (go_at_call 67; with_reducible refine (H.out).mono ?_; rintro e w' ⟨rfl, hw⟩; subst w')
        go_roundw
        case rel => exact ⟨pos + wd, rfl, hs2, by rw [HI.out, HE.out]; omega⟩
        case measure => simp; omega
      | false =>
        rw [hs3, hb1] at H
        have e4 : tw P l pos = 0 := tw_no P l pos hp hb1
        have HE : Hid (tw P l 0 = pos) := by show tw P l 0 = pos; rw [HI.out, e4]; omega
        clear hs4 e4 hs3 hh
        go_wp2_with (go_at_call 67; with_reducible refine (H.out).mono ?_; rintro e w' ⟨rfl, hw⟩; subst w')
        go_ret
        exact ⟨by rw [HE.out]; rfl, (Below.refl _ w).alloc (Nat.le_refl _) _⟩
    · have hnx : ∀ ty, (Instr.next (.pointer (some ⟨w.heap.size, 0, none⟩)) true ty).run Tryz.prog (w.iter b pos) = _ := fun ty => run_next_end w b pos ty (by omega)
      have e4 : tw P l 0 = l.length := by rw [hinv, tw_end P l pos hp]; omega
      have HE : Hid (tw P l 0 = l.length) := e4
      clear hinv e4 HP hh hb
      go_wp2
      go_ret
      exact ⟨by rw [HE.out]; simp, (Below.refl _ w).alloc (Nat.le_refl _) _⟩
set_option maxRecDepth 100000 in
theorem span_inComment (l : Bs) (hl : l.length ≤ maxLen) (w : World) :
    Calls Tryz.prog 44 #[.string ⟨l.toArray⟩, .func (.func 45) #[] #[]] w fun e w' => e = .returned (.int .i64 (l.takeWhile fun c => inC c.toNat).length) ∧ Below w.heap.size w w' := by
  have hsz : (⟨l.toArray⟩ : ByteArray).size = l.length := by simp [ByteArray.size]
  rw [← tw_all]
  have HP : ∀ r w, Hid (Calls Tryz.prog 45 #[.int .i32 (r : Nat)] w fun e w' => e = .returned (.bool (inC r)) ∧ w' = w) := fun r w => inComment_any r w
  obtain ⟨P, hP⟩ : ∃ P, P = inC := ⟨_, rfl⟩
  rw [← hP] at HP ⊢
  have hh : ∀ r, 128 ≤ r → P r = true := by intro r hr; rw [hP]; simp [inC]; omega
  clear hP
  obtain ⟨b, hb⟩ : ∃ b : ByteArray, ⟨l.toArray⟩ = b := ⟨_, rfl⟩
  rw [hb] at hsz ⊢
  go_enter Tryz.func44, Tryz.ntmps44
  go_wp2
  go_loopw [] (fun wr => ∃ pos, wr = w.iter b pos ∧ pos ≤ l.length ∧ tw P l 0 = tw P l pos + pos) (fun wr => l.length - wr.iterPos w.heap.size)
  case atStart => exact ⟨0, rfl, by omega, rfl⟩
  case round =>
    obtain ⟨pos, rfl, hpos, hinv⟩ := hrel
    by_cases hp : pos < l.length
    · have hnx : ∀ ty, (Instr.next (.pointer (some ⟨w.heap.size, 0, none⟩)) true ty).run Tryz.prog (w.iter b pos) = _ := fun ty => run_next_any w b pos ty (by omega)
      have hst := step_l P _ hh l pos hp
      rw [hb] at hst
      revert hnx hst
      generalize (Utf8.decode b pos).1 = rn
      generalize (Utf8.decode b pos).2 = wd
      intro hnx ⟨hs1, hs2, hs3, hs4⟩
      have H := HP rn (w.iter b (pos + wd))
      have HI : Hid (tw P l 0 = tw P l pos + pos) := hinv
      clear HP hinv hb
      cases hb1 : P (l[pos]).toNat with
      | true =>
        rw [hs3, hb1] at H
        have e4 := hs4 hb1
        have HE : Hid (tw P l pos = tw P l (pos + wd) + wd) := e4
        clear hs4 e4 hs3 hh
        go_wp2_with (go_at_call 45; with_reducible refine (H.out).mono ?_; rintro e w' ⟨rfl, hw⟩; subst w')
        go_roundw
        case rel => exact ⟨pos + wd, rfl, hs2, by rw [HI.out, HE.out]; omega⟩
        case measure => simp; omega
      | false =>
        rw [hs3, hb1] at H
        have e4 : tw P l pos = 0 := tw_no P l pos hp hb1
        have HE : Hid (tw P l 0 = pos) := by show tw P l 0 = pos; rw [HI.out, e4]; omega
        clear hs4 e4 hs3 hh
        go_wp2_with (go_at_call 45; with_reducible refine (H.out).mono ?_; rintro e w' ⟨rfl, hw⟩; subst w')
        go_ret
        exact ⟨by rw [HE.out]; rfl, (Below.refl _ w).alloc (Nat.le_refl _) _⟩
    · have hnx : ∀ ty, (Instr.next (.pointer (some ⟨w.heap.size, 0, none⟩)) true ty).run Tryz.prog (w.iter b pos) = _ := fun ty => run_next_end w b pos ty (by omega)
      have e4 : tw P l 0 = l.length := by rw [hinv, tw_end P l pos hp]; omega
      have HE : Hid (tw P l 0 = l.length) := e4
      clear hinv e4 HP hh hb
      go_wp2
      go_ret
      exact ⟨by rw [HE.out]; simp, (Below.refl _ w).alloc (Nat.le_refl _) _⟩
end Go.Proofs.YtmekcccmnkgodaaGreatDoor
