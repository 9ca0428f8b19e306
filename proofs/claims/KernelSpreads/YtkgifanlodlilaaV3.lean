import Derived.Test.YtkgifanlodlilaaV2
namespace Go.Proofs.Ytkgifanlodlilaa
open Go.ChangeShapes Go.WideShapes Go.ChangeAt Go.RowKit
set_option linter.unusedVariables false

/-- what is wrong with an instruction -/
def insErr (P : Pg) (o a b : Int) : Int :=
  if ¬ (0 ≤ o ∧ o < 42) then 64
  else if wantsI o = 2 then (if 1 ≤ b ∧ b ≤ limI P o then (if 0 ≤ a ∧ a ≤ limI P o - b then 0 else 63) else 63)
  else if b ≠ 0 then 63
  else if o = 1 ∨ (0 ≤ a ∧ a ≤ limI P o - 1) then 0
  else if jmp o then 62 else 63
theorem lim_b {P : Pg} (h : sizedP P) (o : Int) : 0 ≤ limI P o ∧ limI P o ≤ 4096 := by
  obtain ⟨⟨h1, h2⟩, ⟨h3, h4⟩, h5, h6⟩ := h
  unfold limI
  repeat' split
  all_goals omega
theorem wants2 {o : Int} (h : wantsI o = 2) : o ≠ 1 ∧ jmp o = false := by
  constructor
  · rintro rfl; revert h; decide
  · unfold jmp
    have h1 : o ≠ 35 := by rintro rfl; revert h; decide
    have h2 : o ≠ 36 := by rintro rfl; revert h; decide
    simp [h1, h2]
set_option maxRecDepth 100000 in
set_option maxHeartbeats 4000000 in
theorem check_any (P : Pg) (v : PgV) (o a b : Int) (hs : sizedP P) (w : World) :
    Calls Try.prog 54 #[.agg #[.int .i64 P.words, .int .i64 P.locals, .slice v.cp P.n v.cc, .slice v.ep P.m v.ec], .agg #[.int .i64 o, .int .i64 a, .int .i64 b]] w fun e w' => e = .returned (.int .i64 (insErr P o a b)) ∧ Below w.heap.size w w' := by
  have hl := lim_b hs o
  have hb2 : Below w.heap.size w ((w.alloc (.cells #[.int .i64 P.words, .int .i64 P.locals, .slice v.cp P.n v.cc, .slice v.ep P.m v.ec] 51)).alloc (.cells #[.int .i64 o, .int .i64 a, .int .i64 b] 73)) := ((Below.refl _ w).alloc (Nat.le_refl _) _).alloc (by simp) _
  have hb3 := hb2.alloc (by simp; omega) (.cells #[.int .i64 P.words, .int .i64 P.locals, .slice v.cp P.n v.cc, .slice v.ep P.m v.ec] 51)
  go_enter Try.func54, Try.ntmps54
  by_cases ho : 0 ≤ o ∧ o < 42
  · have dO : (decide (0 ≤ o) && decide (o < 42)) = true := by simp; exact ho
    have HO := isOp_any o
    rw [dO] at HO
    have HR := room_any P v o ho
    have HW := wants_any o ho
    have HJ := jumps_any o
    clear hs
    by_cases hw2 : wantsI o = 2
    · obtain ⟨no1, nj⟩ := wants2 hw2
      have dw : ((2 : Int) == 2) = true := rfl
      have d1 : (o == 1) = false := by simpa using no1
      have hv : insErr P o a b = (if 1 ≤ b ∧ b ≤ limI P o then (if 0 ≤ a ∧ a ≤ limI P o - b then 0 else 63) else 63) := by
        unfold insErr; rw [if_neg (by simp; omega), if_pos hw2]
      rw [hv]
      rw [hw2] at HW
      rw [nj] at HJ
      generalize limI P o = L at hl HR hv ⊢
      by_cases hb1 : b < 1
      · rw [if_neg (by omega)]
        clear hv
        go_wp2_with (first | (go_at_call 61; (with_reducible refine (HO _).mono ?_); rintro e w1 ⟨rfl, rfl⟩) | (go_at_call 62; (with_reducible refine (HR _).mono ?_); rintro e w1 ⟨rfl, rfl⟩) | (go_at_call 63; (with_reducible refine (HW _).mono ?_); rintro e w1 ⟨rfl, rfl⟩) | (go_at_call 64; (with_reducible refine (HJ _).mono ?_); rintro e w1 ⟨rfl, rfl⟩))
        go_ret
        exact ⟨rfl, hb3⟩
      · by_cases hb4 : L < b
        · rw [if_neg (by omega)]
          clear hv
          go_wp2_with (first | (go_at_call 61; (with_reducible refine (HO _).mono ?_); rintro e w1 ⟨rfl, rfl⟩) | (go_at_call 62; (with_reducible refine (HR _).mono ?_); rintro e w1 ⟨rfl, rfl⟩) | (go_at_call 63; (with_reducible refine (HW _).mono ?_); rintro e w1 ⟨rfl, rfl⟩) | (go_at_call 64; (with_reducible refine (HJ _).mono ?_); rintro e w1 ⟨rfl, rfl⟩))
          go_ret
          exact ⟨rfl, hb3⟩
        · rw [if_pos (by omega)]
          clear hv
          by_cases ha : a < 0
          · rw [if_neg (by omega)]
            go_wp2_with (first | (go_at_call 61; (with_reducible refine (HO _).mono ?_); rintro e w1 ⟨rfl, rfl⟩) | (go_at_call 62; (with_reducible refine (HR _).mono ?_); rintro e w1 ⟨rfl, rfl⟩) | (go_at_call 63; (with_reducible refine (HW _).mono ?_); rintro e w1 ⟨rfl, rfl⟩) | (go_at_call 64; (with_reducible refine (HJ _).mono ?_); rintro e w1 ⟨rfl, rfl⟩))
            go_ret
            exact ⟨rfl, hb3⟩
          · by_cases ha2 : a ≤ L - b
            · rw [if_pos (by omega)]
              go_wp2_with (first | (go_at_call 61; (with_reducible refine (HO _).mono ?_); rintro e w1 ⟨rfl, rfl⟩) | (go_at_call 62; (with_reducible refine (HR _).mono ?_); rintro e w1 ⟨rfl, rfl⟩) | (go_at_call 63; (with_reducible refine (HW _).mono ?_); rintro e w1 ⟨rfl, rfl⟩) | (go_at_call 64; (with_reducible refine (HJ _).mono ?_); rintro e w1 ⟨rfl, rfl⟩))
              go_ret
              exact ⟨rfl, hb3⟩
            · rw [if_neg (by omega)]
              go_wp2_with (first | (go_at_call 61; (with_reducible refine (HO _).mono ?_); rintro e w1 ⟨rfl, rfl⟩) | (go_at_call 62; (with_reducible refine (HR _).mono ?_); rintro e w1 ⟨rfl, rfl⟩) | (go_at_call 63; (with_reducible refine (HW _).mono ?_); rintro e w1 ⟨rfl, rfl⟩) | (go_at_call 64; (with_reducible refine (HJ _).mono ?_); rintro e w1 ⟨rfl, rfl⟩))
              go_ret
              exact ⟨rfl, hb3⟩
    · have dw : (wantsI o == 2) = false := by simpa using hw2
      have hv : insErr P o a b = (if b ≠ 0 then 63 else if o = 1 ∨ (0 ≤ a ∧ a ≤ limI P o - 1) then 0 else if jmp o then 62 else 63) := by
        unfold insErr; rw [if_neg (by simp; omega), if_neg hw2]
      rw [hv]
      clear hv hw2
      generalize wantsI o = wo at dw HW
      generalize limI P o = L at hl HR ⊢
      by_cases hb : b = 0
      · subst hb
        rw [if_neg (by simp)]
        by_cases h1 : o = 1
        · subst h1
          rw [if_pos (.inl rfl)]
          go_wp2_with (first | (go_at_call 61; (with_reducible refine (HO _).mono ?_); rintro e w1 ⟨rfl, rfl⟩) | (go_at_call 62; (with_reducible refine (HR _).mono ?_); rintro e w1 ⟨rfl, rfl⟩) | (go_at_call 63; (with_reducible refine (HW _).mono ?_); rintro e w1 ⟨rfl, rfl⟩) | (go_at_call 64; (with_reducible refine (HJ _).mono ?_); rintro e w1 ⟨rfl, rfl⟩))
          go_ret
          exact ⟨rfl, hb3⟩
        · have d1 : (o == 1) = false := by simpa using h1
          by_cases ha : a < 0
          · rw [if_neg (by omega)]
            generalize jmp o = jo at HJ ⊢
            rcases jo with _ | _
            all_goals
              go_wp2_with (first | (go_at_call 61; (with_reducible refine (HO _).mono ?_); rintro e w1 ⟨rfl, rfl⟩) | (go_at_call 62; (with_reducible refine (HR _).mono ?_); rintro e w1 ⟨rfl, rfl⟩) | (go_at_call 63; (with_reducible refine (HW _).mono ?_); rintro e w1 ⟨rfl, rfl⟩) | (go_at_call 64; (with_reducible refine (HJ _).mono ?_); rintro e w1 ⟨rfl, rfl⟩))
              go_ret
              exact ⟨rfl, hb3⟩
          · by_cases ha2 : a ≤ L - 1
            · rw [if_pos (by omega)]
              go_wp2_with (first | (go_at_call 61; (with_reducible refine (HO _).mono ?_); rintro e w1 ⟨rfl, rfl⟩) | (go_at_call 62; (with_reducible refine (HR _).mono ?_); rintro e w1 ⟨rfl, rfl⟩) | (go_at_call 63; (with_reducible refine (HW _).mono ?_); rintro e w1 ⟨rfl, rfl⟩) | (go_at_call 64; (with_reducible refine (HJ _).mono ?_); rintro e w1 ⟨rfl, rfl⟩))
              go_ret
              exact ⟨rfl, hb3⟩
            · rw [if_neg (by omega)]
              generalize jmp o = jo at HJ ⊢
              rcases jo with _ | _
              all_goals
                go_wp2_with (first | (go_at_call 61; (with_reducible refine (HO _).mono ?_); rintro e w1 ⟨rfl, rfl⟩) | (go_at_call 62; (with_reducible refine (HR _).mono ?_); rintro e w1 ⟨rfl, rfl⟩) | (go_at_call 63; (with_reducible refine (HW _).mono ?_); rintro e w1 ⟨rfl, rfl⟩) | (go_at_call 64; (with_reducible refine (HJ _).mono ?_); rintro e w1 ⟨rfl, rfl⟩))
                go_ret
                exact ⟨rfl, hb3⟩
      · have db : (b == 0) = false := by simpa using hb
        rw [if_pos hb]
        go_wp2_with (first | (go_at_call 61; (with_reducible refine (HO _).mono ?_); rintro e w1 ⟨rfl, rfl⟩) | (go_at_call 62; (with_reducible refine (HR _).mono ?_); rintro e w1 ⟨rfl, rfl⟩) | (go_at_call 63; (with_reducible refine (HW _).mono ?_); rintro e w1 ⟨rfl, rfl⟩) | (go_at_call 64; (with_reducible refine (HJ _).mono ?_); rintro e w1 ⟨rfl, rfl⟩))
        go_ret
        exact ⟨rfl, hb3⟩
  · have dO : (decide (0 ≤ o) && decide (o < 42)) = false := by simp; omega
    have HO := isOp_any o
    rw [dO] at HO
    have hv : insErr P o a b = 64 := by unfold insErr; rw [if_pos ho]
    rw [hv]
    clear hv hs
    go_wp2_with (go_at_call 61; (with_reducible refine (HO _).mono ?_); rintro e w1 ⟨rfl, rfl⟩)
    go_ret
    exact ⟨rfl, hb2⟩
end Go.Proofs.Ytkgifanlodlilaa
