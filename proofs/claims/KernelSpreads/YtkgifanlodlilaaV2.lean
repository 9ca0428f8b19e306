import Derived.Test.YtkgifanlodlilaaV1
namespace Go.Proofs.Ytkgifanlodlilaa
open Go.ChangeShapes Go.WideShapes Go.ChangeAt Go.RowKit
set_option linter.unusedVariables false

theorem all42 {o : Int} (h : 0 ≤ o ∧ o < 42) : o = 0 ∨ o = 1 ∨ o = 2 ∨ o = 3 ∨ o = 4 ∨ o = 5 ∨ o = 6 ∨ o = 7 ∨ o = 8 ∨ o = 9 ∨ o = 10 ∨ o = 11 ∨ o = 12 ∨ o = 13 ∨ o = 14 ∨ o = 15 ∨ o = 16 ∨ o = 17 ∨ o = 18 ∨ o = 19 ∨ o = 20 ∨ o = 21 ∨ o = 22 ∨ o = 23 ∨ o = 24 ∨ o = 25 ∨ o = 26 ∨ o = 27 ∨ o = 28 ∨ o = 29 ∨ o = 30 ∨ o = 31 ∨ o = 32 ∨ o = 33 ∨ o = 34 ∨ o = 35 ∨ o = 36 ∨ o = 37 ∨ o = 38 ∨ o = 39 ∨ o = 40 ∨ o = 41 := by omega
set_option maxRecDepth 100000 in
set_option maxHeartbeats 4000000 in
theorem moves_any (o : Int) (h : 0 ≤ o ∧ o < 42) (w : World) :
    Calls Try.prog 69 #[.int .i64 o] w fun e w' => e = .returned (.tuple #[.int .i64 (pops o), .int .i64 (pushes o)]) ∧ w' = w := by
  rcases all42 h with rfl | rfl | rfl | rfl | rfl | rfl | rfl | rfl | rfl | rfl | rfl | rfl | rfl | rfl | rfl | rfl | rfl | rfl | rfl | rfl | rfl | rfl | rfl | rfl | rfl | rfl | rfl | rfl | rfl | rfl | rfl | rfl | rfl | rfl | rfl | rfl | rfl | rfl | rfl | rfl | rfl | rfl
  all_goals
    clear h
    go_enter Try.func69, Try.ntmps69
    go_wp2
    go_ret2
    exact ⟨rfl, rfl⟩
def wantTab : List Int := [0, 1, 0, 1, 1, 2, 2, 1, 1, 0, 0, 0, 0, 0, 0, 0, 0, 0, 0, 0, 0, 0, 0, 0, 0, 0, 0, 0, 0, 0, 0, 0, 0, 0, 0, 1, 1, 0, 2, 1, 0, 0]
def wantsI (o : Int) : Int := wantTab.getD o.toNat 0
set_option maxRecDepth 100000 in
set_option maxHeartbeats 4000000 in
theorem wants_any (o : Int) (h : 0 ≤ o ∧ o < 42) (w : World) :
    Calls Try.prog 63 #[.int .i64 o] w fun e w' => e = .returned (.int .i64 (wantsI o)) ∧ w' = w := by
  rcases all42 h with rfl | rfl | rfl | rfl | rfl | rfl | rfl | rfl | rfl | rfl | rfl | rfl | rfl | rfl | rfl | rfl | rfl | rfl | rfl | rfl | rfl | rfl | rfl | rfl | rfl | rfl | rfl | rfl | rfl | rfl | rfl | rfl | rfl | rfl | rfl | rfl | rfl | rfl | rfl | rfl | rfl | rfl
  all_goals
    clear h
    go_enter Try.func63, Try.ntmps63
    go_wp2
    go_ret
    exact ⟨rfl, rfl⟩
theorem isOp_any (o : Int) (w : World) : Calls Try.prog 61 #[.int .i64 o] w fun e w' => e = .returned (.bool (decide (0 ≤ o) && decide (o < 42))) ∧ w' = w := by
  go_enter Try.func61, Try.ntmps61
  by_cases h : 0 ≤ o
  · go_wp2
    go_ret
    exact ⟨by simp [h], rfl⟩
  · have e : (decide (0 ≤ o) && decide (o < 42)) = false := by simp; omega
    go_wp2
    go_ret
    exact ⟨by first | rfl | (rw [e]; rfl), rfl⟩
theorem jumps_any (o : Int) (w : World) : Calls Try.prog 64 #[.int .i64 o] w fun e w' => e = .returned (.bool (jmp o)) ∧ w' = w := by
  go_enter Try.func64, Try.ntmps64
  by_cases h : o = 35
  · subst h
    go_wp2
    go_ret
    exact ⟨rfl, rfl⟩
  · have h' : (o == 35) = false := by simpa using h
    have e : jmp o = (o == 36) := by unfold jmp; rw [h', Bool.false_or]
    go_wp2
    go_ret
    exact ⟨by rw [e]; rfl, rfl⟩
theorem ends_any (o : Int) (w : World) : Calls Try.prog 70 #[.int .i64 o] w fun e w' => e = .returned (.bool (ends o)) ∧ w' = w := by
  go_enter Try.func70, Try.ntmps70
  by_cases h : o = 0
  · subst h
    go_wp2
    go_ret
    exact ⟨rfl, rfl⟩
  · have h' : (o == 0) = false := by simpa using h
    by_cases h2 : o = 35
    · subst h2
      go_wp2
      go_ret
      exact ⟨rfl, rfl⟩
    · have h2' : (o == 35) = false := by simpa using h2
      have e : ends o = (o == 40) := by unfold ends; rw [h', h2', Bool.false_or, Bool.false_or]
      go_wp2
      go_ret
      exact ⟨by rw [e]; rfl, rfl⟩

/-! ### a program as a value -/
structure PgV where
  cp : Option Addr
  cc : Nat
  ep : Option Addr
  ec : Nat
def pgV (P : Pg) (v : PgV) : List Value := [.int .i64 P.words, .int .i64 P.locals, .slice v.cp P.n v.cc, .slice v.ep P.m v.ec]
def limI (P : Pg) (o : Int) : Int :=
  if o = 3 ∨ o = 4 ∨ o = 5 ∨ o = 6 then P.words else if o = 7 ∨ o = 8 then P.locals else if o = 35 ∨ o = 36 then P.n else if o = 38 then 64 else if o = 39 then P.m else 1
set_option maxRecDepth 100000 in
set_option maxHeartbeats 4000000 in
theorem room_any (P : Pg) (v : PgV) (o : Int) (h : 0 ≤ o ∧ o < 42) (w : World) :
    Calls Try.prog 62 #[.agg #[.int .i64 P.words, .int .i64 P.locals, .slice v.cp P.n v.cc, .slice v.ep P.m v.ec], .int .i64 o] w fun e w' => e = .returned (.int .i64 (limI P o)) ∧ w' = w.alloc (.cells #[.int .i64 P.words, .int .i64 P.locals, .slice v.cp P.n v.cc, .slice v.ep P.m v.ec] 51) := by
  rcases all42 h with rfl | rfl | rfl | rfl | rfl | rfl | rfl | rfl | rfl | rfl | rfl | rfl | rfl | rfl | rfl | rfl | rfl | rfl | rfl | rfl | rfl | rfl | rfl | rfl | rfl | rfl | rfl | rfl | rfl | rfl | rfl | rfl | rfl | rfl | rfl | rfl | rfl | rfl | rfl | rfl | rfl | rfl
  all_goals
    clear h
    go_enter Try.func62, Try.ntmps62
    go_wp2
    go_ret
    exact ⟨rfl, rfl⟩
def sizedP (P : Pg) : Prop := (0 ≤ P.words ∧ P.words ≤ 64) ∧ (0 ≤ P.locals ∧ P.locals ≤ 32) ∧ P.n ≤ 4096 ∧ P.m ≤ 32
instance (P : Pg) : Decidable (sizedP P) := by unfold sizedP; exact inferInstance
set_option maxRecDepth 100000 in
theorem sized_any (P : Pg) (v : PgV) (w : World) :
    Calls Try.prog 53 #[.agg #[.int .i64 P.words, .int .i64 P.locals, .slice v.cp P.n v.cc, .slice v.ep P.m v.ec]] w fun e w' => e = .returned (.bool (decide (sizedP P))) ∧ w' = w.alloc (.cells #[.int .i64 P.words, .int .i64 P.locals, .slice v.cp P.n v.cc, .slice v.ep P.m v.ec] 51) := by
  go_enter Try.func53, Try.ntmps53
  by_cases h1 : 0 ≤ P.words
  · by_cases h2 : P.words ≤ 64
    · by_cases h3 : 0 ≤ P.locals
      · by_cases h4 : P.locals ≤ 32
        · by_cases h5 : P.n ≤ 4096
          · have h5' : decide ((P.n : Int) ≤ 4096) = true := by simp; omega
            by_cases h6 : P.m ≤ 32
            · have h6' : decide ((P.m : Int) ≤ 32) = true := by simp; omega
              go_wp2
              go_ret
              exact ⟨by rw [decide_eq_true (show sizedP P from ⟨⟨h1, h2⟩, ⟨h3, h4⟩, h5, h6⟩)]; rfl, rfl⟩
            · have h6' : decide ((P.m : Int) ≤ 32) = false := by simp; omega
              go_wp2
              go_ret
              exact ⟨by rw [decide_eq_false (show ¬ sizedP P from fun h => by have := h.2.2.2; omega)]; rfl, rfl⟩
          · have h5' : decide ((P.n : Int) ≤ 4096) = false := by simp; omega
            go_wp2
            go_ret
            exact ⟨by rw [decide_eq_false (show ¬ sizedP P from fun h => by have := h.2.2.1; omega)]; rfl, rfl⟩
        · go_wp2
          go_ret
          exact ⟨by rw [decide_eq_false (show ¬ sizedP P from fun h => by have := h.2.1.2; omega)]; rfl, rfl⟩
      · go_wp2
        go_ret
        exact ⟨by rw [decide_eq_false (show ¬ sizedP P from fun h => by have := h.2.1.1; omega)]; rfl, rfl⟩
    · go_wp2
      go_ret
      exact ⟨by rw [decide_eq_false (show ¬ sizedP P from fun h => by have := h.1.2; omega)]; rfl, rfl⟩
  · go_wp2
    go_ret
    exact ⟨by rw [decide_eq_false (show ¬ sizedP P from fun h => by have := h.1.1; omega)]; rfl, rfl⟩
end Go.Proofs.Ytkgifanlodlilaa
