import Derived.Test.YtieanhmkcbcdkaaM12
namespace Go.Proofs.Ytieanhmkcbcdkaa
open Go.ChangeShapes Go.WideShapes Go.ChangeAt Go.RowKit
set_option linter.unusedVariables false

/-! ### a handler's run, plainly -/
def runP (P : Pg) (cl : Cl) : Nat → Nat → Mc → Int × Mc
  | 0, _, M => (200, M)
  | k + 1, i, M =>
    if P.op i = 0 then (0, { M with used := M.used + 1 })
    else if P.op i = 35 then runP P cl k (P.a i).toNat { M with used := M.used + 1 }
    else if P.op i = 36 then runP P cl k (if topM M = 0 then (P.a i).toNat else i + 1) (popM { M with used := M.used + 1 })
    else if doF cl { M with used := M.used + 1 } (P.op i) (P.a i) (P.b i) ≠ 0 then (doF cl { M with used := M.used + 1 } (P.op i) (P.a i) (P.b i), { M with used := M.used + 1 })
    else runP P cl k (i + 1) (doM cl { M with used := M.used + 1 } (P.op i) (P.a i) (P.b i))
def ovM (M : Mc) (ov : Value) : Mc := { M with ov := ov }
def usM (M : Mc) : Mc := { M with used := M.used + 1 }
theorem doF_ov (cl : Cl) (M : Mc) (ov : Value) (o a b : Int) : doF cl (ovM M ov) o a b = doF cl M o a b := rfl
theorem waitM_ov (M : Mc) (ov : Value) (r : Option (Int × Int)) : waitM (ovM M ov) r = ovM (waitM M r) ov := by
  rcases r with _ | r <;> rfl
theorem doM_ov (cl : Cl) (M : Mc) (ov : Value) (o a b : Int) : doM cl (ovM M ov) o a b = ovM (doM cl M o a b) ov := by
  unfold doM
  by_cases h1 : o = 1
  · rw [if_pos h1, if_pos h1]; rfl
  rw [if_neg h1, if_neg h1]
  by_cases h2 : o = 2
  · rw [if_pos h2, if_pos h2]; rfl
  rw [if_neg h2, if_neg h2]
  by_cases h3 : o = 3
  · rw [if_pos h3, if_pos h3]; rfl
  rw [if_neg h3, if_neg h3]
  by_cases h4 : o = 4
  · rw [if_pos h4, if_pos h4]; rfl
  rw [if_neg h4, if_neg h4]
  by_cases h5 : o = 5
  · rw [if_pos h5, if_pos h5]; rfl
  rw [if_neg h5, if_neg h5]
  by_cases h6 : o = 6
  · rw [if_pos h6, if_pos h6]; rfl
  rw [if_neg h6, if_neg h6]
  by_cases h7 : o = 7
  · rw [if_pos h7, if_pos h7]; rfl
  rw [if_neg h7, if_neg h7]
  by_cases h8 : o = 8
  · rw [if_pos h8, if_pos h8]; rfl
  rw [if_neg h8, if_neg h8]
  by_cases h9 : o = 9
  · rw [if_pos h9, if_pos h9]; rfl
  rw [if_neg h9, if_neg h9]
  by_cases h10 : o = 10
  · rw [if_pos h10, if_pos h10]; rfl
  rw [if_neg h10, if_neg h10]
  by_cases h11 : o = 11
  · rw [if_pos h11, if_pos h11]; rfl
  rw [if_neg h11, if_neg h11]
  by_cases h12 : o = 12
  · rw [if_pos h12, if_pos h12]; rfl
  rw [if_neg h12, if_neg h12]
  by_cases h38 : o = 38
  · rw [if_pos h38, if_pos h38]; rfl
  rw [if_neg h38, if_neg h38]
  by_cases h37 : o = 37
  · rw [if_pos h37, if_pos h37]; rfl
  rw [if_neg h37, if_neg h37]
  by_cases h41 : o = 41
  · rw [if_pos h41, if_pos h41]; exact waitM_ov M ov _
  rw [if_neg h41, if_neg h41]
  by_cases h39 : o = 39
  · rw [if_pos h39, if_pos h39]; rfl
  rw [if_neg h39, if_neg h39]
  by_cases hs : o = 23 ∨ o = 24 ∨ o = 25 ∨ o = 34
  · rw [if_pos hs, if_pos hs]; rfl
  rw [if_neg hs, if_neg hs]
  by_cases hp : isPairB o = true
  · rw [if_pos hp, if_pos hp]; rfl
  rw [if_neg hp, if_neg hp]
theorem hi_push (M : Mc) (x : Int) : (pushM M x).hi = M.hi + 1 := rfl
theorem hi_pop (M : Mc) : (popM M).hi = M.hi - 1 := rfl
/-- how high the stack is behind an instruction -/
theorem doM_hi (cl : Cl) (M : Mc) (o a b : Int) (ho : 0 ≤ o ∧ o < 42) (hne : o ≠ 0 ∧ o ≠ 35 ∧ o ≠ 36 ∧ o ≠ 40) (hf : doF cl M o a b = 0) (h1 : pops o ≤ M.hi) : ((doM cl M o a b).hi : Int) = M.hi - pops o + pushes o := by
  by_cases hp : isPair o
  · have hb : isPairB o = true := by unfold isPairB; unfold isPair at hp; simp; omega
    have hD : doM cl M o a b = pushM (popM (popM M)) (pairV o (topM (popM M)) (topM M)).1 := by
      unfold isPair at hp
      unfold doM
      rw [if_neg (by omega), if_neg (by omega), if_neg (by omega), if_neg (by omega), if_neg (by omega), if_neg (by omega), if_neg (by omega), if_neg (by omega), if_neg (by omega), if_neg (by omega), if_neg (by omega), if_neg (by omega), if_neg (by omega), if_neg (by omega), if_neg (by omega), if_neg (by omega), if_neg (by omega), if_pos hb]
    rw [hD, hi_push, hi_pop, hi_pop]
    rw [(pop_pair hp).1] at h1 ⊢
    rw [(pop_pair hp).2]
    omega
  unfold isPair at hp
  have hc : o = 1 ∨ o = 2 ∨ o = 3 ∨ o = 4 ∨ o = 5 ∨ o = 6 ∨ o = 7 ∨ o = 8 ∨ o = 9 ∨ o = 10 ∨ o = 11 ∨ o = 12 ∨ o = 23 ∨ o = 24 ∨ o = 25 ∨ o = 34 ∨ o = 37 ∨ o = 38 ∨ o = 39 ∨ o = 41 := by omega
  rcases hc with rfl | rfl | rfl | rfl | rfl | rfl | rfl | rfl | rfl | rfl | rfl | rfl | rfl | rfl | rfl | rfl | rfl | rfl | rfl | rfl
  · show ((M.hi + 1 : Nat) : Int) = (M.hi : Int) - 0 + 1; omega
  · have : pops 2 = 1 := rfl
    rw [this] at h1
    show ((M.hi - 1 : Nat) : Int) = (M.hi : Int) - 1 + 0; omega
  · show ((M.hi + 1 : Nat) : Int) = (M.hi : Int) - 0 + 1; omega
  · have : pops 4 = 1 := rfl
    rw [this] at h1
    show ((M.hi - 1 : Nat) : Int) = (M.hi : Int) - 1 + 0; omega
  · have : pops 5 = 1 := rfl
    rw [this] at h1
    show ((M.hi - 1 + 1 : Nat) : Int) = (M.hi : Int) - 1 + 1; omega
  · have : pops 6 = 2 := rfl
    rw [this] at h1
    show ((M.hi - 1 - 1 : Nat) : Int) = (M.hi : Int) - 2 + 0; omega
  · show ((M.hi + 1 : Nat) : Int) = (M.hi : Int) - 0 + 1; omega
  · have : pops 8 = 1 := rfl
    rw [this] at h1
    show ((M.hi - 1 : Nat) : Int) = (M.hi : Int) - 1 + 0; omega
  · show ((M.hi + 1 : Nat) : Int) = (M.hi : Int) - 0 + 1; omega
  · show ((M.hi + 1 : Nat) : Int) = (M.hi : Int) - 0 + 1; omega
  · show ((M.hi + 1 : Nat) : Int) = (M.hi : Int) - 0 + 1; omega
  · show ((M.hi + 1 : Nat) : Int) = (M.hi : Int) - 0 + 1; omega
  · have : pops 23 = 1 := rfl
    rw [this] at h1
    show ((M.hi - 1 + 1 : Nat) : Int) = (M.hi : Int) - 1 + 1; omega
  · have : pops 24 = 1 := rfl
    rw [this] at h1
    show ((M.hi - 1 + 1 : Nat) : Int) = (M.hi : Int) - 1 + 1; omega
  · have : pops 25 = 1 := rfl
    rw [this] at h1
    show ((M.hi - 1 + 1 : Nat) : Int) = (M.hi : Int) - 1 + 1; omega
  · have : pops 34 = 1 := rfl
    rw [this] at h1
    show ((M.hi - 1 + 1 : Nat) : Int) = (M.hi : Int) - 1 + 1; omega
  · have : pops 37 = 1 := rfl
    rw [this] at h1
    rw [doM_37]
    show ((M.hi - 1 + 1 : Nat) : Int) = (M.hi : Int) - 1 + 1; omega
  · have : pops 38 = 1 := rfl
    rw [this] at h1
    show ((M.hi - 1 + 1 : Nat) : Int) = (M.hi : Int) - 1 + 1; omega
  · have : pops 39 = 3 := rfl
    rw [this] at h1
    rw [doM_39]
    show ((M.hi - 1 - 1 - 1 : Nat) : Int) = (M.hi : Int) - 3 + 0; omega
  · have : pops 41 = 1 := rfl
    rw [this] at h1
    rw [doM_41]
    rw [doF_41] at hf
    generalize waitV M.dice (topM M) = wv at hf ⊢
    rcases wv with _ | r
    · exfalso
      by_cases hn : topM M < 1
      · rw [if_pos hn] at hf; cases hf
      · rw [if_neg hn, if_pos rfl] at hf; cases hf
    · show ((M.hi - 1 + 1 : Nat) : Int) = (M.hi : Int) - 1 + 1; omega
end Go.Proofs.Ytieanhmkcbcdkaa
