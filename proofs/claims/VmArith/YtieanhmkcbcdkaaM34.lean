import Derived.Test.YtieanhmkcbcdkaaM33
namespace Go.Proofs.Ytieanhmkcbcdkaa
open Go.ChangeShapes Go.WideShapes Go.ChangeAt Go.RowKit
set_option linter.unusedVariables false
set_option linter.unusedSimpArgs false

def arP (o a b : Int) : Pg := ⟨1, 0, 5, fun i => [1, 1, o, 4, 0].getD i 0, fun i => [a, b, 0, 0, 0].getD i 0, fun _ => 0, 1, fun _ => 0⟩
def arC : Cl := ⟨0, 0, 0, 0, 0, 0, 0, 1, 10⟩
theorem five {i : Nat} (h : i < 5) : i = 0 ∨ i = 1 ∨ i = 2 ∨ i = 3 ∨ i = 4 := by omega
theorem ar_ins (o a b : Int) (ho : isPair o) : insE (arP o a b) 0 = 0 ∧ insE (arP o a b) 1 = 0 ∧ insE (arP o a b) 2 = 0 ∧ insE (arP o a b) 3 = 0 ∧ insE (arP o a b) 4 = 0 := by
  rcases ho with rfl | rfl | rfl | rfl | rfl | rfl | rfl | rfl | rfl | rfl | rfl | rfl | rfl | rfl | rfl | rfl | rfl | rfl
  all_goals exact ⟨by kernel_rfl, by kernel_rfl, by kernel_rfl, by kernel_rfl, by kernel_rfl⟩
theorem ar_nj (o : Int) (ho : isPair o) : jmp o = false ∧ ends o = false ∧ pops o = 2 ∧ pushes o = 1 := by
  rcases ho with rfl | rfl | rfl | rfl | rfl | rfl | rfl | rfl | rfl | rfl | rfl | rfl | rfl | rfl | rfl | rfl | rfl | rfl
  all_goals exact ⟨rfl, rfl, rfl, rfl⟩
theorem ar_straight (o a b : Int) (ho : isPair o) : Straight (arP o a b) (fun i => [0, 1, 2, 1, 0].getD i 0) := by
  obtain ⟨i0, i1, i2, i3, i4⟩ := ar_ins o a b ho
  obtain ⟨n1, n2, n3, n4⟩ := ar_nj o ho
  refine ⟨⟨⟨by show (0 : Int) ≤ 1; decide, by show (1 : Int) ≤ 64; decide⟩, ⟨by show (0 : Int) ≤ 0; decide, by show (0 : Int) ≤ 32; decide⟩, by show 5 ≤ 4096; decide, by show 1 ≤ 32; decide⟩, fun i hi => ?_, fun j hj => .inr rfl, ⟨0, by show 0 < 1; decide, rfl⟩, fun i hi => ?_, rfl, fun i hi => ?_, rfl, fun i hi => ?_, fun i hi => ?_, by show 0 < 5; decide⟩
  · rcases five hi with rfl | rfl | rfl | rfl | rfl
    · exact i0
    · exact i1
    · exact i2
    · exact i3
    · exact i4
  · rcases five hi with rfl | rfl | rfl | rfl | rfl
    · rfl
    · rfl
    · exact n1
    · rfl
    · rfl
  · have hi' : i + 1 < 5 := hi
    have : i = 0 ∨ i = 1 ∨ i = 2 ∨ i = 3 := by omega
    rcases this with rfl | rfl | rfl | rfl
    · rfl
    · rfl
    · exact n2
    · rfl
  · have hi' : i + 1 < 5 := hi
    have : i = 0 ∨ i = 1 ∨ i = 2 ∨ i = 3 := by omega
    rcases this with rfl | rfl | rfl | rfl
    · rfl
    · rfl
    · show (1 : Int) = 2 - pops o + pushes o
      rw [n3, n4]; rfl
    · rfl
  · rcases five hi with rfl | rfl | rfl | rfl | rfl
    · exact (by decide : (0 : Int) ≤ 0 - pops 1 ∧ 0 - pops 1 + pushes 1 ≤ 64)
    · exact (by decide : (0 : Int) ≤ 1 - pops 1 ∧ 1 - pops 1 + pushes 1 ≤ 64)
    · show 0 ≤ 2 - pops o ∧ 2 - pops o + pushes o ≤ 64
      rw [n3, n4]; decide
    · exact (by decide : (0 : Int) ≤ 1 - pops 4 ∧ 1 - pops 4 + pushes 4 ≤ 64)
    · exact (by decide : (0 : Int) ≤ 0 - pops 0 ∧ 0 - pops 0 + pushes 0 ≤ 64)
theorem pair_doF (cl : Cl) (M : Mc) (o a b : Int) (ho : isPair o) : doF cl M o a b = (pairV o (topM (popM M)) (topM M)).2 ∧ doM cl M o a b = pushM (popM (popM M)) (pairV o (topM (popM M)) (topM M)).1 := by
  have hp : isPairB o = true := by unfold isPairB; unfold isPair at ho; simp; omega
  unfold isPair at ho
  constructor
  · unfold doF
    rw [if_neg (by omega), if_neg (by omega), if_neg (by omega), if_neg (by omega), if_neg (by omega), if_neg (by omega), if_pos hp]
  · unfold doM
    rw [if_neg (by omega), if_neg (by omega), if_neg (by omega), if_neg (by omega), if_neg (by omega), if_neg (by omega), if_neg (by omega), if_neg (by omega), if_neg (by omega), if_neg (by omega), if_neg (by omega), if_neg (by omega), if_neg (by omega), if_neg (by omega), if_neg (by omega), if_neg (by omega), if_neg (by omega), if_pos hp]
theorem ar_run (o a b : Int) (ho : isPair o) : ((pairV o a b).2 ≠ 0 → (runOf (arP o a b) arC (fun _ => -5) 0 0).1 = (pairV o a b).2 ∧ (runOf (arP o a b) arC (fun _ => -5) 0 0).2.used = 3) ∧ ((pairV o a b).2 = 0 → (runOf (arP o a b) arC (fun _ => -5) 0 0).1 = 0 ∧ (runOf (arP o a b) arC (fun _ => -5) 0 0).2.wd 0 = (pairV o a b).1 ∧ (runOf (arP o a b) arC (fun _ => -5) 0 0).2.dice = 0 ∧ (runOf (arP o a b) arC (fun _ => -5) 0 0).2.sent = 0 ∧ (runOf (arP o a b) arC (fun _ => -5) 0 0).2.on = 0 ∧ (runOf (arP o a b) arC (fun _ => -5) 0 0).2.used = 5) := by
  have hne : o ≠ 0 ∧ o ≠ 35 ∧ o ≠ 36 := by unfold isPair at ho; omega
  obtain ⟨M0, hM0⟩ : ∃ M0, newM (fun _ => -5) 0 0 (.slice none 0 0) = M0 := ⟨_, rfl⟩
  have e0 : runOf (arP o a b) arC (fun _ => -5) 0 0 = runP (arP o a b) arC 10 0 M0 := by rw [← hM0]; rfl
  have e1 : runP (arP o a b) arC 10 0 M0 = runP (arP o a b) arC 9 1 (pushM (usM M0) a) := runP_go (P := arP o a b) (cl := arC) (k := 9) (i := 0) (M := M0) (by decide : (1 : Int) ≠ 0 ∧ (1 : Int) ≠ 35 ∧ (1 : Int) ≠ 36) rfl
  have e2 : runP (arP o a b) arC 9 1 (pushM (usM M0) a) = runP (arP o a b) arC 8 2 (pushM (usM (pushM (usM M0) a)) b) := runP_go (P := arP o a b) (cl := arC) (k := 8) (i := 1) (by decide : (1 : Int) ≠ 0 ∧ (1 : Int) ≠ 35 ∧ (1 : Int) ≠ 36) rfl
  obtain ⟨M2, hM2⟩ : ∃ M2, pushM (usM (pushM (usM M0) a)) b = M2 := ⟨_, rfl⟩
  have t1 : topM (usM M2) = b := by rw [← hM2, ← hM0]; rfl
  have t2 : topM (popM (usM M2)) = a := by rw [← hM2, ← hM0]; rfl
  have u2 : M2.used = 2 := by rw [← hM2, ← hM0]; rfl
  have w2 : M2.wd 0 = -5 ∧ M2.dice = 0 ∧ M2.sent = 0 ∧ M2.on = 0 ∧ M2.hi = 2 := by rw [← hM2, ← hM0]; exact ⟨rfl, rfl, rfl, rfl, rfl⟩
  obtain ⟨p1, p2⟩ := pair_doF arC (usM M2) o 0 0 ho
  rw [t1, t2] at p1 p2
  have q : (arP o a b).op 2 = o ∧ (arP o a b).a 2 = 0 ∧ (arP o a b).b 2 = 0 := ⟨rfl, rfl, rfl⟩
  rw [e0, e1, e2, hM2]
  clear e0 e1 e2 hM2 hM0 t1 t2
  constructor
  · intro hf
    have e3 : runP (arP o a b) arC 8 2 M2 = ((pairV o a b).2, usM M2) := by
      have := runP_fault (P := arP o a b) (cl := arC) (k := 7) (i := 2) (M := M2) (by rw [q.1]; exact hne) (by rw [q.1, q.2.1, q.2.2, p1]; exact hf)
      rw [q.1, q.2.1, q.2.2, p1] at this
      exact this
    rw [e3]
    exact ⟨rfl, by rw [us_used, u2]; rfl⟩
  · intro hf
    have e3 : runP (arP o a b) arC 8 2 M2 = runP (arP o a b) arC 7 3 (pushM (popM (popM (usM M2))) (pairV o a b).1) := by
      have := runP_go (P := arP o a b) (cl := arC) (k := 7) (i := 2) (M := M2) (by rw [q.1]; exact hne) (by rw [q.1, q.2.1, q.2.2, p1]; exact hf)
      rw [q.1, q.2.1, q.2.2, p2] at this
      exact this
    obtain ⟨x, hx⟩ : ∃ x, (pairV o a b).1 = x := ⟨_, rfl⟩
    rw [hx] at e3 ⊢
    obtain ⟨M3, hM3⟩ : ∃ M3, pushM (popM (popM (usM M2))) x = M3 := ⟨_, rfl⟩
    have t3 : topM (usM M3) = x := by
      rw [← hM3]
      show updI M2.st (M2.hi - 1 - 1) x (M2.hi - 1 - 1 + 1 - 1) = x
      rw [Nat.add_sub_cancel, updI_at]
    have e4 : runP (arP o a b) arC 7 3 M3 = runP (arP o a b) arC 6 4 { popM (usM M3) with wd := updI (usM M3).wd 0 (topM (usM M3)) } := runP_go (P := arP o a b) (cl := arC) (k := 6) (i := 3) (M := M3) (by decide : (4 : Int) ≠ 0 ∧ (4 : Int) ≠ 35 ∧ (4 : Int) ≠ 36) rfl
    rw [e3, hM3, e4, runP_stop (P := arP o a b) (cl := arC) (k := 5) (i := 4) rfl, t3]
    have u3 : M3.used = 3 := by rw [← hM3]; show M2.used + 1 = 3; rw [u2]; rfl
    have v3 : M3.dice = M2.dice ∧ M3.sent = M2.sent ∧ M3.on = M2.on := by rw [← hM3]; exact ⟨rfl, rfl, rfl⟩
    refine ⟨rfl, ?_, v3.1.trans w2.2.1, v3.2.1.trans w2.2.2.1, v3.2.2.trans w2.2.2.2.1, ?_⟩
    · show updI (usM M3).wd 0 x 0 = x
      rw [updI_at]
    · show M3.used + 1 + 1 = 5
      rw [u3]; rfl
def arE (o a b : Int) : Ef := if (pairV o a b).2 = 0 then ⟨0, 1, fun _ => (pairV o a b).1, 0, 0, 0, fun _ => undef, 5⟩ else ⟨(pairV o a b).2, 1, fun _ => -5, 0, 0, 0, fun _ => undef, 3⟩
theorem ar_eff (o a b : Int) (ho : isPair o) : EfEq (effP (arP o a b) arC 1 (fun _ => -5) 0 0) (arE o a b) := by
  have hf : fitsB (arP o a b) arC 1 = true := by kernel_rfl
  have hen : (arP o a b).en arC.kind.toNat ≠ -1 := by show (0 : Int) ≠ -1; decide
  obtain ⟨h1, h2⟩ := ar_run o a b ho
  unfold effP arE
  rw [if_neg (by rw [(ar_straight o a b ho).ok]; simp), if_neg (by rw [hf]; simp), if_neg hen]
  by_cases hz : (pairV o a b).2 = 0
  · obtain ⟨g1, g2, g3, g4, g5, g6⟩ := h2 hz
    rw [if_neg (by rw [g1]; simp), if_pos hz]
    refine ⟨rfl, rfl, fun j hj => ?_, g3, g4, g5, fun j hj => ?_, g6⟩
    · obtain rfl : j = 0 := by have : j < 1 := hj; omega
      exact g2
    · have : j < (runOf (arP o a b) arC (fun _ => -5) 0 0).2.on * 6 := hj
      omega
  · obtain ⟨g1, g2⟩ := h1 hz
    rw [if_pos (by rw [g1]; exact hz), if_neg hz]
    exact ⟨g1, rfl, fun _ _ => rfl, rfl, rfl, rfl, fun j hj => absurd hj (by show ¬ j < 0 * 6; omega), g2⟩
theorem ops18 (m : Nat) (h : m < 18) : ∃ o : Int, isPair o ∧ (#[.int .i64 13, .int .i64 14, .int .i64 15, .int .i64 16, .int .i64 17, .int .i64 18, .int .i64 19, .int .i64 20, .int .i64 21, .int .i64 22, .int .i64 26, .int .i64 27, .int .i64 28, .int .i64 29, .int .i64 30, .int .i64 31, .int .i64 32, .int .i64 33] : Array Value)[m]? = some (.int .i64 o) := by
  have : m = 0 ∨ m = 1 ∨ m = 2 ∨ m = 3 ∨ m = 4 ∨ m = 5 ∨ m = 6 ∨ m = 7 ∨ m = 8 ∨ m = 9 ∨ m = 10 ∨ m = 11 ∨ m = 12 ∨ m = 13 ∨ m = 14 ∨ m = 15 ∨ m = 16 ∨ m = 17 := by omega
  rcases this with rfl | rfl | rfl | rfl | rfl | rfl | rfl | rfl | rfl | rfl | rfl | rfl | rfl | rfl | rfl | rfl | rfl | rfl
  · exact ⟨13, by unfold isPair; omega, rfl⟩
  · exact ⟨14, by unfold isPair; omega, rfl⟩
  · exact ⟨15, by unfold isPair; omega, rfl⟩
  · exact ⟨16, by unfold isPair; omega, rfl⟩
  · exact ⟨17, by unfold isPair; omega, rfl⟩
  · exact ⟨18, by unfold isPair; omega, rfl⟩
  · exact ⟨19, by unfold isPair; omega, rfl⟩
  · exact ⟨20, by unfold isPair; omega, rfl⟩
  · exact ⟨21, by unfold isPair; omega, rfl⟩
  · exact ⟨22, by unfold isPair; omega, rfl⟩
  · exact ⟨26, by unfold isPair; omega, rfl⟩
  · exact ⟨27, by unfold isPair; omega, rfl⟩
  · exact ⟨28, by unfold isPair; omega, rfl⟩
  · exact ⟨29, by unfold isPair; omega, rfl⟩
  · exact ⟨30, by unfold isPair; omega, rfl⟩
  · exact ⟨31, by unfold isPair; omega, rfl⟩
  · exact ⟨32, by unfold isPair; omega, rfl⟩
  · exact ⟨33, by unfold isPair; omega, rfl⟩
end Go.Proofs.Ytieanhmkcbcdkaa
