import Derived.Test.YtfgkmijaimfkjaaX7
import Derived.Test.YtfgkmijaimfkjaaX6
import Derived.Test.YtfgkmijaimfkjaaX8b
import Derived.Test.YtfgkmijaimfkjaaX9
import Derived.Test.YtfgkmijaimfkjaaC8
namespace Go.Proofs.Ytfgkmijaimfkjaa
open Go.ChangeShapes Go.WideShapes Go.ChangeAt Go.RowKit
set_option linter.unusedVariables false
set_option linter.unusedSimpArgs false

def J0 (a b : Int) : Int := a
/-- the program's net and the reference's, at a worker -/
structure RLw (n : Nat) (N : Nt) (R : Rt) (w : Nat) : Prop where
  up : R.up w = N.up w
  dn : R.dn w = N.dn w
  th : R.th w = N.rd w
  td : R.td w = if N.pl w = 0 then [] else tdl n w (N.pl w)
  hs : N.pl w ≠ 0 → (N.pl w ≠ 4 ∨ w = 0) → R.hs w = N.hs w
  ls : R.ls w = N.dv w
  dv : R.dv w = N.dv w
def RL (n : Nat) (N : Nt) (R : Rt) : Prop := ∀ w, w < n → RLw n N R w
theorem RLw.congr {n : Nat} {N N' : Nt} {R R' : Rt} {i : Nat} (h : RLw n N R i) (a1 : N'.up i = N.up i) (a2 : N'.dn i = N.dn i) (a3 : N'.rd i = N.rd i) (a4 : N'.pl i = N.pl i) (a5 : N'.hs i = N.hs i) (a6 : N'.dv i = N.dv i) (b1 : R'.up i = R.up i) (b2 : R'.dn i = R.dn i) (b3 : R'.th i = R.th i) (b4 : R'.td i = R.td i) (b5 : R'.hs i = R.hs i) (b6 : R'.ls i = R.ls i) (b7 : R'.dv i = R.dv i) : RLw n N' R' i :=
  ⟨by rw [a1, b1]; exact h.up, by rw [a2, b2]; exact h.dn, by rw [a3, b3]; exact h.th, by rw [a4, b4]; exact h.td, fun x y => by rw [a5, b5]; rw [a4] at x y; exact h.hs x y, by rw [a6, b6]; exact h.ls, by rw [a6, b7]; exact h.dv⟩
theorem rl_new (n : Nat) : RL n Nt.new Rt.new := fun w _ => ⟨rfl, rfl, rfl, rfl, fun h => absurd rfl h, rfl, rfl⟩
theorem tdl1 {n w p : Nat} (h : p ≤ 1 ∧ 2 * w + 1 < n) : tdl n w p = 1 :: tdl n w 2 := by
  unfold tdl
  have h1 : p ≤ 2 := by omega
  have h2 : p ≤ 3 := by omega
  have h3 : p ≤ 4 := by omega
  simp [h, h1, h2, h3]
theorem tdl2 {n w p : Nat} (h0 : ¬ (p ≤ 1 ∧ 2 * w + 1 < n)) (h : p ≤ 2 ∧ 2 * w + 2 < n) : tdl n w p = 2 :: tdl n w 3 := by
  unfold tdl
  have h2 : p ≤ 3 := by omega
  have h3 : p ≤ 4 := by omega
  simp [h0, h, h2, h3]
theorem tdl3 {n w p : Nat} (h0 : ¬ (p ≤ 1 ∧ 2 * w + 1 < n)) (h1 : ¬ (p ≤ 2 ∧ 2 * w + 2 < n)) (h : p ≤ 3 ∧ 0 < w) : tdl n w p = 3 :: tdl n w 4 := by
  unfold tdl
  have h3 : p ≤ 4 := by omega
  simp [h0, h1, h, h3]
theorem tdl4 {n w p : Nat} (h0 : ¬ (p ≤ 1 ∧ 2 * w + 1 < n)) (h1 : ¬ (p ≤ 2 ∧ 2 * w + 2 < n)) (h2 : ¬ (p ≤ 3 ∧ 0 < w)) (h : p ≤ 4 ∧ 0 < w) : tdl n w p = 4 :: tdl n w 5 := by
  unfold tdl
  simp [h0, h1, h2, h]
  omega
theorem tdl5 {n w p : Nat} (h0 : ¬ (p ≤ 1 ∧ 2 * w + 1 < n)) (h1 : ¬ (p ≤ 2 ∧ 2 * w + 2 < n)) (h2 : ¬ (p ≤ 3 ∧ 0 < w)) (h : ¬ (p ≤ 4 ∧ 0 < w)) : tdl n w p = 5 :: [] := by
  unfold tdl
  simp [h0, h1, h2, h]
theorem tdl_len (n w p : Nat) : (tdl n w p).length ≠ 0 := by unfold tdl; simp
theorem RLw.len {n : Nat} {N : Nt} {R : Rt} {w : Nat} (h : RLw n N R w) : (R.td w).length = 0 ↔ N.pl w = 0 := by
  rw [h.td]
  by_cases e : N.pl w = 0
  · simp [e]
  · rw [if_neg e]
    exact ⟨fun hh => absurd hh (tdl_len _ _ _), fun hh => absurd hh e⟩
variable {base n : Nat} {B : RB} {R : Rt} {N : Nt}
theorem RL.ent (h : RL n N R) (x v : Int) (t : Value) : RL n (entN n N x v) (rentN n R x v t) := by
  unfold entN rentN
  by_cases hx : inN n x = true
  · obtain ⟨w, hw, rfl⟩ := inN_get hx
    simp only [hx, true_and, Int.toNat_natCast]
    by_cases hp : N.pl w = 0
    · rw [if_pos hp, if_pos ((h w hw).len.2 hp)]
      intro i hi
      by_cases e : i = w
      · subst e
        have g := h i hi
        refine ⟨g.up, g.dn, g.th, ?_, ?_, g.ls, g.dv⟩
        · show setF R.td i _ i = if upF N.pl i 1 i = 0 then [] else tdl n i (upF N.pl i 1 i)
          rw [setF_at, upF_at]
          rfl
        · intro _ _
          show setF R.hs i v i = upF N.hs i v i
          rw [setF_at, upF_at]
      · exact (h i hi).congr rfl rfl rfl (upF_ne _ _ e) (upF_ne _ _ e) rfl rfl rfl rfl (setF_ne _ _ e) (setF_ne _ _ e) rfl rfl
    · rw [if_neg hp, if_neg (fun e => hp ((h w hw).len.1 e))]
      exact h
  · simp only [hx, Bool.false_eq_true, false_and, if_false]
    exact h
theorem RL.sns (h : RL n N R) {w : Nat} (hw : w < n) : rsn R w = sns N w := by
  unfold rsn Proofs.Ytfgkmijaimfkjaa.sns
  rw [(h w hw).th]
theorem RL.entE (h : RL n N R) (x : Int) : rentE n R x = Proofs.Ytfgkmijaimfkjaa.entE n N x := by
  unfold rentE Proofs.Ytfgkmijaimfkjaa.entE
  by_cases hx : inN n x = true
  · obtain ⟨w, hw, rfl⟩ := inN_get hx
    simp only [hx, if_true, Int.toNat_natCast]
    by_cases hp : N.pl w = 0
    · rw [if_pos hp, if_pos ((h w hw).len.2 hp)]
    · rw [if_neg hp, if_neg (fun e => hp ((h w hw).len.1 e))]
  · simp only [hx, Bool.false_eq_true, if_false]
theorem renter_any (h : RL n N R) (hn : n ≤ 64) (x v : Int) (W : World) (hr : RN base n 0 B R W) (hb : base ≤ W.heap.size) : Calls Try.prog 27 #[.pointer (some ⟨B.rb, 0, none⟩), .int .i64 x, rvA v] W fun e W' => e = .returned (.int .i64 (entE n N x)) ∧ ∃ R', RL n (entN n N x v) R' ∧ RC W base n 0 B R' W' := by
  rw [← h.entE]
  by_cases hy : inN n x = true ∧ (R.td x.toNat).length = 0
  · obtain ⟨w, hw, rfl⟩ := inN_get hy.1
    rw [Int.toNat_natCast] at hy
    refine (renter_yes w hw hn v W hr hb hy.2).mono ?_
    rintro e W' ⟨rfl, t, hc⟩
    refine ⟨?_, _, h.ent (w : Int) v t, hc⟩
    unfold rentE
    rw [Int.toNat_natCast, if_pos hy.1, if_pos hy.2]
  · refine (renter_no x v W hr hy).mono ?_
    rintro e W' ⟨rfl, hb'⟩
    have h2 := h.ent x v .nilFunc
    unfold rentN at h2
    rw [if_neg hy] at h2
    exact ⟨rfl, R, h2, (RC.start hr).below hb'⟩
end Go.Proofs.Ytfgkmijaimfkjaa
