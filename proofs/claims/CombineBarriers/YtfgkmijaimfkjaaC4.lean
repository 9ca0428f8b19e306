import Derived.Test.YtfgkmijaimfkjaaC3
namespace Go.Proofs.Ytfgkmijaimfkjaa
open Go.ChangeShapes Go.WideShapes Go.ChangeAt Go.RowKit
set_option linter.unusedVariables false
set_option linter.unusedSimpArgs false
variable {base hb wb cb n : Nat} {jv : Value} {N : Nt}

def inN (n : Nat) (x : Int) : Bool := decide (0 ≤ x) && decide (x < (n : Int))
theorem inN_nat (n w : Nat) : inN n (w : Int) = decide (w < n) := by
  unfold inN
  by_cases h : w < n <;> simp [h]
theorem ret_bool {a b : Bool} (h : a = b) : Ending.returned (.bool a) = .returned (.bool b) := by rw [h]
theorem mod2_eq (r : Nat) : ((r : Int) % 2 == 0) = (r % 2 == 0) := by
  rw [Bool.eq_iff_iff]
  simp
  omega
theorem ne0_eq (r : Nat) : ((r : Int) != 0) = (r != 0) := by
  rw [Bool.eq_iff_iff]
  simp
theorem eq0_eq (r : Nat) : ((r : Int) == 0) = (r == 0) := by
  rw [Bool.eq_iff_iff]
  simp
set_option maxRecDepth 100000 in
theorem nknows_any (x : Int) (W : World) (h : NW base hb wb cb n jv N W) : Calls Try.prog 101 #[.pointer (some ⟨hb, 0, none⟩), .int .i64 x] W fun e W' => e = .returned (.bool (inN n x)) ∧ W' = W := by
  obtain ⟨c0, c1, c2⟩ := h.cells
  unfold inN
  by_cases h0 : 0 ≤ x
  · have d0 : decide (0 ≤ x) = true := by simpa using h0
    by_cases h1 : x < (n : Int)
    · have d1 : decide (x < (n : Int)) = true := by simpa using h1
      go_enter Try.func101, Try.ntmps101
      go_wp2
      go_ret
      exact ⟨by simp [h0, h1], rfl⟩
    · have d1 : decide (x < (n : Int)) = false := by simpa using h1
      go_enter Try.func101, Try.ntmps101
      go_wp2
      go_ret
      exact ⟨by simp [h0, h1], rfl⟩
  · have d0 : decide (0 ≤ x) = false := by simpa using h0
    go_enter Try.func101, Try.ntmps101
    go_wp2
    go_ret
    exact ⟨by simp [h0], rfl⟩
set_option maxRecDepth 100000 in
theorem nsense_any (w : Nat) (hw : w < n) (W : World) (h : NW base hb wb cb n jv N W) : Calls Try.prog 122 #[.pointer (some ⟨hb, 0, none⟩), .int .i64 (w : Int)] W fun e W' => e = .returned (.bool (sns N w)) ∧ W' = W := by
  obtain ⟨c0, c1, c2⟩ := h.cells
  obtain ⟨k0, k1, k2⟩ := h.wk hw
  have i0 : (0 : Int) ≤ (w : Int) := by omega
  have i1 : (w : Int) < (n : Int) := by omega
  unfold sns
  generalize N.rd w = r at k1 ⊢
  go_enter Try.func122, Try.ntmps122
  go_wp2
  go_ret
  exact ⟨ret_bool (mod2_eq r), rfl⟩
set_option maxRecDepth 100000 in
theorem ninside_any (x : Int) (W : World) (h : NW base hb wb cb n jv N W) : Calls Try.prog 61 #[.pointer (some ⟨hb, 0, none⟩), .int .i64 x] W fun e W' => e = .returned (.bool (inN n x && (N.pl x.toNat != 0))) ∧ W' = W := by
  obtain ⟨c0, c1, c2⟩ := h.cells
  have HK := nknows_any x W h
  by_cases hx : inN n x = true
  · obtain ⟨w, hw, rfl⟩ : ∃ w : Nat, w < n ∧ x = (w : Int) := by
      unfold inN at hx; simp at hx; exact ⟨x.toNat, by omega, by omega⟩
    obtain ⟨k0, k1, k2⟩ := h.wk hw
    have i0 : (0 : Int) ≤ (w : Int) := by omega
    have i1 : (w : Int) < (n : Int) := by omega
    rw [hx] at HK ⊢
    simp only [Int.toNat_natCast, Bool.true_and]
    generalize N.pl w = r at k0 ⊢
    go_enter Try.func61, Try.ntmps61
    go_wp2_with (go_at_call 101; (with_reducible refine HK.mono ?_); rintro e w1 ⟨rfl, h9⟩; subst h9)
    go_ret
    exact ⟨ret_bool (ne0_eq r), rfl⟩
  · rw [Bool.not_eq_true] at hx
    rw [hx] at HK ⊢
    go_enter Try.func61, Try.ntmps61
    go_wp2_with (go_at_call 101; (with_reducible refine HK.mono ?_); rintro e w1 ⟨rfl, h9⟩; subst h9)
    go_ret
    exact ⟨rfl, rfl⟩
theorem inN_get {n : Nat} {x : Int} (hx : inN n x = true) : ∃ w : Nat, w < n ∧ x = (w : Int) := by
  unfold inN at hx
  simp at hx
  exact ⟨x.toNat, by omega, by omega⟩
set_option maxRecDepth 100000 in
theorem nrounds_any (x : Int) (W : World) (h : NW base hb wb cb n jv N W) : Calls Try.prog 60 #[.pointer (some ⟨hb, 0, none⟩), .int .i64 x] W fun e W' => e = .returned (.int .i64 (if inN n x = true then (N.rd x.toNat : Int) else 0)) ∧ W' = W := by
  obtain ⟨c0, c1, c2⟩ := h.cells
  have HK := nknows_any x W h
  by_cases hx : inN n x = true
  · obtain ⟨w, hw, rfl⟩ := inN_get hx
    obtain ⟨k0, k1, k2⟩ := h.wk hw
    have i0 : (0 : Int) ≤ (w : Int) := by omega
    have i1 : (w : Int) < (n : Int) := by omega
    rw [hx] at HK ⊢
    simp only [Int.toNat_natCast, if_true]
    generalize N.rd w = r at k1 ⊢
    go_enter Try.func60, Try.ntmps60
    go_wp2_with (go_at_call 101; (with_reducible refine HK.mono ?_); rintro e w1 ⟨rfl, h9⟩; subst h9)
    go_ret
    exact ⟨rfl, rfl⟩
  · rw [Bool.not_eq_true] at hx
    rw [hx] at HK ⊢
    simp only [Bool.false_eq_true, if_false]
    go_enter Try.func60, Try.ntmps60
    go_wp2_with (go_at_call 101; (with_reducible refine HK.mono ?_); rintro e w1 ⟨rfl, h9⟩; subst h9)
    go_ret
    exact ⟨rfl, rfl⟩
/-- what Enter answers -/
def entE (n : Nat) (N : Nt) (x : Int) : Int := if inN n x = true then (if N.pl x.toNat = 0 then 0 else 101) else 91
def entN (n : Nat) (N : Nt) (x v : Int) : Nt := if inN n x = true ∧ N.pl x.toNat = 0 then enterN N x.toNat v else N
set_option maxRecDepth 100000 in
theorem nenter_any (x v : Int) (W : World) (h : NW base hb wb cb n jv N W) : Calls Try.prog 57 #[.pointer (some ⟨hb, 0, none⟩), .int .i64 x, .int .i64 v] W fun e W' => e = .returned (.int .i64 (entE n N x)) ∧ NC W base hb wb cb n jv (entN n N x v) W' := by
  obtain ⟨c0, c1, c2⟩ := h.cells
  obtain ⟨l0, l1, l2⟩ := h.lt
  have HK := nknows_any x W h
  have HI := ninside_any x W h
  by_cases hx : inN n x = true
  · obtain ⟨w, hw, rfl⟩ := inN_get hx
    obtain ⟨k0, k1, k2⟩ := h.wk hw
    have i0 : (0 : Int) ≤ (w : Int) := by omega
    have i1 : (w : Int) < (n : Int) := by omega
    rw [hx] at HK HI
    unfold entE entN
    rw [hx]
    simp only [Int.toNat_natCast, if_true, Bool.true_and, true_and] at HI ⊢
    by_cases hp : N.pl w = 0
    · have hp' : (N.pl w != 0) = false := by simp [hp]
      rw [hp'] at HI
      rw [if_pos hp, if_pos hp]
      clear hp' hp
      obtain ⟨f0, f1⟩ := h.fz
      have HW : Hid (NW base hb wb cb n jv N W) := h
      clear h
      go_enter Try.func57, Try.ntmps57
      go_wp2_with (first | (go_at_call 101; (with_reducible refine HK.mono ?_); rintro e w1 ⟨rfl, h9⟩; subst h9) | (go_at_call 61; (with_reducible refine HI.mono ?_); rintro e w2 ⟨rfl, h9⟩; subst h9))
      go_ret
      exact ⟨rfl, ((NC.start HW.out).pl w 1).hs w v⟩
    · have hp' : (N.pl w != 0) = true := by simp [hp]
      rw [hp'] at HI
      rw [if_neg hp, if_neg hp]
      go_enter Try.func57, Try.ntmps57
      go_wp2_with (first | (go_at_call 101; (with_reducible refine HK.mono ?_); rintro e w1 ⟨rfl, h9⟩; subst h9) | (go_at_call 61; (with_reducible refine HI.mono ?_); rintro e w2 ⟨rfl, h9⟩; subst h9))
      go_ret
      exact ⟨rfl, NC.start h⟩
  · rw [Bool.not_eq_true] at hx
    unfold entE entN
    rw [hx] at HK ⊢
    simp only [Bool.false_eq_true, if_false, false_and]
    go_enter Try.func57, Try.ntmps57
    go_wp2_with (go_at_call 101; (with_reducible refine HK.mono ?_); rintro e w1 ⟨rfl, h9⟩; subst h9)
    go_ret
    exact ⟨rfl, NC.start h⟩
end Go.Proofs.Ytfgkmijaimfkjaa
