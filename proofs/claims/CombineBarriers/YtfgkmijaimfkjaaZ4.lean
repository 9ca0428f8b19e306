import Derived.Test.YtfgkmijaimfkjaaZ3b
namespace Go.Proofs.Ytfgkmijaimfkjaa
open Go.ChangeShapes Go.WideShapes Go.ChangeAt Go.RowKit
set_option linter.unusedVariables false
set_option linter.unusedSimpArgs false
variable {base hb wb cb n : Nat} {N : Nt}

set_option maxRecDepth 100000 in
theorem zknows_any (x : Int) (W : World) (h : NZ base hb wb cb n N W) : Calls Try.prog 54 #[.pointer (some ⟨hb, 0, none⟩), .int .i64 x] W fun e W' => e = .returned (.bool (inN n x)) ∧ W' = W := by
  obtain ⟨c0, c1, c2⟩ := h.cells
  unfold inN
  by_cases h0 : 0 ≤ x
  · have d0 : decide (0 ≤ x) = true := by simpa using h0
    by_cases h1 : x < (n : Int)
    · have d1 : decide (x < (n : Int)) = true := by simpa using h1
      go_enter Try.func54, Try.ntmps54
      go_wp2
      go_ret
      exact ⟨by simp [h0, h1], rfl⟩
    · have d1 : decide (x < (n : Int)) = false := by simpa using h1
      go_enter Try.func54, Try.ntmps54
      go_wp2
      go_ret
      exact ⟨by simp [h0, h1], rfl⟩
  · have d0 : decide (0 ≤ x) = false := by simpa using h0
    go_enter Try.func54, Try.ntmps54
    go_wp2
    go_ret
    exact ⟨by simp [h0], rfl⟩
set_option maxRecDepth 100000 in
theorem zsense_any (w : Nat) (hw : w < n) (W : World) (h : NZ base hb wb cb n N W) : Calls Try.prog 116 #[.pointer (some ⟨hb, 0, none⟩), .int .i64 (w : Int)] W fun e W' => e = .returned (.bool (sns N w)) ∧ W' = W := by
  obtain ⟨c0, c1, c2⟩ := h.cells
  obtain ⟨k0, k1⟩ := h.wk hw
  have i0 : (0 : Int) ≤ (w : Int) := by omega
  have i1 : (w : Int) < (n : Int) := by omega
  unfold sns
  generalize N.rd w = r at k1 ⊢
  go_enter Try.func116, Try.ntmps116
  go_wp2
  go_ret
  exact ⟨ret_bool (mod2_eq r), rfl⟩
set_option maxRecDepth 100000 in
theorem zinside_any (x : Int) (W : World) (h : NZ base hb wb cb n N W) : Calls Try.prog 17 #[.pointer (some ⟨hb, 0, none⟩), .int .i64 x] W fun e W' => e = .returned (.bool (inN n x && (N.pl x.toNat != 0))) ∧ W' = W := by
  obtain ⟨c0, c1, c2⟩ := h.cells
  have HK := zknows_any x W h
  by_cases hx : inN n x = true
  · obtain ⟨w, hw, rfl⟩ : ∃ w : Nat, w < n ∧ x = (w : Int) := by
      unfold inN at hx; simp at hx; exact ⟨x.toNat, by omega, by omega⟩
    obtain ⟨k0, k1⟩ := h.wk hw
    have i0 : (0 : Int) ≤ (w : Int) := by omega
    have i1 : (w : Int) < (n : Int) := by omega
    rw [hx] at HK ⊢
    simp only [Int.toNat_natCast, Bool.true_and]
    generalize N.pl w = r at k0 ⊢
    go_enter Try.func17, Try.ntmps17
    go_wp2_with (go_at_call 54; (with_reducible refine HK.mono ?_); rintro e w1 ⟨rfl, h9⟩; subst h9)
    go_ret
    exact ⟨ret_bool (ne0_eq r), rfl⟩
  · rw [Bool.not_eq_true] at hx
    rw [hx] at HK ⊢
    go_enter Try.func17, Try.ntmps17
    go_wp2_with (go_at_call 54; (with_reducible refine HK.mono ?_); rintro e w1 ⟨rfl, h9⟩; subst h9)
    go_ret
    exact ⟨rfl, rfl⟩
set_option maxRecDepth 100000 in
theorem zrounds_any (x : Int) (W : World) (h : NZ base hb wb cb n N W) : Calls Try.prog 16 #[.pointer (some ⟨hb, 0, none⟩), .int .i64 x] W fun e W' => e = .returned (.int .i64 (if inN n x = true then (N.rd x.toNat : Int) else 0)) ∧ W' = W := by
  obtain ⟨c0, c1, c2⟩ := h.cells
  have HK := zknows_any x W h
  by_cases hx : inN n x = true
  · obtain ⟨w, hw, rfl⟩ := inN_get hx
    obtain ⟨k0, k1⟩ := h.wk hw
    have i0 : (0 : Int) ≤ (w : Int) := by omega
    have i1 : (w : Int) < (n : Int) := by omega
    rw [hx] at HK ⊢
    simp only [Int.toNat_natCast, if_true]
    generalize N.rd w = r at k1 ⊢
    go_enter Try.func16, Try.ntmps16
    go_wp2_with (go_at_call 54; (with_reducible refine HK.mono ?_); rintro e w1 ⟨rfl, h9⟩; subst h9)
    go_ret
    exact ⟨rfl, rfl⟩
  · rw [Bool.not_eq_true] at hx
    rw [hx] at HK ⊢
    simp only [Bool.false_eq_true, if_false]
    go_enter Try.func16, Try.ntmps16
    go_wp2_with (go_at_call 54; (with_reducible refine HK.mono ?_); rintro e w1 ⟨rfl, h9⟩; subst h9)
    go_ret
    exact ⟨rfl, rfl⟩
set_option maxRecDepth 100000 in
theorem zenter_any (x : Int) (W : World) (h : NZ base hb wb cb n N W) : Calls Try.prog 13 #[.pointer (some ⟨hb, 0, none⟩), .int .i64 x, .agg #[]] W fun e W' => e = .returned (.int .i64 (entE n N x)) ∧ ZC W base hb wb cb n (entN n N x 0) W' := by
  obtain ⟨c0, c1, c2⟩ := h.cells
  obtain ⟨l0, l1, l2⟩ := h.lt
  have HK := fun W' h' => zknows_any (base := base) (hb := hb) (wb := wb) (cb := cb) (n := n) (N := N) x W' h'
  have HI := fun W' h' => zinside_any (base := base) (hb := hb) (wb := wb) (cb := cb) (n := n) (N := N) x W' h'
  have HW : Hid (NZ base hb wb cb n N W) := h
  by_cases hx : inN n x = true
  · obtain ⟨w, hw, rfl⟩ := inN_get hx
    obtain ⟨k0, k1⟩ := h.wk hw
    have i0 : (0 : Int) ≤ (w : Int) := by omega
    have i1 : (w : Int) < (n : Int) := by omega
    simp only [hx] at HK HI
    unfold entE entN
    rw [hx]
    simp only [Int.toNat_natCast, if_true, Bool.true_and, true_and] at HI ⊢
    by_cases hp : N.pl w = 0
    · have hp' : (N.pl w != 0) = false := by simp [hp]
      simp only [hp'] at HI
      rw [if_pos hp, if_pos hp]
      clear hp' hp
      obtain ⟨f0, f1⟩ := h.fz
      obtain ⟨ps0, ps1⟩ := h.ps
      have PD1 := fun o => part_wk (b := wb) w ((W.alloc o).drew) ((ps0.alloc _ _).drew _)
      have PD2 := fun p v o => part_wk (b := wb) w (((W.setCell p v).alloc o).drew) (((ps0.set _ _ _).alloc _ _).drew _)
      clear h
      go_enter Try.func13, Try.ntmps13
      go_wp2_with (first | (go_at_call 54; (with_reducible refine (HK _ ?_).mono ?_); (first | exact HW.out | exact ((ZC.start HW.out).alloc _).1 | exact (((ZC.start HW.out).alloc _).alloc _).1 | exact (((ZC.start HW.out).alloc _).drew).1 | exact (((ZC.start HW.out).alloc _).drewN _).1 | exact ((ZC.start HW.out).drew).1 | exact ((ZC.start HW.out).drewN _).1); rintro e w1 ⟨rfl, h9⟩; subst h9) | (go_at_call 17; (with_reducible refine (HI _ ?_).mono ?_); (first | exact HW.out | exact ((ZC.start HW.out).alloc _).1 | exact (((ZC.start HW.out).alloc _).alloc _).1 | exact (((ZC.start HW.out).alloc _).drew).1 | exact (((ZC.start HW.out).alloc _).drewN _).1 | exact ((ZC.start HW.out).drew).1 | exact ((ZC.start HW.out).drewN _).1); rintro e w2 ⟨rfl, h9⟩; subst h9))
      go_region
      all_goals (
        go_wp2
        go_ret
        exact ⟨rfl, ((((ZC.start HW.out).pl w 1).alloc _).drew).ghost _ rfl rfl rfl rfl⟩)
    · have hp' : (N.pl w != 0) = true := by simp [hp]
      simp only [hp'] at HI
      rw [if_neg hp, if_neg hp]
      go_enter Try.func13, Try.ntmps13
      go_wp2_with (first | (go_at_call 54; (with_reducible refine (HK _ ?_).mono ?_); (first | exact HW.out | exact ((ZC.start HW.out).alloc _).1 | exact (((ZC.start HW.out).alloc _).alloc _).1 | exact (((ZC.start HW.out).alloc _).drew).1 | exact (((ZC.start HW.out).alloc _).drewN _).1 | exact ((ZC.start HW.out).drew).1 | exact ((ZC.start HW.out).drewN _).1); rintro e w1 ⟨rfl, h9⟩; subst h9) | (go_at_call 17; (with_reducible refine (HI _ ?_).mono ?_); (first | exact HW.out | exact ((ZC.start HW.out).alloc _).1 | exact (((ZC.start HW.out).alloc _).alloc _).1 | exact (((ZC.start HW.out).alloc _).drew).1 | exact (((ZC.start HW.out).alloc _).drewN _).1 | exact ((ZC.start HW.out).drew).1 | exact ((ZC.start HW.out).drewN _).1); rintro e w2 ⟨rfl, h9⟩; subst h9))
      go_ret
      exact ⟨rfl, (ZC.start h).alloc _⟩
  · rw [Bool.not_eq_true] at hx
    unfold entE entN
    simp only [hx] at HK ⊢
    simp only [Bool.false_eq_true, if_false, false_and]
    go_enter Try.func13, Try.ntmps13
    go_wp2_with ((go_at_call 54; (with_reducible refine (HK _ ?_).mono ?_); (first | exact HW.out | exact ((ZC.start HW.out).alloc _).1 | exact (((ZC.start HW.out).alloc _).alloc _).1 | exact (((ZC.start HW.out).alloc _).drew).1 | exact (((ZC.start HW.out).alloc _).drewN _).1 | exact ((ZC.start HW.out).drew).1 | exact ((ZC.start HW.out).drewN _).1); rintro e w1 ⟨rfl, h9⟩; subst h9))
    go_ret
    exact ⟨rfl, (ZC.start h).alloc _⟩
end Go.Proofs.Ytfgkmijaimfkjaa
