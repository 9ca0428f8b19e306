import Derived.Test.YtfgkmijaimfkjaaZ4
import Derived.Test.YtfgkmijaimfkjaaC5
namespace Go.Proofs.Ytfgkmijaimfkjaa
open Go.ChangeShapes Go.WideShapes Go.ChangeAt Go.RowKit
set_option linter.unusedVariables false
set_option linter.unusedSimpArgs false
variable {base hb wb cb n : Nat} {N : Nt}

set_option maxRecDepth 100000 in
set_option maxHeartbeats 2000000 in
theorem zvalue_any (x : Int) (W : World) (h : NZ base hb wb cb n N W) : Calls Try.prog 15 #[.pointer (some ⟨hb, 0, none⟩), .int .i64 x] W fun e W' => e = .returned (.tuple #[.agg #[], .int .i64 (valE n N x)]) ∧ Below W.heap.size W W' := by
  obtain ⟨c0, c1, c2⟩ := h.cells
  obtain ⟨l0, l1, l2⟩ := h.lt
  obtain ⟨ps0, ps1⟩ := h.ps
  have HW : Hid (NZ base hb wb cb n N W) := h
  have HK := fun W' h' => zknows_any (base := base) (hb := hb) (wb := wb) (cb := cb) (n := n) (N := N) x W' h'
  have HR := fun W' h' => zrounds_any (base := base) (hb := hb) (wb := wb) (cb := cb) (n := n) (N := N) x W' h'
  by_cases hx : inN n x = true
  · obtain ⟨w, hw, rfl⟩ := inN_get hx
    obtain ⟨k0, k1⟩ := h.cl hw
    have i0 : (0 : Int) ≤ (w : Int) := by omega
    have i1 : (w : Int) < (n : Int) := by omega
    simp only [hx] at HK HR
    unfold valE
    rw [hx]
    simp only [Int.toNat_natCast, if_true, Bool.true_and, true_and] at HR ⊢
    clear h
    have P0 := fun o0 o1 => part_cl (b := cb) w (((W).alloc o0).alloc o1) (((ps1).alloc _ _).alloc _ _)
    have P1 := fun o0 o1 => part_cl (b := cb) w ((((W).alloc o0).alloc o1).drew) ((((ps1).alloc _ _).alloc _ _).drew _)
    have P2 := fun o0 o1 m => part_cl (b := cb) w ((((W).alloc o0).alloc o1).drewN m) ((((ps1).alloc _ _).alloc _ _).drewN _ _)
    have P3 := fun o0 o1 => part_cl (b := cb) w ((((W).alloc o0).alloc o1).drew.drew) (((((ps1).alloc _ _).alloc _ _).drew _).drew _)
    by_cases hp : N.rd w = 0
    · have hp' : ((N.rd w : Int) == 0) = true := by simp [hp]
      rw [if_pos hp]
      generalize N.rd w = r at *
      clear hp
      go_enter Try.func15, Try.ntmps15
      go_wp2_with (first | (go_at_call 54; (with_reducible refine (HK _ ?_).mono ?_); (first | exact HW.out | exact ((ZC.start HW.out).alloc _).1 | exact (((ZC.start HW.out).alloc _).alloc _).1 | exact (((ZC.start HW.out).alloc _).drew).1 | exact (((ZC.start HW.out).alloc _).drewN _).1 | exact ((ZC.start HW.out).drew).1 | exact ((ZC.start HW.out).drewN _).1); rintro e w1 ⟨rfl, h9⟩; subst h9) | (go_at_call 16; (with_reducible refine (HR _ ?_).mono ?_); (first | exact HW.out | exact ((ZC.start HW.out).alloc _).1 | exact (((ZC.start HW.out).alloc _).alloc _).1 | exact (((ZC.start HW.out).alloc _).drew).1 | exact (((ZC.start HW.out).alloc _).drewN _).1 | exact ((ZC.start HW.out).drew).1 | exact ((ZC.start HW.out).drewN _).1); rintro e w2 ⟨rfl, h9⟩; subst h9))
      go_returns
      exact ⟨rfl, by repeat (first | exact Below.refl _ _ | apply Below.drew | refine Below.alloc ?_ (by simp <;> omega) _)⟩
    · have hp' : ((N.rd w : Int) == 0) = false := by simp [hp]
      rw [if_neg hp]
      generalize N.rd w = r at *
      clear hp
      go_enter Try.func15, Try.ntmps15
      go_wp2_with (first | (go_at_call 54; (with_reducible refine (HK _ ?_).mono ?_); (first | exact HW.out | exact ((ZC.start HW.out).alloc _).1 | exact (((ZC.start HW.out).alloc _).alloc _).1 | exact (((ZC.start HW.out).alloc _).drew).1 | exact (((ZC.start HW.out).alloc _).drewN _).1 | exact ((ZC.start HW.out).drew).1 | exact ((ZC.start HW.out).drewN _).1); rintro e w1 ⟨rfl, h9⟩; subst h9) | (go_at_call 16; (with_reducible refine (HR _ ?_).mono ?_); (first | exact HW.out | exact ((ZC.start HW.out).alloc _).1 | exact (((ZC.start HW.out).alloc _).alloc _).1 | exact (((ZC.start HW.out).alloc _).drew).1 | exact (((ZC.start HW.out).alloc _).drewN _).1 | exact ((ZC.start HW.out).drew).1 | exact ((ZC.start HW.out).drewN _).1); rintro e w2 ⟨rfl, h9⟩; subst h9))
      go_returns
      exact ⟨rfl, by repeat (first | exact Below.refl _ _ | apply Below.drew | refine Below.alloc ?_ (by simp <;> omega) _)⟩
  · rw [Bool.not_eq_true] at hx
    unfold valE
    simp only [hx] at HK ⊢
    simp only [Bool.false_eq_true, if_false, false_and]
    go_enter Try.func15, Try.ntmps15
    go_wp2_with ((go_at_call 54; (with_reducible refine (HK _ ?_).mono ?_); (first | exact HW.out | exact ((ZC.start HW.out).alloc _).1 | exact (((ZC.start HW.out).alloc _).alloc _).1 | exact (((ZC.start HW.out).alloc _).drew).1 | exact (((ZC.start HW.out).alloc _).drewN _).1 | exact ((ZC.start HW.out).drew).1 | exact ((ZC.start HW.out).drewN _).1); rintro e w1 ⟨rfl, h9⟩; subst h9))
    go_returns
    exact ⟨rfl, by repeat (first | exact Below.refl _ _ | apply Below.drew | refine Below.alloc ?_ (by simp <;> omega) _)⟩
set_option maxRecDepth 100000 in
set_option maxHeartbeats 4000000 in
theorem zrise_any (w : Nat) (hw : w < n) (W : World) (h : NZ base hb wb cb n N W) : Calls Try.prog 98 #[.pointer (some ⟨hb, 0, none⟩), .int .i64 (w : Int)] W fun e W' => e = .returned (.tuple #[]) ∧ ZC W base hb wb cb n (riseN N w) W' := by
  obtain ⟨c0, c1, c2⟩ := h.cells
  obtain ⟨l0, l1, l2⟩ := h.lt
  obtain ⟨ps0, ps1⟩ := h.ps
  have HW : Hid (NZ base hb wb cb n N W) := h
  obtain ⟨k0, k1⟩ := h.wk hw
  obtain ⟨f0, f1⟩ := h.fz
  obtain ⟨n0, n1, n2⟩ := h.ne
  have n3 := n2.symm
  have i0 : (0 : Int) ≤ (w : Int) := by omega
  have i1 : (w : Int) < (n : Int) := by omega
  have HS := fun W' h' => zsense_any (base := base) (hb := hb) (wb := wb) (cb := cb) (n := n) (N := N) w hw W' h'
  obtain ⟨g0, g1⟩ := h.cl hw
  have P0 := fun o0 => part_wk (b := wb) w ((W).alloc o0) ((ps0).alloc _ _)
  have P1 := fun o0 => part_wk (b := wb) w (((W).alloc o0).drew) (((ps0).alloc _ _).drew _)
  have P2 := fun o0 m => part_wk (b := wb) w (((W).alloc o0).drewN m) (((ps0).alloc _ _).drewN _ _)
  have P3 := fun o0 => part_wk (b := wb) w (((W).alloc o0).drew.drew) ((((ps0).alloc _ _).drew _).drew _)
  have P4 := fun p0 v0 o0 => part_wk (b := wb) w (((W).setCell p0 v0).alloc o0) (((ps0).set _ _ _).alloc _ _)
  have P5 := fun p0 v0 o0 => part_wk (b := wb) w ((((W).setCell p0 v0).alloc o0).drew) ((((ps0).set _ _ _).alloc _ _).drew _)
  have P6 := fun p0 v0 o0 m => part_wk (b := wb) w ((((W).setCell p0 v0).alloc o0).drewN m) ((((ps0).set _ _ _).alloc _ _).drewN _ _)
  have P7 := fun p0 v0 o0 => part_wk (b := wb) w ((((W).setCell p0 v0).alloc o0).drew.drew) (((((ps0).set _ _ _).alloc _ _).drew _).drew _)
  have P8 := fun p0 v0 p1 v1 o0 => part_wk (b := wb) w ((((W).setCell p0 v0).setCell p1 v1).alloc o0) ((((ps0).set _ _ _).set _ _ _).alloc _ _)
  have P9 := fun p0 v0 p1 v1 o0 => part_wk (b := wb) w (((((W).setCell p0 v0).setCell p1 v1).alloc o0).drew) (((((ps0).set _ _ _).set _ _ _).alloc _ _).drew _)
  have P10 := fun p0 v0 p1 v1 o0 m => part_wk (b := wb) w (((((W).setCell p0 v0).setCell p1 v1).alloc o0).drewN m) (((((ps0).set _ _ _).set _ _ _).alloc _ _).drewN _ _)
  have P11 := fun p0 v0 p1 v1 o0 => part_wk (b := wb) w (((((W).setCell p0 v0).setCell p1 v1).alloc o0).drew.drew) ((((((ps0).set _ _ _).set _ _ _).alloc _ _).drew _).drew _)
  have P12 := fun o0 => part_cl (b := cb) w ((W).alloc o0) ((ps1).alloc _ _)
  have P13 := fun o0 => part_cl (b := cb) w (((W).alloc o0).drew) (((ps1).alloc _ _).drew _)
  have P14 := fun o0 m => part_cl (b := cb) w (((W).alloc o0).drewN m) (((ps1).alloc _ _).drewN _ _)
  have P15 := fun o0 => part_cl (b := cb) w (((W).alloc o0).drew.drew) ((((ps1).alloc _ _).drew _).drew _)
  have P16 := fun p0 v0 o0 => part_cl (b := cb) w (((W).setCell p0 v0).alloc o0) (((ps1).set _ _ _).alloc _ _)
  have P17 := fun p0 v0 o0 => part_cl (b := cb) w ((((W).setCell p0 v0).alloc o0).drew) ((((ps1).set _ _ _).alloc _ _).drew _)
  have P18 := fun p0 v0 o0 m => part_cl (b := cb) w ((((W).setCell p0 v0).alloc o0).drewN m) ((((ps1).set _ _ _).alloc _ _).drewN _ _)
  have P19 := fun p0 v0 o0 => part_cl (b := cb) w ((((W).setCell p0 v0).alloc o0).drew.drew) (((((ps1).set _ _ _).alloc _ _).drew _).drew _)
  have P20 := fun p0 v0 p1 v1 o0 => part_cl (b := cb) w ((((W).setCell p0 v0).setCell p1 v1).alloc o0) ((((ps1).set _ _ _).set _ _ _).alloc _ _)
  have P21 := fun p0 v0 p1 v1 o0 => part_cl (b := cb) w (((((W).setCell p0 v0).setCell p1 v1).alloc o0).drew) (((((ps1).set _ _ _).set _ _ _).alloc _ _).drew _)
  have P22 := fun p0 v0 p1 v1 o0 m => part_cl (b := cb) w (((((W).setCell p0 v0).setCell p1 v1).alloc o0).drewN m) (((((ps1).set _ _ _).set _ _ _).alloc _ _).drewN _ _)
  have P23 := fun p0 v0 p1 v1 o0 => part_cl (b := cb) w (((((W).setCell p0 v0).setCell p1 v1).alloc o0).drew.drew) ((((((ps1).set _ _ _).set _ _ _).alloc _ _).drew _).drew _)
  clear h
  go_enter Try.func98, Try.ntmps98
  go_wp2_with fail
  go_region_with ((go_at_call 116; (with_reducible refine (HS _ ?_).mono ?_); (first | exact HW.out | exact ((ZC.start HW.out).alloc _).1 | exact (((ZC.start HW.out).alloc _).alloc _).1 | exact (((ZC.start HW.out).alloc _).drew).1 | exact (((ZC.start HW.out).alloc _).drewN _).1 | exact ((ZC.start HW.out).drew).1 | exact ((ZC.start HW.out).drewN _).1); rintro e w1 ⟨rfl, h9⟩; subst h9))
  all_goals (
    go_wp2
    go_region
    all_goals (
      go_wp2
      go_end0
      exact ⟨rfl, ((((((ZC.start HW.out).up w _).pl w 4).alloc _).drew).drew).ghost _ rfl rfl rfl rfl⟩))
end Go.Proofs.Ytfgkmijaimfkjaa
