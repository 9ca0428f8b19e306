import Derived.Test.YtfgkmijaimfkjaaZ5
namespace Go.Proofs.Ytfgkmijaimfkjaa
open Go.ChangeShapes Go.WideShapes Go.ChangeAt Go.RowKit
set_option linter.unusedVariables false
set_option linter.unusedSimpArgs false
variable {base hb wb cb n : Nat} {N : Nt}

set_option maxRecDepth 100000 in
set_option maxHeartbeats 4000000 in
theorem zleave_any (w : Nat) (hw : w < n) (hr : N.rd w < 1000000000000000000) (W : World) (h : NZ base hb wb cb n N W) : Calls Try.prog 100 #[.pointer (some ⟨hb, 0, none⟩), .int .i64 (w : Int)] W fun e W' => e = .returned (.tuple #[]) ∧ ZC W base hb wb cb n (leaveN N w) W' := by
  obtain ⟨c0, c1, c2⟩ := h.cells
  obtain ⟨l0, l1, l2⟩ := h.lt
  obtain ⟨ps0, ps1⟩ := h.ps
  have HW : Hid (NZ base hb wb cb n N W) := h
  obtain ⟨k0, k1⟩ := h.wk hw
  obtain ⟨f0, f1⟩ := h.fz
  obtain ⟨n0, n1, n2⟩ := h.ne
  have n3 := n2.symm
  have i0 : (0 : Int) ≤ (w : Int) := by omega
  have i1 : (w : Int) < (n : Int) := by omega
  have HS := fun W' h' => zsense_any (base := base) (hb := hb) (wb := wb) (cb := cb) (n := n) (N := N) w hw W' h'
  obtain ⟨g0, g1⟩ := h.cl hw
  have er : IntKind.i64.wrap ((N.rd w : Int) + 1) = ((N.rd w + 1 : Nat) : Int) := by rw [IntKind.wrap_i64]; omega
  have P0 := fun o0 => part_wk (b := wb) w ((W).alloc o0) ((ps0).alloc _ _)
  have P1 := fun o0 => part_wk (b := wb) w (((W).alloc o0).drew) (((ps0).alloc _ _).drew _)
  have P2 := fun o0 m => part_wk (b := wb) w (((W).alloc o0).drewN m) (((ps0).alloc _ _).drewN _ _)
  have P3 := fun o0 => part_wk (b := wb) w (((W).alloc o0).drew.drew) ((((ps0).alloc _ _).drew _).drew _)
  have P4 := fun p0 v0 o0 => part_wk (b := wb) w (((W).setCell p0 v0).alloc o0) (((ps0).set _ _ _).alloc _ _)
  have P5 := fun p0 v0 o0 => part_wk (b := wb) w ((((W).setCell p0 v0).alloc o0).drew) ((((ps0).set _ _ _).alloc _ _).drew _)
  have P6 := fun p0 v0 o0 m => part_wk (b := wb) w ((((W).setCell p0 v0).alloc o0).drewN m) ((((ps0).set _ _ _).alloc _ _).drewN _ _)
  have P7 := fun p0 v0 o0 => part_wk (b := wb) w ((((W).setCell p0 v0).alloc o0).drew.drew) (((((ps0).set _ _ _).alloc _ _).drew _).drew _)
  have P8 := fun o0 => part_cl (b := cb) w ((W).alloc o0) ((ps1).alloc _ _)
  have P9 := fun o0 => part_cl (b := cb) w (((W).alloc o0).drew) (((ps1).alloc _ _).drew _)
  have P10 := fun o0 m => part_cl (b := cb) w (((W).alloc o0).drewN m) (((ps1).alloc _ _).drewN _ _)
  have P11 := fun o0 => part_cl (b := cb) w (((W).alloc o0).drew.drew) ((((ps1).alloc _ _).drew _).drew _)
  have P12 := fun p0 v0 o0 => part_cl (b := cb) w (((W).setCell p0 v0).alloc o0) (((ps1).set _ _ _).alloc _ _)
  have P13 := fun p0 v0 o0 => part_cl (b := cb) w ((((W).setCell p0 v0).alloc o0).drew) ((((ps1).set _ _ _).alloc _ _).drew _)
  have P14 := fun p0 v0 o0 m => part_cl (b := cb) w ((((W).setCell p0 v0).alloc o0).drewN m) ((((ps1).set _ _ _).alloc _ _).drewN _ _)
  have P15 := fun p0 v0 o0 => part_cl (b := cb) w ((((W).setCell p0 v0).alloc o0).drew.drew) (((((ps1).set _ _ _).alloc _ _).drew _).drew _)
  clear h
  go_enter Try.func100, Try.ntmps100
  go_wp2_with fail
  go_region_with ((go_at_call 116; (with_reducible refine (HS _ ?_).mono ?_); (first | exact HW.out | exact ((ZC.start HW.out).alloc _).1 | exact (((ZC.start HW.out).alloc _).alloc _).1 | exact (((ZC.start HW.out).alloc _).drew).1 | exact (((ZC.start HW.out).alloc _).drewN _).1 | exact ((ZC.start HW.out).drew).1 | exact ((ZC.start HW.out).drewN _).1); rintro e w1 ⟨rfl, h9⟩; subst h9))
  all_goals (
    go_wp2
    go_end0
    exact ⟨rfl, ((((((ZC.start HW.out).dn w _).pl w 0).rd w (N.rd w + 1)).alloc _).drew).ghost _ rfl rfl rfl rfl⟩)
end Go.Proofs.Ytfgkmijaimfkjaa
