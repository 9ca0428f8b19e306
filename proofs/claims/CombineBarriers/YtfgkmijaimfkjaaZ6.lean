import Derived.Test.YtfgkmijaimfkjaaZ5
namespace Go.Proofs.Ytfgkmijaimfkjaa
open Go.ChangeShapes Go.WideShapes Go.ChangeAt Go.RowKit
set_option linter.unusedVariables false
set_option linter.unusedSimpArgs false
variable {base hb wb cb n : Nat} {N : Nt}

set_option maxRecDepth 100000 in
set_option maxHeartbeats 4000000 in
theorem zhearP_any (w : Nat) (h0w : 0 < w) (hw : w < n) (hn : n ≤ 64) (W : World) (h : NZ base hb wb cb n N W) : Calls Try.prog 99 #[.pointer (some ⟨hb, 0, none⟩), .int .i64 (w : Int)] W fun e W' => e = .returned (.tuple #[]) ∧ ZC W base hb wb cb n (hearPN N w) W' := by
  obtain ⟨c0, c1, c2⟩ := h.cells
  obtain ⟨l0, l1, l2⟩ := h.lt
  obtain ⟨ps0, ps1⟩ := h.ps
  have HW : Hid (NZ base hb wb cb n N W) := h
  obtain ⟨k0, k1⟩ := h.wk hw
  obtain ⟨f0, f1⟩ := h.fz
  obtain ⟨n0, n1, n2⟩ := h.ne
  have n3 := n2.symm
  have i0 : (0 : Int) ≤ (w : Int) := by omega
  have i1 : (w : Int) < (n : Int) := by omega
  have HS := fun W' h' => zsense_any (base := base) (hb := hb) (wb := wb) (cb := cb) (n := n) (N := N) w hw W' h'
  obtain ⟨p, hp⟩ : ∃ p, (w - 1) / 2 = p := ⟨_, rfl⟩
  have hpn : p < n := by omega
  obtain ⟨g0, g1⟩ := h.cl hpn
  have e1 : IntKind.i64.wrap ((w : Int) - 1) = (w : Int) - 1 := by rw [IntKind.wrap_i64]; omega
  have e2' : ((w : Int) - 1).tdiv 2 = (p : Int) := by rw [Int.tdiv_eq_ediv_of_nonneg (by omega)]; omega
  have e2 : IntKind.i64.wrap (p : Int) = (p : Int) := by rw [IntKind.wrap_i64]; omega
  have j0 : (0 : Int) ≤ (p : Int) := by omega
  have j1 : (p : Int) < (n : Int) := by omega
  unfold hearPN
  rw [hp]
  clear h hp
  by_cases hs : N.dn p = sns N w
  · rw [if_pos hs]
    have hs' : (N.dn p != sns N w) = false := by simp [hs]
    have hs2 : (N.dn p == sns N w) = true := by simp [hs]
    generalize sns N w = s at *
    have HH : Hid (N.dn p = s) := hs
    clear hs
    go_enter Try.func99, Try.ntmps99
    go_wp2_with fail
    go_quiet ((go_at_call 116; refine Calls.quiet_of_same (HS _ ?_); (first | exact HW.out | exact ((ZC.start HW.out).alloc _).1 | exact (((ZC.start HW.out).alloc _).alloc _).1 | exact (((ZC.start HW.out).alloc _).drew).1 | exact (((ZC.start HW.out).alloc _).drewN _).1 | exact ((ZC.start HW.out).drew).1 | exact ((ZC.start HW.out).drewN _).1)))
    have qs0 := ps0.drewN W nq
    have qs1 := ps1.drewN W nq
    have P0 := part_wk (b := wb) w (W.drewN nq) (qs0)
    have P1 := part_wk (b := wb) w ((W.drewN nq).drew) ((qs0).drew _)
    have P2 := fun m => part_wk (b := wb) w ((W.drewN nq).drewN m) ((qs0).drewN _ _)
    have P3 := part_wk (b := wb) w ((W.drewN nq).drew.drew) (((qs0).drew _).drew _)
    have P4 := fun p0 v0 => part_wk (b := wb) w ((W.drewN nq).setCell p0 v0) ((qs0).set _ _ _)
    have P5 := fun p0 v0 => part_wk (b := wb) w (((W.drewN nq).setCell p0 v0).drew) (((qs0).set _ _ _).drew _)
    have P6 := fun p0 v0 m => part_wk (b := wb) w (((W.drewN nq).setCell p0 v0).drewN m) (((qs0).set _ _ _).drewN _ _)
    have P7 := fun p0 v0 => part_wk (b := wb) w (((W.drewN nq).setCell p0 v0).drew.drew) ((((qs0).set _ _ _).drew _).drew _)
    have P8 := part_cl (b := cb) p (W.drewN nq) (qs1)
    have P9 := part_cl (b := cb) p ((W.drewN nq).drew) ((qs1).drew _)
    have P10 := fun m => part_cl (b := cb) p ((W.drewN nq).drewN m) ((qs1).drewN _ _)
    have P11 := part_cl (b := cb) p ((W.drewN nq).drew.drew) (((qs1).drew _).drew _)
    have P12 := fun p0 v0 => part_cl (b := cb) p ((W.drewN nq).setCell p0 v0) ((qs1).set _ _ _)
    have P13 := fun p0 v0 => part_cl (b := cb) p (((W.drewN nq).setCell p0 v0).drew) (((qs1).set _ _ _).drew _)
    have P14 := fun p0 v0 m => part_cl (b := cb) p (((W.drewN nq).setCell p0 v0).drewN m) (((qs1).set _ _ _).drewN _ _)
    have P15 := fun p0 v0 => part_cl (b := cb) p (((W.drewN nq).setCell p0 v0).drew.drew) ((((qs1).set _ _ _).drew _).drew _)
    go_wp2_with fail
    go_end0
    exact ⟨rfl, (((ZC.start HW.out).drewN _).pl w 5).ghost _ rfl rfl rfl rfl⟩
  · rw [if_neg hs]
    have hs' : (N.dn p != sns N w) = true := by simpa using hs
    have hs2 : (N.dn p == sns N w) = false := by simpa using hs
    generalize sns N w = s at *
    clear hs
    go_enter Try.func99, Try.ntmps99
    go_wp2_with fail
    go_quiet ((go_at_call 116; refine Calls.quiet_of_same (HS _ ?_); (first | exact HW.out | exact ((ZC.start HW.out).alloc _).1 | exact (((ZC.start HW.out).alloc _).alloc _).1 | exact (((ZC.start HW.out).alloc _).drew).1 | exact (((ZC.start HW.out).alloc _).drewN _).1 | exact ((ZC.start HW.out).drew).1 | exact ((ZC.start HW.out).drewN _).1)))
    go_wp2_with fail
    go_returns
    exact ⟨rfl, (ZC.start HW.out).drewN _⟩
end Go.Proofs.Ytfgkmijaimfkjaa
