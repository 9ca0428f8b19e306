import Derived.Test.YtfgkmijaimfkjaaZ6
namespace Go.Proofs.Ytfgkmijaimfkjaa
open Go.ChangeShapes Go.WideShapes Go.ChangeAt Go.RowKit
set_option linter.unusedVariables false
set_option linter.unusedSimpArgs false
variable {base hb wb cb n : Nat} {N : Nt}

set_option maxRecDepth 100000 in
theorem zformer (W : World) : Calls Try.prog 96 #[.agg #[], .agg #[]] W fun e W' => e = .returned (.agg #[]) ∧ W' = ((W.alloc (.cells #[] 33)).alloc (.cells #[] 33)).alloc (.cells #[] 33) := by
  go_enter Try.func96, Try.ntmps96
  go_wp2
  go_returns
  exact ⟨rfl, rfl⟩
theorem sz_of {w c f : Nat} {W : World} (h1 : PS wb 128 W) (h2 : PS cb 125 W) (h3 : W.cell? ⟨hb, 0, none⟩ = some (.func (.func f) #[] #[])) : Hid ((PS wb 128 W ∧ PS cb 125 W) ∧ Sem.run Try.prog (partAt ⟨wb, w * 2, none⟩ 2 16) W = .ok ⟨wb, w * 2 + 2, some (w * 24 + 16)⟩ W ∧ Sem.run Try.prog (partAt ⟨cb, c * 2, none⟩ 2 2) W = .ok ⟨cb, c * 2 + 2, some (c * 3 + 2)⟩ W ∧ W.cell? ⟨hb, 0, none⟩ = some (.func (.func f) #[] #[])) :=
  ⟨⟨h1, h2⟩, part_wk w _ h1, part_cl c _ h2, h3⟩
theorem sz_keep {w c f : Nat} {W W' : World} (h : (PS wb 128 W ∧ PS cb 125 W) ∧ Sem.run Try.prog (partAt ⟨wb, w * 2, none⟩ 2 16) W = .ok ⟨wb, w * 2 + 2, some (w * 24 + 16)⟩ W ∧ Sem.run Try.prog (partAt ⟨cb, c * 2, none⟩ 2 2) W = .ok ⟨cb, c * 2 + 2, some (c * 3 + 2)⟩ W ∧ W.cell? ⟨hb, 0, none⟩ = some (.func (.func f) #[] #[])) (hb' : Below W.heap.size W W') (hl : hb < W.heap.size) : (PS wb 128 W' ∧ PS cb 125 W') ∧ Sem.run Try.prog (partAt ⟨wb, w * 2, none⟩ 2 16) W' = .ok ⟨wb, w * 2 + 2, some (w * 24 + 16)⟩ W' ∧ Sem.run Try.prog (partAt ⟨cb, c * 2, none⟩ 2 2) W' = .ok ⟨cb, c * 2 + 2, some (c * 3 + 2)⟩ W' ∧ W'.cell? ⟨hb, 0, none⟩ = some (.func (.func f) #[] #[]) := by
  obtain ⟨⟨h1, h2⟩, _, _, h5⟩ := h
  have g1 := h1.later hb'
  have g2 := h2.later hb'
  refine ⟨⟨g1, g2⟩, part_wk w _ g1, part_cl c _ g2, ?_⟩
  unfold World.cell? at h5 ⊢
  rw [hb'.block _ hl]
  exact h5
set_option maxRecDepth 100000 in
set_option maxHeartbeats 4000000 in
theorem zhearC_any (J : Int → Int → Int) (w c : Nat) (hw : w < n) (hc : c < n) (hpl : N.pl w < 100) (W : World) (h : NZ base hb wb cb n N W) : Calls Try.prog 97 #[.pointer (some ⟨hb, 0, none⟩), .int .i64 (w : Int), .int .i64 (c : Int)] W fun e W' => e = .returned (.tuple #[]) ∧ ZC W base hb wb cb n (hearN J N w c) W' := by
  obtain ⟨c0, c1, c2⟩ := h.cells
  obtain ⟨l0, l1, l2⟩ := h.lt
  obtain ⟨ps0, ps1⟩ := h.ps
  have HW : Hid (NZ base hb wb cb n N W) := h
  obtain ⟨k0, k1⟩ := h.wk hw
  obtain ⟨f0, f1⟩ := h.fz
  obtain ⟨n0, n1, n2⟩ := h.ne
  have n3 := n2.symm
  have i0 : (0 : Int) ≤ (w : Int) := by omega
  have i1 : (w : Int) < (n : Int) := by omega
  have HS := fun W' h' => zsense_any (base := base) (hb := hb) (wb := wb) (cb := cb) (n := n) (N := N) w hw W' h'
  obtain ⟨g0, g1⟩ := h.cl hc
  have j0 : (0 : Int) ≤ (c : Int) := by omega
  have j1 : (c : Int) < (n : Int) := by omega
  have er : IntKind.i64.wrap ((N.pl w : Int) + 1) = ((N.pl w + 1 : Nat) : Int) := by rw [IntKind.wrap_i64]; omega
  unfold hearN
  clear h
  by_cases hs : N.up c = sns N w
  · rw [if_pos hs]
    have hs' : (N.up c != sns N w) = false := by simp [hs]
    have hs2 : (N.up c == sns N w) = true := by simp [hs]
    generalize sns N w = s at *
    have HH : Hid (N.up c = s) := hs
    clear hs
    go_enter Try.func97, Try.ntmps97
    go_wp2_with fail
    go_quiet ((go_at_call 116; refine Calls.quiet_of_same (HS _ ?_); (first | exact HW.out | exact ((ZC.start HW.out).alloc _).1 | exact (((ZC.start HW.out).alloc _).alloc _).1 | exact (((ZC.start HW.out).alloc _).drew).1 | exact (((ZC.start HW.out).alloc _).drewN _).1 | exact ((ZC.start HW.out).drew).1 | exact ((ZC.start HW.out).drewN _).1)))
    have qs0 := ps0.drewN W nq
    have qs1 := ps1.drewN W nq
    have rs0 := ps0.drewN W (nq + 1)
    have rs1 := ps1.drewN W (nq + 1)
    go_wp2_with fail
    have SZ0 : Hid _ := sz_of (w := w) (c := c) ps0 ps1 c0
    go_region_held3 (fun w' => (PS wb 128 w' ∧ PS cb 125 w') ∧ Sem.run Try.prog (partAt ⟨wb, w * 2, none⟩ 2 16) w' = .ok ⟨wb, w * 2 + 2, some (w * 24 + 16)⟩ w' ∧ Sem.run Try.prog (partAt ⟨cb, c * 2, none⟩ 2 2) w' = .ok ⟨cb, c * 2 + 2, some (c * 3 + 2)⟩ w' ∧ w'.cell? ⟨hb, 0, none⟩ = some (.func (.func 96) #[] #[])) (first | exact sz_keep SZ0.out (by first | exact Below.refl _ _ | exact drewB _ | exact below_drewNq _ _ _ | exact (below_drewNq _ _ _).trans (drewB _) | (repeat (first | exact Below.refl _ _ | exact below_drewNq _ _ _ | apply Below.drew | refine Below.alloc ?_ (by simp <;> omega) _))) l0 | exact sz_keep (by assumption) (by first | exact Below.refl _ _ | exact drewB _ | exact below_drewNq _ _ _ | exact (below_drewNq _ _ _).trans (drewB _) | (repeat (first | exact Below.refl _ _ | exact below_drewNq _ _ _ | apply Below.drew | refine Below.alloc ?_ (by simp <;> omega) _))) (by simp <;> omega)) ((go_at_call 96; (with_reducible refine (zformer _).mono ?_); rintro e w1 ⟨rfl, rfl⟩))
    all_goals (
      have KZ := fun o1 o2 o3 => (((((ZC.start HW.out).drewN (nq + 1)).alloc o1).alloc o2).alloc o3).1
      have KA := fun o1 o2 o3 => (NZ.wk (KZ o1 o2 o3) hw).1
      have KF := fun o1 o2 o3 => (NZ.fz (KZ o1 o2 o3)).1
      clear KZ
      go_wp2
      go_end0
      exact ⟨rfl, ((((((ZC.start HW.out).drewN (nq + 1)).alloc _).alloc _).alloc _).pl w (N.pl w + 1)).ghost _ rfl rfl rfl rfl⟩)
  · rw [if_neg hs]
    have hs' : (N.up c != sns N w) = true := by simpa using hs
    have hs2 : (N.up c == sns N w) = false := by simpa using hs
    generalize sns N w = s at *
    clear hs
    go_enter Try.func97, Try.ntmps97
    go_wp2_with fail
    go_quiet ((go_at_call 116; refine Calls.quiet_of_same (HS _ ?_); (first | exact HW.out | exact ((ZC.start HW.out).alloc _).1 | exact (((ZC.start HW.out).alloc _).alloc _).1 | exact (((ZC.start HW.out).alloc _).drew).1 | exact (((ZC.start HW.out).alloc _).drewN _).1 | exact ((ZC.start HW.out).drew).1 | exact ((ZC.start HW.out).drewN _).1)))
    go_wp2_with fail
    go_returns
    exact ⟨rfl, (ZC.start HW.out).drewN _⟩
end Go.Proofs.Ytfgkmijaimfkjaa
