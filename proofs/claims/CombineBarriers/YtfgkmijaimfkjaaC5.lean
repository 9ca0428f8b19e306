import Derived.Test.YtfgkmijaimfkjaaC4
namespace Go.Proofs.Ytfgkmijaimfkjaa
open Go.ChangeShapes Go.WideShapes Go.ChangeAt Go.RowKit
set_option linter.unusedVariables false
set_option linter.unusedSimpArgs false
variable {base hb wb cb n : Nat} {jv : Value} {N : Nt}

def valE (n : Nat) (N : Nt) (x : Int) : Int := if inN n x = true then (if N.rd x.toNat = 0 then 82 else 0) else 91
def valV (n : Nat) (N : Nt) (x : Int) : Int := if inN n x = true ∧ N.rd x.toNat ≠ 0 then N.dv x.toNat else 0
set_option maxRecDepth 100000 in
theorem nvalue_any (x : Int) (W : World) (h : NW base hb wb cb n jv N W) : Calls Try.prog 59 #[.pointer (some ⟨hb, 0, none⟩), .int .i64 x] W fun e W' => e = .returned (.tuple #[.int .i64 (valV n N x), .int .i64 (valE n N x)]) ∧ W' = W := by
  obtain ⟨c0, c1, c2⟩ := h.cells
  have HK := nknows_any x W h
  have HR := nrounds_any x W h
  by_cases hx : inN n x = true
  · obtain ⟨w, hw, rfl⟩ := inN_get hx
    obtain ⟨k0, k1, k2, k3⟩ := h.cl hw
    have i0 : (0 : Int) ≤ (w : Int) := by omega
    have i1 : (w : Int) < (n : Int) := by omega
    rw [hx] at HK HR
    unfold valE valV
    rw [hx]
    simp only [Int.toNat_natCast, if_true, Bool.true_and, true_and] at HR ⊢
    clear h
    by_cases hp : N.rd w = 0
    · have hp' : ((N.rd w : Int) == 0) = true := by simp [hp]
      rw [if_pos hp, if_neg (by simpa using hp)]
      generalize N.rd w = r at *
      clear hp
      go_enter Try.func59, Try.ntmps59
      go_wp2_with (first | (go_at_call 101; (with_reducible refine HK.mono ?_); rintro e w1 ⟨rfl, h9⟩; subst h9) | (go_at_call 60; (with_reducible refine HR.mono ?_); rintro e w2 ⟨rfl, h9⟩; subst h9))
      go_returns
      exact ⟨rfl, rfl⟩
    · have hp' : ((N.rd w : Int) == 0) = false := by simp [hp]
      rw [if_neg hp, if_pos hp]
      generalize N.rd w = r at *
      clear hp
      go_enter Try.func59, Try.ntmps59
      go_wp2_with (first | (go_at_call 101; (with_reducible refine HK.mono ?_); rintro e w1 ⟨rfl, h9⟩; subst h9) | (go_at_call 60; (with_reducible refine HR.mono ?_); rintro e w2 ⟨rfl, h9⟩; subst h9))
      go_returns
      exact ⟨rfl, rfl⟩
  · rw [Bool.not_eq_true] at hx
    unfold valE valV
    rw [hx] at HK ⊢
    simp only [Bool.false_eq_true, if_false, false_and]
    go_enter Try.func59, Try.ntmps59
    go_wp2_with (go_at_call 101; (with_reducible refine HK.mono ?_); rintro e w1 ⟨rfl, h9⟩; subst h9)
    go_returns
    exact ⟨rfl, rfl⟩
set_option maxRecDepth 100000 in
set_option maxHeartbeats 2000000 in
theorem nrise_any (w : Nat) (hw : w < n) (W : World) (h : NW base hb wb cb n jv N W) : Calls Try.prog 118 #[.pointer (some ⟨hb, 0, none⟩), .int .i64 (w : Int)] W fun e W' => e = .returned (.tuple #[]) ∧ NC W base hb wb cb n jv (riseN N w) W' := by
  obtain ⟨c0, c1, c2⟩ := h.cells
  obtain ⟨l0, l1, l2⟩ := h.lt
  obtain ⟨k0, k1, k2⟩ := h.wk hw
  obtain ⟨g0, g1, g2, g3⟩ := h.cl hw
  obtain ⟨f0, f1⟩ := h.fz
  obtain ⟨n0, n1, n2⟩ := h.ne
  have n3 := n2.symm
  have i0 : (0 : Int) ≤ (w : Int) := by omega
  have i1 : (w : Int) < (n : Int) := by omega
  have HW : Hid (NW base hb wb cb n jv N W) := h
  have HS := nsense_any w hw W.drew ((NC.start h).drew).1
  clear h
  go_enter Try.func118, Try.ntmps118
  go_wp2_with fail
  go_region_held3 (fun w' => w'.cell? ⟨wb, w * 3 + 2, none⟩ = some (.int .i64 (N.hs w))) (go_keep) ((go_at_call 122; (with_reducible refine HS.mono ?_); rintro e w1 ⟨rfl, h9⟩; subst h9))
  all_goals (
    go_wp2
    go_end0
    exact ⟨rfl, (((((NC.start HW.out).up w _).uv w _).pl w 4).hs w 0).drew⟩)
set_option maxRecDepth 100000 in
set_option maxHeartbeats 2000000 in
theorem nhearP_any (w : Nat) (h0w : 0 < w) (hw : w < n) (hn : n ≤ 64) (W : World) (h : NW base hb wb cb n jv N W) : Calls Try.prog 119 #[.pointer (some ⟨hb, 0, none⟩), .int .i64 (w : Int)] W fun e W' => e = .returned (.tuple #[]) ∧ NC W base hb wb cb n jv (hearPN N w) W' := by
  obtain ⟨c0, c1, c2⟩ := h.cells
  obtain ⟨l0, l1, l2⟩ := h.lt
  obtain ⟨k0, k1, k2⟩ := h.wk hw
  obtain ⟨p, hp⟩ : ∃ p, (w - 1) / 2 = p := ⟨_, rfl⟩
  have hpn : p < n := by omega
  obtain ⟨g0, g1, g2, g3⟩ := h.cl hpn
  obtain ⟨f0, f1⟩ := h.fz
  obtain ⟨n0, n1, n2⟩ := h.ne
  have n3 := n2.symm
  have i0 : (0 : Int) ≤ (w : Int) := by omega
  have i1 : (w : Int) < (n : Int) := by omega
  have e1 : IntKind.i64.wrap ((w : Int) - 1) = (w : Int) - 1 := by rw [IntKind.wrap_i64]; omega
  have e2' : ((w : Int) - 1).tdiv 2 = (p : Int) := by rw [Int.tdiv_eq_ediv_of_nonneg (by omega)]; omega
  have e2 : IntKind.i64.wrap (p : Int) = (p : Int) := by rw [IntKind.wrap_i64]; omega
  have j0 : (0 : Int) ≤ (p : Int) := by omega
  have j1 : (p : Int) < (n : Int) := by omega
  have HW : Hid (NW base hb wb cb n jv N W) := h
  have HS := fun W' => nsense_any (base := base) (hb := hb) (wb := wb) (cb := cb) (jv := jv) (N := N) w hw W'
  have HD : ∀ k, NW base hb wb cb n jv N (W.drewN k) := fun k => ((NC.start h).drewN k).1
  unfold hearPN
  rw [hp]
  clear h hp
  by_cases hs : N.dn p = sns N w
  · rw [if_pos hs]
    have hs' : (N.dn p != sns N w) = false := by simp [hs]
    have hs2 : (N.dn p == sns N w) = true := by simp [hs]
    generalize sns N w = s at *
    have HH : Hid (N.dn p = s) := hs
    clear hs
    go_enter Try.func119, Try.ntmps119
    go_wp2_with fail
    go_quiet ((go_at_call 122; refine Calls.quiet_of_same (HS _ ?_); first | exact HW.out | exact HD _))
    go_wp2_with fail
    go_end0
    exact ⟨rfl, (((NC.start HW.out).drewN _).pl w 5).hs w _⟩
  · rw [if_neg hs]
    have hs' : (N.dn p != sns N w) = true := by simpa using hs
    have hs2 : (N.dn p == sns N w) = false := by simpa using hs
    generalize sns N w = s at *
    clear hs
    go_enter Try.func119, Try.ntmps119
    go_wp2_with fail
    go_quiet ((go_at_call 122; refine Calls.quiet_of_same (HS _ ?_); first | exact HW.out | exact HD _))
    go_wp2_with fail
    go_returns
    exact ⟨rfl, (NC.start HW.out).drewN _⟩
set_option maxRecDepth 100000 in
set_option maxHeartbeats 2000000 in
theorem nleave_any (w : Nat) (hw : w < n) (hr : N.rd w < 1000000000000000000) (W : World) (h : NW base hb wb cb n jv N W) : Calls Try.prog 120 #[.pointer (some ⟨hb, 0, none⟩), .int .i64 (w : Int)] W fun e W' => e = .returned (.tuple #[]) ∧ NC W base hb wb cb n jv (leaveN N w) W' := by
  obtain ⟨c0, c1, c2⟩ := h.cells
  obtain ⟨l0, l1, l2⟩ := h.lt
  obtain ⟨k0, k1, k2⟩ := h.wk hw
  obtain ⟨g0, g1, g2, g3⟩ := h.cl hw
  obtain ⟨f0, f1⟩ := h.fz
  obtain ⟨n0, n1, n2⟩ := h.ne
  have n3 := n2.symm
  have i0 : (0 : Int) ≤ (w : Int) := by omega
  have i1 : (w : Int) < (n : Int) := by omega
  have er : IntKind.i64.wrap ((N.rd w : Int) + 1) = ((N.rd w + 1 : Nat) : Int) := by rw [IntKind.wrap_i64]; omega
  have HW : Hid (NW base hb wb cb n jv N W) := h
  have HS := nsense_any w hw W.drew ((NC.start h).drew).1
  clear h
  go_enter Try.func120, Try.ntmps120
  go_wp2_with fail
  go_region_held3 (fun w' => w'.cell? ⟨wb, w * 3 + 2, none⟩ = some (.int .i64 (N.hs w))) (go_keep) ((go_at_call 122; (with_reducible refine HS.mono ?_); rintro e w1 ⟨rfl, h9⟩; subst h9))
  all_goals (
    go_wp2
    go_end0
    exact ⟨rfl, (((((((NC.start HW.out).dn w _).dv w _).uv w 0).pl w 0).rd w (N.rd w + 1)).hs w 0).drew⟩)
end Go.Proofs.Ytfgkmijaimfkjaa
