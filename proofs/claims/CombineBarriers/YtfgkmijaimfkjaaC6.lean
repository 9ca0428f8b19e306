import Derived.Test.YtfgkmijaimfkjaaC5
namespace Go.Proofs.Ytfgkmijaimfkjaa
open Go.ChangeShapes Go.WideShapes Go.ChangeAt Go.RowKit
set_option linter.unusedVariables false
set_option linter.unusedSimpArgs false
variable {base hb wb cb n : Nat} {jv : Value} {N : Nt}

/-- what a net's join does: K lasts, and no block but SJ's changes -/
structure Jn (f : Nat) (caps : Array Value) (J : Int → Int → Int) (K : World → Prop) (SJ : Nat → Prop) (hb wb cb : Nat) : Prop where
  en : ∀ args W, Sem.run Try.prog (callFunc f args) W = .ok (.enter f args) W
  ca : ∀ a b W, K W → Calls Try.prog f (#[.int .i64 a, .int .i64 b] ++ caps) W fun e W' => e = .returned (.int .i64 (J a b)) ∧ K W' ∧ Ch SJ W W'
  kp : ∀ W W', K W → Ch (S2 wb cb) W W' → K W'
  nb : ¬ SJ hb ∧ ¬ SJ wb ∧ ¬ SJ cb
def S3 (wb cb : Nat) (SJ : Nat → Prop) : Nat → Prop := fun k => S2 wb cb k ∨ SJ k
set_option maxRecDepth 100000 in
set_option maxHeartbeats 2000000 in
theorem nhearC_any (f : Nat) (caps : Array Value) (J : Int → Int → Int) (K : World → Prop) (SJ : Nat → Prop) (hJ : Jn f caps J K SJ hb wb cb) (w c : Nat) (hw : w < n) (hc : c < n) (hpl : N.pl w < 100) (W : World) (h : NW base hb wb cb n (.func (.func f) #[] caps) N W) (hk : K W) : Calls Try.prog 117 #[.pointer (some ⟨hb, 0, none⟩), .int .i64 (w : Int), .int .i64 (c : Int)] W fun e W' => e = .returned (.tuple #[]) ∧ NW base hb wb cb n (.func (.func f) #[] caps) (hearN J N w c) W' ∧ K W' ∧ Ch (S3 wb cb SJ) W W' := by
  obtain ⟨c0, c1, c2⟩ := h.cells
  obtain ⟨l0, l1, l2⟩ := h.lt
  obtain ⟨k0, k1, k2⟩ := h.wk hw
  obtain ⟨g0, g1, g2, g3⟩ := h.cl hc
  obtain ⟨f0, f1⟩ := h.fz
  obtain ⟨n0, n1, n2⟩ := h.ne
  have n3 := n2.symm
  have i0 : (0 : Int) ≤ (w : Int) := by omega
  have i1 : (w : Int) < (n : Int) := by omega
  have j0 : (0 : Int) ≤ (c : Int) := by omega
  have j1 : (c : Int) < (n : Int) := by omega
  have er : IntKind.i64.wrap ((N.pl w : Int) + 1) = ((N.pl w + 1 : Nat) : Int) := by rw [IntKind.wrap_i64]; omega
  have HW : Hid (NW base hb wb cb n (.func (.func f) #[] caps) N W) := h
  have HS := fun W' => nsense_any (base := base) (hb := hb) (wb := wb) (cb := cb) (jv := .func (.func f) #[] caps) (N := N) w hw W'
  have HD : ∀ k, NW base hb wb cb n (.func (.func f) #[] caps) N (W.drewN k) := fun k => ((NC.start h).drewN k).1
  have HK : Hid (K W) := hk
  unfold hearN
  clear h hk
  by_cases hs : N.up c = sns N w
  · rw [if_pos hs]
    have hs' : (N.up c != sns N w) = false := by simp [hs]
    have hs2 : (N.up c == sns N w) = true := by simp [hs]
    generalize sns N w = s at *
    clear hs
    have HF := hJ.en
    have HC : ∀ W', Ch (S2 wb cb) W W' → Calls Try.prog f (#[.int .i64 (N.hs w), .int .i64 (N.uv c)] ++ caps) W' fun e W'' => e = .returned (.int .i64 (J (N.hs w) (N.uv c))) ∧ K W'' ∧ Ch SJ W' W'' := fun W' hW' => hJ.ca _ _ _ (hJ.kp _ _ HK.out hW')
    go_enter Try.func117, Try.ntmps117
    go_wp2_with fail
    go_quiet ((go_at_call 122; refine Calls.quiet_of_same (HS _ ?_); first | exact HW.out | exact HD _))
    go_wp2_with fail
    have hb1 : Below W.heap.size W (W.drewN (nq + 1)) := below_drewNq _ _ _
    have hN1 : NW base hb wb cb n (.func (.func f) #[] caps) N (W.drewN (nq + 1)) := HW.out.later hb1
    have HN1 : Hid (NW base hb wb cb n (.func (.func f) #[] caps) N (W.drewN (nq + 1))) := hN1
    have HC1 := HC _ (Ch.below hb1)
    have HCH : Hid (Ch (S2 wb cb) W (W.drewN (nq + 1))) := Ch.below hb1
    clear hb1 hN1 HC HS HD
    go_region_with (((with_reducible refine HC1.mono ?_); rintro e w1 ⟨rfl, hk1, hc1⟩; have hN2 := HN1.out.keep hc1 hJ.nb.1 hJ.nb.2.1 hJ.nb.2.2; obtain ⟨b0, b1, b2⟩ := hN2.cells; obtain ⟨b3, b4, b5⟩ := hN2.wk hw; obtain ⟨b6, b7, b8, b9⟩ := hN2.cl hc; obtain ⟨f2, f3⟩ := hN2.fz; obtain ⟨m0, m1, m2⟩ := hN2.lt; have HN2 : Hid (NW base hb wb cb n (.func (.func f) #[] caps) N w1) := hN2; have HK1 : Hid (K w1) := hk1; have HC2 : Hid (Ch SJ (W.drewN (nq + 1)) w1) := hc1; clear hN2 hk1 hc1))
    all_goals (
      go_wp2
      go_end0
      have hz := ((NC.start HN2.out).hs w (J (N.hs w) (N.uv c))).pl w (N.pl w + 1)
      exact ⟨rfl, hz.1, hJ.kp _ _ HK1.out hz.2, ((HCH.out.mono fun k e => .inl e).trans (HC2.out.mono fun k e => .inr e)).trans (hz.2.mono fun k e => .inl e)⟩)
  · rw [if_neg hs]
    have hs' : (N.up c != sns N w) = true := by simpa using hs
    have hs2 : (N.up c == sns N w) = false := by simpa using hs
    generalize sns N w = s at *
    clear hs
    go_enter Try.func117, Try.ntmps117
    go_wp2_with fail
    go_quiet ((go_at_call 122; refine Calls.quiet_of_same (HS _ ?_); first | exact HW.out | exact HD _))
    go_wp2_with fail
    go_returns
    have hb1 : Below W.heap.size W (W.drewN nq) := below_drewNq _ _ _
    exact ⟨rfl, HW.out.later hb1, hJ.kp _ _ HK.out (Ch.below hb1), Ch.below hb1⟩
/-- the join's own effect, kept -/
def NK (W0 : World) (base hb wb cb n : Nat) (jv : Value) (K : World → Prop) (SJ : Nat → Prop) (N : Nt) (W : World) : Prop := NW base hb wb cb n jv N W ∧ K W ∧ Ch (S3 wb cb SJ) W0 W
theorem NK.of {W0 W : World} {f : Nat} {caps : Array Value} {J : Int → Int → Int} {K : World → Prop} {SJ : Nat → Prop} (hJ : Jn f caps J K SJ hb wb cb) (hk : K W0) (h : NC W0 base hb wb cb n jv N W) : NK W0 base hb wb cb n jv K SJ N W := ⟨h.1, hJ.kp _ _ hk h.2, h.2.mono fun k e => .inl e⟩
end Go.Proofs.Ytfgkmijaimfkjaa
