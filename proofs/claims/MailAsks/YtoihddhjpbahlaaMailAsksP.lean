import Derived.Test.YtoihddhjpbahlaaMF3
import Derived.BigQuiet
import Derived.Deep.RegionLaw
import Derived.Deep.RegionHeld3
import Derived.Deep.Cut
import Derived.Deep.DeepCutAuto
import Derived.Deep.CutBlock
import Derived.Deep.CutRange
import Derived.Deep.AppendLies
import Derived.Handy
import Derived.Lib.RabinKarpLaws
import Derived.Test.YtoihddhjpbahlaaMCV
import Derived.Test.YtoihddhjpbahlaaRows
import Derived.ChangeOld
namespace Go.Proofs.Ytoihddhjpbahlaa
open Go.ChangeShapes Go.WideShapes Go.ChangeAt Go.RowKit
set_option linter.unusedVariables false
set_option linter.unusedSimpArgs false

set_option maxRecDepth 100000 in
set_option maxHeartbeats 8000000 in
theorem asks_law (w0 w1 r0 r1 : Int) (p : Option Addr) (N c : Nat) (X : Nat → OpV) (W : World) (h : OpIn W p N X) (hN : N * 40 ≤ 140737488351232) :
    Calls Try.prog 11 #[.agg #[.int .i64 w0, .int .i64 w1, .int .i64 r0, .int .i64 r1, .slice p N c]] W fun e W' => e = .returned (.bool true) ∧ Below W.heap.size W W' := by
  obtain ⟨W1, hW1⟩ : ∃ W1, W.alloc (.cells #[.int .i64 w0, .int .i64 w1, .int .i64 r0, .int .i64 r1, .slice p N c] 25) = W1 := ⟨_, rfl⟩
  have hb1 : Below W.heap.size W W1 := by rw [← hW1]; exact (Below.refl _ W).alloc (Nat.le_refl _) _
  have hs1 : ScAt W1 W.heap.size w0 w1 r0 r1 p N c := by rw [← hW1]; exact World.alloc_heap_new W _
  have hp := fun w (hb : Below W1.heap.size W1 w) => plays_law 6 7 (by omega) w0 w1 r0 r1 p N c X w ((h.later hb1).later hb) hN
  have HP : Hid (∀ w, Below W1.heap.size W1 w → Calls Try.prog 28 #[.agg #[.int .i64 w0, .int .i64 w1, .int .i64 r0, .int .i64 r1, .slice p N c], .int .i64 6, .int .i64 7] w fun e W' => e = .returned (.bool true) ∧ Below W.heap.size W W') := fun w hb => (hp w hb).mono fun e w' ⟨h1, h2⟩ => ⟨h1, hb1.trans ((hb.trans (h2.mono hb.size)).mono hb1.size)⟩
  have HW1 := mhid hW1
  obtain ⟨SB, hSB⟩ : ∃ SB, W.heap.size = SB := ⟨_, rfl⟩
  rw [hSB] at hs1
  obtain ⟨c0, c1, c2, c3, c4⟩ := hs1.cells
  clear h hs1 hb1 hW1 hp
  go_enter Try.func11, Try.ntmps11
  go_upto_region 1 with fail
  rw [HW1.out]
  go_wp2_with (go_at_call 28; (with_reducible refine (HP.out _ ?_).mono ?_); (first | exact Below.refl _ _ | exact drewB _ | exact below_drewNq _ _ _); rintro e9 w9 ⟨rfl, b9⟩)
  go_ret
  exact ⟨rfl, b9⟩


theorem mailAsks_own : ownKnob Try.prog.godebug = none := by kernel_rfl
theorem mailAsks_laidOut : laidOutB Try.prog = true := by kernel_rfl

set_option maxRecDepth 100000 in
theorem mailAsks_lifted (os : Os) (started : os.Started) (H : Type) (enc : TypeId × Value → H) :
    ReturnsInHanded {} Try.checked os 11 .any (Rows.mailAsksSpec.pre6 enc Try.prog Try.f11 Rows.mailAsksRow.domain false) (Rows.mailAsksSpec.post enc Try.prog Try.f11 false true false false) := by
  refine returnsInHanded_of_change_sized (C := Try.checked) mailAsks_own started (by kernel_rfl) Try.func11
    (ChangeSpec.witness6 (enc := enc) (C := Try.checked) false ⟨#[], #[.agg #[.int .i64 0, .int .i64 0, .int .i64 0, .int .i64 0, .slice none 0 0]], []⟩ 8 (by kernel_rfl) (by kernel_rfl) (by kernel_rfl) (by kernel_rfl)) ?_
  intro W base args ds gs before hval0 hW hcnd hsz0 hholds
  have hsz : (DataW.weightsEach Try.prog (Try.f11.params.toList ++ Rows.mailAsksSpec.plain.varTypes Try.prog) (ds ++ gs)).all (· ≤ reachBytes) = true := hsz0
  have hval : ∀ (j : Nat) t v, Try.f11.params[j]? = some t → args[j]? = some v → Value.okWide Try.prog W .any base t v := hval0
  have hW' := hW
  obtain ⟨p, q, hA0, hV, rfl, hfz, hnd⟩ := hW
  have hA : DataW.TrodAll enc Try.prog W 0 (fun _ => true) true Try.f11.params.toList args.toList ds p := hA0
  rw [Try.params11] at hA hval hsz
  obtain ⟨v0, vs0, d0, ds0, p0, q0, hargs, rfl, rfl, h0, r0⟩ := trodAll_cons hA
  obtain ⟨rfl, rfl, rfl⟩ := trodAll_nil r0
  obtain rfl : args = #[v0] := by cases args; simp_all
  obtain ⟨rfl, rfl⟩ := trodVars_none hV
  have k0 := h0
  have lt0 : ∀ x ∈ p0, x.block < W.heap.size := by obtain ⟨m, hm⟩ := k0; exact DataW.trod_lt m _ _ _ hm
  obtain ⟨w0, w1, r0, r1, kp, kn, kc, kX, rfl, hk, hkn⟩ := view_script (hval 0 25 v0 rfl rfl) h0 (fun y hy => by
    have := List.all_eq_true.1 hsz y (DataW.weights_mem_each (j := 0) (t := 25) rfl rfl y hy)
    simpa using this)
  clear hA0 hval0
  refine (asks_law w0 w1 r0 r1 kp kn kc kX W hk hkn).mono fun e W' ⟨he, bel⟩ => ?_
  subst he
  exact ⟨_, rfl, _, _, _, [], _, [], hW', trodAll_mk1 (shut_bool Try.underlying4 _), (trodAll_cons_mk (Below.trod mailAsks_laidOut (by kernel_rfl) (of_decide_eq_true (by kernel_rfl)) k0 bel lt0) trodAll_mk0), rfl, bel.frame _, fun h => by cases h⟩

theorem mailAsks_holds : Rows.MailAsksSaid :=
  OpenClaim.holds_of_wide 11 Try.f11 rfl rfl rfl rfl rfl rfl rfl ⟨rfl, rfl, rfl, rfl, rfl⟩ rfl rfl rfl rfl rfl (by kernel_rfl) Try.func11 (by kernel_rfl)
    (of_decide_eq_true (by kernel_rfl)) (by unfold Func.isWrapper; first | (rw [if_pos (by decide +kernel)]; kernel_rfl) | (rw [if_neg (by decide +kernel)]; exact ⟨rfl, rfl⟩))
    (fun os started H enc _ => mailAsks_lifted os started H enc)
#print axioms mailAsks_holds
end Go.Proofs.Ytoihddhjpbahlaa
