import Derived.Test.YtkgifanlodlilaaGH11
import Derived.Deep.RegionLaw
import Derived.Deep.RegionHeld3
import Derived.Deep.Cut
import Derived.Deep.DeepCutAuto
import Derived.Deep.CutBlock
import Derived.Deep.CutRange
import Derived.BigQuiet
import Derived.BigRegion
import Derived.Handy
namespace Go.Proofs.Ytkgifanlodlilaa
open Go.ChangeShapes Go.WideShapes Go.ChangeAt Go.RowKit
set_option linter.unusedVariables false
set_option linter.unusedSimpArgs false


theorem OI.put {W : World} {B g n c : Nat} {f : Nat → Int} (h : OI W B (.slice (some ⟨g, 0, none⟩) n c) n f) (i : Nat) (x : Int) : OI (W.setCell ⟨g, i, none⟩ (.int .i64 x)) B (.slice (some ⟨g, 0, none⟩) n c) n (setF f i x) := IRow.put h i x
theorem OI.fz {W : World} {B g n c : Nat} {f : Nat → Int} (h : OI W B (.slice (some ⟨g, 0, none⟩) n c) n f) (k : Nat) : W.frozen? ⟨g, k, none⟩ = false := IRow.fz h k
set_option maxRecDepth 100000 in
set_option maxHeartbeats 4000000 in
theorem rweights_any (p : Pl) (v : PlV) (hS : GS p) (hq : p.nq ≤ 64) (w : World) (h : PlAt w p v) : Calls Try.prog 29 #[.agg #[.int .i64 p.ki, .slice v.pp p.np v.pc, .slice v.tp p.nq v.tc, .slice v.sp p.ns v.sc, .int .u64 p.sd, .int .u64 p.lk, .int .u64 p.en, .int .i64 p.bu, .int .i64 p.fu]] w fun e w' => ∃ x, e = .returned x ∧ OI w' w.heap.size x p.nq (wtF p.S p.ns) ∧ Below w.heap.size w w' := by
  obtain ⟨wb, hwb⟩ : ∃ wb, w.alloc (.cells #[.int .i64 p.ki, .slice v.pp p.np v.pc, .slice v.tp p.nq v.tc, .slice v.sp p.ns v.sc, .int .u64 p.sd, .int .u64 p.lk, .int .u64 p.en, .int .i64 p.bu, .int .i64 p.fu] 27) = wb := ⟨_, rfl⟩
  obtain ⟨hb0, hbox, hsz⟩ := boxed _ _ _ hwb
  have HW : Hid (w.alloc (.cells #[.int .i64 p.ki, .slice v.pp p.np v.pc, .slice v.tp p.nq v.tc, .slice v.sp p.ns v.sc, .int .u64 p.sd, .int .u64 p.lk, .int .u64 p.en, .int .i64 p.bu, .int .i64 p.fu] 27) = wb) := hwb
  have HB : Hid (wb.heap[w.heap.size]? = some (.cells #[.int .i64 p.ki, .slice v.pp p.np v.pc, .slice v.tp p.nq v.tc, .slice v.sp p.ns v.sc, .int .u64 p.sd, .int .u64 p.lk, .int .u64 p.en, .int .i64 p.bu, .int .i64 p.fu] 27 (0, 0)) ∧ Below w.heap.size w wb ∧ wb.heap.size = w.heap.size + 1) := ⟨hbox, hb0, hsz⟩
  have KB : Hid (∀ W, Below wb.heap.size wb W → W.cell? ⟨w.heap.size, 2, none⟩ = some (.slice v.tp p.nq v.tc) ∧ W.cell? ⟨w.heap.size, 3, none⟩ = some (.slice v.sp p.ns v.sc)) := fun W hW => by
    obtain ⟨⟨-, -, c2, c3⟩, -⟩ := cells9 ((hW.block _ (by omega)).trans hbox)
    exact ⟨c2, c3⟩
  have HS : Hid (StAt wb v.sp p.ns p.S) := (h.below hb0).st
  have HG : Hid (GS p) := hS
  have hns : p.ns ≤ 256 := hS.1
  clear h hwb hb0 hbox hsz hS
  go_enter Try.func29, Try.ntmps29
  go_wp2_with fail
  rw [HW.out]
  go_loopw [3, 4] (fun x y wr => ∃ (i : Nat), y = .int .i64 (i : Int) ∧ i ≤ p.nq ∧ OI wr wb.heap.size x i (fun _ => 1) ∧ Below wb.heap.size wb wr) (fun _ y _ => p.nq - (intOf y).toNat)
  case atStart => exact ⟨0, rfl, Nat.zero_le _, OI.nil _ _ _, Below.refl _ _⟩
  case round =>
  obtain ⟨i, rfl, hi, ho, hbr⟩ := hrel
  obtain ⟨c2, c3⟩ := KB.out wr hbr
  by_cases hlt : i < p.nq
  case pos =>
    have dlt : decide ((i : Int) < (p.nq : Int)) = true := by simp; omega
    have hm := gmeas hlt
    have ei : IntKind.i64.wrap ((i : Int) + 1) = (i : Int) + 1 := by rw [IntKind.wrap_i64]; omega
    obtain ⟨v', w2, hr2, ho2, hb2, -, -⟩ := app_own ho hbr.size (by omega) 1
    have H2 : Hid (OI w2 wb.heap.size v' (i + 1) (fun _ => 1) ∧ Below wb.heap.size wb w2) := ⟨Own.congr ho2 fun j hj => by unfold snc; split <;> rfl, hbr.trans hb2⟩
    have HR2 := hid6 hr2
    clear ho hbr ho2 hb2 hr2
    go_wp2_with (at_builtin; refine wp_app rfl _ _ rfl rfl rfl rfl HR2.out ?_)
    exact ⟨⟨i + 1, rfl, hlt, H2.out.1, H2.out.2⟩, hm⟩
  case neg =>
  have dlt : decide ((i : Int) < (p.nq : Int)) = false := by simp; omega
  obtain rfl : i = p.nq := by omega
  have H2 : Hid (OI wr wb.heap.size u3 p.nq (wtF p.S 0) ∧ Below wb.heap.size wb wr) := ⟨ho, hbr⟩
  clear ho hbr
  go_wp2_with fail
  clear c2 c3
  obtain ⟨wq, hwq⟩ : ∃ wq, wq = wr := ⟨_, rfl⟩
  have hwq2 := hwq.symm
  subst hwq2
  clear hwq
  go_loopw [5] (fun y wr => ∃ (k : Nat), y = .int .i64 (k : Int) ∧ k ≤ p.ns ∧ OI wr wb.heap.size u3 p.nq (wtF p.S k) ∧ Below wb.heap.size wb wr) (fun y _ => p.ns - (intOf y).toNat)
  case atStart => exact ⟨0, rfl, Nat.zero_le _, H2.out.1, H2.out.2⟩
  case round =>
  obtain ⟨k, rfl, hk, ho, hbr⟩ := hrel
  obtain ⟨c2, c3⟩ := KB.out wr hbr
  clear H2
  by_cases hlt2 : k < p.ns
  case pos =>
    have dlt2 : decide ((k : Int) < (p.ns : Int)) = true := by simp; omega
    have hm := gmeas hlt2
    have ei : IntKind.i64.wrap ((k : Int) + 1) = (k : Int) + 1 := by rw [IntKind.wrap_i64]; omega
    have i0 : (0 : Int) ≤ (k : Int) := by omega
    have i1 : (k : Int) < (p.ns : Int) := by omega
    obtain ⟨⟨q1, q2⟩, -⟩ := HG.out.2 k hlt2
    obtain ⟨dn, hdn⟩ := Int.eq_ofNat_of_zero_le q1
    have hdq : dn < p.nq := by omega
    obtain hz | ⟨gs, os, hp, hl, hc⟩ := HS.out.below hbr
    · omega
    obtain ⟨x0, x1, x2, x3⟩ := hc k hlt2
    rw [hdn] at x1
    have j0 : (0 : Int) ≤ (dn : Int) := by omega
    have j1 : (dn : Int) < (p.nq : Int) := by omega
    rcases ho.form with ⟨_, hz⟩ | ⟨g, cg, hu3, hg1, hg2⟩
    · omega
    rw [hu3] at ho
    have y0 := ho.cell hdq
    have fz := ho.fz
    have hw9 := wtF_pos p.S k dn
    obtain ⟨wt, hwt⟩ : ∃ wt, wtF p.S k dn = wt := ⟨_, rfl⟩
    rw [hwt] at y0 hw9
    have e9 : IntKind.i64.wrap (wt + 1) = wt + 1 := by rw [IntKind.wrap_i64]; omega
    have hput := ho.put dn (wt + 1)
    rw [← hwt, wtF_next hdn] at hput
    rw [hwt] at hput
    have HP : Hid (OI (wr.setCell ⟨g, dn, none⟩ (.int .i64 (wt + 1))) wb.heap.size (.slice (some ⟨g, 0, none⟩) p.nq cg) p.nq (wtF p.S (k + 1)) ∧ Below wb.heap.size wb (wr.setCell ⟨g, dn, none⟩ (.int .i64 (wt + 1))) ∧ u3 = .slice (some ⟨g, 0, none⟩) p.nq cg) := ⟨hput, hbr.setCell hg1 _, hu3⟩
    rw [hp] at c3
    rw [hu3]
    clear ho hbr hc hl hp hput hwt hdn hw9 q1 q2 x0 x2 x3 c2 hg1 hg2
    clear hu3
    go_upto_region 9 with fail
    go_region
    all_goals (
      go_wp2_with fail
      have hz := HP.out
      exact ⟨⟨k + 1, rfl, hlt2, hz.1.later (drewG _), hz.2.1.trans ((drewG _).mono hz.2.1.size)⟩, hm⟩)
  case neg =>
  have dlt2 : decide ((k : Int) < (p.ns : Int)) = false := by simp; omega
  obtain rfl : k = p.ns := by omega
  have H3 : Hid (OI wr wb.heap.size u3 p.nq (wtF p.S p.ns) ∧ Below wb.heap.size wb wr) := ⟨ho, hbr⟩
  clear ho hbr
  go_wp2_with fail
  go_ret
  exact ⟨u3, rfl, H3.out.1.lower HB.out.2.1.size, HB.out.2.1.trans (H3.out.2.mono HB.out.2.1.size)⟩
end Go.Proofs.Ytkgifanlodlilaa
