import Derived.Test.YtkfjcbnhohipgaaMR2
import Derived.ArgAppend
import Derived.BigQuiet
import Derived.Deep.RegionLaw
import Derived.Deep.RegionHeld3
import Derived.Deep.Cut
import Derived.Deep.DeepCutAuto
import Derived.Deep.CutBlock
import Derived.Deep.CutRange
import Derived.Deep.AppendLies
import Derived.Handy
import Derived.Lib.RabinKarpLaws
namespace Go.Proofs.Ytkfjcbnhohipgaa
open Go.ChangeShapes Go.WideShapes Go.ChangeAt Go.RowKit
set_option linter.unusedVariables false
set_option linter.unusedSimpArgs false



def FitP (wk rn : Int) (N pn : Nat) (X : Nat → Nt) : Prop := ((1 ≤ wk ∧ wk ≤ 8) ∧ (1 ≤ rn ∧ rn ≤ 6) ∧ (N ≤ 60 ∧ pn ≤ 500)) ∧ ∀ t, t < N → (0 ≤ (X t).f ∧ (X t).f < wk) ∧ (0 ≤ (X t).t ∧ (X t).t < wk)
set_option maxRecDepth 100000 in
set_option maxHeartbeats 4000000 in
theorem fits_bad (wk rn : Int) (q : Option Addr) (N cq : Nat) (pq : Option Addr) (pn pc : Nat) (h : ¬ ((1 ≤ wk ∧ wk ≤ 8) ∧ (1 ≤ rn ∧ rn ≤ 6) ∧ (N ≤ 60 ∧ pn ≤ 500))) (W : World) : Calls Try.prog 21 #[.agg #[.int .i64 wk, .int .i64 rn, .slice q N cq, .slice pq pn pc]] W fun e W' => e = .returned (.bool false) ∧ Below W.heap.size W W' := by
  have hc : decide (wk < 1) = true ∨ (decide (wk < 1) = false ∧ decide (8 < wk) = true) ∨ ((decide (wk < 1) = false ∧ decide (8 < wk) = false) ∧ decide (rn < 1) = true) ∨ ((decide (wk < 1) = false ∧ decide (8 < wk) = false ∧ decide (rn < 1) = false) ∧ decide (6 < rn) = true) ∨ ((decide (wk < 1) = false ∧ decide (8 < wk) = false ∧ decide (rn < 1) = false ∧ decide (6 < rn) = false) ∧ decide (60 < (N : Int)) = true ∧ decide (60 < N) = true) ∨ ((decide (wk < 1) = false ∧ decide (8 < wk) = false ∧ decide (rn < 1) = false ∧ decide (6 < rn) = false ∧ decide (60 < (N : Int)) = false ∧ decide (60 < N) = false) ∧ decide (500 < (pn : Int)) = true ∧ decide (500 < pn) = true) := by
    simp only [decide_eq_true_eq, decide_eq_false_iff_not]
    omega
  obtain ⟨SB, hSB⟩ : ∃ SB, W.heap.size = SB := ⟨_, rfl⟩
  obtain ⟨W1, hW1⟩ : ∃ W1, W.alloc (.cells #[.int .i64 wk, .int .i64 rn, .slice q N cq, .slice pq pn pc] 47) = W1 := ⟨_, rfl⟩
  have hb1 : Below SB W W1 := by rw [← hW1, ← hSB]; exact (Below.refl _ W).alloc (Nat.le_refl _) _
  have hc1 : CrAt W1 SB wk rn q N cq pq pn pc := by rw [← hW1, ← hSB]; exact World.alloc_heap_new W _
  obtain ⟨c0, c1, c2, c3⟩ := hc1.cells
  have H1 := mhid hb1
  have HW1 := mhid hW1
  rw [hSB]
  clear h hb1 hc1 hW1
  rcases hc with d1 | ⟨d1, d2⟩ | ⟨⟨d1, d2⟩, d3⟩ | ⟨⟨d1, d2, d3⟩, d4⟩ | ⟨⟨d1, d2, d3, d4⟩, d5, d6⟩ | ⟨⟨d1, d2, d3, d4, d5, d6⟩, d7, d8⟩
  all_goals (
    go_enter Try.func21, Try.ntmps21
    go_upto_region 1 with fail
    rw [HW1.out]
    clear hSB
    go_wp2_with fail
    go_ret
    exact ⟨rfl, H1.out⟩)
set_option maxRecDepth 100000 in
set_option maxHeartbeats 8000000 in
theorem fits_good (wk rn : Int) (q : Option Addr) (N cq : Nat) (pq : Option Addr) (pn pc : Nat) (X : Nat → Nt) (hg : (1 ≤ wk ∧ wk ≤ 8) ∧ (1 ≤ rn ∧ rn ≤ 6) ∧ (N ≤ 60 ∧ pn ≤ 500)) (b : Bool) (hb : b = true ↔ ∀ t, t < N → (0 ≤ (X t).f ∧ (X t).f < wk) ∧ (0 ≤ (X t).t ∧ (X t).t < wk)) (W : World) (h : NIn W q N X) : Calls Try.prog 21 #[.agg #[.int .i64 wk, .int .i64 rn, .slice q N cq, .slice pq pn pc]] W fun e W' => e = .returned (.bool b) ∧ Below W.heap.size W W' := by
  have d1 : decide (wk < 1) = false := by simp; omega
  have d2 : decide (8 < wk) = false := by simp; omega
  have d3 : decide (rn < 1) = false := by simp; omega
  have d4 : decide (6 < rn) = false := by simp; omega
  have d5 : decide (60 < (N : Int)) = false := by simp; omega
  have d6 : decide (60 < N) = false := by simp; omega
  have d7 : decide (500 < (pn : Int)) = false := by simp; omega
  have d8 : decide (500 < pn) = false := by simp; omega
  obtain ⟨SB, hSB⟩ : ∃ SB, W.heap.size = SB := ⟨_, rfl⟩
  obtain ⟨W1, hW1⟩ : ∃ W1, W.alloc (.cells #[.int .i64 wk, .int .i64 rn, .slice q N cq, .slice pq pn pc] 47) = W1 := ⟨_, rfl⟩
  have hb1 : Below SB W W1 := by rw [← hW1, ← hSB]; exact (Below.refl _ W).alloc (Nat.le_refl _) _
  have hc1 : CrAt W1 SB wk rn q N cq pq pn pc := by rw [← hW1, ← hSB]; exact World.alloc_heap_new W _
  obtain ⟨c0, c1, c2, c3⟩ := hc1.cells
  have HH : Hid (NIn W q N X ∧ W.heap.size = SB ∧ N ≤ 60) := ⟨h, hSB, hg.2.2.1⟩
  have H1 := mhid (And.intro hb1 hc1)
  have HB := mhid hb
  have HW1 := mhid hW1
  rw [hSB]
  clear h hg hb1 hc1 hW1 hb
  go_enter Try.func21, Try.ntmps21
  go_upto_region 1 with fail
  rw [HW1.out]
  clear hSB
  go_wp2_with fail
  clear c0 c1 c2 c3 d1 d2 d3 d4 d5 d6 d7 d8
  go_loopw [3] (fun y wr => ∃ j : Nat, y = .int .i64 (j : Int) ∧ j ≤ N ∧ (∀ t, t < j → (0 ≤ (X t).f ∧ (X t).f < wk) ∧ (0 ≤ (X t).t ∧ (X t).t < wk)) ∧ Below SB W wr ∧ CrAt wr SB wk rn q N cq pq pn pc) (fun y _ => N - (intOf y).toNat)
  case atStart => exact ⟨0, rfl, Nat.zero_le _, fun t ht => absurd ht (Nat.not_lt_zero _), H1.out.1, H1.out.2⟩
  case round =>
    obtain ⟨j, rfl, hj, hall, hbr, hcr⟩ := hrel
    obtain ⟨c0, c1, c2, c3⟩ := hcr.cells
    have hSBw : SB ≤ wr.heap.size := by have := hbr.size; rw [← HH.out.2.1]; exact this
    by_cases hlt : j < N
    · have dl : decide ((j : Int) < (N : Int)) = true := by simp; omega
      have dln : decide (j < N) = true := by simp; omega
      have hme := meas hlt
      have hN := HH.out.2.2
      have ek : IntKind.i64.wrap ((j : Int) + 1) = (j : Int) + 1 := by rw [IntKind.wrap_i64]; omega
      have k0 : (0 : Int) ≤ (j : Int) := by omega
      have k1 : (j : Int) < (N : Int) := by omega
      have hin : NIn wr q N X := HH.out.1.later (by rw [HH.out.2.1]; exact hbr)
      rcases hin with h0 | ⟨nb, no, hq, hnl, hnc⟩
      · omega
      obtain ⟨y0, y1, y2, y3⟩ := hnc j hlt
      obtain ⟨⟨ar, af, at_, ak⟩, hXt⟩ : ∃ x, X j = x := ⟨_, rfl⟩
      rw [hXt] at y0 y1 y2 y3
      simp only at y0 y1 y2 y3
      have hcase : (decide (af < 0) = true ∧ b = false) ∨ ((decide (af < 0) = false ∧ decide (wk ≤ af) = true) ∧ b = false) ∨ ((decide (af < 0) = false ∧ decide (wk ≤ af) = false ∧ decide (at_ < 0) = true) ∧ b = false) ∨ ((decide (af < 0) = false ∧ decide (wk ≤ af) = false ∧ decide (at_ < 0) = false ∧ decide (wk ≤ at_) = true) ∧ b = false) ∨ ((decide (af < 0) = false ∧ decide (wk ≤ af) = false ∧ decide (at_ < 0) = false ∧ decide (wk ≤ at_) = false)) := by
        have key : ¬ ((0 ≤ af ∧ af < wk) ∧ (0 ≤ at_ ∧ at_ < wk)) → b = false := fun h9 => by
          cases b
          · rfl
          · have := HB.out.1 rfl j hlt
            rw [hXt] at this
            exact absurd this h9
        simp only [decide_eq_true_eq, decide_eq_false_iff_not]
        by_cases e1 : af < 0
        · exact .inl ⟨e1, key (by omega)⟩
        · by_cases e2 : wk ≤ af
          · exact .inr (.inl ⟨⟨e1, e2⟩, key (by omega)⟩)
          · by_cases e3 : at_ < 0
            · exact .inr (.inr (.inl ⟨⟨e1, e2, e3⟩, key (by omega)⟩))
            · by_cases e4 : wk ≤ at_
              · exact .inr (.inr (.inr (.inl ⟨⟨e1, e2, e3, e4⟩, key (by omega)⟩)))
              · exact .inr (.inr (.inr (.inr ⟨e1, e2, e3, e4⟩)))
      obtain ⟨wz, hwz⟩ : ∃ wz, wr.alloc (.cells #[.int .i64 ar, .int .i64 af, .int .i64 at_, .int .i64 ak] 90) = wz := ⟨_, rfl⟩
      have hbz : Below wr.heap.size wr wz := by rw [← hwz]; exact (Below.refl _ wr).alloc (Nat.le_refl _) _
      have hcz : CrAt wz SB wk rn q N cq pq pn pc := (hbz.block _ (lt_of_block hcr)).trans hcr
      have hnw : wz.heap[wr.heap.size]? = some (.cells #[.int .i64 ar, .int .i64 af, .int .i64 at_, .int .i64 ak] 90 (0, 0)) := by rw [← hwz]; exact World.alloc_heap_new wr _
      have v1 : wz.cell? ⟨wr.heap.size, 1, none⟩ = some (.int .i64 af) := by unfold World.cell?; rw [hnw]; rfl
      have v2 : wz.cell? ⟨wr.heap.size, 2, none⟩ = some (.int .i64 at_) := by unfold World.cell?; rw [hnw]; rfl
      have HZ := mhid (And.intro (hbr.trans (hbz.mono hSBw)) (And.intro hcz (And.intro hlt (And.intro hall hXt))))
      have HWZ := mhid hwz
      obtain ⟨g0, g1, g2, g3⟩ := hcz.cells
      subst hq
      clear hall hbr hcr hj hlt hN hnl hnc hXt hwz hbz hcz hnw hSBw
      go_upto_region 7 with fail
      rw [HWZ.out]
      clear y0 y1 y2 y3 c0 c1 c2 c3
      rcases hcase with ⟨e1, hbf⟩ | ⟨⟨e1, e2⟩, hbf⟩ | ⟨⟨e1, e2, e3⟩, hbf⟩ | ⟨⟨e1, e2, e3, e4⟩, hbf⟩ | ⟨e1, e2, e3, e4⟩
      · have HBF := mhid hbf
        clear hbf
        go_wp2_with fail
        go_ret
        exact ⟨by rw [HBF.out]; rfl, HZ.out.1⟩
      · have HBF := mhid hbf
        clear hbf
        go_wp2_with fail
        go_ret
        exact ⟨by rw [HBF.out]; rfl, HZ.out.1⟩
      · have HBF := mhid hbf
        clear hbf
        go_wp2_with fail
        go_ret
        exact ⟨by rw [HBF.out]; rfl, HZ.out.1⟩
      · have HBF := mhid hbf
        clear hbf
        go_wp2_with fail
        go_ret
        exact ⟨by rw [HBF.out]; rfl, HZ.out.1⟩
      · have hnext : ∀ t, t < j + 1 → (0 ≤ (X t).f ∧ (X t).f < wk) ∧ (0 ≤ (X t).t ∧ (X t).t < wk) := fun t ht => by
          by_cases e : t = j
          · rw [e, HZ.out.2.2.2.2]
            have f1 := of_decide_eq_false e1
            have f2 := of_decide_eq_false e2
            have f3 := of_decide_eq_false e3
            have f4 := of_decide_eq_false e4
            show (0 ≤ af ∧ af < wk) ∧ (0 ≤ at_ ∧ at_ < wk)
            omega
          · exact HZ.out.2.2.2.1 t (by omega)
        have HNX := mhid hnext
        clear hnext
        go_wp2_with fail
        exact ⟨⟨j + 1, rfl, HZ.out.2.2.1, HNX.out, HZ.out.1, HZ.out.2.1⟩, hme⟩
    · have dl : decide ((j : Int) < (N : Int)) = false := by simp; omega
      have dln : decide (j < N) = false := by simp; omega
      obtain rfl : j = N := by omega
      have HBT : Hid (b = true ∧ Below SB W wr) := ⟨HB.out.2 hall, hbr⟩
      clear hall hbr hcr hlt hj hSBw
      go_wp2_with fail
      go_ret
      exact ⟨by rw [HBT.out.1]; rfl, HBT.out.2⟩
end Go.Proofs.Ytkfjcbnhohipgaa
