import Derived.Test.YtkfjcbnhohipgaaME2
import Derived.BigQuiet
import Derived.Deep.RegionLaw
import Derived.Deep.RegionHeld3
import Derived.Deep.Cut
import Derived.Deep.DeepCutAuto
import Derived.Deep.CutBlock
import Derived.Deep.CutRange
import Derived.Deep.AppendLies
import Derived.Handy
import Derived.Lib.RabinKarpLaws
namespace Go.Proofs.Ytkfjcbnhohipgaa
open Go.ChangeShapes Go.WideShapes Go.ChangeAt Go.RowKit
set_option linter.unusedVariables false
set_option linter.unusedSimpArgs false


/-- a comparison of two things that are one -/
theorem neq_th_same (a b : Int) (w : World) : (binOp .neq 31 (.agg #[.int .i64 a, .int .i64 b]) (.agg #[.int .i64 a, .int .i64 b])).run Try.prog w = .ok (.bool false) w := by
  go_simp
/-- things that lie somewhere, from a block's beginning on -/
def TAt (W : World) (v : Value) (m : Nat) (k : Nat → Int × Int) : Prop := ∃ q c, v = .slice q m c ∧ (m = 0 ∨ ∃ g, q = some ⟨g, 0, none⟩ ∧ ∀ j, j < m → W.cell? ⟨g, j * 2, none⟩ = some (.int .i64 (k j).1) ∧ W.cell? ⟨g, j * 2 + 1, none⟩ = some (.int .i64 (k j).2))
theorem Own.tat {W : World} {base m : Nat} {v : Value} {k : Nat → Int × Int} (h : Own W base 31 2 v m (thF k)) : TAt W v m k := by
  rcases h.form with ⟨rfl, rfl⟩ | ⟨g, c, rfl, _⟩
  · exact ⟨none, 0, rfl, .inl rfl⟩
  · refine ⟨_, _, rfl, .inr ⟨g, rfl, fun j hj => ?_⟩⟩
    have a := h.cell (j := j * 2) (by omega)
    have b := h.cell (j := j * 2 + 1) (by omega)
    unfold thF at a b
    rw [if_pos (by omega), show j * 2 / 2 = j by omega] at a
    rw [if_neg (by omega), show (j * 2 + 1) / 2 = j by omega] at b
    exact ⟨a, b⟩
set_option maxRecDepth 100000 in
set_option maxHeartbeats 4000000 in
attribute [-go_sem] run_eql_struct in
theorem sameT_yes (m : Nat) (k k2 : Nat → Int × Int) (v u : Value) (W : World) (h : TAt W v m k) (h2 : TAt W u m k2) (he : ∀ i, i < m → k i = k2 i) (hm : m ≤ 1000000) : Calls Try.prog 41 #[v, u] W fun e W' => e = .returned (.bool true) ∧ Below W.heap.size W W' := by
  obtain ⟨q, c, rfl, hq⟩ := h
  obtain ⟨q2, c2, rfl, hq2⟩ := h2
  have nq : ((m : Int) != (m : Int)) = false := by simp
  have HQ := mhid (And.intro hq (And.intro hq2 he))
  clear hq hq2 he
  go_enter Try.func41, Try.ntmps41
  go_wp2_with fail
  go_loopw [5] (fun y wr => ∃ j : Nat, y = .int .i64 (j : Int) ∧ j ≤ m ∧ Below W.heap.size W wr ∧ (∀ a, wr.cell? a = W.cell? a)) (fun y _ => m - (intOf y).toNat)
  case atStart => exact ⟨0, rfl, Nat.zero_le _, Below.refl _ _, fun _ => rfl⟩
  case round =>
    obtain ⟨j, rfl, hj, hbr, hce⟩ := hrel
    have HB := mhid (And.intro hbr hce)
    by_cases hlt : j < m
    · have dl : decide ((j : Int) < (m : Int)) = true := by simp; omega
      have dln : decide (j < m) = true := by simp; omega
      have hme := meas hlt
      have ek : IntKind.i64.wrap ((j : Int) + 1) = (j : Int) + 1 := by rw [IntKind.wrap_i64]; omega
      have k0 : (0 : Int) ≤ (j : Int) := by omega
      have k1 : (j : Int) < (m : Int) := by omega
      rcases HQ.out.1 with h0 | ⟨g, rfl, hc1⟩
      · omega
      rcases HQ.out.2.1 with h0 | ⟨g2, rfl, hc2⟩
      · omega
      obtain ⟨a0, a1⟩ := hc1 j hlt
      obtain ⟨b0, b1⟩ := hc2 j hlt
      rw [← HQ.out.2.2 j hlt] at b0 b1
      rw [← hce] at a0 a1 b0 b1
      obtain ⟨⟨x, y⟩, hxy⟩ : ∃ p, k j = p := ⟨_, rfl⟩
      rw [hxy] at a0 a1 b0 b1
      simp only at a0 a1 b0 b1
      have eqn := fun (W : World) => neq_th_same x y W
      have HLT := mhid hlt
      clear hbr hce hlt hj hc1 hc2 hxy
      go_upto_region 6 with fail
      go_quiet (fail)
      go_wp2_with fail
      exact ⟨⟨j + 1, rfl, HLT.out, HB.out.1.trans (below_drewNq _ _ _), fun a => HB.out.2 a⟩, hme⟩
    · have dl : decide ((j : Int) < (m : Int)) = false := by simp; omega
      have dln : decide (j < m) = false := by simp; omega
      obtain rfl : m = j := by omega
      clear hj hlt hbr hce
      go_wp2_with fail
      go_ret
      exact ⟨rfl, HB.out.1⟩
set_option maxRecDepth 100000 in
set_option maxHeartbeats 4000000 in
/-- grown: 64 more; what may be written is the row's block, or none that was there -/
theorem grown9_any (z : Int) (B : Nat) (v : Value) (m : Nat) (k : Nat → Int × Int) (W : World) (h : Own W B 31 2 v m (thF k)) (hm : m ≤ 100000) (hB : B ≤ W.heap.size) : Calls Try.prog 59 #[v, .int .i64 z] W fun e W' => ∃ v' k', e = .returned v' ∧ Own W' B 31 2 v' (m + 64) (thF k') ∧ W.grownBy W' v.ownBlock ∧ (∀ g, v'.ownBlock = some g → v.ownBlock = some g ∨ W.heap.size ≤ g) := by
  have HH := mhid h
  clear h
  go_enter Try.func59, Try.ntmps59
  go_wp2_with fail
  go_loopw [0, 5] (fun a y wr => ∃ (j : Nat) (k' : Nat → Int × Int), y = .int .i64 (j : Int) ∧ j ≤ 64 ∧ Own wr B 31 2 a (m + j) (thF k') ∧ W.grownBy wr v.ownBlock ∧ (∀ g, a.ownBlock = some g → v.ownBlock = some g ∨ W.heap.size ≤ g)) (fun _ y _ => 64 - (intOf y).toNat)
  case atStart => exact ⟨0, k, rfl, Nat.zero_le _, HH.out, ⟨rfl, rfl, rfl, Nat.le_refl _, fun _ _ _ => rfl⟩, fun g hg => .inl hg⟩
  case round =>
    obtain ⟨j, k', rfl, hj, ho, hg, hat⟩ := hrel
    have HR := mhid (And.intro ho (And.intro hg hat))
    by_cases hlt : j < 64
    · have dl : decide ((j : Int) < 64) = true := by simp; omega
      have dln : decide (j < 64) = true := by simp; omega
      have hme := meas hlt
      have ek : IntKind.i64.wrap ((j : Int) + 1) = (j : Int) + 1 := by rw [IntKind.wrap_i64]; omega
      have es : IntKind.i64.wrap (-1 - (j : Int)) = -1 - (j : Int) := by rw [IntKind.wrap_i64]; omega
      have HLT := mhid (And.intro hlt hm)
      have HBB := mhid hB
      clear ho hg hat hlt hj
      go_wp2_with (at_builtin; refine app_tg rfl _ _ rfl B u0 (m + j) k' z (-1 - (j : Int)) rfl HR.out.1 rfl (by have h8 := HLT.out; omega) (Nat.le_trans HBB.out HR.out.2.1.4) ?_; intro g9 c9 w9 o9 g9b g9c g9d)
      refine ⟨⟨j + 1, _, rfl, HLT.out.1, o9, ?_, ?_⟩, hme⟩
      · refine ⟨g9b.1.trans HR.out.2.1.1, g9b.2.trans HR.out.2.1.2, g9b.3.trans HR.out.2.1.3, Nat.le_trans HR.out.2.1.4 g9b.4, fun i hi hne => (g9b.5 i (Nat.lt_of_lt_of_le hi HR.out.2.1.4) (fun e => ?_)).trans (HR.out.2.1.5 i hi hne)⟩
        rcases HR.out.2.2 i e.symm with h8 | h8
        · exact hne h8.symm
        · omega
      · intro g hgg
        simp [Value.ownBlock] at hgg
        subst hgg
        rcases g9c with h8 | h8
        · exact HR.out.2.2 _ h8
        · exact .inr (Nat.le_trans HR.out.2.1.4 h8)
    · have dl : decide ((j : Int) < 64) = false := by simp; omega
      have dln : decide (j < 64) = false := by simp; omega
      obtain rfl : j = 64 := by omega
      clear ho hg hat hlt hj
      go_wp2_with fail
      go_ret
      exact ⟨_, _, rfl, HR.out.1, HR.out.2⟩
end Go.Proofs.Ytkfjcbnhohipgaa
