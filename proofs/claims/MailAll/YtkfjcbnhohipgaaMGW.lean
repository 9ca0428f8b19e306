import Derived.Test.YtkfjcbnhohipgaaMG5
import Derived.BigQuiet
import Derived.Deep.RegionLaw
import Derived.Deep.RegionHeld3
import Derived.Deep.Cut
import Derived.Deep.DeepCutAuto
import Derived.Deep.CutBlock
import Derived.Deep.CutRange
import Derived.Deep.AppendLies
import Derived.Handy
import Derived.Lib.RabinKarpLaws
namespace Go.Proofs.Ytkfjcbnhohipgaa
open Go.ChangeShapes Go.WideShapes Go.ChangeAt Go.RowKit
set_option linter.unusedVariables false
set_option linter.unusedSimpArgs false


set_option maxRecDepth 100000 in
set_option maxHeartbeats 8000000 in
theorem whole_any {Fo : Nat → Option Obj} {W : World} {base sb : Nat} {V : Nat → Value} {n : Nat → Nat} {F : Nat → Nat → Value} {m : Nat} (h : SX Fo W base sb V n F m) (e1 : n 0 = n 1) (e2 : n 2 = n 3) (p1 : ∀ j, j < n 0 → ∃ mm k, mm ≤ 1000000 ∧ Own W base 31 2 (F 0 j) mm (thF k) ∧ Own W base 31 2 (F 1 j) mm (thF k)) (p2 : ∀ j, j < n 2 → ∃ mm k, mm ≤ 1000000 ∧ Own W base 31 2 (F 2 j) mm (thF k) ∧ Own W base 31 2 (F 3 j) mm (thF k)) (hm : m ≤ 1000000) : Calls Try.prog 52 #[.pointer (some ⟨sb, 0, none⟩)] W fun e W' => e = .returned (.bool true) ∧ Below W.heap.size W W' := by
  have form : ∀ i, i < 4 → ∃ q c, V i = .slice q (n i) c := fun i hi => by
    rcases (h.o i hi).1.form with ⟨a, b⟩ | ⟨g, c, a, _⟩
    · exact ⟨none, 0, by rw [a, b]⟩
    · exact ⟨_, _, a⟩
  obtain ⟨N0, hN0⟩ : ∃ N0, n 0 = N0 := ⟨_, rfl⟩
  obtain ⟨N2, hN2⟩ : ∃ N2, n 2 = N2 := ⟨_, rfl⟩
  have hN1 : n 1 = N0 := by rw [← e1]; exact hN0
  have hN3 : n 3 = N2 := by rw [← e2]; exact hN2
  obtain ⟨qa, ca, va0⟩ := form 0 (by decide)
  obtain ⟨qb, cb, vb0⟩ := form 1 (by decide)
  obtain ⟨qc, cc, vc0⟩ := form 2 (by decide)
  obtain ⟨qd, cd, vd0⟩ := form 3 (by decide)
  rw [hN0] at va0
  rw [hN1] at vb0
  rw [hN2] at vc0
  rw [hN3] at vd0
  have HV0 := mhid va0
  have HV1 := mhid vb0
  have HV2 := mhid vc0
  have HV3 := mhid vd0
  have HN0 := mhid hN0
  have HN1 := mhid hN1
  have HN2 := mhid hN2
  have HN3 := mhid hN3
  have HP1 := mhid p1
  have HP2 := mhid p2
  have HM : Hid (N0 ≤ 1000000 ∧ N2 ≤ 1000000) := by
    have h1 := (h.o 0 (by decide)).2
    have h2 := (h.o 2 (by decide)).2
    show N0 ≤ 1000000 ∧ N2 ≤ 1000000
    omega
  have HH := mhid (And.intro h trivial)
  clear h e1 e2 p1 p2 hm form hN0 hN1 hN2 hN3 va0 vb0 vc0 vd0
  go_enter Try.func52, Try.ntmps52
  go_wp2_with fail
  go_loopw [3] (fun y wr => ∃ j : Nat, y = .int .i64 (j : Int) ∧ j ≤ N0 ∧ Below W.heap.size W wr) (fun y _ => N0 - (intOf y).toNat)
  case atStart => exact ⟨0, rfl, Nat.zero_le _, Below.refl _ _⟩
  case round =>
    obtain ⟨j, rfl, hj, hbr⟩ := hrel
    have sx := HH.out.1.later hbr
    obtain ⟨c0, c1, c2, c3⟩ := sx.cells
    rw [HV0.out] at c0
    rw [HV1.out] at c1
    have HB := mhid hbr
    by_cases hlt : j < N0
    · have dl : decide ((j : Int) < (N0 : Int)) = true := by simp; omega
      have dln : decide (j < N0) = true := by simp; omega
      have hme := meas hlt
      have hM := HM.out
      have ek : IntKind.i64.wrap ((j : Int) + 1) = (j : Int) + 1 := by rw [IntKind.wrap_i64]; omega
      have k0 : (0 : Int) ≤ (j : Int) := by omega
      have k1 : (j : Int) < (N0 : Int) := by omega
      have oa := (sx.o 0 (by decide)).1
      have ob := (sx.o 1 (by decide)).1
      rw [HV0.out, HN0.out] at oa
      rw [HV1.out, HN1.out] at ob
      rcases oa.form with ⟨_, h2⟩ | ⟨ga, ca', h1, _⟩
      · omega
      injection h1 with h1 _ h1c
      rcases ob.form with ⟨_, h2⟩ | ⟨gb, cb', h1', _⟩
      · omega
      injection h1' with h1' _ h1c'
      subst h1 h1c h1' h1c'
      have y0 := oa.cell (j := j) (by omega)
      have y1 := ob.cell (j := j) (by omega)
      obtain ⟨va, hva⟩ : ∃ v, F 0 j = v := ⟨_, rfl⟩
      obtain ⟨vb, hvb⟩ : ∃ v, F 1 j = v := ⟨_, rfl⟩
      obtain ⟨mm, kk, hmm, o1, o2⟩ := HP1.out j (by rw [HN0.out]; exact hlt)
      rw [hva] at y0 o1
      rw [hvb] at y1 o2
      have HS : Hid (∀ w', Below wr.heap.size wr w' → Calls Try.prog 41 #[va, vb] w' fun e w9 => e = .returned (.bool true) ∧ Below W.heap.size W w9 ∧ Below wr.heap.size wr w9) := fun w' hw' => (sameT_yes mm kk kk va vb w' ((o1.later hbr).later hw').tat ((o2.later hbr).later hw').tat (fun _ _ => rfl) hmm).mono fun e w9 ⟨a1, a2⟩ => ⟨a1, (hbr.trans (hw'.mono hbr.size)).trans (a2.mono (Nat.le_trans hbr.size hw'.size)), hw'.trans (a2.mono hw'.size)⟩
      have HLT := mhid hlt
      have lts := lt_of_block sx.p
      have lta := (oa.lt ga rfl).2
      have ltb := (ob.lt gb rfl).2
      have KP : Hid (∀ w9, Below wr.heap.size wr w9 → (w9.cell? ⟨sb, 0, none⟩ = some (.slice (some ⟨ga, 0, none⟩) N0 ca) ∧ w9.cell? ⟨sb, 1, none⟩ = some (.slice (some ⟨gb, 0, none⟩) N0 cb)) ∧ (w9.cell? ⟨ga, j, none⟩ = some va ∧ w9.cell? ⟨gb, j, none⟩ = some vb)) := fun w9 h9 => ⟨⟨(h9.cell (p := ⟨sb, 0, none⟩) lts).trans c0, (h9.cell (p := ⟨sb, 1, none⟩) lts).trans c1⟩, (h9.cell (p := ⟨ga, j, none⟩) lta).trans y0, (h9.cell (p := ⟨gb, j, none⟩) ltb).trans y1⟩
      clear lts lta ltb sx hbr oa ob o1 o2 hva hvb hlt hj hM hmm
      go_upto_region 4 with fail
      go_region_held3 (fun w' => (w'.cell? ⟨sb, 0, none⟩ = some (.slice (some ⟨ga, 0, none⟩) N0 ca) ∧ w'.cell? ⟨sb, 1, none⟩ = some (.slice (some ⟨gb, 0, none⟩) N0 cb)) ∧ (w'.cell? ⟨ga, j, none⟩ = some va ∧ w'.cell? ⟨gb, j, none⟩ = some vb)) (first | exact s6 | go_keep) ((go_at_call 41; (with_reducible refine (HS.out _ ?_).mono ?_); (first | exact Below.refl _ _ | exact drewB _ | exact below_drewNq _ _ _); rintro e9 w9 ⟨rfl, b9, b8⟩; have B9 := mhid b9; have s6 := KP.out w9 b8; obtain ⟨⟨t0, t1⟩, t2, t3⟩ := s6; have s6 : (w9.cell? ⟨sb, 0, none⟩ = some (.slice (some ⟨ga, 0, none⟩) N0 ca) ∧ w9.cell? ⟨sb, 1, none⟩ = some (.slice (some ⟨gb, 0, none⟩) N0 cb)) ∧ (w9.cell? ⟨ga, j, none⟩ = some va ∧ w9.cell? ⟨gb, j, none⟩ = some vb) := ⟨⟨t0, t1⟩, t2, t3⟩; clear b9 b8))
      all_goals (
        go_wp2_with fail
        exact ⟨⟨j + 1, rfl, HLT.out, B9.out⟩, hme⟩)
    · have dl : decide ((j : Int) < (N0 : Int)) = false := by simp; omega
      have dln : decide (j < N0) = false := by simp; omega
      clear sx hbr hlt hj
      go_wp2_with fail
      clear c0 c1 c2 c3 dl dln
      go_loopw [4] (fun y wr => ∃ j : Nat, y = .int .i64 (j : Int) ∧ j ≤ N2 ∧ Below W.heap.size W wr) (fun y _ => N2 - (intOf y).toNat)
      case atStart => exact ⟨0, rfl, Nat.zero_le _, HB.out⟩
      case round =>
        obtain ⟨j, rfl, hj, hbr⟩ := hrel
        have sx := HH.out.1.later hbr
        obtain ⟨c0, c1, c2, c3⟩ := sx.cells
        rw [HV2.out] at c2
        rw [HV3.out] at c3
        have HB2 := mhid hbr
        by_cases hlt : j < N2
        · have dl : decide ((j : Int) < (N2 : Int)) = true := by simp; omega
          have dln : decide (j < N2) = true := by simp; omega
          have hme := meas hlt
          have hM := HM.out
          have ek : IntKind.i64.wrap ((j : Int) + 1) = (j : Int) + 1 := by rw [IntKind.wrap_i64]; omega
          have k0 : (0 : Int) ≤ (j : Int) := by omega
          have k1 : (j : Int) < (N2 : Int) := by omega
          have oa := (sx.o 2 (by decide)).1
          have ob := (sx.o 3 (by decide)).1
          rw [HV2.out, HN2.out] at oa
          rw [HV3.out, HN3.out] at ob
          rcases oa.form with ⟨_, h2⟩ | ⟨ga, ca', h1, _⟩
          · omega
          injection h1 with h1 _ h1c
          rcases ob.form with ⟨_, h2⟩ | ⟨gb, cb', h1', _⟩
          · omega
          injection h1' with h1' _ h1c'
          subst h1 h1c h1' h1c'
          have y0 := oa.cell (j := j) (by omega)
          have y1 := ob.cell (j := j) (by omega)
          obtain ⟨va, hva⟩ : ∃ v, F 2 j = v := ⟨_, rfl⟩
          obtain ⟨vb, hvb⟩ : ∃ v, F 3 j = v := ⟨_, rfl⟩
          obtain ⟨mm, kk, hmm, o1, o2⟩ := HP2.out j (by rw [HN2.out]; exact hlt)
          rw [hva] at y0 o1
          rw [hvb] at y1 o2
          have HS : Hid (∀ w', Below wr.heap.size wr w' → Calls Try.prog 41 #[va, vb] w' fun e w9 => e = .returned (.bool true) ∧ Below W.heap.size W w9 ∧ Below wr.heap.size wr w9) := fun w' hw' => (sameT_yes mm kk kk va vb w' ((o1.later hbr).later hw').tat ((o2.later hbr).later hw').tat (fun _ _ => rfl) hmm).mono fun e w9 ⟨a1, a2⟩ => ⟨a1, (hbr.trans (hw'.mono hbr.size)).trans (a2.mono (Nat.le_trans hbr.size hw'.size)), hw'.trans (a2.mono hw'.size)⟩
          have HLT := mhid hlt
          have lts := lt_of_block sx.p
          have lta := (oa.lt ga rfl).2
          have ltb := (ob.lt gb rfl).2
          have KP : Hid (∀ w9, Below wr.heap.size wr w9 → (w9.cell? ⟨sb, 2, none⟩ = some (.slice (some ⟨ga, 0, none⟩) N2 cc) ∧ w9.cell? ⟨sb, 3, none⟩ = some (.slice (some ⟨gb, 0, none⟩) N2 cd)) ∧ (w9.cell? ⟨ga, j, none⟩ = some va ∧ w9.cell? ⟨gb, j, none⟩ = some vb)) := fun w9 h9 => ⟨⟨(h9.cell (p := ⟨sb, 2, none⟩) lts).trans c2, (h9.cell (p := ⟨sb, 3, none⟩) lts).trans c3⟩, (h9.cell (p := ⟨ga, j, none⟩) lta).trans y0, (h9.cell (p := ⟨gb, j, none⟩) ltb).trans y1⟩
          clear lts lta ltb sx hbr oa ob o1 o2 hva hvb hlt hj hM hmm
          go_upto_region 9 with fail
          go_region_held3 (fun w' => (w'.cell? ⟨sb, 2, none⟩ = some (.slice (some ⟨ga, 0, none⟩) N2 cc) ∧ w'.cell? ⟨sb, 3, none⟩ = some (.slice (some ⟨gb, 0, none⟩) N2 cd)) ∧ (w'.cell? ⟨ga, j, none⟩ = some va ∧ w'.cell? ⟨gb, j, none⟩ = some vb)) (first | exact s6 | go_keep) ((go_at_call 41; (with_reducible refine (HS.out _ ?_).mono ?_); (first | exact Below.refl _ _ | exact drewB _ | exact below_drewNq _ _ _); rintro e9 w9 ⟨rfl, b9, b8⟩; have B9 := mhid b9; have s6 := KP.out w9 b8; obtain ⟨⟨t0, t1⟩, t2, t3⟩ := s6; have s6 : (w9.cell? ⟨sb, 2, none⟩ = some (.slice (some ⟨ga, 0, none⟩) N2 cc) ∧ w9.cell? ⟨sb, 3, none⟩ = some (.slice (some ⟨gb, 0, none⟩) N2 cd)) ∧ (w9.cell? ⟨ga, j, none⟩ = some va ∧ w9.cell? ⟨gb, j, none⟩ = some vb) := ⟨⟨t0, t1⟩, t2, t3⟩; clear b9 b8))
          all_goals (
            go_wp2_with fail
            exact ⟨⟨j + 1, rfl, HLT.out, B9.out⟩, hme⟩)
        · have dl : decide ((j : Int) < (N2 : Int)) = false := by simp; omega
          have dln : decide (j < N2) = false := by simp; omega
          clear sx hbr hlt hj
          go_wp2_with fail
          go_ret
          exact ⟨rfl, HB2.out⟩
end Go.Proofs.Ytkfjcbnhohipgaa
