import Derived.Test.YtkfjcbnhohipgaaMH4
import Derived.Test.YtkfjcbnhohipgaaMGF
import Derived.BigQuiet
import Derived.Deep.RegionLaw
import Derived.Deep.RegionHeld3
import Derived.Deep.Cut
import Derived.Deep.DeepCutAuto
import Derived.Deep.CutBlock
import Derived.Deep.CutRange
import Derived.Deep.AppendLies
import Derived.Handy
import Derived.Lib.RabinKarpLaws
namespace Go.Proofs.Ytkfjcbnhohipgaa
open Go.ChangeShapes Go.WideShapes Go.ChangeAt Go.RowKit
set_option linter.unusedVariables false
set_option linter.unusedSimpArgs false


theorem nb_new (ak : Nat) (n : Nat) (wk rk : Int) (hw : wk = (n : Int)) (hb : ¬ badP wk rk) (w : World) : Calls Try.prog 13 #[.int .i64 wk, .int .i64 rk, cvA ak] w fun e w' => ∃ hb wb bb R, e = .returned (.tuple #[.pointer (some ⟨hb, 0, none⟩), .int .i64 0]) ∧ MP No w' w.heap.size hb wb bb n rk (cvA ak) R (fun _ => 0) (fun _ => 0) noH ∧ Below w.heap.size w w' := by
  subst hw
  unfold badP at hb
  exact (mb_newC 51 #[.pointer (some ⟨ak, 0, none⟩)] n rk (by omega) (by omega) (by omega) (by omega) w).mono fun e w' ⟨hb, wb, bb, R, h1, h2, h3⟩ => ⟨hb, wb, bb, R, h1, h2.mp, h3⟩
theorem rb_new (n : Nat) (wk rk : Int) (hw : wk = (n : Int)) (hb : ¬ badP wk rk) (w : World) : Calls Try.prog 26 #[.int .i64 wk, .int .i64 rk, .bool true] w fun e w' => ∃ qb pb fb, e = .returned (.tuple #[.pointer (some ⟨qb, 0, none⟩), .int .i64 0]) ∧ RX No w' w.heap.size qb pb fb n rk true (fun _ => 0) (fun _ => 0) (.slice none 0 0) [] ∧ Below w.heap.size w w' := by
  subst hw
  unfold badP at hb
  exact ref_newX true n rk (by omega) (by omega) (by omega) (by omega) w

theorem SH.whole {W : World} {base sb : Nat} {V : Nat → Value} {m : Nat} (h : SH No W base sb V m) (hm : m ≤ 1000000) : Calls Try.prog 52 #[.pointer (some ⟨sb, 0, none⟩)] W fun e W' => e = .returned (.bool true) ∧ Below W.heap.size W W' := by
  obtain ⟨n, F, T, xl, xw, sx, sc⟩ := h.x
  have en := EN.start sc
  exact whole_any sx sc.e1 sc.e2 en.pr (fun j hj => by obtain ⟨mm, k, h1, h2, h3⟩ := en.lt j hj; exact ⟨mm, k, by omega, h2, h3⟩) hm
theorem SH.ends {W : World} {base sb : Nat} {V : Nat → Value} {m : Nat} (h : SH No W base sb V m) (hb : base ≤ W.heap.size) (hm : m ≤ 100000) : Calls Try.prog 53 #[.pointer (some ⟨sb, 0, none⟩)] W fun e W' => e = .returned (.bool true) ∧ Below base W W' := by
  obtain ⟨n, F, T, xl, xw, sx, sc⟩ := h.x
  exact ends_any sx sc hb hm
set_option maxRecDepth 100000 in
set_option maxHeartbeats 40000000 in
theorem plays_all (w0 w1 r0 r1 : Int) (p : Option Addr) (N c : Nat) (X : Nat → OpV) (W : World) (h : OpIn W p N X) (hN : N * 40 ≤ 140737488351232) :
    Calls Try.prog 28 #[.agg #[.int .i64 w0, .int .i64 w1, .int .i64 r0, .int .i64 r1, .slice p N c], .int .i64 1, .int .i64 7] W fun e W' => e = .returned (.bool true) ∧ Below W.heap.size W W' := by
  obtain ⟨SB, hSB⟩ : ∃ SB, W.heap.size = SB := ⟨_, rfl⟩
  obtain ⟨W1, hW1⟩ : ∃ W1, (((W.alloc (.cells #[.int .i64 w0, .int .i64 w1, .int .i64 r0, .int .i64 r1, .slice p N c] 25)).alloc (.cells #[.int .i64 0] 3)).alloc (.cells #[.pointer none, .pointer none] 103)).alloc (.cells #[.pointer none, .pointer none] 104) = W1 := ⟨_, rfl⟩
  have hLP : LP W SB w0 w1 r0 r1 p N c 0 W1 (fun _ => .pointer none) (fun _ => .pointer none) (fun _ => 0) (fun _ => ⟨0, 0, 0, fun _ => 0, fun _ => 0, fun _ => 0, noH, 0, 0, 0, fun _ => 0, fun _ => 0, .slice none 0 0, [], 0, V0, 0⟩) := by
    obtain ⟨V1, hV1⟩ : ∃ V1, W.alloc (.cells #[.int .i64 w0, .int .i64 w1, .int .i64 r0, .int .i64 r1, .slice p N c] 25) = V1 := ⟨_, rfl⟩
    have n1 : V1.heap[SB]? = some (.cells #[.int .i64 w0, .int .i64 w1, .int .i64 r0, .int .i64 r1, .slice p N c] 25 (0, 0)) := by rw [← hV1, ← hSB]; exact World.alloc_heap_new W _
    have s1 : V1.heap.size = SB + 1 := by rw [← hV1, World.size_alloc, hSB]
    have b1 : Below SB W V1 := by rw [← hV1, ← hSB]; exact (Below.refl _ W).alloc (Nat.le_refl _) _
    rw [hV1] at hW1
    obtain ⟨V2, hV2⟩ : ∃ V2, V1.alloc (.cells #[.int .i64 0] 3) = V2 := ⟨_, rfl⟩
    have n2 : V2.heap[SB + 1]? = some (.cells #[.int .i64 0] 3 (0, 0)) := by rw [← hV2, ← s1]; exact World.alloc_heap_new V1 _
    have s2 : V2.heap.size = SB + 2 := by rw [← hV2, World.size_alloc, s1]
    have b2 : Below V1.heap.size V1 V2 := by rw [← hV2]; exact (Below.refl _ V1).alloc (Nat.le_refl _) _
    rw [hV2] at hW1
    obtain ⟨V3, hV3⟩ : ∃ V3, V2.alloc (.cells #[.pointer none, .pointer none] 103) = V3 := ⟨_, rfl⟩
    have n3 : V3.heap[SB + 2]? = some (.cells #[.pointer none, .pointer none] 103 (0, 0)) := by rw [← hV3, ← s2]; exact World.alloc_heap_new V2 _
    have s3 : V3.heap.size = SB + 3 := by rw [← hV3, World.size_alloc, s2]
    have b3 : Below V2.heap.size V2 V3 := by rw [← hV3]; exact (Below.refl _ V2).alloc (Nat.le_refl _) _
    rw [hV3] at hW1
    have n4 : W1.heap[SB + 3]? = some (.cells #[.pointer none, .pointer none] 104 (0, 0)) := by rw [← hW1, ← s3]; exact World.alloc_heap_new V3 _
    have s4 : W1.heap.size = SB + 4 := by rw [← hW1, World.size_alloc, s3]
    have b4 : Below V3.heap.size V3 W1 := by rw [← hW1]; exact (Below.refl _ V3).alloc (Nat.le_refl _) _
    exact ⟨((b1.trans (b2.mono (by omega))).trans (b3.mono (by omega))).trans (b4.mono (by omega)), by omega, (b4.block _ (by omega)).trans ((b3.block _ (by omega)).trans ((b2.block _ (by omega)).trans n1)), (b4.block _ (by omega)).trans ((b3.block _ (by omega)).trans n2), (b4.block _ (by omega)).trans n3, n4, fun _ _ => ⟨rfl, rfl⟩, fun j hj => absurd hj (Nat.not_lt_zero _), fun j j' _ hj => absurd hj (Nat.not_lt_zero _)⟩
  have HLP := mhid hLP
  have HW1 := mhid hW1
  have HOP := mhid (And.intro h hN)
  clear hLP hW1 h hN
  all_goals (
    go_enter Try.func28, Try.ntmps28
    go_upto_region 6 with fail
    rw [HW1.out]
    have HSB := mhid hSB
    clear hSB
    go_wp2_with fail
    go_loopw [12] (fun y wr => ∃ (i : Nat) (pv qv : Nat → Value) (nn : Nat → Nat) (aa : Nat → AP), y = .int .i64 (i : Int) ∧ i ≤ 2 ∧ LP W SB w0 w1 r0 r1 p N c i wr pv qv nn aa) (fun y _ => 2 - (intOf y).toNat)
    case atStart => exact ⟨0, _, _, _, _, rfl, by decide, HLP.out⟩
    case round =>
      obtain ⟨i, pv, qv, nn, aa, rfl, hi2, hL⟩ := hrel
      obtain ⟨c0, c1, c2, c3, c4⟩ := hL.sc.cells
      have HLwr := mhid hL
      clear hL
      rcases (by omega : i = 0 ∨ i = 1 ∨ i = 2) with rfl | rfl | rfl
      · clear hi2
        by_cases hbad : badP w0 r0
        · have HNB := fun w => mb_newBadC (cvA (SB + 1)) w0 r0 hbad w
          have HRB := fun w => ref_newBadX true w0 r0 hbad w
          obtain ⟨z, hz⟩ : ∃ z, nbad w0 r0 = z := ⟨_, rfl⟩
          simp only [hz] at HNB HRB
          have HBAD := mhid hbad
          have nz : (z != z) = false := by simp
          clear hbad hz
          go_upto_region 9 with fail
          go_region_held3 (fun w' => (w'.cell? ⟨SB, 0, none⟩ = some (.int .i64 w0) ∧ w'.cell? ⟨SB, 1, none⟩ = some (.int .i64 w1)) ∧ (w'.cell? ⟨SB, 2, none⟩ = some (.int .i64 r0) ∧ w'.cell? ⟨SB, 3, none⟩ = some (.int .i64 r1))) (first | exact s6 | go_keep) ((go_at_call 13; (with_reducible refine (HNB _).mono ?_); rintro e9 w8 ⟨rfl, h9⟩; have bb9 : Below wr.heap.size wr w8 := (by rw [h9]; first | exact Below.refl _ _ | exact drewB _ | exact below_drewNq _ _ _); clear h9; have hBw8 : Below wr.heap.size wr w8 := (by first | exact bb9 | exact (drewB _).trans bb9 | exact (below_drewNq _ _ _).trans bb9); have hLw8 := HLwr.out.later hBw8; obtain ⟨c0, c1, c2, c3, c4⟩ := hLw8.sc.cells; have s6 : (w8.cell? ⟨SB, 0, none⟩ = some (.int .i64 w0) ∧ w8.cell? ⟨SB, 1, none⟩ = some (.int .i64 w1)) ∧ (w8.cell? ⟨SB, 2, none⟩ = some (.int .i64 r0) ∧ w8.cell? ⟨SB, 3, none⟩ = some (.int .i64 r1)) := ⟨⟨c0, c1⟩, c2, c3⟩; have HLw8 := mhid hLw8; have HBw8 := mhid hBw8; clear bb9 hLw8 hBw8))
          go_upto_region 10 with fail
          go_region_held3 (fun w' => (w'.cell? ⟨SB, 0, none⟩ = some (.int .i64 w0) ∧ w'.cell? ⟨SB, 1, none⟩ = some (.int .i64 w1)) ∧ (w'.cell? ⟨SB, 2, none⟩ = some (.int .i64 r0) ∧ w'.cell? ⟨SB, 3, none⟩ = some (.int .i64 r1))) (first | exact s6 | go_keep) ((go_at_call 26; (with_reducible refine (HRB _).mono ?_); rintro e9 w9 ⟨rfl, h9⟩; have bb9 : Below w8.heap.size w8 w9 := (by rw [h9]; first | exact Below.refl _ _ | exact drewB _ | exact below_drewNq _ _ _); clear h9; have hBw9 : Below w8.heap.size w8 w9 := (by first | exact bb9 | exact (drewB _).trans bb9 | exact (below_drewNq _ _ _).trans bb9); have hLw9 := HLw8.out.later hBw9; obtain ⟨c0, c1, c2, c3, c4⟩ := hLw9.sc.cells; have s6 : (w9.cell? ⟨SB, 0, none⟩ = some (.int .i64 w0) ∧ w9.cell? ⟨SB, 1, none⟩ = some (.int .i64 w1)) ∧ (w9.cell? ⟨SB, 2, none⟩ = some (.int .i64 r0) ∧ w9.cell? ⟨SB, 3, none⟩ = some (.int .i64 r1)) := ⟨⟨c0, c1⟩, c2, c3⟩; have HLw9 := mhid hLw9; have HBw9 := mhid hBw9; clear bb9 hLw9 hBw9))
          all_goals (
            clear c0 c1 c2 c3 c4
            have x0 : w9.cell? ⟨SB + 1 + 1, 0, none⟩ = some (pv 0) := by have hh := HLw9.out.pa; unfold World.cell?; rw [show SB + 1 + 1 = SB + 2 from rfl, hh]; rfl
            have x1 : w9.frozen? ⟨SB + 1 + 1, 0, none⟩ = false := frz HLw9.out.pa _
            have x2 : w9.cell? ⟨SB + 1 + 1 + 1, 0, none⟩ = some (qv 0) := by have hh := HLw9.out.qa; unfold World.cell?; rw [show SB + 1 + 1 + 1 = SB + 3 from rfl, hh]; rfl
            have x3 : w9.frozen? ⟨SB + 1 + 1 + 1, 0, none⟩ = false := frz HLw9.out.qa _
            go_wp2_with fail
            exact ⟨⟨1, _, _, _, _, rfl, by decide, HLw9.out.put (i := 0) (by decide) (.pointer none) (.pointer none) 0 (aa 0) (.inl ⟨HBAD.out, rfl, rfl⟩) (fun j _ _ h9 => absurd HBAD.out h9)⟩, by simp [intOf]⟩)
        · obtain ⟨n, hwn⟩ : ∃ n : Nat, w0 = (n : Int) := ⟨w0.toNat, by unfold badP at hbad; omega⟩
          have HNG := fun w => nb_new (SB + 1) n w0 r0 hwn hbad w
          have HRG := fun w => rb_new n w0 r0 hwn hbad w
          have HBAD := mhid (And.intro hbad hwn)
          clear hbad hwn
          go_upto_region 9 with fail
          go_region_held3 (fun w' => (w'.cell? ⟨SB, 0, none⟩ = some (.int .i64 w0) ∧ w'.cell? ⟨SB, 1, none⟩ = some (.int .i64 w1)) ∧ (w'.cell? ⟨SB, 2, none⟩ = some (.int .i64 r0) ∧ w'.cell? ⟨SB, 3, none⟩ = some (.int .i64 r1))) (first | exact s6 | go_keep) ((go_at_call 13; (with_reducible refine (HNG _).mono ?_); rintro e9 w8 ⟨hb, wb, bb, R, rfl, np, bb9⟩; have HNP := mhid np; clear np; have hBw8 : Below wr.heap.size wr w8 := (by first | exact bb9 | exact (drewB _).trans bb9 | exact (below_drewNq _ _ _).trans bb9); have hLw8 := HLwr.out.later hBw8; obtain ⟨c0, c1, c2, c3, c4⟩ := hLw8.sc.cells; have s6 : (w8.cell? ⟨SB, 0, none⟩ = some (.int .i64 w0) ∧ w8.cell? ⟨SB, 1, none⟩ = some (.int .i64 w1)) ∧ (w8.cell? ⟨SB, 2, none⟩ = some (.int .i64 r0) ∧ w8.cell? ⟨SB, 3, none⟩ = some (.int .i64 r1)) := ⟨⟨c0, c1⟩, c2, c3⟩; have HLw8 := mhid hLw8; have HBw8 := mhid hBw8; clear bb9 hLw8 hBw8))
          go_upto_region 10 with fail
          go_region_held3 (fun w' => (w'.cell? ⟨SB, 0, none⟩ = some (.int .i64 w0) ∧ w'.cell? ⟨SB, 1, none⟩ = some (.int .i64 w1)) ∧ (w'.cell? ⟨SB, 2, none⟩ = some (.int .i64 r0) ∧ w'.cell? ⟨SB, 3, none⟩ = some (.int .i64 r1))) (first | exact s6 | go_keep) ((go_at_call 26; (with_reducible refine (HRG _).mono ?_); rintro e9 w9 ⟨qb, pb, fb, rfl, hq, bb9⟩; have HQ9 := mhid (And.intro hq bb9); clear hq; have hBw9 : Below w8.heap.size w8 w9 := (by first | exact bb9 | exact (drewB _).trans bb9 | exact (below_drewNq _ _ _).trans bb9); have hLw9 := HLw8.out.later hBw9; obtain ⟨c0, c1, c2, c3, c4⟩ := hLw9.sc.cells; have s6 : (w9.cell? ⟨SB, 0, none⟩ = some (.int .i64 w0) ∧ w9.cell? ⟨SB, 1, none⟩ = some (.int .i64 w1)) ∧ (w9.cell? ⟨SB, 2, none⟩ = some (.int .i64 r0) ∧ w9.cell? ⟨SB, 3, none⟩ = some (.int .i64 r1)) := ⟨⟨c0, c1⟩, c2, c3⟩; have HLw9 := mhid hLw9; have HBw9 := mhid hBw9; clear bb9 hLw9 hBw9))
          all_goals (
            clear c0 c1 c2 c3 c4
            have x0 : w9.cell? ⟨SB + 1 + 1, 0, none⟩ = some (pv 0) := by have hh := HLw9.out.pa; unfold World.cell?; rw [show SB + 1 + 1 = SB + 2 from rfl, hh]; rfl
            have x1 : w9.frozen? ⟨SB + 1 + 1, 0, none⟩ = false := frz HLw9.out.pa _
            have x2 : w9.cell? ⟨SB + 1 + 1 + 1, 0, none⟩ = some (qv 0) := by have hh := HLw9.out.qa; unfold World.cell?; rw [show SB + 1 + 1 + 1 = SB + 3 from rfl, hh]; rfl
            have x3 : w9.frozen? ⟨SB + 1 + 1 + 1, 0, none⟩ = false := frz HLw9.out.qa _
            go_wp2_with fail
            obtain ⟨a, e1, e2, hN2, hcr⟩ := n2_new HLwr.out n HBAD.out.1 HBAD.out.2 (Nat.le_refl _) HNP.out HQ9.out.1 HBw8.out.size HBw9.out
            exact ⟨⟨1, _, _, _, _, rfl, by decide, HLw9.out.put (i := 0) (by decide) (.pointer (some ⟨hb, 0, none⟩)) (.pointer (some ⟨qb, 0, none⟩)) n a hN2 (fun j hj b1 _ => hcr j hj b1)⟩, by simp [intOf]⟩)
      · clear hi2
        by_cases hbad : badP w1 r1
        · have HNB := fun w => mb_newBadC (cvA (SB + 1)) w1 r1 hbad w
          have HRB := fun w => ref_newBadX true w1 r1 hbad w
          obtain ⟨z, hz⟩ : ∃ z, nbad w1 r1 = z := ⟨_, rfl⟩
          simp only [hz] at HNB HRB
          have HBAD := mhid hbad
          have nz : (z != z) = false := by simp
          clear hbad hz
          go_upto_region 9 with fail
          go_region_held3 (fun w' => (w'.cell? ⟨SB, 0, none⟩ = some (.int .i64 w0) ∧ w'.cell? ⟨SB, 1, none⟩ = some (.int .i64 w1)) ∧ (w'.cell? ⟨SB, 2, none⟩ = some (.int .i64 r0) ∧ w'.cell? ⟨SB, 3, none⟩ = some (.int .i64 r1))) (first | exact s6 | go_keep) ((go_at_call 13; (with_reducible refine (HNB _).mono ?_); rintro e9 w8 ⟨rfl, h9⟩; have bb9 : Below wr.heap.size wr w8 := (by rw [h9]; first | exact Below.refl _ _ | exact drewB _ | exact below_drewNq _ _ _); clear h9; have hBw8 : Below wr.heap.size wr w8 := (by first | exact bb9 | exact (drewB _).trans bb9 | exact (below_drewNq _ _ _).trans bb9); have hLw8 := HLwr.out.later hBw8; obtain ⟨c0, c1, c2, c3, c4⟩ := hLw8.sc.cells; have s6 : (w8.cell? ⟨SB, 0, none⟩ = some (.int .i64 w0) ∧ w8.cell? ⟨SB, 1, none⟩ = some (.int .i64 w1)) ∧ (w8.cell? ⟨SB, 2, none⟩ = some (.int .i64 r0) ∧ w8.cell? ⟨SB, 3, none⟩ = some (.int .i64 r1)) := ⟨⟨c0, c1⟩, c2, c3⟩; have HLw8 := mhid hLw8; have HBw8 := mhid hBw8; clear bb9 hLw8 hBw8))
          go_upto_region 10 with fail
          go_region_held3 (fun w' => (w'.cell? ⟨SB, 0, none⟩ = some (.int .i64 w0) ∧ w'.cell? ⟨SB, 1, none⟩ = some (.int .i64 w1)) ∧ (w'.cell? ⟨SB, 2, none⟩ = some (.int .i64 r0) ∧ w'.cell? ⟨SB, 3, none⟩ = some (.int .i64 r1))) (first | exact s6 | go_keep) ((go_at_call 26; (with_reducible refine (HRB _).mono ?_); rintro e9 w9 ⟨rfl, h9⟩; have bb9 : Below w8.heap.size w8 w9 := (by rw [h9]; first | exact Below.refl _ _ | exact drewB _ | exact below_drewNq _ _ _); clear h9; have hBw9 : Below w8.heap.size w8 w9 := (by first | exact bb9 | exact (drewB _).trans bb9 | exact (below_drewNq _ _ _).trans bb9); have hLw9 := HLw8.out.later hBw9; obtain ⟨c0, c1, c2, c3, c4⟩ := hLw9.sc.cells; have s6 : (w9.cell? ⟨SB, 0, none⟩ = some (.int .i64 w0) ∧ w9.cell? ⟨SB, 1, none⟩ = some (.int .i64 w1)) ∧ (w9.cell? ⟨SB, 2, none⟩ = some (.int .i64 r0) ∧ w9.cell? ⟨SB, 3, none⟩ = some (.int .i64 r1)) := ⟨⟨c0, c1⟩, c2, c3⟩; have HLw9 := mhid hLw9; have HBw9 := mhid hBw9; clear bb9 hLw9 hBw9))
          all_goals (
            clear c0 c1 c2 c3 c4
            have x0 : w9.cell? ⟨SB + 1 + 1, 1, none⟩ = some (pv 1) := by have hh := HLw9.out.pa; unfold World.cell?; rw [show SB + 1 + 1 = SB + 2 from rfl, hh]; rfl
            have x1 : w9.frozen? ⟨SB + 1 + 1, 1, none⟩ = false := frz HLw9.out.pa _
            have x2 : w9.cell? ⟨SB + 1 + 1 + 1, 1, none⟩ = some (qv 1) := by have hh := HLw9.out.qa; unfold World.cell?; rw [show SB + 1 + 1 + 1 = SB + 3 from rfl, hh]; rfl
            have x3 : w9.frozen? ⟨SB + 1 + 1 + 1, 1, none⟩ = false := frz HLw9.out.qa _
            go_wp2_with fail
            exact ⟨⟨2, _, _, _, _, rfl, by decide, HLw9.out.put (i := 1) (by decide) (.pointer none) (.pointer none) 0 (aa 0) (.inl ⟨HBAD.out, rfl, rfl⟩) (fun j _ _ h9 => absurd HBAD.out h9)⟩, by simp [intOf]⟩)
        · obtain ⟨n, hwn⟩ : ∃ n : Nat, w1 = (n : Int) := ⟨w1.toNat, by unfold badP at hbad; omega⟩
          have HNG := fun w => nb_new (SB + 1) n w1 r1 hwn hbad w
          have HRG := fun w => rb_new n w1 r1 hwn hbad w
          have HBAD := mhid (And.intro hbad hwn)
          clear hbad hwn
          go_upto_region 9 with fail
          go_region_held3 (fun w' => (w'.cell? ⟨SB, 0, none⟩ = some (.int .i64 w0) ∧ w'.cell? ⟨SB, 1, none⟩ = some (.int .i64 w1)) ∧ (w'.cell? ⟨SB, 2, none⟩ = some (.int .i64 r0) ∧ w'.cell? ⟨SB, 3, none⟩ = some (.int .i64 r1))) (first | exact s6 | go_keep) ((go_at_call 13; (with_reducible refine (HNG _).mono ?_); rintro e9 w8 ⟨hb, wb, bb, R, rfl, np, bb9⟩; have HNP := mhid np; clear np; have hBw8 : Below wr.heap.size wr w8 := (by first | exact bb9 | exact (drewB _).trans bb9 | exact (below_drewNq _ _ _).trans bb9); have hLw8 := HLwr.out.later hBw8; obtain ⟨c0, c1, c2, c3, c4⟩ := hLw8.sc.cells; have s6 : (w8.cell? ⟨SB, 0, none⟩ = some (.int .i64 w0) ∧ w8.cell? ⟨SB, 1, none⟩ = some (.int .i64 w1)) ∧ (w8.cell? ⟨SB, 2, none⟩ = some (.int .i64 r0) ∧ w8.cell? ⟨SB, 3, none⟩ = some (.int .i64 r1)) := ⟨⟨c0, c1⟩, c2, c3⟩; have HLw8 := mhid hLw8; have HBw8 := mhid hBw8; clear bb9 hLw8 hBw8))
          go_upto_region 10 with fail
          go_region_held3 (fun w' => (w'.cell? ⟨SB, 0, none⟩ = some (.int .i64 w0) ∧ w'.cell? ⟨SB, 1, none⟩ = some (.int .i64 w1)) ∧ (w'.cell? ⟨SB, 2, none⟩ = some (.int .i64 r0) ∧ w'.cell? ⟨SB, 3, none⟩ = some (.int .i64 r1))) (first | exact s6 | go_keep) ((go_at_call 26; (with_reducible refine (HRG _).mono ?_); rintro e9 w9 ⟨qb, pb, fb, rfl, hq, bb9⟩; have HQ9 := mhid (And.intro hq bb9); clear hq; have hBw9 : Below w8.heap.size w8 w9 := (by first | exact bb9 | exact (drewB _).trans bb9 | exact (below_drewNq _ _ _).trans bb9); have hLw9 := HLw8.out.later hBw9; obtain ⟨c0, c1, c2, c3, c4⟩ := hLw9.sc.cells; have s6 : (w9.cell? ⟨SB, 0, none⟩ = some (.int .i64 w0) ∧ w9.cell? ⟨SB, 1, none⟩ = some (.int .i64 w1)) ∧ (w9.cell? ⟨SB, 2, none⟩ = some (.int .i64 r0) ∧ w9.cell? ⟨SB, 3, none⟩ = some (.int .i64 r1)) := ⟨⟨c0, c1⟩, c2, c3⟩; have HLw9 := mhid hLw9; have HBw9 := mhid hBw9; clear bb9 hLw9 hBw9))
          all_goals (
            clear c0 c1 c2 c3 c4
            have x0 : w9.cell? ⟨SB + 1 + 1, 1, none⟩ = some (pv 1) := by have hh := HLw9.out.pa; unfold World.cell?; rw [show SB + 1 + 1 = SB + 2 from rfl, hh]; rfl
            have x1 : w9.frozen? ⟨SB + 1 + 1, 1, none⟩ = false := frz HLw9.out.pa _
            have x2 : w9.cell? ⟨SB + 1 + 1 + 1, 1, none⟩ = some (qv 1) := by have hh := HLw9.out.qa; unfold World.cell?; rw [show SB + 1 + 1 + 1 = SB + 3 from rfl, hh]; rfl
            have x3 : w9.frozen? ⟨SB + 1 + 1 + 1, 1, none⟩ = false := frz HLw9.out.qa _
            go_wp2_with fail
            obtain ⟨a, e1, e2, hN2, hcr⟩ := n2_new HLwr.out n HBAD.out.1 HBAD.out.2 (Nat.le_refl _) HNP.out HQ9.out.1 HBw8.out.size HBw9.out
            exact ⟨⟨2, _, _, _, _, rfl, by decide, HLw9.out.put (i := 1) (by decide) (.pointer (some ⟨hb, 0, none⟩)) (.pointer (some ⟨qb, 0, none⟩)) n a hN2 (fun j hj b1 _ => hcr j hj b1)⟩, by simp [intOf]⟩)
      · clear hi2 c0 c1 c2 c3 c4
        rw [show ((2 : Nat) : Int) = 2 from rfl]
        obtain ⟨aa', hq0⟩ := LQ.start HLwr.out
        obtain ⟨w4, hw4⟩ : ∃ w4, wr.alloc (.cells #[.slice none 0 0, .slice none 0 0, .slice none 0 0, .slice none 0 0] 65) = w4 := ⟨_, rfl⟩
        obtain ⟨sb, hsb⟩ : ∃ sb, wr.heap.size = sb := ⟨_, rfl⟩
        rw [hw4, hsb] at hq0
        have hs0 := sh_new wr (SB + 4) HLwr.out.z
        rw [hw4, hsb] at hs0
        have HQ0 := mhid (And.intro hq0 hs0)
        clear hs0
        have HW4 := mhid hw4
        clear hq0 hw4
        obtain ⟨wo, hwo⟩ : ∃ wo, wo = wr := ⟨_, rfl⟩
        subst hwo
        go_upto_region 16 with fail
        rw [HW4.out]
        clear hsb
        go_wp2_with fail
        go_loopw [18] (fun y wr => ∃ (k : Nat) (ab : Nat → AP), y = .int .i64 (k : Int) ∧ k ≤ N ∧ k ≤ 400 ∧ LQ W SB w0 w1 r0 r1 p N c pv qv nn sb k wr ab ∧ ∃ Vs ms, SH No wr (SB + 4) sb Vs ms ∧ ms ≤ 4 * k) (fun y _ => N - (intOf y).toNat)
        case atStart => exact ⟨0, aa', rfl, Nat.zero_le _, Nat.zero_le _, HQ0.out.1, V0, 0, HQ0.out.2, Nat.zero_le _⟩
        case round =>
          obtain ⟨k, ab, rfl, hk, hk4, hq, Vs, ms, hsh, hms⟩ := hrel
          obtain ⟨c0, c1, c2, c3, c4⟩ := hq.sc.cells
          have hop : OpIn wr p N X := by
            rcases HOP.out.1 with h0 | ⟨b, off, h1, h2, h3⟩
            · exact .inl h0
            · refine .inr ⟨b, off, h1, Nat.lt_of_lt_of_le h2 hq.b.size, fun i hi => ?_⟩
              have h2' : b < SB := by rw [← HSB.out]; exact h2
              obtain ⟨k0, k1, k2, k3, k4⟩ := h3 i hi
              exact ⟨(hq.b.cell (p := ⟨b, off + i * 5, none⟩) h2').trans k0, (hq.b.cell (p := ⟨b, off + i * 5 + 1, none⟩) h2').trans k1, (hq.b.cell (p := ⟨b, off + i * 5 + 2, none⟩) h2').trans k2, (hq.b.cell (p := ⟨b, off + i * 5 + 3, none⟩) h2').trans k3, (hq.b.cell (p := ⟨b, off + i * 5 + 4, none⟩) h2').trans k4⟩
          by_cases hlt : k < N ∧ k < 400
          · have dl : decide ((k : Int) < (N : Int)) = true := by simp; omega
            have dln : decide (k < N) = true := by simp; omega
            have dl4 : decide ((k : Int) < 400) = true := by simp; omega
            have dl4n : decide (k < 400) = true := by simp; omega
            have hme := meas hlt.1
            have ek : IntKind.i64.wrap ((k : Int) + 1) = (k : Int) + 1 := by rw [IntKind.wrap_i64]; omega
            have k0 : (0 : Int) ≤ (k : Int) := by omega
            have k1 : (k : Int) < (N : Int) := by omega
            rcases hop with h0 | ⟨ob, off, hp, hob, hcs⟩
            · omega
            obtain ⟨y0, y1, y2, y3, y4⟩ := hcs k hlt.1
            obtain ⟨⟨op, kd, oa, ob2, ok⟩, hX⟩ : ∃ o, X k = o := ⟨_, rfl⟩
            rw [hX] at y0 y1 y2 y3 y4
            simp only at y0 y1 y2 y3 y4
            have hbit := bit01 op
            obtain ⟨wz, hwz⟩ : ∃ wz, wr.alloc (.cells #[.int .i64 op, .int .i64 kd, .int .i64 oa, .int .i64 ob2, .int .i64 ok] 34) = wz := ⟨_, rfl⟩
            have hbz : Below wr.heap.size wr wz := by rw [← hwz]; exact (Below.refl _ wr).alloc (Nat.le_refl _) _
            have hqz := hq.later hbz
            obtain ⟨A0, hA0⟩ : ∃ A0, wr.heap.size = A0 := ⟨_, rfl⟩
            have hnew : wz.heap[A0]? = some (.cells #[.int .i64 op, .int .i64 kd, .int .i64 oa, .int .i64 ob2, .int .i64 ok] 34 (0, 0)) := by rw [← hwz, ← hA0]; exact World.alloc_heap_new wr _
            have HA9 := mhid hA0
            have HQZ := mhid (And.intro hqz hnew)
            have HSZ : Hid (SH No wz (SB + 4) sb Vs ms ∧ ms ≤ 4 * k) := ⟨hsh.later hbz, hms⟩
            have HI := mhid hlt
            have HWZ := mhid hwz
            have HQR := mhid hq
            subst hp
            clear hq hcs hX hlt hk hk4 hob hbz hqz hnew hwz hsh hms
            go_upto_region 20 with fail
            rw [HWZ.out]
            clear hA0 y0 y1 y2 y3 y4 c0 c1 c2 c3 c4
            have v0 : wz.cell? ⟨A0, 0, none⟩ = some (.int .i64 op) := by unfold World.cell?; rw [HQZ.out.2]; rfl
            have x2 : ∀ e, e < 2 → wz.cell? ⟨SB + 1 + 1 + 1, e, none⟩ = some (qv e) := fun e he => by have hh := HQZ.out.1.qa; unfold World.cell?; rw [show SB + 1 + 1 + 1 = SB + 3 from rfl, hh]; rcases (by omega : e = 0 ∨ e = 1) with rfl | rfl <;> rfl
            have x1 : ∀ e, e < 2 → wz.cell? ⟨SB + 1 + 1, e, none⟩ = some (pv e) := fun e he => by have hh := HQZ.out.1.pa; unfold World.cell?; rw [show SB + 1 + 1 = SB + 2 from rfl, hh]; rcases (by omega : e = 0 ∨ e = 1) with rfl | rfl <;> rfl
            rcases hbit with hbit | hbit
            · have q0 := x2 0 (by decide)
              have p0 := x1 0 (by decide)
              clear x1 x2
              rcases HQZ.out.1.pr 0 (by decide) with ⟨hbd, hqn⟩ | ⟨hg, g2, g3, g4, g5, g6, g7, g8⟩
              · rw [hqn] at q0
                clear hbd hqn
                go_wp2_with fail
                exact ⟨⟨k + 1, ab, rfl, HI.out.1, HI.out.2, HQZ.out.1.up, Vs, ms, HSZ.out.1, Nat.le_trans HSZ.out.2 (by omega)⟩, hme⟩
              · have hg' := hg
                unfold badP at hg'
                have hkk := HI.out.2
                have ha0 : ∀ j, FA (nn 0) (ab 0) j → j ≠ A0 := fun j hj ee => by
                  rcases HQR.out.pr 0 (by decide) with ⟨hb9, _⟩ | ⟨_, _, _, _, h5, _⟩
                  · exact hg hb9
                  · have h6 := (FA_lt h5 hj).2
                    have h7 := HA9.out
                    omega
                have hx0 : SB + 1 ≠ A0 ∧ SB + 4 ≤ A0 := by have h6 := HQR.out.z; have h7 := HA9.out; omega
                have HAN : Hid (∀ w, Below wz.heap.size wz w → Calls Try.prog 27 #[.pointer (some ⟨(ab 0).hb, 0, none⟩), .pointer (some ⟨(ab 0).qb, 0, none⟩), .agg #[.int .i64 op, .int .i64 kd, .int .i64 oa, .int .i64 ob2, .int .i64 ok], .int .i64 (k : Int), .pointer (some ⟨sb, 0, none⟩)] w fun e W' => e = .returned (.bool true) ∧ (∃ aa', LQ W SB w0 w1 r0 r1 (some ⟨ob, off, none⟩) N c pv qv nn sb (k + 1) W' aa') ∧ ((∃ Vs ms, SH No W' (SB + 4) sb Vs ms ∧ ms ≤ 4 * (k + 1)) ∧ (kd ≠ 4 → W'.heap[SB + 1]? = wz.heap[SB + 1]?)) ∧ W'.heap[SB + 2]? = wz.heap[SB + 2]? ∧ W'.heap[SB + 3]? = wz.heap[SB + 3]? ∧ W'.heap[A0]? = wz.heap[A0]?) := fun w hw => by
                  have hlw := HQZ.out.1.later hw
                  have := answer_any (X := fun k => k = SB + 1) (J := SA.Ask (SB + 1)) (lt := SA.klt kcK) (ab 0) k (by omega) (by omega) (by omega) (by omega) (fun j hj => by have : j = SB + 1 := hj; omega) g6 sa_klt (order_sorts (SB + 1)) (fun w w' ⟨z, hz⟩ hb => ⟨z, (hb.block (SB + 1) (by omega)).trans hz⟩) op kd oa ob2 ok w (g5.below hw) hlw.ak
                  rw [g8] at this
                  refine this.mono fun e W' ⟨h1, h2, h3, h9, a', h4, h5, h6⟩ => ⟨h1, hlw.step 0 (by decide) hg h2 h3 a' h4 h5 h6, ⟨⟨a'.V, a'.m, by have q9 := h4.sh; rw [h5.i3, g8] at q9; exact q9, by have q9 := h5.i4; omega⟩, fun hk9 => ((h9 hk9).block (SB + 1) (by omega)).trans (hw.block _ (by have q9 := HQZ.out.1.z; omega))⟩, (h2.block (SB + 2) (by omega) (fun ee => by have : SB + 2 = SB + 1 := ee; omega)).trans (hw.block _ (lt_of_block HQZ.out.1.pa)), (h2.block (SB + 3) (by omega) (fun ee => by have : SB + 3 = SB + 1 := ee; omega)).trans (hw.block _ (lt_of_block HQZ.out.1.qa)), (h5.kk A0 (Nat.lt_of_lt_of_le (lt_of_block HQZ.out.2) hw.size) (fun ee => ha0 A0 ee rfl) (fun ee => by have : A0 = SB + 1 := ee; omega)).trans (hw.block _ (lt_of_block HQZ.out.2))⟩
                obtain ⟨hbE, hhb⟩ : ∃ x, (ab 0).hb = x := ⟨_, rfl⟩
                obtain ⟨qbE, hqb⟩ : ∃ x, (ab 0).qb = x := ⟨_, rfl⟩
                rw [g4, hqb] at q0
                rw [g3, hhb] at p0
                rw [hhb, hqb] at HAN
                have CELLS : Hid (∀ w : World, w.heap[SB + 2]? = wz.heap[SB + 2]? → w.heap[SB + 3]? = wz.heap[SB + 3]? → w.heap[A0]? = wz.heap[A0]? → (((w.cell? ⟨SB + 1 + 1, 0, none⟩ = some (.pointer (some ⟨hbE, 0, none⟩)) ∧ w.cell? ⟨SB + 1 + 1 + 1, 0, none⟩ = some (.pointer (some ⟨qbE, 0, none⟩))) ∧ (w.cell? ⟨A0, 0, none⟩ = some (.int .i64 op) ∧ w.cell? ⟨A0, 1, none⟩ = some (.int .i64 kd))) ∧ (w.cell? ⟨A0, 2, none⟩ = some (.int .i64 oa) ∧ (w.cell? ⟨A0, 3, none⟩ = some (.int .i64 ob2) ∧ w.cell? ⟨A0, 4, none⟩ = some (.int .i64 ok))))) := fun w e1 e2 e3 => by
                  rw [HQZ.out.2] at e3
                  refine ⟨⟨⟨?_, ?_⟩, ?_, ?_⟩, ?_, ?_, ?_⟩
                  · rw [← p0]; unfold World.cell?; rw [show SB + 1 + 1 = SB + 2 from rfl, e1]
                  · rw [← q0]; unfold World.cell?; rw [show SB + 1 + 1 + 1 = SB + 3 from rfl, e2]
                  · unfold World.cell?; rw [e3]; rfl
                  · unfold World.cell?; rw [e3]; rfl
                  · unfold World.cell?; rw [e3]; rfl
                  · unfold World.cell?; rw [e3]; rfl
                  · unfold World.cell?; rw [e3]; rfl
                obtain ⟨⟨⟨t0, t1⟩, t2, t3⟩, t4, t5, t6⟩ := CELLS.out wz rfl rfl rfl
                obtain ⟨za, hza⟩ := HQZ.out.1.ak
                have HZA := mhid hza
                have xa : wz.cell? ⟨SB + 1, 0, none⟩ = some (.int .i64 za) := by unfold World.cell?; rw [hza]; rfl
                clear hg hg' g2 g3 g4 g5 g6 g7 g8 hkk ha0 hx0 hhb hqb hza v0 p0 q0
                go_upto_region 23 with fail
                clear xa
                go_region_held3 (fun w' => (((w'.cell? ⟨SB + 1 + 1, 0, none⟩ = some (.pointer (some ⟨hbE, 0, none⟩)) ∧ w'.cell? ⟨SB + 1 + 1 + 1, 0, none⟩ = some (.pointer (some ⟨qbE, 0, none⟩))) ∧ (w'.cell? ⟨A0, 0, none⟩ = some (.int .i64 op) ∧ w'.cell? ⟨A0, 1, none⟩ = some (.int .i64 kd))) ∧ (w'.cell? ⟨A0, 2, none⟩ = some (.int .i64 oa) ∧ (w'.cell? ⟨A0, 3, none⟩ = some (.int .i64 ob2) ∧ w'.cell? ⟨A0, 4, none⟩ = some (.int .i64 ok))))) (first | exact s6 | go_keep) ((go_at_call 27; (with_reducible refine (HAN.out _ ?_).mono ?_); (first | exact Below.refl _ _ | exact drewB _ | exact below_drewNq _ _ _); rintro e9 w9 ⟨rfl, l9, l8, i1, i2, i3⟩; have s6 := CELLS.out w9 i1 i2 i3; obtain ⟨⟨⟨t0, t1⟩, t2, t3⟩, t4, t5, t6⟩ := s6; have s6 : (((w9.cell? ⟨SB + 1 + 1, 0, none⟩ = some (.pointer (some ⟨hbE, 0, none⟩)) ∧ w9.cell? ⟨SB + 1 + 1 + 1, 0, none⟩ = some (.pointer (some ⟨qbE, 0, none⟩))) ∧ (w9.cell? ⟨A0, 0, none⟩ = some (.int .i64 op) ∧ w9.cell? ⟨A0, 1, none⟩ = some (.int .i64 kd))) ∧ (w9.cell? ⟨A0, 2, none⟩ = some (.int .i64 oa) ∧ (w9.cell? ⟨A0, 3, none⟩ = some (.int .i64 ob2) ∧ w9.cell? ⟨A0, 4, none⟩ = some (.int .i64 ok)))) := ⟨⟨⟨t0, t1⟩, t2, t3⟩, t4, t5, t6⟩; have L9 := mhid (And.intro l9 (And.intro l8 i3)); clear l9 l8 i1 i2 i3))
                all_goals (
                  clear t0 t1 t2 t3 t4 t5 t6
                  obtain ⟨Vt, mt, hst, hmt⟩ := L9.out.2.1.1
                  have HST := mhid (And.intro hst hmt)
                  have ta : ∀ w' : World, Below w9.heap.size w9 w' → w'.cell? ⟨A0, 1, none⟩ = some (.int .i64 kd) := fun w' hw' => by
                    have h8 := (hw'.block A0 (lt_of_block (L9.out.2.2.trans HQZ.out.2))).trans (L9.out.2.2.trans HQZ.out.2)
                    unfold World.cell?; rw [h8]; rfl
                  have tz : kd ≠ 4 → ∀ w' : World, Below w9.heap.size w9 w' → w'.cell? ⟨SB + 1, 0, none⟩ = some (.int .i64 za) := fun hk9 w' hw' => by
                    have h7 := (L9.out.2.1.2 hk9).trans HZA.out
                    have h8 := (hw'.block (SB + 1) (lt_of_block h7)).trans h7
                    unfold World.cell?; rw [h8]; rfl
                  have HWH : Hid (∀ w', Below w9.heap.size w9 w' → Calls Try.prog 52 #[.pointer (some ⟨sb, 0, none⟩)] w' fun e w8 => e = .returned (.bool true) ∧ Below w9.heap.size w9 w8) := fun w' hw' => ((hst.later hw').whole (by have h8 := HI.out.2; omega)).mono fun e w8 ⟨a1, a2⟩ => ⟨a1, hw'.trans (a2.mono hw'.size)⟩
                  have HTA := mhid ta
                  have HTZ := mhid tz
                  clear hst hmt ta tz
                  by_cases hkd : kd = 4
                  · have dk : (kd != 4) = false := by simp [hkd]
                    clear hkd
                    go_wp2_with (go_at_call 52; (with_reducible refine (HWH.out _ ?_).mono ?_); (first | exact Below.refl _ _ | exact drewB _ | exact below_drewNq _ _ _); rintro e8 w8 ⟨rfl, b8⟩; have ta := HTA.out w8 b8; have HB8 := mhid b8; clear b8)
                    obtain ⟨ac, hac⟩ := L9.out.1
                    exact ⟨⟨k + 1, ac, rfl, HI.out.1, HI.out.2, hac.later HB8.out, Vt, mt, HST.out.1.later HB8.out, HST.out.2⟩, hme⟩
                  · have dk : (kd != 4) = true := by simp [hkd]
                    have dz : (za != za) = false := by simp
                    have HTZ2 := mhid (HTZ.out hkd)
                    clear hkd
                    go_wp2_with (go_at_call 52; (with_reducible refine (HWH.out _ ?_).mono ?_); (first | exact Below.refl _ _ | exact drewB _ | exact below_drewNq _ _ _); rintro e8 w8 ⟨rfl, b8⟩; have ta := HTA.out w8 b8; have tz := HTZ2.out w8 b8; have HB8 := mhid b8; clear b8)
                    obtain ⟨ac, hac⟩ := L9.out.1
                    exact ⟨⟨k + 1, ac, rfl, HI.out.1, HI.out.2, hac.later HB8.out, Vt, mt, HST.out.1.later HB8.out, HST.out.2⟩, hme⟩)
            · have q0 := x2 1 (by decide)
              have p0 := x1 1 (by decide)
              clear x1 x2
              rcases HQZ.out.1.pr 1 (by decide) with ⟨hbd, hqn⟩ | ⟨hg, g2, g3, g4, g5, g6, g7, g8⟩
              · rw [hqn] at q0
                clear hbd hqn
                go_wp2_with fail
                exact ⟨⟨k + 1, ab, rfl, HI.out.1, HI.out.2, HQZ.out.1.up, Vs, ms, HSZ.out.1, Nat.le_trans HSZ.out.2 (by omega)⟩, hme⟩
              · have hg' := hg
                unfold badP at hg'
                have hkk := HI.out.2
                have ha0 : ∀ j, FA (nn 1) (ab 1) j → j ≠ A0 := fun j hj ee => by
                  rcases HQR.out.pr 1 (by decide) with ⟨hb9, _⟩ | ⟨_, _, _, _, h5, _⟩
                  · exact hg hb9
                  · have h6 := (FA_lt h5 hj).2
                    have h7 := HA9.out
                    omega
                have hx0 : SB + 1 ≠ A0 ∧ SB + 4 ≤ A0 := by have h6 := HQR.out.z; have h7 := HA9.out; omega
                have HAN : Hid (∀ w, Below wz.heap.size wz w → Calls Try.prog 27 #[.pointer (some ⟨(ab 1).hb, 0, none⟩), .pointer (some ⟨(ab 1).qb, 0, none⟩), .agg #[.int .i64 op, .int .i64 kd, .int .i64 oa, .int .i64 ob2, .int .i64 ok], .int .i64 (k : Int), .pointer (some ⟨sb, 0, none⟩)] w fun e W' => e = .returned (.bool true) ∧ (∃ aa', LQ W SB w0 w1 r0 r1 (some ⟨ob, off, none⟩) N c pv qv nn sb (k + 1) W' aa') ∧ ((∃ Vs ms, SH No W' (SB + 4) sb Vs ms ∧ ms ≤ 4 * (k + 1)) ∧ (kd ≠ 4 → W'.heap[SB + 1]? = wz.heap[SB + 1]?)) ∧ W'.heap[SB + 2]? = wz.heap[SB + 2]? ∧ W'.heap[SB + 3]? = wz.heap[SB + 3]? ∧ W'.heap[A0]? = wz.heap[A0]?) := fun w hw => by
                  have hlw := HQZ.out.1.later hw
                  have := answer_any (X := fun k => k = SB + 1) (J := SA.Ask (SB + 1)) (lt := SA.klt kcK) (ab 1) k (by omega) (by omega) (by omega) (by omega) (fun j hj => by have : j = SB + 1 := hj; omega) g6 sa_klt (order_sorts (SB + 1)) (fun w w' ⟨z, hz⟩ hb => ⟨z, (hb.block (SB + 1) (by omega)).trans hz⟩) op kd oa ob2 ok w (g5.below hw) hlw.ak
                  rw [g8] at this
                  refine this.mono fun e W' ⟨h1, h2, h3, h9, a', h4, h5, h6⟩ => ⟨h1, hlw.step 1 (by decide) hg h2 h3 a' h4 h5 h6, ⟨⟨a'.V, a'.m, by have q9 := h4.sh; rw [h5.i3, g8] at q9; exact q9, by have q9 := h5.i4; omega⟩, fun hk9 => ((h9 hk9).block (SB + 1) (by omega)).trans (hw.block _ (by have q9 := HQZ.out.1.z; omega))⟩, (h2.block (SB + 2) (by omega) (fun ee => by have : SB + 2 = SB + 1 := ee; omega)).trans (hw.block _ (lt_of_block HQZ.out.1.pa)), (h2.block (SB + 3) (by omega) (fun ee => by have : SB + 3 = SB + 1 := ee; omega)).trans (hw.block _ (lt_of_block HQZ.out.1.qa)), (h5.kk A0 (Nat.lt_of_lt_of_le (lt_of_block HQZ.out.2) hw.size) (fun ee => ha0 A0 ee rfl) (fun ee => by have : A0 = SB + 1 := ee; omega)).trans (hw.block _ (lt_of_block HQZ.out.2))⟩
                obtain ⟨hbE, hhb⟩ : ∃ x, (ab 1).hb = x := ⟨_, rfl⟩
                obtain ⟨qbE, hqb⟩ : ∃ x, (ab 1).qb = x := ⟨_, rfl⟩
                rw [g4, hqb] at q0
                rw [g3, hhb] at p0
                rw [hhb, hqb] at HAN
                have CELLS : Hid (∀ w : World, w.heap[SB + 2]? = wz.heap[SB + 2]? → w.heap[SB + 3]? = wz.heap[SB + 3]? → w.heap[A0]? = wz.heap[A0]? → (((w.cell? ⟨SB + 1 + 1, 1, none⟩ = some (.pointer (some ⟨hbE, 0, none⟩)) ∧ w.cell? ⟨SB + 1 + 1 + 1, 1, none⟩ = some (.pointer (some ⟨qbE, 0, none⟩))) ∧ (w.cell? ⟨A0, 0, none⟩ = some (.int .i64 op) ∧ w.cell? ⟨A0, 1, none⟩ = some (.int .i64 kd))) ∧ (w.cell? ⟨A0, 2, none⟩ = some (.int .i64 oa) ∧ (w.cell? ⟨A0, 3, none⟩ = some (.int .i64 ob2) ∧ w.cell? ⟨A0, 4, none⟩ = some (.int .i64 ok))))) := fun w e1 e2 e3 => by
                  rw [HQZ.out.2] at e3
                  refine ⟨⟨⟨?_, ?_⟩, ?_, ?_⟩, ?_, ?_, ?_⟩
                  · rw [← p0]; unfold World.cell?; rw [show SB + 1 + 1 = SB + 2 from rfl, e1]
                  · rw [← q0]; unfold World.cell?; rw [show SB + 1 + 1 + 1 = SB + 3 from rfl, e2]
                  · unfold World.cell?; rw [e3]; rfl
                  · unfold World.cell?; rw [e3]; rfl
                  · unfold World.cell?; rw [e3]; rfl
                  · unfold World.cell?; rw [e3]; rfl
                  · unfold World.cell?; rw [e3]; rfl
                obtain ⟨⟨⟨t0, t1⟩, t2, t3⟩, t4, t5, t6⟩ := CELLS.out wz rfl rfl rfl
                obtain ⟨za, hza⟩ := HQZ.out.1.ak
                have HZA := mhid hza
                have xa : wz.cell? ⟨SB + 1, 0, none⟩ = some (.int .i64 za) := by unfold World.cell?; rw [hza]; rfl
                clear hg hg' g2 g3 g4 g5 g6 g7 g8 hkk ha0 hx0 hhb hqb hza v0 p0 q0
                go_upto_region 23 with fail
                clear xa
                go_region_held3 (fun w' => (((w'.cell? ⟨SB + 1 + 1, 1, none⟩ = some (.pointer (some ⟨hbE, 0, none⟩)) ∧ w'.cell? ⟨SB + 1 + 1 + 1, 1, none⟩ = some (.pointer (some ⟨qbE, 0, none⟩))) ∧ (w'.cell? ⟨A0, 0, none⟩ = some (.int .i64 op) ∧ w'.cell? ⟨A0, 1, none⟩ = some (.int .i64 kd))) ∧ (w'.cell? ⟨A0, 2, none⟩ = some (.int .i64 oa) ∧ (w'.cell? ⟨A0, 3, none⟩ = some (.int .i64 ob2) ∧ w'.cell? ⟨A0, 4, none⟩ = some (.int .i64 ok))))) (first | exact s6 | go_keep) ((go_at_call 27; (with_reducible refine (HAN.out _ ?_).mono ?_); (first | exact Below.refl _ _ | exact drewB _ | exact below_drewNq _ _ _); rintro e9 w9 ⟨rfl, l9, l8, i1, i2, i3⟩; have s6 := CELLS.out w9 i1 i2 i3; obtain ⟨⟨⟨t0, t1⟩, t2, t3⟩, t4, t5, t6⟩ := s6; have s6 : (((w9.cell? ⟨SB + 1 + 1, 1, none⟩ = some (.pointer (some ⟨hbE, 0, none⟩)) ∧ w9.cell? ⟨SB + 1 + 1 + 1, 1, none⟩ = some (.pointer (some ⟨qbE, 0, none⟩))) ∧ (w9.cell? ⟨A0, 0, none⟩ = some (.int .i64 op) ∧ w9.cell? ⟨A0, 1, none⟩ = some (.int .i64 kd))) ∧ (w9.cell? ⟨A0, 2, none⟩ = some (.int .i64 oa) ∧ (w9.cell? ⟨A0, 3, none⟩ = some (.int .i64 ob2) ∧ w9.cell? ⟨A0, 4, none⟩ = some (.int .i64 ok)))) := ⟨⟨⟨t0, t1⟩, t2, t3⟩, t4, t5, t6⟩; have L9 := mhid (And.intro l9 (And.intro l8 i3)); clear l9 l8 i1 i2 i3))
                all_goals (
                  clear t0 t1 t2 t3 t4 t5 t6
                  obtain ⟨Vt, mt, hst, hmt⟩ := L9.out.2.1.1
                  have HST := mhid (And.intro hst hmt)
                  have ta : ∀ w' : World, Below w9.heap.size w9 w' → w'.cell? ⟨A0, 1, none⟩ = some (.int .i64 kd) := fun w' hw' => by
                    have h8 := (hw'.block A0 (lt_of_block (L9.out.2.2.trans HQZ.out.2))).trans (L9.out.2.2.trans HQZ.out.2)
                    unfold World.cell?; rw [h8]; rfl
                  have tz : kd ≠ 4 → ∀ w' : World, Below w9.heap.size w9 w' → w'.cell? ⟨SB + 1, 0, none⟩ = some (.int .i64 za) := fun hk9 w' hw' => by
                    have h7 := (L9.out.2.1.2 hk9).trans HZA.out
                    have h8 := (hw'.block (SB + 1) (lt_of_block h7)).trans h7
                    unfold World.cell?; rw [h8]; rfl
                  have HWH : Hid (∀ w', Below w9.heap.size w9 w' → Calls Try.prog 52 #[.pointer (some ⟨sb, 0, none⟩)] w' fun e w8 => e = .returned (.bool true) ∧ Below w9.heap.size w9 w8) := fun w' hw' => ((hst.later hw').whole (by have h8 := HI.out.2; omega)).mono fun e w8 ⟨a1, a2⟩ => ⟨a1, hw'.trans (a2.mono hw'.size)⟩
                  have HTA := mhid ta
                  have HTZ := mhid tz
                  clear hst hmt ta tz
                  by_cases hkd : kd = 4
                  · have dk : (kd != 4) = false := by simp [hkd]
                    clear hkd
                    go_wp2_with (go_at_call 52; (with_reducible refine (HWH.out _ ?_).mono ?_); (first | exact Below.refl _ _ | exact drewB _ | exact below_drewNq _ _ _); rintro e8 w8 ⟨rfl, b8⟩; have ta := HTA.out w8 b8; have HB8 := mhid b8; clear b8)
                    obtain ⟨ac, hac⟩ := L9.out.1
                    exact ⟨⟨k + 1, ac, rfl, HI.out.1, HI.out.2, hac.later HB8.out, Vt, mt, HST.out.1.later HB8.out, HST.out.2⟩, hme⟩
                  · have dk : (kd != 4) = true := by simp [hkd]
                    have dz : (za != za) = false := by simp
                    have HTZ2 := mhid (HTZ.out hkd)
                    clear hkd
                    go_wp2_with (go_at_call 52; (with_reducible refine (HWH.out _ ?_).mono ?_); (first | exact Below.refl _ _ | exact drewB _ | exact below_drewNq _ _ _); rintro e8 w8 ⟨rfl, b8⟩; have ta := HTA.out w8 b8; have tz := HTZ2.out w8 b8; have HB8 := mhid b8; clear b8)
                    obtain ⟨ac, hac⟩ := L9.out.1
                    exact ⟨⟨k + 1, ac, rfl, HI.out.1, HI.out.2, hac.later HB8.out, Vt, mt, HST.out.1.later HB8.out, HST.out.2⟩, hme⟩)
          · have HFI : Hid (∀ w', Below wr.heap.size wr w' → Calls Try.prog 53 #[.pointer (some ⟨sb, 0, none⟩)] w' fun e w8 => e = .returned (.bool true) ∧ Below W.heap.size W w8) := fun w' hw' => ((hsh.later hw').ends (Nat.le_trans hq.z hw'.size) (by omega)).mono fun e w8 ⟨a1, a2⟩ => ⟨a1, by rw [HSB.out]; exact (hq.b.trans (hw'.mono (by have := hq.z; omega))).trans (a2.mono (by omega))⟩
            have stop : (decide ((k : Int) < (N : Int)) = false ∧ decide (k < N) = false) ∨ ((decide ((k : Int) < (N : Int)) = true ∧ decide (k < N) = true) ∧ (decide ((k : Int) < 400) = false ∧ decide (k < 400) = false)) := by
              by_cases h8 : k < N
              · exact .inr ⟨⟨by simp; omega, by simp; omega⟩, by simp; omega, by simp; omega⟩
              · exact .inl ⟨by simp; omega, by simp; omega⟩
            clear hop hq hlt hk hk4 hsh hms
            rcases stop with ⟨dl, dln⟩ | ⟨⟨dl, dln⟩, dl4, dl4n⟩
            all_goals (
              go_wp2_with (go_at_call 53; (with_reducible refine (HFI.out _ ?_).mono ?_); (first | exact Below.refl _ _ | exact drewB _ | exact below_drewNq _ _ _); rintro e9 w9 ⟨rfl, b9⟩)
              go_ret
              exact ⟨rfl, b9⟩))
set_option maxRecDepth 100000 in
set_option maxHeartbeats 8000000 in
theorem all_law (w0 w1 r0 r1 : Int) (p : Option Addr) (N c : Nat) (X : Nat → OpV) (W : World) (h : OpIn W p N X) (hN : N * 40 ≤ 140737488351232) :
    Calls Try.prog 12 #[.agg #[.int .i64 w0, .int .i64 w1, .int .i64 r0, .int .i64 r1, .slice p N c]] W fun e W' => e = .returned (.bool true) ∧ Below W.heap.size W W' := by
  obtain ⟨W1, hW1⟩ : ∃ W1, W.alloc (.cells #[.int .i64 w0, .int .i64 w1, .int .i64 r0, .int .i64 r1, .slice p N c] 25) = W1 := ⟨_, rfl⟩
  have hb1 : Below W.heap.size W W1 := by rw [← hW1]; exact (Below.refl _ W).alloc (Nat.le_refl _) _
  have hs1 : ScAt W1 W.heap.size w0 w1 r0 r1 p N c := by rw [← hW1]; exact World.alloc_heap_new W _
  have hp := fun w (hb : Below W1.heap.size W1 w) => plays_all w0 w1 r0 r1 p N c X w ((h.later hb1).later hb) hN
  have HP : Hid (∀ w, Below W1.heap.size W1 w → Calls Try.prog 28 #[.agg #[.int .i64 w0, .int .i64 w1, .int .i64 r0, .int .i64 r1, .slice p N c], .int .i64 1, .int .i64 7] w fun e W' => e = .returned (.bool true) ∧ Below W.heap.size W W') := fun w hb => (hp w hb).mono fun e w' ⟨h1, h2⟩ => ⟨h1, hb1.trans ((hb.trans (h2.mono hb.size)).mono hb1.size)⟩
  have HW1 := mhid hW1
  obtain ⟨SB, hSB⟩ : ∃ SB, W.heap.size = SB := ⟨_, rfl⟩
  rw [hSB] at hs1
  obtain ⟨c0, c1, c2, c3, c4⟩ := hs1.cells
  clear h hs1 hb1 hW1 hp
  go_enter Try.func12, Try.ntmps12
  go_upto_region 1 with fail
  rw [HW1.out]
  go_wp2_with (go_at_call 28; (with_reducible refine (HP.out _ ?_).mono ?_); (first | exact Below.refl _ _ | exact drewB _ | exact below_drewNq _ _ _); rintro e9 w9 ⟨rfl, b9⟩)
  go_ret
  exact ⟨rfl, b9⟩

end Go.Proofs.Ytkfjcbnhohipgaa
