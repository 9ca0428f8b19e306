import Derived.Test.YtieanhmkcbcdkaaM24
import Derived.Test.YtieanhmkcbcdkaaM25
namespace Go.Proofs.Ytieanhmkcbcdkaa
open Go.ChangeShapes Go.WideShapes Go.ChangeAt Go.RowKit
set_option linter.unusedVariables false
set_option linter.unusedSimpArgs false

theorem EfEq.symm {E G : Ef} (h : EfEq E G) : EfEq G E := ⟨h.code.symm, h.nw.symm, fun j hj => (h.wd j (by rw [h.nw]; exact hj)).symm, h.dice.symm, h.sent.symm, h.on.symm, fun j hj => (h.oF j (by rw [h.on]; exact hj)).symm, h.used.symm⟩
theorem made_straight : Straight madeP (fun i => [0, 1, 2, 1, 0, 1, 2, 3, 0].getD i 0) :=
  ⟨by decide +kernel, by decide +kernel, by decide +kernel, ⟨0, by decide +kernel, rfl⟩, by decide +kernel, by decide +kernel, (by decide +kernel : ∀ i, i < 8 → _) |> fun h i hi => h i (Nat.lt_of_succ_lt_succ hi), rfl, (by decide +kernel : ∀ i, i < 8 → _) |> fun h i hi => h i (Nat.lt_of_succ_lt_succ hi), by decide +kernel, by decide +kernel⟩
set_option maxRecDepth 100000 in
theorem made_run : (runOf madeP madeC (fun _ => 30) 77 3).1 = 0 ∧ (runOf madeP madeC (fun _ => 30) 77 3).2.wd 0 = 35 ∧ (runOf madeP madeC (fun _ => 30) 77 3).2.dice = 77 ∧ (runOf madeP madeC (fun _ => 30) 77 3).2.sent = 4 ∧ (runOf madeP madeC (fun _ => 30) 77 3).2.on = 1 ∧ (runOf madeP madeC (fun _ => 30) 77 3).2.used = 9 := by
  refine ⟨by kernel_rfl, by kernel_rfl, by kernel_rfl, by kernel_rfl, by kernel_rfl, by kernel_rfl⟩
set_option maxRecDepth 100000 in
theorem made_sent6 : (runOf madeP madeC (fun _ => 30) 77 3).2.oF 0 = madeE.oF 0 ∧ (runOf madeP madeC (fun _ => 30) 77 3).2.oF 1 = madeE.oF 1 ∧ (runOf madeP madeC (fun _ => 30) 77 3).2.oF 2 = madeE.oF 2 ∧ (runOf madeP madeC (fun _ => 30) 77 3).2.oF 3 = madeE.oF 3 ∧ (runOf madeP madeC (fun _ => 30) 77 3).2.oF 4 = madeE.oF 4 ∧ (runOf madeP madeC (fun _ => 30) 77 3).2.oF 5 = madeE.oF 5 := by
  refine ⟨by kernel_rfl, by kernel_rfl, by kernel_rfl, by kernel_rfl, by kernel_rfl, by kernel_rfl⟩
theorem made_sent : ∀ j, j < 6 → (runOf madeP madeC (fun _ => 30) 77 3).2.oF j = madeE.oF j := fun j hj => by
  obtain ⟨h0, h1, h2, h3, h4, h5⟩ := made_sent6
  have : j = 0 ∨ j = 1 ∨ j = 2 ∨ j = 3 ∨ j = 4 ∨ j = 5 := by omega
  rcases this with rfl | rfl | rfl | rfl | rfl | rfl
  · exact h0
  · exact h1
  · exact h2
  · exact h3
  · exact h4
  · exact h5
theorem made_eff : EfEq (effP madeP madeC 1 (fun _ => 30) 77 3) madeE := by
  have hf : fitsB madeP madeC 1 = true := by decide +kernel
  have hen : madeP.en madeC.kind.toNat ≠ -1 := by decide +kernel
  obtain ⟨h1, h2, h3, h4, h5, h6⟩ := made_run
  have e : effP madeP madeC 1 (fun _ => 30) 77 3 = ⟨0, 1, (runOf madeP madeC (fun _ => 30) 77 3).2.wd, (runOf madeP madeC (fun _ => 30) 77 3).2.dice, (runOf madeP madeC (fun _ => 30) 77 3).2.sent, (runOf madeP madeC (fun _ => 30) 77 3).2.on, (runOf madeP madeC (fun _ => 30) 77 3).2.oF, (runOf madeP madeC (fun _ => 30) 77 3).2.used⟩ := by
    unfold effP
    rw [if_neg (by rw [made_straight.ok]; simp), if_neg (by rw [hf]; simp), if_neg hen, if_neg (by rw [h1]; simp)]
  rw [e]
  refine ⟨rfl, rfl, fun j hj => ?_, h3, h4, h5, fun j hj => made_sent j ?_, h6⟩
  · obtain rfl : j = 0 := by have : j < 1 := hj; omega
    exact h2
  · have : j < (runOf madeP madeC (fun _ => 30) 77 3).2.on * 6 := hj
    omega
theorem cell_of {W : World} {g : Nat} {cs : Array Value} {t : TypeId} (h : W.heap[g]? = some (.cells cs t (0, 0))) (j : Nat) : W.cell? ⟨g, j, none⟩ = cs[j]? := by
  unfold World.cell?
  rw [h]
  rfl
theorem MadeW.prog {w W : World} (h : MadeW w W) : PAt W madeP (madeV w.heap.size) := by
  refine ⟨.inr ⟨_, _, rfl, (Array.getElem?_eq_some_iff.1 h.code).1, fun j hj => ?_⟩, .inr ⟨_, _, rfl, (Array.getElem?_eq_some_iff.1 h.en).1, fun j hj => ?_⟩⟩
  · have hj' : j < 9 := hj
    have : j = 0 ∨ j = 1 ∨ j = 2 ∨ j = 3 ∨ j = 4 ∨ j = 5 ∨ j = 6 ∨ j = 7 ∨ j = 8 := by omega
    rcases this with rfl | rfl | rfl | rfl | rfl | rfl | rfl | rfl | rfl
    all_goals exact ⟨(cell_of h.code _).trans rfl, (cell_of h.code _).trans rfl, (cell_of h.code _).trans rfl⟩
  · have hj' : j < 2 := hj
    have : j = 0 ∨ j = 1 := by omega
    rcases this with rfl | rfl
    all_goals exact (cell_of h.en _).trans rfl
theorem MadeW.call {w W : World} (h : MadeW w W) : CallAt W madeC (some ⟨w.heap.size + 6, 0, none⟩) 1 1 (fun _ => 30) 77 3 := by
  refine ⟨.inr ⟨_, _, rfl, (Array.getElem?_eq_some_iff.1 h.wd).1, fun j hj => ?_⟩, (fun h => by cases h), by omega, ⟨⟨by decide, by decide⟩, ⟨by decide, by decide⟩, ⟨by decide, by decide⟩, ⟨by decide, by decide⟩⟩, fun _ => ⟨by decide, by decide⟩, ⟨by decide, by decide⟩, ⟨by decide, by decide⟩⟩
  obtain rfl : j = 0 := by omega
  exact (cell_of h.wd _).trans rfl
theorem MadeW.want {w W : World} (h : MadeW w W) : EfL W (.agg #[.int .i64 0, .slice (some ⟨w.heap.size + 9, 0, none⟩) 1 1, .int .u64 77, .int .u64 4, .slice (some ⟨w.heap.size + 8, 0, none⟩) 1 1, .int .i64 9]) madeE := by
  refine ⟨_, _, _, _, rfl, .inr ⟨_, _, rfl, (Array.getElem?_eq_some_iff.1 h.wo).1, fun j hj => ?_⟩, .inr ⟨_, _, rfl, (Array.getElem?_eq_some_iff.1 h.ev).1, fun j hj => ?_⟩⟩
  · have hj' : j < 1 := hj
    obtain rfl : j = 0 := by omega
    exact (cell_of h.wo _).trans rfl
  · have hj' : j < 6 := hj
    have : j = 0 ∨ j = 1 ∨ j = 2 ∨ j = 3 ∨ j = 4 ∨ j = 5 := by omega
    rcases this with rfl | rfl | rfl | rfl | rfl | rfl
    all_goals exact (cell_of h.ev _).trans rfl
theorem madeE_sh : EvSh madeE.on madeE.oF := fun i hi => by
  have hi' : i < 1 := hi
  obtain rfl : i = 0 := by omega
  exact ⟨15, 2, 3, 2, 1, 7, rfl, rfl, rfl, rfl, rfl, rfl⟩
theorem EvSh.congr {n m : Nat} {F G : Nat → Value} (h : EvSh n F) (hn : n = m) (he : ∀ j, j < n * 6 → F j = G j) : EvSh m G := fun i hi => by
  subst hn
  obtain ⟨t, s, q, d, k, x, e0, e1, e2, e3, e4, e5⟩ := h i hi
  exact ⟨t, s, q, d, k, x, by rw [← he _ (by omega), e0], by rw [← he _ (by omega), e1], by rw [← he _ (by omega), e2], by rw [← he _ (by omega), e3], by rw [← he _ (by omega), e4], by rw [← he _ (by omega), e5]⟩
theorem three {w1 w2 : World} {o0 o1 o2 : Obj} (h : ((w1.alloc o0).alloc o1).alloc o2 = w2) : w2.heap[w1.heap.size]? = some o0 ∧ w2.heap[w1.heap.size + 1]? = some o1 ∧ w2.heap[w1.heap.size + 2]? = some o2 ∧ w2.heap.size = w1.heap.size + 3 ∧ Below w1.heap.size w1 w2 := by
  subst h
  refine ⟨?_, ?_, ?_, by simp, (((Below.refl _ w1).alloc (Nat.le_refl _) _).alloc (by simp) _).alloc (by simp; omega) _⟩
  · rw [Below.heap_alloc _ _ _ (by simp; omega), Below.heap_alloc _ _ _ (by simp)]
    exact World.alloc_heap_new w1 _
  · rw [Below.heap_alloc _ _ _ (by simp)]
    have := World.alloc_heap_new (w1.alloc o0) o1
    rwa [World.size_alloc] at this
  · have := World.alloc_heap_new ((w1.alloc o0).alloc o1) o2
    rwa [World.size_alloc, World.size_alloc] at this
theorem made_verify (n : Nat) (w : World) (h : PAt w madeP (madeV n)) : Calls Try.prog 12 #[.agg #[.int .i64 1, .int .i64 1, .slice (some ⟨n + 3, 0, none⟩) 9 9, .slice (some ⟨n + 4, 0, none⟩) 2 2], .int .i64 2] w fun e w' => e = .returned (.int .i64 0) ∧ Below w.heap.size w w' := by
  have := verify_any madeP (madeV n) madeP.m w h.1 h.2
  rw [made_straight.ok] at this
  exact this
theorem made_vmrun (n : Nat) (w : World) (h : PAt w madeP (madeV n)) (hc : CallAt w madeC (some ⟨n + 6, 0, none⟩) 1 1 (fun _ => 30) 77 3) : Calls Try.prog 10 #[.agg #[.int .i64 1, .int .i64 1, .slice (some ⟨n + 3, 0, none⟩) 9 9, .slice (some ⟨n + 4, 0, none⟩) 2 2], .agg #[.int .u64 10, .int .i64 4, .int .u64 9, .int .i64 2, .int .i64 0, .int .i64 5, .slice (some ⟨n + 6, 0, none⟩) 1 1, .int .u64 77, .int .u64 3, .int .u64 5, .int .i64 3, .int .i64 9]] w fun e w' => ∃ E, EfEq E madeE ∧ ∃ (wp : Option Addr) (wc : Nat) (op : Option Addr) (oc : Nat), e = .returned (.agg #[.int .i64 E.code, .slice wp E.nw wc, .int .u64 E.dice, .int .u64 E.sent, .slice op E.on oc, .int .i64 E.used]) ∧ EfL w' (.agg #[.int .i64 E.code, .slice wp E.nw wc, .int .u64 E.dice, .int .u64 E.sent, .slice op E.on oc, .int .i64 E.used]) E ∧ Below w.heap.size w w' := by
  refine (vmRun madeP (madeV n) madeC (some ⟨n + 6, 0, none⟩) 1 1 (fun _ => 30) 77 3 w h hc (by
    intro i hi
    have : ∀ i, i < 9 → -9223372036854775808 ≤ madeP.a i ∧ madeP.a i ≤ 9223372036854775807 := by decide +kernel
    exact this i hi)).mono ?_
  rintro e w' ⟨r, rfl, hE, hb⟩
  have hl := hE.lies
  obtain ⟨wp, wc, op, oc, rfl, h1, h2⟩ := hE
  exact ⟨_, made_eff, wp, wc, op, oc, rfl, hl, hb⟩
set_option maxRecDepth 100000 in
set_option maxHeartbeats 4000000 in
theorem awake_any (w : World) : Calls Try.prog 9 #[] w fun e w' => e = .returned (.bool true) ∧ Below w.heap.size w w' := by
  have HM := made_any w
  go_enter Try.func9, Try.ntmps9
  go_wp2_with (first | (go_at_call 21; (with_reducible refine HM.mono ?_); rintro e w1 ⟨rfl, hM⟩; obtain ⟨w2, hw2⟩ : ∃ w2, ((w1.alloc (.cells #[.int .i64 1, .int .i64 1, .slice (some ⟨w.heap.size + 3, 0, none⟩) 9 9, .slice (some ⟨w.heap.size + 4, 0, none⟩) 2 2] 25)).alloc (.cells #[.int .u64 10, .int .i64 4, .int .u64 9, .int .i64 2, .int .i64 0, .int .i64 5, .slice (some ⟨w.heap.size + 6, 0, none⟩) 1 1, .int .u64 77, .int .u64 3, .int .u64 5, .int .i64 3, .int .i64 9] 35)).alloc (.cells #[.int .i64 0, .slice (some ⟨w.heap.size + 9, 0, none⟩) 1 1, .int .u64 77, .int .u64 4, .slice (some ⟨w.heap.size + 8, 0, none⟩) 1 1, .int .i64 9] 40) = w2 := ⟨_, rfl⟩; have HW2 : Hid (((w1.alloc (.cells #[.int .i64 1, .int .i64 1, .slice (some ⟨w.heap.size + 3, 0, none⟩) 9 9, .slice (some ⟨w.heap.size + 4, 0, none⟩) 2 2] 25)).alloc (.cells #[.int .u64 10, .int .i64 4, .int .u64 9, .int .i64 2, .int .i64 0, .int .i64 5, .slice (some ⟨w.heap.size + 6, 0, none⟩) 1 1, .int .u64 77, .int .u64 3, .int .u64 5, .int .i64 3, .int .i64 9] 35)).alloc (.cells #[.int .i64 0, .slice (some ⟨w.heap.size + 9, 0, none⟩) 1 1, .int .u64 77, .int .u64 4, .slice (some ⟨w.heap.size + 8, 0, none⟩) 1 1, .int .i64 9] 40) = w2) := hw2; obtain ⟨q0, q1, q2, hs2, hb2⟩ := three hw2; have HV := made_verify w.heap.size w2 (hM.prog.below hb2); clear hw2) | (go_at_call 12; rw [HW2.out]; (with_reducible refine HV.mono ?_); rintro e w3 ⟨rfl, hb3⟩; have hb13 := hb2.trans (hb3.mono hb2.size); obtain ⟨a0, a1, a2, a3⟩ := cells4 ((hb3.block _ (by omega)).trans q0); obtain ⟨⟨b0, b1, b2, b3, b4, b5⟩, b6, b7, b8, b9, b10, b11⟩ := cells12 ((hb3.block _ (by omega)).trans q1); have HR := made_vmrun w.heap.size w3 (hM.prog.below hb13) (hM.call.below hb13)) | (go_at_call 10; (with_reducible refine HR.mono ?_); rintro e w4 ⟨E, hEE, wp, wc, op, oc, rfl, hEL, hb4⟩; have hs3 := hb3.size; have hq2 : w4.heap[w1.heap.size + 1 + 1]? = _ := (hb4.block _ (by omega)).trans ((hb3.block _ (by omega)).trans q2); have hlt2 : w1.heap.size + 1 + 1 < w4.heap.size := (Array.getElem?_eq_some_iff.1 hq2).1; obtain ⟨⟨g0, g1, g2, g3, g4, g5⟩, _⟩ := cells6' hq2; obtain ⟨w5, hw5⟩ : ∃ w5, w4.alloc (.cells #[.int .i64 E.code, .slice wp E.nw wc, .int .u64 E.dice, .int .u64 E.sent, .slice op E.on oc, .int .i64 E.used] 40) = w5 := ⟨_, rfl⟩; have hb5 : Below w4.heap.size w4 w5 := (by rw [← hw5]; exact (Below.refl _ _).alloc (Nat.le_refl _) _); have hb15 := (hb13.trans (hb4.mono hb13.size)).trans (hb5.mono (Nat.le_trans hb13.size hb4.size)); have HS := sameEffect_yes E _ _ w5 (hEL.below hb5) ((hM.want.below hb15).eqv hEE.symm) (madeE_sh.congr hEE.on.symm (fun j hj => (hEE.symm.oF j hj))) (by rw [hEE.nw]; decide) (by rw [hEE.on]; decide); have HW5 : Hid (w4.alloc (.cells #[.int .i64 E.code, .slice wp E.nw wc, .int .u64 E.dice, .int .u64 E.sent, .slice op E.on oc, .int .i64 E.used] 40) = w5) := hw5; clear hw5) | (go_at_call 13; rw [HW5.out]; (with_reducible refine HS.mono ?_); rintro e w6 ⟨rfl, hb6⟩))
  go_ret
  exact ⟨rfl, hM.bel.trans ((hb15.trans (hb6.mono hb15.size)).mono hM.bel.size)⟩
end Go.Proofs.Ytieanhmkcbcdkaa
