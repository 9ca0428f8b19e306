import Derived.Test.YtlojkcodndjfbaaY11
import Derived.Deep.LoopGhost
namespace Go.Proofs.Ytlojkcodndjfbaa
open Go.ChangeShapes Go.WideShapes Go.ChangeAt Go.RowKit
set_option linter.unusedVariables false
set_option linter.unusedSimpArgs false

theorem q2c {W : World} {b : Nat} {c0 c1 : Value} {t : TypeId} (h : W.heap[b]? = some (.cells #[c0, c1] t (0, 0))) : W.cell? ⟨b, 0, none⟩ = some c0 ∧ W.cell? ⟨b, 1, none⟩ = some c1 := by
  refine ⟨?_, ?_⟩
  all_goals (unfold World.cell?; rw [h]; rfl)
set_option maxRecDepth 100000 in
set_option maxHeartbeats 4000000 in
theorem below0 (base qb g c n : Nat) (A : Ar) (f r s m k : Int) (p d : Nat) (W : World) (h : QW W base qb g c n A f r s m k) (hp : p < n) (hn : n ≤ 8193) (hd : d ≤ 8193) :
    Calls Try.prog 56 #[.pointer (some ⟨qb, 0, none⟩), .agg #[.int .i64 (p : Int), .int .i64 (d : Int)], .int .i64 0] W fun e W' => e = .returned (.agg #[.int .i64 (A.L p : Int), .int .i64 ((d : Int) + 1)]) ∧ Below W.heap.size W W' := by
  obtain ⟨W1, hW1⟩ : ∃ W1, (W.alloc (.cells #[.int .i64 (p : Int), .int .i64 (d : Int)] 74)).alloc (.cells #[.int .i64 0, .int .i64 0] 74) = W1 := ⟨_, rfl⟩
  have hb1 : Below W.heap.size W W1 := by rw [← hW1]; exact ((Below.refl _ W).alloc (Nat.le_refl _) _).alloc (by simp) _
  have hs1 : W1.heap[W.heap.size]? = some (.cells #[.int .i64 (p : Int), .int .i64 (d : Int)] 74 (0, 0)) := by rw [← hW1, Below.heap_alloc _ _ _ (by simp)]; exact World.alloc_heap_new W _
  have hr1 : W1.heap[W.heap.size + 1]? = some (.cells #[.int .i64 0, .int .i64 0] 74 (0, 0)) := by
    rw [← hW1]
    have := World.alloc_heap_new (W.alloc (.cells #[.int .i64 (p : Int), .int .i64 (d : Int)] 74)) (.cells #[.int .i64 0, .int .i64 0] 74)
    rwa [World.size_alloc] at this
  have HW : Hid ((W.alloc (.cells #[.int .i64 (p : Int), .int .i64 (d : Int)] 74)).alloc (.cells #[.int .i64 0, .int .i64 0] 74) = W1) := hW1
  have hQ1 := h.later hb1
  obtain ⟨q0, q1, q2, q3, q4, q5⟩ := hQ1.cells
  have x6 : W1.cell? ⟨g, p * 8 + 6, none⟩ = some (.int .i64 (A.L p : Int)) := hQ1.nd hp 6 (by decide)
  have i0 : (0 : Int) ≤ (p : Int) := by omega
  have i1 : (p : Int) < (n : Int) := by omega
  have ed : IntKind.i64.wrap ((d : Int) + 1) = (d : Int) + 1 := by rw [IntKind.wrap_i64]; omega
  have hlt := h.lt
  clear hW1
  go_enter Try.func56, Try.ntmps56
  go_wp2_with fail
  rw [HW.out]
  refine wp_region_held_drew (S := fun W9 => W9.heap[qb]? = W1.heap[qb]? ∧ W9.heap[g]? = W1.heap[g]? ∧ W9.heap[W.heap.size]? = W1.heap[W.heap.size]?) (by kernel_rfl) ⟨rfl, rfl, rfl⟩ (fun hHeld => ?_)
  refine wpAnyH_take (i := 0) (v := ?hv0u1) rfl (by kernel_rfl) (by kernel_rfl) (by kernel_rfl) (fun _ _ _ h => h) (Or.inl ⟨by rfl, ?hy0u1⟩) (by assumption) ?hr0u1
  case hy0u1 => ((intro W9 hSw; have q0' := (World.cell?_of_block (a := ⟨qb, 0, none⟩) hSw.1).trans q0; have x' := (World.cell?_of_block (a := ⟨g, p * 8 + 6, none⟩) hSw.2.1).trans x6; obtain ⟨v0, v1⟩ := q2c (hSw.2.2.trans hs1); go_simp); try with_reducible rfl)
  simp only [List.getElem_toArray, List.getElem_cons_zero, List.getElem_cons_succ, Act.put, List.setIfInBounds_toArray, List.set_cons_zero, List.set_cons_succ]
  refine wpAnyH_take (i := 1) (v := ?hv1u2) rfl (by kernel_rfl) (by kernel_rfl) (by kernel_rfl) (fun _ _ _ h => h) (Or.inl ⟨by rfl, ?hy1u2⟩) (by assumption) ?hr1u2
  case hy1u2 => ((intro W9 hSw; have q0' := (World.cell?_of_block (a := ⟨qb, 0, none⟩) hSw.1).trans q0; have x' := (World.cell?_of_block (a := ⟨g, p * 8 + 6, none⟩) hSw.2.1).trans x6; obtain ⟨v0, v1⟩ := q2c (hSw.2.2.trans hs1); go_simp); try with_reducible rfl)
  simp only [List.getElem_toArray, List.getElem_cons_zero, List.getElem_cons_succ, Act.put, List.setIfInBounds_toArray, List.set_cons_zero, List.set_cons_succ]
  refine wpAnyH_take (i := 2) (v := ?hv2u3) rfl (by kernel_rfl) (by kernel_rfl) (by kernel_rfl) (fun _ _ _ h => h) (Or.inl ⟨by rfl, ?hy2u3⟩) (by assumption) ?hr2u3
  case hy2u3 => ((intro W9 hSw; have q0' := (World.cell?_of_block (a := ⟨qb, 0, none⟩) hSw.1).trans q0; have x' := (World.cell?_of_block (a := ⟨g, p * 8 + 6, none⟩) hSw.2.1).trans x6; obtain ⟨v0, v1⟩ := q2c (hSw.2.2.trans hs1); go_simp); try with_reducible rfl)
  simp only [List.getElem_toArray, List.getElem_cons_zero, List.getElem_cons_succ, Act.put, List.setIfInBounds_toArray, List.set_cons_zero, List.set_cons_succ]
  refine wpAnyH_take (i := 3) (v := ?hv3u4) rfl (by kernel_rfl) (by kernel_rfl) (by kernel_rfl) (fun _ _ _ h => h) (Or.inl ⟨by rfl, ?hy3u4⟩) (by assumption) ?hr3u4
  case hy3u4 => ((intro W9 hSw; have q0' := (World.cell?_of_block (a := ⟨qb, 0, none⟩) hSw.1).trans q0; have x' := (World.cell?_of_block (a := ⟨g, p * 8 + 6, none⟩) hSw.2.1).trans x6; obtain ⟨v0, v1⟩ := q2c (hSw.2.2.trans hs1); go_simp); try with_reducible rfl)
  simp only [List.getElem_toArray, List.getElem_cons_zero, List.getElem_cons_succ, Act.put, List.setIfInBounds_toArray, List.set_cons_zero, List.set_cons_succ]
  refine wpAnyH_take (i := 4) (v := ?hv4u5) rfl (by kernel_rfl) (by kernel_rfl) (by kernel_rfl) (fun _ _ _ h => h) (Or.inl ⟨by rfl, ?hy4u5⟩) (by assumption) ?hr4u5
  case hy4u5 => ((intro W9 hSw; have q0' := (World.cell?_of_block (a := ⟨qb, 0, none⟩) hSw.1).trans q0; have x' := (World.cell?_of_block (a := ⟨g, p * 8 + 6, none⟩) hSw.2.1).trans x6; obtain ⟨v0, v1⟩ := q2c (hSw.2.2.trans hs1); go_simp); try with_reducible rfl)
  simp only [List.getElem_toArray, List.getElem_cons_zero, List.getElem_cons_succ, Act.put, List.setIfInBounds_toArray, List.set_cons_zero, List.set_cons_succ]
  refine wpAnyH_take (i := 5) (v := ?hv5u6) rfl (by kernel_rfl) (by kernel_rfl) (by kernel_rfl) (fun _ _ _ h => h) (Or.inl ⟨by rfl, ?hy5u6⟩) (by assumption) ?hr5u6
  case hy5u6 => ((intro W9 hSw; have q0' := (World.cell?_of_block (a := ⟨qb, 0, none⟩) hSw.1).trans q0; have x' := (World.cell?_of_block (a := ⟨g, p * 8 + 6, none⟩) hSw.2.1).trans x6; obtain ⟨v0, v1⟩ := q2c (hSw.2.2.trans hs1); go_simp); try with_reducible rfl)
  simp only [List.getElem_toArray, List.getElem_cons_zero, List.getElem_cons_succ, Act.put, List.setIfInBounds_toArray, List.set_cons_zero, List.set_cons_succ]
  refine wpAnyH_take (i := 6) (v := ?hv6u7) rfl (by kernel_rfl) (by kernel_rfl) (by kernel_rfl) (fun _ _ _ h => h) (Or.inl ⟨by rfl, ?hy6u7⟩) (by assumption) ?hr6u7
  case hy6u7 => ((intro W9 hSw; have q0' := (World.cell?_of_block (a := ⟨qb, 0, none⟩) hSw.1).trans q0; have x' := (World.cell?_of_block (a := ⟨g, p * 8 + 6, none⟩) hSw.2.1).trans x6; obtain ⟨v0, v1⟩ := q2c (hSw.2.2.trans hs1); go_simp); try with_reducible rfl)
  simp only [List.getElem_toArray, List.getElem_cons_zero, List.getElem_cons_succ, Act.put, List.setIfInBounds_toArray, List.set_cons_zero, List.set_cons_succ]
  refine wpAnyH_take (i := 7) (v := ?hv7u8) rfl (by kernel_rfl) (by kernel_rfl) (by kernel_rfl) (fun _ _ _ h => h) (Or.inl ⟨by rfl, ?hy7u8⟩) (by assumption) ?hr7u8
  case hy7u8 => ((intro W9 hSw; have q0' := (World.cell?_of_block (a := ⟨qb, 0, none⟩) hSw.1).trans q0; have x' := (World.cell?_of_block (a := ⟨g, p * 8 + 6, none⟩) hSw.2.1).trans x6; obtain ⟨v0, v1⟩ := q2c (hSw.2.2.trans hs1); go_simp); try with_reducible rfl)
  simp only [List.getElem_toArray, List.getElem_cons_zero, List.getElem_cons_succ, Act.put, List.setIfInBounds_toArray, List.set_cons_zero, List.set_cons_succ]
  refine wpAnyH_take (i := 8) (v := ?hv8u9) rfl (by kernel_rfl) (by kernel_rfl) (by kernel_rfl) (fun _ _ _ h => h) (Or.inl ⟨by rfl, ?hy8u9⟩) (by assumption) ?hr8u9
  case hy8u9 => ((intro W9 hSw; have q0' := (World.cell?_of_block (a := ⟨qb, 0, none⟩) hSw.1).trans q0; have x' := (World.cell?_of_block (a := ⟨g, p * 8 + 6, none⟩) hSw.2.1).trans x6; obtain ⟨v0, v1⟩ := q2c (hSw.2.2.trans hs1); go_simp); try with_reducible rfl)
  simp only [List.getElem_toArray, List.getElem_cons_zero, List.getElem_cons_succ, Act.put, List.setIfInBounds_toArray, List.set_cons_zero, List.set_cons_succ]
  refine wpAnyH_take (i := 9) (v := ?hv9u10) rfl (by kernel_rfl) (by kernel_rfl) (by kernel_rfl) (fun _ _ _ h => h) (Or.inl ⟨by rfl, ?hy9u10⟩) (by assumption) ?hr9u10
  case hy9u10 => ((intro W9 hSw; have q0' := (World.cell?_of_block (a := ⟨qb, 0, none⟩) hSw.1).trans q0; have x' := (World.cell?_of_block (a := ⟨g, p * 8 + 6, none⟩) hSw.2.1).trans x6; obtain ⟨v0, v1⟩ := q2c (hSw.2.2.trans hs1); go_simp); try with_reducible rfl)
  simp only [List.getElem_toArray, List.getElem_cons_zero, List.getElem_cons_succ, Act.put, List.setIfInBounds_toArray, List.set_cons_zero, List.set_cons_succ]
  refine wpAnyH_take (i := 10) (v := ?hv10u11) rfl (by kernel_rfl) (by kernel_rfl) (by kernel_rfl) (fun _ _ _ h => h) (Or.inl ⟨by rfl, ?hy10u11⟩) (by assumption) ?hr10u11
  case hy10u11 => ((intro W9 hSw; have q0' := (World.cell?_of_block (a := ⟨qb, 0, none⟩) hSw.1).trans q0; have x' := (World.cell?_of_block (a := ⟨g, p * 8 + 6, none⟩) hSw.2.1).trans x6; obtain ⟨v0, v1⟩ := q2c (hSw.2.2.trans hs1); go_simp); try with_reducible rfl)
  simp only [List.getElem_toArray, List.getElem_cons_zero, List.getElem_cons_succ, Act.put, List.setIfInBounds_toArray, List.set_cons_zero, List.set_cons_succ]
  refine wpAnyH_take (i := 11) (v := ?hv11u12) rfl (by kernel_rfl) (by kernel_rfl) (by kernel_rfl) (fun _ _ _ h => h) (Or.inl ⟨by rfl, ?hy11u12⟩) (by assumption) ?hr11u12
  case hy11u12 => ((intro W9 hSw; have q0' := (World.cell?_of_block (a := ⟨qb, 0, none⟩) hSw.1).trans q0; have x' := (World.cell?_of_block (a := ⟨g, p * 8 + 6, none⟩) hSw.2.1).trans x6; obtain ⟨v0, v1⟩ := q2c (hSw.2.2.trans hs1); go_simp); try with_reducible rfl)
  simp only [List.getElem_toArray, List.getElem_cons_zero, List.getElem_cons_succ, Act.put, List.setIfInBounds_toArray, List.set_cons_zero, List.set_cons_succ]
  refine wpAnyH_take (i := 12) (v := ?hv12u13) rfl (by kernel_rfl) (by kernel_rfl) (by kernel_rfl) (fun _ _ _ h => h) (Or.inl ⟨by rfl, ?hy12u13⟩) (by assumption) ?hr12u13
  case hy12u13 => ((intro W9 hSw; have q0' := (World.cell?_of_block (a := ⟨qb, 0, none⟩) hSw.1).trans q0; have x' := (World.cell?_of_block (a := ⟨g, p * 8 + 6, none⟩) hSw.2.1).trans x6; obtain ⟨v0, v1⟩ := q2c (hSw.2.2.trans hs1); go_simp); try with_reducible rfl)
  simp only [List.getElem_toArray, List.getElem_cons_zero, List.getElem_cons_succ, Act.put, List.setIfInBounds_toArray, List.set_cons_zero, List.set_cons_succ]
  refine wpAnyH_take (i := 13) (v := ?hv13u14) rfl (by kernel_rfl) (by kernel_rfl) (by kernel_rfl) (fun _ _ _ h => h) (Or.inl ⟨by rfl, ?hy13u14⟩) (by assumption) ?hr13u14
  case hy13u14 => ((intro W9 hSw; have q0' := (World.cell?_of_block (a := ⟨qb, 0, none⟩) hSw.1).trans q0; have x' := (World.cell?_of_block (a := ⟨g, p * 8 + 6, none⟩) hSw.2.1).trans x6; obtain ⟨v0, v1⟩ := q2c (hSw.2.2.trans hs1); go_simp); try with_reducible rfl)
  simp only [List.getElem_toArray, List.getElem_cons_zero, List.getElem_cons_succ, Act.put, List.setIfInBounds_toArray, List.set_cons_zero, List.set_cons_succ]
  refine wpAnyH_take (i := 14) (v := ?hv14u15) rfl (by kernel_rfl) (by kernel_rfl) (by kernel_rfl) (fun _ _ _ h => h) (Or.inl ⟨by rfl, ?hy14u15⟩) (by assumption) ?hr14u15
  case hy14u15 => ((intro W9 hSw; have q0' := (World.cell?_of_block (a := ⟨qb, 0, none⟩) hSw.1).trans q0; have x' := (World.cell?_of_block (a := ⟨g, p * 8 + 6, none⟩) hSw.2.1).trans x6; obtain ⟨v0, v1⟩ := q2c (hSw.2.2.trans hs1); go_simp); try with_reducible rfl)
  simp only [List.getElem_toArray, List.getElem_cons_zero, List.getElem_cons_succ, Act.put, List.setIfInBounds_toArray, List.set_cons_zero, List.set_cons_succ]
  refine wpAnyH_ready (rs := [15]) (by kernel_rfl) (by simp) (AllReadyH.cons rfl (fun KK hK => ?_) AllReadyH.nil)
  dsimp -proj only [List.getElem_toArray, List.getElem_cons_zero, List.getElem_cons_succ]
  have hrd : (W1.drewN 1).heap[W.heap.size + 1]? = some (.cells #[.int .i64 0, .int .i64 0] 74 (0, 0)) := hr1
  refine step_store_mid rfl 74 _ _ rfl (W.heap.size + 1) 0 _ rfl rfl (by intro j hj; have hj2 : j < 2 := hj; have : j = 0 ∨ j = 1 := (by omega); rcases this with rfl | rfl <;> exact ⟨by unfold World.cell?; rw [show W1.drew.heap[W.heap.size + 1]? = _ from hr1]; rfl, frz hrd _⟩) (by kernel_rfl) (by kernel_rfl) ?_
  refine hK.out _ _ ⟨setCells_other _ _ _ _ _ (by omega), setCells_other _ _ _ _ _ (by omega), setCells_other _ _ _ _ _ (by omega)⟩ (fun hHeld => ?_)
  clear hK KK
  try simp only [List.getElem_toArray, List.getElem_cons_zero, List.getElem_cons_succ, Act.put, List.setIfInBounds_toArray, List.set_cons_zero, List.set_cons_succ]
  refine wpAnyH_done (by kernel_rfl) ?_ _
  generalize hwF : (World.setCells _ (W.heap.size + 1) 0 _) = wF
  have hF : wF.heap[W.heap.size + 1]? = some (.cells #[.int .i64 (A.L p : Int), .int .i64 ((d : Int) + 1)] 74 (0, 0)) := by
    rw [← hwF]
    show ((W1.drew.setCell ⟨W.heap.size + 1, 0, none⟩ _).setCell ⟨W.heap.size + 1, 1, none⟩ _).heap[W.heap.size + 1]? = _
    have hrd2 : W1.drew.heap[W.heap.size + 1]? = some (.cells #[.int .i64 0, .int .i64 0] 74 (0, 0)) := hr1
    rw [setCell_block _ _ _ _ (setCell_block _ _ _ _ hrd2)]
    rfl
  have hbF : Below W.heap.size W wF := by rw [← hwF]; exact setCells_below _ _ _ (hb1.trans (below_drewNq _ _ 1)) (by omega)
  obtain ⟨d0, d1⟩ := q2c hF
  clear hwF
  go_wp2
  refine bodyPost_ret (v := .agg #[.int .i64 (A.L p : Int), .int .i64 ((d : Int) + 1)]) (by simp [results, Try.results56, go_sem, d0, d1]; try rfl) rfl ?_
  exact ⟨rfl, hbF⟩
set_option maxRecDepth 100000 in
set_option maxHeartbeats 4000000 in
theorem below1 (base qb g c n : Nat) (A : Ar) (f r s m k : Int) (p d : Nat) (W : World) (h : QW W base qb g c n A f r s m k) (hp : p < n) (hn : n ≤ 8193) (hd : d ≤ 8193) :
    Calls Try.prog 56 #[.pointer (some ⟨qb, 0, none⟩), .agg #[.int .i64 (p : Int), .int .i64 (d : Int)], .int .i64 1] W fun e W' => e = .returned (.agg #[.int .i64 (A.R p : Int), .int .i64 ((d : Int) + 1)]) ∧ Below W.heap.size W W' := by
  obtain ⟨W1, hW1⟩ : ∃ W1, (W.alloc (.cells #[.int .i64 (p : Int), .int .i64 (d : Int)] 74)).alloc (.cells #[.int .i64 0, .int .i64 0] 74) = W1 := ⟨_, rfl⟩
  have hb1 : Below W.heap.size W W1 := by rw [← hW1]; exact ((Below.refl _ W).alloc (Nat.le_refl _) _).alloc (by simp) _
  have hs1 : W1.heap[W.heap.size]? = some (.cells #[.int .i64 (p : Int), .int .i64 (d : Int)] 74 (0, 0)) := by rw [← hW1, Below.heap_alloc _ _ _ (by simp)]; exact World.alloc_heap_new W _
  have hr1 : W1.heap[W.heap.size + 1]? = some (.cells #[.int .i64 0, .int .i64 0] 74 (0, 0)) := by
    rw [← hW1]
    have := World.alloc_heap_new (W.alloc (.cells #[.int .i64 (p : Int), .int .i64 (d : Int)] 74)) (.cells #[.int .i64 0, .int .i64 0] 74)
    rwa [World.size_alloc] at this
  have HW : Hid ((W.alloc (.cells #[.int .i64 (p : Int), .int .i64 (d : Int)] 74)).alloc (.cells #[.int .i64 0, .int .i64 0] 74) = W1) := hW1
  have hQ1 := h.later hb1
  obtain ⟨q0, q1, q2, q3, q4, q5⟩ := hQ1.cells
  have x6 : W1.cell? ⟨g, p * 8 + 7, none⟩ = some (.int .i64 (A.R p : Int)) := hQ1.nd hp 7 (by decide)
  have i0 : (0 : Int) ≤ (p : Int) := by omega
  have i1 : (p : Int) < (n : Int) := by omega
  have ed : IntKind.i64.wrap ((d : Int) + 1) = (d : Int) + 1 := by rw [IntKind.wrap_i64]; omega
  have hlt := h.lt
  clear hW1
  go_enter Try.func56, Try.ntmps56
  go_wp2_with fail
  rw [HW.out]
  refine wp_region_held_drew (S := fun W9 => W9.heap[qb]? = W1.heap[qb]? ∧ W9.heap[g]? = W1.heap[g]? ∧ W9.heap[W.heap.size]? = W1.heap[W.heap.size]?) (by kernel_rfl) ⟨rfl, rfl, rfl⟩ (fun hHeld => ?_)
  refine wpAnyH_take (i := 0) (v := ?hv0u16) rfl (by kernel_rfl) (by kernel_rfl) (by kernel_rfl) (fun _ _ _ h => h) (Or.inl ⟨by rfl, ?hy0u16⟩) (by assumption) ?hr0u16
  case hy0u16 => ((intro W9 hSw; have q0' := (World.cell?_of_block (a := ⟨qb, 0, none⟩) hSw.1).trans q0; have x' := (World.cell?_of_block (a := ⟨g, p * 8 + 7, none⟩) hSw.2.1).trans x6; obtain ⟨v0, v1⟩ := q2c (hSw.2.2.trans hs1); go_simp); try with_reducible rfl)
  simp only [List.getElem_toArray, List.getElem_cons_zero, List.getElem_cons_succ, Act.put, List.setIfInBounds_toArray, List.set_cons_zero, List.set_cons_succ]
  refine wpAnyH_take (i := 1) (v := ?hv1u17) rfl (by kernel_rfl) (by kernel_rfl) (by kernel_rfl) (fun _ _ _ h => h) (Or.inl ⟨by rfl, ?hy1u17⟩) (by assumption) ?hr1u17
  case hy1u17 => ((intro W9 hSw; have q0' := (World.cell?_of_block (a := ⟨qb, 0, none⟩) hSw.1).trans q0; have x' := (World.cell?_of_block (a := ⟨g, p * 8 + 7, none⟩) hSw.2.1).trans x6; obtain ⟨v0, v1⟩ := q2c (hSw.2.2.trans hs1); go_simp); try with_reducible rfl)
  simp only [List.getElem_toArray, List.getElem_cons_zero, List.getElem_cons_succ, Act.put, List.setIfInBounds_toArray, List.set_cons_zero, List.set_cons_succ]
  refine wpAnyH_take (i := 2) (v := ?hv2u18) rfl (by kernel_rfl) (by kernel_rfl) (by kernel_rfl) (fun _ _ _ h => h) (Or.inl ⟨by rfl, ?hy2u18⟩) (by assumption) ?hr2u18
  case hy2u18 => ((intro W9 hSw; have q0' := (World.cell?_of_block (a := ⟨qb, 0, none⟩) hSw.1).trans q0; have x' := (World.cell?_of_block (a := ⟨g, p * 8 + 7, none⟩) hSw.2.1).trans x6; obtain ⟨v0, v1⟩ := q2c (hSw.2.2.trans hs1); go_simp); try with_reducible rfl)
  simp only [List.getElem_toArray, List.getElem_cons_zero, List.getElem_cons_succ, Act.put, List.setIfInBounds_toArray, List.set_cons_zero, List.set_cons_succ]
  refine wpAnyH_take (i := 3) (v := ?hv3u19) rfl (by kernel_rfl) (by kernel_rfl) (by kernel_rfl) (fun _ _ _ h => h) (Or.inl ⟨by rfl, ?hy3u19⟩) (by assumption) ?hr3u19
  case hy3u19 => ((intro W9 hSw; have q0' := (World.cell?_of_block (a := ⟨qb, 0, none⟩) hSw.1).trans q0; have x' := (World.cell?_of_block (a := ⟨g, p * 8 + 7, none⟩) hSw.2.1).trans x6; obtain ⟨v0, v1⟩ := q2c (hSw.2.2.trans hs1); go_simp); try with_reducible rfl)
  simp only [List.getElem_toArray, List.getElem_cons_zero, List.getElem_cons_succ, Act.put, List.setIfInBounds_toArray, List.set_cons_zero, List.set_cons_succ]
  refine wpAnyH_take (i := 4) (v := ?hv4u20) rfl (by kernel_rfl) (by kernel_rfl) (by kernel_rfl) (fun _ _ _ h => h) (Or.inl ⟨by rfl, ?hy4u20⟩) (by assumption) ?hr4u20
  case hy4u20 => ((intro W9 hSw; have q0' := (World.cell?_of_block (a := ⟨qb, 0, none⟩) hSw.1).trans q0; have x' := (World.cell?_of_block (a := ⟨g, p * 8 + 7, none⟩) hSw.2.1).trans x6; obtain ⟨v0, v1⟩ := q2c (hSw.2.2.trans hs1); go_simp); try with_reducible rfl)
  simp only [List.getElem_toArray, List.getElem_cons_zero, List.getElem_cons_succ, Act.put, List.setIfInBounds_toArray, List.set_cons_zero, List.set_cons_succ]
  refine wpAnyH_take (i := 5) (v := ?hv5u21) rfl (by kernel_rfl) (by kernel_rfl) (by kernel_rfl) (fun _ _ _ h => h) (Or.inl ⟨by rfl, ?hy5u21⟩) (by assumption) ?hr5u21
  case hy5u21 => ((intro W9 hSw; have q0' := (World.cell?_of_block (a := ⟨qb, 0, none⟩) hSw.1).trans q0; have x' := (World.cell?_of_block (a := ⟨g, p * 8 + 7, none⟩) hSw.2.1).trans x6; obtain ⟨v0, v1⟩ := q2c (hSw.2.2.trans hs1); go_simp); try with_reducible rfl)
  simp only [List.getElem_toArray, List.getElem_cons_zero, List.getElem_cons_succ, Act.put, List.setIfInBounds_toArray, List.set_cons_zero, List.set_cons_succ]
  refine wpAnyH_take (i := 6) (v := ?hv6u22) rfl (by kernel_rfl) (by kernel_rfl) (by kernel_rfl) (fun _ _ _ h => h) (Or.inl ⟨by rfl, ?hy6u22⟩) (by assumption) ?hr6u22
  case hy6u22 => ((intro W9 hSw; have q0' := (World.cell?_of_block (a := ⟨qb, 0, none⟩) hSw.1).trans q0; have x' := (World.cell?_of_block (a := ⟨g, p * 8 + 7, none⟩) hSw.2.1).trans x6; obtain ⟨v0, v1⟩ := q2c (hSw.2.2.trans hs1); go_simp); try with_reducible rfl)
  simp only [List.getElem_toArray, List.getElem_cons_zero, List.getElem_cons_succ, Act.put, List.setIfInBounds_toArray, List.set_cons_zero, List.set_cons_succ]
  refine wpAnyH_take (i := 7) (v := ?hv7u23) rfl (by kernel_rfl) (by kernel_rfl) (by kernel_rfl) (fun _ _ _ h => h) (Or.inl ⟨by rfl, ?hy7u23⟩) (by assumption) ?hr7u23
  case hy7u23 => ((intro W9 hSw; have q0' := (World.cell?_of_block (a := ⟨qb, 0, none⟩) hSw.1).trans q0; have x' := (World.cell?_of_block (a := ⟨g, p * 8 + 7, none⟩) hSw.2.1).trans x6; obtain ⟨v0, v1⟩ := q2c (hSw.2.2.trans hs1); go_simp); try with_reducible rfl)
  simp only [List.getElem_toArray, List.getElem_cons_zero, List.getElem_cons_succ, Act.put, List.setIfInBounds_toArray, List.set_cons_zero, List.set_cons_succ]
  refine wpAnyH_take (i := 8) (v := ?hv8u24) rfl (by kernel_rfl) (by kernel_rfl) (by kernel_rfl) (fun _ _ _ h => h) (Or.inl ⟨by rfl, ?hy8u24⟩) (by assumption) ?hr8u24
  case hy8u24 => ((intro W9 hSw; have q0' := (World.cell?_of_block (a := ⟨qb, 0, none⟩) hSw.1).trans q0; have x' := (World.cell?_of_block (a := ⟨g, p * 8 + 7, none⟩) hSw.2.1).trans x6; obtain ⟨v0, v1⟩ := q2c (hSw.2.2.trans hs1); go_simp); try with_reducible rfl)
  simp only [List.getElem_toArray, List.getElem_cons_zero, List.getElem_cons_succ, Act.put, List.setIfInBounds_toArray, List.set_cons_zero, List.set_cons_succ]
  refine wpAnyH_take (i := 9) (v := ?hv9u25) rfl (by kernel_rfl) (by kernel_rfl) (by kernel_rfl) (fun _ _ _ h => h) (Or.inl ⟨by rfl, ?hy9u25⟩) (by assumption) ?hr9u25
  case hy9u25 => ((intro W9 hSw; have q0' := (World.cell?_of_block (a := ⟨qb, 0, none⟩) hSw.1).trans q0; have x' := (World.cell?_of_block (a := ⟨g, p * 8 + 7, none⟩) hSw.2.1).trans x6; obtain ⟨v0, v1⟩ := q2c (hSw.2.2.trans hs1); go_simp); try with_reducible rfl)
  simp only [List.getElem_toArray, List.getElem_cons_zero, List.getElem_cons_succ, Act.put, List.setIfInBounds_toArray, List.set_cons_zero, List.set_cons_succ]
  refine wpAnyH_take (i := 10) (v := ?hv10u26) rfl (by kernel_rfl) (by kernel_rfl) (by kernel_rfl) (fun _ _ _ h => h) (Or.inl ⟨by rfl, ?hy10u26⟩) (by assumption) ?hr10u26
  case hy10u26 => ((intro W9 hSw; have q0' := (World.cell?_of_block (a := ⟨qb, 0, none⟩) hSw.1).trans q0; have x' := (World.cell?_of_block (a := ⟨g, p * 8 + 7, none⟩) hSw.2.1).trans x6; obtain ⟨v0, v1⟩ := q2c (hSw.2.2.trans hs1); go_simp); try with_reducible rfl)
  simp only [List.getElem_toArray, List.getElem_cons_zero, List.getElem_cons_succ, Act.put, List.setIfInBounds_toArray, List.set_cons_zero, List.set_cons_succ]
  refine wpAnyH_take (i := 11) (v := ?hv11u27) rfl (by kernel_rfl) (by kernel_rfl) (by kernel_rfl) (fun _ _ _ h => h) (Or.inl ⟨by rfl, ?hy11u27⟩) (by assumption) ?hr11u27
  case hy11u27 => ((intro W9 hSw; have q0' := (World.cell?_of_block (a := ⟨qb, 0, none⟩) hSw.1).trans q0; have x' := (World.cell?_of_block (a := ⟨g, p * 8 + 7, none⟩) hSw.2.1).trans x6; obtain ⟨v0, v1⟩ := q2c (hSw.2.2.trans hs1); go_simp); try with_reducible rfl)
  simp only [List.getElem_toArray, List.getElem_cons_zero, List.getElem_cons_succ, Act.put, List.setIfInBounds_toArray, List.set_cons_zero, List.set_cons_succ]
  refine wpAnyH_take (i := 12) (v := ?hv12u28) rfl (by kernel_rfl) (by kernel_rfl) (by kernel_rfl) (fun _ _ _ h => h) (Or.inl ⟨by rfl, ?hy12u28⟩) (by assumption) ?hr12u28
  case hy12u28 => ((intro W9 hSw; have q0' := (World.cell?_of_block (a := ⟨qb, 0, none⟩) hSw.1).trans q0; have x' := (World.cell?_of_block (a := ⟨g, p * 8 + 7, none⟩) hSw.2.1).trans x6; obtain ⟨v0, v1⟩ := q2c (hSw.2.2.trans hs1); go_simp); try with_reducible rfl)
  simp only [List.getElem_toArray, List.getElem_cons_zero, List.getElem_cons_succ, Act.put, List.setIfInBounds_toArray, List.set_cons_zero, List.set_cons_succ]
  refine wpAnyH_take (i := 13) (v := ?hv13u29) rfl (by kernel_rfl) (by kernel_rfl) (by kernel_rfl) (fun _ _ _ h => h) (Or.inl ⟨by rfl, ?hy13u29⟩) (by assumption) ?hr13u29
  case hy13u29 => ((intro W9 hSw; have q0' := (World.cell?_of_block (a := ⟨qb, 0, none⟩) hSw.1).trans q0; have x' := (World.cell?_of_block (a := ⟨g, p * 8 + 7, none⟩) hSw.2.1).trans x6; obtain ⟨v0, v1⟩ := q2c (hSw.2.2.trans hs1); go_simp); try with_reducible rfl)
  simp only [List.getElem_toArray, List.getElem_cons_zero, List.getElem_cons_succ, Act.put, List.setIfInBounds_toArray, List.set_cons_zero, List.set_cons_succ]
  refine wpAnyH_take (i := 14) (v := ?hv14u30) rfl (by kernel_rfl) (by kernel_rfl) (by kernel_rfl) (fun _ _ _ h => h) (Or.inl ⟨by rfl, ?hy14u30⟩) (by assumption) ?hr14u30
  case hy14u30 => ((intro W9 hSw; have q0' := (World.cell?_of_block (a := ⟨qb, 0, none⟩) hSw.1).trans q0; have x' := (World.cell?_of_block (a := ⟨g, p * 8 + 7, none⟩) hSw.2.1).trans x6; obtain ⟨v0, v1⟩ := q2c (hSw.2.2.trans hs1); go_simp); try with_reducible rfl)
  simp only [List.getElem_toArray, List.getElem_cons_zero, List.getElem_cons_succ, Act.put, List.setIfInBounds_toArray, List.set_cons_zero, List.set_cons_succ]
  refine wpAnyH_ready (rs := [15]) (by kernel_rfl) (by simp) (AllReadyH.cons rfl (fun KK hK => ?_) AllReadyH.nil)
  dsimp -proj only [List.getElem_toArray, List.getElem_cons_zero, List.getElem_cons_succ]
  have hrd : (W1.drewN 1).heap[W.heap.size + 1]? = some (.cells #[.int .i64 0, .int .i64 0] 74 (0, 0)) := hr1
  refine step_store_mid rfl 74 _ _ rfl (W.heap.size + 1) 0 _ rfl rfl (by intro j hj; have hj2 : j < 2 := hj; have : j = 0 ∨ j = 1 := (by omega); rcases this with rfl | rfl <;> exact ⟨by unfold World.cell?; rw [show W1.drew.heap[W.heap.size + 1]? = _ from hr1]; rfl, frz hrd _⟩) (by kernel_rfl) (by kernel_rfl) ?_
  refine hK.out _ _ ⟨setCells_other _ _ _ _ _ (by omega), setCells_other _ _ _ _ _ (by omega), setCells_other _ _ _ _ _ (by omega)⟩ (fun hHeld => ?_)
  clear hK KK
  try simp only [List.getElem_toArray, List.getElem_cons_zero, List.getElem_cons_succ, Act.put, List.setIfInBounds_toArray, List.set_cons_zero, List.set_cons_succ]
  refine wpAnyH_done (by kernel_rfl) ?_ _
  generalize hwF : (World.setCells _ (W.heap.size + 1) 0 _) = wF
  have hF : wF.heap[W.heap.size + 1]? = some (.cells #[.int .i64 (A.R p : Int), .int .i64 ((d : Int) + 1)] 74 (0, 0)) := by
    rw [← hwF]
    show ((W1.drew.setCell ⟨W.heap.size + 1, 0, none⟩ _).setCell ⟨W.heap.size + 1, 1, none⟩ _).heap[W.heap.size + 1]? = _
    have hrd2 : W1.drew.heap[W.heap.size + 1]? = some (.cells #[.int .i64 0, .int .i64 0] 74 (0, 0)) := hr1
    rw [setCell_block _ _ _ _ (setCell_block _ _ _ _ hrd2)]
    rfl
  have hbF : Below W.heap.size W wF := by rw [← hwF]; exact setCells_below _ _ _ (hb1.trans (below_drewNq _ _ 1)) (by omega)
  obtain ⟨d0, d1⟩ := q2c hF
  clear hwF
  go_wp2
  refine bodyPost_ret (v := .agg #[.int .i64 (A.R p : Int), .int .i64 ((d : Int) + 1)]) (by simp [results, Try.results56, go_sem, d0, d1]; try rfl) rfl ?_
  exact ⟨rfl, hbF⟩
end Go.Proofs.Ytlojkcodndjfbaa
