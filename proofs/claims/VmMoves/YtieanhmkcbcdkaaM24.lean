import Derived.Test.YtieanhmkcbcdkaaM23
namespace Go.Proofs.Ytieanhmkcbcdkaa
open Go.ChangeShapes Go.WideShapes Go.ChangeAt Go.RowKit
set_option linter.unusedVariables false
set_option linter.unusedSimpArgs false

theorem nine {w wq : World} {o0 o1 o2 o3 o4 o5 o6 o7 o8 : Obj} (h : (((((((((w.alloc o0).alloc o1).alloc o2).alloc o3).alloc o4).alloc o5).alloc o6).alloc o7).alloc o8) = wq) : (wq.heap[w.heap.size]? = some o0 ∧ wq.heap[w.heap.size + 1]? = some o1 ∧ wq.heap[w.heap.size + 2]? = some o2 ∧ wq.heap[w.heap.size + 3]? = some o3 ∧ wq.heap[w.heap.size + 4]? = some o4 ∧ wq.heap[w.heap.size + 5]? = some o5 ∧ wq.heap[w.heap.size + 6]? = some o6 ∧ wq.heap[w.heap.size + 7]? = some o7 ∧ wq.heap[w.heap.size + 8]? = some o8) ∧ wq.heap.size = w.heap.size + 9 ∧ Below w.heap.size w wq := by
  subst h
  refine ⟨⟨?_, ?_, ?_, ?_, ?_, ?_, ?_, ?_, ?_⟩, by simp, ?_⟩
  · have := World.alloc_heap_new (w) o0
    rw [Below.heap_alloc _ _ _ (by simp; try omega), Below.heap_alloc _ _ _ (by simp; try omega), Below.heap_alloc _ _ _ (by simp; try omega), Below.heap_alloc _ _ _ (by simp; try omega), Below.heap_alloc _ _ _ (by simp; try omega), Below.heap_alloc _ _ _ (by simp; try omega), Below.heap_alloc _ _ _ (by simp; try omega), Below.heap_alloc _ _ _ (by simp; try omega)]
    exact this
  · have := World.alloc_heap_new ((w).alloc o0) o1
    rw [World.size_alloc] at this
    rw [Below.heap_alloc _ _ _ (by simp; try omega), Below.heap_alloc _ _ _ (by simp; try omega), Below.heap_alloc _ _ _ (by simp; try omega), Below.heap_alloc _ _ _ (by simp; try omega), Below.heap_alloc _ _ _ (by simp; try omega), Below.heap_alloc _ _ _ (by simp; try omega), Below.heap_alloc _ _ _ (by simp; try omega)]
    exact this
  · have := World.alloc_heap_new (((w).alloc o0).alloc o1) o2
    rw [World.size_alloc, World.size_alloc] at this
    rw [Below.heap_alloc _ _ _ (by simp; try omega), Below.heap_alloc _ _ _ (by simp; try omega), Below.heap_alloc _ _ _ (by simp; try omega), Below.heap_alloc _ _ _ (by simp; try omega), Below.heap_alloc _ _ _ (by simp; try omega), Below.heap_alloc _ _ _ (by simp; try omega)]
    exact this
  · have := World.alloc_heap_new ((((w).alloc o0).alloc o1).alloc o2) o3
    rw [World.size_alloc, World.size_alloc, World.size_alloc] at this
    rw [Below.heap_alloc _ _ _ (by simp; try omega), Below.heap_alloc _ _ _ (by simp; try omega), Below.heap_alloc _ _ _ (by simp; try omega), Below.heap_alloc _ _ _ (by simp; try omega), Below.heap_alloc _ _ _ (by simp; try omega)]
    exact this
  · have := World.alloc_heap_new (((((w).alloc o0).alloc o1).alloc o2).alloc o3) o4
    rw [World.size_alloc, World.size_alloc, World.size_alloc, World.size_alloc] at this
    rw [Below.heap_alloc _ _ _ (by simp; try omega), Below.heap_alloc _ _ _ (by simp; try omega), Below.heap_alloc _ _ _ (by simp; try omega), Below.heap_alloc _ _ _ (by simp; try omega)]
    exact this
  · have := World.alloc_heap_new ((((((w).alloc o0).alloc o1).alloc o2).alloc o3).alloc o4) o5
    rw [World.size_alloc, World.size_alloc, World.size_alloc, World.size_alloc, World.size_alloc] at this
    rw [Below.heap_alloc _ _ _ (by simp; try omega), Below.heap_alloc _ _ _ (by simp; try omega), Below.heap_alloc _ _ _ (by simp; try omega)]
    exact this
  · have := World.alloc_heap_new (((((((w).alloc o0).alloc o1).alloc o2).alloc o3).alloc o4).alloc o5) o6
    rw [World.size_alloc, World.size_alloc, World.size_alloc, World.size_alloc, World.size_alloc, World.size_alloc] at this
    rw [Below.heap_alloc _ _ _ (by simp; try omega), Below.heap_alloc _ _ _ (by simp; try omega)]
    exact this
  · have := World.alloc_heap_new ((((((((w).alloc o0).alloc o1).alloc o2).alloc o3).alloc o4).alloc o5).alloc o6) o7
    rw [World.size_alloc, World.size_alloc, World.size_alloc, World.size_alloc, World.size_alloc, World.size_alloc, World.size_alloc] at this
    rw [Below.heap_alloc _ _ _ (by simp; try omega)]
    exact this
  · have := World.alloc_heap_new (((((((((w).alloc o0).alloc o1).alloc o2).alloc o3).alloc o4).alloc o5).alloc o6).alloc o7) o8
    rw [World.size_alloc, World.size_alloc, World.size_alloc, World.size_alloc, World.size_alloc, World.size_alloc, World.size_alloc, World.size_alloc] at this
    exact this
  · exact ((((((((((Below.refl _ w).alloc (by simp; try omega) o0).alloc (by simp; try omega) o1).alloc (by simp; try omega) o2).alloc (by simp; try omega) o3).alloc (by simp; try omega) o4).alloc (by simp; try omega) o5).alloc (by simp; try omega) o6).alloc (by simp; try omega) o7).alloc (by simp; try omega) o8)
/-! ### the program that must run -/
def madeP : Pg := ⟨1, 1, 9, fun i => [3, 9, 13, 4, 1, 11, 9, 39, 0].getD i 0, fun i => [0, 0, 0, 0, 7, 0, 0, 1, 0].getD i 0, fun i => 0, 2, fun i => [0, -1].getD i 0⟩
def madeV (n : Nat) : PgV := ⟨some ⟨n + 3, 0, none⟩, 9, some ⟨n + 4, 0, none⟩, 2⟩
def madeC : Cl := ⟨10, 4, 9, 2, 0, 5, 5, 3, 9⟩
def madeE : Ef := ⟨0, 1, fun _ => 35, 77, 4, 1, fun j => [.int .u64 15, .int .i64 2, .int .u64 3, .int .i64 2, .int .i64 1, .int .i64 7].getD j undef, 9⟩
structure MadeW (w W : World) : Prop where
  bel : Below w.heap.size w W
  r0 : W.heap[w.heap.size]? = some (.cells #[.int .i64 1, .int .i64 1, .slice (some ⟨w.heap.size + 3, 0, none⟩) 9 9, .slice (some ⟨w.heap.size + 4, 0, none⟩) 2 2] 25 (0, 0))
  r1 : W.heap[w.heap.size + 1]? = some (.cells #[.int .u64 10, .int .i64 4, .int .u64 9, .int .i64 2, .int .i64 0, .int .i64 5, .slice (some ⟨w.heap.size + 6, 0, none⟩) 1 1, .int .u64 77, .int .u64 3, .int .u64 5, .int .i64 3, .int .i64 9] 35 (0, 0))
  r2 : W.heap[w.heap.size + 2]? = some (.cells #[.int .i64 0, .slice (some ⟨w.heap.size + 9, 0, none⟩) 1 1, .int .u64 77, .int .u64 4, .slice (some ⟨w.heap.size + 8, 0, none⟩) 1 1, .int .i64 9] 40 (0, 0))
  code : W.heap[w.heap.size + 3]? = some (.cells #[.int .i64 3, .int .i64 0, .int .i64 0, .int .i64 9, .int .i64 0, .int .i64 0, .int .i64 13, .int .i64 0, .int .i64 0, .int .i64 4, .int .i64 0, .int .i64 0, .int .i64 1, .int .i64 7, .int .i64 0, .int .i64 11, .int .i64 0, .int .i64 0, .int .i64 9, .int .i64 0, .int .i64 0, .int .i64 39, .int .i64 1, .int .i64 0, .int .i64 0, .int .i64 0, .int .i64 0] 51 (0, 0))
  en : W.heap[w.heap.size + 4]? = some (.cells #[.int .i64 0, .int .i64 (-1)] 3 (0, 0))
  wd : W.heap[w.heap.size + 6]? = some (.cells #[.int .i64 30] 2 (0, 0))
  ev : W.heap[w.heap.size + 8]? = some (.cells #[.int .u64 15, .int .i64 2, .int .u64 3, .int .i64 2, .int .i64 1, .int .i64 7] 30 (0, 0))
  wo : W.heap[w.heap.size + 9]? = some (.cells #[.int .i64 35] 2 (0, 0))
theorem setRow_size (w : World) (g : Nat) (cs : Array Value) : (w.setRow g cs).heap.size = w.heap.size := by simp [World.setRow]
theorem made_ret (w W : World) (h : MadeW w W) (a : Act) (h0 : a.tmps.getD 0 undef = .pointer (some ⟨w.heap.size, 0, none⟩)) (h1 : a.tmps.getD 1 undef = .pointer (some ⟨w.heap.size + 1, 0, none⟩)) (h2 : a.tmps.getD 2 undef = .pointer (some ⟨w.heap.size + 2, 0, none⟩)) (hd : a.defers = []) : bodyPost Try.prog Try.f21 (fun e w' => e = .returned (.tuple #[.agg #[.int .i64 1, .int .i64 1, .slice (some ⟨w.heap.size + 3, 0, none⟩) 9 9, .slice (some ⟨w.heap.size + 4, 0, none⟩) 2 2], .agg #[.int .u64 10, .int .i64 4, .int .u64 9, .int .i64 2, .int .i64 0, .int .i64 5, .slice (some ⟨w.heap.size + 6, 0, none⟩) 1 1, .int .u64 77, .int .u64 3, .int .u64 5, .int .i64 3, .int .i64 9], .agg #[.int .i64 0, .slice (some ⟨w.heap.size + 9, 0, none⟩) 1 1, .int .u64 77, .int .u64 4, .slice (some ⟨w.heap.size + 8, 0, none⟩) 1 1, .int .i64 9]]) ∧ MadeW w w') .ret a W := by
  have l0 := run_loadVar_row (P := Try.prog) W w.heap.size _ 25 _ _ _ h.r0 Try.underlying25 rfl (by kernel_rfl)
  have l1 := run_loadVar_row (P := Try.prog) W (w.heap.size + 1) _ 35 _ _ _ h.r1 Try.underlying35 rfl (by kernel_rfl)
  have l2 := run_loadVar_row (P := Try.prog) W (w.heap.size + 2) _ 40 _ _ _ h.r2 Try.underlying40 rfl (by kernel_rfl)
  have g0 : a.tmps[0]?.getD undef = .pointer (some ⟨w.heap.size, 0, none⟩) := by simpa using h0
  have g1 : a.tmps[1]?.getD undef = .pointer (some ⟨w.heap.size + 1, 0, none⟩) := by simpa using h1
  have g2 : a.tmps[2]?.getD undef = .pointer (some ⟨w.heap.size + 2, 0, none⟩) := by simpa using h2
  refine bodyPost_ret_by (v := .tuple #[.agg #[.int .i64 1, .int .i64 1, .slice (some ⟨w.heap.size + 3, 0, none⟩) 9 9, .slice (some ⟨w.heap.size + 4, 0, none⟩) 2 2], .agg #[.int .u64 10, .int .i64 4, .int .u64 9, .int .i64 2, .int .i64 0, .int .i64 5, .slice (some ⟨w.heap.size + 6, 0, none⟩) 1 1, .int .u64 77, .int .u64 3, .int .u64 5, .int .i64 3, .int .i64 9], .agg #[.int .i64 0, .slice (some ⟨w.heap.size + 9, 0, none⟩) 1 1, .int .u64 77, .int .u64 4, .slice (some ⟨w.heap.size + 8, 0, none⟩) 1 1, .int .i64 9]]) ?_ hd ⟨rfl, h⟩
  simp [results, Try.results21, g0, g1, g2, asAddr, l0, l1, l2]
set_option maxRecDepth 100000 in
set_option maxHeartbeats 4000000 in
theorem made_any (w : World) :
    Calls Try.prog 21 #[] w fun e w' => e = .returned (.tuple #[.agg #[.int .i64 1, .int .i64 1, .slice (some ⟨w.heap.size + 3, 0, none⟩) 9 9, .slice (some ⟨w.heap.size + 4, 0, none⟩) 2 2], .agg #[.int .u64 10, .int .i64 4, .int .u64 9, .int .i64 2, .int .i64 0, .int .i64 5, .slice (some ⟨w.heap.size + 6, 0, none⟩) 1 1, .int .u64 77, .int .u64 3, .int .u64 5, .int .i64 3, .int .i64 9], .agg #[.int .i64 0, .slice (some ⟨w.heap.size + 9, 0, none⟩) 1 1, .int .u64 77, .int .u64 4, .slice (some ⟨w.heap.size + 8, 0, none⟩) 1 1, .int .i64 9]]) ∧ MadeW w w' := by
  go_enter Try.func21, Try.ntmps21
  go_wp2
  generalize hq : (World.alloc (World.alloc (World.alloc (World.alloc (World.alloc (World.alloc (World.alloc (World.alloc (World.alloc w _) _) _) _) _) _) _) _) _) = wq
  obtain ⟨⟨h0, h1, h2, h3, h4, h5, h6, h7, h8⟩, hsz, hbq⟩ := nine hq
  clear hq
  have hszd : wq.drew.heap.size = w.heap.size + 9 := hsz
  have hbd : Below w.heap.size w wq.drew := hbq.trans (below_drewNq _ wq 1)
  have F0 : ∀ j, 3 ≤ j → j < 9 → wq.drew.heap[w.heap.size + j]? = wq.heap[w.heap.size + j]? := fun _ _ _ => rfl
  refine wp_region_held_drew (S := fun W => W.heap[w.heap.size + 5]? = wq.heap[w.heap.size + 5]? ∧ W.heap[w.heap.size + 7]? = wq.heap[w.heap.size + 7]?) (by kernel_rfl) ⟨rfl, rfl⟩ (fun hHeld => ?_)
  refine wpAnyH_take (i := 0) (v := ?hv0u1) rfl (by kernel_rfl) (by kernel_rfl) (by kernel_rfl) (fun _ _ _ h => h) (Or.inl ⟨by rfl, ?hy0u1⟩) (by assumption) ?hr0u1
  case hy0u1 => ((intro W hSw; obtain ⟨a0, a1, a2, a3⟩ := cells4 (hSw.1.trans h5); go_simp); try with_reducible rfl)
  simp only [List.getElem_toArray, List.getElem_cons_zero, List.getElem_cons_succ, Act.put, List.setIfInBounds_toArray, List.set_cons_zero, List.set_cons_succ]
  refine wpAnyH_take (i := 1) (v := ?hv1u2) rfl (by kernel_rfl) (by kernel_rfl) (by kernel_rfl) (fun _ _ _ h => h) (Or.inl ⟨by rfl, ?hy1u2⟩) (by assumption) ?hr1u2
  case hy1u2 => ((intro W hSw; obtain ⟨⟨b0, b1, b2, b3, b4, b5⟩, b6, b7, b8, b9, b10, b11⟩ := cells12 (hSw.2.trans h7); go_simp); try with_reducible rfl)
  simp only [List.getElem_toArray, List.getElem_cons_zero, List.getElem_cons_succ, Act.put, List.setIfInBounds_toArray, List.set_cons_zero, List.set_cons_succ]
  refine wpAnyH_take (i := 4) (v := ?hv4u3) rfl (by kernel_rfl) (by kernel_rfl) (by kernel_rfl) (fun _ _ _ h => h) (Or.inl ⟨by rfl, ?hy4u3⟩) (by assumption) ?hr4u3
  case hy4u3 => ((intro W hSw; go_simp); try with_reducible rfl)
  simp only [List.getElem_toArray, List.getElem_cons_zero, List.getElem_cons_succ, Act.put, List.setIfInBounds_toArray, List.set_cons_zero, List.set_cons_succ]
  refine wpAnyH_ready (rs := [2, 6]) (by kernel_rfl) (by simp) (AllReadyH.cons rfl (fun KK hK => ?_) (AllReadyH.cons rfl (fun KK hK => ?_) AllReadyH.nil))
  all_goals dsimp -proj only [List.getElem_toArray, List.getElem_cons_zero, List.getElem_cons_succ]
  · go_simp
    change KK _ ((wq.drew).alloc (.cells #[.int .i64 35] 2))
    obtain ⟨x1, hx1⟩ : ∃ x, (wq.drew).alloc (.cells #[.int .i64 35] 2) = x := ⟨_, rfl⟩
    have f1 : ∀ j, j < w.heap.size + 9 → x1.heap[j]? = (wq.drew).heap[j]? := fun j hj => by rw [← hx1]; exact Below.heap_alloc _ _ _ (by rw [hszd]; omega)
    have S1 : x1.heap.size = w.heap.size + 10 := by rw [← hx1, World.size_alloc, hszd]
    have wo1 : x1.heap[w.heap.size + 9]? = some (.cells #[.int .i64 35] 2 (0, 0)) := by rw [← hx1, ← hszd]; exact World.alloc_heap_new _ _
    have B1 : Below w.heap.size w x1 := by rw [← hx1]; exact hbd.alloc (by rw [hszd]; omega) _
    have F1 : ∀ j, 3 ≤ j → j < 9 → x1.heap[w.heap.size + j]? = wq.heap[w.heap.size + j]? := fun j h1 h2 => (f1 _ (by omega)).trans (F0 j h1 h2)
    rw [hx1]
    try rw [hszd]
    try rw [hsz]
    clear hx1
    have R10 := (f1 (w.heap.size + 0) (by omega)).trans h0
    have R11 := (f1 (w.heap.size + 1) (by omega)).trans h1
    have R12 := (f1 (w.heap.size + 2) (by omega)).trans h2
    refine hK.out _ _ ⟨F1 5 (by omega) (by omega), F1 7 (by omega) (by omega)⟩ (fun hHeld => ?_)
    clear hK KK
    try simp only [Act.put, List.setIfInBounds_toArray, List.set_cons_zero, List.set_cons_succ]
    refine wpAnyH_take (i := 3) (v := ?hv3u4) rfl (by kernel_rfl) (by kernel_rfl) (by kernel_rfl) (fun _ _ _ h => h) (Or.inl ⟨by rfl, ?hy3u4⟩) (by assumption) ?hr3u4
    case hy3u4 => ((intro W hSw; go_simp); try with_reducible rfl)
    simp only [List.getElem_toArray, List.getElem_cons_zero, List.getElem_cons_succ, Act.put, List.setIfInBounds_toArray, List.set_cons_zero, List.set_cons_succ]
    refine wpAnyH_take (i := 5) (v := ?hv5u5) rfl (by kernel_rfl) (by kernel_rfl) (by kernel_rfl) (fun _ _ _ h => h) (Or.inl ⟨by rfl, ?hy5u5⟩) (by assumption) ?hr5u5
    case hy5u5 => ((intro W hSw; go_simp); try with_reducible rfl)
    simp only [List.getElem_toArray, List.getElem_cons_zero, List.getElem_cons_succ, Act.put, List.setIfInBounds_toArray, List.set_cons_zero, List.set_cons_succ]
    refine wpAnyH_ready (rs := [6]) (by kernel_rfl) (by simp) (AllReadyH.cons rfl (fun KK hK => ?_) AllReadyH.nil)
    all_goals dsimp -proj only [List.getElem_toArray, List.getElem_cons_zero, List.getElem_cons_succ]
    · refine step_store_row rfl 25 _ _ rfl (w.heap.size + 0) #[.int .i64 1, .int .i64 1, .slice (some ⟨w.heap.size + 3, 0, none⟩) 9 9, .slice (some ⟨w.heap.size + 4, 0, none⟩) 2 2] rfl rfl 25 _ R10 (by kernel_rfl) rfl (by kernel_rfl) ?_
      obtain ⟨x2, hx2⟩ : ∃ x, (x1).setRow (w.heap.size + 0) #[.int .i64 1, .int .i64 1, .slice (some ⟨w.heap.size + 3, 0, none⟩) 9 9, .slice (some ⟨w.heap.size + 4, 0, none⟩) 2 2] = x := ⟨_, rfl⟩
      have f2 : ∀ j, j ≠ w.heap.size + 0 → x2.heap[j]? = (x1).heap[j]? := fun j hj => by rw [← hx2]; exact setRow_far _ _ _ _ hj
      have S2 : x2.heap.size = w.heap.size + 10 := by rw [← hx2, setRow_size]; exact S1
      have B2 : Below w.heap.size w x2 := by rw [← hx2]; exact setRow_below _ B1 (by omega)
      have R20 : x2.heap[w.heap.size + 0]? = some (.cells #[.int .i64 1, .int .i64 1, .slice (some ⟨w.heap.size + 3, 0, none⟩) 9 9, .slice (some ⟨w.heap.size + 4, 0, none⟩) 2 2] 25 (0, 0)) := by rw [← hx2]; exact setRow_heap _ _ _ _ _ _ R10
      have F2 : ∀ j, 3 ≤ j → j < 9 → x2.heap[w.heap.size + j]? = wq.heap[w.heap.size + j]? := fun j h1 h2 => (f2 _ (by omega)).trans (F1 j h1 h2)
      rw [hx2]
      clear hx2
      have R21 := (f2 (w.heap.size + 1) (by omega)).trans R11
      have R22 := (f2 (w.heap.size + 2) (by omega)).trans R12
      have wo2 := (f2 (w.heap.size + 9) (by omega)).trans wo1
      refine hK.out _ _ ⟨F2 5 (by omega) (by omega), F2 7 (by omega) (by omega)⟩ (fun hHeld => ?_)
      clear hK KK
      try simp only [Act.put, List.setIfInBounds_toArray, List.set_cons_zero, List.set_cons_succ]
      refine wpAnyH_ready (rs := [7]) (by kernel_rfl) (by simp) (AllReadyH.cons rfl (fun KK hK => ?_) AllReadyH.nil)
      all_goals dsimp -proj only [List.getElem_toArray, List.getElem_cons_zero, List.getElem_cons_succ]
      · refine step_store_row rfl 35 _ _ rfl (w.heap.size + 1) #[.int .u64 10, .int .i64 4, .int .u64 9, .int .i64 2, .int .i64 0, .int .i64 5, .slice (some ⟨w.heap.size + 6, 0, none⟩) 1 1, .int .u64 77, .int .u64 3, .int .u64 5, .int .i64 3, .int .i64 9] rfl rfl 35 _ R21 (by kernel_rfl) rfl (by kernel_rfl) ?_
        obtain ⟨x3, hx3⟩ : ∃ x, (x2).setRow (w.heap.size + 1) #[.int .u64 10, .int .i64 4, .int .u64 9, .int .i64 2, .int .i64 0, .int .i64 5, .slice (some ⟨w.heap.size + 6, 0, none⟩) 1 1, .int .u64 77, .int .u64 3, .int .u64 5, .int .i64 3, .int .i64 9] = x := ⟨_, rfl⟩
        have f3 : ∀ j, j ≠ w.heap.size + 1 → x3.heap[j]? = (x2).heap[j]? := fun j hj => by rw [← hx3]; exact setRow_far _ _ _ _ hj
        have S3 : x3.heap.size = w.heap.size + 10 := by rw [← hx3, setRow_size]; exact S2
        have B3 : Below w.heap.size w x3 := by rw [← hx3]; exact setRow_below _ B2 (by omega)
        have R31 : x3.heap[w.heap.size + 1]? = some (.cells #[.int .u64 10, .int .i64 4, .int .u64 9, .int .i64 2, .int .i64 0, .int .i64 5, .slice (some ⟨w.heap.size + 6, 0, none⟩) 1 1, .int .u64 77, .int .u64 3, .int .u64 5, .int .i64 3, .int .i64 9] 35 (0, 0)) := by rw [← hx3]; exact setRow_heap _ _ _ _ _ _ R21
        have F3 : ∀ j, 3 ≤ j → j < 9 → x3.heap[w.heap.size + j]? = wq.heap[w.heap.size + j]? := fun j h1 h2 => (f3 _ (by omega)).trans (F2 j h1 h2)
        rw [hx3]
        clear hx3
        have R30 := (f3 (w.heap.size + 0) (by omega)).trans R20
        have R32 := (f3 (w.heap.size + 2) (by omega)).trans R22
        have wo3 := (f3 (w.heap.size + 9) (by omega)).trans wo2
        refine hK.out _ _ ⟨F3 5 (by omega) (by omega), F3 7 (by omega) (by omega)⟩ (fun hHeld => ?_)
        clear hK KK
        try simp only [Act.put, List.setIfInBounds_toArray, List.set_cons_zero, List.set_cons_succ]
        refine wpAnyH_ready (rs := [8]) (by kernel_rfl) (by simp) (AllReadyH.cons rfl (fun KK hK => ?_) AllReadyH.nil)
        all_goals dsimp -proj only [List.getElem_toArray, List.getElem_cons_zero, List.getElem_cons_succ]
        · refine step_store_row rfl 40 _ _ rfl (w.heap.size + 2) #[.int .i64 0, .slice (some ⟨w.heap.size + 9, 0, none⟩) 1 1, .int .u64 77, .int .u64 4, .slice (some ⟨w.heap.size + 8, 0, none⟩) 1 1, .int .i64 9] rfl rfl 40 _ R32 (by kernel_rfl) rfl (by kernel_rfl) ?_
          obtain ⟨x4, hx4⟩ : ∃ x, (x3).setRow (w.heap.size + 2) #[.int .i64 0, .slice (some ⟨w.heap.size + 9, 0, none⟩) 1 1, .int .u64 77, .int .u64 4, .slice (some ⟨w.heap.size + 8, 0, none⟩) 1 1, .int .i64 9] = x := ⟨_, rfl⟩
          have f4 : ∀ j, j ≠ w.heap.size + 2 → x4.heap[j]? = (x3).heap[j]? := fun j hj => by rw [← hx4]; exact setRow_far _ _ _ _ hj
          have S4 : x4.heap.size = w.heap.size + 10 := by rw [← hx4, setRow_size]; exact S3
          have B4 : Below w.heap.size w x4 := by rw [← hx4]; exact setRow_below _ B3 (by omega)
          have R42 : x4.heap[w.heap.size + 2]? = some (.cells #[.int .i64 0, .slice (some ⟨w.heap.size + 9, 0, none⟩) 1 1, .int .u64 77, .int .u64 4, .slice (some ⟨w.heap.size + 8, 0, none⟩) 1 1, .int .i64 9] 40 (0, 0)) := by rw [← hx4]; exact setRow_heap _ _ _ _ _ _ R32
          have F4 : ∀ j, 3 ≤ j → j < 9 → x4.heap[w.heap.size + j]? = wq.heap[w.heap.size + j]? := fun j h1 h2 => (f4 _ (by omega)).trans (F3 j h1 h2)
          rw [hx4]
          clear hx4
          have R40 := (f4 (w.heap.size + 0) (by omega)).trans R30
          have R41 := (f4 (w.heap.size + 1) (by omega)).trans R31
          have wo4 := (f4 (w.heap.size + 9) (by omega)).trans wo3
          refine hK.out _ _ ⟨F4 5 (by omega) (by omega), F4 7 (by omega) (by omega)⟩ (fun hHeld => ?_)
          clear hK KK
          try simp only [Act.put, List.setIfInBounds_toArray, List.set_cons_zero, List.set_cons_succ]
          refine wpAnyH_done (by kernel_rfl) ?_ _
          go_wp2_with fail
          have hM : MadeW w x4 := ⟨B4, R40, R41, R42, (F4 3 (by omega) (by omega)).trans h3, (F4 4 (by omega) (by omega)).trans h4, (F4 6 (by omega) (by omega)).trans h6, (F4 8 (by omega) (by omega)).trans h8, wo4⟩
          exact made_ret w x4 hM _ rfl rfl rfl rfl
  · refine step_store_row rfl 25 _ _ rfl (w.heap.size + 0) #[.int .i64 1, .int .i64 1, .slice (some ⟨w.heap.size + 3, 0, none⟩) 9 9, .slice (some ⟨w.heap.size + 4, 0, none⟩) 2 2] rfl rfl 25 _ h0 (by kernel_rfl) rfl (by kernel_rfl) ?_
    obtain ⟨x5, hx5⟩ : ∃ x, (wq.drew).setRow (w.heap.size + 0) #[.int .i64 1, .int .i64 1, .slice (some ⟨w.heap.size + 3, 0, none⟩) 9 9, .slice (some ⟨w.heap.size + 4, 0, none⟩) 2 2] = x := ⟨_, rfl⟩
    have f5 : ∀ j, j ≠ w.heap.size + 0 → x5.heap[j]? = (wq.drew).heap[j]? := fun j hj => by rw [← hx5]; exact setRow_far _ _ _ _ hj
    have S5 : x5.heap.size = w.heap.size + 9 := by rw [← hx5, setRow_size]; exact hszd
    have B5 : Below w.heap.size w x5 := by rw [← hx5]; exact setRow_below _ hbd (by omega)
    have R50 : x5.heap[w.heap.size + 0]? = some (.cells #[.int .i64 1, .int .i64 1, .slice (some ⟨w.heap.size + 3, 0, none⟩) 9 9, .slice (some ⟨w.heap.size + 4, 0, none⟩) 2 2] 25 (0, 0)) := by rw [← hx5]; exact setRow_heap _ _ _ _ _ _ h0
    have F5 : ∀ j, 3 ≤ j → j < 9 → x5.heap[w.heap.size + j]? = wq.heap[w.heap.size + j]? := fun j h1 h2 => (f5 _ (by omega)).trans (F0 j h1 h2)
    rw [hx5]
    clear hx5
    have R51 := (f5 (w.heap.size + 1) (by omega)).trans h1
    have R52 := (f5 (w.heap.size + 2) (by omega)).trans h2
    refine hK.out _ _ ⟨F5 5 (by omega) (by omega), F5 7 (by omega) (by omega)⟩ (fun hHeld => ?_)
    clear hK KK
    try simp only [Act.put, List.setIfInBounds_toArray, List.set_cons_zero, List.set_cons_succ]
    refine wpAnyH_ready (rs := [2, 7]) (by kernel_rfl) (by simp) (AllReadyH.cons rfl (fun KK hK => ?_) (AllReadyH.cons rfl (fun KK hK => ?_) AllReadyH.nil))
    all_goals dsimp -proj only [List.getElem_toArray, List.getElem_cons_zero, List.getElem_cons_succ]
    · go_simp
      change KK _ ((x5).alloc (.cells #[.int .i64 35] 2))
      obtain ⟨x6, hx6⟩ : ∃ x, (x5).alloc (.cells #[.int .i64 35] 2) = x := ⟨_, rfl⟩
      have f6 : ∀ j, j < w.heap.size + 9 → x6.heap[j]? = (x5).heap[j]? := fun j hj => by rw [← hx6]; exact Below.heap_alloc _ _ _ (by rw [S5]; omega)
      have S6 : x6.heap.size = w.heap.size + 10 := by rw [← hx6, World.size_alloc, S5]
      have wo6 : x6.heap[w.heap.size + 9]? = some (.cells #[.int .i64 35] 2 (0, 0)) := by rw [← hx6, ← S5]; exact World.alloc_heap_new _ _
      have B6 : Below w.heap.size w x6 := by rw [← hx6]; exact B5.alloc (by rw [S5]; omega) _
      have F6 : ∀ j, 3 ≤ j → j < 9 → x6.heap[w.heap.size + j]? = wq.heap[w.heap.size + j]? := fun j h1 h2 => (f6 _ (by omega)).trans (F5 j h1 h2)
      rw [hx6]
      try rw [S5]
      try rw [hsz]
      clear hx6
      have R60 := (f6 (w.heap.size + 0) (by omega)).trans R50
      have R61 := (f6 (w.heap.size + 1) (by omega)).trans R51
      have R62 := (f6 (w.heap.size + 2) (by omega)).trans R52
      refine hK.out _ _ ⟨F6 5 (by omega) (by omega), F6 7 (by omega) (by omega)⟩ (fun hHeld => ?_)
      clear hK KK
      try simp only [Act.put, List.setIfInBounds_toArray, List.set_cons_zero, List.set_cons_succ]
      refine wpAnyH_take (i := 3) (v := ?hv3u6) rfl (by kernel_rfl) (by kernel_rfl) (by kernel_rfl) (fun _ _ _ h => h) (Or.inl ⟨by rfl, ?hy3u6⟩) (by assumption) ?hr3u6
      case hy3u6 => ((intro W hSw; go_simp); try with_reducible rfl)
      simp only [List.getElem_toArray, List.getElem_cons_zero, List.getElem_cons_succ, Act.put, List.setIfInBounds_toArray, List.set_cons_zero, List.set_cons_succ]
      refine wpAnyH_take (i := 5) (v := ?hv5u7) rfl (by kernel_rfl) (by kernel_rfl) (by kernel_rfl) (fun _ _ _ h => h) (Or.inl ⟨by rfl, ?hy5u7⟩) (by assumption) ?hr5u7
      case hy5u7 => ((intro W hSw; go_simp); try with_reducible rfl)
      simp only [List.getElem_toArray, List.getElem_cons_zero, List.getElem_cons_succ, Act.put, List.setIfInBounds_toArray, List.set_cons_zero, List.set_cons_succ]
      refine wpAnyH_ready (rs := [7]) (by kernel_rfl) (by simp) (AllReadyH.cons rfl (fun KK hK => ?_) AllReadyH.nil)
      all_goals dsimp -proj only [List.getElem_toArray, List.getElem_cons_zero, List.getElem_cons_succ]
      · refine step_store_row rfl 35 _ _ rfl (w.heap.size + 1) #[.int .u64 10, .int .i64 4, .int .u64 9, .int .i64 2, .int .i64 0, .int .i64 5, .slice (some ⟨w.heap.size + 6, 0, none⟩) 1 1, .int .u64 77, .int .u64 3, .int .u64 5, .int .i64 3, .int .i64 9] rfl rfl 35 _ R61 (by kernel_rfl) rfl (by kernel_rfl) ?_
        obtain ⟨x7, hx7⟩ : ∃ x, (x6).setRow (w.heap.size + 1) #[.int .u64 10, .int .i64 4, .int .u64 9, .int .i64 2, .int .i64 0, .int .i64 5, .slice (some ⟨w.heap.size + 6, 0, none⟩) 1 1, .int .u64 77, .int .u64 3, .int .u64 5, .int .i64 3, .int .i64 9] = x := ⟨_, rfl⟩
        have f7 : ∀ j, j ≠ w.heap.size + 1 → x7.heap[j]? = (x6).heap[j]? := fun j hj => by rw [← hx7]; exact setRow_far _ _ _ _ hj
        have S7 : x7.heap.size = w.heap.size + 10 := by rw [← hx7, setRow_size]; exact S6
        have B7 : Below w.heap.size w x7 := by rw [← hx7]; exact setRow_below _ B6 (by omega)
        have R71 : x7.heap[w.heap.size + 1]? = some (.cells #[.int .u64 10, .int .i64 4, .int .u64 9, .int .i64 2, .int .i64 0, .int .i64 5, .slice (some ⟨w.heap.size + 6, 0, none⟩) 1 1, .int .u64 77, .int .u64 3, .int .u64 5, .int .i64 3, .int .i64 9] 35 (0, 0)) := by rw [← hx7]; exact setRow_heap _ _ _ _ _ _ R61
        have F7 : ∀ j, 3 ≤ j → j < 9 → x7.heap[w.heap.size + j]? = wq.heap[w.heap.size + j]? := fun j h1 h2 => (f7 _ (by omega)).trans (F6 j h1 h2)
        rw [hx7]
        clear hx7
        have R70 := (f7 (w.heap.size + 0) (by omega)).trans R60
        have R72 := (f7 (w.heap.size + 2) (by omega)).trans R62
        have wo7 := (f7 (w.heap.size + 9) (by omega)).trans wo6
        refine hK.out _ _ ⟨F7 5 (by omega) (by omega), F7 7 (by omega) (by omega)⟩ (fun hHeld => ?_)
        clear hK KK
        try simp only [Act.put, List.setIfInBounds_toArray, List.set_cons_zero, List.set_cons_succ]
        refine wpAnyH_ready (rs := [8]) (by kernel_rfl) (by simp) (AllReadyH.cons rfl (fun KK hK => ?_) AllReadyH.nil)
        all_goals dsimp -proj only [List.getElem_toArray, List.getElem_cons_zero, List.getElem_cons_succ]
        · refine step_store_row rfl 40 _ _ rfl (w.heap.size + 2) #[.int .i64 0, .slice (some ⟨w.heap.size + 9, 0, none⟩) 1 1, .int .u64 77, .int .u64 4, .slice (some ⟨w.heap.size + 8, 0, none⟩) 1 1, .int .i64 9] rfl rfl 40 _ R72 (by kernel_rfl) rfl (by kernel_rfl) ?_
          obtain ⟨x8, hx8⟩ : ∃ x, (x7).setRow (w.heap.size + 2) #[.int .i64 0, .slice (some ⟨w.heap.size + 9, 0, none⟩) 1 1, .int .u64 77, .int .u64 4, .slice (some ⟨w.heap.size + 8, 0, none⟩) 1 1, .int .i64 9] = x := ⟨_, rfl⟩
          have f8 : ∀ j, j ≠ w.heap.size + 2 → x8.heap[j]? = (x7).heap[j]? := fun j hj => by rw [← hx8]; exact setRow_far _ _ _ _ hj
          have S8 : x8.heap.size = w.heap.size + 10 := by rw [← hx8, setRow_size]; exact S7
          have B8 : Below w.heap.size w x8 := by rw [← hx8]; exact setRow_below _ B7 (by omega)
          have R82 : x8.heap[w.heap.size + 2]? = some (.cells #[.int .i64 0, .slice (some ⟨w.heap.size + 9, 0, none⟩) 1 1, .int .u64 77, .int .u64 4, .slice (some ⟨w.heap.size + 8, 0, none⟩) 1 1, .int .i64 9] 40 (0, 0)) := by rw [← hx8]; exact setRow_heap _ _ _ _ _ _ R72
          have F8 : ∀ j, 3 ≤ j → j < 9 → x8.heap[w.heap.size + j]? = wq.heap[w.heap.size + j]? := fun j h1 h2 => (f8 _ (by omega)).trans (F7 j h1 h2)
          rw [hx8]
          clear hx8
          have R80 := (f8 (w.heap.size + 0) (by omega)).trans R70
          have R81 := (f8 (w.heap.size + 1) (by omega)).trans R71
          have wo8 := (f8 (w.heap.size + 9) (by omega)).trans wo7
          refine hK.out _ _ ⟨F8 5 (by omega) (by omega), F8 7 (by omega) (by omega)⟩ (fun hHeld => ?_)
          clear hK KK
          try simp only [Act.put, List.setIfInBounds_toArray, List.set_cons_zero, List.set_cons_succ]
          refine wpAnyH_done (by kernel_rfl) ?_ _
          go_wp2_with fail
          have hM : MadeW w x8 := ⟨B8, R80, R81, R82, (F8 3 (by omega) (by omega)).trans h3, (F8 4 (by omega) (by omega)).trans h4, (F8 6 (by omega) (by omega)).trans h6, (F8 8 (by omega) (by omega)).trans h8, wo8⟩
          exact made_ret w x8 hM _ rfl rfl rfl rfl
    · refine step_store_row rfl 35 _ _ rfl (w.heap.size + 1) #[.int .u64 10, .int .i64 4, .int .u64 9, .int .i64 2, .int .i64 0, .int .i64 5, .slice (some ⟨w.heap.size + 6, 0, none⟩) 1 1, .int .u64 77, .int .u64 3, .int .u64 5, .int .i64 3, .int .i64 9] rfl rfl 35 _ R51 (by kernel_rfl) rfl (by kernel_rfl) ?_
      obtain ⟨x9, hx9⟩ : ∃ x, (x5).setRow (w.heap.size + 1) #[.int .u64 10, .int .i64 4, .int .u64 9, .int .i64 2, .int .i64 0, .int .i64 5, .slice (some ⟨w.heap.size + 6, 0, none⟩) 1 1, .int .u64 77, .int .u64 3, .int .u64 5, .int .i64 3, .int .i64 9] = x := ⟨_, rfl⟩
      have f9 : ∀ j, j ≠ w.heap.size + 1 → x9.heap[j]? = (x5).heap[j]? := fun j hj => by rw [← hx9]; exact setRow_far _ _ _ _ hj
      have S9 : x9.heap.size = w.heap.size + 9 := by rw [← hx9, setRow_size]; exact S5
      have B9 : Below w.heap.size w x9 := by rw [← hx9]; exact setRow_below _ B5 (by omega)
      have R91 : x9.heap[w.heap.size + 1]? = some (.cells #[.int .u64 10, .int .i64 4, .int .u64 9, .int .i64 2, .int .i64 0, .int .i64 5, .slice (some ⟨w.heap.size + 6, 0, none⟩) 1 1, .int .u64 77, .int .u64 3, .int .u64 5, .int .i64 3, .int .i64 9] 35 (0, 0)) := by rw [← hx9]; exact setRow_heap _ _ _ _ _ _ R51
      have F9 : ∀ j, 3 ≤ j → j < 9 → x9.heap[w.heap.size + j]? = wq.heap[w.heap.size + j]? := fun j h1 h2 => (f9 _ (by omega)).trans (F5 j h1 h2)
      rw [hx9]
      clear hx9
      have R90 := (f9 (w.heap.size + 0) (by omega)).trans R50
      have R92 := (f9 (w.heap.size + 2) (by omega)).trans R52
      refine hK.out _ _ ⟨F9 5 (by omega) (by omega), F9 7 (by omega) (by omega)⟩ (fun hHeld => ?_)
      clear hK KK
      try simp only [Act.put, List.setIfInBounds_toArray, List.set_cons_zero, List.set_cons_succ]
      refine wpAnyH_ready (rs := [2]) (by kernel_rfl) (by simp) (AllReadyH.cons rfl (fun KK hK => ?_) AllReadyH.nil)
      all_goals dsimp -proj only [List.getElem_toArray, List.getElem_cons_zero, List.getElem_cons_succ]
      · go_simp
        change KK _ ((x9).alloc (.cells #[.int .i64 35] 2))
        obtain ⟨x10, hx10⟩ : ∃ x, (x9).alloc (.cells #[.int .i64 35] 2) = x := ⟨_, rfl⟩
        have f10 : ∀ j, j < w.heap.size + 9 → x10.heap[j]? = (x9).heap[j]? := fun j hj => by rw [← hx10]; exact Below.heap_alloc _ _ _ (by rw [S9]; omega)
        have S10 : x10.heap.size = w.heap.size + 10 := by rw [← hx10, World.size_alloc, S9]
        have wo10 : x10.heap[w.heap.size + 9]? = some (.cells #[.int .i64 35] 2 (0, 0)) := by rw [← hx10, ← S9]; exact World.alloc_heap_new _ _
        have B10 : Below w.heap.size w x10 := by rw [← hx10]; exact B9.alloc (by rw [S9]; omega) _
        have F10 : ∀ j, 3 ≤ j → j < 9 → x10.heap[w.heap.size + j]? = wq.heap[w.heap.size + j]? := fun j h1 h2 => (f10 _ (by omega)).trans (F9 j h1 h2)
        rw [hx10]
        try rw [S9]
        try rw [hsz]
        clear hx10
        have R100 := (f10 (w.heap.size + 0) (by omega)).trans R90
        have R101 := (f10 (w.heap.size + 1) (by omega)).trans R91
        have R102 := (f10 (w.heap.size + 2) (by omega)).trans R92
        refine hK.out _ _ ⟨F10 5 (by omega) (by omega), F10 7 (by omega) (by omega)⟩ (fun hHeld => ?_)
        clear hK KK
        try simp only [Act.put, List.setIfInBounds_toArray, List.set_cons_zero, List.set_cons_succ]
        refine wpAnyH_take (i := 3) (v := ?hv3u8) rfl (by kernel_rfl) (by kernel_rfl) (by kernel_rfl) (fun _ _ _ h => h) (Or.inl ⟨by rfl, ?hy3u8⟩) (by assumption) ?hr3u8
        case hy3u8 => ((intro W hSw; go_simp); try with_reducible rfl)
        simp only [List.getElem_toArray, List.getElem_cons_zero, List.getElem_cons_succ, Act.put, List.setIfInBounds_toArray, List.set_cons_zero, List.set_cons_succ]
        refine wpAnyH_take (i := 5) (v := ?hv5u9) rfl (by kernel_rfl) (by kernel_rfl) (by kernel_rfl) (fun _ _ _ h => h) (Or.inl ⟨by rfl, ?hy5u9⟩) (by assumption) ?hr5u9
        case hy5u9 => ((intro W hSw; go_simp); try with_reducible rfl)
        simp only [List.getElem_toArray, List.getElem_cons_zero, List.getElem_cons_succ, Act.put, List.setIfInBounds_toArray, List.set_cons_zero, List.set_cons_succ]
        refine wpAnyH_ready (rs := [8]) (by kernel_rfl) (by simp) (AllReadyH.cons rfl (fun KK hK => ?_) AllReadyH.nil)
        all_goals dsimp -proj only [List.getElem_toArray, List.getElem_cons_zero, List.getElem_cons_succ]
        · refine step_store_row rfl 40 _ _ rfl (w.heap.size + 2) #[.int .i64 0, .slice (some ⟨w.heap.size + 9, 0, none⟩) 1 1, .int .u64 77, .int .u64 4, .slice (some ⟨w.heap.size + 8, 0, none⟩) 1 1, .int .i64 9] rfl rfl 40 _ R102 (by kernel_rfl) rfl (by kernel_rfl) ?_
          obtain ⟨x11, hx11⟩ : ∃ x, (x10).setRow (w.heap.size + 2) #[.int .i64 0, .slice (some ⟨w.heap.size + 9, 0, none⟩) 1 1, .int .u64 77, .int .u64 4, .slice (some ⟨w.heap.size + 8, 0, none⟩) 1 1, .int .i64 9] = x := ⟨_, rfl⟩
          have f11 : ∀ j, j ≠ w.heap.size + 2 → x11.heap[j]? = (x10).heap[j]? := fun j hj => by rw [← hx11]; exact setRow_far _ _ _ _ hj
          have S11 : x11.heap.size = w.heap.size + 10 := by rw [← hx11, setRow_size]; exact S10
          have B11 : Below w.heap.size w x11 := by rw [← hx11]; exact setRow_below _ B10 (by omega)
          have R112 : x11.heap[w.heap.size + 2]? = some (.cells #[.int .i64 0, .slice (some ⟨w.heap.size + 9, 0, none⟩) 1 1, .int .u64 77, .int .u64 4, .slice (some ⟨w.heap.size + 8, 0, none⟩) 1 1, .int .i64 9] 40 (0, 0)) := by rw [← hx11]; exact setRow_heap _ _ _ _ _ _ R102
          have F11 : ∀ j, 3 ≤ j → j < 9 → x11.heap[w.heap.size + j]? = wq.heap[w.heap.size + j]? := fun j h1 h2 => (f11 _ (by omega)).trans (F10 j h1 h2)
          rw [hx11]
          clear hx11
          have R110 := (f11 (w.heap.size + 0) (by omega)).trans R100
          have R111 := (f11 (w.heap.size + 1) (by omega)).trans R101
          have wo11 := (f11 (w.heap.size + 9) (by omega)).trans wo10
          refine hK.out _ _ ⟨F11 5 (by omega) (by omega), F11 7 (by omega) (by omega)⟩ (fun hHeld => ?_)
          clear hK KK
          try simp only [Act.put, List.setIfInBounds_toArray, List.set_cons_zero, List.set_cons_succ]
          refine wpAnyH_done (by kernel_rfl) ?_ _
          go_wp2_with fail
          have hM : MadeW w x11 := ⟨B11, R110, R111, R112, (F11 3 (by omega) (by omega)).trans h3, (F11 4 (by omega) (by omega)).trans h4, (F11 6 (by omega) (by omega)).trans h6, (F11 8 (by omega) (by omega)).trans h8, wo11⟩
          exact made_ret w x11 hM _ rfl rfl rfl rfl
end Go.Proofs.Ytieanhmkcbcdkaa
