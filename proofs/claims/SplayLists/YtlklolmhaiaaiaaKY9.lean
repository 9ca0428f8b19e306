import Derived.Test.YtlklolmhaiaaiaaKY7
namespace Go.Proofs.Ytlklolmhaiaaiaa
open Go.ChangeShapes Go.WideShapes Go.ChangeAt Go.RowKit
set_option linter.unusedVariables false
set_option linter.unusedSimpArgs false

set_option maxRecDepth 100000 in
set_option maxHeartbeats 4000000 in
theorem settle_free (base qb g c n : Nat) (A : Ar) (f : Nat) (r : Int) (s : Nat) (m k : Int) (e : Ev) (W : World) (h : QW W base qb g c n A f r s m k) (hf : f < n) (hf0 : f ≠ 0) (hn : n ≤ 8193) (hs : s ≤ 8192) :
    Calls Try.prog 59 #[.pointer (some ⟨qb, 0, none⟩), evV e] W fun e' W' => e' = .returned (.int .i64 (f : Int)) ∧ QW W' base qb g c n (A.set f e 0 0) (A.L f) r ((s : Int) + 1) m k ∧ Ch (S2 qb g) W W' := by
  obtain ⟨q0, q1, q2, q3, q4, q5⟩ := h.cells
  have qf3 := own_frozen h.box 3
  have hQ2 := h.setSize ((s : Int) + 1)
  have es : IntKind.i64.wrap ((s : Int) + 1) = (s : Int) + 1 := by rw [IntKind.wrap_i64]; omega
  have hlt := h.lt
  have hne := h.ne
  have hne' : qb ≠ g := fun e => hne e.symm
  have l1 : qb < W.heap.size := hlt.1.1
  have l2 : g < W.heap.size := hlt.2.1
  obtain ⟨u0, u1, u2, u3, u4, u5⟩ := hQ2.cells
  have uf1 := own_frozen hQ2.box 1
  have x6 : (W.setCell ⟨qb, 3, none⟩ (.int .i64 ((s : Int) + 1))).cell? ⟨g, f * 8 + 6, none⟩ = some (.int .i64 (A.L f : Int)) := hQ2.nd hf 6 (by decide)
  have hQ3 := hQ2.setFree (A.L f : Int)
  have i0 : (0 : Int) ≤ (f : Int) := by omega
  have i1 : (f : Int) < (n : Int) := by omega
  have df : ((f : Int) == 0) = false := by simp; omega
  unfold evV
  go_enter Try.func59, Try.ntmps59
  go_wp2_with fail
  generalize hwb : World.alloc ((W.setCell ⟨qb, 3, none⟩ (.int .i64 ((s : Int) + 1))).setCell ⟨qb, 1, none⟩ (.int .i64 (A.L f : Int))) _ = WB
  have hQB : QW WB base qb g c n A (A.L f) r ((s : Int) + 1) m k := by rw [← hwb]; exact hQ3.later ((Below.refl _ _).alloc (Nat.le_refl _) _)
  have hCB : Ch (S2 qb g) W WB := by rw [← hwb]; exact ((Ch.set _ _ _ _ _ (.inl rfl)).trans (Ch.set _ _ _ _ _ (.inl rfl))).trans (Ch.below ((Below.refl _ _).alloc (Nat.le_refl _) _))
  have heB : WB.heap[W.heap.size]? = some (.cells #[.int .u64 e.t, .int .i64 e.s, .int .u64 e.q, .int .i64 e.d, .int .i64 e.k, .int .i64 e.v] 64 (0, 0)) := by
    rw [← hwb]
    have := World.alloc_heap_new ((W.setCell ⟨qb, 3, none⟩ (.int .i64 ((s : Int) + 1))).setCell ⟨qb, 1, none⟩ (.int .i64 (A.L f : Int))) (.cells #[.int .u64 e.t, .int .i64 e.s, .int .u64 e.q, .int .i64 e.d, .int .i64 e.k, .int .i64 e.v] 64)
    simpa [World.setCell] using this
  obtain ⟨p0, p1, p2, p3, p4, p5⟩ := hQB.cells
  clear hwb q0 q1 q2 q3 q4 q5 u0 u1 u2 u3 u4 u5 uf1 qf3 x6 hQ2 hQ3
  refine wp_region_held_drew (S := fun W9 => W9.heap[qb]? = WB.heap[qb]? ∧ W9.heap[W.heap.size]? = WB.heap[W.heap.size]?) (by kernel_rfl) ⟨rfl, rfl⟩ (fun hHeld => ?_)
  refine wpAnyH_take (i := 0) (v := ?hv0u1) rfl (by kernel_rfl) (by kernel_rfl) (by kernel_rfl) (fun _ _ _ h => h) (Or.inl ⟨by rfl, ?hy0u1⟩) (by assumption) ?hr0u1
  case hy0u1 => ((intro W9 hSw; have q0' := (World.cell?_of_block (a := ⟨qb, 0, none⟩) hSw.1).trans p0; obtain ⟨v0, v1, v2, v3, v4, v5⟩ := q6c (hSw.2.trans heB); go_simp); try with_reducible rfl)
  simp only [List.getElem_toArray, List.getElem_cons_zero, List.getElem_cons_succ, Act.put, List.setIfInBounds_toArray, List.set_cons_zero, List.set_cons_succ]
  refine wpAnyH_take (i := 1) (v := ?hv1u2) rfl (by kernel_rfl) (by kernel_rfl) (by kernel_rfl) (fun _ _ _ h => h) (Or.inl ⟨by rfl, ?hy1u2⟩) (by assumption) ?hr1u2
  case hy1u2 => ((intro W9 hSw; have q0' := (World.cell?_of_block (a := ⟨qb, 0, none⟩) hSw.1).trans p0; obtain ⟨v0, v1, v2, v3, v4, v5⟩ := q6c (hSw.2.trans heB); go_simp); try with_reducible rfl)
  simp only [List.getElem_toArray, List.getElem_cons_zero, List.getElem_cons_succ, Act.put, List.setIfInBounds_toArray, List.set_cons_zero, List.set_cons_succ]
  refine wpAnyH_take (i := 2) (v := ?hv2u3) rfl (by kernel_rfl) (by kernel_rfl) (by kernel_rfl) (fun _ _ _ h => h) (Or.inl ⟨by rfl, ?hy2u3⟩) (by assumption) ?hr2u3
  case hy2u3 => ((intro W9 hSw; have q0' := (World.cell?_of_block (a := ⟨qb, 0, none⟩) hSw.1).trans p0; obtain ⟨v0, v1, v2, v3, v4, v5⟩ := q6c (hSw.2.trans heB); go_simp); try with_reducible rfl)
  simp only [List.getElem_toArray, List.getElem_cons_zero, List.getElem_cons_succ, Act.put, List.setIfInBounds_toArray, List.set_cons_zero, List.set_cons_succ]
  refine wpAnyH_take (i := 3) (v := ?hv3u4) rfl (by kernel_rfl) (by kernel_rfl) (by kernel_rfl) (fun _ _ _ h => h) (Or.inl ⟨by rfl, ?hy3u4⟩) (by assumption) ?hr3u4
  case hy3u4 => ((intro W9 hSw; have q0' := (World.cell?_of_block (a := ⟨qb, 0, none⟩) hSw.1).trans p0; obtain ⟨v0, v1, v2, v3, v4, v5⟩ := q6c (hSw.2.trans heB); go_simp); try with_reducible rfl)
  simp only [List.getElem_toArray, List.getElem_cons_zero, List.getElem_cons_succ, Act.put, List.setIfInBounds_toArray, List.set_cons_zero, List.set_cons_succ]
  refine wpAnyH_take (i := 4) (v := ?hv4u5) rfl (by kernel_rfl) (by kernel_rfl) (by kernel_rfl) (fun _ _ _ h => h) (Or.inl ⟨by rfl, ?hy4u5⟩) (by assumption) ?hr4u5
  case hy4u5 => ((intro W9 hSw; have q0' := (World.cell?_of_block (a := ⟨qb, 0, none⟩) hSw.1).trans p0; obtain ⟨v0, v1, v2, v3, v4, v5⟩ := q6c (hSw.2.trans heB); go_simp); try with_reducible rfl)
  simp only [List.getElem_toArray, List.getElem_cons_zero, List.getElem_cons_succ, Act.put, List.setIfInBounds_toArray, List.set_cons_zero, List.set_cons_succ]
  refine wpAnyH_take (i := 5) (v := ?hv5u6) rfl (by kernel_rfl) (by kernel_rfl) (by kernel_rfl) (fun _ _ _ h => h) (Or.inl ⟨by rfl, ?hy5u6⟩) (by assumption) ?hr5u6
  case hy5u6 => ((intro W9 hSw; have q0' := (World.cell?_of_block (a := ⟨qb, 0, none⟩) hSw.1).trans p0; obtain ⟨v0, v1, v2, v3, v4, v5⟩ := q6c (hSw.2.trans heB); go_simp); try with_reducible rfl)
  simp only [List.getElem_toArray, List.getElem_cons_zero, List.getElem_cons_succ, Act.put, List.setIfInBounds_toArray, List.set_cons_zero, List.set_cons_succ]
  refine wpAnyH_take (i := 6) (v := ?hv6u7) rfl (by kernel_rfl) (by kernel_rfl) (by kernel_rfl) (fun _ _ _ h => h) (Or.inl ⟨by rfl, ?hy6u7⟩) (by assumption) ?hr6u7
  case hy6u7 => ((intro W9 hSw; have q0' := (World.cell?_of_block (a := ⟨qb, 0, none⟩) hSw.1).trans p0; obtain ⟨v0, v1, v2, v3, v4, v5⟩ := q6c (hSw.2.trans heB); go_simp); try with_reducible rfl)
  simp only [List.getElem_toArray, List.getElem_cons_zero, List.getElem_cons_succ, Act.put, List.setIfInBounds_toArray, List.set_cons_zero, List.set_cons_succ]
  refine wpAnyH_take (i := 7) (v := ?hv7u8) rfl (by kernel_rfl) (by kernel_rfl) (by kernel_rfl) (fun _ _ _ h => h) (Or.inl ⟨by rfl, ?hy7u8⟩) (by assumption) ?hr7u8
  case hy7u8 => ((intro W9 hSw; have q0' := (World.cell?_of_block (a := ⟨qb, 0, none⟩) hSw.1).trans p0; obtain ⟨v0, v1, v2, v3, v4, v5⟩ := q6c (hSw.2.trans heB); go_simp); try with_reducible rfl)
  simp only [List.getElem_toArray, List.getElem_cons_zero, List.getElem_cons_succ, Act.put, List.setIfInBounds_toArray, List.set_cons_zero, List.set_cons_succ]
  refine wpAnyH_ready (rs := [8]) (by kernel_rfl) (by simp) (AllReadyH.cons rfl (fun KK hK => ?_) AllReadyH.nil)
  dsimp -proj only [List.getElem_toArray, List.getElem_cons_zero, List.getElem_cons_succ]
  have hQd := hQB.later (below_drewNq _ WB 1)
  refine step_store_mid rfl 67 _ _ rfl g (f * 8) _ rfl rfl (by exact hQd.row.there (o := f * 8) (n := 8) (by omega)) (by kernel_rfl) (by kernel_rfl) ?_
  refine hK.out _ _ ⟨setCells_other g _ _ _ _ hne', setCells_other g _ _ _ _ (by omega)⟩ (fun hHeld => ?_)
  clear hK KK
  simp only [List.getElem_toArray, List.getElem_cons_zero, List.getElem_cons_succ, Act.put, List.setIfInBounds_toArray, List.set_cons_zero, List.set_cons_succ]
  refine wpAnyH_done (by kernel_rfl) ?_ _
  have hQ2 := hQd.setNode f e 0 0
  go_wp2
  go_ret
  exact ⟨rfl, hQ2, hCB.trans ((Ch.drew _ _ 1).trans (Ch.sets _ _ _ _ _ (.inr rfl)))⟩
theorem settle_row {w6 WD : World} {base g n c : Nat} {A : Ar} {e : Ev} {v' : Value} (hown' : w6.ownsRow base 67 8 v' (n + 1) (cellsF (ndF A) (n * 8) ++ (evL e ++ [.int .i64 0, .int .i64 0]))) (hat : v'.ownBlock = (Value.slice (some ⟨g, 0, none⟩) n c).ownBlock ∨ v'.ownBlock = some WD.heap.size) : ∃ g6 c6, v' = .slice (some ⟨g6, 0, none⟩) (n + 1) c6 ∧ Own w6 base 67 8 (.slice (some ⟨g6, 0, none⟩) (n + 1) c6) (n + 1) (ndF (A.set n e 0 0)) ∧ (g6 = g ∨ g6 = WD.heap.size) := by
  have hO6 : Own w6 base 67 8 v' (n + 1) (ndF (A.set n e 0 0)) := by
    have e6 : evL e ++ [Value.int .i64 0, Value.int .i64 0] = cellsF (fun j => (evL e ++ [Value.int .i64 0, Value.int .i64 0]).getD j undef) 8 := rfl
    rw [e6, cellsF_append, show n * 8 + 8 = (n + 1) * 8 by omega] at hown'
    refine Own.congr hown' fun j hj => ?_
    have h9 := ndF_set A n e 0 0 j
    unfold putF at h9
    by_cases hjn : j < n * 8
    · rw [if_pos hjn]
      rw [if_neg (by simp [evL]; omega)] at h9
      exact h9
    · rw [if_neg hjn]
      rw [if_pos (by simp [evL]; omega)] at h9
      exact h9
  rcases hO6.form with ⟨_, h2⟩ | ⟨g6, c6, h2, _, _⟩
  · omega
  · subst h2
    refine ⟨g6, c6, rfl, hO6, ?_⟩
    rcases hat with h3 | h3
    · exact .inl (Option.some.inj h3)
    · exact .inr (Option.some.inj h3)
set_option maxRecDepth 100000 in
set_option maxHeartbeats 4000000 in
theorem settle_new (base qb g c n : Nat) (A : Ar) (r : Int) (s : Nat) (m k : Int) (e : Ev) (W : World) (h : QW W base qb g c n A 0 r s m k) (hn : n ≤ 8192) (hs : s ≤ 8192) :
    Calls Try.prog 59 #[.pointer (some ⟨qb, 0, none⟩), evV e] W fun e' W' => ∃ g' c', e' = .returned (.int .i64 (n : Int)) ∧ QW W' base qb g' c' (n + 1) (A.set n e 0 0) 0 r ((s : Int) + 1) m k ∧ Ch (S2 qb g) W W' ∧ (g' = g ∨ W.heap.size ≤ g') := by
  obtain ⟨i8, hi8, ha8, hb8, hc8⟩ := qinfo infoND
  obtain ⟨q0, q1, q2, q3, q4, q5⟩ := h.cells
  have qf3 := own_frozen h.box 3
  have hQ2 := h.setSize ((s : Int) + 1)
  have es : IntKind.i64.wrap ((s : Int) + 1) = (s : Int) + 1 := by rw [IntKind.wrap_i64]; omega
  have hlt := h.lt
  have hne := h.ne
  have hne' : qb ≠ g := fun e => hne e.symm
  have l1 : qb < W.heap.size := hlt.1.1
  have l2 : g < W.heap.size := hlt.2.1
  obtain ⟨u0, u1, u2, u3, u4, u5⟩ := hQ2.cells
  unfold evV
  go_enter Try.func59, Try.ntmps59
  go_wp2_with fail
  generalize hwb : World.alloc (W.setCell ⟨qb, 3, none⟩ (.int .i64 ((s : Int) + 1))) _ = WB
  have hQB : QW WB base qb g c n A 0 r ((s : Int) + 1) m k := by rw [← hwb]; exact hQ2.later ((Below.refl _ _).alloc (Nat.le_refl _) _)
  have hCB : Ch (S2 qb g) W WB := by rw [← hwb]; exact (Ch.set _ _ _ _ _ (.inl rfl)).trans (Ch.below ((Below.refl _ _).alloc (Nat.le_refl _) _))
  have heB : WB.heap[W.heap.size]? = some (.cells #[.int .u64 e.t, .int .i64 e.s, .int .u64 e.q, .int .i64 e.d, .int .i64 e.k, .int .i64 e.v] 64 (0, 0)) := by
    rw [← hwb]
    have := World.alloc_heap_new (W.setCell ⟨qb, 3, none⟩ (.int .i64 ((s : Int) + 1))) (.cells #[.int .u64 e.t, .int .i64 e.s, .int .u64 e.q, .int .i64 e.d, .int .i64 e.k, .int .i64 e.v] 64)
    simpa [World.setCell] using this
  obtain ⟨p0, p1, p2, p3, p4, p5⟩ := hQB.cells
  clear hwb q0 q1 q2 q3 q4 q5 u0 u1 u2 u3 u4 u5 qf3 hQ2
  obtain ⟨v0, v1, v2, v3, v4, v5⟩ := q6c heB
  have hsk : WB.drew.heap.size = WB.heap.size := rfl
  have hlB := hQB.lt
  have hleB := lt_of_block heB
  have HO : Hid (∀ W9, Below WB.heap.size WB W9 → W9.ownsRow base 67 8 (.slice (some ⟨g, 0, none⟩) n c) n (cellsF (ndF A) (n * 8))) := fun W9 hW => (hQB.later hW).row
  have HBX : Hid (∀ W9, Below WB.heap.size WB W9 → Own W9 base 58 6 (.slice (some ⟨qb, 0, none⟩) 1 1) 1 (qF (.slice (some ⟨g, 0, none⟩) n c) 0 r ((s : Int) + 1) m k)) := fun W9 hW => (hQB.later hW).box
  have p1' : n + 1 ≤ maxLen := by unfold maxLen; omega
  have p2' : (n + 1) * 64 ≤ 140737488355328 := by omega
  have hbs : base ≤ WB.heap.size := by omega
  have hA6 : Hid (∀ j u, (evL e ++ [.int .i64 0, .int .i64 0])[j]? = some u → (WB.drew.alloc (.cells #[.int .u64 e.t, .int .i64 e.s, .int .u64 e.q, .int .i64 e.d, .int .i64 e.k, .int .i64 e.v, .int .i64 0, .int .i64 0] 67)).cell? ((⟨WB.heap.size, 0, none⟩ : Addr).add j) = some u) := fun j u hj => cells_new WB.drew (evL e ++ [.int .i64 0, .int .i64 0]) 67 j u hj
  have kB0 : (WB.alloc (.cells #[.int .u64 e.t, .int .i64 e.s, .int .u64 e.q, .int .i64 e.d, .int .i64 e.k, .int .i64 e.v, .int .i64 0, .int .i64 0] 67)).cell? ⟨qb, 0, none⟩ = some (.slice (some ⟨g, 0, none⟩) n c) := (World.cell?_of_block (((Below.refl _ WB).alloc (Nat.le_refl _) _).block qb hlB.1.1)).trans p0
  have kA0 : (WB.drew.alloc (.cells #[.int .u64 e.t, .int .i64 e.s, .int .u64 e.q, .int .i64 e.d, .int .i64 e.k, .int .i64 e.v, .int .i64 0, .int .i64 0] 67)).cell? ⟨qb, 0, none⟩ = some (.slice (some ⟨g, 0, none⟩) n c) := (World.cell?_of_block ((belowDA WB _).block qb hlB.1.1)).trans p0
  go_region_law ((refine step_append_own rfl (.tmp 23) (.tmp 26) 56 rfl base 67 i8 _ 8 64 Try.underlying56 hi8 ha8 hb8 hc8 rfl (by decide) (.slice (some ⟨g, 0, none⟩) n c) n _ (by simp [Act.eval]) (HO.out _ (belowDA WB _)) ⟨WB.heap.size, 0, none⟩ 1 1 (evL e ++ [.int .i64 0, .int .i64 0]) (by simp [Act.eval, hsk]) rfl hA6.out (by simp [evL, Value.oneCell']) p1' p2' (by show base ≤ (World.alloc WB.drew _).heap.size; rw [World.size_alloc]; exact Nat.le_succ_of_le hbs) ?_; intro v' w6 hown' hgrow hat; obtain ⟨g6, c6, hv6, hO6, hg6⟩ := settle_row hown' hat; subst hv6; have hbq : w6.heap[qb]? = WB.heap[qb]? := (hgrow.block qb (by show qb < (World.alloc WB.drew _).heap.size; rw [World.size_alloc]; show _ < WB.heap.size + 1; omega) (fun e => hne' (Option.some.inj e))).trans ((belowDA WB _).block qb hlB.1.1); have n0 : w6.cell? ⟨qb, 0, none⟩ = some (.slice (some ⟨g, 0, none⟩) n c) := (World.cell?_of_block hbq).trans p0; have hbox6 := hQB.box.far (W' := w6) (fun j e => (by cases e; exact hbq)); have nfz := own_frozen hbox6 0))
  all_goals
    have hlD : WB.drew.heap.size = WB.heap.size := rfl
    have hzD : (World.alloc WB.drew (.cells #[.int .u64 e.t, .int .i64 e.s, .int .u64 e.q, .int .i64 e.d, .int .i64 e.k, .int .i64 e.v, .int .i64 0, .int .i64 0] 67)).heap.size = WB.heap.size + 1 := World.size_alloc _ _
    have hneq : qb ≠ g6 := by
      rcases hg6 with h2 | h2
      · omega
      · rw [h2]
        show qb ≠ (World.alloc WB.drew _).heap.size
        rw [World.size_alloc]
        show qb ≠ WB.heap.size + 1
        omega
    have hQ7 : QW (w6.setCell ⟨qb, 0, none⟩ (.slice (some ⟨g6, 0, none⟩) (n + 1) c6)) base qb g6 c6 (n + 1) (A.set n e 0 0) 0 r ((s : Int) + 1) m k := by
      refine ⟨own_put hbox6 0 _ rfl fun j hj hj0 => ?_, own_other hO6 qb 0 _ (fun e => hneq e.symm), fun e => hneq e.symm⟩
      have : j = 1 ∨ j = 2 ∨ j = 3 ∨ j = 4 ∨ j = 5 := by omega
      rcases this with rfl | rfl | rfl | rfl | rfl <;> rfl
    have hC6 : Ch (S2 qb g) WB w6 := by
      have h9 : Below 0 _ w6 := (Below.refl 0 _).grown hgrow (Nat.zero_le _) (fun _ _ => Nat.zero_le _)
      refine (Ch.below (belowDA WB (.cells #[.int .u64 e.t, .int .i64 e.s, .int .u64 e.q, .int .i64 e.d, .int .i64 e.k, .int .i64 e.v, .int .i64 0, .int .i64 0] 67))).trans ⟨h9.os, h9.tape, h9.output, hgrow.size, fun j hj hs => hgrow.block j hj fun e => hs (.inr (Option.some.inj e))⟩
    obtain ⟨z0, z1, z2, z3, z4, z5⟩ := hQ7.cells
    have en : IntKind.i64.wrap ((n : Int) + 1 - 1) = (n : Int) := by rw [IntKind.wrap_i64]; omega
    go_wp2
    go_ret
    refine ⟨g6, c6, rfl, hQ7, hCB.trans (hC6.trans (Ch.set _ _ _ _ _ (.inl rfl))), ?_⟩
    rcases hg6 with h2 | h2
    · exact .inl h2
    · refine .inr ?_
      rw [h2]
      show _ ≤ (World.alloc WB.drew _).heap.size
      rw [World.size_alloc]
      show _ ≤ WB.heap.size + 1
      have := hCB.size
      omega
end Go.Proofs.Ytlklolmhaiaaiaa
namespace Go.Proofs.Ytlklolmhaiaaiaa
open Go.ChangeShapes Go.WideShapes Go.ChangeAt Go.RowKit
set_option linter.unusedVariables false

/-! ### the order of keys -/
theorem keyCmp_lt (t s q t' s' q' : Int) : keyCmp t s q t' s' q' = -1 ↔ t < t' ∨ (t = t' ∧ (s < s' ∨ (s = s' ∧ q < q'))) := by
  unfold keyCmp orN cmpN
  repeat' split
  all_goals omega
theorem keyCmp_gt (t s q t' s' q' : Int) : keyCmp t s q t' s' q' = 1 ↔ t' < t ∨ (t = t' ∧ (s' < s ∨ (s = s' ∧ q' < q))) := by
  unfold keyCmp orN cmpN
  repeat' split
  all_goals omega
theorem keyCmp_eq (t s q t' s' q' : Int) : keyCmp t s q t' s' q' = 0 ↔ t = t' ∧ s = s' ∧ q = q' := by
  unfold keyCmp orN cmpN
  repeat' split
  all_goals omega
def keyLt (a b : Ev) : Prop := cmpE a.t a.s a.q b = -1
theorem keyLt_iff (a b : Ev) : keyLt a b ↔ a.t < b.t ∨ (a.t = b.t ∧ (a.s < b.s ∨ (a.s = b.s ∧ a.q < b.q))) := keyCmp_lt _ _ _ _ _ _
/-- a side for each place, by a key -/
def sK (kt ks kq : Int) (E : Nat → Ev) (p : Nat) : Int := sideOf (cmpE kt ks kq (E p))
theorem sK_0 {kt ks kq : Int} {E : Nat → Ev} {p : Nat} : sK kt ks kq E p = 0 ↔ cmpE kt ks kq (E p) = -1 := by
  have := keyCmp_three kt ks kq (E p).t (E p).s (E p).q
  unfold sK sideOf cmpE
  repeat' split
  all_goals omega
theorem sK_1 {kt ks kq : Int} {E : Nat → Ev} {p : Nat} : sK kt ks kq E p = 1 ↔ cmpE kt ks kq (E p) = 1 := by
  have := keyCmp_three kt ks kq (E p).t (E p).s (E p).q
  unfold sK sideOf cmpE
  repeat' split
  all_goals omega
theorem sK_2 {kt ks kq : Int} {E : Nat → Ev} {p : Nat} : sK kt ks kq E p = 2 ↔ cmpE kt ks kq (E p) = 0 := by
  have := keyCmp_three kt ks kq (E p).t (E p).s (E p).q
  unfold sK sideOf cmpE
  repeat' split
  all_goals omega
theorem mono_sK (kt ks kq : Int) (E : Nat → Ev) {l : List Nat} (h : l.Pairwise fun p q => keyLt (E p) (E q)) : l.Pairwise fun p q => sK kt ks kq E p = 1 ∨ sK kt ks kq E q = 0 := h.imp fun {p q} hpq => by
  rw [sK_1, sK_0]
  unfold cmpE
  rw [keyLt_iff] at hpq
  rw [keyCmp_gt, keyCmp_lt]
  omega
/-- open parts the places by their sides -/
theorem openT_side {s : Nat → Int} {sd : Tr → Int} (hs : Side sd) (he : ∀ l p r, sd (.node l p r) = s p) : ∀ (n : Nat) (t : Tr), t.size ≤ n → (∀ p ∈ t.ps, p ≠ 0) → t.ps.Pairwise (fun p q => s p = 1 ∨ s q = 0) → (∀ p ∈ (openT sd t).a.ps, s p = 1) ∧ (∀ p ∈ (openT sd t).b.ps, s p = 0) ∧ ((openT sd t).m ≠ 0 → s (openT sd t).m = 2)
  | n, .nil, _, _, _ => by rw [openT_nil]; exact ⟨fun p hp => (by cases hp), fun p hp => (by cases hp), fun h => absurd rfl h⟩
  | 0, .node a x b, h, _, _ => by simp [Tr.size] at h
  | n + 1, .node a x b, hn, hp, hm => by
    simp only [Tr.size] at hn
    have hx : s x = sd (.node a x b) := (he _ _ _).symm
    simp only [Tr.ps] at hm
    rw [List.pairwise_append, List.pairwise_cons] at hm
    obtain ⟨ma, ⟨mx, mb⟩, mab⟩ := hm
    have hax : ∀ p ∈ a.ps, s p = 1 ∨ s x = 0 := fun p hq => mab p hq x (by simp)
    rcases hs a x b with h | h | h
    · have hb0 : ∀ p ∈ b.ps, s p = 0 := fun p hq => by
        rcases mx p hq with h1 | h1
        · omega
        · exact h1
      cases a with
      | nil =>
        rw [openT_l h]
        refine ⟨fun p hq => (by cases hq), fun p hq => ?_, fun h => absurd rfl h⟩
        simp [Tr.ps] at hq
        rcases hq with rfl | hq
        · omega
        · exact hb0 p hq
      | node c y d =>
        simp only [Tr.size] at hn
        have hy : s y = sd (.node c y d) := (he _ _ _).symm
        simp only [Tr.ps] at ma
        rw [List.pairwise_append, List.pairwise_cons] at ma
        obtain ⟨mc, ⟨my, md⟩, mcd⟩ := ma
        have hdq : ∀ p ∈ d.ps, s y = 1 ∨ s p = 0 := fun p hq => my p hq
        have hcq : ∀ p ∈ c.ps, s p = 1 ∨ s y = 0 := fun p hq => mcd p hq y (by simp)
        rcases hs c y d with h2 | h2 | h2
        · obtain ⟨i1, i2, i3⟩ := openT_side hs he n c (by omega) (fun p hq => hp p (by simp [Tr.ps, hq])) mc
          rw [openT_ll h h2]
          refine ⟨i1, fun p hq => ?_, i3⟩
          simp [Tr.ps] at hq
          rcases hq with hq | rfl | hq | rfl | hq
          · exact i2 p hq
          · omega
          · rcases hdq p hq with h3 | h3
            · omega
            · exact h3
          · omega
          · exact hb0 p hq
        · obtain ⟨i1, i2, i3⟩ := openT_side hs he n d (by omega) (fun p hq => hp p (by simp [Tr.ps, hq])) md
          rw [openT_lr h h2]
          refine ⟨fun p hq => ?_, fun p hq => ?_, i3⟩
          · simp [Tr.ps] at hq
            rcases hq with hq | rfl | hq
            · rcases hcq p hq with h3 | h3
              · exact h3
              · omega
            · omega
            · exact i1 p hq
          · simp [Tr.ps] at hq
            rcases hq with hq | rfl | hq
            · exact i2 p hq
            · omega
            · exact hb0 p hq
        · rw [openT_lh h h2]
          refine ⟨fun p hq => ?_, fun p hq => ?_, fun _ => by rw [hy, h2]⟩
          · rcases hcq p hq with h3 | h3
            · exact h3
            · omega
          · simp [Tr.ps] at hq
            rcases hq with hq | rfl | hq
            · rcases hdq p hq with h3 | h3
              · omega
              · exact h3
            · omega
            · exact hb0 p hq
    · have ha1 : ∀ p ∈ a.ps, s p = 1 := fun p hq => by
        rcases hax p hq with h1 | h1
        · exact h1
        · omega
      cases b with
      | nil =>
        rw [openT_r h]
        refine ⟨fun p hq => ?_, fun p hq => (by cases hq), fun h => absurd rfl h⟩
        simp [Tr.ps] at hq
        rcases hq with hq | rfl
        · exact ha1 p hq
        · omega
      | node c y d =>
        simp only [Tr.size] at hn
        have hy : s y = sd (.node c y d) := (he _ _ _).symm
        simp only [Tr.ps] at mb
        rw [List.pairwise_append, List.pairwise_cons] at mb
        obtain ⟨mc, ⟨my, md⟩, mcd⟩ := mb
        have hdq : ∀ p ∈ d.ps, s y = 1 ∨ s p = 0 := fun p hq => my p hq
        have hcq : ∀ p ∈ c.ps, s p = 1 ∨ s y = 0 := fun p hq => mcd p hq y (by simp)
        rcases hs c y d with h2 | h2 | h2
        · obtain ⟨i1, i2, i3⟩ := openT_side hs he n c (by omega) (fun p hq => hp p (by simp [Tr.ps, hq])) mc
          rw [openT_rl h h2]
          refine ⟨fun p hq => ?_, fun p hq => ?_, i3⟩
          · simp [Tr.ps] at hq
            rcases hq with hq | rfl | hq
            · exact ha1 p hq
            · omega
            · exact i1 p hq
          · simp [Tr.ps] at hq
            rcases hq with hq | rfl | hq
            · exact i2 p hq
            · omega
            · rcases hdq p hq with h3 | h3
              · omega
              · exact h3
        · obtain ⟨i1, i2, i3⟩ := openT_side hs he n d (by omega) (fun p hq => hp p (by simp [Tr.ps, hq])) md
          rw [openT_rr h h2]
          refine ⟨fun p hq => ?_, i2, i3⟩
          simp [Tr.ps] at hq
          rcases hq with hq | rfl | hq | rfl | hq
          · exact ha1 p hq
          · omega
          · rcases hcq p hq with h3 | h3
            · exact h3
            · omega
          · omega
          · exact i1 p hq
        · rw [openT_rh h h2]
          refine ⟨fun p hq => ?_, fun p hq => ?_, fun _ => by rw [hy, h2]⟩
          · simp [Tr.ps] at hq
            rcases hq with hq | rfl | hq
            · exact ha1 p hq
            · omega
            · rcases hcq p hq with h3 | h3
              · exact h3
              · omega
          · rcases hdq p hq with h3 | h3
            · omega
            · exact h3
    · rw [openT_here h]
      refine ⟨fun p hq => ?_, fun p hq => ?_, fun _ => by rw [hx, h]⟩
      · rcases hax p hq with h1 | h1
        · exact h1
        · omega
      · rcases mx p hq with h1 | h1
        · omega
        · exact h1
/-! ### a queue as it lies -/
def FLs (L : Nat → Nat) : List Nat → Prop
  | [] => True
  | p :: rest => L p = rest.headD 0 ∧ FLs L rest
theorem FLs.congr {L L' : Nat → Nat} : ∀ {l : List Nat}, FLs L l → (∀ p ∈ l, L' p = L p) → FLs L' l
  | [], _, _ => trivial
  | p :: rest, h, hc => ⟨(hc p (by simp)).trans h.1, FLs.congr h.2 fun q hq => hc q (by simp [hq])⟩
structure QI (W : World) (base qb g c n : Nat) (A : Ar) (t : Tr) (fl : List Nat) (root : Nat) (room work : Int) : Prop where
  q : QW W base qb g c n A ((fl.headD 0 : Nat) : Int) root t.size room work
  ti : t.lies A.L A.R root
  fr : FLs A.L fl
  nd : (t.ps ++ fl).Nodup
  inr : ∀ p ∈ t.ps ++ fl, p ≠ 0 ∧ p < n
  cnt : t.size + fl.length + 1 = n
  z : A.L 0 = 0 ∧ A.R 0 = 0
  nr : (n : Int) ≤ room + 1
  rm : 1 ≤ room ∧ room ≤ 8192
  srt : t.ps.Pairwise fun p q => keyLt (A.E p) (A.E q)
  wk : 0 ≤ work
theorem QI.ndT {W : World} {base qb g c n : Nat} {A : Ar} {t : Tr} {fl : List Nat} {root : Nat} {room work : Int} (h : QI W base qb g c n A t fl root room work) : t.ps.Nodup := (List.nodup_append.1 h.nd).1
theorem QI.inT {W : World} {base qb g c n : Nat} {A : Ar} {t : Tr} {fl : List Nat} {root : Nat} {room work : Int} (h : QI W base qb g c n A t fl root room work) : ∀ p ∈ t.ps, p < n := fun p hp => (h.inr p (by simp [hp])).2
theorem QI.neT {W : World} {base qb g c n : Nat} {A : Ar} {t : Tr} {fl : List Nat} {root : Nat} {room work : Int} (h : QI W base qb g c n A t fl root room work) : ∀ p ∈ t.ps, p ≠ 0 := fun p hp => (h.inr p (by simp [hp])).1
theorem QI.n1 {W : World} {base qb g c n : Nat} {A : Ar} {t : Tr} {fl : List Nat} {root : Nat} {room work : Int} (h : QI W base qb g c n A t fl root room work) : 0 < n ∧ n ≤ 8193 ∧ t.size ≤ 8192 := by
  have := h.cnt
  have := h.nr
  have := h.rm
  omega
end Go.Proofs.Ytlklolmhaiaaiaa
