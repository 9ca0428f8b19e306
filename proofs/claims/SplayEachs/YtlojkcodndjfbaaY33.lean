import Derived.Test.YtlojkcodndjfbaaY32
namespace Go.Proofs.Ytlojkcodndjfbaa
open Go.ChangeShapes Go.WideShapes Go.ChangeAt Go.RowKit
set_option linter.unusedVariables false
set_option linter.unusedSimpArgs false

structure OpV where
  kd : Int
  wh : Int
  t : Int
  s : Int
  q : Int
  d : Int
  n : Int
def opA (o : OpV) : Array Value := #[.int .i64 o.kd, .int .i64 o.wh, .int .u64 o.t, .int .i64 o.s, .int .u64 o.q, .int .i64 o.d, .int .i64 o.n]
theorem c7 {W : World} {b : Nat} {c0 c1 c2 c3 c4 c5 c6 : Value} {t : TypeId} (h : W.heap[b]? = some (.cells #[c0, c1, c2, c3, c4, c5, c6] t (0, 0))) : W.cell? ⟨b, 0, none⟩ = some c0 ∧ W.cell? ⟨b, 1, none⟩ = some c1 ∧ W.cell? ⟨b, 2, none⟩ = some c2 ∧ W.cell? ⟨b, 3, none⟩ = some c3 ∧ W.cell? ⟨b, 4, none⟩ = some c4 ∧ W.cell? ⟨b, 5, none⟩ = some c5 ∧ W.cell? ⟨b, 6, none⟩ = some c6 := by
  refine ⟨?_, ?_, ?_, ?_, ?_, ?_, ?_⟩
  all_goals (unfold World.cell?; rw [h]; rfl)
theorem two_alloc (W : World) (a b : Array Value) (ta tb : TypeId) (wF : World) (h : (W.alloc (.cells a ta)).alloc (.cells b tb) = wF) : wF.heap[W.heap.size]? = some (.cells a ta (0, 0)) ∧ wF.heap[W.heap.size + 1]? = some (.cells b tb (0, 0)) ∧ Below W.heap.size W wF := by
  have hsA : (W.alloc (.cells a ta)).heap.size = W.heap.size + 1 := World.size_alloc _ _
  have hbA : Below W.heap.size W (W.alloc (.cells a ta)) := (Below.refl _ W).alloc (Nat.le_refl _) _
  have hbA1 : Below (W.heap.size + 1) (W.alloc (.cells a ta)) wF := by rw [← h, ← hsA]; exact (Below.refl _ _).alloc (Nat.le_refl _) _
  refine ⟨(hbA1.block _ (by omega)).trans (World.alloc_heap_new W _), ?_, hbA.trans (hbA1.mono (by omega))⟩
  rw [← h]
  have := World.alloc_heap_new (W.alloc (.cells a ta)) (.cells b tb)
  rwa [hsA] at this
set_option maxRecDepth 100000 in
set_option maxHeartbeats 4000000 in
theorem event_any (o : OpV) (W : World) : Calls Try.prog 32 #[.agg (opA o)] W fun e W' => e = .returned (evV ⟨o.t, o.s, o.q, o.d.tmod 7, o.d.tmod 5, o.d⟩) ∧ Below W.heap.size W W' := by
  unfold opA
  obtain ⟨W1, hW1⟩ : ∃ W1, (W.alloc (.cells #[.int .i64 o.kd, .int .i64 o.wh, .int .u64 o.t, .int .i64 o.s, .int .u64 o.q, .int .i64 o.d, .int .i64 o.n] 40)).alloc (.cells #[.int .u64 0, .int .i64 0, .int .u64 0, .int .i64 0, .int .i64 0, .int .i64 0] 27) = W1 := ⟨_, rfl⟩
  obtain ⟨ho1, he1, hb1⟩ := two_alloc _ _ _ _ _ _ hW1
  obtain ⟨y0, y1, y2, y3, y4, y5, y6⟩ := c7 ho1
  obtain ⟨r0, r1, r2, r3, r4, r5⟩ := q6c he1
  have rf := frz he1
  have rf0 := rf 0; have rf1 := rf 1; have rf2 := rf 2; have rf3 := rf 3; have rf4 := rf 4; have rf5 := rf 5
  rw [← hW1] at y0 y1 y2 y3 y4 y5 y6 r0 r1 r2 r3 r4 r5 rf0 rf1 rf2 rf3 rf4 rf5
  clear rf hb1 he1 hW1 ho1
  go_enter Try.func32, Try.ntmps32
  go_wp2_with fail
  generalize hWF : World.alloc (World.alloc W _) _ = wF
  obtain ⟨_, p1, hbF⟩ := two_alloc _ _ _ _ _ _ hWF
  obtain ⟨d0, d1, d2, d3, d4, d5⟩ := q6c p1
  refine bodyPost_ret (v := evV ⟨o.t, o.s, o.q, o.d.tmod 7, o.d.tmod 5, o.d⟩) (by simp [results, Try.results32, go_sem, d0, d1, d2, d3, d4, d5, evV]; try rfl) rfl ?_
  exact ⟨rfl, hbF⟩
set_option maxRecDepth 100000 in
set_option maxHeartbeats 8000000 in
theorem act_any {base qb g : Nat} {room wb : Int} {L : List Ev} (o : OpV) (W : World) (h : QS base qb g room wb L W) (hwb : wb ≤ 4611686018427000000 - 16384) : Calls Try.prog 9 #[.pointer (some ⟨qb, 0, none⟩), .agg (opA o)] W fun e W' => e = .returned (.tuple #[]) ∧ ∃ g' L', QS base qb g' room (wb + 16384) L' W' ∧ (g' = g ∨ W.heap.size ≤ g') ∧ Ch (S2 qb g) W W' := by
  obtain ⟨W1, hW1⟩ : ∃ W1, W.alloc (.cells (opA o) 40) = W1 := ⟨_, rfl⟩
  have hb1 : Below W.heap.size W W1 := by rw [← hW1]; exact (Below.refl _ W).alloc (Nat.le_refl _) _
  have ho1 : W1.heap[W.heap.size]? = some (.cells (opA o) 40 (0, 0)) := by rw [← hW1]; exact World.alloc_heap_new W _
  have hQ1 := h.later hb1
  have HEV := event_any o W1
  unfold opA at *
  obtain ⟨y0, y1, y2, y3, y4, y5, y6⟩ := c7 ho1
  rw [← hW1] at y0 y1 y2 y3 y4 y5 y6
  have HW : Hid (W.alloc (.cells #[.int .i64 o.kd, .int .i64 o.wh, .int .u64 o.t, .int .i64 o.s, .int .u64 o.q, .int .i64 o.d, .int .i64 o.n] 40) = W1) := hW1
  have HQ : Hid (QS base qb g room wb L W1 ∧ Below W.heap.size W W1 ∧ wb ≤ 4611686018427000000 - 16384) := ⟨hQ1, hb1, hwb⟩
  clear hW1 hb1 ho1 h hQ1 hwb
  by_cases k1 : o.kd = 1
  · have d1 : (o.kd == 1) = true := by simpa using k1
    clear k1
    go_enter Try.func9, Try.ntmps9
    go_wp2_with (first | (go_at_call 32; rw [HW.out]; (with_reducible refine HEV.mono ?_); rintro e w2 ⟨rfl, hb2⟩; have HI := ins_any ⟨o.t, o.s, o.q, o.d.tmod 7, o.d.tmod 5, o.d⟩ w2 (HQ.out.1.later hb2) (by have := HQ.out.2.2; omega); unfold evV at *) | (go_at_call 7; (with_reducible refine HI.mono ?_); rintro e w3 ⟨code, rfl, hI⟩))
    go_end0
    obtain ⟨h1, h2, h3⟩ := HQ.out
    obtain ⟨g', hc, hg, hC⟩ := hI
    have hs1 := h2.size
    have hs2 := hb2.size
    have hCF : Ch (S2 qb g) W w3 := ((Ch.below h2).trans (Ch.below hb2)).trans hC
    have hgF : g' = g ∨ W.heap.size ≤ g' := by rcases hg with e | e; exact .inl e; exact .inr (by omega)
    rcases hc with ⟨_, _, hq⟩ | ⟨_, _, _, hq⟩ | ⟨_, _, _, L', hq, _, _⟩
    · exact ⟨rfl, g', _, hq.up (by omega), hgF, hCF⟩
    · exact ⟨rfl, g', _, hq.up (by omega), hgF, hCF⟩
    · exact ⟨rfl, g', _, hq.up (by omega), hgF, hCF⟩
  · have d1 : (o.kd == 1) = false := by simpa using k1
    clear HEV
    have hw := HQ.out.2.2
    by_cases k2 : o.kd = 2
    · have d2 : (o.kd == 2) = true := by simpa using k2
      have HM := minS W1 HQ.out.1 (by omega)
      clear k1 k2
      go_enter Try.func9, Try.ntmps9
      go_wp2_with (go_at_call 33; rw [HW.out]; (with_reducible refine HM.mono ?_); rintro e w2 ⟨x, code, rfl, hcs, hq, hC⟩)
      go_end0
      exact ⟨rfl, g, _, hq, .inl rfl, (Ch.below HQ.out.2.1).trans hC⟩
    · have d2 : (o.kd == 2) = false := by simpa using k2
      by_cases k3 : o.kd = 3
      · have d3 : (o.kd == 3) = true := by simpa using k3
        have HM := popS2 W1 HQ.out.1 (by omega)
        clear k1 k2 k3
        go_enter Try.func9, Try.ntmps9
        go_wp2_with (go_at_call 10; rw [HW.out]; (with_reducible refine HM.mono ?_); rintro e w2 ⟨x, code, L', rfl, hcs, hq, hC⟩)
        go_end0
        exact ⟨rfl, g, _, hq, .inl rfl, (Ch.below HQ.out.2.1).trans hC⟩
      · have d3 : (o.kd == 3) = false := by simpa using k3
        by_cases k4 : o.kd = 4
        · have d4 : (o.kd == 4) = true := by simpa using k4
          have HM := findS o.t o.s o.q W1 HQ.out.1 (by omega)
          clear k1 k2 k3 k4
          go_enter Try.func9, Try.ntmps9
          go_wp2_with (go_at_call 34; rw [HW.out]; (with_reducible refine HM.mono ?_); rintro e w2 ⟨x, code, rfl, hcs, hq, hC⟩)
          go_end0
          exact ⟨rfl, g, _, hq, .inl rfl, (Ch.below HQ.out.2.1).trans hC⟩
        · have d4 : (o.kd == 4) = false := by simpa using k4
          by_cases k5 : o.kd = 5
          · have d5 : (o.kd == 5) = true := by simpa using k5
            have HM := removeS o.t o.s o.q W1 HQ.out.1 (by omega)
            clear k1 k2 k3 k4 k5
            go_enter Try.func9, Try.ntmps9
            go_wp2_with (go_at_call 35; rw [HW.out]; (with_reducible refine HM.mono ?_); rintro e w2 ⟨x, code, L', rfl, hcs, hq, hC⟩)
            go_end0
            exact ⟨rfl, g, _, hq, .inl rfl, (Ch.below HQ.out.2.1).trans hC⟩
          · have d5 : (o.kd == 5) = false := by simpa using k5
            by_cases k6 : o.kd = 6
            · have d6 : (o.kd == 6) = true := by simpa using k6
              have HM := splitS o.t W1 HQ.out.1 (by omega)
              clear k1 k2 k3 k4 k5 k6
              go_enter Try.func9, Try.ntmps9
              go_wp2_with (go_at_call 13; rw [HW.out]; (with_reducible refine HM.mono ?_); rintro e w2 ⟨b, X, L1, L2, rfl, hLL, hE, hX, hb, ht1, ht2, hq, hC⟩)
              go_end0
              exact ⟨rfl, g, _, hq.up (by omega), .inl rfl, (Ch.below HQ.out.2.1).trans hC⟩
            · have d6 : (o.kd == 6) = false := by simpa using k6
              clear k1 k2 k3 k4 k5 k6
              go_enter Try.func9, Try.ntmps9
              go_wp2_with fail
              rw [HW.out]
              go_end0
              exact ⟨rfl, g, _, HQ.out.1.up (by omega), .inl rfl, Ch.below HQ.out.2.1⟩
end Go.Proofs.Ytlojkcodndjfbaa
