import Derived.Test.YtlklolmhaiaaiaaJYB1
namespace Go.Proofs.Ytlklolmhaiaaiaa
open Go.ChangeShapes Go.WideShapes Go.ChangeAt Go.RowKit
set_option linter.unusedVariables false
set_option linter.unusedSimpArgs false

set_option maxRecDepth 100000 in
set_option maxHeartbeats 8000000 in
theorem heldA_else {R0 : (Nat → Ev) → Tr → Int → Prop} {R1 : Tr → Int → Prop} {o : OpV} {room : Int} (hOC : OpC R0 R1 o room) {base qb g c : Nat} {wb : Int} {L : List Ev} {p : Option Addr} (W : World) (h : QSR R0 base qb g room wb L W) (hE : EL W qb g p c L) (hwb : wb ≤ 4611686018427000000 - 16384) (hn1 : o.kd ≠ 1) (hn2 : o.kd ≠ 2) (hn3 : o.kd ≠ 3) (hn4 : o.kd ≠ 4) (hn5 : o.kd ≠ 5) (hn6 : o.kd ≠ 6) (hn8 : o.kd ≠ 8) (hn7 : o.kd ≠ 7) : Calls Try.prog 12 #[.pointer (some ⟨qb, 0, none⟩), .slice p L.length c, .int .i64 room, .agg (opA o)] W fun r W' => HResA R1 base qb g room wb W r W' := by
  have HID : Hid (∀ E t w, R0 E t w → rOf R1 E t w) := hOC.idle hn1 hn2 hn3 hn4 hn5 hn6
  obtain ⟨W1, hW1⟩ : ∃ W1, W.alloc (.cells (opA o) 32) = W1 := ⟨_, rfl⟩
  have hb1 : Below W.heap.size W W1 := by rw [← hW1]; exact (Below.refl _ W).alloc (Nat.le_refl _) _
  have ho1 : W1.heap[W.heap.size]? = some (.cells (opA o) 32 (0, 0)) := by rw [← hW1]; exact World.alloc_heap_new W _
  have hln := h.len
  have hsrt := h.srt
  have hlt := h.lt
  have HSK := seekE o.t o.s o.q (hE.later hb1) hsrt (by omega)
  unfold opA at *
  obtain ⟨y0, y1, y2, y3, y4, y5, y6⟩ := c7 ho1
  rw [← hW1] at y0 y1 y2 y3 y4 y5 y6
  have HW : Hid (W.alloc (.cells #[.int .i64 o.kd, .int .i64 o.wh, .int .u64 o.t, .int .i64 o.s, .int .u64 o.q, .int .i64 o.d, .int .i64 o.n] 32) = W1) := hW1
  have H0 : Hid (QSR R0 base qb g room wb L W1 ∧ EL W1 qb g p c L ∧ wb ≤ 4611686018427000000 - 16384 ∧ Below W.heap.size W W1 ∧ W1.heap[W.heap.size]? = some (.cells #[.int .i64 o.kd, .int .i64 o.wh, .int .u64 o.t, .int .i64 o.s, .int .u64 o.q, .int .i64 o.d, .int .i64 o.n] 32 (0, 0)) ∧ ((L.length : Int) ≤ room ∧ room ≤ 8192) ∧ L.Pairwise keyLt ∧ (qb < W.heap.size ∧ base ≤ qb) ∧ g < W.heap.size ∧ base ≤ g) := ⟨h.later hb1, hE.later hb1, hwb, hb1, ho1, hln, hsrt, hlt⟩
  have d1 : (o.kd == 1) = false := by simpa using hn1
  have d2 : (o.kd == 2) = false := by simpa using hn2
  have d3 : (o.kd == 3) = false := by simpa using hn3
  have d4 : (o.kd == 4) = false := by simpa using hn4
  have d5 : (o.kd == 5) = false := by simpa using hn5
  have d6 : (o.kd == 6) = false := by simpa using hn6
  have d8 : (o.kd == 8) = false := by simpa using hn8
  have d7 : (o.kd == 7) = false := by simpa using hn7
  clear hW1 hb1 ho1 h hE hwb hln hsrt hlt hn1 hn2 hn3 hn4 hn5 hn6 hn8 hn7
  generalize hnL : L.length = n at HSK ⊢
  have HNL : Hid (L.length = n) := hnL
  clear hnL
  go_enter Try.func12, Try.ntmps12
  go_wp2_with (go_at_call 28; rw [HW.out]; (with_reducible refine HSK.mono ?_); rintro e w2 ⟨i, th, rfl, hb2, hsk⟩; obtain ⟨z0, z1, z2, z3, z4, z5, z6⟩ := c7 ((hb2.block _ (lt_of_block H0.out.2.2.2.2.1)).trans H0.out.2.2.2.2.1); have HS : Hid (Below W1.heap.size W1 w2 ∧ SK L o.t o.s o.q i th ∧ QSR R0 base qb g room wb L w2 ∧ EL w2 qb g p c L ∧ Ch (S2 qb g) W w2) := ⟨hb2, hsk, H0.out.1.later hb2, H0.out.2.1.later hb2, (Ch.below H0.out.2.2.2.1).trans (Ch.below hb2)⟩; clear hb2 hsk y0 y1 y2 y3 y4 y5 y6)
  refine bodyPost_ret (v := .tuple #[.slice p n c, .bool true]) (by simp [results, Try.results12, go_sem]) rfl ?_
  obtain ⟨hb2, hsk, hq, hE, hC⟩ := HS.out
  exact ⟨p, c, g, L, by rw [HNL.out], hq.turn HID.out (by omega), hE, .inl rfl, hC⟩
set_option maxRecDepth 100000 in
set_option maxHeartbeats 8000000 in
theorem heldA_min {R0 : (Nat → Ev) → Tr → Int → Prop} {R1 : Tr → Int → Prop} {o : OpV} {room : Int} (hOC : OpC R0 R1 o room) {base qb g c : Nat} {wb : Int} {L : List Ev} {p : Option Addr} (W : World) (h : QSR R0 base qb g room wb L W) (hE : EL W qb g p c L) (hwb : wb ≤ 4611686018427000000 - 16384) (hn1 : o.kd ≠ 1) (hk : o.kd = 2) : Calls Try.prog 12 #[.pointer (some ⟨qb, 0, none⟩), .slice p L.length c, .int .i64 room, .agg (opA o)] W fun r W' => HResA R1 base qb g room wb W r W' := by
  have HKD : Hid _ := hk
  obtain ⟨W1, hW1⟩ : ∃ W1, W.alloc (.cells (opA o) 32) = W1 := ⟨_, rfl⟩
  have hb1 : Below W.heap.size W W1 := by rw [← hW1]; exact (Below.refl _ W).alloc (Nat.le_refl _) _
  have ho1 : W1.heap[W.heap.size]? = some (.cells (opA o) 32 (0, 0)) := by rw [← hW1]; exact World.alloc_heap_new W _
  have hln := h.len
  have hsrt := h.srt
  have hlt := h.lt
  have HSK := seekE o.t o.s o.q (hE.later hb1) hsrt (by omega)
  unfold opA at *
  obtain ⟨y0, y1, y2, y3, y4, y5, y6⟩ := c7 ho1
  rw [← hW1] at y0 y1 y2 y3 y4 y5 y6
  have HW : Hid (W.alloc (.cells #[.int .i64 o.kd, .int .i64 o.wh, .int .u64 o.t, .int .i64 o.s, .int .u64 o.q, .int .i64 o.d, .int .i64 o.n] 32) = W1) := hW1
  have H0 : Hid (QSR R0 base qb g room wb L W1 ∧ EL W1 qb g p c L ∧ wb ≤ 4611686018427000000 - 16384 ∧ Below W.heap.size W W1 ∧ W1.heap[W.heap.size]? = some (.cells #[.int .i64 o.kd, .int .i64 o.wh, .int .u64 o.t, .int .i64 o.s, .int .u64 o.q, .int .i64 o.d, .int .i64 o.n] 32 (0, 0)) ∧ ((L.length : Int) ≤ room ∧ room ≤ 8192) ∧ L.Pairwise keyLt ∧ (qb < W.heap.size ∧ base ≤ qb) ∧ g < W.heap.size ∧ base ≤ g) := ⟨h.later hb1, hE.later hb1, hwb, hb1, ho1, hln, hsrt, hlt⟩
  have d1 : (o.kd == 1) = false := by simpa using hn1
  have d2 : (o.kd == 2) = true := by simpa using hk
  clear hW1 hb1 ho1 h hE hwb hln hsrt hlt hn1 hk
  generalize hnL : L.length = n at HSK ⊢
  have HNL : Hid (L.length = n) := hnL
  clear hnL
  go_enter Try.func12, Try.ntmps12
  go_upto_region 11 with (go_at_call 28; rw [HW.out]; (with_reducible refine HSK.mono ?_); rintro e w2 ⟨i, th, rfl, hb2, hsk⟩; obtain ⟨z0, z1, z2, z3, z4, z5, z6⟩ := c7 ((hb2.block _ (lt_of_block H0.out.2.2.2.2.1)).trans H0.out.2.2.2.2.1); have HS : Hid (Below W1.heap.size W1 w2 ∧ SK L o.t o.s o.q i th ∧ QSR R0 base qb g room wb L w2 ∧ EL w2 qb g p c L ∧ Ch (S2 qb g) W w2) := ⟨hb2, hsk, H0.out.1.later hb2, H0.out.2.1.later hb2, (Ch.below H0.out.2.2.2.1).trans (Ch.below hb2)⟩; clear hb2 hsk y0 y1 y2 y3 y4 y5 y6)
  have HM := minA hOC HKD.out w2 HS.out.2.2.1 (by have := H0.out.2.2.1; omega)
  unfold evV at HM
  go_upto_region 12 with (go_at_call 32; (with_reducible refine HM.mono ?_); rintro e w3 ⟨x, code, rfl, hcs, hq3, hC3⟩; have HM3 : Hid ((L = [] ∧ x = ev0 ∧ code = 82 ∨ code = 0 ∧ ∃ L', L = x :: L') ∧ QSR (rOf R1) base qb g room (wb + 16384) L w3 ∧ Ch (S2 qb g) w2 w3) := ⟨hcs, hq3, hC3⟩; clear hcs hq3 hC3)
  obtain ⟨w4, hw4⟩ : ∃ w4, w3.alloc (.cells #[.int .u64 (x).t, .int .i64 (x).s, .int .u64 (x).q, .int .i64 (x).d, .int .i64 (x).k, .int .i64 (x).v] 64) = w4 := ⟨_, rfl⟩
  rw [hw4]
  have hb4 : Below w3.heap.size w3 w4 := by rw [← hw4]; exact (Below.refl _ w3).alloc (Nat.le_refl _) _
  have ha4 : w4.heap[w3.heap.size]? = some (.cells #[.int .u64 (x).t, .int .i64 (x).s, .int .u64 (x).q, .int .i64 (x).d, .int .i64 (x).k, .int .i64 (x).v] 64 (0, 0)) := by rw [← hw4]; exact World.alloc_heap_new w3 _
  obtain ⟨a0, a1, a2, a3, a4, a5⟩ := q6c ha4
  have hE4 : EL w4 qb g p c L := (HS.out.2.2.2.1.keep HM3.out.2.2 (.inl rfl)).later hb4
  have HF : Hid (EL w4 qb g p c L ∧ Below w3.heap.size w3 w4) := ⟨hE4, hb4⟩
  have HT : Calls Try.prog 33 #[evV x, .int .i64 code, .slice p n c, .int .i64 0, .bool (decide (0 < n)), .int .i64 82] w4 fun e W' => e = .returned (.bool true) ∧ Below w4.heap.size w4 W' := by
    rcases HM3.out.1 with ⟨e1, e2, e3⟩ | ⟨e1, L', e2⟩
    · have hn0 : n = 0 := by rw [← HNL.out, e1]; rfl
      rw [e2, e3, hn0]
      exact told_no _ 82 0 w4
    · have hx : lX L 0 = x := by rw [e2]; rfl
      have hn0 : 0 < L.length := by rw [e2]; simp
      have h9 := toldE 0 82 hE4 hn0
      rw [HNL.out, hx] at h9
      rw [e1, show decide (0 < n) = true by have := HNL.out; simp; omega]
      exact h9
  unfold evV at HT
  clear hw4 hb4 ha4 hE4 HM
  go_wp2_with (go_at_call 33; (with_reducible refine HT.mono ?_); rintro e w5 ⟨rfl, hb5⟩)
  refine bodyPost_ret (v := .tuple #[.slice p n c, .bool true]) (by simp [results, Try.results12, go_sem]) rfl ?_
  have hb35 : Below w3.heap.size w3 w5 := HF.out.2.trans (hb5.mono HF.out.2.size)
  exact ⟨p, c, g, L, by rw [HNL.out], HM3.out.2.1.later hb35, HF.out.1.later hb5, .inl rfl, (HS.out.2.2.2.2.trans HM3.out.2.2).trans (Ch.below hb35)⟩
set_option maxRecDepth 100000 in
set_option maxHeartbeats 8000000 in
theorem heldA_find {R0 : (Nat → Ev) → Tr → Int → Prop} {R1 : Tr → Int → Prop} {o : OpV} {room : Int} (hOC : OpC R0 R1 o room) {base qb g c : Nat} {wb : Int} {L : List Ev} {p : Option Addr} (W : World) (h : QSR R0 base qb g room wb L W) (hE : EL W qb g p c L) (hwb : wb ≤ 4611686018427000000 - 16384) (hn1 : o.kd ≠ 1) (hn2 : o.kd ≠ 2) (hn3 : o.kd ≠ 3) (hk : o.kd = 4) : Calls Try.prog 12 #[.pointer (some ⟨qb, 0, none⟩), .slice p L.length c, .int .i64 room, .agg (opA o)] W fun r W' => HResA R1 base qb g room wb W r W' := by
  have HKD : Hid _ := hk
  obtain ⟨W1, hW1⟩ : ∃ W1, W.alloc (.cells (opA o) 32) = W1 := ⟨_, rfl⟩
  have hb1 : Below W.heap.size W W1 := by rw [← hW1]; exact (Below.refl _ W).alloc (Nat.le_refl _) _
  have ho1 : W1.heap[W.heap.size]? = some (.cells (opA o) 32 (0, 0)) := by rw [← hW1]; exact World.alloc_heap_new W _
  have hln := h.len
  have hsrt := h.srt
  have hlt := h.lt
  have HSK := seekE o.t o.s o.q (hE.later hb1) hsrt (by omega)
  unfold opA at *
  obtain ⟨y0, y1, y2, y3, y4, y5, y6⟩ := c7 ho1
  rw [← hW1] at y0 y1 y2 y3 y4 y5 y6
  have HW : Hid (W.alloc (.cells #[.int .i64 o.kd, .int .i64 o.wh, .int .u64 o.t, .int .i64 o.s, .int .u64 o.q, .int .i64 o.d, .int .i64 o.n] 32) = W1) := hW1
  have H0 : Hid (QSR R0 base qb g room wb L W1 ∧ EL W1 qb g p c L ∧ wb ≤ 4611686018427000000 - 16384 ∧ Below W.heap.size W W1 ∧ W1.heap[W.heap.size]? = some (.cells #[.int .i64 o.kd, .int .i64 o.wh, .int .u64 o.t, .int .i64 o.s, .int .u64 o.q, .int .i64 o.d, .int .i64 o.n] 32 (0, 0)) ∧ ((L.length : Int) ≤ room ∧ room ≤ 8192) ∧ L.Pairwise keyLt ∧ (qb < W.heap.size ∧ base ≤ qb) ∧ g < W.heap.size ∧ base ≤ g) := ⟨h.later hb1, hE.later hb1, hwb, hb1, ho1, hln, hsrt, hlt⟩
  have d1 : (o.kd == 1) = false := by simpa using hn1
  have d2 : (o.kd == 2) = false := by simpa using hn2
  have d3 : (o.kd == 3) = false := by simpa using hn3
  have d4 : (o.kd == 4) = true := by simpa using hk
  clear hW1 hb1 ho1 h hE hwb hln hsrt hlt hn1 hn2 hn3 hk
  generalize hnL : L.length = n at HSK ⊢
  have HNL : Hid (L.length = n) := hnL
  clear hnL
  go_enter Try.func12, Try.ntmps12
  go_upto_region 20 with (go_at_call 28; rw [HW.out]; (with_reducible refine HSK.mono ?_); rintro e w2 ⟨i, th, rfl, hb2, hsk⟩; obtain ⟨z0, z1, z2, z3, z4, z5, z6⟩ := c7 ((hb2.block _ (lt_of_block H0.out.2.2.2.2.1)).trans H0.out.2.2.2.2.1); have HS : Hid (Below W1.heap.size W1 w2 ∧ SK L o.t o.s o.q i th ∧ QSR R0 base qb g room wb L w2 ∧ EL w2 qb g p c L ∧ Ch (S2 qb g) W w2) := ⟨hb2, hsk, H0.out.1.later hb2, H0.out.2.1.later hb2, (Ch.below H0.out.2.2.2.1).trans (Ch.below hb2)⟩; clear hb2 hsk y0 y1 y2 y3 y4 y5 y6)
  have HM := findA hOC HKD.out w2 HS.out.2.2.1 H0.out.2.2.1
  unfold evV at HM
  go_upto_region 21 with (go_at_call 35; (with_reducible refine HM.mono ?_); rintro e w3 ⟨x, code, rfl, hcs, hq3, hC3⟩; have HM3 : Hid ((x ∈ L ∧ cmpE o.t o.s o.q x = 0 ∧ code = 0 ∨ (¬ ∃ y ∈ L, cmpE o.t o.s o.q y = 0) ∧ x = ev0 ∧ code = 83) ∧ QSR (rOf R1) base qb g room (wb + 16384) L w3 ∧ Ch (S2 qb g) w2 w3) := ⟨hcs, hq3, hC3⟩; clear hcs hq3 hC3)
  obtain ⟨w4, hw4⟩ : ∃ w4, w3.alloc (.cells #[.int .u64 (x).t, .int .i64 (x).s, .int .u64 (x).q, .int .i64 (x).d, .int .i64 (x).k, .int .i64 (x).v] 64) = w4 := ⟨_, rfl⟩
  rw [hw4]
  have hb4 : Below w3.heap.size w3 w4 := by rw [← hw4]; exact (Below.refl _ w3).alloc (Nat.le_refl _) _
  have ha4 : w4.heap[w3.heap.size]? = some (.cells #[.int .u64 (x).t, .int .i64 (x).s, .int .u64 (x).q, .int .i64 (x).d, .int .i64 (x).k, .int .i64 (x).v] 64 (0, 0)) := by rw [← hw4]; exact World.alloc_heap_new w3 _
  obtain ⟨a0, a1, a2, a3, a4, a5⟩ := q6c ha4
  have hE4 : EL w4 qb g p c L := (HS.out.2.2.2.1.keep HM3.out.2.2 (.inl rfl)).later hb4
  have HF : Hid (EL w4 qb g p c L ∧ Below w3.heap.size w3 w4) := ⟨hE4, hb4⟩
  have HT : Calls Try.prog 33 #[evV x, .int .i64 code, .slice p n c, .int .i64 (i : Int), .bool th, .int .i64 83] w4 fun e W' => e = .returned (.bool true) ∧ Below w4.heap.size w4 W' := by
    rcases HM3.out.1 with ⟨e1, e2, e3⟩ | ⟨e1, e2, e3⟩
    · have hth : th = true := HS.out.2.1.iff.2 ⟨x, e1, e2⟩
      obtain ⟨L1, L2, hL⟩ := List.append_of_mem e1
      have hsk := HS.out.2.1
      rw [hth] at hsk ⊢
      obtain ⟨_, hx, hi⟩ := hsk.del H0.out.2.2.2.2.2.2.1 hL e2
      have h9 := toldE i 83 hE4 hi
      rw [HNL.out, hx] at h9
      rw [e3]
      exact h9
    · have hth : th = false := by
        cases th with
        | false => rfl
        | true => exact absurd (HS.out.2.1.iff.1 rfl) e1
      rw [e2, e3, hth]
      exact told_no _ 83 i w4
  unfold evV at HT
  clear hw4 hb4 ha4 hE4 HM
  go_wp2_with (go_at_call 33; (with_reducible refine HT.mono ?_); rintro e w5 ⟨rfl, hb5⟩)
  refine bodyPost_ret (v := .tuple #[.slice p n c, .bool true]) (by simp [results, Try.results12, go_sem]) rfl ?_
  have hb35 : Below w3.heap.size w3 w5 := HF.out.2.trans (hb5.mono HF.out.2.size)
  exact ⟨p, c, g, L, by rw [HNL.out], HM3.out.2.1.later hb35, HF.out.1.later hb5, .inl rfl, (HS.out.2.2.2.2.trans HM3.out.2.2).trans (Ch.below hb35)⟩
set_option maxRecDepth 100000 in
set_option maxHeartbeats 8000000 in
theorem heldA_list {R0 : (Nat → Ev) → Tr → Int → Prop} {R1 : Tr → Int → Prop} {o : OpV} {room : Int} (hOC : OpC R0 R1 o room) {base qb g c : Nat} {wb : Int} {L : List Ev} {p : Option Addr} (W : World) (h : QSR R0 base qb g room wb L W) (hE : EL W qb g p c L) (hwb : wb ≤ 4611686018427000000 - 16384) (hn1 : o.kd ≠ 1) (hn2 : o.kd ≠ 2) (hn3 : o.kd ≠ 3) (hn4 : o.kd ≠ 4) (hn5 : o.kd ≠ 5) (hn6 : o.kd ≠ 6) (hk : o.kd = 8) : Calls Try.prog 12 #[.pointer (some ⟨qb, 0, none⟩), .slice p L.length c, .int .i64 room, .agg (opA o)] W fun r W' => HResA R1 base qb g room wb W r W' := by
  have HID : Hid (∀ E t w, R0 E t w → rOf R1 E t w) := hOC.idle hn1 hn2 hn3 hn4 hn5 hn6
  obtain ⟨W1, hW1⟩ : ∃ W1, W.alloc (.cells (opA o) 32) = W1 := ⟨_, rfl⟩
  have hb1 : Below W.heap.size W W1 := by rw [← hW1]; exact (Below.refl _ W).alloc (Nat.le_refl _) _
  have ho1 : W1.heap[W.heap.size]? = some (.cells (opA o) 32 (0, 0)) := by rw [← hW1]; exact World.alloc_heap_new W _
  have hln := h.len
  have hsrt := h.srt
  have hlt := h.lt
  have HSK := seekE o.t o.s o.q (hE.later hb1) hsrt (by omega)
  unfold opA at *
  obtain ⟨y0, y1, y2, y3, y4, y5, y6⟩ := c7 ho1
  rw [← hW1] at y0 y1 y2 y3 y4 y5 y6
  have HW : Hid (W.alloc (.cells #[.int .i64 o.kd, .int .i64 o.wh, .int .u64 o.t, .int .i64 o.s, .int .u64 o.q, .int .i64 o.d, .int .i64 o.n] 32) = W1) := hW1
  have H0 : Hid (QSR R0 base qb g room wb L W1 ∧ EL W1 qb g p c L ∧ wb ≤ 4611686018427000000 - 16384 ∧ Below W.heap.size W W1 ∧ W1.heap[W.heap.size]? = some (.cells #[.int .i64 o.kd, .int .i64 o.wh, .int .u64 o.t, .int .i64 o.s, .int .u64 o.q, .int .i64 o.d, .int .i64 o.n] 32 (0, 0)) ∧ ((L.length : Int) ≤ room ∧ room ≤ 8192) ∧ L.Pairwise keyLt ∧ (qb < W.heap.size ∧ base ≤ qb) ∧ g < W.heap.size ∧ base ≤ g) := ⟨h.later hb1, hE.later hb1, hwb, hb1, ho1, hln, hsrt, hlt⟩
  have d1 : (o.kd == 1) = false := by simpa using hn1
  have d2 : (o.kd == 2) = false := by simpa using hn2
  have d3 : (o.kd == 3) = false := by simpa using hn3
  have d4 : (o.kd == 4) = false := by simpa using hn4
  have d5 : (o.kd == 5) = false := by simpa using hn5
  have d6 : (o.kd == 6) = false := by simpa using hn6
  have d8 : (o.kd == 8) = true := by simpa using hk
  clear hW1 hb1 ho1 h hE hwb hln hsrt hlt hn1 hn2 hn3 hn4 hn5 hn6 hk
  generalize hnL : L.length = n at HSK ⊢
  have HNL : Hid (L.length = n) := hnL
  clear hnL
  go_enter Try.func12, Try.ntmps12
  go_upto_region 35 with (go_at_call 28; rw [HW.out]; (with_reducible refine HSK.mono ?_); rintro e w2 ⟨i, th, rfl, hb2, hsk⟩; obtain ⟨z0, z1, z2, z3, z4, z5, z6⟩ := c7 ((hb2.block _ (lt_of_block H0.out.2.2.2.2.1)).trans H0.out.2.2.2.2.1); have HS : Hid (Below W1.heap.size W1 w2 ∧ SK L o.t o.s o.q i th ∧ QSR R0 base qb g room wb L w2 ∧ EL w2 qb g p c L ∧ Ch (S2 qb g) W w2) := ⟨hb2, hsk, H0.out.1.later hb2, H0.out.2.1.later hb2, (Ch.below H0.out.2.2.2.1).trans (Ch.below hb2)⟩; clear hb2 hsk y0 y1 y2 y3 y4 y5 y6)
  have HM := listB w2 HS.out.2.2.1
  rw [HNL.out] at HM
  go_wp2_with (first | (go_at_call 10; (with_reducible refine HM.mono ?_); rintro e w3 ⟨b3, X3, rfl, hX3, hs3, hl3, hb3, hq3, hC3⟩; have hE3 : EL w3 qb g p c L := HS.out.2.2.2.1.keep hC3 (.inl rfl); have HT := sameEvents_yes n (fun j => evC (X3 (j / 6)) (j % 6)) (some ⟨b3, 0, none⟩) p n c (by have h8 := H0.out.2.2.2.2.2.1; have h9 := HNL.out; omega) w3 (by have h := hX3.xat 0 n (by omega); simpa using h) (by have h := hE3.xat; rw [HNL.out] at h; exact h.congr (fun j hj => by have h1 := hl3 (j / 6) (by omega); rw [lX_at (by have := HNL.out; omega)] at h1; rw [Option.some.inj h1])) (evSh_evC n X3); have HM3 : Hid (QSR R0 base qb g room wb L w3 ∧ Ch (S2 qb g) w2 w3 ∧ EL w3 qb g p c L) := ⟨hq3, hC3, hE3⟩; clear hX3 hs3 hl3 hb3 hq3 hC3 hE3) | (go_at_call 9; (with_reducible refine HT.mono ?_); rintro e w5 ⟨rfl, hb5⟩))
  refine bodyPost_ret (v := .tuple #[.slice p n c, .bool true]) (by simp [results, Try.results12, go_sem]) rfl ?_
  exact ⟨p, c, g, L, by rw [HNL.out], (HM3.out.1.later hb5).turn HID.out (by omega), HM3.out.2.2.later hb5, .inl rfl, (HS.out.2.2.2.2.trans HM3.out.2.1).trans (Ch.below hb5)⟩
end Go.Proofs.Ytlklolmhaiaaiaa
