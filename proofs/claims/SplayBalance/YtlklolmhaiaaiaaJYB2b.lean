import Derived.Test.YtlklolmhaiaaiaaJYB1
namespace Go.Proofs.Ytlklolmhaiaaiaa
open Go.ChangeShapes Go.WideShapes Go.ChangeAt Go.RowKit
set_option linter.unusedVariables false
set_option linter.unusedSimpArgs false

set_option maxRecDepth 100000 in
set_option maxHeartbeats 8000000 in
theorem heldA_sizes {R0 : (Nat → Ev) → Tr → Int → Prop} {R1 : Tr → Int → Prop} {o : OpV} {room : Int} (hOC : OpC R0 R1 o room) {base qb g c : Nat} {wb : Int} {L : List Ev} {p : Option Addr} (W : World) (h : QSR R0 base qb g room wb L W) (hE : EL W qb g p c L) (hwb : wb ≤ 4611686018427000000 - 16384) (hn1 : o.kd ≠ 1) (hn2 : o.kd ≠ 2) (hn3 : o.kd ≠ 3) (hn4 : o.kd ≠ 4) (hn5 : o.kd ≠ 5) (hn6 : o.kd ≠ 6) (hn8 : o.kd ≠ 8) (hk : o.kd = 7) : Calls Try.prog 12 #[.pointer (some ⟨qb, 0, none⟩), .slice p L.length c, .int .i64 room, .agg (opA o)] W fun r W' => HResA R1 base qb g room wb W r W' := by
  have HID : Hid (∀ E t w, R0 E t w → rOf R1 E t w) := hOC.idle hn1 hn2 hn3 hn4 hn5 hn6
  obtain ⟨W1, hW1⟩ : ∃ W1, W.alloc (.cells (opA o) 32) = W1 := ⟨_, rfl⟩
  have hb1 : Below W.heap.size W W1 := by rw [← hW1]; exact (Below.refl _ W).alloc (Nat.le_refl _) _
  have ho1 : W1.heap[W.heap.size]? = some (.cells (opA o) 32 (0, 0)) := by rw [← hW1]; exact World.alloc_heap_new W _
  have hln := h.len
  have hsrt := h.srt
  have hlt := h.lt
  have HSK := seekE o.t o.s o.q (hE.later hb1) hsrt (by omega)
  unfold opA at *
  obtain ⟨y0, y1, y2, y3, y4, y5, y6⟩ := c7 ho1
  rw [← hW1] at y0 y1 y2 y3 y4 y5 y6
  have HW : Hid (W.alloc (.cells #[.int .i64 o.kd, .int .i64 o.wh, .int .u64 o.t, .int .i64 o.s, .int .u64 o.q, .int .i64 o.d, .int .i64 o.n] 32) = W1) := hW1
  have H0 : Hid (QSR R0 base qb g room wb L W1 ∧ EL W1 qb g p c L ∧ wb ≤ 4611686018427000000 - 16384 ∧ Below W.heap.size W W1 ∧ W1.heap[W.heap.size]? = some (.cells #[.int .i64 o.kd, .int .i64 o.wh, .int .u64 o.t, .int .i64 o.s, .int .u64 o.q, .int .i64 o.d, .int .i64 o.n] 32 (0, 0)) ∧ ((L.length : Int) ≤ room ∧ room ≤ 8192) ∧ L.Pairwise keyLt ∧ (qb < W.heap.size ∧ base ≤ qb) ∧ g < W.heap.size ∧ base ≤ g) := ⟨h.later hb1, hE.later hb1, hwb, hb1, ho1, hln, hsrt, hlt⟩
  have d1 : (o.kd == 1) = false := by simpa using hn1
  have d2 : (o.kd == 2) = false := by simpa using hn2
  have d3 : (o.kd == 3) = false := by simpa using hn3
  have d4 : (o.kd == 4) = false := by simpa using hn4
  have d5 : (o.kd == 5) = false := by simpa using hn5
  have d6 : (o.kd == 6) = false := by simpa using hn6
  have d8 : (o.kd == 8) = false := by simpa using hn8
  have d7 : (o.kd == 7) = true := by simpa using hk
  clear hW1 hb1 ho1 h hE hwb hln hsrt hlt hn1 hn2 hn3 hn4 hn5 hn6 hn8 hk
  generalize hnL : L.length = n at HSK ⊢
  have HNL : Hid (L.length = n) := hnL
  clear hnL
  go_enter Try.func12, Try.ntmps12
  go_upto_region 37 with (go_at_call 28; rw [HW.out]; (with_reducible refine HSK.mono ?_); rintro e w2 ⟨i, th, rfl, hb2, hsk⟩; obtain ⟨z0, z1, z2, z3, z4, z5, z6⟩ := c7 ((hb2.block _ (lt_of_block H0.out.2.2.2.2.1)).trans H0.out.2.2.2.2.1); have HS : Hid (Below W1.heap.size W1 w2 ∧ SK L o.t o.s o.q i th ∧ QSR R0 base qb g room wb L w2 ∧ EL w2 qb g p c L ∧ Ch (S2 qb g) W w2) := ⟨hb2, hsk, H0.out.1.later hb2, H0.out.2.1.later hb2, (Ch.below H0.out.2.2.2.1).trans (Ch.below hb2)⟩; clear hb2 hsk y0 y1 y2 y3 y4 y5 y6)
  have HZ := size_any w2 HS.out.2.2.1.qs
  have HR := room_any w2 HS.out.2.2.1.qs
  rw [HNL.out] at HZ HR
  have e1 : IntKind.i64.wrap (room - (n : Int)) = room - (n : Int) := by have h8 := H0.out.2.2.2.2.2.1; have h9 := HNL.out; rw [IntKind.wrap_i64]; omega
  go_wp2_with (first | (go_at_call 38; (with_reducible refine HZ.mono ?_); rintro e w3 ⟨rfl, h9⟩; subst h9) | (go_at_call 39; (with_reducible refine HR.mono ?_); rintro e w5 ⟨rfl, hb5⟩))
  refine bodyPost_ret (v := .tuple #[.slice p n c, .bool true]) (by simp [results, Try.results12, go_sem]) rfl ?_
  exact ⟨p, c, g, L, by rw [HNL.out], (HS.out.2.2.1.later hb5).turn HID.out (by omega), HS.out.2.2.2.1.later hb5, .inl rfl, HS.out.2.2.2.2.trans (Ch.below hb5)⟩
set_option maxRecDepth 100000 in
set_option maxHeartbeats 8000000 in
theorem heldA_remove {R0 : (Nat → Ev) → Tr → Int → Prop} {R1 : Tr → Int → Prop} {o : OpV} {room : Int} (hOC : OpC R0 R1 o room) {base qb g c : Nat} {wb : Int} {L : List Ev} {p : Option Addr} (W : World) (h : QSR R0 base qb g room wb L W) (hE : EL W qb g p c L) (hwb : wb ≤ 4611686018427000000 - 16384) (hn1 : o.kd ≠ 1) (hn2 : o.kd ≠ 2) (hn3 : o.kd ≠ 3) (hn4 : o.kd ≠ 4) (hk : o.kd = 5) : Calls Try.prog 12 #[.pointer (some ⟨qb, 0, none⟩), .slice p L.length c, .int .i64 room, .agg (opA o)] W fun r W' => HResA R1 base qb g room wb W r W' := by
  have HKD : Hid _ := hk
  obtain ⟨W1, hW1⟩ : ∃ W1, W.alloc (.cells (opA o) 32) = W1 := ⟨_, rfl⟩
  have hb1 : Below W.heap.size W W1 := by rw [← hW1]; exact (Below.refl _ W).alloc (Nat.le_refl _) _
  have ho1 : W1.heap[W.heap.size]? = some (.cells (opA o) 32 (0, 0)) := by rw [← hW1]; exact World.alloc_heap_new W _
  have hln := h.len
  have hsrt := h.srt
  have hlt := h.lt
  have HSK := seekE o.t o.s o.q (hE.later hb1) hsrt (by omega)
  unfold opA at *
  obtain ⟨y0, y1, y2, y3, y4, y5, y6⟩ := c7 ho1
  rw [← hW1] at y0 y1 y2 y3 y4 y5 y6
  have HW : Hid (W.alloc (.cells #[.int .i64 o.kd, .int .i64 o.wh, .int .u64 o.t, .int .i64 o.s, .int .u64 o.q, .int .i64 o.d, .int .i64 o.n] 32) = W1) := hW1
  have H0 : Hid (QSR R0 base qb g room wb L W1 ∧ EL W1 qb g p c L ∧ wb ≤ 4611686018427000000 - 16384 ∧ Below W.heap.size W W1 ∧ W1.heap[W.heap.size]? = some (.cells #[.int .i64 o.kd, .int .i64 o.wh, .int .u64 o.t, .int .i64 o.s, .int .u64 o.q, .int .i64 o.d, .int .i64 o.n] 32 (0, 0)) ∧ ((L.length : Int) ≤ room ∧ room ≤ 8192) ∧ L.Pairwise keyLt ∧ (qb < W.heap.size ∧ base ≤ qb) ∧ g < W.heap.size ∧ base ≤ g) := ⟨h.later hb1, hE.later hb1, hwb, hb1, ho1, hln, hsrt, hlt⟩
  have d1 : (o.kd == 1) = false := by simpa using hn1
  have d2 : (o.kd == 2) = false := by simpa using hn2
  have d3 : (o.kd == 3) = false := by simpa using hn3
  have d4 : (o.kd == 4) = false := by simpa using hn4
  have d5 : (o.kd == 5) = true := by simpa using hk
  clear hW1 hb1 ho1 h hE hwb hln hsrt hlt hn1 hn2 hn3 hn4 hk
  generalize hnL : L.length = n at HSK ⊢
  have HNL : Hid (L.length = n) := hnL
  clear hnL
  go_enter Try.func12, Try.ntmps12
  go_upto_region 23 with (go_at_call 28; rw [HW.out]; (with_reducible refine HSK.mono ?_); rintro e w2 ⟨i, th, rfl, hb2, hsk⟩; obtain ⟨z0, z1, z2, z3, z4, z5, z6⟩ := c7 ((hb2.block _ (lt_of_block H0.out.2.2.2.2.1)).trans H0.out.2.2.2.2.1); have HS : Hid (Below W1.heap.size W1 w2 ∧ SK L o.t o.s o.q i th ∧ QSR R0 base qb g room wb L w2 ∧ EL w2 qb g p c L ∧ Ch (S2 qb g) W w2) := ⟨hb2, hsk, H0.out.1.later hb2, H0.out.2.1.later hb2, (Ch.below H0.out.2.2.2.1).trans (Ch.below hb2)⟩; clear hb2 hsk y0 y1 y2 y3 y4 y5 y6)
  have HM := removeA hOC HKD.out w2 HS.out.2.2.1 H0.out.2.2.1
  unfold evV at HM
  go_upto_region 24 with (go_at_call 36; (with_reducible refine HM.mono ?_); rintro e w3 ⟨x, code, L', rfl, hcs, hq3, hC3⟩; have HM3 : Hid (((∃ L1 L2, L = L1 ++ x :: L2 ∧ L' = L1 ++ L2) ∧ cmpE o.t o.s o.q x = 0 ∧ code = 0 ∨ (¬ ∃ y ∈ L, cmpE o.t o.s o.q y = 0) ∧ L' = L ∧ x = ev0 ∧ code = 83) ∧ QSR (rOf R1) base qb g room (wb + 16384) L' w3 ∧ Ch (S2 qb g) w2 w3) := ⟨hcs, hq3, hC3⟩; clear hcs hq3 hC3)
  obtain ⟨w4, hw4⟩ : ∃ w4, w3.alloc (.cells #[.int .u64 (x).t, .int .i64 (x).s, .int .u64 (x).q, .int .i64 (x).d, .int .i64 (x).k, .int .i64 (x).v] 64) = w4 := ⟨_, rfl⟩
  rw [hw4]
  have hb4 : Below w3.heap.size w3 w4 := by rw [← hw4]; exact (Below.refl _ w3).alloc (Nat.le_refl _) _
  have ha4 : w4.heap[w3.heap.size]? = some (.cells #[.int .u64 (x).t, .int .i64 (x).s, .int .u64 (x).q, .int .i64 (x).d, .int .i64 (x).k, .int .i64 (x).v] 64 (0, 0)) := by rw [← hw4]; exact World.alloc_heap_new w3 _
  obtain ⟨a0, a1, a2, a3, a4, a5⟩ := q6c ha4
  have hE4 : EL w4 qb g p c L := (HS.out.2.2.2.1.keep HM3.out.2.2 (.inl rfl)).later hb4
  have HF : Hid (EL w4 qb g p c L ∧ Below w3.heap.size w3 w4) := ⟨hE4, hb4⟩
  clear hw4 hb4 ha4 HM
  have hsl : qb < w4.heap.size ∧ g < w4.heap.size := by
    have h7 := H0.out.2.2.2.2.2.2.2
    have h8 := (HS.out.2.2.2.2.trans HM3.out.2.2).size
    have h9 := HF.out.2.size
    omega
  rcases HM3.out.1 with ⟨⟨L1, L2, e0, e1⟩, e2, e3⟩ | ⟨e1, e0, e2, e3⟩
  · have hth : th = true := HS.out.2.1.iff.2 ⟨x, by rw [e0]; simp, e2⟩
    have hsk := HS.out.2.1
    rw [hth] at hsk
    obtain ⟨hdel, hx, hi⟩ := hsk.del H0.out.2.2.2.2.2.2.1 e0 e2
    have HT := toldE i 83 hE4 hi
    rw [HNL.out, hx] at HT
    unfold evV at HT
    have HWO : Hid (∀ w5, EL w5 qb g p c L → qb < w5.heap.size ∧ g < w5.heap.size → Calls Try.prog 37 #[.slice p n c, .int .i64 (i : Int)] w5 fun r W' => ∃ p' c', r = .returned (.slice p' L'.length c') ∧ EL W' qb g p' c' L' ∧ Below w5.heap.size w5 W') := fun w5 h5 h6 => by
      have h9 := withoutE i h5 hi (by have h8 := H0.out.2.2.2.2.2.1; omega) h6.1 h6.2
      rw [← hdel, ← e1, HNL.out] at h9
      exact h9
    have HSL : Hid (qb < w4.heap.size ∧ g < w4.heap.size) := hsl
    subst hth e3
    clear e0 e1 e2 hsk hdel hx hi hE4 hsl
    go_wp2_with (first | (go_at_call 33; (with_reducible refine HT.mono ?_); rintro e w5 ⟨rfl, hb5⟩; have HW5 := HWO.out w5 (HF.out.1.later hb5) (by have h1 := HSL.out; have h2 := hb5.size; omega)) | (go_at_call 37; (with_reducible refine HW5.mono ?_); rintro e w6 ⟨p6, c6, rfl, hE6, hb6⟩))
    refine bodyPost_ret (v := .tuple #[.slice p6 L'.length c6, .bool true]) (by simp [results, Try.results12, go_sem]) rfl ?_
    have hb36 : Below w3.heap.size w3 w6 := (HF.out.2.trans (hb5.mono HF.out.2.size)).trans (hb6.mono (by have h1 := HF.out.2.size; have h2 := hb5.size; omega))
    exact ⟨p6, c6, g, L', rfl, HM3.out.2.1.later hb36, hE6, .inl rfl, (HS.out.2.2.2.2.trans HM3.out.2.2).trans (Ch.below hb36)⟩
  · have hth : th = false := by
      cases th with
      | false => rfl
      | true => exact absurd (HS.out.2.1.iff.1 rfl) e1
    have HT := told_no (.slice p n c) 83 i w4
    have HL' : Hid (L' = L) := e0
    subst hth e2 e3
    unfold evV at HT
    clear e0 e1 hE4 hsl
    go_wp2_with (go_at_call 33; (with_reducible refine HT.mono ?_); rintro e w5 ⟨rfl, hb5⟩)
    refine bodyPost_ret (v := .tuple #[.slice p n c, .bool true]) (by simp [results, Try.results12, go_sem]) rfl ?_
    have hb35 : Below w3.heap.size w3 w5 := HF.out.2.trans (hb5.mono HF.out.2.size)
    exact ⟨p, c, g, L, by rw [HNL.out], by have h9 := HM3.out.2.1.later hb35; rw [HL'.out] at h9; exact h9, HF.out.1.later hb5, .inl rfl, (HS.out.2.2.2.2.trans HM3.out.2.2).trans (Ch.below hb35)⟩
set_option maxRecDepth 100000 in
set_option maxHeartbeats 8000000 in
theorem heldA_insert {R0 : (Nat → Ev) → Tr → Int → Prop} {R1 : Tr → Int → Prop} {o : OpV} {room : Int} (hOC : OpC R0 R1 o room) {base qb g c : Nat} {wb : Int} {L : List Ev} {p : Option Addr} (W : World) (h : QSR R0 base qb g room wb L W) (hE : EL W qb g p c L) (hwb : wb ≤ 4611686018427000000 - 16384) (hk : o.kd = 1) : Calls Try.prog 12 #[.pointer (some ⟨qb, 0, none⟩), .slice p L.length c, .int .i64 room, .agg (opA o)] W fun r W' => HResA R1 base qb g room wb W r W' := by
  have HKD : Hid _ := hk
  obtain ⟨W1, hW1⟩ : ∃ W1, W.alloc (.cells (opA o) 32) = W1 := ⟨_, rfl⟩
  have hb1 : Below W.heap.size W W1 := by rw [← hW1]; exact (Below.refl _ W).alloc (Nat.le_refl _) _
  have ho1 : W1.heap[W.heap.size]? = some (.cells (opA o) 32 (0, 0)) := by rw [← hW1]; exact World.alloc_heap_new W _
  have hln := h.len
  have hsrt := h.srt
  have hlt := h.lt
  have HSK := seekE o.t o.s o.q (hE.later hb1) hsrt (by omega)
  unfold opA at *
  obtain ⟨y0, y1, y2, y3, y4, y5, y6⟩ := c7 ho1
  rw [← hW1] at y0 y1 y2 y3 y4 y5 y6
  have HW : Hid (W.alloc (.cells #[.int .i64 o.kd, .int .i64 o.wh, .int .u64 o.t, .int .i64 o.s, .int .u64 o.q, .int .i64 o.d, .int .i64 o.n] 32) = W1) := hW1
  have H0 : Hid (QSR R0 base qb g room wb L W1 ∧ EL W1 qb g p c L ∧ wb ≤ 4611686018427000000 - 16384 ∧ Below W.heap.size W W1 ∧ W1.heap[W.heap.size]? = some (.cells #[.int .i64 o.kd, .int .i64 o.wh, .int .u64 o.t, .int .i64 o.s, .int .u64 o.q, .int .i64 o.d, .int .i64 o.n] 32 (0, 0)) ∧ ((L.length : Int) ≤ room ∧ room ≤ 8192) ∧ L.Pairwise keyLt ∧ (qb < W.heap.size ∧ base ≤ qb) ∧ g < W.heap.size ∧ base ≤ g) := ⟨h.later hb1, hE.later hb1, hwb, hb1, ho1, hln, hsrt, hlt⟩
  have d1 : (o.kd == 1) = true := by simpa using hk
  clear hW1 hb1 ho1 h hE hwb hln hsrt hlt hk
  generalize hnL : L.length = n at HSK ⊢
  have HNL : Hid (L.length = n) := hnL
  clear hnL
  go_enter Try.func12, Try.ntmps12
  go_upto_region 4 with (go_at_call 28; rw [HW.out]; (with_reducible refine HSK.mono ?_); rintro e w2 ⟨i, th, rfl, hb2, hsk⟩; obtain ⟨z0, z1, z2, z3, z4, z5, z6⟩ := c7 ((hb2.block _ (lt_of_block H0.out.2.2.2.2.1)).trans H0.out.2.2.2.2.1); have HS : Hid (Below W1.heap.size W1 w2 ∧ SK L o.t o.s o.q i th ∧ QSR R0 base qb g room wb L w2 ∧ EL w2 qb g p c L ∧ Ch (S2 qb g) W w2) := ⟨hb2, hsk, H0.out.1.later hb2, H0.out.2.1.later hb2, (Ch.below H0.out.2.2.2.1).trans (Ch.below hb2)⟩; clear hb2 hsk y0 y1 y2 y3 y4 y5 y6)
  have HEV := event_any o w2
  unfold opA evV at HEV
  have HS2 : Hid (∀ w3, Below w2.heap.size w2 w3 → Calls Try.prog 29 #[.pointer (some ⟨qb, 0, none⟩), .agg #[.int .u64 ((⟨o.t, o.s, o.q, o.d.tmod 7, o.d.tmod 5, o.d⟩ : Ev)).t, .int .i64 ((⟨o.t, o.s, o.q, o.d.tmod 7, o.d.tmod 5, o.d⟩ : Ev)).s, .int .u64 ((⟨o.t, o.s, o.q, o.d.tmod 7, o.d.tmod 5, o.d⟩ : Ev)).q, .int .i64 ((⟨o.t, o.s, o.q, o.d.tmod 7, o.d.tmod 5, o.d⟩ : Ev)).d, .int .i64 ((⟨o.t, o.s, o.q, o.d.tmod 7, o.d.tmod 5, o.d⟩ : Ev)).k, .int .i64 ((⟨o.t, o.s, o.q, o.d.tmod 7, o.d.tmod 5, o.d⟩ : Ev)).v]] w3 fun e' W' => ∃ code, e' = .returned (.int .i64 code) ∧ InsA R1 base qb g room wb L ⟨o.t, o.s, o.q, o.d.tmod 7, o.d.tmod 5, o.d⟩ w3 code W') := fun w3 hb3 => ins_A hOC HKD.out ⟨o.t, o.s, o.q, o.d.tmod 7, o.d.tmod 5, o.d⟩ w3 ⟨rfl, rfl, rfl⟩ (HS.out.2.2.1.later hb3) (by have := H0.out.2.2.1; omega)
  go_upto_region 5 with (first | (go_at_call 30; (with_reducible refine HEV.mono ?_); rintro e w3 ⟨rfl, hb3⟩; have HI := HS2.out w3 hb3) | (go_at_call 29; (with_reducible refine HI.mono ?_); rintro e w4 ⟨code, rfl, hI⟩; have HIR : Hid (InsA R1 base qb g room wb L ⟨o.t, o.s, o.q, o.d.tmod 7, o.d.tmod 5, o.d⟩ w3 code w4 ∧ Below w2.heap.size w2 w3) := ⟨hI, hb3⟩; clear hI hb3))
  obtain ⟨hI, hb3⟩ := HIR.out
  obtain ⟨g4, hcs, hg4, hC4⟩ := hI
  have hs3 := hb3.size
  have hs2 := HS.out.2.2.2.2.size
  have hC : Ch (S2 qb g) W w4 := (HS.out.2.2.2.2.trans (Ch.below hb3)).trans hC4
  have hgW : g4 = g ∨ W.heap.size ≤ g4 := by rcases hg4 with e | e; exact .inl e; exact .inr (by omega)
  have hE4 : EL w4 qb g4 p c L := (HS.out.2.2.2.1.later hb3).keep hC4 hg4
  have HF : Hid (Ch (S2 qb g) W w4 ∧ (g4 = g ∨ W.heap.size ≤ g4) ∧ EL w4 qb g4 p c L) := ⟨hC, hgW, hE4⟩
  clear hs3 hs2 hC hgW hE4 hC4 hg4 hb3 HI HEV HS2
  rcases hcs with ⟨q1, q2, q3⟩ | ⟨q1, q2, q3, q4⟩ | ⟨q1, q2, q3, L', q4, q5, q6⟩
  · have df : ((n : Int) == room) = true := by rw [← HNL.out]; simpa using q1
    have HQ : Hid (QSR (rOf R1) base qb g4 room (wb + 8192) L w4) := q3
    subst q2
    clear q1 q3
    go_wp2_with fail
    refine bodyPost_ret (v := .tuple #[.slice p n c, .bool true]) (by simp [results, Try.results12, go_sem]) rfl ?_
    exact ⟨p, c, g4, L, by rw [HNL.out], HQ.out.up (by omega), HF.out.2.2, HF.out.2.1, HF.out.1⟩
  · have df : ((n : Int) == room) = false := by rw [← HNL.out]; simpa using q1
    have hth : th = true := HS.out.2.1.iff.2 q2
    have HQ : Hid (QSR (rOf R1) base qb g4 room (wb + 8192) L w4) := q4
    subst q3 hth
    clear q1 q2 q4
    go_wp2_with fail
    refine bodyPost_ret (v := .tuple #[.slice p n c, .bool true]) (by simp [results, Try.results12, go_sem]) rfl ?_
    exact ⟨p, c, g4, L, by rw [HNL.out], HQ.out.up (by omega), HF.out.2.2, HF.out.2.1, HF.out.1⟩
  · have df : ((n : Int) == room) = false := by rw [← HNL.out]; simpa using q1
    have hth : th = false := by
      cases th with
      | false => rfl
      | true => exact absurd (HS.out.2.1.iff.1 rfl) q2
    have hsk := HS.out.2.1
    rw [hth] at hsk
    have hL9 := SK.ins (e := ⟨o.t, o.s, o.q, o.d.tmod 7, o.d.tmod 5, o.d⟩) hsk H0.out.2.2.2.2.2.2.1 q4.srt q6
    have hlt4 := q4.lt
    have HQ : Hid (QSR (rOf R1) base qb g4 room (wb + 8192) L' w4 ∧ qb < w4.heap.size ∧ g4 < w4.heap.size) := ⟨q4, hlt4.1.1, hlt4.2.1⟩
    have HWI : Hid (∀ w5, Below w4.heap.size w4 w5 → Calls Try.prog 31 #[.slice p n c, .int .i64 (i : Int), .agg #[.int .u64 ((⟨o.t, o.s, o.q, o.d.tmod 7, o.d.tmod 5, o.d⟩ : Ev)).t, .int .i64 ((⟨o.t, o.s, o.q, o.d.tmod 7, o.d.tmod 5, o.d⟩ : Ev)).s, .int .u64 ((⟨o.t, o.s, o.q, o.d.tmod 7, o.d.tmod 5, o.d⟩ : Ev)).q, .int .i64 ((⟨o.t, o.s, o.q, o.d.tmod 7, o.d.tmod 5, o.d⟩ : Ev)).d, .int .i64 ((⟨o.t, o.s, o.q, o.d.tmod 7, o.d.tmod 5, o.d⟩ : Ev)).k, .int .i64 ((⟨o.t, o.s, o.q, o.d.tmod 7, o.d.tmod 5, o.d⟩ : Ev)).v]] w5 fun r W' => ∃ p' c', r = .returned (.slice p' L'.length c') ∧ EL W' qb g4 p' c' L' ∧ Below w5.heap.size w5 W') := fun w5 h5 => by
      have h7 := HQ.out.2
      have h6 := h5.size
      have h9 := withE ⟨o.t, o.s, o.q, o.d.tmod 7, o.d.tmod 5, o.d⟩ i (HF.out.2.2.later h5) hsk.le (by have h8 := H0.out.2.2.2.2.2.1; omega) (by omega) (by omega)
      rw [← hL9, HNL.out] at h9
      exact h9
    have HEV := event_any o w4
    unfold opA evV at HEV
    have ho4 : w4.heap[W.heap.size]? = some (.cells #[.int .i64 o.kd, .int .i64 o.wh, .int .u64 o.t, .int .i64 o.s, .int .u64 o.q, .int .i64 o.d, .int .i64 o.n] 32 (0, 0)) := by
      have h7 := H0.out.2.2.2.2.2.2.2
      have h6 := lt_of_block H0.out.2.2.2.2.1
      obtain ⟨hI, hb3⟩ := HIR.out
      obtain ⟨_, _, _, hC4⟩ := hI
      have h5 := HS.out.1.size
      have h8 := hb3.size
      exact (hC4.block _ (by omega) (by rintro (e | e) <;> omega)).trans ((hb3.block _ (by omega)).trans ((HS.out.1.block _ h6).trans H0.out.2.2.2.2.1))
    obtain ⟨u0, u1, u2, u3, u4, u5, u6⟩ := c7 ho4
    subst q3 hth
    clear q1 q2 q4 q5 q6 hsk hL9 hlt4 ho4
    go_wp2_with (first | (go_at_call 30; (with_reducible refine HEV.mono ?_); rintro e w5 ⟨rfl, hb5⟩; have HW5 := HWI.out w5 hb5) | (go_at_call 31; (with_reducible refine HW5.mono ?_); rintro e w6 ⟨p6, c6, rfl, hE6, hb6⟩))
    refine bodyPost_ret (v := .tuple #[.slice p6 L'.length c6, .bool true]) (by simp [results, Try.results12, go_sem]) rfl ?_
    have hb46 : Below w4.heap.size w4 w6 := hb5.trans (hb6.mono hb5.size)
    exact ⟨p6, c6, g4, L', rfl, (HQ.out.1.later hb46).up (by omega), hE6, HF.out.2.1, HF.out.1.trans (Ch.below hb46)⟩
end Go.Proofs.Ytlklolmhaiaaiaa
