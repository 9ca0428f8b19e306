import Derived.Test.YtlklolmhaiaaiaaJYB5
namespace Go.Proofs.Ytlklolmhaiaaiaa
open Go.ChangeShapes Go.WideShapes Go.ChangeAt Go.RowKit
set_option linter.unusedVariables false
set_option linter.unusedSimpArgs false

/-- what a law hands to `paid` -/
structure PIn (W : World) (qb g : Nat) (p : Option Addr) (c : Nat) (pd : Option Addr) (L : List Ev) (t : Tr) : Prop where
  el : EL W qb g p c L
  srt : L.Pairwise keyLt
  dp : DpW W pd t
  len : L.length = t.size
  sz : t.size ≤ 8192
theorem DpW.later {W W' : World} {pd : Option Addr} {t : Tr} (h : DpW W pd t) (hb : Below W.heap.size W W') : DpW W' pd t := by
  rcases h with h | ⟨b, e, h1, h2⟩
  · exact .inl h
  · exact .inr ⟨b, e, Nat.lt_of_lt_of_le h1 hb.size, fun i hi => (cell_below (a := ⟨b, i, none⟩) hb h1).trans (h2 i hi)⟩
set_option maxRecDepth 100000 in
set_option maxHeartbeats 4000000 in
theorem paid_full {qb g c cd : Nat} {p pd : Option Addr} {L : List Ev} {t : Tr} (o : OpV) (k : Nat) (W : World) (h : PIn W qb g p c pd L t) (hk : o.kd = 1) : Calls Try.prog 13 #[.agg (opA o), .slice p L.length c, .slice pd L.length cd, .bool true, .int .i64 0] W fun e W' => e = .returned (.bool true) ∧ Below W.heap.size W W' := by
  obtain ⟨W1, hW1⟩ : ∃ W1, W.alloc (.cells (opA o) 32) = W1 := ⟨_, rfl⟩
  have hb1 : Below W.heap.size W W1 := by rw [← hW1]; exact (Below.refl _ W).alloc (Nat.le_refl _) _
  have ho1 : W1.heap[W.heap.size]? = some (.cells (opA o) 32 (0, 0)) := by rw [← hW1]; exact World.alloc_heap_new W _
  have HSK := seekE o.t o.s o.q (h.el.later hb1) h.srt (by have := h.len; have := h.sz; omega)
  have HWY : Hid (∀ (w : World) (i : Nat) (th : Bool), Below W1.heap.size W1 w → i ≤ L.length → (th = true → i < L.length) → Calls Try.prog 40 #[.slice p L.length c, .slice pd L.length cd, .int .i64 (i : Int), .bool th] w fun e W' => e = .returned (.int .i64 (wayN t i th : Int)) ∧ Below w.heap.size w W') := fun w i th hbw h1 h2 => by
    have h3 := h.len
    rw [h3] at h1 h2 ⊢
    exact way_any w ((h.dp.later hb1).later hbw) h.sz h1 h2
  have HP : Hid (EL W1 qb g p c L ∧ DpW W1 pd t ∧ L.length = t.size ∧ t.size ≤ 8192) := ⟨h.el.later hb1, h.dp.later hb1, h.len, h.sz⟩
  unfold opA at *
  obtain ⟨y0, y1, y2, y3, y4, y5, y6⟩ := c7 ho1
  rw [← hW1] at y0 y1 y2 y3 y4 y5 y6
  have HW : Hid (W.alloc (.cells #[.int .i64 o.kd, .int .i64 o.wh, .int .u64 o.t, .int .i64 o.s, .int .u64 o.q, .int .i64 o.d, .int .i64 o.n] 32) = W1) := hW1
  have H0 : Hid (Below W.heap.size W W1 ∧ W1.heap[W.heap.size]? = some (.cells #[.int .i64 o.kd, .int .i64 o.wh, .int .u64 o.t, .int .i64 o.s, .int .u64 o.q, .int .i64 o.d, .int .i64 o.n] 32 (0, 0))) := ⟨hb1, ho1⟩
  have d1 : (o.kd == 1) = true := by simpa using hk
  clear hW1 hb1 ho1 h hk
  generalize hnL : L.length = n at HSK ⊢
  have HNL : Hid (L.length = n) := hnL
  rw [hnL] at HWY
  clear hnL
  go_enter Try.func13, Try.ntmps13
  go_wp2_with (go_at_call 28; rw [HW.out]; (with_reducible refine HSK.mono ?_); rintro e w2 ⟨i, th, rfl, hb2, hsk⟩; obtain ⟨z0, z1, z2, z3, z4, z5, z6⟩ := c7 ((hb2.block _ (lt_of_block H0.out.2)).trans H0.out.2); have HS : Hid (Below W1.heap.size W1 w2 ∧ SK L o.t o.s o.q i th) := ⟨hb2, hsk⟩; clear hb2 hsk y0 y1 y2 y3 y4 y5 y6)
  go_ret
  exact ⟨rfl, H0.out.1.trans (HS.out.1.mono H0.out.1.size)⟩
set_option maxRecDepth 100000 in
set_option maxHeartbeats 4000000 in
theorem paid_ins {qb g c cd : Nat} {p pd : Option Addr} {L : List Ev} {t : Tr} (o : OpV) (k : Nat) (W : World) (h : PIn W qb g p c pd L t) (hk : o.kd = 1) (hw : ∀ i th, SK L o.t o.s o.q i th → wayN t i th = k) : Calls Try.prog 13 #[.agg (opA o), .slice p L.length c, .slice pd L.length cd, .bool false, .int .i64 (k : Int)] W fun e W' => e = .returned (.bool true) ∧ Below W.heap.size W W' := by
  obtain ⟨W1, hW1⟩ : ∃ W1, W.alloc (.cells (opA o) 32) = W1 := ⟨_, rfl⟩
  have hb1 : Below W.heap.size W W1 := by rw [← hW1]; exact (Below.refl _ W).alloc (Nat.le_refl _) _
  have ho1 : W1.heap[W.heap.size]? = some (.cells (opA o) 32 (0, 0)) := by rw [← hW1]; exact World.alloc_heap_new W _
  have HSK := seekE o.t o.s o.q (h.el.later hb1) h.srt (by have := h.len; have := h.sz; omega)
  have HWY : Hid (∀ (w : World) (i : Nat) (th : Bool), Below W1.heap.size W1 w → i ≤ L.length → (th = true → i < L.length) → Calls Try.prog 40 #[.slice p L.length c, .slice pd L.length cd, .int .i64 (i : Int), .bool th] w fun e W' => e = .returned (.int .i64 (wayN t i th : Int)) ∧ Below w.heap.size w W') := fun w i th hbw h1 h2 => by
    have h3 := h.len
    rw [h3] at h1 h2 ⊢
    exact way_any w ((h.dp.later hb1).later hbw) h.sz h1 h2
  have HP : Hid (EL W1 qb g p c L ∧ DpW W1 pd t ∧ L.length = t.size ∧ t.size ≤ 8192) := ⟨h.el.later hb1, h.dp.later hb1, h.len, h.sz⟩
  unfold opA at *
  obtain ⟨y0, y1, y2, y3, y4, y5, y6⟩ := c7 ho1
  rw [← hW1] at y0 y1 y2 y3 y4 y5 y6
  have HW : Hid (W.alloc (.cells #[.int .i64 o.kd, .int .i64 o.wh, .int .u64 o.t, .int .i64 o.s, .int .u64 o.q, .int .i64 o.d, .int .i64 o.n] 32) = W1) := hW1
  have H0 : Hid (Below W.heap.size W W1 ∧ W1.heap[W.heap.size]? = some (.cells #[.int .i64 o.kd, .int .i64 o.wh, .int .u64 o.t, .int .i64 o.s, .int .u64 o.q, .int .i64 o.d, .int .i64 o.n] 32 (0, 0))) := ⟨hb1, ho1⟩
  have d1 : (o.kd == 1) = true := by simpa using hk
  have HK : Hid (∀ i th, SK L o.t o.s o.q i th → wayN t i th = k) := hw
  clear hw
  clear hW1 hb1 ho1 h hk
  generalize hnL : L.length = n at HSK ⊢
  have HNL : Hid (L.length = n) := hnL
  rw [hnL] at HWY
  clear hnL
  go_enter Try.func13, Try.ntmps13
  go_wp2_with (first | (go_at_call 28; rw [HW.out]; (with_reducible refine HSK.mono ?_); rintro e w2 ⟨i, th, rfl, hb2, hsk⟩; obtain ⟨z0, z1, z2, z3, z4, z5, z6⟩ := c7 ((hb2.block _ (lt_of_block H0.out.2)).trans H0.out.2); have HS : Hid (Below W1.heap.size W1 w2 ∧ SK L o.t o.s o.q i th) := ⟨hb2, hsk⟩; clear hb2 hsk y0 y1 y2 y3 y4 y5 y6; have HY := HWY.out w2 i th HS.out.1 (by have := HS.out.2.le; have := HNL.out; omega) (fun h9 => by have := (HS.out.2.at' h9).1; have := HNL.out; omega); rw [HK.out i th HS.out.2] at HY) | (go_at_call 40; (with_reducible refine HY.mono ?_); rintro e w3 ⟨rfl, hb3⟩))
  go_ret
  exact ⟨rfl, (H0.out.1.trans (HS.out.1.mono H0.out.1.size)).trans (hb3.mono (H0.out.1.trans (HS.out.1.mono H0.out.1.size)).size)⟩
set_option maxRecDepth 100000 in
set_option maxHeartbeats 4000000 in
theorem paid_min2 {qb g c cd : Nat} {p pd : Option Addr} {L : List Ev} {t : Tr} (o : OpV) (k : Nat) (full : Bool) (W : World) (h : PIn W qb g p c pd L t) (hn1 : o.kd ≠ 1) (hk : o.kd = 2) (h0 : L.length = 0 → k = 0) (h1 : 0 < L.length → dpN t 0 = k) : Calls Try.prog 13 #[.agg (opA o), .slice p L.length c, .slice pd L.length cd, .bool full, .int .i64 (k : Int)] W fun e W' => e = .returned (.bool true) ∧ Below W.heap.size W W' := by
  obtain ⟨W1, hW1⟩ : ∃ W1, W.alloc (.cells (opA o) 32) = W1 := ⟨_, rfl⟩
  have hb1 : Below W.heap.size W W1 := by rw [← hW1]; exact (Below.refl _ W).alloc (Nat.le_refl _) _
  have ho1 : W1.heap[W.heap.size]? = some (.cells (opA o) 32 (0, 0)) := by rw [← hW1]; exact World.alloc_heap_new W _
  have HSK := seekE o.t o.s o.q (h.el.later hb1) h.srt (by have := h.len; have := h.sz; omega)
  have HWY : Hid (∀ (w : World) (i : Nat) (th : Bool), Below W1.heap.size W1 w → i ≤ L.length → (th = true → i < L.length) → Calls Try.prog 40 #[.slice p L.length c, .slice pd L.length cd, .int .i64 (i : Int), .bool th] w fun e W' => e = .returned (.int .i64 (wayN t i th : Int)) ∧ Below w.heap.size w W') := fun w i th hbw h1 h2 => by
    have h3 := h.len
    rw [h3] at h1 h2 ⊢
    exact way_any w ((h.dp.later hb1).later hbw) h.sz h1 h2
  have HP : Hid (EL W1 qb g p c L ∧ DpW W1 pd t ∧ L.length = t.size ∧ t.size ≤ 8192) := ⟨h.el.later hb1, h.dp.later hb1, h.len, h.sz⟩
  unfold opA at *
  obtain ⟨y0, y1, y2, y3, y4, y5, y6⟩ := c7 ho1
  rw [← hW1] at y0 y1 y2 y3 y4 y5 y6
  have HW : Hid (W.alloc (.cells #[.int .i64 o.kd, .int .i64 o.wh, .int .u64 o.t, .int .i64 o.s, .int .u64 o.q, .int .i64 o.d, .int .i64 o.n] 32) = W1) := hW1
  have H0 : Hid (Below W.heap.size W W1 ∧ W1.heap[W.heap.size]? = some (.cells #[.int .i64 o.kd, .int .i64 o.wh, .int .u64 o.t, .int .i64 o.s, .int .u64 o.q, .int .i64 o.d, .int .i64 o.n] 32 (0, 0))) := ⟨hb1, ho1⟩
  have d1 : (o.kd == 1) = false := by simpa using hn1
  have d2 : (o.kd == 2) = true := by simpa using hk
  clear hW1 hb1 ho1 h hn1 hk
  by_cases hl0 : L.length = 0
  · have hk0 := h0 hl0
    subst hk0
    clear h0 h1 HWY
    rw [hl0] at HSK ⊢
    clear hl0
    go_enter Try.func13, Try.ntmps13
    go_wp2_with (go_at_call 28; rw [HW.out]; (with_reducible refine HSK.mono ?_); rintro e w2 ⟨i, th, rfl, hb2, hsk⟩; obtain ⟨z0, z1, z2, z3, z4, z5, z6⟩ := c7 ((hb2.block _ (lt_of_block H0.out.2)).trans H0.out.2); have HS : Hid (Below W1.heap.size W1 w2 ∧ SK L o.t o.s o.q i th) := ⟨hb2, hsk⟩; clear hb2 hsk y0 y1 y2 y3 y4 y5 y6)
    go_ret
    exact ⟨rfl, H0.out.1.trans (HS.out.1.mono H0.out.1.size)⟩
  have hd1 := h1 (by omega)
  have HL0 : Hid (0 < L.length) := by show 0 < L.length; omega
  have hd9 := HP.out.2.1
  obtain ⟨b, rfl, hbl, hcl⟩ := hd9.resolve_left (by have := HP.out.2.2.1; omega)
  have x0 := hcl 0 (by have := HP.out.2.2.1; omega)
  rw [hd1] at x0
  have HX : Hid (b < W1.heap.size ∧ W1.cell? ⟨b, 0, none⟩ = some (.int .i64 (k : Int))) := ⟨hbl, x0⟩
  clear h0 h1 hl0 hd1 hd9 hbl hcl x0
  generalize hnL : L.length = n at HSK ⊢
  have HNL : Hid (L.length = n) := hnL
  rw [hnL] at HWY
  have hn0 : (n == 0) = false := by have := HL0.out; have := HNL.out; simp; omega
  have hn1 : decide ((0 : Int) < (n : Int)) = true := by have := HL0.out; have := HNL.out; simp; omega
  have hn2 : decide (0 < n) = true := by have := HL0.out; have := HNL.out; simp; omega
  have hn3 : decide ((n : Int) = 0) = false := by have := HL0.out; have := HNL.out; simp; omega
  have hn5 : decide (n = 0) = false := by have := HL0.out; have := HNL.out; simp; omega
  have hn4 : (0 : Int) < (n : Int) := by have := HL0.out; have := HNL.out; omega
  clear hnL
  go_enter Try.func13, Try.ntmps13
  go_wp2_with (go_at_call 28; rw [HW.out]; (with_reducible refine HSK.mono ?_); rintro e w2 ⟨i, th, rfl, hb2, hsk⟩; obtain ⟨z0, z1, z2, z3, z4, z5, z6⟩ := c7 ((hb2.block _ (lt_of_block H0.out.2)).trans H0.out.2); have HS : Hid (Below W1.heap.size W1 w2 ∧ SK L o.t o.s o.q i th) := ⟨hb2, hsk⟩; clear hb2 hsk y0 y1 y2 y3 y4 y5 y6; have v0 := (cell_below (a := ⟨b, 0, none⟩) HS.out.1 HX.out.1).trans HX.out.2)
  go_ret
  exact ⟨rfl, H0.out.1.trans (HS.out.1.mono H0.out.1.size)⟩
set_option maxRecDepth 100000 in
set_option maxHeartbeats 4000000 in
theorem paid_min3 {qb g c cd : Nat} {p pd : Option Addr} {L : List Ev} {t : Tr} (o : OpV) (k : Nat) (full : Bool) (W : World) (h : PIn W qb g p c pd L t) (hn1 : o.kd ≠ 1) (hn2 : o.kd ≠ 2) (hk : o.kd = 3) (h0 : L.length = 0 → k = 0) (h1 : 0 < L.length → dpN t 0 = k) : Calls Try.prog 13 #[.agg (opA o), .slice p L.length c, .slice pd L.length cd, .bool full, .int .i64 (k : Int)] W fun e W' => e = .returned (.bool true) ∧ Below W.heap.size W W' := by
  obtain ⟨W1, hW1⟩ : ∃ W1, W.alloc (.cells (opA o) 32) = W1 := ⟨_, rfl⟩
  have hb1 : Below W.heap.size W W1 := by rw [← hW1]; exact (Below.refl _ W).alloc (Nat.le_refl _) _
  have ho1 : W1.heap[W.heap.size]? = some (.cells (opA o) 32 (0, 0)) := by rw [← hW1]; exact World.alloc_heap_new W _
  have HSK := seekE o.t o.s o.q (h.el.later hb1) h.srt (by have := h.len; have := h.sz; omega)
  have HWY : Hid (∀ (w : World) (i : Nat) (th : Bool), Below W1.heap.size W1 w → i ≤ L.length → (th = true → i < L.length) → Calls Try.prog 40 #[.slice p L.length c, .slice pd L.length cd, .int .i64 (i : Int), .bool th] w fun e W' => e = .returned (.int .i64 (wayN t i th : Int)) ∧ Below w.heap.size w W') := fun w i th hbw h1 h2 => by
    have h3 := h.len
    rw [h3] at h1 h2 ⊢
    exact way_any w ((h.dp.later hb1).later hbw) h.sz h1 h2
  have HP : Hid (EL W1 qb g p c L ∧ DpW W1 pd t ∧ L.length = t.size ∧ t.size ≤ 8192) := ⟨h.el.later hb1, h.dp.later hb1, h.len, h.sz⟩
  unfold opA at *
  obtain ⟨y0, y1, y2, y3, y4, y5, y6⟩ := c7 ho1
  rw [← hW1] at y0 y1 y2 y3 y4 y5 y6
  have HW : Hid (W.alloc (.cells #[.int .i64 o.kd, .int .i64 o.wh, .int .u64 o.t, .int .i64 o.s, .int .u64 o.q, .int .i64 o.d, .int .i64 o.n] 32) = W1) := hW1
  have H0 : Hid (Below W.heap.size W W1 ∧ W1.heap[W.heap.size]? = some (.cells #[.int .i64 o.kd, .int .i64 o.wh, .int .u64 o.t, .int .i64 o.s, .int .u64 o.q, .int .i64 o.d, .int .i64 o.n] 32 (0, 0))) := ⟨hb1, ho1⟩
  have d1 : (o.kd == 1) = false := by simpa using hn1
  have d2 : (o.kd == 2) = false := by simpa using hn2
  have d3 : (o.kd == 3) = true := by simpa using hk
  clear hW1 hb1 ho1 h hn1 hn2 hk
  by_cases hl0 : L.length = 0
  · have hk0 := h0 hl0
    subst hk0
    clear h0 h1 HWY
    rw [hl0] at HSK ⊢
    clear hl0
    go_enter Try.func13, Try.ntmps13
    go_wp2_with (go_at_call 28; rw [HW.out]; (with_reducible refine HSK.mono ?_); rintro e w2 ⟨i, th, rfl, hb2, hsk⟩; obtain ⟨z0, z1, z2, z3, z4, z5, z6⟩ := c7 ((hb2.block _ (lt_of_block H0.out.2)).trans H0.out.2); have HS : Hid (Below W1.heap.size W1 w2 ∧ SK L o.t o.s o.q i th) := ⟨hb2, hsk⟩; clear hb2 hsk y0 y1 y2 y3 y4 y5 y6)
    go_ret
    exact ⟨rfl, H0.out.1.trans (HS.out.1.mono H0.out.1.size)⟩
  have hd1 := h1 (by omega)
  have HL0 : Hid (0 < L.length) := by show 0 < L.length; omega
  have hd9 := HP.out.2.1
  obtain ⟨b, rfl, hbl, hcl⟩ := hd9.resolve_left (by have := HP.out.2.2.1; omega)
  have x0 := hcl 0 (by have := HP.out.2.2.1; omega)
  rw [hd1] at x0
  have HX : Hid (b < W1.heap.size ∧ W1.cell? ⟨b, 0, none⟩ = some (.int .i64 (k : Int))) := ⟨hbl, x0⟩
  clear h0 h1 hl0 hd1 hd9 hbl hcl x0
  generalize hnL : L.length = n at HSK ⊢
  have HNL : Hid (L.length = n) := hnL
  rw [hnL] at HWY
  have hn0 : (n == 0) = false := by have := HL0.out; have := HNL.out; simp; omega
  have hn1 : decide ((0 : Int) < (n : Int)) = true := by have := HL0.out; have := HNL.out; simp; omega
  have hn2 : decide (0 < n) = true := by have := HL0.out; have := HNL.out; simp; omega
  have hn3 : decide ((n : Int) = 0) = false := by have := HL0.out; have := HNL.out; simp; omega
  have hn5 : decide (n = 0) = false := by have := HL0.out; have := HNL.out; simp; omega
  have hn4 : (0 : Int) < (n : Int) := by have := HL0.out; have := HNL.out; omega
  clear hnL
  go_enter Try.func13, Try.ntmps13
  go_wp2_with (go_at_call 28; rw [HW.out]; (with_reducible refine HSK.mono ?_); rintro e w2 ⟨i, th, rfl, hb2, hsk⟩; obtain ⟨z0, z1, z2, z3, z4, z5, z6⟩ := c7 ((hb2.block _ (lt_of_block H0.out.2)).trans H0.out.2); have HS : Hid (Below W1.heap.size W1 w2 ∧ SK L o.t o.s o.q i th) := ⟨hb2, hsk⟩; clear hb2 hsk y0 y1 y2 y3 y4 y5 y6; have v0 := (cell_below (a := ⟨b, 0, none⟩) HS.out.1 HX.out.1).trans HX.out.2)
  go_ret
  exact ⟨rfl, H0.out.1.trans (HS.out.1.mono H0.out.1.size)⟩
set_option maxRecDepth 100000 in
set_option maxHeartbeats 4000000 in
theorem paid_find {qb g c cd : Nat} {p pd : Option Addr} {L : List Ev} {t : Tr} (o : OpV) (k : Nat) (full : Bool) (W : World) (h : PIn W qb g p c pd L t) (hn1 : o.kd ≠ 1) (hn2 : o.kd ≠ 2) (hn3 : o.kd ≠ 3) (hk : o.kd = 4) (hw : ∀ i, SK L o.t o.s o.q i true → dpN t i = k) (hv : ∀ i, SK L o.t o.s o.q i false → wayN t i false ≤ k) : Calls Try.prog 13 #[.agg (opA o), .slice p L.length c, .slice pd L.length cd, .bool full, .int .i64 (k : Int)] W fun e W' => e = .returned (.bool true) ∧ Below W.heap.size W W' := by
  obtain ⟨W1, hW1⟩ : ∃ W1, W.alloc (.cells (opA o) 32) = W1 := ⟨_, rfl⟩
  have hb1 : Below W.heap.size W W1 := by rw [← hW1]; exact (Below.refl _ W).alloc (Nat.le_refl _) _
  have ho1 : W1.heap[W.heap.size]? = some (.cells (opA o) 32 (0, 0)) := by rw [← hW1]; exact World.alloc_heap_new W _
  have HSK := seekE o.t o.s o.q (h.el.later hb1) h.srt (by have := h.len; have := h.sz; omega)
  have HWY : Hid (∀ (w : World) (i : Nat) (th : Bool), Below W1.heap.size W1 w → i ≤ L.length → (th = true → i < L.length) → Calls Try.prog 40 #[.slice p L.length c, .slice pd L.length cd, .int .i64 (i : Int), .bool th] w fun e W' => e = .returned (.int .i64 (wayN t i th : Int)) ∧ Below w.heap.size w W') := fun w i th hbw h1 h2 => by
    have h3 := h.len
    rw [h3] at h1 h2 ⊢
    exact way_any w ((h.dp.later hb1).later hbw) h.sz h1 h2
  have HP : Hid (EL W1 qb g p c L ∧ DpW W1 pd t ∧ L.length = t.size ∧ t.size ≤ 8192) := ⟨h.el.later hb1, h.dp.later hb1, h.len, h.sz⟩
  unfold opA at *
  obtain ⟨y0, y1, y2, y3, y4, y5, y6⟩ := c7 ho1
  rw [← hW1] at y0 y1 y2 y3 y4 y5 y6
  have HW : Hid (W.alloc (.cells #[.int .i64 o.kd, .int .i64 o.wh, .int .u64 o.t, .int .i64 o.s, .int .u64 o.q, .int .i64 o.d, .int .i64 o.n] 32) = W1) := hW1
  have H0 : Hid (Below W.heap.size W W1 ∧ W1.heap[W.heap.size]? = some (.cells #[.int .i64 o.kd, .int .i64 o.wh, .int .u64 o.t, .int .i64 o.s, .int .u64 o.q, .int .i64 o.d, .int .i64 o.n] 32 (0, 0))) := ⟨hb1, ho1⟩
  have d1 : (o.kd == 1) = false := by simpa using hn1
  have d2 : (o.kd == 2) = false := by simpa using hn2
  have d3 : (o.kd == 3) = false := by simpa using hn3
  have d4 : (o.kd == 4) = true := by simpa using hk
  have HK : Hid ((∀ i, SK L o.t o.s o.q i true → dpN t i = k) ∧ (∀ i, SK L o.t o.s o.q i false → wayN t i false ≤ k)) := ⟨hw, hv⟩
  clear hw hv
  clear hW1 hb1 ho1 h hn1 hn2 hn3 hk
  generalize hnL : L.length = n at HSK ⊢
  have HNL : Hid (L.length = n) := hnL
  rw [hnL] at HWY
  clear hnL
  go_enter Try.func13, Try.ntmps13
  go_upto_region 11 with (go_at_call 28; rw [HW.out]; (with_reducible refine HSK.mono ?_); rintro e w2 ⟨i, th, rfl, hb2, hsk⟩; obtain ⟨z0, z1, z2, z3, z4, z5, z6⟩ := c7 ((hb2.block _ (lt_of_block H0.out.2)).trans H0.out.2); have HS : Hid (Below W1.heap.size W1 w2 ∧ SK L o.t o.s o.q i th) := ⟨hb2, hsk⟩; clear hb2 hsk y0 y1 y2 y3 y4 y5 y6)
  cases th with
  | true =>
    obtain ⟨hi, _⟩ := HS.out.2.at' rfl
    have hi2 := hi
    rw [HP.out.2.2.1] at hi2
    obtain ⟨b, rfl, hbl, hcl⟩ := HP.out.2.1.resolve_left (by omega)
    have x0 := (cell_below (a := ⟨b, i, none⟩) HS.out.1 hbl).trans (hcl i hi2)
    rw [HK.out.1 i HS.out.2] at x0
    have i0 : (0 : Int) ≤ (i : Int) := by omega
    have i1 : (i : Int) < (n : Int) := by have := HNL.out; omega
    clear hi hi2 hbl hcl
    go_wp2_with fail
    go_ret
    exact ⟨rfl, H0.out.1.trans (HS.out.1.mono H0.out.1.size)⟩
  | false =>
    have HY := HWY.out w2 i false HS.out.1 (by have := HS.out.2.le; have := HNL.out; omega) (fun h9 => by cases h9)
    have hle := HK.out.2 i HS.out.2
    generalize wayN t i false = u at *
    have du : decide ((u : Int) ≤ (k : Int)) = true := by simp; omega
    have du2 : decide (u ≤ k) = true := by simp; omega
    clear hle
    go_wp2_with (go_at_call 40; (with_reducible refine HY.mono ?_); rintro e w3 ⟨rfl, hb3⟩)
    go_ret
    exact ⟨rfl, (H0.out.1.trans (HS.out.1.mono H0.out.1.size)).trans (hb3.mono (H0.out.1.trans (HS.out.1.mono H0.out.1.size)).size)⟩
set_option maxRecDepth 100000 in
set_option maxHeartbeats 4000000 in
theorem paid_rem {qb g c cd : Nat} {p pd : Option Addr} {L : List Ev} {t : Tr} (o : OpV) (k : Nat) (full : Bool) (W : World) (h : PIn W qb g p c pd L t) (hn1 : o.kd ≠ 1) (hn2 : o.kd ≠ 2) (hn3 : o.kd ≠ 3) (hn4 : o.kd ≠ 4) (hk : o.kd = 5) (hw : ∀ i th, SK L o.t o.s o.q i th → wayN t i th ≤ k) : Calls Try.prog 13 #[.agg (opA o), .slice p L.length c, .slice pd L.length cd, .bool full, .int .i64 (k : Int)] W fun e W' => e = .returned (.bool true) ∧ Below W.heap.size W W' := by
  obtain ⟨W1, hW1⟩ : ∃ W1, W.alloc (.cells (opA o) 32) = W1 := ⟨_, rfl⟩
  have hb1 : Below W.heap.size W W1 := by rw [← hW1]; exact (Below.refl _ W).alloc (Nat.le_refl _) _
  have ho1 : W1.heap[W.heap.size]? = some (.cells (opA o) 32 (0, 0)) := by rw [← hW1]; exact World.alloc_heap_new W _
  have HSK := seekE o.t o.s o.q (h.el.later hb1) h.srt (by have := h.len; have := h.sz; omega)
  have HWY : Hid (∀ (w : World) (i : Nat) (th : Bool), Below W1.heap.size W1 w → i ≤ L.length → (th = true → i < L.length) → Calls Try.prog 40 #[.slice p L.length c, .slice pd L.length cd, .int .i64 (i : Int), .bool th] w fun e W' => e = .returned (.int .i64 (wayN t i th : Int)) ∧ Below w.heap.size w W') := fun w i th hbw h1 h2 => by
    have h3 := h.len
    rw [h3] at h1 h2 ⊢
    exact way_any w ((h.dp.later hb1).later hbw) h.sz h1 h2
  have HP : Hid (EL W1 qb g p c L ∧ DpW W1 pd t ∧ L.length = t.size ∧ t.size ≤ 8192) := ⟨h.el.later hb1, h.dp.later hb1, h.len, h.sz⟩
  unfold opA at *
  obtain ⟨y0, y1, y2, y3, y4, y5, y6⟩ := c7 ho1
  rw [← hW1] at y0 y1 y2 y3 y4 y5 y6
  have HW : Hid (W.alloc (.cells #[.int .i64 o.kd, .int .i64 o.wh, .int .u64 o.t, .int .i64 o.s, .int .u64 o.q, .int .i64 o.d, .int .i64 o.n] 32) = W1) := hW1
  have H0 : Hid (Below W.heap.size W W1 ∧ W1.heap[W.heap.size]? = some (.cells #[.int .i64 o.kd, .int .i64 o.wh, .int .u64 o.t, .int .i64 o.s, .int .u64 o.q, .int .i64 o.d, .int .i64 o.n] 32 (0, 0))) := ⟨hb1, ho1⟩
  have d1 : (o.kd == 1) = false := by simpa using hn1
  have d2 : (o.kd == 2) = false := by simpa using hn2
  have d3 : (o.kd == 3) = false := by simpa using hn3
  have d4 : (o.kd == 4) = false := by simpa using hn4
  have d5 : (o.kd == 5) = true := by simpa using hk
  have HK : Hid (∀ i th, SK L o.t o.s o.q i th → wayN t i th ≤ k) := hw
  clear hw
  clear hW1 hb1 ho1 h hn1 hn2 hn3 hn4 hk
  generalize hnL : L.length = n at HSK ⊢
  have HNL : Hid (L.length = n) := hnL
  rw [hnL] at HWY
  clear hnL
  go_enter Try.func13, Try.ntmps13
  go_upto_region 14 with (go_at_call 28; rw [HW.out]; (with_reducible refine HSK.mono ?_); rintro e w2 ⟨i, th, rfl, hb2, hsk⟩; obtain ⟨z0, z1, z2, z3, z4, z5, z6⟩ := c7 ((hb2.block _ (lt_of_block H0.out.2)).trans H0.out.2); have HS : Hid (Below W1.heap.size W1 w2 ∧ SK L o.t o.s o.q i th) := ⟨hb2, hsk⟩; clear hb2 hsk y0 y1 y2 y3 y4 y5 y6)
  have HY := HWY.out w2 i th HS.out.1 (by have := HS.out.2.le; have := HNL.out; omega) (fun h9 => by have := (HS.out.2.at' h9).1; have := HNL.out; omega)
  have hle := HK.out i th HS.out.2
  generalize wayN t i th = u at *
  have du : decide ((u : Int) ≤ (k : Int)) = true := by simp; omega
  have du2 : decide (u ≤ k) = true := by simp; omega
  clear hle
  go_wp2_with (go_at_call 40; (with_reducible refine HY.mono ?_); rintro e w3 ⟨rfl, hb3⟩)
  go_ret
  exact ⟨rfl, (H0.out.1.trans (HS.out.1.mono H0.out.1.size)).trans (hb3.mono (H0.out.1.trans (HS.out.1.mono H0.out.1.size)).size)⟩
set_option maxRecDepth 100000 in
set_option maxHeartbeats 4000000 in
theorem paid_split {qb g c cd : Nat} {p pd : Option Addr} {L : List Ev} {t : Tr} (o : OpV) (k : Nat) (full : Bool) (W : World) (h : PIn W qb g p c pd L t) (hn1 : o.kd ≠ 1) (hn2 : o.kd ≠ 2) (hn3 : o.kd ≠ 3) (hn4 : o.kd ≠ 4) (hn5 : o.kd ≠ 5) (hk : o.kd = 6) (hw : ∀ i, i ≤ L.length → (∀ j, j < i → (lX L j).t < o.t) → (i < L.length → ¬ (lX L i).t < o.t) → wayN t i false = k) : Calls Try.prog 13 #[.agg (opA o), .slice p L.length c, .slice pd L.length cd, .bool full, .int .i64 (k : Int)] W fun e W' => e = .returned (.bool true) ∧ Below W.heap.size W W' := by
  obtain ⟨W1, hW1⟩ : ∃ W1, W.alloc (.cells (opA o) 32) = W1 := ⟨_, rfl⟩
  have hb1 : Below W.heap.size W W1 := by rw [← hW1]; exact (Below.refl _ W).alloc (Nat.le_refl _) _
  have ho1 : W1.heap[W.heap.size]? = some (.cells (opA o) 32 (0, 0)) := by rw [← hW1]; exact World.alloc_heap_new W _
  have HSK := seekE o.t o.s o.q (h.el.later hb1) h.srt (by have := h.len; have := h.sz; omega)
  have HWY : Hid (∀ (w : World) (i : Nat) (th : Bool), Below W1.heap.size W1 w → i ≤ L.length → (th = true → i < L.length) → Calls Try.prog 40 #[.slice p L.length c, .slice pd L.length cd, .int .i64 (i : Int), .bool th] w fun e W' => e = .returned (.int .i64 (wayN t i th : Int)) ∧ Below w.heap.size w W') := fun w i th hbw h1 h2 => by
    have h3 := h.len
    rw [h3] at h1 h2 ⊢
    exact way_any w ((h.dp.later hb1).later hbw) h.sz h1 h2
  have HP : Hid (EL W1 qb g p c L ∧ DpW W1 pd t ∧ L.length = t.size ∧ t.size ≤ 8192) := ⟨h.el.later hb1, h.dp.later hb1, h.len, h.sz⟩
  unfold opA at *
  obtain ⟨y0, y1, y2, y3, y4, y5, y6⟩ := c7 ho1
  rw [← hW1] at y0 y1 y2 y3 y4 y5 y6
  have HW : Hid (W.alloc (.cells #[.int .i64 o.kd, .int .i64 o.wh, .int .u64 o.t, .int .i64 o.s, .int .u64 o.q, .int .i64 o.d, .int .i64 o.n] 32) = W1) := hW1
  have H0 : Hid (Below W.heap.size W W1 ∧ W1.heap[W.heap.size]? = some (.cells #[.int .i64 o.kd, .int .i64 o.wh, .int .u64 o.t, .int .i64 o.s, .int .u64 o.q, .int .i64 o.d, .int .i64 o.n] 32 (0, 0))) := ⟨hb1, ho1⟩
  have d1 : (o.kd == 1) = false := by simpa using hn1
  have d2 : (o.kd == 2) = false := by simpa using hn2
  have d3 : (o.kd == 3) = false := by simpa using hn3
  have d4 : (o.kd == 4) = false := by simpa using hn4
  have d5 : (o.kd == 5) = false := by simpa using hn5
  have d6 : (o.kd == 6) = true := by simpa using hk
  have HK : Hid (∀ i, i ≤ L.length → (∀ j, j < i → (lX L j).t < o.t) → (i < L.length → ¬ (lX L i).t < o.t) → wayN t i false = k) := hw
  clear hw
  clear hW1 hb1 ho1 h hn1 hn2 hn3 hn4 hn5 hk
  generalize hnL : L.length = n at HSK ⊢
  have HNL : Hid (L.length = n) := hnL
  rw [hnL] at HWY
  clear hnL
  go_enter Try.func13, Try.ntmps13
  go_wp2_with (go_at_call 28; rw [HW.out]; (with_reducible refine HSK.mono ?_); rintro e w2 ⟨i, th, rfl, hb2, hsk⟩; obtain ⟨z0, z1, z2, z3, z4, z5, z6⟩ := c7 ((hb2.block _ (lt_of_block H0.out.2)).trans H0.out.2); have HS : Hid (Below W1.heap.size W1 w2 ∧ SK L o.t o.s o.q i th) := ⟨hb2, hsk⟩; clear hb2 hsk y0 y1 y2 y3 y4 y5 y6)
  go_loopw [13] (fun x wr => ∃ i2 : Nat, x = .int .i64 (i2 : Int) ∧ i2 ≤ n ∧ (∀ j, j < i2 → (lX L j).t < o.t) ∧ Below w2.heap.size w2 wr) (fun x _ => n - (intOf x).toNat)
  case atStart => exact ⟨0, rfl, Nat.zero_le _, fun j hj => absurd hj (Nat.not_lt_zero _), Below.refl _ _⟩
  case round =>
    obtain ⟨i2, rfl, hkn, hlo, hbr⟩ := hrel
    have hor : wr.heap[W.heap.size]? = some (.cells #[.int .i64 o.kd, .int .i64 o.wh, .int .u64 o.t, .int .i64 o.s, .int .u64 o.q, .int .i64 o.d, .int .i64 o.n] 32 (0, 0)) := by
      have h6 := lt_of_block H0.out.2
      have h5 := HS.out.1.size
      exact (hbr.block _ (by omega)).trans ((HS.out.1.block _ h6).trans H0.out.2)
    obtain ⟨v0, v1, v2, v3, v4, v5, v6⟩ := c7 hor
    have HB : Hid (Below w2.heap.size w2 wr) := hbr
    have HLO : Hid (∀ j, j < i2 → (lX L j).t < o.t) := hlo
    by_cases hlt : i2 < n
    · have dl : decide ((i2 : Int) < (n : Int)) = true := by simp; omega
      have dl2 : decide (i2 < n) = true := by simp; omega
      have i0 : (0 : Int) ≤ (i2 : Int) := by omega
      have i1 : (i2 : Int) < (n : Int) := by omega
      obtain ⟨b0, o9, hp, x0⟩ : ∃ b0 o9, p = some ⟨b0, o9, none⟩ ∧ wr.cell? ⟨b0, o9 + i2 * 6, none⟩ = some (.int .u64 (lX L i2).t) := by
        rcases (HP.out.1.later HS.out.1).later hbr with ⟨_, _, r1⟩ | ⟨b9, o8, r1, r2, _⟩
        · have := HNL.out; rw [r1] at this; simp at this; omega
        · exact ⟨b9, o8, r1, r2.2 i2 0 (by have := HNL.out; omega) (by decide)⟩
      subst hp
      have ek : IntKind.i64.wrap ((i2 : Int) + 1) = (i2 : Int) + 1 := by have h8 := HP.out.2.2; have := HNL.out; rw [IntKind.wrap_i64]; omega
      have hm := meas0 hlt
      clear hor hbr hlo
      by_cases htu : (lX L i2).t < o.t
      · have du : decide ((lX L i2).t < o.t) = true := by simpa using htu
        go_wp2_with fail
        go_quiet (fail)
        go_wp2_with fail
        refine ⟨⟨i2 + 1, rfl, hlt, fun j hj => ?_, HB.out.trans (below_drewNq _ _ _)⟩, hm⟩
        by_cases hj2 : j < i2
        · exact HLO.out j hj2
        · obtain rfl : j = i2 := by omega
          exact htu
      · have du : decide ((lX L i2).t < o.t) = false := by simpa using htu
        have HHI : Hid (i2 < L.length → ¬ (lX L i2).t < o.t) := fun _ => htu
        clear htu hm
        go_wp2_with fail
        go_quiet (fail)
        generalize hw5 : World.drewN wr _ = w5
        have hb5 : Below w2.heap.size w2 w5 := by rw [← hw5]; exact HB.out.trans (below_drewNq _ _ _)
        clear hw5
        have HY := HWY.out w5 i2 false (HS.out.1.trans (hb5.mono HS.out.1.size)) (by have := HNL.out; omega) (fun h9 => by cases h9)
        rw [HK.out i2 (by have := HNL.out; omega) HLO.out HHI.out] at HY
        have HB5 : Hid (Below w2.heap.size w2 w5) := hb5
        clear hb5
        go_wp2_with (go_at_call 40; (with_reducible refine HY.mono ?_); rintro e w3 ⟨rfl, hb3⟩)
        go_ret
        have B9 := (H0.out.1.trans (HS.out.1.mono H0.out.1.size)).trans (HB5.out.mono (H0.out.1.trans (HS.out.1.mono H0.out.1.size)).size)
        exact ⟨rfl, B9.trans (hb3.mono B9.size)⟩
    · have dl : decide ((i2 : Int) < (n : Int)) = false := by simp; omega
      have dl2 : decide (i2 < n) = false := by simp; omega
      have HHI : Hid (i2 < L.length → ¬ (lX L i2).t < o.t) := fun h9 => by have := HNL.out; omega
      clear hor hbr hlo
      go_wp2_with fail
      go_quiet (fail)
      generalize hw5 : World.drewN wr _ = w5
      have hb5 : Below w2.heap.size w2 w5 := by rw [← hw5]; exact HB.out.trans (below_drewNq _ _ _)
      clear hw5
      have HY := HWY.out w5 i2 false (HS.out.1.trans (hb5.mono HS.out.1.size)) (by have := HNL.out; omega) (fun h9 => by cases h9)
      rw [HK.out i2 (by have := HNL.out; omega) HLO.out HHI.out] at HY
      have HB5 : Hid (Below w2.heap.size w2 w5) := hb5
      clear hb5
      go_wp2_with (go_at_call 40; (with_reducible refine HY.mono ?_); rintro e w3 ⟨rfl, hb3⟩)
      go_ret
      have B9 := (H0.out.1.trans (HS.out.1.mono H0.out.1.size)).trans (HB5.out.mono (H0.out.1.trans (HS.out.1.mono H0.out.1.size)).size)
      exact ⟨rfl, B9.trans (hb3.mono B9.size)⟩
set_option maxRecDepth 100000 in
set_option maxHeartbeats 4000000 in
theorem paid_else {qb g c cd : Nat} {p pd : Option Addr} {L : List Ev} {t : Tr} (o : OpV) (k : Nat) (full : Bool) (W : World) (h : PIn W qb g p c pd L t) (hn1 : o.kd ≠ 1) (hn2 : o.kd ≠ 2) (hn3 : o.kd ≠ 3) (hn4 : o.kd ≠ 4) (hn5 : o.kd ≠ 5) (hn6 : o.kd ≠ 6) : Calls Try.prog 13 #[.agg (opA o), .slice p L.length c, .slice pd L.length cd, .bool full, .int .i64 0] W fun e W' => e = .returned (.bool true) ∧ Below W.heap.size W W' := by
  obtain ⟨W1, hW1⟩ : ∃ W1, W.alloc (.cells (opA o) 32) = W1 := ⟨_, rfl⟩
  have hb1 : Below W.heap.size W W1 := by rw [← hW1]; exact (Below.refl _ W).alloc (Nat.le_refl _) _
  have ho1 : W1.heap[W.heap.size]? = some (.cells (opA o) 32 (0, 0)) := by rw [← hW1]; exact World.alloc_heap_new W _
  have HSK := seekE o.t o.s o.q (h.el.later hb1) h.srt (by have := h.len; have := h.sz; omega)
  have HWY : Hid (∀ (w : World) (i : Nat) (th : Bool), Below W1.heap.size W1 w → i ≤ L.length → (th = true → i < L.length) → Calls Try.prog 40 #[.slice p L.length c, .slice pd L.length cd, .int .i64 (i : Int), .bool th] w fun e W' => e = .returned (.int .i64 (wayN t i th : Int)) ∧ Below w.heap.size w W') := fun w i th hbw h1 h2 => by
    have h3 := h.len
    rw [h3] at h1 h2 ⊢
    exact way_any w ((h.dp.later hb1).later hbw) h.sz h1 h2
  have HP : Hid (EL W1 qb g p c L ∧ DpW W1 pd t ∧ L.length = t.size ∧ t.size ≤ 8192) := ⟨h.el.later hb1, h.dp.later hb1, h.len, h.sz⟩
  unfold opA at *
  obtain ⟨y0, y1, y2, y3, y4, y5, y6⟩ := c7 ho1
  rw [← hW1] at y0 y1 y2 y3 y4 y5 y6
  have HW : Hid (W.alloc (.cells #[.int .i64 o.kd, .int .i64 o.wh, .int .u64 o.t, .int .i64 o.s, .int .u64 o.q, .int .i64 o.d, .int .i64 o.n] 32) = W1) := hW1
  have H0 : Hid (Below W.heap.size W W1 ∧ W1.heap[W.heap.size]? = some (.cells #[.int .i64 o.kd, .int .i64 o.wh, .int .u64 o.t, .int .i64 o.s, .int .u64 o.q, .int .i64 o.d, .int .i64 o.n] 32 (0, 0))) := ⟨hb1, ho1⟩
  have d1 : (o.kd == 1) = false := by simpa using hn1
  have d2 : (o.kd == 2) = false := by simpa using hn2
  have d3 : (o.kd == 3) = false := by simpa using hn3
  have d4 : (o.kd == 4) = false := by simpa using hn4
  have d5 : (o.kd == 5) = false := by simpa using hn5
  have d6 : (o.kd == 6) = false := by simpa using hn6
  clear hW1 hb1 ho1 h hn1 hn2 hn3 hn4 hn5 hn6
  generalize hnL : L.length = n at HSK ⊢
  have HNL : Hid (L.length = n) := hnL
  rw [hnL] at HWY
  clear hnL
  go_enter Try.func13, Try.ntmps13
  go_wp2_with (go_at_call 28; rw [HW.out]; (with_reducible refine HSK.mono ?_); rintro e w2 ⟨i, th, rfl, hb2, hsk⟩; obtain ⟨z0, z1, z2, z3, z4, z5, z6⟩ := c7 ((hb2.block _ (lt_of_block H0.out.2)).trans H0.out.2); have HS : Hid (Below W1.heap.size W1 w2 ∧ SK L o.t o.s o.q i th) := ⟨hb2, hsk⟩; clear hb2 hsk y0 y1 y2 y3 y4 y5 y6)
  go_ret
  exact ⟨rfl, H0.out.1.trans (HS.out.1.mono H0.out.1.size)⟩
end Go.Proofs.Ytlklolmhaiaaiaa
