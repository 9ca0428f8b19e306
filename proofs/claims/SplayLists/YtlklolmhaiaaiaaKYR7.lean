import Derived.Test.YtlklolmhaiaaiaaKYR6
namespace Go.Proofs.Ytlklolmhaiaaiaa
open Go.ChangeShapes Go.WideShapes Go.ChangeAt Go.RowKit
set_option linter.unusedVariables false
set_option linter.unusedSimpArgs false

set_option maxRecDepth 100000 in
set_option maxHeartbeats 16000000 in
theorem rfind_no (qr : Nat) (E : Nat → Ev) (t : Tr) (most sum : Int) (kt ks kq : Int) (W : World) (h : RQ W qr E t most sum) (hs : Srt E t) (hn : t.size ≤ 8192) (hne : ∀ x ∈ t.ps, x ≠ 0) (hsum : 0 ≤ sum ∧ sum ≤ 4611686018427387904) (hm : (openT (sdK kt ks kq E) t).m = 0) :
    Calls Try.prog 64 #[.pointer (some ⟨qr, 0, none⟩), .agg #[.int .u64 kt, .int .i64 ks, .int .u64 kq]] W fun e' W' => e' = .returned (.tuple #[evV ev0, .int .i64 83]) ∧ RQ W' qr E (joinT (openT (sdK kt ks kq E) t).a (openT (sdK kt ks kq E) t).b) most (sum + (openT (sdK kt ks kq E) t).k + joinK (openT (sdK kt ks kq E) t).a (openT (sdK kt ks kq E) t).b) ∧ Ch (S1 qr) W W' := by
  obtain ⟨p0, hq, hT⟩ := h
  obtain ⟨W1, hW1⟩ : ∃ W1, (W.alloc (.cells #[.int .u64 kt, .int .i64 ks, .int .u64 kq] 30)).alloc (.cells #[.int .u64 0, .int .i64 0, .int .u64 0, .int .i64 0, .int .i64 0, .int .i64 0] 64) = W1 := ⟨_, rfl⟩
  have HW : Hid ((W.alloc (.cells #[.int .u64 kt, .int .i64 ks, .int .u64 kq] 30)).alloc (.cells #[.int .u64 0, .int .i64 0, .int .u64 0, .int .i64 0, .int .i64 0, .int .i64 0] 64) = W1) := hW1
  obtain ⟨hk1, he1, hb1⟩ := two_alloc _ _ _ _ _ _ hW1
  have hq1 := hq.later hb1
  have hT1 := hT.later hb1
  have hK1 : KBx W1 W.heap.size kt ks kq := hk1
  obtain ⟨q0, q1, q2, q3⟩ := hq1.cells
  obtain ⟨y0, y1, y2⟩ := hK1.cells
  have lq := lt_of_block hq
  have lq1 := lt_of_block hq1
  have lk1 := lt_of_block hk1
  have l1 := lt_of_block he1
  have hps := openT_ps (side_sdK kt ks kq E) t.size t (Nat.le_refl _) hne
  have hszA := congrArg List.length hps
  simp only [List.length_append, Tr.size_ps] at hszA
  have hk9 : (openT (sdK kt ks kq E) t).k ≤ t.size := by have := openT_k _ (side_sdK kt ks kq E) t.size t (Nat.le_refl _); omega
  have hsb := open_srtb _ (side_sdK kt ks kq E) hne hs
  have hneb : ∀ x ∈ (openT (sdK kt ks kq E) t).b.ps, x ≠ 0 := fun x hx => hne x (open_sub _ (side_sdK kt ks kq E) hne x (.inr hx))
  have hO := open_ref (sdC_K kt ks kq E) t.size t p0 W1.drew (Nat.le_refl _) hn hne (hT1.later (below_drewNq _ W1 1))
  unfold cutV at hO
  rw [hm, mid0] at hszA
  simp only [List.length_cons, List.length_nil] at hszA
  have hjk : joinK (openT (sdK kt ks kq E) t).a (openT (sdK kt ks kq E) t).b ≤ 8192 := by
    have h9 := openT_k _ side_sdL (openT (sdK kt ks kq E) t).b.size (openT (sdK kt ks kq E) t).b (Nat.le_refl _)
    cases h7 : (openT (sdK kt ks kq E) t).a with
    | nil => cases (openT (sdK kt ks kq E) t).b <;> simp [joinK]
    | node a1 a2 a3 => cases h8 : (openT (sdK kt ks kq E) t).b with
      | nil => simp [joinK]
      | node b1 b2 b3 => rw [h8] at h9; rw [h8] at hszA; simp only [joinK]; omega
  have hjz : (joinT (openT (sdK kt ks kq E) t).a (openT (sdK kt ks kq E) t).b).size = (openT (sdK kt ks kq E) t).a.size + (openT (sdK kt ks kq E) t).b.size := joinT_size _ _ hneb
  generalize hOO : (openT (sdK kt ks kq E) t) = O at *
  clear hW1 hT1 hs hne hps hT
  go_enter Try.func64, Try.ntmps64
  go_upto_region 1 with fail
  rw [HW.out]
  go_region_held3 (fun W9 => W9.cell? ⟨qr, 0, none⟩ = some (.pointer p0) ∧ W9.cell? ⟨W.heap.size, 0, none⟩ = some (.int .u64 kt) ∧ W9.cell? ⟨W.heap.size, 1, none⟩ = some (.int .i64 ks) ∧ W9.cell? ⟨W.heap.size, 2, none⟩ = some (.int .u64 kq)) (first | exact ⟨q0, y0, y1, y2⟩ | with_reducible exact KP | go_keep) ((go_at_call 50; (with_reducible refine hO.mono ?_); rintro e' w3 ⟨pa, pm, pb, rfl, ha, hmm, hb, hbb⟩; have hb3 : Below W1.heap.size W1 w3 := (below_drewNq _ W1 1).trans (hbb.mono (Nat.le_refl _)); have KP : (fun W9 => W9.cell? ⟨qr, 0, none⟩ = some (.pointer p0) ∧ W9.cell? ⟨W.heap.size, 0, none⟩ = some (.int .u64 kt) ∧ W9.cell? ⟨W.heap.size, 1, none⟩ = some (.int .i64 ks) ∧ W9.cell? ⟨W.heap.size, 2, none⟩ = some (.int .u64 kq)) w3 := ⟨(cell_below hb3 lq1).trans q0, (cell_below hb3 lk1).trans y0, (cell_below hb3 lk1).trans y1, (cell_below hb3 lk1).trans y2⟩))
  clear KP q0 q1 q2 q3 y0 y1 y2 hO
  have hq3 := hq1.later hb3
  have he3 := (hb3.block _ l1).trans he1
  have hb13 : Below W.heap.size W w3 := hb1.trans (hb3.mono hb1.size)
  clear hbb hb3 hb1 hq1 he1 hk1 hK1 HW hq lq1 lk1 l1
  have es : IntKind.i64.wrap (sum + (O.k : Int)) = sum + (O.k : Int) := by rw [IntKind.wrap_i64]; omega
  obtain ⟨q0, q1, q2, q3⟩ := hq3.cells
  have zf0 := hq3.frz 0
  have zf1 := hq3.frz 1
  have zf3 := hq3.frz 3
  have lq3 := lt_of_block hq3
  have HA : Hid (RT w3 E O.a pa ∧ MT w3 E O.m pm ∧ RT w3 E O.b pb ∧ QB w3 qr p0 (t.size : Int) most sum ∧ w3.heap[W.heap.size + 1]? = some (.cells #[.int .u64 0, .int .i64 0, .int .u64 0, .int .i64 0, .int .i64 0, .int .i64 0] 64 (0, 0)) ∧ Below W.heap.size W w3) := ⟨ha, hmm, hb, hq3, he3, hb13⟩
  clear ha hmm hb hq3 he3 hb13
  go_upto_region 3 with fail
  generalize hw4 : World.setCell w3 _ _ = w4
  obtain ⟨ha, hmm, hb, hq3, he3, hb13⟩ := HA.out
  have hq4 : QB w4 qr p0 (t.size : Int) most (sum + (O.k : Int)) := by rw [← hw4]; exact hq3.setS _
  have ha4 : RT w4 E O.a pa := by rw [← hw4]; exact ha.setQ hq3 _ _
  have hm4 : MT w4 E O.m pm := by rw [← hw4]; exact hmm.setQ hq3 _ _
  have hb4 : RT w4 E O.b pb := by rw [← hw4]; exact hb.setQ hq3 _ _
  have hC4 : Ch (S1 qr) W w4 := by rw [← hw4]; exact (Ch.below hb13).trans (Ch.set _ _ _ _ _ rfl)
  have he4 : w4.heap[W.heap.size + 1]? = some (.cells #[.int .u64 0, .int .i64 0, .int .u64 0, .int .i64 0, .int .i64 0, .int .i64 0] 64 (0, 0)) := by rw [← hw4]; exact (Below.heap_setCell _ _ _ _ fun e9 => by have e9 : W.heap.size + 1 = qr := e9; omega).trans he3
  clear hw4 HA q0 q1 q2 q3 zf0 zf1 zf3 hq3 he3 hb13 lq3 es ha hmm hb
  obtain ⟨q0, q1, q2, q3⟩ := hq4.cells
  have zf0 := hq4.frz 0
  have zf1 := hq4.frz 1
  have zf3 := hq4.frz 3
  have lq4 := lt_of_block hq4
  have hpm : pm = none := by
    rcases hm4 with ⟨_, h9⟩ | ⟨h9, _⟩
    · exact h9
    · exact absurd hm h9
  subst hpm
  have HJ := rjoin8_any w4 ha4 hb4 hsb (by omega) hneb
  have HA : Hid (QB w4 qr p0 (t.size : Int) most (sum + (O.k : Int)) ∧ w4.heap[W.heap.size + 1]? = some (.cells #[.int .u64 0, .int .i64 0, .int .u64 0, .int .i64 0, .int .i64 0, .int .i64 0] 64 (0, 0)) ∧ Ch (S1 qr) W w4) := ⟨hq4, he4, hC4⟩
  clear ha4 hb4 hm4 hq4 he4 hC4
  go_upto_region 7 with (go_at_call 77; (with_reducible refine HJ.mono ?_); rintro e' w5 ⟨pj, rfl, hj5, hbj⟩)
  obtain ⟨hq4, he4, hC4⟩ := HA.out
  have hq5 := hq4.later hbj
  have he5 := (hbj.block _ (lt_of_block he4)).trans he4
  have hC5 : Ch (S1 qr) W w5 := hC4.trans (Ch.below hbj)
  have HA : Hid (RT w5 E (joinT O.a O.b) pj ∧ QB w5 qr p0 (t.size : Int) most (sum + (O.k : Int)) ∧ w5.heap[W.heap.size + 1]? = some (.cells #[.int .u64 0, .int .i64 0, .int .u64 0, .int .i64 0, .int .i64 0, .int .i64 0] 64 (0, 0)) ∧ Ch (S1 qr) W w5) := ⟨hj5, hq5, he5, hC5⟩
  clear HJ hq4 he4 hC4 hbj he5 hC5 hj5 q0 q1 q2 q3 zf0 zf1 zf3 lq4
  obtain ⟨q0, q1, q2, q3⟩ := hq5.cells
  have zf0 := hq5.frz 0
  have zf1 := hq5.frz 1
  have zf3 := hq5.frz 3
  have lq5 := lt_of_block hq5
  clear hq5
  go_upto_region 8 with fail
  generalize hw6 : World.setCell w5 _ _ = w6
  obtain ⟨hj5, hq5, he5, hC5⟩ := HA.out
  have hq6 : QB w6 qr pj (t.size : Int) most (sum + (O.k : Int)) := by rw [← hw6]; exact hq5.setT _
  have hj6 : RT w6 E (joinT O.a O.b) pj := by rw [← hw6]; exact hj5.setQ hq5 _ _
  have hC6 : Ch (S1 qr) W w6 := by rw [← hw6]; exact hC5.trans (Ch.set _ _ _ _ _ rfl)
  have he6 : w6.heap[W.heap.size + 1]? = some (.cells #[.int .u64 0, .int .i64 0, .int .u64 0, .int .i64 0, .int .i64 0, .int .i64 0] 64 (0, 0)) := by rw [← hw6]; exact (Below.heap_setCell _ _ _ _ fun e9 => by have e9 : W.heap.size + 1 = qr := e9; omega).trans he5
  clear hw6 q0 q1 q2 q3 zf0 zf1 zf3 lq5 hj5 hq5 he5 hC5
  have HA : Hid (RT w6 E (joinT O.a O.b) pj ∧ QB w6 qr pj (t.size : Int) most (sum + (O.k : Int)) ∧ w6.heap[W.heap.size + 1]? = some (.cells #[.int .u64 0, .int .i64 0, .int .u64 0, .int .i64 0, .int .i64 0, .int .i64 0] 64 (0, 0)) ∧ Ch (S1 qr) W w6) := ⟨hj6, hq6, he6, hC6⟩
  obtain ⟨q0, q1, q2, q3⟩ := hq6.cells
  have zf0 := hq6.frz 0
  have zf1 := hq6.frz 1
  have zf3 := hq6.frz 3
  have lq6 := lt_of_block hq6
  clear hj6 he6 hC6 hq6
  obtain ⟨jk, hjke⟩ : ∃ jk, joinK O.a O.b = jk := ⟨_, rfl⟩
  rw [hjke] at hjk
  have HJK : Hid (joinK O.a O.b = jk) := hjke
  rw [hjke]
  clear hjke
  have es2 : IntKind.i64.wrap (sum + (O.k : Int) + (jk : Int)) = sum + (O.k : Int) + (jk : Int) := by rw [IntKind.wrap_i64]; omega
  go_upto_region 9 with fail
  generalize hw9 : World.setCell w6 _ _ = w9
  obtain ⟨hj6, hq6, he6, hC6⟩ := HA.out
  have hq9 : QB w9 qr pj (t.size : Int) most (sum + (O.k : Int) + (jk : Int)) := by rw [← hw9]; exact hq6.setS _
  have hj9 : RT w9 E (joinT O.a O.b) pj := by rw [← hw9]; exact hj6.setQ hq6 _ _
  have hC9 : Ch (S1 qr) W w9 := by rw [← hw9]; exact hC6.trans (Ch.set _ _ _ _ _ rfl)
  have he9 : w9.heap[W.heap.size + 1]? = some (.cells #[.int .u64 0, .int .i64 0, .int .u64 0, .int .i64 0, .int .i64 0, .int .i64 0] 64 (0, 0)) := by rw [← hw9]; exact (Below.heap_setCell _ _ _ _ fun e9 => by have e9 : W.heap.size + 1 = qr := e9; omega).trans he6
  clear hw9 q0 q1 q2 q3 zf0 zf1 zf3 lq6 hj6 hq6 he6 hC6 es2 HA
  have HY : Hid (QB w9 qr pj (t.size : Int) most (sum + (O.k : Int) + (jk : Int)) ∧ RT w9 E (joinT O.a O.b) pj ∧ Ch (S1 qr) W w9 ∧ (joinT O.a O.b).size = t.size) := ⟨hq9, hj9, hC9, by omega⟩
  clear hq9 hj9 hC9 hjz hszA
  obtain ⟨r0, r1, r2, r3, r4, r5⟩ := q6c he9
  have rf := frz he9
  have rf0 := rf 0; have rf1 := rf 1; have rf2 := rf 2; have rf3 := rf 3; have rf4 := rf 4; have rf5 := rf 5
  have le9 := lt_of_block he9
  clear rf
  go_wp2_with fail
  generalize hWF : (World.setCell (World.setCell (World.setCell (World.setCell (World.setCell (World.setCell w9 _ _) _ _) _ _) _ _) _ _) _ _) = wF
  obtain ⟨p1, p2, p3⟩ := put6 he9 _ _ _ _ _ _ wF hWF
  obtain ⟨d0, d1, d2, d3, d4, d5⟩ := q6c p1
  refine bodyPost_ret (v := .tuple #[evV ev0, .int .i64 83]) (by simp [results, Try.results64, go_sem, d0, d1, d2, d3, d4, d5, evV, ev0]; try rfl) rfl ?_
  obtain ⟨hq9, hT9, hC9, hsz⟩ := HY.out
  have hjj := HJK.out
  subst hOO
  rw [← hjj] at hq9
  obtain ⟨a1, a2⟩ := res_fin hq9 he9 hT9 (by omega) hC9 (Nat.le_succ _) p2 p3
  exact ⟨rfl, a1, a2⟩
set_option maxRecDepth 100000 in
set_option maxHeartbeats 16000000 in
theorem rfind_yes (qr : Nat) (E : Nat → Ev) (t : Tr) (most sum : Int) (kt ks kq : Int) (W : World) (h : RQ W qr E t most sum) (hs : Srt E t) (hn : t.size ≤ 8192) (hne : ∀ x ∈ t.ps, x ≠ 0) (hsum : 0 ≤ sum ∧ sum ≤ 4611686018427387904) (hm : (openT (sdK kt ks kq E) t).m ≠ 0) :
    Calls Try.prog 64 #[.pointer (some ⟨qr, 0, none⟩), .agg #[.int .u64 kt, .int .i64 ks, .int .u64 kq]] W fun e' W' => e' = .returned (.tuple #[evV (E (openT (sdK kt ks kq E) t).m), .int .i64 0]) ∧ RQ W' qr E (.node (openT (sdK kt ks kq E) t).a (openT (sdK kt ks kq E) t).m (openT (sdK kt ks kq E) t).b) most (sum + (openT (sdK kt ks kq E) t).k) ∧ Ch (S1 qr) W W' := by
  obtain ⟨p0, hq, hT⟩ := h
  obtain ⟨W1, hW1⟩ : ∃ W1, (W.alloc (.cells #[.int .u64 kt, .int .i64 ks, .int .u64 kq] 30)).alloc (.cells #[.int .u64 0, .int .i64 0, .int .u64 0, .int .i64 0, .int .i64 0, .int .i64 0] 64) = W1 := ⟨_, rfl⟩
  have HW : Hid ((W.alloc (.cells #[.int .u64 kt, .int .i64 ks, .int .u64 kq] 30)).alloc (.cells #[.int .u64 0, .int .i64 0, .int .u64 0, .int .i64 0, .int .i64 0, .int .i64 0] 64) = W1) := hW1
  obtain ⟨hk1, he1, hb1⟩ := two_alloc _ _ _ _ _ _ hW1
  have hq1 := hq.later hb1
  have hT1 := hT.later hb1
  have hK1 : KBx W1 W.heap.size kt ks kq := hk1
  obtain ⟨q0, q1, q2, q3⟩ := hq1.cells
  obtain ⟨y0, y1, y2⟩ := hK1.cells
  have lq := lt_of_block hq
  have lq1 := lt_of_block hq1
  have lk1 := lt_of_block hk1
  have l1 := lt_of_block he1
  have hps := openT_ps (side_sdK kt ks kq E) t.size t (Nat.le_refl _) hne
  have hszA := congrArg List.length hps
  simp only [List.length_append, Tr.size_ps] at hszA
  have hk9 : (openT (sdK kt ks kq E) t).k ≤ t.size := by have := openT_k _ (side_sdK kt ks kq E) t.size t (Nat.le_refl _); omega
  have hsb := open_srtb _ (side_sdK kt ks kq E) hne hs
  have hneb : ∀ x ∈ (openT (sdK kt ks kq E) t).b.ps, x ≠ 0 := fun x hx => hne x (open_sub _ (side_sdK kt ks kq E) hne x (.inr hx))
  have hO := open_ref (sdC_K kt ks kq E) t.size t p0 W1.drew (Nat.le_refl _) hn hne (hT1.later (below_drewNq _ W1 1))
  unfold cutV at hO
  rw [midn hm] at hszA
  simp only [List.length_cons, List.length_nil] at hszA
  generalize hOO : (openT (sdK kt ks kq E) t) = O at *
  clear hW1 hT1 hs hne hps hT
  go_enter Try.func64, Try.ntmps64
  go_upto_region 1 with fail
  rw [HW.out]
  go_region_held3 (fun W9 => W9.cell? ⟨qr, 0, none⟩ = some (.pointer p0) ∧ W9.cell? ⟨W.heap.size, 0, none⟩ = some (.int .u64 kt) ∧ W9.cell? ⟨W.heap.size, 1, none⟩ = some (.int .i64 ks) ∧ W9.cell? ⟨W.heap.size, 2, none⟩ = some (.int .u64 kq)) (first | exact ⟨q0, y0, y1, y2⟩ | with_reducible exact KP | go_keep) ((go_at_call 50; (with_reducible refine hO.mono ?_); rintro e' w3 ⟨pa, pm, pb, rfl, ha, hmm, hb, hbb⟩; have hb3 : Below W1.heap.size W1 w3 := (below_drewNq _ W1 1).trans (hbb.mono (Nat.le_refl _)); have KP : (fun W9 => W9.cell? ⟨qr, 0, none⟩ = some (.pointer p0) ∧ W9.cell? ⟨W.heap.size, 0, none⟩ = some (.int .u64 kt) ∧ W9.cell? ⟨W.heap.size, 1, none⟩ = some (.int .i64 ks) ∧ W9.cell? ⟨W.heap.size, 2, none⟩ = some (.int .u64 kq)) w3 := ⟨(cell_below hb3 lq1).trans q0, (cell_below hb3 lk1).trans y0, (cell_below hb3 lk1).trans y1, (cell_below hb3 lk1).trans y2⟩))
  clear KP q0 q1 q2 q3 y0 y1 y2 hO
  have hq3 := hq1.later hb3
  have he3 := (hb3.block _ l1).trans he1
  have hb13 : Below W.heap.size W w3 := hb1.trans (hb3.mono hb1.size)
  clear hbb hb3 hb1 hq1 he1 hk1 hK1 HW hq lq1 lk1 l1
  have es : IntKind.i64.wrap (sum + (O.k : Int)) = sum + (O.k : Int) := by rw [IntKind.wrap_i64]; omega
  obtain ⟨q0, q1, q2, q3⟩ := hq3.cells
  have zf0 := hq3.frz 0
  have zf1 := hq3.frz 1
  have zf3 := hq3.frz 3
  have lq3 := lt_of_block hq3
  have HA : Hid (RT w3 E O.a pa ∧ MT w3 E O.m pm ∧ RT w3 E O.b pb ∧ QB w3 qr p0 (t.size : Int) most sum ∧ w3.heap[W.heap.size + 1]? = some (.cells #[.int .u64 0, .int .i64 0, .int .u64 0, .int .i64 0, .int .i64 0, .int .i64 0] 64 (0, 0)) ∧ Below W.heap.size W w3) := ⟨ha, hmm, hb, hq3, he3, hb13⟩
  clear ha hmm hb hq3 he3 hb13
  go_upto_region 3 with fail
  generalize hw4 : World.setCell w3 _ _ = w4
  obtain ⟨ha, hmm, hb, hq3, he3, hb13⟩ := HA.out
  have hq4 : QB w4 qr p0 (t.size : Int) most (sum + (O.k : Int)) := by rw [← hw4]; exact hq3.setS _
  have ha4 : RT w4 E O.a pa := by rw [← hw4]; exact ha.setQ hq3 _ _
  have hm4 : MT w4 E O.m pm := by rw [← hw4]; exact hmm.setQ hq3 _ _
  have hb4 : RT w4 E O.b pb := by rw [← hw4]; exact hb.setQ hq3 _ _
  have hC4 : Ch (S1 qr) W w4 := by rw [← hw4]; exact (Ch.below hb13).trans (Ch.set _ _ _ _ _ rfl)
  have he4 : w4.heap[W.heap.size + 1]? = some (.cells #[.int .u64 0, .int .i64 0, .int .u64 0, .int .i64 0, .int .i64 0, .int .i64 0] 64 (0, 0)) := by rw [← hw4]; exact (Below.heap_setCell _ _ _ _ fun e9 => by have e9 : W.heap.size + 1 = qr := e9; omega).trans he3
  clear hw4 HA q0 q1 q2 q3 zf0 zf1 zf3 hq3 he3 hb13 lq3 es ha hmm hb
  obtain ⟨q0, q1, q2, q3⟩ := hq4.cells
  have zf0 := hq4.frz 0
  have zf1 := hq4.frz 1
  have zf3 := hq4.frz 3
  have lq4 := lt_of_block hq4
  rcases hm4 with ⟨h9, _⟩ | ⟨_, mb, ml4, mr4, h9, hM⟩
  · exact absurd h9 hm
  subst h9
  obtain ⟨t0, t1, t2, t3, t4, t5, t6, t7⟩ := hM.cells
  have lM := lt_of_block hM
  have HZ : Hid (RT w4 E O.a pa ∧ RT w4 E O.b pb ∧ Ch (S1 qr) W w4 ∧ O.a.size + O.b.size + 1 = t.size ∧ QB w4 qr p0 (t.size : Int) most (sum + (O.k : Int)) ∧ w4.heap[W.heap.size + 1]? = some (.cells #[.int .u64 0, .int .i64 0, .int .u64 0, .int .i64 0, .int .i64 0, .int .i64 0] 64 (0, 0)) ∧ TB w4 mb ml4 (E O.m) mr4) := ⟨ha4, hb4, hC4, by omega, hq4, he4, hM⟩
  clear ha4 hb4 hC4 hszA he4 hM hq4
  go_upto_region 5 with fail
  generalize hWG : World.alloc (World.setCell w4 _ _) _ = w9
  obtain ⟨ha4, hb4, hC4, hsz, hq4, he4, hM⟩ := HZ.out
  obtain ⟨hN, hq9, hkeep, hCG⟩ := node_put (e := E O.m) hq4 w9 hWG
  have he9 := (hCG.block (W.heap.size + 1) (lt_of_block he4) (fun e9 => by have e9 : W.heap.size + 1 = qr := e9; omega)).trans he4
  have hM9 : TB w9 mb ml4 (E O.m) mr4 := (hkeep _ _ hM).trans hM
  have HY : Hid (QB w9 qr (some ⟨w4.heap.size, 0, none⟩) (t.size : Int) most (sum + (O.k : Int)) ∧ RT w9 E (.node O.a O.m O.b) (some ⟨w4.heap.size, 0, none⟩) ∧ Ch (S1 qr) W w9 ∧ O.a.size + O.b.size + 1 = t.size) := ⟨hq9, ⟨_, _, _, rfl, hN, ha4.keep hkeep, hb4.keep hkeep⟩, hC4.trans hCG, hsz⟩
  clear t0 t1 t2 t3 t4 t5 t6 t7 lM q0 q1 q2 q3 zf0 zf1 zf3 lq4 hWG HZ ha4 hb4 hC4 hq4 he4 hM hN hq9 hkeep hCG hsz
  obtain ⟨r0, r1, r2, r3, r4, r5⟩ := q6c he9
  have rf := frz he9
  have rf0 := rf 0; have rf1 := rf 1; have rf2 := rf 2; have rf3 := rf 3; have rf4 := rf 4; have rf5 := rf 5
  have le9 := lt_of_block he9
  clear rf
  obtain ⟨t0, t1, t2, t3, t4, t5, t6, t7⟩ := hM9.cells
  have lM := lt_of_block hM9
  go_wp2_with fail
  generalize hWF : (World.setCell (World.setCell (World.setCell (World.setCell (World.setCell (World.setCell w9 _ _) _ _) _ _) _ _) _ _) _ _) = wF
  obtain ⟨p1, p2, p3⟩ := put6 he9 _ _ _ _ _ _ wF hWF
  obtain ⟨d0, d1, d2, d3, d4, d5⟩ := q6c p1
  refine bodyPost_ret (v := .tuple #[evV (E O.m), .int .i64 0]) (by simp [results, Try.results64, go_sem, d0, d1, d2, d3, d4, d5, evV, ev0]; try rfl) rfl ?_
  obtain ⟨hq9, hT9, hC9, hsz⟩ := HY.out
  subst hOO
  obtain ⟨a1, a2⟩ := res_fin hq9 he9 hT9 (by simp only [Tr.size]; omega) hC9 (Nat.le_succ _) p2 p3
  exact ⟨rfl, a1, a2⟩
set_option maxRecDepth 100000 in
set_option maxHeartbeats 16000000 in
theorem rremove_no (qr : Nat) (E : Nat → Ev) (t : Tr) (most sum : Int) (kt ks kq : Int) (W : World) (h : RQ W qr E t most sum) (hs : Srt E t) (hn : t.size ≤ 8192) (hne : ∀ x ∈ t.ps, x ≠ 0) (hsum : 0 ≤ sum ∧ sum ≤ 4611686018427387904) (hm : (openT (sdK kt ks kq E) t).m = 0) :
    Calls Try.prog 65 #[.pointer (some ⟨qr, 0, none⟩), .agg #[.int .u64 kt, .int .i64 ks, .int .u64 kq]] W fun e' W' => e' = .returned (.tuple #[evV ev0, .int .i64 83]) ∧ RQ W' qr E (joinT (openT (sdK kt ks kq E) t).a (openT (sdK kt ks kq E) t).b) most (sum + (openT (sdK kt ks kq E) t).k + joinK (openT (sdK kt ks kq E) t).a (openT (sdK kt ks kq E) t).b) ∧ Ch (S1 qr) W W' := by
  obtain ⟨p0, hq, hT⟩ := h
  obtain ⟨W1, hW1⟩ : ∃ W1, (W.alloc (.cells #[.int .u64 kt, .int .i64 ks, .int .u64 kq] 30)).alloc (.cells #[.int .u64 0, .int .i64 0, .int .u64 0, .int .i64 0, .int .i64 0, .int .i64 0] 64) = W1 := ⟨_, rfl⟩
  have HW : Hid ((W.alloc (.cells #[.int .u64 kt, .int .i64 ks, .int .u64 kq] 30)).alloc (.cells #[.int .u64 0, .int .i64 0, .int .u64 0, .int .i64 0, .int .i64 0, .int .i64 0] 64) = W1) := hW1
  obtain ⟨hk1, he1, hb1⟩ := two_alloc _ _ _ _ _ _ hW1
  have hq1 := hq.later hb1
  have hT1 := hT.later hb1
  have hK1 : KBx W1 W.heap.size kt ks kq := hk1
  obtain ⟨q0, q1, q2, q3⟩ := hq1.cells
  obtain ⟨y0, y1, y2⟩ := hK1.cells
  have lq := lt_of_block hq
  have lq1 := lt_of_block hq1
  have lk1 := lt_of_block hk1
  have l1 := lt_of_block he1
  have hps := openT_ps (side_sdK kt ks kq E) t.size t (Nat.le_refl _) hne
  have hszA := congrArg List.length hps
  simp only [List.length_append, Tr.size_ps] at hszA
  have hk9 : (openT (sdK kt ks kq E) t).k ≤ t.size := by have := openT_k _ (side_sdK kt ks kq E) t.size t (Nat.le_refl _); omega
  have hsb := open_srtb _ (side_sdK kt ks kq E) hne hs
  have hneb : ∀ x ∈ (openT (sdK kt ks kq E) t).b.ps, x ≠ 0 := fun x hx => hne x (open_sub _ (side_sdK kt ks kq E) hne x (.inr hx))
  have hO := open_ref (sdC_K kt ks kq E) t.size t p0 W1.drew (Nat.le_refl _) hn hne (hT1.later (below_drewNq _ W1 1))
  unfold cutV at hO
  rw [hm, mid0] at hszA
  simp only [List.length_cons, List.length_nil] at hszA
  have hjk : joinK (openT (sdK kt ks kq E) t).a (openT (sdK kt ks kq E) t).b ≤ 8192 := by
    have h9 := openT_k _ side_sdL (openT (sdK kt ks kq E) t).b.size (openT (sdK kt ks kq E) t).b (Nat.le_refl _)
    cases h7 : (openT (sdK kt ks kq E) t).a with
    | nil => cases (openT (sdK kt ks kq E) t).b <;> simp [joinK]
    | node a1 a2 a3 => cases h8 : (openT (sdK kt ks kq E) t).b with
      | nil => simp [joinK]
      | node b1 b2 b3 => rw [h8] at h9; rw [h8] at hszA; simp only [joinK]; omega
  have hjz : (joinT (openT (sdK kt ks kq E) t).a (openT (sdK kt ks kq E) t).b).size = (openT (sdK kt ks kq E) t).a.size + (openT (sdK kt ks kq E) t).b.size := joinT_size _ _ hneb
  generalize hOO : (openT (sdK kt ks kq E) t) = O at *
  clear hW1 hT1 hs hne hps hT
  go_enter Try.func65, Try.ntmps65
  go_upto_region 1 with fail
  rw [HW.out]
  go_region_held3 (fun W9 => W9.cell? ⟨qr, 0, none⟩ = some (.pointer p0) ∧ W9.cell? ⟨W.heap.size, 0, none⟩ = some (.int .u64 kt) ∧ W9.cell? ⟨W.heap.size, 1, none⟩ = some (.int .i64 ks) ∧ W9.cell? ⟨W.heap.size, 2, none⟩ = some (.int .u64 kq)) (first | exact ⟨q0, y0, y1, y2⟩ | with_reducible exact KP | go_keep) ((go_at_call 50; (with_reducible refine hO.mono ?_); rintro e' w3 ⟨pa, pm, pb, rfl, ha, hmm, hb, hbb⟩; have hb3 : Below W1.heap.size W1 w3 := (below_drewNq _ W1 1).trans (hbb.mono (Nat.le_refl _)); have KP : (fun W9 => W9.cell? ⟨qr, 0, none⟩ = some (.pointer p0) ∧ W9.cell? ⟨W.heap.size, 0, none⟩ = some (.int .u64 kt) ∧ W9.cell? ⟨W.heap.size, 1, none⟩ = some (.int .i64 ks) ∧ W9.cell? ⟨W.heap.size, 2, none⟩ = some (.int .u64 kq)) w3 := ⟨(cell_below hb3 lq1).trans q0, (cell_below hb3 lk1).trans y0, (cell_below hb3 lk1).trans y1, (cell_below hb3 lk1).trans y2⟩))
  clear KP q0 q1 q2 q3 y0 y1 y2 hO
  have hq3 := hq1.later hb3
  have he3 := (hb3.block _ l1).trans he1
  have hb13 : Below W.heap.size W w3 := hb1.trans (hb3.mono hb1.size)
  clear hbb hb3 hb1 hq1 he1 hk1 hK1 HW hq lq1 lk1 l1
  have HJ := rjoin8_any w3 ha hb hsb (by omega) hneb
  have HA : Hid (MT w3 E O.m pm ∧ QB w3 qr p0 (t.size : Int) most sum ∧ w3.heap[W.heap.size + 1]? = some (.cells #[.int .u64 0, .int .i64 0, .int .u64 0, .int .i64 0, .int .i64 0, .int .i64 0] 64 (0, 0)) ∧ Below W.heap.size W w3) := ⟨hmm, hq3, he3, hb13⟩
  clear ha hmm hb hq3 he3 hb13
  go_upto_region 3 with (go_at_call 77; (with_reducible refine HJ.mono ?_); rintro e' w4 ⟨pj, rfl, hj4, hbj⟩)
  obtain ⟨hmm, hq3, he3, hb13⟩ := HA.out
  have hq4 := hq3.later hbj
  have hm4 := hmm.later hbj
  have he4 := (hbj.block _ (lt_of_block he3)).trans he3
  have hb4 : Below W.heap.size W w4 := hb13.trans (hbj.mono hb13.size)
  have HA : Hid (RT w4 E (joinT O.a O.b) pj ∧ MT w4 E O.m pm ∧ QB w4 qr p0 (t.size : Int) most sum ∧ w4.heap[W.heap.size + 1]? = some (.cells #[.int .u64 0, .int .i64 0, .int .u64 0, .int .i64 0, .int .i64 0, .int .i64 0] 64 (0, 0)) ∧ Ch (S1 qr) W w4) := ⟨hj4, hm4, hq4, he4, Ch.below hb4⟩
  clear HJ hmm hq3 he3 hb13 hbj hm4 he4 hb4 hj4
  obtain ⟨q0, q1, q2, q3⟩ := hq4.cells
  have zf0 := hq4.frz 0
  have zf1 := hq4.frz 1
  have zf3 := hq4.frz 3
  have lq4 := lt_of_block hq4
  clear hq4
  go_upto_region 4 with fail
  generalize hw5 : World.setCell w4 _ _ = w5
  obtain ⟨hj4, hm4, hq4, he4, hC4⟩ := HA.out
  have hq5 : QB w5 qr pj (t.size : Int) most sum := by rw [← hw5]; exact hq4.setT _
  have hj5 : RT w5 E (joinT O.a O.b) pj := by rw [← hw5]; exact hj4.setQ hq4 _ _
  have hm5 : MT w5 E O.m pm := by rw [← hw5]; exact hm4.setQ hq4 _ _
  have hC5 : Ch (S1 qr) W w5 := by rw [← hw5]; exact hC4.trans (Ch.set _ _ _ _ _ rfl)
  have he5 : w5.heap[W.heap.size + 1]? = some (.cells #[.int .u64 0, .int .i64 0, .int .u64 0, .int .i64 0, .int .i64 0, .int .i64 0] 64 (0, 0)) := by rw [← hw5]; exact (Below.heap_setCell _ _ _ _ fun e9 => by have e9 : W.heap.size + 1 = qr := e9; omega).trans he4
  clear hw5 q0 q1 q2 q3 zf0 zf1 zf3 lq4 hj4 hm4 hq4 he4 hC4
  have HA : Hid (RT w5 E (joinT O.a O.b) pj ∧ MT w5 E O.m pm ∧ QB w5 qr pj (t.size : Int) most sum ∧ w5.heap[W.heap.size + 1]? = some (.cells #[.int .u64 0, .int .i64 0, .int .u64 0, .int .i64 0, .int .i64 0, .int .i64 0] 64 (0, 0)) ∧ Ch (S1 qr) W w5) := ⟨hj5, hm5, hq5, he5, hC5⟩
  obtain ⟨q0, q1, q2, q3⟩ := hq5.cells
  have zf0 := hq5.frz 0
  have zf1 := hq5.frz 1
  have zf3 := hq5.frz 3
  have lq5 := lt_of_block hq5
  clear hj5 hm5 he5 hC5 hq5
  obtain ⟨jk, hjke⟩ : ∃ jk, joinK O.a O.b = jk := ⟨_, rfl⟩
  rw [hjke] at hjk
  have HJK : Hid (joinK O.a O.b = jk) := hjke
  rw [hjke]
  clear hjke
  have es : IntKind.i64.wrap (sum + (O.k : Int)) = sum + (O.k : Int) := by rw [IntKind.wrap_i64]; omega
  have es2 : IntKind.i64.wrap (sum + (O.k : Int) + (jk : Int)) = sum + (O.k : Int) + (jk : Int) := by rw [IntKind.wrap_i64]; omega
  go_upto_region 5 with fail
  generalize hw6 : World.setCell w5 _ _ = w6
  obtain ⟨hj5, hm5, hq5, he5, hC5⟩ := HA.out
  have hq6 : QB w6 qr pj (t.size : Int) most (sum + (O.k : Int) + (jk : Int)) := by rw [← hw6]; exact hq5.setS _
  have hj6 : RT w6 E (joinT O.a O.b) pj := by rw [← hw6]; exact hj5.setQ hq5 _ _
  have hm6 : MT w6 E O.m pm := by rw [← hw6]; exact hm5.setQ hq5 _ _
  have hC6 : Ch (S1 qr) W w6 := by rw [← hw6]; exact hC5.trans (Ch.set _ _ _ _ _ rfl)
  have he6 : w6.heap[W.heap.size + 1]? = some (.cells #[.int .u64 0, .int .i64 0, .int .u64 0, .int .i64 0, .int .i64 0, .int .i64 0] 64 (0, 0)) := by rw [← hw6]; exact (Below.heap_setCell _ _ _ _ fun e9 => by have e9 : W.heap.size + 1 = qr := e9; omega).trans he5
  clear hw6 q0 q1 q2 q3 zf0 zf1 zf3 lq5 hj5 hm5 hq5 he5 hC5 es es2 HA
  obtain ⟨q0, q1, q2, q3⟩ := hq6.cells
  have zf0 := hq6.frz 0
  have zf1 := hq6.frz 1
  have zf3 := hq6.frz 3
  have lq6 := lt_of_block hq6
  have hpm : pm = none := by
    rcases hm6 with ⟨_, h9⟩ | ⟨h9, _⟩
    · exact h9
    · exact absurd hm h9
  subst hpm
  have HY : Hid (QB w6 qr pj (t.size : Int) most (sum + (O.k : Int) + (jk : Int)) ∧ RT w6 E (joinT O.a O.b) pj ∧ Ch (S1 qr) W w6 ∧ (joinT O.a O.b).size = t.size) := ⟨hq6, hj6, hC6, by omega⟩
  clear hq6 hj6 hC6 hjz hszA hm6
  obtain ⟨w9, rfl⟩ : ∃ w9, w9 = w6 := ⟨_, rfl⟩
  have he9 := he6
  clear he6
  obtain ⟨r0, r1, r2, r3, r4, r5⟩ := q6c he9
  have rf := frz he9
  have rf0 := rf 0; have rf1 := rf 1; have rf2 := rf 2; have rf3 := rf 3; have rf4 := rf 4; have rf5 := rf 5
  have le9 := lt_of_block he9
  clear rf
  go_wp2_with fail
  generalize hWF : (World.setCell (World.setCell (World.setCell (World.setCell (World.setCell (World.setCell w9 _ _) _ _) _ _) _ _) _ _) _ _) = wF
  obtain ⟨p1, p2, p3⟩ := put6 he9 _ _ _ _ _ _ wF hWF
  obtain ⟨d0, d1, d2, d3, d4, d5⟩ := q6c p1
  refine bodyPost_ret (v := .tuple #[evV ev0, .int .i64 83]) (by simp [results, Try.results65, go_sem, d0, d1, d2, d3, d4, d5, evV, ev0]; try rfl) rfl ?_
  obtain ⟨hq9, hT9, hC9, hsz⟩ := HY.out
  have hjj := HJK.out
  subst hOO
  rw [← hjj] at hq9
  obtain ⟨a1, a2⟩ := res_fin hq9 he9 hT9 (by omega) hC9 (Nat.le_succ _) p2 p3
  exact ⟨rfl, a1, a2⟩
set_option maxRecDepth 100000 in
set_option maxHeartbeats 16000000 in
theorem rremove_yes (qr : Nat) (E : Nat → Ev) (t : Tr) (most sum : Int) (kt ks kq : Int) (W : World) (h : RQ W qr E t most sum) (hs : Srt E t) (hn : t.size ≤ 8192) (hne : ∀ x ∈ t.ps, x ≠ 0) (hsum : 0 ≤ sum ∧ sum ≤ 4611686018427387904) (hm : (openT (sdK kt ks kq E) t).m ≠ 0) :
    Calls Try.prog 65 #[.pointer (some ⟨qr, 0, none⟩), .agg #[.int .u64 kt, .int .i64 ks, .int .u64 kq]] W fun e' W' => e' = .returned (.tuple #[evV (E (openT (sdK kt ks kq E) t).m), .int .i64 0]) ∧ RQ W' qr E (joinT (openT (sdK kt ks kq E) t).a (openT (sdK kt ks kq E) t).b) most (sum + (openT (sdK kt ks kq E) t).k + joinK (openT (sdK kt ks kq E) t).a (openT (sdK kt ks kq E) t).b) ∧ Ch (S1 qr) W W' := by
  obtain ⟨p0, hq, hT⟩ := h
  obtain ⟨W1, hW1⟩ : ∃ W1, (W.alloc (.cells #[.int .u64 kt, .int .i64 ks, .int .u64 kq] 30)).alloc (.cells #[.int .u64 0, .int .i64 0, .int .u64 0, .int .i64 0, .int .i64 0, .int .i64 0] 64) = W1 := ⟨_, rfl⟩
  have HW : Hid ((W.alloc (.cells #[.int .u64 kt, .int .i64 ks, .int .u64 kq] 30)).alloc (.cells #[.int .u64 0, .int .i64 0, .int .u64 0, .int .i64 0, .int .i64 0, .int .i64 0] 64) = W1) := hW1
  obtain ⟨hk1, he1, hb1⟩ := two_alloc _ _ _ _ _ _ hW1
  have hq1 := hq.later hb1
  have hT1 := hT.later hb1
  have hK1 : KBx W1 W.heap.size kt ks kq := hk1
  obtain ⟨q0, q1, q2, q3⟩ := hq1.cells
  obtain ⟨y0, y1, y2⟩ := hK1.cells
  have lq := lt_of_block hq
  have lq1 := lt_of_block hq1
  have lk1 := lt_of_block hk1
  have l1 := lt_of_block he1
  have hps := openT_ps (side_sdK kt ks kq E) t.size t (Nat.le_refl _) hne
  have hszA := congrArg List.length hps
  simp only [List.length_append, Tr.size_ps] at hszA
  have hk9 : (openT (sdK kt ks kq E) t).k ≤ t.size := by have := openT_k _ (side_sdK kt ks kq E) t.size t (Nat.le_refl _); omega
  have hsb := open_srtb _ (side_sdK kt ks kq E) hne hs
  have hneb : ∀ x ∈ (openT (sdK kt ks kq E) t).b.ps, x ≠ 0 := fun x hx => hne x (open_sub _ (side_sdK kt ks kq E) hne x (.inr hx))
  have hO := open_ref (sdC_K kt ks kq E) t.size t p0 W1.drew (Nat.le_refl _) hn hne (hT1.later (below_drewNq _ W1 1))
  unfold cutV at hO
  rw [midn hm] at hszA
  simp only [List.length_cons, List.length_nil] at hszA
  have hjk : joinK (openT (sdK kt ks kq E) t).a (openT (sdK kt ks kq E) t).b ≤ 8192 := by
    have h9 := openT_k _ side_sdL (openT (sdK kt ks kq E) t).b.size (openT (sdK kt ks kq E) t).b (Nat.le_refl _)
    cases h7 : (openT (sdK kt ks kq E) t).a with
    | nil => cases (openT (sdK kt ks kq E) t).b <;> simp [joinK]
    | node a1 a2 a3 => cases h8 : (openT (sdK kt ks kq E) t).b with
      | nil => simp [joinK]
      | node b1 b2 b3 => rw [h8] at h9; rw [h8] at hszA; simp only [joinK]; omega
  have hjz : (joinT (openT (sdK kt ks kq E) t).a (openT (sdK kt ks kq E) t).b).size = (openT (sdK kt ks kq E) t).a.size + (openT (sdK kt ks kq E) t).b.size := joinT_size _ _ hneb
  generalize hOO : (openT (sdK kt ks kq E) t) = O at *
  clear hW1 hT1 hs hne hps hT
  go_enter Try.func65, Try.ntmps65
  go_upto_region 1 with fail
  rw [HW.out]
  go_region_held3 (fun W9 => W9.cell? ⟨qr, 0, none⟩ = some (.pointer p0) ∧ W9.cell? ⟨W.heap.size, 0, none⟩ = some (.int .u64 kt) ∧ W9.cell? ⟨W.heap.size, 1, none⟩ = some (.int .i64 ks) ∧ W9.cell? ⟨W.heap.size, 2, none⟩ = some (.int .u64 kq)) (first | exact ⟨q0, y0, y1, y2⟩ | with_reducible exact KP | go_keep) ((go_at_call 50; (with_reducible refine hO.mono ?_); rintro e' w3 ⟨pa, pm, pb, rfl, ha, hmm, hb, hbb⟩; have hb3 : Below W1.heap.size W1 w3 := (below_drewNq _ W1 1).trans (hbb.mono (Nat.le_refl _)); have KP : (fun W9 => W9.cell? ⟨qr, 0, none⟩ = some (.pointer p0) ∧ W9.cell? ⟨W.heap.size, 0, none⟩ = some (.int .u64 kt) ∧ W9.cell? ⟨W.heap.size, 1, none⟩ = some (.int .i64 ks) ∧ W9.cell? ⟨W.heap.size, 2, none⟩ = some (.int .u64 kq)) w3 := ⟨(cell_below hb3 lq1).trans q0, (cell_below hb3 lk1).trans y0, (cell_below hb3 lk1).trans y1, (cell_below hb3 lk1).trans y2⟩))
  clear KP q0 q1 q2 q3 y0 y1 y2 hO
  have hq3 := hq1.later hb3
  have he3 := (hb3.block _ l1).trans he1
  have hb13 : Below W.heap.size W w3 := hb1.trans (hb3.mono hb1.size)
  clear hbb hb3 hb1 hq1 he1 hk1 hK1 HW hq lq1 lk1 l1
  have HJ := rjoin8_any w3 ha hb hsb (by omega) hneb
  have HA : Hid (MT w3 E O.m pm ∧ QB w3 qr p0 (t.size : Int) most sum ∧ w3.heap[W.heap.size + 1]? = some (.cells #[.int .u64 0, .int .i64 0, .int .u64 0, .int .i64 0, .int .i64 0, .int .i64 0] 64 (0, 0)) ∧ Below W.heap.size W w3) := ⟨hmm, hq3, he3, hb13⟩
  clear ha hmm hb hq3 he3 hb13
  go_upto_region 3 with (go_at_call 77; (with_reducible refine HJ.mono ?_); rintro e' w4 ⟨pj, rfl, hj4, hbj⟩)
  obtain ⟨hmm, hq3, he3, hb13⟩ := HA.out
  have hq4 := hq3.later hbj
  have hm4 := hmm.later hbj
  have he4 := (hbj.block _ (lt_of_block he3)).trans he3
  have hb4 : Below W.heap.size W w4 := hb13.trans (hbj.mono hb13.size)
  have HA : Hid (RT w4 E (joinT O.a O.b) pj ∧ MT w4 E O.m pm ∧ QB w4 qr p0 (t.size : Int) most sum ∧ w4.heap[W.heap.size + 1]? = some (.cells #[.int .u64 0, .int .i64 0, .int .u64 0, .int .i64 0, .int .i64 0, .int .i64 0] 64 (0, 0)) ∧ Ch (S1 qr) W w4) := ⟨hj4, hm4, hq4, he4, Ch.below hb4⟩
  clear HJ hmm hq3 he3 hb13 hbj hm4 he4 hb4 hj4
  obtain ⟨q0, q1, q2, q3⟩ := hq4.cells
  have zf0 := hq4.frz 0
  have zf1 := hq4.frz 1
  have zf3 := hq4.frz 3
  have lq4 := lt_of_block hq4
  clear hq4
  go_upto_region 4 with fail
  generalize hw5 : World.setCell w4 _ _ = w5
  obtain ⟨hj4, hm4, hq4, he4, hC4⟩ := HA.out
  have hq5 : QB w5 qr pj (t.size : Int) most sum := by rw [← hw5]; exact hq4.setT _
  have hj5 : RT w5 E (joinT O.a O.b) pj := by rw [← hw5]; exact hj4.setQ hq4 _ _
  have hm5 : MT w5 E O.m pm := by rw [← hw5]; exact hm4.setQ hq4 _ _
  have hC5 : Ch (S1 qr) W w5 := by rw [← hw5]; exact hC4.trans (Ch.set _ _ _ _ _ rfl)
  have he5 : w5.heap[W.heap.size + 1]? = some (.cells #[.int .u64 0, .int .i64 0, .int .u64 0, .int .i64 0, .int .i64 0, .int .i64 0] 64 (0, 0)) := by rw [← hw5]; exact (Below.heap_setCell _ _ _ _ fun e9 => by have e9 : W.heap.size + 1 = qr := e9; omega).trans he4
  clear hw5 q0 q1 q2 q3 zf0 zf1 zf3 lq4 hj4 hm4 hq4 he4 hC4
  have HA : Hid (RT w5 E (joinT O.a O.b) pj ∧ MT w5 E O.m pm ∧ QB w5 qr pj (t.size : Int) most sum ∧ w5.heap[W.heap.size + 1]? = some (.cells #[.int .u64 0, .int .i64 0, .int .u64 0, .int .i64 0, .int .i64 0, .int .i64 0] 64 (0, 0)) ∧ Ch (S1 qr) W w5) := ⟨hj5, hm5, hq5, he5, hC5⟩
  obtain ⟨q0, q1, q2, q3⟩ := hq5.cells
  have zf0 := hq5.frz 0
  have zf1 := hq5.frz 1
  have zf3 := hq5.frz 3
  have lq5 := lt_of_block hq5
  clear hj5 hm5 he5 hC5 hq5
  obtain ⟨jk, hjke⟩ : ∃ jk, joinK O.a O.b = jk := ⟨_, rfl⟩
  rw [hjke] at hjk
  have HJK : Hid (joinK O.a O.b = jk) := hjke
  rw [hjke]
  clear hjke
  have es : IntKind.i64.wrap (sum + (O.k : Int)) = sum + (O.k : Int) := by rw [IntKind.wrap_i64]; omega
  have es2 : IntKind.i64.wrap (sum + (O.k : Int) + (jk : Int)) = sum + (O.k : Int) + (jk : Int) := by rw [IntKind.wrap_i64]; omega
  go_upto_region 5 with fail
  generalize hw6 : World.setCell w5 _ _ = w6
  obtain ⟨hj5, hm5, hq5, he5, hC5⟩ := HA.out
  have hq6 : QB w6 qr pj (t.size : Int) most (sum + (O.k : Int) + (jk : Int)) := by rw [← hw6]; exact hq5.setS _
  have hj6 : RT w6 E (joinT O.a O.b) pj := by rw [← hw6]; exact hj5.setQ hq5 _ _
  have hm6 : MT w6 E O.m pm := by rw [← hw6]; exact hm5.setQ hq5 _ _
  have hC6 : Ch (S1 qr) W w6 := by rw [← hw6]; exact hC5.trans (Ch.set _ _ _ _ _ rfl)
  have he6 : w6.heap[W.heap.size + 1]? = some (.cells #[.int .u64 0, .int .i64 0, .int .u64 0, .int .i64 0, .int .i64 0, .int .i64 0] 64 (0, 0)) := by rw [← hw6]; exact (Below.heap_setCell _ _ _ _ fun e9 => by have e9 : W.heap.size + 1 = qr := e9; omega).trans he5
  clear hw6 q0 q1 q2 q3 zf0 zf1 zf3 lq5 hj5 hm5 hq5 he5 hC5 es es2 HA
  obtain ⟨q0, q1, q2, q3⟩ := hq6.cells
  have zf0 := hq6.frz 0
  have zf1 := hq6.frz 1
  have zf3 := hq6.frz 3
  have lq6 := lt_of_block hq6
  rcases hm6 with ⟨h9, _⟩ | ⟨_, mb, ml6, mr6, h9, hM⟩
  · exact absurd h9 hm
  subst h9
  have en : IntKind.i64.wrap ((t.size : Int) - 1) = ((joinT O.a O.b).size : Int) := by rw [IntKind.wrap_i64]; omega
  have HA : Hid (QB w6 qr pj (t.size : Int) most (sum + (O.k : Int) + (jk : Int)) ∧ RT w6 E (joinT O.a O.b) pj ∧ Ch (S1 qr) W w6 ∧ TB w6 mb ml6 (E O.m) mr6 ∧ w6.heap[W.heap.size + 1]? = some (.cells #[.int .u64 0, .int .i64 0, .int .u64 0, .int .i64 0, .int .i64 0, .int .i64 0] 64 (0, 0))) := ⟨hq6, hj6, hC6, hM, he6⟩
  clear hq6 hj6 hC6 hM he6 hjz hszA
  go_upto_region 8 with fail
  generalize hw9 : World.setCell w6 _ _ = w9
  obtain ⟨hq6, hj6, hC6, hM, he6⟩ := HA.out
  have hq9 : QB w9 qr pj ((joinT O.a O.b).size : Int) most (sum + (O.k : Int) + (jk : Int)) := by rw [← hw9]; exact hq6.setN _
  have hj9 : RT w9 E (joinT O.a O.b) pj := by rw [← hw9]; exact hj6.setQ hq6 _ _
  have hC9 : Ch (S1 qr) W w9 := by rw [← hw9]; exact hC6.trans (Ch.set _ _ _ _ _ rfl)
  have hm9 : MT w9 E O.m (some ⟨mb, 0, none⟩) := by rw [← hw9]; exact MT.setQ hq6 _ _ (.inr ⟨hm, mb, _, _, rfl, hM⟩)
  have he9 : w9.heap[W.heap.size + 1]? = some (.cells #[.int .u64 0, .int .i64 0, .int .u64 0, .int .i64 0, .int .i64 0, .int .i64 0] 64 (0, 0)) := by rw [← hw9]; exact (Below.heap_setCell _ _ _ _ fun e9 => by have e9 : W.heap.size + 1 = qr := e9; omega).trans he6
  clear hw9 q0 q1 q2 q3 zf0 zf1 zf3 lq6 hj6 hq6 he6 hC6 HA hM en
  rcases hm9 with ⟨h9, _⟩ | ⟨_, mb', ml9, mr9, h9, hM⟩
  · exact absurd h9 hm
  cases h9
  have HY : Hid (QB w9 qr pj ((joinT O.a O.b).size : Int) most (sum + (O.k : Int) + (jk : Int)) ∧ RT w9 E (joinT O.a O.b) pj ∧ Ch (S1 qr) W w9) := ⟨hq9, hj9, hC9⟩
  obtain ⟨t0, t1, t2, t3, t4, t5, t6, t7⟩ := hM.cells
  have lM := lt_of_block hM
  clear hq9 hj9 hC9 hM
  obtain ⟨r0, r1, r2, r3, r4, r5⟩ := q6c he9
  have rf := frz he9
  have rf0 := rf 0; have rf1 := rf 1; have rf2 := rf 2; have rf3 := rf 3; have rf4 := rf 4; have rf5 := rf 5
  have le9 := lt_of_block he9
  clear rf
  go_wp2_with fail
  generalize hWF : (World.setCell (World.setCell (World.setCell (World.setCell (World.setCell (World.setCell w9 _ _) _ _) _ _) _ _) _ _) _ _) = wF
  obtain ⟨p1, p2, p3⟩ := put6 he9 _ _ _ _ _ _ wF hWF
  obtain ⟨d0, d1, d2, d3, d4, d5⟩ := q6c p1
  refine bodyPost_ret (v := .tuple #[evV (E O.m), .int .i64 0]) (by simp [results, Try.results65, go_sem, d0, d1, d2, d3, d4, d5, evV, ev0]; try rfl) rfl ?_
  obtain ⟨hq9, hT9, hC9⟩ := HY.out
  have hjj := HJK.out
  subst hOO
  rw [← hjj] at hq9
  obtain ⟨a1, a2⟩ := res_fin hq9 he9 hT9 rfl hC9 (Nat.le_succ _) p2 p3
  exact ⟨rfl, a1, a2⟩
end Go.Proofs.Ytlklolmhaiaaiaa
