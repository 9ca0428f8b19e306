import Derived.Test.YtlklolmhaiaaiaaKYR5
namespace Go.Proofs.Ytlklolmhaiaaiaa
open Go.ChangeShapes Go.WideShapes Go.ChangeAt Go.RowKit
set_option linter.unusedVariables false
set_option linter.unusedSimpArgs false

theorem tree_some {W : World} {E : Nat → Ev} {t : Tr} {p : Option Addr} (h : RT W E t p) (ht : t ≠ .nil) : ∃ b, p = some ⟨b, 0, none⟩ := by
  cases t with
  | nil => exact absurd rfl ht
  | node l x r => obtain ⟨bb, pl, pr, h9, _⟩ := h; exact ⟨bb, h9⟩
theorem q_ne {W : World} {qr b : Nat} {p : Option Addr} {n most sum : Int} {cs : Array Value} (hq : QB W qr p n most sum) (he : W.heap[b]? = some (.cells cs 64 (0, 0))) : qr ≠ b := fun e => by
  subst e
  unfold QB at hq
  rw [hq] at he
  injection he with he
  injection he with _ he
  exact absurd he (by decide)
theorem t_ne {W : World} {k b : Nat} {v : Array Value} {cs : Array Value} (hk : W.heap[k]? = some (Obj.cells v 105 (0, 0))) (he : W.heap[b]? = some (.cells cs 64 (0, 0))) : k ≠ b := fun e => by
  subst e
  rw [hk] at he
  injection he with he
  injection he with _ he
  exact absurd he (by decide)
/-- the answer's event is written: nothing else changes -/
theorem res_fin {W w5 wF : World} {E : Nat → Ev} {t : Tr} {qr b : Nat} {p : Option Addr} {n most sum : Int} {cs : Array Value} (hq : QB w5 qr p n most sum) (he : w5.heap[b]? = some (.cells cs 64 (0, 0))) (hT : RT w5 E t p) (hn : n = (t.size : Int)) (hC : Ch (S1 qr) W w5) (hb : W.heap.size ≤ b) (p2 : ∀ k, k ≠ b → wF.heap[k]? = w5.heap[k]?) (p3 : ∀ B w0, Below B w0 w5 → B ≤ b → Below B w0 wF) : RQ wF qr E t most sum ∧ Ch (S1 qr) W wF := by
  subst hn
  have hbF := p3 0 _ (Below.refl 0 _) (Nat.zero_le _)
  exact ⟨⟨p, (p2 qr (q_ne hq he)).trans hq, hT.keep fun k v hk => p2 k (t_ne hk he)⟩, hbF.os.trans hC.os, hbF.tape.trans hC.tape, hbF.output.trans hC.output, Nat.le_trans hC.size hbF.size, fun j hj hs => (p2 j (by omega)).trans (hC.block j hj hs)⟩
theorem open_srtb {E : Nat → Ev} (sd : Tr → Int) (hs : Side sd) {t : Tr} (hne : ∀ x ∈ t.ps, x ≠ 0) (h : Srt E t) : Srt E (openT sd t).b := by
  unfold Srt at h ⊢
  rw [← openT_ps hs t.size t (Nat.le_refl _) hne] at h
  exact (List.pairwise_append.1 h).2.1
theorem joinT_size (a b : Tr) (hne : ∀ x ∈ b.ps, x ≠ 0) : (joinT a b).size = a.size + b.size := by
  by_cases hb : b = .nil
  · subst hb
    have e : joinT a .nil = a := by cases a <;> rfl
    rw [e]; simp [Tr.size]
  · by_cases ha : a = .nil
    · subst ha
      have e : joinT .nil b = b := by cases b <;> rfl
      rw [e]; simp [Tr.size]
    · rw [joinT_pos ha hb]
      have h := congrArg List.length (least_ps hb hne)
      rw [List.length_cons, Tr.size_ps, Tr.size_ps] at h
      simp only [Tr.size]
      omega
set_option maxRecDepth 100000 in
set_option maxHeartbeats 8000000 in
theorem rmin_none (qr : Nat) (E : Nat → Ev) (most sum : Int) (W : World) (h : RQ W qr E .nil most sum) : Calls Try.prog 62 #[.pointer (some ⟨qr, 0, none⟩)] W fun e' W' => e' = .returned (.tuple #[evV ev0, .int .i64 82]) ∧ RQ W' qr E .nil most sum ∧ Ch (S1 qr) W W' := by
  obtain ⟨p0, hq, hT⟩ := h
  have h9 : p0 = none := hT
  subst h9
  obtain ⟨W1, hW1⟩ : ∃ W1, W.alloc (.cells #[.int .u64 0, .int .i64 0, .int .u64 0, .int .i64 0, .int .i64 0, .int .i64 0] 64) = W1 := ⟨_, rfl⟩
  have hb1 : Below W.heap.size W W1 := by rw [← hW1]; exact (Below.refl _ W).alloc (Nat.le_refl _) _
  have he1 : W1.heap[W.heap.size]? = some (.cells #[.int .u64 0, .int .i64 0, .int .u64 0, .int .i64 0, .int .i64 0, .int .i64 0] 64 (0, 0)) := by rw [← hW1]; exact World.alloc_heap_new W _
  have hq1 := hq.later hb1
  obtain ⟨q0, q1, q2, q3⟩ := hq1.cells
  obtain ⟨r0, r1, r2, r3, r4, r5⟩ := q6c he1
  have rf := frz he1
  have rf0 := rf 0; have rf1 := rf 1; have rf2 := rf 2; have rf3 := rf 3; have rf4 := rf 4; have rf5 := rf 5
  clear rf
  rw [← hW1] at q0 q1 q2 q3 r0 r1 r2 r3 r4 r5 rf0 rf1 rf2 rf3 rf4 rf5
  have HE : Hid (Below W.heap.size W W1 ∧ W1.heap[W.heap.size]? = some (.cells #[.int .u64 0, .int .i64 0, .int .u64 0, .int .i64 0, .int .i64 0, .int .i64 0] 64 (0, 0)) ∧ W.alloc (.cells #[.int .u64 0, .int .i64 0, .int .u64 0, .int .i64 0, .int .i64 0, .int .i64 0] 64) = W1 ∧ QB W1 qr none ((Tr.nil.size : Nat) : Int) most sum) := ⟨hb1, he1, hW1, hq1⟩
  clear hb1 he1 hW1 hq hT hq1
  go_enter Try.func62, Try.ntmps62
  go_wp2_with fail
  obtain ⟨hb1, he1, hW1, hq1⟩ := HE.out
  rw [hW1]
  obtain ⟨d0, d1, d2, d3, d4, d5⟩ := q6c he1
  refine bodyPost_ret (v := .tuple #[evV ev0, .int .i64 82]) (by simp [results, Try.results62, go_sem, d0, d1, d2, d3, d4, d5, evV, ev0]; try rfl) rfl ?_
  exact ⟨rfl, ⟨none, hq1, rfl⟩, Ch.below hb1⟩
set_option maxRecDepth 100000 in
set_option maxHeartbeats 8000000 in
theorem rmin_yes (qr : Nat) (E : Nat → Ev) (t : Tr) (most sum : Int) (W : World) (h : RQ W qr E t most sum) (ht : t ≠ .nil) (hs : Srt E t) (hn : t.size ≤ 8192) (hne : ∀ x ∈ t.ps, x ≠ 0) (hsum : 0 ≤ sum ∧ sum ≤ 4611686018427387904) :
    Calls Try.prog 62 #[.pointer (some ⟨qr, 0, none⟩)] W fun e' W' => e' = .returned (.tuple #[evV (E (openT sdL t).m), .int .i64 0]) ∧ RQ W' qr E (.node .nil (openT sdL t).m (openT sdL t).b) most (sum + (openT sdL t).k) ∧ Ch (S1 qr) W W' := by
  obtain ⟨p0, hq, hT⟩ := h
  obtain ⟨tb, rfl⟩ := tree_some hT ht
  obtain ⟨W1, hW1⟩ : ∃ W1, W.alloc (.cells #[.int .u64 0, .int .i64 0, .int .u64 0, .int .i64 0, .int .i64 0, .int .i64 0] 64) = W1 := ⟨_, rfl⟩
  have hb1 : Below W.heap.size W W1 := by rw [← hW1]; exact (Below.refl _ W).alloc (Nat.le_refl _) _
  have he1 : W1.heap[W.heap.size]? = some (.cells #[.int .u64 0, .int .i64 0, .int .u64 0, .int .i64 0, .int .i64 0, .int .i64 0] 64 (0, 0)) := by rw [← hW1]; exact World.alloc_heap_new W _
  have HW : Hid (W.alloc (.cells #[.int .u64 0, .int .i64 0, .int .u64 0, .int .i64 0, .int .i64 0, .int .i64 0] 64) = W1) := hW1
  have hq1 := hq.later hb1
  have hT1 := hT.later hb1
  obtain ⟨q0, q1, q2, q3⟩ := hq1.cells
  rw [← hW1] at q0 q1 q2 q3
  have lq := lt_of_block hq
  have hps := least_ps ht hne
  have hm : (openT sdL t).m ≠ 0 := hne _ (by rw [hps]; simp)
  have hsz := congrArg List.length hps
  rw [List.length_cons, Tr.size_ps, Tr.size_ps] at hsz
  have hk9 : (openT sdL t).k ≤ t.size := by have := openT_k _ side_sdL t.size t (Nat.le_refl _); omega
  have HL := rleast_any W1 hT1 ht hs hn hne
  generalize hO : (openT sdL t) = O at *
  clear hW1 hT1 hs hne hps ht hT
  go_enter Try.func62, Try.ntmps62
  go_upto_region 3 with fail
  rw [HW.out]
  clear q0 q1 q2 q3
  obtain ⟨q0, q1, q2, q3⟩ := hq1.cells
  have zf0 := hq1.frz 0
  have zf1 := hq1.frz 1
  have zf3 := hq1.frz 3
  have lq1 := lt_of_block hq1
  go_upto_region 4 with (go_at_call 76; (with_reducible refine HL.mono ?_); rintro e w3 ⟨pm, pb, rfl, hmm, hbq, hbb⟩)
  rcases hmm with ⟨h9, _⟩ | ⟨_, mb, ml, mr, rfl, hM⟩
  · exact absurd h9 hm
  have hq3 := hq1.later hbb
  have he3 := (hbb.block _ (lt_of_block he1)).trans he1
  have hb3 : Below W.heap.size W w3 := hb1.trans (hbb.mono hb1.size)
  have es : IntKind.i64.wrap (sum + (O.k : Int)) = sum + (O.k : Int) := by rw [IntKind.wrap_i64]; omega
  clear q0 q1 q2 q3 zf0 zf1 zf3 HL hbb hb1 hq1 he1 HW hq
  obtain ⟨q0, q1, q2, q3⟩ := hq3.cells
  have zf0 := hq3.frz 0
  have zf1 := hq3.frz 1
  have zf3 := hq3.frz 3
  have lq3 := lt_of_block hq3
  go_upto_region 5 with fail
  generalize hw4 : World.setCell w3 _ _ = w4
  have hq4 : QB w4 qr (some ⟨tb, 0, none⟩) (t.size : Int) most (sum + (O.k : Int)) := by rw [← hw4]; exact hq3.setS _
  have hm4 : MT w4 E O.m (some ⟨mb, 0, none⟩) := by rw [← hw4]; exact MT.setQ hq3 _ _ (.inr ⟨hm, mb, _, _, rfl, hM⟩)
  have hb4 : RT w4 E O.b pb := by rw [← hw4]; exact hbq.setQ hq3 _ _
  have hC4 : Ch (S1 qr) W w4 := by rw [← hw4]; exact (Ch.below hb3).trans (Ch.set _ _ _ _ _ rfl)
  have he4 : w4.heap[W.heap.size]? = some (.cells #[.int .u64 0, .int .i64 0, .int .u64 0, .int .i64 0, .int .i64 0, .int .i64 0] 64 (0, 0)) := by rw [← hw4]; exact (Below.heap_setCell _ _ _ _ fun e9 => by have e9 : W.heap.size = qr := e9; omega).trans he3
  clear hw4 q0 q1 q2 q3 zf0 zf1 zf3 hq3 he3 hb3 lq3 es hbq hM
  obtain ⟨q0, q1, q2, q3⟩ := hq4.cells
  have zf0 := hq4.frz 0
  have zf1 := hq4.frz 1
  have zf3 := hq4.frz 3
  have lq4 := lt_of_block hq4
  rcases hm4 with ⟨h9, _⟩ | ⟨_, mb', ml4, mr4, h9, hM⟩
  · exact absurd h9 hm
  cases h9
  obtain ⟨t0, t1, t2, t3, t4, t5, t6, t7⟩ := hM.cells
  have lM := lt_of_block hM
  have HZ : Hid (RT w4 E O.b pb ∧ Ch (S1 qr) W w4 ∧ (t.size = O.b.size + 1) ∧ QB w4 qr (some ⟨tb, 0, none⟩) (t.size : Int) most (sum + (O.k : Int)) ∧ w4.heap[W.heap.size]? = some (.cells #[.int .u64 0, .int .i64 0, .int .u64 0, .int .i64 0, .int .i64 0, .int .i64 0] 64 (0, 0)) ∧ TB w4 mb ml4 (E O.m) mr4) := ⟨hb4, hC4, hsz, hq4, he4, hM⟩
  clear hb4 hC4 hsz he4 hM hq4
  go_upto_region 6 with fail
  generalize hWG : World.alloc (World.setCell w4 _ _) _ = w9
  obtain ⟨hb4, hC4, hsz, hq4, he4, hM⟩ := HZ.out
  obtain ⟨hN, hq9, hkeep, hCG⟩ := node_put (e := E O.m) hq4 w9 hWG
  have he9 := (hCG.block W.heap.size (lt_of_block he4) (fun e9 => by have e9 : W.heap.size = qr := e9; omega)).trans he4
  have hM9 : TB w9 mb ml4 (E O.m) mr4 := (hkeep _ _ hM).trans hM
  have HY : Hid (QB w9 qr (some ⟨w4.heap.size, 0, none⟩) (t.size : Int) most (sum + (O.k : Int)) ∧ RT w9 E (.node .nil O.m O.b) (some ⟨w4.heap.size, 0, none⟩) ∧ Ch (S1 qr) W w9 ∧ t.size = O.b.size + 1) := ⟨hq9, ⟨_, _, _, rfl, hN, rfl, hb4.keep hkeep⟩, hC4.trans hCG, hsz⟩
  clear t0 t1 t2 t3 t4 t5 t6 t7 lM q0 q1 q2 q3 zf0 zf1 zf3 lq4 hWG HZ hb4 hC4 hq4 he4 hM hN hq9 hkeep hCG hsz
  obtain ⟨r0, r1, r2, r3, r4, r5⟩ := q6c he9
  have rf := frz he9
  have rf0 := rf 0; have rf1 := rf 1; have rf2 := rf 2; have rf3 := rf 3; have rf4 := rf 4; have rf5 := rf 5
  have le9 := lt_of_block he9
  clear rf
  obtain ⟨t0, t1, t2, t3, t4, t5, t6, t7⟩ := hM9.cells
  have lM := lt_of_block hM9
  go_wp2_with fail
  generalize hWF : (World.setCell (World.setCell (World.setCell (World.setCell (World.setCell (World.setCell w9 _ _) _ _) _ _) _ _) _ _) _ _) = wF
  obtain ⟨p1, p2, p3⟩ := put6 he9 _ _ _ _ _ _ wF hWF
  obtain ⟨d0, d1, d2, d3, d4, d5⟩ := q6c p1
  refine bodyPost_ret (v := .tuple #[evV (E O.m), .int .i64 0]) (by simp [results, Try.results62, go_sem, d0, d1, d2, d3, d4, d5, evV, ev0]; try rfl) rfl ?_
  obtain ⟨hq9, hT9, hC9, hsz⟩ := HY.out
  subst hO
  obtain ⟨a1, a2⟩ := res_fin hq9 he9 hT9 (by simp only [Tr.size]; omega) hC9 (Nat.le_refl _) p2 p3
  exact ⟨rfl, a1, a2⟩
set_option maxRecDepth 100000 in
set_option maxHeartbeats 8000000 in
theorem rpop_none (qr : Nat) (E : Nat → Ev) (most sum : Int) (W : World) (h : RQ W qr E .nil most sum) : Calls Try.prog 63 #[.pointer (some ⟨qr, 0, none⟩)] W fun e' W' => e' = .returned (.tuple #[evV ev0, .int .i64 82]) ∧ RQ W' qr E .nil most sum ∧ Ch (S1 qr) W W' := by
  obtain ⟨p0, hq, hT⟩ := h
  have h9 : p0 = none := hT
  subst h9
  obtain ⟨W1, hW1⟩ : ∃ W1, W.alloc (.cells #[.int .u64 0, .int .i64 0, .int .u64 0, .int .i64 0, .int .i64 0, .int .i64 0] 64) = W1 := ⟨_, rfl⟩
  have hb1 : Below W.heap.size W W1 := by rw [← hW1]; exact (Below.refl _ W).alloc (Nat.le_refl _) _
  have he1 : W1.heap[W.heap.size]? = some (.cells #[.int .u64 0, .int .i64 0, .int .u64 0, .int .i64 0, .int .i64 0, .int .i64 0] 64 (0, 0)) := by rw [← hW1]; exact World.alloc_heap_new W _
  have hq1 := hq.later hb1
  obtain ⟨q0, q1, q2, q3⟩ := hq1.cells
  obtain ⟨r0, r1, r2, r3, r4, r5⟩ := q6c he1
  have rf := frz he1
  have rf0 := rf 0; have rf1 := rf 1; have rf2 := rf 2; have rf3 := rf 3; have rf4 := rf 4; have rf5 := rf 5
  clear rf
  rw [← hW1] at q0 q1 q2 q3 r0 r1 r2 r3 r4 r5 rf0 rf1 rf2 rf3 rf4 rf5
  have HE : Hid (Below W.heap.size W W1 ∧ W1.heap[W.heap.size]? = some (.cells #[.int .u64 0, .int .i64 0, .int .u64 0, .int .i64 0, .int .i64 0, .int .i64 0] 64 (0, 0)) ∧ W.alloc (.cells #[.int .u64 0, .int .i64 0, .int .u64 0, .int .i64 0, .int .i64 0, .int .i64 0] 64) = W1 ∧ QB W1 qr none ((Tr.nil.size : Nat) : Int) most sum) := ⟨hb1, he1, hW1, hq1⟩
  clear hb1 he1 hW1 hq hT hq1
  go_enter Try.func63, Try.ntmps63
  go_wp2_with fail
  obtain ⟨hb1, he1, hW1, hq1⟩ := HE.out
  rw [hW1]
  obtain ⟨d0, d1, d2, d3, d4, d5⟩ := q6c he1
  refine bodyPost_ret (v := .tuple #[evV ev0, .int .i64 82]) (by simp [results, Try.results63, go_sem, d0, d1, d2, d3, d4, d5, evV, ev0]; try rfl) rfl ?_
  exact ⟨rfl, ⟨none, hq1, rfl⟩, Ch.below hb1⟩
set_option maxRecDepth 100000 in
set_option maxHeartbeats 8000000 in
theorem rpop_yes (qr : Nat) (E : Nat → Ev) (t : Tr) (most sum : Int) (W : World) (h : RQ W qr E t most sum) (ht : t ≠ .nil) (hs : Srt E t) (hn : t.size ≤ 8192) (hne : ∀ x ∈ t.ps, x ≠ 0) (hsum : 0 ≤ sum ∧ sum ≤ 4611686018427387904) :
    Calls Try.prog 63 #[.pointer (some ⟨qr, 0, none⟩)] W fun e' W' => e' = .returned (.tuple #[evV (E (openT sdL t).m), .int .i64 0]) ∧ RQ W' qr E (openT sdL t).b most (sum + (openT sdL t).k) ∧ Ch (S1 qr) W W' := by
  obtain ⟨p0, hq, hT⟩ := h
  obtain ⟨tb, rfl⟩ := tree_some hT ht
  obtain ⟨W1, hW1⟩ : ∃ W1, W.alloc (.cells #[.int .u64 0, .int .i64 0, .int .u64 0, .int .i64 0, .int .i64 0, .int .i64 0] 64) = W1 := ⟨_, rfl⟩
  have hb1 : Below W.heap.size W W1 := by rw [← hW1]; exact (Below.refl _ W).alloc (Nat.le_refl _) _
  have he1 : W1.heap[W.heap.size]? = some (.cells #[.int .u64 0, .int .i64 0, .int .u64 0, .int .i64 0, .int .i64 0, .int .i64 0] 64 (0, 0)) := by rw [← hW1]; exact World.alloc_heap_new W _
  have HW : Hid (W.alloc (.cells #[.int .u64 0, .int .i64 0, .int .u64 0, .int .i64 0, .int .i64 0, .int .i64 0] 64) = W1) := hW1
  have hq1 := hq.later hb1
  have hT1 := hT.later hb1
  obtain ⟨q0, q1, q2, q3⟩ := hq1.cells
  rw [← hW1] at q0 q1 q2 q3
  have lq := lt_of_block hq
  have hps := least_ps ht hne
  have hm : (openT sdL t).m ≠ 0 := hne _ (by rw [hps]; simp)
  have hsz := congrArg List.length hps
  rw [List.length_cons, Tr.size_ps, Tr.size_ps] at hsz
  have hk9 : (openT sdL t).k ≤ t.size := by have := openT_k _ side_sdL t.size t (Nat.le_refl _); omega
  have HL := rleast_any W1 hT1 ht hs hn hne
  generalize hO : (openT sdL t) = O at *
  clear hW1 hT1 hs hne hps ht hT
  go_enter Try.func63, Try.ntmps63
  go_upto_region 3 with fail
  rw [HW.out]
  clear q0 q1 q2 q3
  obtain ⟨q0, q1, q2, q3⟩ := hq1.cells
  have zf0 := hq1.frz 0
  have zf1 := hq1.frz 1
  have zf3 := hq1.frz 3
  have lq1 := lt_of_block hq1
  go_upto_region 4 with (go_at_call 76; (with_reducible refine HL.mono ?_); rintro e w3 ⟨pm, pb, rfl, hmm, hbq, hbb⟩)
  rcases hmm with ⟨h9, _⟩ | ⟨_, mb, ml, mr, rfl, hM⟩
  · exact absurd h9 hm
  have hq3 := hq1.later hbb
  have he3 := (hbb.block _ (lt_of_block he1)).trans he1
  have hb3 : Below W.heap.size W w3 := hb1.trans (hbb.mono hb1.size)
  have es : IntKind.i64.wrap (sum + (O.k : Int)) = sum + (O.k : Int) := by rw [IntKind.wrap_i64]; omega
  clear q0 q1 q2 q3 zf0 zf1 zf3 HL hbb hb1 hq1 he1 HW hq
  obtain ⟨q0, q1, q2, q3⟩ := hq3.cells
  have zf0 := hq3.frz 0
  have zf1 := hq3.frz 1
  have zf3 := hq3.frz 3
  have lq3 := lt_of_block hq3
  go_upto_region 5 with fail
  generalize hw4 : World.setCell w3 _ _ = w4
  have hq4 : QB w4 qr (some ⟨tb, 0, none⟩) (t.size : Int) most (sum + (O.k : Int)) := by rw [← hw4]; exact hq3.setS _
  have hm4 : MT w4 E O.m (some ⟨mb, 0, none⟩) := by rw [← hw4]; exact MT.setQ hq3 _ _ (.inr ⟨hm, mb, _, _, rfl, hM⟩)
  have hb4 : RT w4 E O.b pb := by rw [← hw4]; exact hbq.setQ hq3 _ _
  have hC4 : Ch (S1 qr) W w4 := by rw [← hw4]; exact (Ch.below hb3).trans (Ch.set _ _ _ _ _ rfl)
  have he4 : w4.heap[W.heap.size]? = some (.cells #[.int .u64 0, .int .i64 0, .int .u64 0, .int .i64 0, .int .i64 0, .int .i64 0] 64 (0, 0)) := by rw [← hw4]; exact (Below.heap_setCell _ _ _ _ fun e9 => by have e9 : W.heap.size = qr := e9; omega).trans he3
  clear hw4 q0 q1 q2 q3 zf0 zf1 zf3 hq3 he3 hb3 lq3 es hbq hM
  obtain ⟨q0, q1, q2, q3⟩ := hq4.cells
  have zf0 := hq4.frz 0
  have zf1 := hq4.frz 1
  have zf3 := hq4.frz 3
  have lq4 := lt_of_block hq4
  rcases hm4 with ⟨h9, _⟩ | ⟨_, mb', ml4, mr4, h9, hM⟩
  · exact absurd h9 hm
  cases h9
  have en : IntKind.i64.wrap ((t.size : Int) - 1) = (O.b.size : Int) := by rw [IntKind.wrap_i64]; omega
  have HZ : Hid (RT w4 E O.b pb ∧ Ch (S1 qr) W w4 ∧ QB w4 qr (some ⟨tb, 0, none⟩) (t.size : Int) most (sum + (O.k : Int)) ∧ w4.heap[W.heap.size]? = some (.cells #[.int .u64 0, .int .i64 0, .int .u64 0, .int .i64 0, .int .i64 0, .int .i64 0] 64 (0, 0)) ∧ TB w4 mb ml4 (E O.m) mr4) := ⟨hb4, hC4, hq4, he4, hM⟩
  clear hb4 hC4 hsz he4 hM hq4
  go_upto_region 6 with fail
  generalize hw5 : World.setCell w4 _ _ = w5
  obtain ⟨hb4, hC4, hq4, he4, hM⟩ := HZ.out
  have hq5 : QB w5 qr pb (t.size : Int) most (sum + (O.k : Int)) := by rw [← hw5]; exact hq4.setT _
  have hb5 : RT w5 E O.b pb := by rw [← hw5]; exact hb4.setQ hq4 _ _
  have hM5 : MT w5 E O.m (some ⟨mb, 0, none⟩) := by rw [← hw5]; exact MT.setQ hq4 _ _ (.inr ⟨hm, mb, _, _, rfl, hM⟩)
  have hC5 : Ch (S1 qr) W w5 := by rw [← hw5]; exact hC4.trans (Ch.set _ _ _ _ _ rfl)
  have he5 : w5.heap[W.heap.size]? = some (.cells #[.int .u64 0, .int .i64 0, .int .u64 0, .int .i64 0, .int .i64 0, .int .i64 0] 64 (0, 0)) := by rw [← hw5]; exact (Below.heap_setCell _ _ _ _ fun e9 => by have e9 : W.heap.size = qr := e9; omega).trans he4
  clear hw5 q0 q1 q2 q3 zf0 zf1 zf3 lq4 HZ hb4 hC4 hq4 he4 hM
  obtain ⟨q0, q1, q2, q3⟩ := hq5.cells
  have zf0 := hq5.frz 0
  have zf1 := hq5.frz 1
  have zf3 := hq5.frz 3
  have lq5 := lt_of_block hq5
  have HZ : Hid (RT w5 E O.b pb ∧ Ch (S1 qr) W w5 ∧ QB w5 qr pb (t.size : Int) most (sum + (O.k : Int)) ∧ w5.heap[W.heap.size]? = some (.cells #[.int .u64 0, .int .i64 0, .int .u64 0, .int .i64 0, .int .i64 0, .int .i64 0] 64 (0, 0)) ∧ MT w5 E O.m (some ⟨mb, 0, none⟩)) := ⟨hb5, hC5, hq5, he5, hM5⟩
  clear hb5 hC5 hq5 he5 hM5
  go_upto_region 7 with fail
  generalize hw9 : World.setCell w5 _ _ = w9
  obtain ⟨hb5, hC5, hq5, he5, hM5⟩ := HZ.out
  have hq9 : QB w9 qr pb (O.b.size : Int) most (sum + (O.k : Int)) := by rw [← hw9]; exact hq5.setN _
  have hb9 : RT w9 E O.b pb := by rw [← hw9]; exact hb5.setQ hq5 _ _
  have hM9 : MT w9 E O.m (some ⟨mb, 0, none⟩) := by rw [← hw9]; exact hM5.setQ hq5 _ _
  have hC9 : Ch (S1 qr) W w9 := by rw [← hw9]; exact hC5.trans (Ch.set _ _ _ _ _ rfl)
  have he9 : w9.heap[W.heap.size]? = some (.cells #[.int .u64 0, .int .i64 0, .int .u64 0, .int .i64 0, .int .i64 0, .int .i64 0] 64 (0, 0)) := by rw [← hw9]; exact (Below.heap_setCell _ _ _ _ fun e9 => by have e9 : W.heap.size = qr := e9; omega).trans he5
  clear hw9 q0 q1 q2 q3 zf0 zf1 zf3 lq5 HZ hb5 hC5 hq5 he5 hM5
  rcases hM9 with ⟨h9, _⟩ | ⟨_, mb', ml9, mr9, h9, hM⟩
  · exact absurd h9 hm
  cases h9
  obtain ⟨r0, r1, r2, r3, r4, r5⟩ := q6c he9
  have rf := frz he9
  have rf0 := rf 0; have rf1 := rf 1; have rf2 := rf 2; have rf3 := rf 3; have rf4 := rf 4; have rf5 := rf 5
  have le9 := lt_of_block he9
  clear rf
  obtain ⟨t0, t1, t2, t3, t4, t5, t6, t7⟩ := hM.cells
  have lM := lt_of_block hM
  have HY : Hid (QB w9 qr pb (O.b.size : Int) most (sum + (O.k : Int)) ∧ RT w9 E O.b pb ∧ Ch (S1 qr) W w9) := ⟨hq9, hb9, hC9⟩
  clear hq9 hb9 hC9 hM
  go_wp2_with fail
  generalize hWF : (World.setCell (World.setCell (World.setCell (World.setCell (World.setCell (World.setCell w9 _ _) _ _) _ _) _ _) _ _) _ _) = wF
  obtain ⟨p1, p2, p3⟩ := put6 he9 _ _ _ _ _ _ wF hWF
  obtain ⟨d0, d1, d2, d3, d4, d5⟩ := q6c p1
  refine bodyPost_ret (v := .tuple #[evV (E O.m), .int .i64 0]) (by simp [results, Try.results63, go_sem, d0, d1, d2, d3, d4, d5, evV, ev0]; try rfl) rfl ?_
  obtain ⟨hq9, hT9, hC9⟩ := HY.out
  subst hO
  obtain ⟨a1, a2⟩ := res_fin hq9 he9 hT9 rfl hC9 (Nat.le_refl _) p2 p3
  exact ⟨rfl, a1, a2⟩
end Go.Proofs.Ytlklolmhaiaaiaa
