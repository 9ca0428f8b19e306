import Derived.Test.YtlklolmhaiaaiaaKYR4
namespace Go.Proofs.Ytlklolmhaiaaiaa
open Go.ChangeShapes Go.WideShapes Go.ChangeAt Go.RowKit
set_option linter.unusedVariables false
set_option linter.unusedSimpArgs false

def S1 (q : Nat) : Nat → Prop := fun k => k = q
def QB (W : World) (qr : Nat) (p : Option Addr) (n most sum : Int) : Prop := W.heap[qr]? = some (.cells #[.pointer p, .int .i64 n, .int .i64 most, .int .i64 sum] 82 (0, 0))
theorem QB.cells {W : World} {qr : Nat} {p : Option Addr} {n most sum : Int} (h : QB W qr p n most sum) : W.cell? ⟨qr, 0, none⟩ = some (.pointer p) ∧ W.cell? ⟨qr, 1, none⟩ = some (.int .i64 n) ∧ W.cell? ⟨qr, 2, none⟩ = some (.int .i64 most) ∧ W.cell? ⟨qr, 3, none⟩ = some (.int .i64 sum) := by
  unfold QB at h
  refine ⟨?_, ?_, ?_, ?_⟩
  all_goals (unfold World.cell?; rw [h]; rfl)
theorem QB.frz {W : World} {qr : Nat} {p : Option Addr} {n most sum : Int} (h : QB W qr p n most sum) (k : Nat) : W.frozen? ⟨qr, k, none⟩ = false := by
  unfold QB at h
  simp [World.frozen?, h]
theorem QB.later {W W' : World} {qr : Nat} {p : Option Addr} {n most sum : Int} (h : QB W qr p n most sum) (hb : Below W.heap.size W W') : QB W' qr p n most sum := (hb.block qr (lt_of_block h)).trans h
theorem QB.setT {W : World} {qr : Nat} {p : Option Addr} {n most sum : Int} (h : QB W qr p n most sum) (p' : Option Addr) : QB (W.setCell ⟨qr, 0, none⟩ (.pointer p')) qr p' n most sum := by
  unfold QB at h ⊢; rw [setCell_block _ _ _ _ h]; rfl
theorem QB.setN {W : World} {qr : Nat} {p : Option Addr} {n most sum : Int} (h : QB W qr p n most sum) (n' : Int) : QB (W.setCell ⟨qr, 1, none⟩ (.int .i64 n')) qr p n' most sum := by
  unfold QB at h ⊢; rw [setCell_block _ _ _ _ h]; rfl
theorem QB.setS {W : World} {qr : Nat} {p : Option Addr} {n most sum : Int} (h : QB W qr p n most sum) (s' : Int) : QB (W.setCell ⟨qr, 3, none⟩ (.int .i64 s')) qr p n most s' := by
  unfold QB at h ⊢; rw [setCell_block _ _ _ _ h]; rfl
/-- a store into the queue's own block leaves the trees -/
theorem RT.setQ {W : World} {E : Nat → Ev} {t : Tr} {p q : Option Addr} {qr : Nat} {n most sum : Int} (hq : QB W qr q n most sum) (k : Nat) (v : Value) (h : RT W E t p) : RT (W.setCell ⟨qr, k, none⟩ v) E t p := h.keep fun j c hj => Below.heap_setCell _ _ _ _ fun e => by
  have e : j = qr := e
  subst e
  unfold QB at hq
  rw [hq] at hj
  injection hj with hj
  injection hj with _ hj
  exact absurd hj (by decide)
theorem MT.setQ {W : World} {E : Nat → Ev} {m : Nat} {pm q : Option Addr} {qr : Nat} {n most sum : Int} (hq : QB W qr q n most sum) (k : Nat) (v : Value) (h : MT W E m pm) : MT (W.setCell ⟨qr, k, none⟩ v) E m pm := by
  rcases h with h | ⟨h1, b, pl, pr, h2, h3⟩
  · exact .inl h
  · refine .inr ⟨h1, b, pl, pr, h2, ?_⟩
    have h4 : RT W E (.node .nil m .nil) (some ⟨b, 0, none⟩) ∨ True := .inr trivial
    refine (Below.heap_setCell _ _ _ _ fun e => ?_).trans h3
    have e : b = qr := e
    subst e
    unfold QB at hq
    unfold TB at h3
    rw [hq] at h3
    injection h3 with h3
    injection h3 with _ h3
    exact absurd h3 (by decide)
def RQ (W : World) (qr : Nat) (E : Nat → Ev) (t : Tr) (most sum : Int) : Prop := ∃ p, QB W qr p (t.size : Int) most sum ∧ RT W E t p
theorem RQ.later {W W' : World} {qr : Nat} {E : Nat → Ev} {t : Tr} {most sum : Int} (h : RQ W qr E t most sum) (hb : Below W.heap.size W W') : RQ W' qr E t most sum := by
  obtain ⟨p, h1, h2⟩ := h
  exact ⟨p, h1.later hb, h2.later hb⟩
theorem RQ.lt {W : World} {qr : Nat} {E : Nat → Ev} {t : Tr} {most sum : Int} (h : RQ W qr E t most sum) : qr < W.heap.size := lt_of_block h.choose_spec.1
theorem RQ.congr {W : World} {qr : Nat} {E E' : Nat → Ev} {t : Tr} {most sum : Int} (h : RQ W qr E t most sum) (hc : ∀ x ∈ t.ps, E' x = E x) : RQ W qr E' t most sum := by
  obtain ⟨p, h1, h2⟩ := h
  exact ⟨p, h1, h2.congr hc⟩
theorem RQ.keep {W W' : World} {qr : Nat} {E : Nat → Ev} {t : Tr} {most sum : Int} (h : RQ W qr E t most sum) (hq : W'.heap[qr]? = W.heap[qr]?) (hb : ∀ (k : Nat) (v : Array Value), W.heap[k]? = some (Obj.cells v 105 (0, 0)) → W'.heap[k]? = W.heap[k]?) : RQ W' qr E t most sum := by
  obtain ⟨p, h1, h2⟩ := h
  exact ⟨p, hq.trans h1, h2.keep hb⟩
/-- a node and a store of its place into the queue -/
theorem node_put {W : World} {qr : Nat} {p a b : Option Addr} {n most sum : Int} {e : Ev} (h : QB W qr p n most sum) (wF : World) (hw : (W.setCell ⟨qr, 0, none⟩ (.pointer (some ⟨W.heap.size, 0, none⟩))).alloc (.cells #[.pointer a, .int .u64 e.t, .int .i64 e.s, .int .u64 e.q, .int .i64 e.d, .int .i64 e.k, .int .i64 e.v, .pointer b] 105) = wF) : TB wF W.heap.size a e b ∧ QB wF qr (some ⟨W.heap.size, 0, none⟩) n most sum ∧ (∀ (k : Nat) (v : Array Value), W.heap[k]? = some (Obj.cells v 105 (0, 0)) → wF.heap[k]? = W.heap[k]?) ∧ Ch (S1 qr) W wF := by
  subst hw
  have hs : (W.setCell ⟨qr, 0, none⟩ (.pointer (some ⟨W.heap.size, 0, none⟩))).heap.size = W.heap.size := by simp [World.setCell]
  have hC : Ch (S1 qr) W (W.setCell ⟨qr, 0, none⟩ (.pointer (some ⟨W.heap.size, 0, none⟩))) := Ch.set _ _ _ _ _ rfl
  have hB := (Below.refl (W.setCell ⟨qr, 0, none⟩ (.pointer (some ⟨W.heap.size, 0, none⟩))).heap.size (W.setCell ⟨qr, 0, none⟩ (.pointer (some ⟨W.heap.size, 0, none⟩)))).alloc (Nat.le_refl _) (.cells #[.pointer a, .int .u64 e.t, .int .i64 e.s, .int .u64 e.q, .int .i64 e.d, .int .i64 e.k, .int .i64 e.v, .pointer b] 105)
  refine ⟨?_, (h.setT _).later hB, fun k v hk => ?_, hC.trans (Ch.below hB)⟩
  · have := World.alloc_heap_new (W.setCell ⟨qr, 0, none⟩ (.pointer (some ⟨W.heap.size, 0, none⟩))) (.cells #[.pointer a, .int .u64 e.t, .int .i64 e.s, .int .u64 e.q, .int .i64 e.d, .int .i64 e.k, .int .i64 e.v, .pointer b] 105)
    rw [hs] at this
    exact this
  · have hkl := lt_of_block hk
    refine (hB.block k (by rw [hs]; exact hkl)).trans (Below.heap_setCell _ _ _ _ fun e => ?_)
    have e : k = qr := e
    subst e
    unfold QB at h
    rw [h] at hk
    injection hk with hk
    injection hk with _ hk
    exact absurd hk (by decide)
theorem Ch.rq {W W' : World} {qr q2 : Nat} {E : Nat → Ev} {t : Tr} {most sum : Int} (hC : Ch (S1 q2) W W') (h : RQ W qr E t most sum) (hne : qr ≠ q2) (hq2 : ∃ v, W.heap[q2]? = some (Obj.cells v 82 (0, 0))) : RQ W' qr E t most sum := h.keep (hC.block _ h.lt hne) fun k v hk => hC.block k (lt_of_block hk) fun e => by
  have e : k = q2 := e
  subst e
  obtain ⟨v2, h2⟩ := hq2
  rw [h2] at hk
  injection hk with hk
  injection hk with _ hk
  exact absurd hk (by decide)
set_option maxRecDepth 100000 in
set_option maxHeartbeats 8000000 in
theorem rnew_bad (room : Int) (W : World) (h : room < 1 ∨ 8192 < room) : Calls Try.prog 15 #[.int .i64 room] W fun e W' => e = .returned (.tuple #[.pointer none, .int .i64 84]) ∧ Below W.heap.size W W' := by
  by_cases h1 : room < 1
  · have d1 : decide (room < 1) = true := by simpa using h1
    clear h
    go_enter Try.func15, Try.ntmps15
    go_wp2_with fail
    refine bodyPost_ret (v := .tuple #[.pointer none, .int .i64 84]) (by simp [results, Try.results15, go_sem]; try rfl) rfl ?_
    exact ⟨rfl, Below.refl _ _⟩
  · have d1 : decide (room < 1) = false := by simpa using h1
    have d2 : decide (room > 8192) = true := by simp; omega
    clear h
    go_enter Try.func15, Try.ntmps15
    go_wp2_with fail
    refine bodyPost_ret (v := .tuple #[.pointer none, .int .i64 84]) (by simp [results, Try.results15, go_sem]; try rfl) rfl ?_
    exact ⟨rfl, Below.refl _ _⟩
set_option maxRecDepth 100000 in
set_option maxHeartbeats 8000000 in
theorem rnew_good (room : Int) (W : World) (h1 : 1 ≤ room) (h2 : room ≤ 8192) (E : Nat → Ev) : Calls Try.prog 15 #[.int .i64 room] W fun e W' => e = .returned (.tuple #[.pointer (some ⟨W.heap.size, 0, none⟩), .int .i64 0]) ∧ RQ W' W.heap.size E .nil room 0 ∧ Below W.heap.size W W' := by
  have d1 : decide (room < 1) = false := by simp; omega
  have d2 : decide (room > 8192) = false := by simp; omega
  go_enter Try.func15, Try.ntmps15
  go_wp2_with fail
  refine bodyPost_ret (v := .tuple #[.pointer (some ⟨W.heap.size, 0, none⟩), .int .i64 0]) (by simp [results, Try.results15, go_sem]; try rfl) rfl ?_
  exact ⟨rfl, ⟨none, World.alloc_heap_new W _, rfl⟩, (Below.refl _ W).alloc (Nat.le_refl _) _⟩
theorem open_sub (sd : Tr → Int) (hs : Side sd) {t : Tr} (hne : ∀ x ∈ t.ps, x ≠ 0) (q : Nat) (h : q ∈ (openT sd t).a.ps ∨ q ∈ (openT sd t).b.ps) : q ∈ t.ps := by
  rw [← openT_ps hs t.size t (Nat.le_refl _) hne]
  rcases h with h | h <;> simp [h]
set_option maxRecDepth 100000 in
set_option maxHeartbeats 8000000 in
theorem rins_full (qr : Nat) (E : Nat → Ev) (t : Tr) (most sum : Int) (e : Ev) (W : World) (h : RQ W qr E t most sum) (hn : t.size ≤ 8192) (hne : ∀ x ∈ t.ps, x ≠ 0) (hsum : 0 ≤ sum ∧ sum ≤ 4611686018427387904) (hf : (t.size : Int) = most) :
    Calls Try.prog 42 #[.pointer (some ⟨qr, 0, none⟩), evV e] W fun e' W' => e' = .returned (.int .i64 80) ∧ RQ W' qr E t most sum ∧ Ch (S1 qr) W W' := by
  obtain ⟨p0, hq, ht⟩ := h
  obtain ⟨W1, hW1⟩ : ∃ W1, W.alloc (.cells #[.int .u64 e.t, .int .i64 e.s, .int .u64 e.q, .int .i64 e.d, .int .i64 e.k, .int .i64 e.v] 64) = W1 := ⟨_, rfl⟩
  have hb1 : Below W.heap.size W W1 := by rw [← hW1]; exact (Below.refl _ W).alloc (Nat.le_refl _) _
  have he1 : W1.heap[W.heap.size]? = some (.cells #[.int .u64 e.t, .int .i64 e.s, .int .u64 e.q, .int .i64 e.d, .int .i64 e.k, .int .i64 e.v] 64 (0, 0)) := by rw [← hW1]; exact World.alloc_heap_new W _
  have HW : Hid (W.alloc (.cells #[.int .u64 e.t, .int .i64 e.s, .int .u64 e.q, .int .i64 e.d, .int .i64 e.k, .int .i64 e.v] 64) = W1) := hW1
  have hq1 := hq.later hb1
  have ht1 := ht.later hb1
  obtain ⟨q0, q1, q2, q3⟩ := hq1.cells
  rw [← hW1] at q0 q1 q2 q3
  have lq := lt_of_block hq
  have l1 := lt_of_block he1
  clear hW1
  have df : ((t.size : Int) == most) = true := by simpa using hf
  unfold evV
  go_enter Try.func42, Try.ntmps42
  go_wp2_with fail
  go_quiet (fail)
  go_wp2
  go_ret
  rw [HW.out]
  have hd := below_drewNq W1.heap.size W1
  exact ⟨rfl, ⟨p0, hq1.later (below_drewNq _ _ _), ht1.later (below_drewNq _ _ _)⟩, Ch.below (hb1.trans (below_drewNq _ _ _))⟩
set_option maxRecDepth 100000 in
set_option maxHeartbeats 8000000 in
theorem rins_twin (qr : Nat) (E : Nat → Ev) (t : Tr) (most sum : Int) (e : Ev) (W : World) (h : RQ W qr E t most sum) (hn : t.size ≤ 8192) (hne : ∀ x ∈ t.ps, x ≠ 0) (hsum : 0 ≤ sum ∧ sum ≤ 4611686018427387904) (hf : (t.size : Int) ≠ most) (hm : (openT (sdK e.t e.s e.q E) t).m ≠ 0) :
    Calls Try.prog 42 #[.pointer (some ⟨qr, 0, none⟩), evV e] W fun e' W' => e' = .returned (.int .i64 81) ∧ RQ W' qr E (.node (openT (sdK e.t e.s e.q E) t).a (openT (sdK e.t e.s e.q E) t).m (openT (sdK e.t e.s e.q E) t).b) most (sum + (openT (sdK e.t e.s e.q E) t).k) ∧ Ch (S1 qr) W W' := by
  obtain ⟨p0, hq, ht⟩ := h
  obtain ⟨W1, hW1⟩ : ∃ W1, W.alloc (.cells #[.int .u64 e.t, .int .i64 e.s, .int .u64 e.q, .int .i64 e.d, .int .i64 e.k, .int .i64 e.v] 64) = W1 := ⟨_, rfl⟩
  have hb1 : Below W.heap.size W W1 := by rw [← hW1]; exact (Below.refl _ W).alloc (Nat.le_refl _) _
  have he1 : W1.heap[W.heap.size]? = some (.cells #[.int .u64 e.t, .int .i64 e.s, .int .u64 e.q, .int .i64 e.d, .int .i64 e.k, .int .i64 e.v] 64 (0, 0)) := by rw [← hW1]; exact World.alloc_heap_new W _
  have HW : Hid (W.alloc (.cells #[.int .u64 e.t, .int .i64 e.s, .int .u64 e.q, .int .i64 e.d, .int .i64 e.k, .int .i64 e.v] 64) = W1) := hW1
  have hq1 := hq.later hb1
  have ht1 := ht.later hb1
  obtain ⟨q0, q1, q2, q3⟩ := hq1.cells
  rw [← hW1] at q0 q1 q2 q3
  have lq := lt_of_block hq
  have l1 := lt_of_block he1
  clear hW1
  have df : ((t.size : Int) == most) = false := by simpa using hf
  have hk9 : (openT (sdK e.t e.s e.q E) t).k ≤ t.size := by have := openT_k _ (side_sdK e.t e.s e.q E) t.size t (Nat.le_refl _); omega
  have hsz9 : (Tr.node (openT (sdK e.t e.s e.q E) t).a (openT (sdK e.t e.s e.q E) t).m (openT (sdK e.t e.s e.q E) t).b).size = t.size := by
    have h9 := congrArg List.length (openT_ps (side_sdK e.t e.s e.q E) t.size t (Nat.le_refl _) hne)
    rw [midn hm] at h9
    simp only [List.length_append, List.length_cons, List.length_nil, Tr.size_ps] at h9
    simp only [Tr.size]
    omega
  unfold evV
  go_enter Try.func42, Try.ntmps42
  go_wp2_with fail
  go_quiet (fail)
  rw [HW.out]
  generalize hwb : World.drewN W1 _ = WB
  have hbB : Below W1.heap.size W1 WB := by rw [← hwb]; exact below_drewNq _ _ _
  have hqB := hq1.later hbB
  have htB := ht1.later hbB
  have heB := (hbB.block _ l1).trans he1
  have hO := open_ref (sdC_K e.t e.s e.q E) t.size t p0 WB.drew (Nat.le_refl _) hn hne (htB.later (below_drewNq _ WB 1))
  unfold cutV at hO
  clear hwb q0 q1 q2 q3 hq1 ht1 he1
  obtain ⟨q0, q1, q2, q3⟩ := hqB.cells
  obtain ⟨v0, v1, v2, v3, v4, v5⟩ := q6c heB
  have lqB := lt_of_block hqB
  have leB := lt_of_block heB
  generalize hOO : (openT (sdK e.t e.s e.q E) t) = O at *
  have HH : Hid (QB WB qr p0 (t.size : Int) most sum ∧ WB.heap[W.heap.size]? = some (.cells #[.int .u64 e.t, .int .i64 e.s, .int .u64 e.q, .int .i64 e.d, .int .i64 e.k, .int .i64 e.v] 64 (0, 0)) ∧ Below W.heap.size W WB ∧ (Tr.node O.a O.m O.b).size = t.size ∧ O.m ≠ 0) := ⟨hqB, heB, hb1.trans (hbB.mono hb1.size), hsz9, hm⟩
  clear hqB htB heB hb1 hbB hsz9 hm HW hq ht hf df
  go_wp2_with fail
  go_region_held3 (fun W9 => W9.cell? ⟨qr, 0, none⟩ = some (.pointer p0) ∧ W9.cell? ⟨W.heap.size, 0, none⟩ = some (.int .u64 e.t) ∧ W9.cell? ⟨W.heap.size, 1, none⟩ = some (.int .i64 e.s) ∧ W9.cell? ⟨W.heap.size, 2, none⟩ = some (.int .u64 e.q)) (first | exact ⟨q0, v0, v1, v2⟩ | with_reducible exact KP | go_keep) ((go_at_call 50; (with_reducible refine hO.mono ?_); rintro e' w3 ⟨pa, pm, pb, rfl, ha, hmm, hb, hbb⟩; have hb3 : Below WB.heap.size WB w3 := (below_drewNq _ WB 1).trans (hbb.mono (Nat.le_refl _)); have KP : (fun W9 => W9.cell? ⟨qr, 0, none⟩ = some (.pointer p0) ∧ W9.cell? ⟨W.heap.size, 0, none⟩ = some (.int .u64 e.t) ∧ W9.cell? ⟨W.heap.size, 1, none⟩ = some (.int .i64 e.s) ∧ W9.cell? ⟨W.heap.size, 2, none⟩ = some (.int .u64 e.q)) w3 := ⟨(cell_below hb3 lqB).trans q0, (cell_below hb3 leB).trans v0, (cell_below hb3 leB).trans v1, (cell_below hb3 leB).trans v2⟩))
  clear KP q0 q1 q2 q3 v0 v1 v2 v3 v4 v5 hO
  obtain ⟨hqB, heB, hb1, hsz9, hm⟩ := HH.out
  have hq3 := hqB.later hb3
  have he3 := (hb3.block _ leB).trans heB
  have hb13 : Below W.heap.size W w3 := hb1.trans (hb3.mono hb1.size)
  obtain ⟨q0, q1, q2, q3⟩ := hq3.cells
  have zf := hq3.frz 3
  have lq3 := lt_of_block hq3
  have es : IntKind.i64.wrap (sum + (O.k : Int)) = sum + (O.k : Int) := by rw [IntKind.wrap_i64]; omega
  have HA : Hid (RT w3 E O.a pa ∧ MT w3 E O.m pm ∧ RT w3 E O.b pb) := ⟨ha, hmm, hb⟩
  clear HH ha hmm hb hqB heB hb1 hbb hb3 lqB leB
  go_upto_region 5 with fail
  generalize hw4 : World.setCell w3 _ _ = w4
  have hq4 : QB w4 qr p0 (t.size : Int) most (sum + (O.k : Int)) := by rw [← hw4]; exact hq3.setS _
  have ha4 : RT w4 E O.a pa := by rw [← hw4]; exact HA.out.1.setQ hq3 _ _
  have hm4 : MT w4 E O.m pm := by rw [← hw4]; exact HA.out.2.1.setQ hq3 _ _
  have hb4 : RT w4 E O.b pb := by rw [← hw4]; exact HA.out.2.2.setQ hq3 _ _
  have hC4 : Ch (S1 qr) W w4 := by rw [← hw4]; exact (Ch.below hb13).trans (Ch.set _ _ _ _ _ rfl)
  have he4 : w4.heap[W.heap.size]? = some (.cells #[.int .u64 e.t, .int .i64 e.s, .int .u64 e.q, .int .i64 e.d, .int .i64 e.k, .int .i64 e.v] 64 (0, 0)) := by
    rw [← hw4]; exact (Below.heap_setCell _ _ _ _ fun e9 => by have e9 : W.heap.size = qr := e9; omega).trans he3
  clear hw4 q0 q1 q2 q3 zf hq3 he3 hb13 lq3 es HA
  obtain ⟨q0, q1, q2, q3⟩ := hq4.cells
  have zf0 := hq4.frz 0
  have zf1 := hq4.frz 1
  have lq4 := lt_of_block hq4
  rcases hm4 with ⟨h9, _⟩ | ⟨_, mb, ml, mr, rfl, hM⟩
  · exact absurd h9 hm
  obtain ⟨t0, t1, t2, t3, t4, t5, t6, t7⟩ := hM.cells
  have lM := lt_of_block hM
  have HZ : Hid (RT w4 E O.a pa ∧ RT w4 E O.b pb ∧ Ch (S1 qr) W w4 ∧ (Tr.node O.a O.m O.b).size = t.size ∧ O.m ≠ 0 ∧ QB w4 qr p0 (t.size : Int) most (sum + (O.k : Int))) := ⟨ha4, hb4, hC4, hsz9, hm, hq4⟩
  clear ha4 hb4 hC4 hsz9 hm hM he4 hq4
  go_wp2_with fail
  generalize hWF : World.alloc (World.setCell w4 _ _) _ = wF
  go_ret
  obtain ⟨ha4, hb4, hC4, hsz9, hm, hq4⟩ := HZ.out
  obtain ⟨hN, hQF, hkeep, hCF⟩ := node_put hq4 wF hWF
  subst hOO
  exact ⟨rfl, ⟨_, by rw [hsz9]; exact hQF, ⟨_, _, _, rfl, hN, ha4.keep hkeep, hb4.keep hkeep⟩⟩, hC4.trans hCF⟩
set_option maxRecDepth 100000 in
set_option maxHeartbeats 8000000 in
theorem rins_new (qr : Nat) (E : Nat → Ev) (t : Tr) (most sum : Int) (e : Ev) (W : World) (h : RQ W qr E t most sum) (hn : t.size ≤ 8192) (hne : ∀ x ∈ t.ps, x ≠ 0) (hsum : 0 ≤ sum ∧ sum ≤ 4611686018427387904) (hf : (t.size : Int) ≠ most) (hm : (openT (sdK e.t e.s e.q E) t).m = 0) (p : Nat) (E' : Nat → Ev) (hEp : E' p = e) (hE : ∀ q ∈ t.ps, E' q = E q) :
    Calls Try.prog 42 #[.pointer (some ⟨qr, 0, none⟩), evV e] W fun e' W' => e' = .returned (.int .i64 0) ∧ RQ W' qr E' (.node (openT (sdK e.t e.s e.q E) t).a p (openT (sdK e.t e.s e.q E) t).b) most (sum + (openT (sdK e.t e.s e.q E) t).k) ∧ Ch (S1 qr) W W' := by
  obtain ⟨p0, hq, ht⟩ := h
  obtain ⟨W1, hW1⟩ : ∃ W1, W.alloc (.cells #[.int .u64 e.t, .int .i64 e.s, .int .u64 e.q, .int .i64 e.d, .int .i64 e.k, .int .i64 e.v] 64) = W1 := ⟨_, rfl⟩
  have hb1 : Below W.heap.size W W1 := by rw [← hW1]; exact (Below.refl _ W).alloc (Nat.le_refl _) _
  have he1 : W1.heap[W.heap.size]? = some (.cells #[.int .u64 e.t, .int .i64 e.s, .int .u64 e.q, .int .i64 e.d, .int .i64 e.k, .int .i64 e.v] 64 (0, 0)) := by rw [← hW1]; exact World.alloc_heap_new W _
  have HW : Hid (W.alloc (.cells #[.int .u64 e.t, .int .i64 e.s, .int .u64 e.q, .int .i64 e.d, .int .i64 e.k, .int .i64 e.v] 64) = W1) := hW1
  have hq1 := hq.later hb1
  have ht1 := ht.later hb1
  obtain ⟨q0, q1, q2, q3⟩ := hq1.cells
  rw [← hW1] at q0 q1 q2 q3
  have lq := lt_of_block hq
  have l1 := lt_of_block he1
  clear hW1
  have df : ((t.size : Int) == most) = false := by simpa using hf
  have hk9 : (openT (sdK e.t e.s e.q E) t).k ≤ t.size := by have := openT_k _ (side_sdK e.t e.s e.q E) t.size t (Nat.le_refl _); omega
  have hsz9 : (Tr.node (openT (sdK e.t e.s e.q E) t).a p (openT (sdK e.t e.s e.q E) t).b).size = t.size + 1 := by
    have h9 := congrArg List.length (openT_ps (side_sdK e.t e.s e.q E) t.size t (Nat.le_refl _) hne)
    rw [hm, mid0] at h9
    simp only [List.length_append, List.length_cons, List.length_nil, Tr.size_ps] at h9
    simp only [Tr.size]
    omega
  unfold evV
  go_enter Try.func42, Try.ntmps42
  go_wp2_with fail
  go_quiet (fail)
  rw [HW.out]
  generalize hwb : World.drewN W1 _ = WB
  have hbB : Below W1.heap.size W1 WB := by rw [← hwb]; exact below_drewNq _ _ _
  have hqB := hq1.later hbB
  have htB := ht1.later hbB
  have heB := (hbB.block _ l1).trans he1
  have hO := open_ref (sdC_K e.t e.s e.q E) t.size t p0 WB.drew (Nat.le_refl _) hn hne (htB.later (below_drewNq _ WB 1))
  unfold cutV at hO
  clear hwb q0 q1 q2 q3 hq1 ht1 he1
  obtain ⟨q0, q1, q2, q3⟩ := hqB.cells
  obtain ⟨v0, v1, v2, v3, v4, v5⟩ := q6c heB
  have lqB := lt_of_block hqB
  have leB := lt_of_block heB
  generalize hOO : (openT (sdK e.t e.s e.q E) t) = O at *
  have HH : Hid (QB WB qr p0 (t.size : Int) most sum ∧ WB.heap[W.heap.size]? = some (.cells #[.int .u64 e.t, .int .i64 e.s, .int .u64 e.q, .int .i64 e.d, .int .i64 e.k, .int .i64 e.v] 64 (0, 0)) ∧ Below W.heap.size W WB ∧ (Tr.node O.a p O.b).size = t.size + 1 ∧ O.m = 0) := ⟨hqB, heB, hb1.trans (hbB.mono hb1.size), hsz9, hm⟩
  clear hqB htB heB hb1 hbB hsz9 hm HW hq ht hf df
  go_wp2_with fail
  go_region_held3 (fun W9 => W9.cell? ⟨qr, 0, none⟩ = some (.pointer p0) ∧ W9.cell? ⟨W.heap.size, 0, none⟩ = some (.int .u64 e.t) ∧ W9.cell? ⟨W.heap.size, 1, none⟩ = some (.int .i64 e.s) ∧ W9.cell? ⟨W.heap.size, 2, none⟩ = some (.int .u64 e.q)) (first | exact ⟨q0, v0, v1, v2⟩ | with_reducible exact KP | go_keep) ((go_at_call 50; (with_reducible refine hO.mono ?_); rintro e' w3 ⟨pa, pm, pb, rfl, ha, hmm, hb, hbb⟩; have hb3 : Below WB.heap.size WB w3 := (below_drewNq _ WB 1).trans (hbb.mono (Nat.le_refl _)); have KP : (fun W9 => W9.cell? ⟨qr, 0, none⟩ = some (.pointer p0) ∧ W9.cell? ⟨W.heap.size, 0, none⟩ = some (.int .u64 e.t) ∧ W9.cell? ⟨W.heap.size, 1, none⟩ = some (.int .i64 e.s) ∧ W9.cell? ⟨W.heap.size, 2, none⟩ = some (.int .u64 e.q)) w3 := ⟨(cell_below hb3 lqB).trans q0, (cell_below hb3 leB).trans v0, (cell_below hb3 leB).trans v1, (cell_below hb3 leB).trans v2⟩))
  clear KP q0 q1 q2 q3 v0 v1 v2 v3 v4 v5 hO
  obtain ⟨hqB, heB, hb1, hsz9, hm⟩ := HH.out
  have hq3 := hqB.later hb3
  have he3 := (hb3.block _ leB).trans heB
  have hb13 : Below W.heap.size W w3 := hb1.trans (hb3.mono hb1.size)
  obtain ⟨q0, q1, q2, q3⟩ := hq3.cells
  have zf := hq3.frz 3
  have lq3 := lt_of_block hq3
  have es : IntKind.i64.wrap (sum + (O.k : Int)) = sum + (O.k : Int) := by rw [IntKind.wrap_i64]; omega
  have HA : Hid (RT w3 E O.a pa ∧ MT w3 E O.m pm ∧ RT w3 E O.b pb) := ⟨ha, hmm, hb⟩
  clear HH ha hmm hb hqB heB hb1 hbb hb3 lqB leB
  go_upto_region 5 with fail
  generalize hw4 : World.setCell w3 _ _ = w4
  have hq4 : QB w4 qr p0 (t.size : Int) most (sum + (O.k : Int)) := by rw [← hw4]; exact hq3.setS _
  have ha4 : RT w4 E O.a pa := by rw [← hw4]; exact HA.out.1.setQ hq3 _ _
  have hm4 : MT w4 E O.m pm := by rw [← hw4]; exact HA.out.2.1.setQ hq3 _ _
  have hb4 : RT w4 E O.b pb := by rw [← hw4]; exact HA.out.2.2.setQ hq3 _ _
  have hC4 : Ch (S1 qr) W w4 := by rw [← hw4]; exact (Ch.below hb13).trans (Ch.set _ _ _ _ _ rfl)
  have he4 : w4.heap[W.heap.size]? = some (.cells #[.int .u64 e.t, .int .i64 e.s, .int .u64 e.q, .int .i64 e.d, .int .i64 e.k, .int .i64 e.v] 64 (0, 0)) := by
    rw [← hw4]; exact (Below.heap_setCell _ _ _ _ fun e9 => by have e9 : W.heap.size = qr := e9; omega).trans he3
  clear hw4 q0 q1 q2 q3 zf hq3 he3 hb13 lq3 es HA
  obtain ⟨q0, q1, q2, q3⟩ := hq4.cells
  have zf0 := hq4.frz 0
  have zf1 := hq4.frz 1
  have lq4 := lt_of_block hq4
  have hpm : pm = none := by
    rcases hm4 with ⟨_, h9⟩ | ⟨h9, _⟩
    · exact h9
    · exact absurd hm h9
  subst hpm
  obtain ⟨v0, v1, v2, v3, v4, v5⟩ := q6c he4
  have le4 := lt_of_block he4
  have en : IntKind.i64.wrap ((t.size : Int) + 1) = (t.size : Int) + 1 := by rw [IntKind.wrap_i64]; omega
  have HZ : Hid (RT w4 E O.a pa ∧ RT w4 E O.b pb ∧ Ch (S1 qr) W w4 ∧ (Tr.node O.a p O.b).size = t.size + 1 ∧ QB w4 qr p0 (t.size : Int) most (sum + (O.k : Int))) := ⟨ha4, hb4, hC4, hsz9, hq4⟩
  clear ha4 hb4 hC4 hsz9 hm he4 hq4
  go_upto_region 9 with fail
  generalize hWF : World.alloc (World.setCell w4 _ _) _ = wF
  obtain ⟨ha4, hb4, hC4, hsz9, hq4⟩ := HZ.out
  obtain ⟨hN, hQF, hkeep, hCF⟩ := node_put hq4 wF hWF
  have HZ2 : Hid (RT wF E O.a pa ∧ RT wF E O.b pb ∧ Ch (S1 qr) W wF ∧ TB wF w4.heap.size pa e pb ∧ (Tr.node O.a p O.b).size = t.size + 1) := ⟨ha4.keep hkeep, hb4.keep hkeep, hC4.trans hCF, hN, hsz9⟩
  clear ha4 hb4 hC4 hsz9 hq4 HZ hkeep hCF hN hWF q0 q1 q2 q3 zf0 zf1 v0 v1 v2 v3 v4 v5
  obtain ⟨q0, q1, q2, q3⟩ := hQF.cells
  have zf0 := hQF.frz 0
  have zf1 := hQF.frz 1
  have lqF := lt_of_block hQF
  go_wp2_with fail
  go_ret
  obtain ⟨ha4, hb4, hC4, hN, hsz9⟩ := HZ2.out
  subst hOO
  have hT : RT wF E' (.node (openT (sdK e.t e.s e.q E) t).a p (openT (sdK e.t e.s e.q E) t).b) (some ⟨w4.heap.size, 0, none⟩) := ⟨_, _, _, rfl, by rw [hEp]; exact hN, ha4.congr fun q hq => hE q (open_sub _ (side_sdK _ _ _ _) hne q (.inl hq)), hb4.congr fun q hq => hE q (open_sub _ (side_sdK _ _ _ _) hne q (.inr hq))⟩
  exact ⟨rfl, ⟨_, by rw [hsz9]; exact hQF.setN _, hT.setQ hQF _ _⟩, hC4.trans (Ch.set _ _ _ _ _ rfl)⟩
end Go.Proofs.Ytlklolmhaiaaiaa
