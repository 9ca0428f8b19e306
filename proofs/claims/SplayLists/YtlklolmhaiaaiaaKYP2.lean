import Derived.Test.YtlklolmhaiaaiaaKYP1
import Derived.Test.YtlklolmhaiaaiaaKY37
namespace Go.Proofs.Ytlklolmhaiaaiaa
open Go.ChangeShapes Go.WideShapes Go.ChangeAt Go.RowKit
set_option linter.unusedVariables false
set_option linter.unusedSimpArgs false

/-- what a call on both queues may change -/
def SQ (qb g qr : Nat) : Nat → Prop := fun k => k = qb ∨ k = g ∨ k = qr
def TRes (base qb g qr : Nat) (room wb : Int) (W : World) (r : Ending) (W' : World) : Prop := r = .returned (.bool true) ∧ ∃ g', PR W' base qb g' qr room (wb + 16384) ∧ (g' = g ∨ W.heap.size ≤ g') ∧ Ch (SQ qb g qr) W W'
theorem three_alloc (W : World) (a b c : Array Value) (ta tb tc : TypeId) (wF : World) (h : ((W.alloc (.cells a ta)).alloc (.cells b tb)).alloc (.cells c tc) = wF) : wF.heap[W.heap.size]? = some (.cells a ta (0, 0)) ∧ wF.heap[W.heap.size + 1]? = some (.cells b tb (0, 0)) ∧ wF.heap[W.heap.size + 2]? = some (.cells c tc (0, 0)) ∧ Below W.heap.size W wF ∧ wF.heap.size = W.heap.size + 3 := by
  obtain ⟨w2, hw2⟩ : ∃ w2, (W.alloc (.cells a ta)).alloc (.cells b tb) = w2 := ⟨_, rfl⟩
  obtain ⟨h1, h2, hb⟩ := two_alloc _ _ _ _ _ _ hw2
  rw [hw2] at h
  have hs : w2.heap.size = W.heap.size + 2 := by rw [← hw2, World.size_alloc, World.size_alloc]
  have hb3 : Below w2.heap.size w2 wF := by rw [← h]; exact (Below.refl _ _).alloc (Nat.le_refl _) _
  refine ⟨(hb3.block _ (by omega)).trans h1, (hb3.block _ (by omega)).trans h2, ?_, hb.trans (hb3.mono (by omega)), by rw [← h, World.size_alloc, hs]⟩
  rw [← h]
  have := World.alloc_heap_new w2 (.cells c tc)
  rwa [hs] at this
theorem Ch.sq2 {qb g qr : Nat} {W W' : World} (h : Ch (S2 qb g) W W') : Ch (SQ qb g qr) W W' := h.mono fun k hk => by rcases hk with e | e; exact .inl e; exact .inr (.inl e)
theorem Ch.sq1 {qb g qr : Nat} {W W' : World} (h : Ch (S1 qr) W W') : Ch (SQ qb g qr) W W' := h.mono fun k hk => .inr (.inr hk)
theorem Ch.over {S : Nat → Prop} {W w W' : World} {b : Nat} (h : Ch S W w) (hb : W.heap.size ≤ b) (p2 : ∀ k, k ≠ b → W'.heap[k]? = w.heap[k]?) (p3 : ∀ B w0, Below B w0 w → B ≤ b → Below B w0 W') : Ch S W W' := by
  have hbF := p3 0 _ (Below.refl 0 _) (Nat.zero_le _)
  exact ⟨hbF.os.trans h.os, hbF.tape.trans h.tape, hbF.output.trans h.output, Nat.le_trans h.size hbF.size, fun j hj hs => (p2 j (by omega)).trans (h.block j hj hs)⟩
set_option maxRecDepth 100000 in
set_option maxHeartbeats 16000000 in
attribute [-go_sem] run_eql_struct in
theorem takes_Min {base qb g qr : Nat} {room wb : Int} (o : OpV) (W : World) (h : PR W base qb g qr room wb) (hk : o.kd = 2) (HP : ∀ w, PR w base qb g qr room wb → Pair 32 62 [] base qb g qr room wb w) :
    Calls Try.prog 43 #[.pointer (some ⟨qb, 0, none⟩), .pointer (some ⟨qr, 0, none⟩), .agg (opA o)] W fun r W' => TRes base qb g qr room wb W r W' := by
  unfold opA
  obtain ⟨W1, hW1⟩ : ∃ W1, ((W.alloc (.cells #[.int .i64 o.kd, .int .i64 o.wh, .int .u64 o.t, .int .i64 o.s, .int .u64 o.q, .int .i64 o.d, .int .i64 o.n] 32)).alloc (.cells #[.int .u64 0, .int .i64 0, .int .u64 0, .int .i64 0, .int .i64 0, .int .i64 0] 64)).alloc (.cells #[.int .u64 0, .int .i64 0, .int .u64 0, .int .i64 0, .int .i64 0, .int .i64 0] 64) = W1 := ⟨_, rfl⟩
  have HW : Hid (((W.alloc (.cells #[.int .i64 o.kd, .int .i64 o.wh, .int .u64 o.t, .int .i64 o.s, .int .u64 o.q, .int .i64 o.d, .int .i64 o.n] 32)).alloc (.cells #[.int .u64 0, .int .i64 0, .int .u64 0, .int .i64 0, .int .i64 0, .int .i64 0] 64)).alloc (.cells #[.int .u64 0, .int .i64 0, .int .u64 0, .int .i64 0, .int .i64 0, .int .i64 0] 64) = W1) := hW1
  obtain ⟨ho1, ha1, hc1, hb1, hs1⟩ := three_alloc _ _ _ _ _ _ _ _ hW1
  have h1 := h.ke (KE.below hb1)
  have hlt := h.lt
  have hP := HP W1 h1
  unfold Pair at hP
  unfold evV at hP
  have d2 : (o.kd == 2) = true := by rw [hk]; rfl
  clear hW1 HP hk h
  have H0 : Hid (Below W.heap.size W W1 ∧ W1.heap[W.heap.size]? = some (.cells #[.int .i64 o.kd, .int .i64 o.wh, .int .u64 o.t, .int .i64 o.s, .int .u64 o.q, .int .i64 o.d, .int .i64 o.n] 32 (0, 0)) ∧ W1.heap[W.heap.size + 1]? = some (.cells #[.int .u64 0, .int .i64 0, .int .u64 0, .int .i64 0, .int .i64 0, .int .i64 0] 64 (0, 0)) ∧ W1.heap[W.heap.size + 2]? = some (.cells #[.int .u64 0, .int .i64 0, .int .u64 0, .int .i64 0, .int .i64 0, .int .i64 0] 64 (0, 0)) ∧ (qb < W.heap.size ∧ g < W.heap.size ∧ qr < W.heap.size)) := ⟨hb1, ho1, ha1, hc1, hlt⟩
  clear ha1 hc1 hb1 hlt h1
  obtain ⟨y0, y1, y2, y3, y4, y5, y6⟩ := c7 ho1
  have lo1 := lt_of_block ho1
  go_enter Try.func43, Try.ntmps43
  go_upto_region 4 with fail
  rw [HW.out]
  clear ho1 hs1 HW
  go_upto_region 6 with fail
  have hP : Calls Try.prog 32 #[.pointer (some ⟨qb, 0, none⟩)] W1 _ := hP
  go_upto_region 7 with (go_at_call 32; (with_reducible refine hP.mono ?_); rintro e w3 ⟨v, code, rfl, hC3, hR⟩; have he3 := (hC3.block _ (lt_of_block H0.out.2.2.1) (by have := H0.out.2.2.2.2; rintro (e | e) <;> omega)).trans H0.out.2.2.1; have HR : Hid (Ch (S2 qb g) W1 w3 ∧ (∀ W2, KE w3 W2 → Calls Try.prog 62 #[.pointer (some ⟨qr, 0, none⟩)] W2 fun e2 W3 => e2 = .returned (.tuple #[.agg #[.int .u64 v.t, .int .i64 v.s, .int .u64 v.q, .int .i64 v.d, .int .i64 v.k, .int .i64 v.v], .int .i64 code]) ∧ PR W3 base qb g qr room (wb + 16384) ∧ Ch (S1 qr) W2 W3) ∧ w3.heap[W.heap.size + 1]? = some (.cells #[.int .u64 0, .int .i64 0, .int .u64 0, .int .i64 0, .int .i64 0, .int .i64 0] 64 (0, 0))) := ⟨hC3, hR, he3⟩; obtain ⟨a0, a1, a2, a3, a4, a5⟩ := q6c he3; have rf := frz he3; have rf0 := rf 0; have rf1 := rf 1; have rf2 := rf 2; have rf3 := rf 3; have rf4 := rf 4; have rf5 := rf 5; have la3 := lt_of_block he3; clear hC3 hR he3 rf)
  generalize hWF : (World.setCell (World.setCell (World.setCell (World.setCell (World.setCell (World.setCell w3 _ _) _ _) _ _) _ _) _ _) _ _) = w4
  obtain ⟨hC3, hR, he3⟩ := HR.out
  obtain ⟨p1, p2, p3⟩ := put6 he3 _ _ _ _ _ _ w4 hWF
  have hR4 := hR w4 (KE.put6 he3 p2 p3)
  obtain ⟨hb1, ho1, ha1, hc1, hlt⟩ := H0.out
  have hC4 : Ch (S2 qb g) W w4 := ((Ch.below hb1).trans hC3).over (Nat.le_succ _) p2 p3
  have ho4 : w4.heap[W.heap.size]? = some (.cells #[.int .i64 o.kd, .int .i64 o.wh, .int .u64 o.t, .int .i64 o.s, .int .u64 o.q, .int .i64 o.d, .int .i64 o.n] 32 (0, 0)) := (p2 _ (by omega)).trans ((hC3.block _ (lt_of_block ho1) (by rintro (e | e) <;> omega)).trans ho1)
  have hc4 : w4.heap[W.heap.size + 2]? = some (.cells #[.int .u64 0, .int .i64 0, .int .u64 0, .int .i64 0, .int .i64 0, .int .i64 0] 64 (0, 0)) := (p2 _ (by omega)).trans ((hC3.block _ (lt_of_block hc1) (by rintro (e | e) <;> omega)).trans hc1)
  have H4 : Hid (Ch (S2 qb g) W w4 ∧ w4.heap[W.heap.size + 1]? = some (.cells #[.int .u64 v.t, .int .i64 v.s, .int .u64 v.q, .int .i64 v.d, .int .i64 v.k, .int .i64 v.v] 64 (0, 0)) ∧ w4.heap[W.heap.size + 2]? = some (.cells #[.int .u64 0, .int .i64 0, .int .u64 0, .int .i64 0, .int .i64 0, .int .i64 0] 64 (0, 0))) := ⟨hC4, p1, hc4⟩
  clear hWF HR p1 p2 p3 hR hC3 he3 hC4 hc4 hb1 ho1 ha1 hc1 hP y0 y1 y2 y3 y4 y5 y6 lo1 a0 a1 a2 a3 a4 a5 rf0 rf1 rf2 rf3 rf4 rf5 la3
  obtain ⟨y0, y1, y2, y3, y4, y5, y6⟩ := c7 ho4
  have lo4 := lt_of_block ho4
  go_upto_region 17 with (go_at_call 62; (with_reducible refine hR4.mono ?_); rintro e w5 ⟨rfl, hP5, hC5⟩; have hbx := (hC5.block _ (lt_of_block H4.out.2.2) (by have := hlt; intro e; have e : W.heap.size + 2 = qr := e; omega)).trans H4.out.2.2; have HR5 : Hid (PR w5 base qb g qr room (wb + 16384) ∧ Ch (S1 qr) w4 w5 ∧ w5.heap[W.heap.size + 2]? = some (.cells #[.int .u64 0, .int .i64 0, .int .u64 0, .int .i64 0, .int .i64 0, .int .i64 0] 64 (0, 0))) := ⟨hP5, hC5, hbx⟩; obtain ⟨a0, a1, a2, a3, a4, a5⟩ := q6c hbx; have rf := frz hbx; have rf0 := rf 0; have rf1 := rf 1; have rf2 := rf 2; have rf3 := rf 3; have rf4 := rf 4; have rf5 := rf 5; have la3 := lt_of_block hbx; clear hP5 hC5 hbx rf y0 y1 y2 y3 y4 y5 y6)
  generalize hWF : (World.setCell (World.setCell (World.setCell (World.setCell (World.setCell (World.setCell w5 _ _) _ _) _ _) _ _) _ _) _ _) = w6
  obtain ⟨hP5, hC5, hbx⟩ := HR5.out
  obtain ⟨p1, p2, p3⟩ := put6 hbx _ _ _ _ _ _ w6 hWF
  have hP6 := hP5.ke (KE.put6 hbx p2 p3)
  obtain ⟨hC4, ha4, hc4⟩ := H4.out
  have ha6 := (p2 (W.heap.size + 1) (by omega)).trans ((hC5.block _ (lt_of_block ha4) (by intro e; have e : W.heap.size + 1 = qr := e; omega)).trans ha4)
  have hC6 : Ch (SQ qb g qr) W w6 := (hC4.sq2.trans hC5.sq1).over (b := W.heap.size + 2) (by omega) p2 p3
  have HF : Hid (PR w6 base qb g qr room (wb + 16384) ∧ Ch (SQ qb g qr) W w6) := ⟨hP6, hC6⟩
  obtain ⟨a0, a1, a2, a3, a4, a5⟩ := q6c p1
  obtain ⟨b0, b1, b2, b3, b4, b5⟩ := q6c ha6
  have la := lt_of_block p1
  have lb := lt_of_block ha6
  have HEQ := fun W9 => eql_ev9 v W9
  have dcode : (code == code) = true := by simp
  clear hWF HR5 hP5 hC5 hbx p1 p2 p3 hP6 hC4 ha4 hc4 ha6 hC6 hR4 H4 ho4 lo4 H0 rf0 rf1 rf2 rf3 rf4 rf5 la3
  go_wp2_with fail
  go_ret
  exact ⟨rfl, g, HF.out.1, .inl rfl, HF.out.2⟩
set_option maxRecDepth 100000 in
set_option maxHeartbeats 16000000 in
attribute [-go_sem] run_eql_struct in
theorem takes_Pop {base qb g qr : Nat} {room wb : Int} (o : OpV) (W : World) (h : PR W base qb g qr room wb) (hk : o.kd = 3) (HP : ∀ w, PR w base qb g qr room wb → Pair 34 63 [] base qb g qr room wb w) :
    Calls Try.prog 43 #[.pointer (some ⟨qb, 0, none⟩), .pointer (some ⟨qr, 0, none⟩), .agg (opA o)] W fun r W' => TRes base qb g qr room wb W r W' := by
  unfold opA
  obtain ⟨W1, hW1⟩ : ∃ W1, ((W.alloc (.cells #[.int .i64 o.kd, .int .i64 o.wh, .int .u64 o.t, .int .i64 o.s, .int .u64 o.q, .int .i64 o.d, .int .i64 o.n] 32)).alloc (.cells #[.int .u64 0, .int .i64 0, .int .u64 0, .int .i64 0, .int .i64 0, .int .i64 0] 64)).alloc (.cells #[.int .u64 0, .int .i64 0, .int .u64 0, .int .i64 0, .int .i64 0, .int .i64 0] 64) = W1 := ⟨_, rfl⟩
  have HW : Hid (((W.alloc (.cells #[.int .i64 o.kd, .int .i64 o.wh, .int .u64 o.t, .int .i64 o.s, .int .u64 o.q, .int .i64 o.d, .int .i64 o.n] 32)).alloc (.cells #[.int .u64 0, .int .i64 0, .int .u64 0, .int .i64 0, .int .i64 0, .int .i64 0] 64)).alloc (.cells #[.int .u64 0, .int .i64 0, .int .u64 0, .int .i64 0, .int .i64 0, .int .i64 0] 64) = W1) := hW1
  obtain ⟨ho1, ha1, hc1, hb1, hs1⟩ := three_alloc _ _ _ _ _ _ _ _ hW1
  have h1 := h.ke (KE.below hb1)
  have hlt := h.lt
  have hP := HP W1 h1
  unfold Pair at hP
  unfold evV at hP
  have d2 : (o.kd == 2) = false := by rw [hk]; rfl
  have d3 : (o.kd == 3) = true := by rw [hk]; rfl
  clear hW1 HP hk h
  have H0 : Hid (Below W.heap.size W W1 ∧ W1.heap[W.heap.size]? = some (.cells #[.int .i64 o.kd, .int .i64 o.wh, .int .u64 o.t, .int .i64 o.s, .int .u64 o.q, .int .i64 o.d, .int .i64 o.n] 32 (0, 0)) ∧ W1.heap[W.heap.size + 1]? = some (.cells #[.int .u64 0, .int .i64 0, .int .u64 0, .int .i64 0, .int .i64 0, .int .i64 0] 64 (0, 0)) ∧ W1.heap[W.heap.size + 2]? = some (.cells #[.int .u64 0, .int .i64 0, .int .u64 0, .int .i64 0, .int .i64 0, .int .i64 0] 64 (0, 0)) ∧ (qb < W.heap.size ∧ g < W.heap.size ∧ qr < W.heap.size)) := ⟨hb1, ho1, ha1, hc1, hlt⟩
  clear ha1 hc1 hb1 hlt h1
  obtain ⟨y0, y1, y2, y3, y4, y5, y6⟩ := c7 ho1
  have lo1 := lt_of_block ho1
  go_enter Try.func43, Try.ntmps43
  go_upto_region 4 with fail
  rw [HW.out]
  clear ho1 hs1 HW
  go_upto_region 9 with fail
  have hP : Calls Try.prog 34 #[.pointer (some ⟨qb, 0, none⟩)] W1 _ := hP
  go_upto_region 10 with (go_at_call 34; (with_reducible refine hP.mono ?_); rintro e w3 ⟨v, code, rfl, hC3, hR⟩; have he3 := (hC3.block _ (lt_of_block H0.out.2.2.1) (by have := H0.out.2.2.2.2; rintro (e | e) <;> omega)).trans H0.out.2.2.1; have HR : Hid (Ch (S2 qb g) W1 w3 ∧ (∀ W2, KE w3 W2 → Calls Try.prog 63 #[.pointer (some ⟨qr, 0, none⟩)] W2 fun e2 W3 => e2 = .returned (.tuple #[.agg #[.int .u64 v.t, .int .i64 v.s, .int .u64 v.q, .int .i64 v.d, .int .i64 v.k, .int .i64 v.v], .int .i64 code]) ∧ PR W3 base qb g qr room (wb + 16384) ∧ Ch (S1 qr) W2 W3) ∧ w3.heap[W.heap.size + 1]? = some (.cells #[.int .u64 0, .int .i64 0, .int .u64 0, .int .i64 0, .int .i64 0, .int .i64 0] 64 (0, 0))) := ⟨hC3, hR, he3⟩; obtain ⟨a0, a1, a2, a3, a4, a5⟩ := q6c he3; have rf := frz he3; have rf0 := rf 0; have rf1 := rf 1; have rf2 := rf 2; have rf3 := rf 3; have rf4 := rf 4; have rf5 := rf 5; have la3 := lt_of_block he3; clear hC3 hR he3 rf)
  generalize hWF : (World.setCell (World.setCell (World.setCell (World.setCell (World.setCell (World.setCell w3 _ _) _ _) _ _) _ _) _ _) _ _) = w4
  obtain ⟨hC3, hR, he3⟩ := HR.out
  obtain ⟨p1, p2, p3⟩ := put6 he3 _ _ _ _ _ _ w4 hWF
  have hR4 := hR w4 (KE.put6 he3 p2 p3)
  obtain ⟨hb1, ho1, ha1, hc1, hlt⟩ := H0.out
  have hC4 : Ch (S2 qb g) W w4 := ((Ch.below hb1).trans hC3).over (Nat.le_succ _) p2 p3
  have ho4 : w4.heap[W.heap.size]? = some (.cells #[.int .i64 o.kd, .int .i64 o.wh, .int .u64 o.t, .int .i64 o.s, .int .u64 o.q, .int .i64 o.d, .int .i64 o.n] 32 (0, 0)) := (p2 _ (by omega)).trans ((hC3.block _ (lt_of_block ho1) (by rintro (e | e) <;> omega)).trans ho1)
  have hc4 : w4.heap[W.heap.size + 2]? = some (.cells #[.int .u64 0, .int .i64 0, .int .u64 0, .int .i64 0, .int .i64 0, .int .i64 0] 64 (0, 0)) := (p2 _ (by omega)).trans ((hC3.block _ (lt_of_block hc1) (by rintro (e | e) <;> omega)).trans hc1)
  have H4 : Hid (Ch (S2 qb g) W w4 ∧ w4.heap[W.heap.size + 1]? = some (.cells #[.int .u64 v.t, .int .i64 v.s, .int .u64 v.q, .int .i64 v.d, .int .i64 v.k, .int .i64 v.v] 64 (0, 0)) ∧ w4.heap[W.heap.size + 2]? = some (.cells #[.int .u64 0, .int .i64 0, .int .u64 0, .int .i64 0, .int .i64 0, .int .i64 0] 64 (0, 0))) := ⟨hC4, p1, hc4⟩
  clear hWF HR p1 p2 p3 hR hC3 he3 hC4 hc4 hb1 ho1 ha1 hc1 hP y0 y1 y2 y3 y4 y5 y6 lo1 a0 a1 a2 a3 a4 a5 rf0 rf1 rf2 rf3 rf4 rf5 la3
  obtain ⟨y0, y1, y2, y3, y4, y5, y6⟩ := c7 ho4
  have lo4 := lt_of_block ho4
  go_upto_region 17 with (go_at_call 63; (with_reducible refine hR4.mono ?_); rintro e w5 ⟨rfl, hP5, hC5⟩; have hbx := (hC5.block _ (lt_of_block H4.out.2.2) (by have := hlt; intro e; have e : W.heap.size + 2 = qr := e; omega)).trans H4.out.2.2; have HR5 : Hid (PR w5 base qb g qr room (wb + 16384) ∧ Ch (S1 qr) w4 w5 ∧ w5.heap[W.heap.size + 2]? = some (.cells #[.int .u64 0, .int .i64 0, .int .u64 0, .int .i64 0, .int .i64 0, .int .i64 0] 64 (0, 0))) := ⟨hP5, hC5, hbx⟩; obtain ⟨a0, a1, a2, a3, a4, a5⟩ := q6c hbx; have rf := frz hbx; have rf0 := rf 0; have rf1 := rf 1; have rf2 := rf 2; have rf3 := rf 3; have rf4 := rf 4; have rf5 := rf 5; have la3 := lt_of_block hbx; clear hP5 hC5 hbx rf y0 y1 y2 y3 y4 y5 y6)
  generalize hWF : (World.setCell (World.setCell (World.setCell (World.setCell (World.setCell (World.setCell w5 _ _) _ _) _ _) _ _) _ _) _ _) = w6
  obtain ⟨hP5, hC5, hbx⟩ := HR5.out
  obtain ⟨p1, p2, p3⟩ := put6 hbx _ _ _ _ _ _ w6 hWF
  have hP6 := hP5.ke (KE.put6 hbx p2 p3)
  obtain ⟨hC4, ha4, hc4⟩ := H4.out
  have ha6 := (p2 (W.heap.size + 1) (by omega)).trans ((hC5.block _ (lt_of_block ha4) (by intro e; have e : W.heap.size + 1 = qr := e; omega)).trans ha4)
  have hC6 : Ch (SQ qb g qr) W w6 := (hC4.sq2.trans hC5.sq1).over (b := W.heap.size + 2) (by omega) p2 p3
  have HF : Hid (PR w6 base qb g qr room (wb + 16384) ∧ Ch (SQ qb g qr) W w6) := ⟨hP6, hC6⟩
  obtain ⟨a0, a1, a2, a3, a4, a5⟩ := q6c p1
  obtain ⟨b0, b1, b2, b3, b4, b5⟩ := q6c ha6
  have la := lt_of_block p1
  have lb := lt_of_block ha6
  have HEQ := fun W9 => eql_ev9 v W9
  have dcode : (code == code) = true := by simp
  clear hWF HR5 hP5 hC5 hbx p1 p2 p3 hP6 hC4 ha4 hc4 ha6 hC6 hR4 H4 ho4 lo4 H0 rf0 rf1 rf2 rf3 rf4 rf5 la3
  go_wp2_with fail
  go_ret
  exact ⟨rfl, g, HF.out.1, .inl rfl, HF.out.2⟩
set_option maxRecDepth 100000 in
set_option maxHeartbeats 16000000 in
attribute [-go_sem] run_eql_struct in
theorem takes_Find {base qb g qr : Nat} {room wb : Int} (o : OpV) (W : World) (h : PR W base qb g qr room wb) (hk : o.kd = 4) (HP : ∀ w, PR w base qb g qr room wb → Pair 35 64 [.agg #[.int .u64 o.t, .int .i64 o.s, .int .u64 o.q]] base qb g qr room wb w) :
    Calls Try.prog 43 #[.pointer (some ⟨qb, 0, none⟩), .pointer (some ⟨qr, 0, none⟩), .agg (opA o)] W fun r W' => TRes base qb g qr room wb W r W' := by
  unfold opA
  obtain ⟨W1, hW1⟩ : ∃ W1, ((W.alloc (.cells #[.int .i64 o.kd, .int .i64 o.wh, .int .u64 o.t, .int .i64 o.s, .int .u64 o.q, .int .i64 o.d, .int .i64 o.n] 32)).alloc (.cells #[.int .u64 0, .int .i64 0, .int .u64 0, .int .i64 0, .int .i64 0, .int .i64 0] 64)).alloc (.cells #[.int .u64 0, .int .i64 0, .int .u64 0, .int .i64 0, .int .i64 0, .int .i64 0] 64) = W1 := ⟨_, rfl⟩
  have HW : Hid (((W.alloc (.cells #[.int .i64 o.kd, .int .i64 o.wh, .int .u64 o.t, .int .i64 o.s, .int .u64 o.q, .int .i64 o.d, .int .i64 o.n] 32)).alloc (.cells #[.int .u64 0, .int .i64 0, .int .u64 0, .int .i64 0, .int .i64 0, .int .i64 0] 64)).alloc (.cells #[.int .u64 0, .int .i64 0, .int .u64 0, .int .i64 0, .int .i64 0, .int .i64 0] 64) = W1) := hW1
  obtain ⟨ho1, ha1, hc1, hb1, hs1⟩ := three_alloc _ _ _ _ _ _ _ _ hW1
  have h1 := h.ke (KE.below hb1)
  have hlt := h.lt
  have hP := HP W1 h1
  unfold Pair at hP
  unfold evV at hP
  have d2 : (o.kd == 2) = false := by rw [hk]; rfl
  have d3 : (o.kd == 3) = false := by rw [hk]; rfl
  have d4 : (o.kd == 4) = true := by rw [hk]; rfl
  clear hW1 HP hk h
  have H0 : Hid (Below W.heap.size W W1 ∧ W1.heap[W.heap.size]? = some (.cells #[.int .i64 o.kd, .int .i64 o.wh, .int .u64 o.t, .int .i64 o.s, .int .u64 o.q, .int .i64 o.d, .int .i64 o.n] 32 (0, 0)) ∧ W1.heap[W.heap.size + 1]? = some (.cells #[.int .u64 0, .int .i64 0, .int .u64 0, .int .i64 0, .int .i64 0, .int .i64 0] 64 (0, 0)) ∧ W1.heap[W.heap.size + 2]? = some (.cells #[.int .u64 0, .int .i64 0, .int .u64 0, .int .i64 0, .int .i64 0, .int .i64 0] 64 (0, 0)) ∧ (qb < W.heap.size ∧ g < W.heap.size ∧ qr < W.heap.size)) := ⟨hb1, ho1, ha1, hc1, hlt⟩
  clear ha1 hc1 hb1 hlt h1
  obtain ⟨y0, y1, y2, y3, y4, y5, y6⟩ := c7 ho1
  have lo1 := lt_of_block ho1
  go_enter Try.func43, Try.ntmps43
  go_upto_region 4 with fail
  rw [HW.out]
  clear ho1 hs1 HW
  go_upto_region 12 with fail
  have hP : Calls Try.prog 35 #[.pointer (some ⟨qb, 0, none⟩), .agg #[.int .u64 o.t, .int .i64 o.s, .int .u64 o.q]] W1 _ := hP
  go_upto_region 13 with (go_at_call 35; (with_reducible refine hP.mono ?_); rintro e w3 ⟨v, code, rfl, hC3, hR⟩; have he3 := (hC3.block _ (lt_of_block H0.out.2.2.1) (by have := H0.out.2.2.2.2; rintro (e | e) <;> omega)).trans H0.out.2.2.1; have HR : Hid (Ch (S2 qb g) W1 w3 ∧ (∀ W2, KE w3 W2 → Calls Try.prog 64 #[.pointer (some ⟨qr, 0, none⟩), .agg #[.int .u64 o.t, .int .i64 o.s, .int .u64 o.q]] W2 fun e2 W3 => e2 = .returned (.tuple #[.agg #[.int .u64 v.t, .int .i64 v.s, .int .u64 v.q, .int .i64 v.d, .int .i64 v.k, .int .i64 v.v], .int .i64 code]) ∧ PR W3 base qb g qr room (wb + 16384) ∧ Ch (S1 qr) W2 W3) ∧ w3.heap[W.heap.size + 1]? = some (.cells #[.int .u64 0, .int .i64 0, .int .u64 0, .int .i64 0, .int .i64 0, .int .i64 0] 64 (0, 0))) := ⟨hC3, hR, he3⟩; obtain ⟨a0, a1, a2, a3, a4, a5⟩ := q6c he3; have rf := frz he3; have rf0 := rf 0; have rf1 := rf 1; have rf2 := rf 2; have rf3 := rf 3; have rf4 := rf 4; have rf5 := rf 5; have la3 := lt_of_block he3; clear hC3 hR he3 rf)
  generalize hWF : (World.setCell (World.setCell (World.setCell (World.setCell (World.setCell (World.setCell w3 _ _) _ _) _ _) _ _) _ _) _ _) = w4
  obtain ⟨hC3, hR, he3⟩ := HR.out
  obtain ⟨p1, p2, p3⟩ := put6 he3 _ _ _ _ _ _ w4 hWF
  have hR4 := hR w4 (KE.put6 he3 p2 p3)
  obtain ⟨hb1, ho1, ha1, hc1, hlt⟩ := H0.out
  have hC4 : Ch (S2 qb g) W w4 := ((Ch.below hb1).trans hC3).over (Nat.le_succ _) p2 p3
  have ho4 : w4.heap[W.heap.size]? = some (.cells #[.int .i64 o.kd, .int .i64 o.wh, .int .u64 o.t, .int .i64 o.s, .int .u64 o.q, .int .i64 o.d, .int .i64 o.n] 32 (0, 0)) := (p2 _ (by omega)).trans ((hC3.block _ (lt_of_block ho1) (by rintro (e | e) <;> omega)).trans ho1)
  have hc4 : w4.heap[W.heap.size + 2]? = some (.cells #[.int .u64 0, .int .i64 0, .int .u64 0, .int .i64 0, .int .i64 0, .int .i64 0] 64 (0, 0)) := (p2 _ (by omega)).trans ((hC3.block _ (lt_of_block hc1) (by rintro (e | e) <;> omega)).trans hc1)
  have H4 : Hid (Ch (S2 qb g) W w4 ∧ w4.heap[W.heap.size + 1]? = some (.cells #[.int .u64 v.t, .int .i64 v.s, .int .u64 v.q, .int .i64 v.d, .int .i64 v.k, .int .i64 v.v] 64 (0, 0)) ∧ w4.heap[W.heap.size + 2]? = some (.cells #[.int .u64 0, .int .i64 0, .int .u64 0, .int .i64 0, .int .i64 0, .int .i64 0] 64 (0, 0))) := ⟨hC4, p1, hc4⟩
  clear hWF HR p1 p2 p3 hR hC3 he3 hC4 hc4 hb1 ho1 ha1 hc1 hP y0 y1 y2 y3 y4 y5 y6 lo1 a0 a1 a2 a3 a4 a5 rf0 rf1 rf2 rf3 rf4 rf5 la3
  obtain ⟨y0, y1, y2, y3, y4, y5, y6⟩ := c7 ho4
  have lo4 := lt_of_block ho4
  go_upto_region 17 with (go_at_call 64; (with_reducible refine hR4.mono ?_); rintro e w5 ⟨rfl, hP5, hC5⟩; have hbx := (hC5.block _ (lt_of_block H4.out.2.2) (by have := hlt; intro e; have e : W.heap.size + 2 = qr := e; omega)).trans H4.out.2.2; have HR5 : Hid (PR w5 base qb g qr room (wb + 16384) ∧ Ch (S1 qr) w4 w5 ∧ w5.heap[W.heap.size + 2]? = some (.cells #[.int .u64 0, .int .i64 0, .int .u64 0, .int .i64 0, .int .i64 0, .int .i64 0] 64 (0, 0))) := ⟨hP5, hC5, hbx⟩; obtain ⟨a0, a1, a2, a3, a4, a5⟩ := q6c hbx; have rf := frz hbx; have rf0 := rf 0; have rf1 := rf 1; have rf2 := rf 2; have rf3 := rf 3; have rf4 := rf 4; have rf5 := rf 5; have la3 := lt_of_block hbx; clear hP5 hC5 hbx rf y0 y1 y2 y3 y4 y5 y6)
  generalize hWF : (World.setCell (World.setCell (World.setCell (World.setCell (World.setCell (World.setCell w5 _ _) _ _) _ _) _ _) _ _) _ _) = w6
  obtain ⟨hP5, hC5, hbx⟩ := HR5.out
  obtain ⟨p1, p2, p3⟩ := put6 hbx _ _ _ _ _ _ w6 hWF
  have hP6 := hP5.ke (KE.put6 hbx p2 p3)
  obtain ⟨hC4, ha4, hc4⟩ := H4.out
  have ha6 := (p2 (W.heap.size + 1) (by omega)).trans ((hC5.block _ (lt_of_block ha4) (by intro e; have e : W.heap.size + 1 = qr := e; omega)).trans ha4)
  have hC6 : Ch (SQ qb g qr) W w6 := (hC4.sq2.trans hC5.sq1).over (b := W.heap.size + 2) (by omega) p2 p3
  have HF : Hid (PR w6 base qb g qr room (wb + 16384) ∧ Ch (SQ qb g qr) W w6) := ⟨hP6, hC6⟩
  obtain ⟨a0, a1, a2, a3, a4, a5⟩ := q6c p1
  obtain ⟨b0, b1, b2, b3, b4, b5⟩ := q6c ha6
  have la := lt_of_block p1
  have lb := lt_of_block ha6
  have HEQ := fun W9 => eql_ev9 v W9
  have dcode : (code == code) = true := by simp
  clear hWF HR5 hP5 hC5 hbx p1 p2 p3 hP6 hC4 ha4 hc4 ha6 hC6 hR4 H4 ho4 lo4 H0 rf0 rf1 rf2 rf3 rf4 rf5 la3
  go_wp2_with fail
  go_ret
  exact ⟨rfl, g, HF.out.1, .inl rfl, HF.out.2⟩
set_option maxRecDepth 100000 in
set_option maxHeartbeats 16000000 in
attribute [-go_sem] run_eql_struct in
theorem takes_Remove {base qb g qr : Nat} {room wb : Int} (o : OpV) (W : World) (h : PR W base qb g qr room wb) (hk : o.kd = 5) (HP : ∀ w, PR w base qb g qr room wb → Pair 36 65 [.agg #[.int .u64 o.t, .int .i64 o.s, .int .u64 o.q]] base qb g qr room wb w) :
    Calls Try.prog 43 #[.pointer (some ⟨qb, 0, none⟩), .pointer (some ⟨qr, 0, none⟩), .agg (opA o)] W fun r W' => TRes base qb g qr room wb W r W' := by
  unfold opA
  obtain ⟨W1, hW1⟩ : ∃ W1, ((W.alloc (.cells #[.int .i64 o.kd, .int .i64 o.wh, .int .u64 o.t, .int .i64 o.s, .int .u64 o.q, .int .i64 o.d, .int .i64 o.n] 32)).alloc (.cells #[.int .u64 0, .int .i64 0, .int .u64 0, .int .i64 0, .int .i64 0, .int .i64 0] 64)).alloc (.cells #[.int .u64 0, .int .i64 0, .int .u64 0, .int .i64 0, .int .i64 0, .int .i64 0] 64) = W1 := ⟨_, rfl⟩
  have HW : Hid (((W.alloc (.cells #[.int .i64 o.kd, .int .i64 o.wh, .int .u64 o.t, .int .i64 o.s, .int .u64 o.q, .int .i64 o.d, .int .i64 o.n] 32)).alloc (.cells #[.int .u64 0, .int .i64 0, .int .u64 0, .int .i64 0, .int .i64 0, .int .i64 0] 64)).alloc (.cells #[.int .u64 0, .int .i64 0, .int .u64 0, .int .i64 0, .int .i64 0, .int .i64 0] 64) = W1) := hW1
  obtain ⟨ho1, ha1, hc1, hb1, hs1⟩ := three_alloc _ _ _ _ _ _ _ _ hW1
  have h1 := h.ke (KE.below hb1)
  have hlt := h.lt
  have hP := HP W1 h1
  unfold Pair at hP
  unfold evV at hP
  have d2 : (o.kd == 2) = false := by rw [hk]; rfl
  have d3 : (o.kd == 3) = false := by rw [hk]; rfl
  have d4 : (o.kd == 4) = false := by rw [hk]; rfl
  have d5 : (o.kd == 5) = true := by rw [hk]; rfl
  clear hW1 HP hk h
  have H0 : Hid (Below W.heap.size W W1 ∧ W1.heap[W.heap.size]? = some (.cells #[.int .i64 o.kd, .int .i64 o.wh, .int .u64 o.t, .int .i64 o.s, .int .u64 o.q, .int .i64 o.d, .int .i64 o.n] 32 (0, 0)) ∧ W1.heap[W.heap.size + 1]? = some (.cells #[.int .u64 0, .int .i64 0, .int .u64 0, .int .i64 0, .int .i64 0, .int .i64 0] 64 (0, 0)) ∧ W1.heap[W.heap.size + 2]? = some (.cells #[.int .u64 0, .int .i64 0, .int .u64 0, .int .i64 0, .int .i64 0, .int .i64 0] 64 (0, 0)) ∧ (qb < W.heap.size ∧ g < W.heap.size ∧ qr < W.heap.size)) := ⟨hb1, ho1, ha1, hc1, hlt⟩
  clear ha1 hc1 hb1 hlt h1
  obtain ⟨y0, y1, y2, y3, y4, y5, y6⟩ := c7 ho1
  have lo1 := lt_of_block ho1
  go_enter Try.func43, Try.ntmps43
  go_upto_region 4 with fail
  rw [HW.out]
  clear ho1 hs1 HW
  go_upto_region 15 with fail
  have hP : Calls Try.prog 36 #[.pointer (some ⟨qb, 0, none⟩), .agg #[.int .u64 o.t, .int .i64 o.s, .int .u64 o.q]] W1 _ := hP
  go_upto_region 16 with (go_at_call 36; (with_reducible refine hP.mono ?_); rintro e w3 ⟨v, code, rfl, hC3, hR⟩; have he3 := (hC3.block _ (lt_of_block H0.out.2.2.1) (by have := H0.out.2.2.2.2; rintro (e | e) <;> omega)).trans H0.out.2.2.1; have HR : Hid (Ch (S2 qb g) W1 w3 ∧ (∀ W2, KE w3 W2 → Calls Try.prog 65 #[.pointer (some ⟨qr, 0, none⟩), .agg #[.int .u64 o.t, .int .i64 o.s, .int .u64 o.q]] W2 fun e2 W3 => e2 = .returned (.tuple #[.agg #[.int .u64 v.t, .int .i64 v.s, .int .u64 v.q, .int .i64 v.d, .int .i64 v.k, .int .i64 v.v], .int .i64 code]) ∧ PR W3 base qb g qr room (wb + 16384) ∧ Ch (S1 qr) W2 W3) ∧ w3.heap[W.heap.size + 1]? = some (.cells #[.int .u64 0, .int .i64 0, .int .u64 0, .int .i64 0, .int .i64 0, .int .i64 0] 64 (0, 0))) := ⟨hC3, hR, he3⟩; obtain ⟨a0, a1, a2, a3, a4, a5⟩ := q6c he3; have rf := frz he3; have rf0 := rf 0; have rf1 := rf 1; have rf2 := rf 2; have rf3 := rf 3; have rf4 := rf 4; have rf5 := rf 5; have la3 := lt_of_block he3; clear hC3 hR he3 rf)
  generalize hWF : (World.setCell (World.setCell (World.setCell (World.setCell (World.setCell (World.setCell w3 _ _) _ _) _ _) _ _) _ _) _ _) = w4
  obtain ⟨hC3, hR, he3⟩ := HR.out
  obtain ⟨p1, p2, p3⟩ := put6 he3 _ _ _ _ _ _ w4 hWF
  have hR4 := hR w4 (KE.put6 he3 p2 p3)
  obtain ⟨hb1, ho1, ha1, hc1, hlt⟩ := H0.out
  have hC4 : Ch (S2 qb g) W w4 := ((Ch.below hb1).trans hC3).over (Nat.le_succ _) p2 p3
  have ho4 : w4.heap[W.heap.size]? = some (.cells #[.int .i64 o.kd, .int .i64 o.wh, .int .u64 o.t, .int .i64 o.s, .int .u64 o.q, .int .i64 o.d, .int .i64 o.n] 32 (0, 0)) := (p2 _ (by omega)).trans ((hC3.block _ (lt_of_block ho1) (by rintro (e | e) <;> omega)).trans ho1)
  have hc4 : w4.heap[W.heap.size + 2]? = some (.cells #[.int .u64 0, .int .i64 0, .int .u64 0, .int .i64 0, .int .i64 0, .int .i64 0] 64 (0, 0)) := (p2 _ (by omega)).trans ((hC3.block _ (lt_of_block hc1) (by rintro (e | e) <;> omega)).trans hc1)
  have H4 : Hid (Ch (S2 qb g) W w4 ∧ w4.heap[W.heap.size + 1]? = some (.cells #[.int .u64 v.t, .int .i64 v.s, .int .u64 v.q, .int .i64 v.d, .int .i64 v.k, .int .i64 v.v] 64 (0, 0)) ∧ w4.heap[W.heap.size + 2]? = some (.cells #[.int .u64 0, .int .i64 0, .int .u64 0, .int .i64 0, .int .i64 0, .int .i64 0] 64 (0, 0))) := ⟨hC4, p1, hc4⟩
  clear hWF HR p1 p2 p3 hR hC3 he3 hC4 hc4 hb1 ho1 ha1 hc1 hP y0 y1 y2 y3 y4 y5 y6 lo1 a0 a1 a2 a3 a4 a5 rf0 rf1 rf2 rf3 rf4 rf5 la3
  obtain ⟨y0, y1, y2, y3, y4, y5, y6⟩ := c7 ho4
  have lo4 := lt_of_block ho4
  go_upto_region 17 with (go_at_call 65; (with_reducible refine hR4.mono ?_); rintro e w5 ⟨rfl, hP5, hC5⟩; have hbx := (hC5.block _ (lt_of_block H4.out.2.2) (by have := hlt; intro e; have e : W.heap.size + 2 = qr := e; omega)).trans H4.out.2.2; have HR5 : Hid (PR w5 base qb g qr room (wb + 16384) ∧ Ch (S1 qr) w4 w5 ∧ w5.heap[W.heap.size + 2]? = some (.cells #[.int .u64 0, .int .i64 0, .int .u64 0, .int .i64 0, .int .i64 0, .int .i64 0] 64 (0, 0))) := ⟨hP5, hC5, hbx⟩; obtain ⟨a0, a1, a2, a3, a4, a5⟩ := q6c hbx; have rf := frz hbx; have rf0 := rf 0; have rf1 := rf 1; have rf2 := rf 2; have rf3 := rf 3; have rf4 := rf 4; have rf5 := rf 5; have la3 := lt_of_block hbx; clear hP5 hC5 hbx rf y0 y1 y2 y3 y4 y5 y6)
  generalize hWF : (World.setCell (World.setCell (World.setCell (World.setCell (World.setCell (World.setCell w5 _ _) _ _) _ _) _ _) _ _) _ _) = w6
  obtain ⟨hP5, hC5, hbx⟩ := HR5.out
  obtain ⟨p1, p2, p3⟩ := put6 hbx _ _ _ _ _ _ w6 hWF
  have hP6 := hP5.ke (KE.put6 hbx p2 p3)
  obtain ⟨hC4, ha4, hc4⟩ := H4.out
  have ha6 := (p2 (W.heap.size + 1) (by omega)).trans ((hC5.block _ (lt_of_block ha4) (by intro e; have e : W.heap.size + 1 = qr := e; omega)).trans ha4)
  have hC6 : Ch (SQ qb g qr) W w6 := (hC4.sq2.trans hC5.sq1).over (b := W.heap.size + 2) (by omega) p2 p3
  have HF : Hid (PR w6 base qb g qr room (wb + 16384) ∧ Ch (SQ qb g qr) W w6) := ⟨hP6, hC6⟩
  obtain ⟨a0, a1, a2, a3, a4, a5⟩ := q6c p1
  obtain ⟨b0, b1, b2, b3, b4, b5⟩ := q6c ha6
  have la := lt_of_block p1
  have lb := lt_of_block ha6
  have HEQ := fun W9 => eql_ev9 v W9
  have dcode : (code == code) = true := by simp
  clear hWF HR5 hP5 hC5 hbx p1 p2 p3 hP6 hC4 ha4 hc4 ha6 hC6 hR4 H4 ho4 lo4 H0 rf0 rf1 rf2 rf3 rf4 rf5 la3
  go_wp2_with fail
  go_ret
  exact ⟨rfl, g, HF.out.1, .inl rfl, HF.out.2⟩
end Go.Proofs.Ytlklolmhaiaaiaa
