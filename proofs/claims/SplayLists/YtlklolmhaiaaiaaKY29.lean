import Derived.Test.YtlklolmhaiaaiaaKY12
namespace Go.Proofs.Ytlklolmhaiaaiaa
open Go.ChangeShapes Go.WideShapes Go.ChangeAt Go.RowKit
set_option linter.unusedVariables false
set_option linter.unusedSimpArgs false

set_option maxRecDepth 100000 in
set_option maxHeartbeats 4000000 in
theorem min_any (base qb g c n : Nat) (A : Ar) (t : Tr) (fl : List Nat) (root : Nat) (room work : Int) (W : World) (h : QI W base qb g c n A t fl root room work) (ht : t ≠ .nil) (hwk2 : work ≤ 4611686018427387904) :
    Calls Try.prog 32 #[.pointer (some ⟨qb, 0, none⟩)] W fun e' W' => ∃ (A' : Ar), e' = .returned (.tuple #[evV (A.E (openT sdL t).m), .int .i64 0]) ∧ QI W' base qb g c n A' (.node .nil (openT sdL t).m (openT sdL t).b) fl (openT sdL t).m room (work + (openT sdL t).k) ∧ t.ps = (openT sdL t).m :: (openT sdL t).b.ps ∧ A'.E = A.E ∧ Ch (S2 qb g) W W' := by
  obtain ⟨W1, hW1⟩ : ∃ W1, W.alloc (.cells #[.int .u64 0, .int .i64 0, .int .u64 0, .int .i64 0, .int .i64 0, .int .i64 0] 64) = W1 := ⟨_, rfl⟩
  have hb1 : Below W.heap.size W W1 := by rw [← hW1]; exact (Below.refl _ W).alloc (Nat.le_refl _) _
  have he1 : W1.heap[W.heap.size]? = some (.cells #[.int .u64 0, .int .i64 0, .int .u64 0, .int .i64 0, .int .i64 0, .int .i64 0] 64 (0, 0)) := by rw [← hW1]; exact World.alloc_heap_new W _
  have HW : Hid (W.alloc (.cells #[.int .u64 0, .int .i64 0, .int .u64 0, .int .i64 0, .int .i64 0, .int .i64 0] 64) = W1) := hW1
  have hQ1 := h.q.later hb1
  have hlt := h.q.lt
  have hn1 := h.n1
  have hwk := h.wk
  have hl1 := lt_of_block he1
  have hroot : root ≠ 0 := fun e => ht (Tr.lies_zero (e ▸ h.ti))
  have dr : ((root : Int) == 0) = false := by simp; omega
  obtain ⟨q0, q1, q2, q3, q4, q5⟩ := hQ1.cells
  rw [← hW1] at q0 q1 q2 q3 q4 q5
  have hps := least_ps ht h.neT
  have hmn : (openT sdL t).m < n := h.inT _ (by rw [hps]; simp)
  have hk9 := openT_k _ side_sdL t.size t (Nat.le_refl _)
  have HL := least_any base qb g c n A _ _ _ _ _ t root W1 hQ1 hn1.2.1 hn1.1 h.ti h.ndT h.inT h.z ⟨hwk, hwk2⟩ hn1.2.2
  generalize hO : openT sdL t = O at *
  clear hW1
  have i0 : (0 : Int) ≤ (O.m : Int) := by omega
  have i1 : (O.m : Int) < (n : Int) := by omega
  go_enter Try.func32, Try.ntmps32
  go_upto_region 5 with (first | (go_at_call 60; rw [HW.out]; (with_reducible refine HL.mono ?_); rintro e' w2 ⟨A2, rb, rfl, hQ2, hE2, hlb, hout, hC2⟩; have HK := link_any base qb g c n A2 _ _ _ _ _ 0 O.m rb w2 hQ2 hmn hn1.2.1; rw [show ((0 : Nat) : Int) = 0 from rfl] at HK) | (go_at_call 58; (with_reducible refine HK.mono ?_); rintro e' w4 ⟨rfl, hQ4, hC4⟩; obtain ⟨z0, z1, z2, z3, z4, z5⟩ := hQ4.cells; have zf := own_frozen hQ4.box 2))
  generalize hw5 : World.setCell w4 _ _ = w5
  have hQ5 : QW w5 base qb g c n { A2 with L := upd A2.L O.m 0, R := upd A2.R O.m rb } ((fl.headD 0 : Nat) : Int) (O.m : Int) t.size room (work + O.k) := by rw [← hw5]; exact hQ4.setRoot (O.m : Int)
  have hC5 : Ch (S2 qb g) w4 w5 := by rw [← hw5]; exact Ch.set _ _ _ _ _ (.inl rfl)
  have hC15 : Ch (S2 qb g) W1 w5 := (hC2.trans hC4).trans hC5
  have he5 := (hC15.block _ hl1 (by rintro (e | e) <;> omega)).trans he1
  obtain ⟨r0, r1, r2, r3, r4, r5⟩ := q6c he5
  have rf := frz he5
  have rf0 := rf 0; have rf1 := rf 1; have rf2 := rf 2; have rf3 := rf 3; have rf4 := rf 4; have rf5 := rf 5
  clear rf hw5 z0 z1 z2 z3 z4 z5 zf
  obtain ⟨z0, z1, z2, z3, z4, z5⟩ := hQ5.cells
  have x0 := hQ5.nd hmn 0 (by decide)
  have x1 := hQ5.nd hmn 1 (by decide)
  have x2 := hQ5.nd hmn 2 (by decide)
  have x3 := hQ5.nd hmn 3 (by decide)
  have x4 := hQ5.nd hmn 4 (by decide)
  have x5 := hQ5.nd hmn 5 (by decide)
  simp [ndC, hE2] at x0 x1 x2 x3 x4 x5
  go_wp2_with fail
  generalize hWF : (World.setCell (World.setCell (World.setCell (World.setCell (World.setCell (World.setCell w5 _ _) _ _) _ _) _ _) _ _) _ _) = wF
  obtain ⟨p1, p2, p3⟩ := put6 he5 _ _ _ _ _ _ wF hWF
  obtain ⟨d0, d1, d2, d3, d4, d5⟩ := q6c p1
  refine bodyPost_ret (v := .tuple #[evV (A.E O.m), .int .i64 0]) (by simp [results, Try.results32, go_sem, d0, d1, d2, d3, d4, d5, evV]; try rfl) rfl ?_
  have hQF : QW wF base qb g c n { A2 with L := upd A2.L O.m 0, R := upd A2.R O.m rb } ((fl.headD 0 : Nat) : Int) (O.m : Int) t.size room (work + O.k) := ⟨hQ5.box.far fun j e => (by cases e; exact p2 qb (by omega)), hQ5.row.far fun j e => (by cases e; exact p2 g (by omega)), hQ5.ne⟩
  have r1 := relink (a := .nil) (b := O.b) (ra := 0) (rb := rb) (m := O.m) h (by rw [hps]; rfl) hE2 rfl hlb hout hQF (by omega)
  refine ⟨_, rfl, r1, hps, hE2, ?_⟩
  have hcF : Ch (S2 qb g) W w5 := (Ch.below hb1).trans hC15
  have hbF := p3 0 _ (Below.refl 0 _) (Nat.zero_le _)
  exact ⟨hbF.os.trans hcF.os, hbF.tape.trans hcF.tape, hbF.output.trans hcF.output, Nat.le_trans hcF.size hbF.size, fun j hj hs => (p2 j (by omega)).trans (hcF.block j hj hs)⟩
set_option maxRecDepth 100000 in
set_option maxHeartbeats 4000000 in
theorem min_none (base qb g c n : Nat) (A : Ar) (fl : List Nat) (root : Nat) (room work : Int) (W : World) (h : QI W base qb g c n A .nil fl root room work) :
    Calls Try.prog 32 #[.pointer (some ⟨qb, 0, none⟩)] W fun e' W' => e' = .returned (.tuple #[evV ev0, .int .i64 82]) ∧ Below W.heap.size W W' := by
  obtain ⟨W1, hW1⟩ : ∃ W1, W.alloc (.cells #[.int .u64 0, .int .i64 0, .int .u64 0, .int .i64 0, .int .i64 0, .int .i64 0] 64) = W1 := ⟨_, rfl⟩
  have hb1 : Below W.heap.size W W1 := by rw [← hW1]; exact (Below.refl _ W).alloc (Nat.le_refl _) _
  have he1 : W1.heap[W.heap.size]? = some (.cells #[.int .u64 0, .int .i64 0, .int .u64 0, .int .i64 0, .int .i64 0, .int .i64 0] 64 (0, 0)) := by rw [← hW1]; exact World.alloc_heap_new W _
  have hroot : root = 0 := h.ti
  subst hroot
  obtain ⟨q0, q1, q2, q3, q4, q5⟩ := (h.q.later hb1).cells
  obtain ⟨r0, r1, r2, r3, r4, r5⟩ := q6c he1
  have rf := frz he1
  have rf0 := rf 0; have rf1 := rf 1; have rf2 := rf 2; have rf3 := rf 3; have rf4 := rf 4; have rf5 := rf 5
  clear rf
  rw [← hW1] at q0 q1 q2 q3 q4 q5 r0 r1 r2 r3 r4 r5 rf0 rf1 rf2 rf3 rf4 rf5
  have HE : Hid (Below W.heap.size W W1 ∧ W1.heap[W.heap.size]? = some (.cells #[.int .u64 0, .int .i64 0, .int .u64 0, .int .i64 0, .int .i64 0, .int .i64 0] 64 (0, 0)) ∧ W.alloc (.cells #[.int .u64 0, .int .i64 0, .int .u64 0, .int .i64 0, .int .i64 0, .int .i64 0] 64) = W1) := ⟨hb1, he1, hW1⟩
  clear hb1 he1 hW1 h
  go_enter Try.func32, Try.ntmps32
  go_wp2_with fail
  obtain ⟨hb1, he1, hW1⟩ := HE.out
  rw [hW1]
  obtain ⟨d0, d1, d2, d3, d4, d5⟩ := q6c he1
  refine bodyPost_ret (v := .tuple #[evV ev0, .int .i64 82]) (by simp [results, Try.results32, go_sem, d0, d1, d2, d3, d4, d5, evV, ev0]; try rfl) rfl ?_
  exact ⟨rfl, hb1⟩
set_option maxRecDepth 100000 in
set_option maxHeartbeats 4000000 in
theorem pop_none (base qb g c n : Nat) (A : Ar) (fl : List Nat) (root : Nat) (room work : Int) (W : World) (h : QI W base qb g c n A .nil fl root room work) :
    Calls Try.prog 34 #[.pointer (some ⟨qb, 0, none⟩)] W fun e' W' => e' = .returned (.tuple #[evV ev0, .int .i64 82]) ∧ Below W.heap.size W W' := by
  obtain ⟨W1, hW1⟩ : ∃ W1, W.alloc (.cells #[.int .u64 0, .int .i64 0, .int .u64 0, .int .i64 0, .int .i64 0, .int .i64 0] 64) = W1 := ⟨_, rfl⟩
  have hb1 : Below W.heap.size W W1 := by rw [← hW1]; exact (Below.refl _ W).alloc (Nat.le_refl _) _
  have he1 : W1.heap[W.heap.size]? = some (.cells #[.int .u64 0, .int .i64 0, .int .u64 0, .int .i64 0, .int .i64 0, .int .i64 0] 64 (0, 0)) := by rw [← hW1]; exact World.alloc_heap_new W _
  have hroot : root = 0 := h.ti
  subst hroot
  obtain ⟨q0, q1, q2, q3, q4, q5⟩ := (h.q.later hb1).cells
  obtain ⟨r0, r1, r2, r3, r4, r5⟩ := q6c he1
  have rf := frz he1
  have rf0 := rf 0; have rf1 := rf 1; have rf2 := rf 2; have rf3 := rf 3; have rf4 := rf 4; have rf5 := rf 5
  clear rf
  rw [← hW1] at q0 q1 q2 q3 q4 q5 r0 r1 r2 r3 r4 r5 rf0 rf1 rf2 rf3 rf4 rf5
  have HE : Hid (Below W.heap.size W W1 ∧ W1.heap[W.heap.size]? = some (.cells #[.int .u64 0, .int .i64 0, .int .u64 0, .int .i64 0, .int .i64 0, .int .i64 0] 64 (0, 0)) ∧ W.alloc (.cells #[.int .u64 0, .int .i64 0, .int .u64 0, .int .i64 0, .int .i64 0, .int .i64 0] 64) = W1) := ⟨hb1, he1, hW1⟩
  clear hb1 he1 hW1 h
  go_enter Try.func34, Try.ntmps34
  go_wp2_with fail
  obtain ⟨hb1, he1, hW1⟩ := HE.out
  rw [hW1]
  obtain ⟨d0, d1, d2, d3, d4, d5⟩ := q6c he1
  refine bodyPost_ret (v := .tuple #[evV ev0, .int .i64 82]) (by simp [results, Try.results34, go_sem, d0, d1, d2, d3, d4, d5, evV, ev0]; try rfl) rfl ?_
  exact ⟨rfl, hb1⟩
/-- join, plainly -/
def joinT : Tr → Tr → Tr
  | a, .nil => a
  | .nil, b => b
  | a, b => .node a (openT sdL b).m (openT sdL b).b
def joinK : Tr → Tr → Nat
  | _, .nil => 0
  | .nil, _ => 0
  | _, b => (openT sdL b).k
theorem joinT_pos {a b : Tr} (ha : a ≠ .nil) (hb : b ≠ .nil) : joinT a b = .node a (openT sdL b).m (openT sdL b).b := by
  cases a with
  | nil => exact absurd rfl ha
  | node l p r => cases b with
    | nil => exact absurd rfl hb
    | node l2 p2 r2 => rfl
theorem joinK_pos {a b : Tr} (ha : a ≠ .nil) (hb : b ≠ .nil) : joinK a b = (openT sdL b).k := by
  cases a with
  | nil => exact absurd rfl ha
  | node l p r => cases b with
    | nil => exact absurd rfl hb
    | node l2 p2 r2 => rfl
set_option maxRecDepth 100000 in
set_option maxHeartbeats 4000000 in
theorem join_any (base qb g c n : Nat) (A : Ar) (f r s m k : Int) (a b : Tr) (ra rb : Nat) (W : World) (h : QW W base qb g c n A f r s m k) (hn : n ≤ 8193) (hn0 : 0 < n) (hla : a.lies A.L A.R ra) (hlb : b.lies A.L A.R rb) (hnd : (a.ps ++ b.ps).Nodup) (hin : ∀ p ∈ a.ps ++ b.ps, p < n) (hz : A.L 0 = 0 ∧ A.R 0 = 0) (hk : 0 ≤ k ∧ k ≤ 4611686018427387904) (hsz : b.size ≤ 8192) :
    Calls Try.prog 61 #[.pointer (some ⟨qb, 0, none⟩), .int .i64 (ra : Int), .int .i64 (rb : Int)] W fun e W' => ∃ (A' : Ar) (j : Tr) (rj k' : Nat), e = .returned (.int .i64 (rj : Int)) ∧ QW W' base qb g c n A' f r s m (k + k') ∧ k' ≤ 8192 ∧ A'.E = A.E ∧ j.lies A'.L A'.R rj ∧ j.ps = a.ps ++ b.ps ∧ (∀ p, p ∉ a.ps ++ b.ps → A'.L p = A.L p ∧ A'.R p = A.R p) ∧ (j = joinT a b ∧ k' = joinK a b) ∧ Ch (S2 qb g) W W' := by
  by_cases hb0 : rb = 0
  · subst hb0
    have := Tr.lies_zero hlb
    subst this
    go_enter Try.func61, Try.ntmps61
    go_wp2_with fail
    go_ret
    exact ⟨A, a, ra, 0, rfl, by simpa using h, by omega, rfl, hla, by simp [Tr.ps], fun p _ => ⟨rfl, rfl⟩, ⟨by simp [joinT], by simp [joinK]⟩, Ch.refl _ _⟩
  · have db : ((rb : Int) == 0) = false := by simp; omega
    by_cases ha0 : ra = 0
    · subst ha0
      have := Tr.lies_zero hla
      subst this
      go_enter Try.func61, Try.ntmps61
      go_wp2_with fail
      go_ret
      exact ⟨A, b, rb, 0, rfl, by simpa using h, by omega, rfl, hlb, by simp [Tr.ps], fun p _ => ⟨rfl, rfl⟩, ⟨by cases b <;> simp [joinT], by cases b <;> simp [joinK]⟩, Ch.refl _ _⟩
    · have da : ((ra : Int) == 0) = false := by simp; omega
      have hbn : b ≠ .nil := fun e => hb0 (by rw [e] at hlb; exact hlb)
      have han : a ≠ .nil := fun e => ha0 (by rw [e] at hla; exact hla)
      have hnd2 := List.nodup_append.1 hnd
      have hneb := Tr.lies_ne hlb
      have hps := least_ps hbn hneb
      have hmb : (openT sdL b).m ∈ b.ps := by rw [hps]; simp
      have hmn : (openT sdL b).m < n := hin _ (by simp [hmb])
      have hk9 := openT_k _ side_sdL b.size b (Nat.le_refl _)
      have HL := least_any base qb g c n A f r s m k b rb W h hn hn0 hlb hnd2.2.1 (fun p hp => hin p (by simp [hp])) hz hk hsz
      generalize hO : openT sdL b = O at *
      go_enter Try.func61, Try.ntmps61
      go_wp2_with (first | (go_at_call 60; (with_reducible refine HL.mono ?_); rintro e' w2 ⟨A2, rb', rfl, hQ2, hE2, hlb', hout, hC2⟩; have HK := link_any base qb g c n A2 _ _ _ _ _ ra O.m rb' w2 hQ2 hmn hn) | (go_at_call 58; (with_reducible refine HK.mono ?_); rintro e' w4 ⟨rfl, hQ4, hC4⟩))
      go_ret
      have hma : O.m ∉ a.ps := fun h9 => hnd2.2.2 O.m h9 O.m hmb rfl
      have hndb := hnd2.2.1
      rw [hps, List.nodup_cons] at hndb
      refine ⟨_, .node a O.m O.b, O.m, O.k, rfl, hQ4, by omega, hE2, ⟨rfl, hneb _ hmb, ?_, ?_⟩, by rw [hps]; rfl, fun p hp => ?_, ⟨by rw [joinT_pos han hbn, hO], by rw [joinK_pos han hbn, hO]⟩, hC2.trans hC4⟩
      · show a.lies _ _ (upd A2.L O.m ra O.m)
        rw [upd_at]
        refine Tr.lies_congr (L := A.L) (R := A.R) hla fun p hp => ?_
        have hpm : p ≠ O.m := fun e => hma (e ▸ hp)
        have hpb : p ∉ b.ps := fun h9 => hnd2.2.2 p hp p h9 rfl
        exact ⟨(upd_ne _ _ hpm).trans (hout p hpb).1, (upd_ne _ _ hpm).trans (hout p hpb).2⟩
      · show O.b.lies _ _ (upd A2.R O.m rb' O.m)
        rw [upd_at]
        exact Tr.lies_congr hlb' fun p hp => ⟨upd_ne _ _ fun e => hndb.1 (e ▸ hp), upd_ne _ _ fun e => hndb.1 (e ▸ hp)⟩
      · have hpm : p ≠ O.m := fun e => hp (by rw [e]; simp [hmb])
        have hpb : p ∉ b.ps := fun h9 => hp (by simp [h9])
        exact ⟨(upd_ne _ _ hpm).trans (hout p hpb).1, (upd_ne _ _ hpm).trans (hout p hpb).2⟩
end Go.Proofs.Ytlklolmhaiaaiaa
