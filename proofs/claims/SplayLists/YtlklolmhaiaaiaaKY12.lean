import Derived.Test.YtlklolmhaiaaiaaKY10
import Derived.Deep.LoopGhost
namespace Go.Proofs.Ytlklolmhaiaaiaa
open Go.ChangeShapes Go.WideShapes Go.ChangeAt Go.RowKit
set_option linter.unusedVariables false
set_option linter.unusedSimpArgs false

/-- a node that has been cut off goes to the free ones -/
theorem unlink {W W' : World} {base qb g c n : Nat} {A A3 : Ar} {t b : Tr} {fl : List Nat} {root m rb : Nat} {room work work' : Int} (h : QI W base qb g c n A t fl root room work) (hps : t.ps = m :: b.ps) (hE : A3.E = A.E) (hlb : b.lies A3.L A3.R rb) (hout : ∀ p, p ∉ t.ps → A3.L p = A.L p ∧ A3.R p = A.R p) (hq : QW W' base qb g c n (A3.set m ev0 (fl.headD 0) 0) m rb ((t.size - 1 : Nat) : Int) room work') (hw : 0 ≤ work') : QI W' base qb g c n (A3.set m ev0 (fl.headD 0) 0) b (m :: fl) rb room work' ∧ b.ps.map (A3.set m ev0 (fl.headD 0) 0).E = b.ps.map A.E := by
  have hnd := h.ndT
  rw [hps, List.nodup_cons] at hnd
  have hmt : m ∈ t.ps := by rw [hps]; simp
  have hm0 : m ≠ 0 := h.neT m hmt
  have hsz : b.size = t.size - 1 := by
    have := congrArg List.length hps
    rw [List.length_cons, Tr.size_ps, Tr.size_ps] at this
    omega
  have hsz2 : t.size = b.size + 1 := by
    have := congrArg List.length hps
    rw [List.length_cons, Tr.size_ps, Tr.size_ps] at this
    omega
  have hnb : ∀ q ∈ b.ps, q ≠ m := fun q hq e => hnd.1 (e ▸ hq)
  have hL : ∀ q, q ≠ m → (A3.set m ev0 (fl.headD 0) 0).L q = A3.L q := fun q hq => upd_ne _ _ hq
  have hR : ∀ q, q ≠ m → (A3.set m ev0 (fl.headD 0) 0).R q = A3.R q := fun q hq => upd_ne _ _ hq
  have hEq : ∀ q, q ≠ m → (A3.set m ev0 (fl.headD 0) 0).E q = A.E q := fun q hq => by show updE A3.E m ev0 q = _; unfold updE; rw [if_neg hq, hE]
  have hnd2 := List.nodup_append.1 h.nd
  have hmf : ∀ q ∈ fl, q ≠ m ∧ q ∉ t.ps := fun q hq => ⟨fun e => hnd2.2.2 m hmt q hq e.symm, fun h2 => hnd2.2.2 q h2 q hq rfl⟩
  refine ⟨⟨?_, ?_, ⟨upd_at _ _ _, ?_⟩, ?_, ?_, ?_, ?_, h.nr, h.rm, ?_, hw⟩, List.map_congr_left fun q hq => hEq q (hnb q hq)⟩
  · rw [hsz]; exact hq
  · exact Tr.lies_congr hlb fun q hq => ⟨hL q (hnb q hq), hR q (hnb q hq)⟩
  · exact FLs.congr h.fr fun q hq => by rw [hL q (hmf q hq).1]; exact (hout q (hmf q hq).2).1
  · rw [List.nodup_append, List.nodup_cons]
    refine ⟨hnd.2, ⟨fun h2 => (hmf m h2).1 rfl, hnd2.2.1⟩, fun x hx y hy => ?_⟩
    rcases List.mem_cons.1 hy with h2 | h2
    · rw [h2]; exact hnb x hx
    · exact hnd2.2.2 x (by rw [hps]; simp [hx]) y h2
  · intro x hx
    have hx' : x ∈ b.ps ∨ x = m ∨ x ∈ fl := by simpa using hx
    rcases hx' with h2 | h2 | h2
    · exact h.inr x (by rw [hps]; simp [h2])
    · rw [h2]; exact h.inr m (by simp [hmt])
    · exact h.inr x (by simp [h2])
  · have := h.cnt
    simp only [List.length_cons]
    omega
  · have h0 : (0 : Nat) ∉ t.ps := fun hq => h.neT 0 hq rfl
    rw [hL 0 (fun e => hm0 e.symm), hR 0 (fun e => hm0 e.symm), (hout 0 h0).1, (hout 0 h0).2]
    exact h.z
  · have hs := h.srt
    rw [hps, List.pairwise_cons] at hs
    exact hs.2.imp_of_mem fun {x y} hx hy h2 => by rw [hEq x (hnb x hx), hEq y (hnb y hy)]; exact h2
set_option maxRecDepth 100000 in
set_option maxHeartbeats 4000000 in
theorem pop_anyX (base qb g c n : Nat) (A : Ar) (t : Tr) (fl : List Nat) (root : Nat) (room work : Int) (W : World) (h : QI W base qb g c n A t fl root room work) (ht : t ≠ .nil) (hwk2 : work ≤ 4611686018427387904) :
    Calls Try.prog 34 #[.pointer (some ⟨qb, 0, none⟩)] W fun e' W' => ∃ (A' : Ar) (fl' : List Nat) (root' : Nat), e' = .returned (.tuple #[evV (A.E (openT sdL t).m), .int .i64 0]) ∧ QI W' base qb g c n A' (openT sdL t).b fl' root' room (work + (openT sdL t).k) ∧ t.ps = (openT sdL t).m :: (openT sdL t).b.ps ∧ (openT sdL t).b.ps.map A'.E = (openT sdL t).b.ps.map A.E ∧ Ch (S2 qb g) W W' := by
  obtain ⟨W1, hW1⟩ : ∃ W1, W.alloc (.cells #[.int .u64 0, .int .i64 0, .int .u64 0, .int .i64 0, .int .i64 0, .int .i64 0] 64) = W1 := ⟨_, rfl⟩
  have hb1 : Below W.heap.size W W1 := by rw [← hW1]; exact (Below.refl _ W).alloc (Nat.le_refl _) _
  have he1 : W1.heap[W.heap.size]? = some (.cells #[.int .u64 0, .int .i64 0, .int .u64 0, .int .i64 0, .int .i64 0, .int .i64 0] 64 (0, 0)) := by rw [← hW1]; exact World.alloc_heap_new W _
  have HW : Hid (W.alloc (.cells #[.int .u64 0, .int .i64 0, .int .u64 0, .int .i64 0, .int .i64 0, .int .i64 0] 64) = W1) := hW1
  have hQ1 := h.q.later hb1
  have hlt := h.q.lt
  have hn1 := h.n1
  have hwk := h.wk
  have hl1 := lt_of_block he1
  have hroot : root ≠ 0 := fun e => ht (Tr.lies_zero (e ▸ h.ti))
  have dr : ((root : Int) == 0) = false := by simp; omega
  obtain ⟨q0, q1, q2, q3, q4, q5⟩ := hQ1.cells
  rw [← hW1] at q0 q1 q2 q3 q4 q5
  have hps := least_ps ht h.neT
  have hmn : (openT sdL t).m < n := h.inT _ (by rw [hps]; simp)
  have hk9 := openT_k _ side_sdL t.size t (Nat.le_refl _)
  have HL := least_any base qb g c n A _ _ _ _ _ t root W1 hQ1 hn1.2.1 hn1.1 h.ti h.ndT h.inT h.z ⟨hwk, hwk2⟩ hn1.2.2
  have hsz : 0 < t.size := by rw [← Tr.size_ps, hps]; simp
  generalize hO : openT sdL t = O at *
  clear hW1
  go_enter Try.func34, Try.ntmps34
  go_wp2_with (first | (go_at_call 60; rw [HW.out]; (with_reducible refine HL.mono ?_); rintro e' w2 ⟨A2, rb, rfl, hQ2, hE2, hlb, hout, hC2⟩; obtain ⟨z0, z1, z2, z3, z4, z5⟩ := hQ2.cells; have zf := own_frozen hQ2.box 2; have hQ3 := hQ2.setRoot (rb : Int); have HV := leave_any base qb g c n A2 (fl.headD 0) _ t.size _ _ O.m _ hQ3 hmn hn1.2.1 ⟨hsz, hn1.2.2⟩) | (go_at_call 49; (with_reducible refine HV.mono ?_); rintro e' w4 ⟨rfl, hQ4, hC4⟩; have hC14 : Ch (S2 qb g) W1 w4 := hC2.trans ((Ch.set _ _ _ _ _ (.inl rfl)).trans hC4); have he4 := (hC14.block _ hl1 (by rintro (e | e) <;> omega)).trans he1; obtain ⟨r0, r1, r2, r3, r4, r5⟩ := q6c he4; have rf := frz he4; have rf0 := rf 0; have rf1 := rf 1; have rf2 := rf 2; have rf3 := rf 3; have rf4 := rf 4; have rf5 := rf 5; clear rf; unfold evV))
  generalize hWF : (World.setCell (World.setCell (World.setCell (World.setCell (World.setCell (World.setCell w4 _ _) _ _) _ _) _ _) _ _) _ _) = wF
  obtain ⟨p1, p2, p3⟩ := put6 he4 _ _ _ _ _ _ wF hWF
  obtain ⟨d0, d1, d2, d3, d4, d5⟩ := q6c p1
  refine bodyPost_ret (v := .tuple #[evV (A.E O.m), .int .i64 0]) (by simp [results, Try.results34, go_sem, d0, d1, d2, d3, d4, d5, evV]; try rfl) rfl ?_
  have hQF : QW wF base qb g c n (A2.set O.m ev0 (fl.headD 0) 0) O.m rb ((t.size - 1 : Nat) : Int) room (work + O.k) := ⟨hQ4.box.far fun j e => (by cases e; exact p2 qb (by omega)), hQ4.row.far fun j e => (by cases e; exact p2 g (by omega)), hQ4.ne⟩
  obtain ⟨r1, r2⟩ := unlink h hps hE2 hlb hout hQF (by omega)
  refine ⟨_, _, rb, rfl, r1, hps, r2, ?_⟩
  have hcF : Ch (S2 qb g) W w4 := (Ch.below hb1).trans hC14
  have hbF := p3 0 _ (Below.refl 0 _) (Nat.zero_le _)
  exact ⟨hbF.os.trans hcF.os, hbF.tape.trans hcF.tape, hbF.output.trans hcF.output, Nat.le_trans hcF.size hbF.size, fun j hj hs => (p2 j (by omega)).trans (hcF.block j hj hs)⟩
theorem pop_any (base qb g c n : Nat) (A : Ar) (t : Tr) (fl : List Nat) (root : Nat) (room work : Int) (W : World) (h : QI W base qb g c n A t fl root room work) (ht : t ≠ .nil) (hwk2 : work ≤ 4611686018427387904) :
    Calls Try.prog 34 #[.pointer (some ⟨qb, 0, none⟩)] W fun e' W' => ∃ (A' : Ar) (t' : Tr) (fl' : List Nat) (root' m : Nat), e' = .returned (.tuple #[evV (A.E m), .int .i64 0]) ∧ QI W' base qb g c n A' t' fl' root' room (work + (openT sdL t).k) ∧ t.ps = m :: t'.ps ∧ t'.ps.map A'.E = t'.ps.map A.E ∧ Ch (S2 qb g) W W' :=
  (pop_anyX base qb g c n A t fl root room work W h ht hwk2).mono fun _ _ ⟨A', fl', r', h1, h2, h3, h4, h5⟩ => ⟨A', _, fl', r', _, h1, h2, h3, h4, h5⟩
end Go.Proofs.Ytlklolmhaiaaiaa
namespace Go.Proofs.Ytlklolmhaiaaiaa
open Go.ChangeShapes Go.WideShapes Go.ChangeAt Go.RowKit
set_option linter.unusedVariables false
set_option linter.unusedSimpArgs false

theorem q2c {W : World} {b : Nat} {c0 c1 : Value} {t : TypeId} (h : W.heap[b]? = some (.cells #[c0, c1] t (0, 0))) : W.cell? ⟨b, 0, none⟩ = some c0 ∧ W.cell? ⟨b, 1, none⟩ = some c1 := by
  refine ⟨?_, ?_⟩
  all_goals (unfold World.cell?; rw [h]; rfl)
set_option maxRecDepth 100000 in
set_option maxHeartbeats 4000000 in
theorem below0 (base qb g c n : Nat) (A : Ar) (f r s m k : Int) (p d : Nat) (W : World) (h : QW W base qb g c n A f r s m k) (hp : p < n) (hn : n ≤ 8193) (hd : d ≤ 8193) :
    Calls Try.prog 55 #[.pointer (some ⟨qb, 0, none⟩), .agg #[.int .i64 (p : Int), .int .i64 (d : Int)], .int .i64 0] W fun e W' => e = .returned (.agg #[.int .i64 (A.L p : Int), .int .i64 ((d : Int) + 1)]) ∧ Below W.heap.size W W' := by
  obtain ⟨W1, hW1⟩ : ∃ W1, (W.alloc (.cells #[.int .i64 (p : Int), .int .i64 (d : Int)] 61)).alloc (.cells #[.int .i64 0, .int .i64 0] 61) = W1 := ⟨_, rfl⟩
  have hb1 : Below W.heap.size W W1 := by rw [← hW1]; exact ((Below.refl _ W).alloc (Nat.le_refl _) _).alloc (by simp) _
  have hs1 : W1.heap[W.heap.size]? = some (.cells #[.int .i64 (p : Int), .int .i64 (d : Int)] 61 (0, 0)) := by rw [← hW1, Below.heap_alloc _ _ _ (by simp)]; exact World.alloc_heap_new W _
  have hr1 : W1.heap[W.heap.size + 1]? = some (.cells #[.int .i64 0, .int .i64 0] 61 (0, 0)) := by
    rw [← hW1]
    have := World.alloc_heap_new (W.alloc (.cells #[.int .i64 (p : Int), .int .i64 (d : Int)] 61)) (.cells #[.int .i64 0, .int .i64 0] 61)
    rwa [World.size_alloc] at this
  have HW : Hid ((W.alloc (.cells #[.int .i64 (p : Int), .int .i64 (d : Int)] 61)).alloc (.cells #[.int .i64 0, .int .i64 0] 61) = W1) := hW1
  have hQ1 := h.later hb1
  obtain ⟨q0, q1, q2, q3, q4, q5⟩ := hQ1.cells
  have x6 : W1.cell? ⟨g, p * 8 + 6, none⟩ = some (.int .i64 (A.L p : Int)) := hQ1.nd hp 6 (by decide)
  have i0 : (0 : Int) ≤ (p : Int) := by omega
  have i1 : (p : Int) < (n : Int) := by omega
  have ed : IntKind.i64.wrap ((d : Int) + 1) = (d : Int) + 1 := by rw [IntKind.wrap_i64]; omega
  have hlt := h.lt
  clear hW1
  go_enter Try.func55, Try.ntmps55
  go_wp2_with fail
  rw [HW.out]
  refine wp_region_held_drew (S := fun W9 => W9.heap[qb]? = W1.heap[qb]? ∧ W9.heap[g]? = W1.heap[g]? ∧ W9.heap[W.heap.size]? = W1.heap[W.heap.size]?) (by kernel_rfl) ⟨rfl, rfl, rfl⟩ (fun hHeld => ?_)
  refine wpAnyH_take (i := 0) (v := ?hv0u1) rfl (by kernel_rfl) (by kernel_rfl) (by kernel_rfl) (fun _ _ _ h => h) (Or.inl ⟨by rfl, ?hy0u1⟩) (by assumption) ?hr0u1
  case hy0u1 => ((intro W9 hSw; have q0' := (World.cell?_of_block (a := ⟨qb, 0, none⟩) hSw.1).trans q0; have x' := (World.cell?_of_block (a := ⟨g, p * 8 + 6, none⟩) hSw.2.1).trans x6; obtain ⟨v0, v1⟩ := q2c (hSw.2.2.trans hs1); go_simp); try with_reducible rfl)
  simp only [List.getElem_toArray, List.getElem_cons_zero, List.getElem_cons_succ, Act.put, List.setIfInBounds_toArray, List.set_cons_zero, List.set_cons_succ]
  refine wpAnyH_take (i := 1) (v := ?hv1u2) rfl (by kernel_rfl) (by kernel_rfl) (by kernel_rfl) (fun _ _ _ h => h) (Or.inl ⟨by rfl, ?hy1u2⟩) (by assumption) ?hr1u2
  case hy1u2 => ((intro W9 hSw; have q0' := (World.cell?_of_block (a := ⟨qb, 0, none⟩) hSw.1).trans q0; have x' := (World.cell?_of_block (a := ⟨g, p * 8 + 6, none⟩) hSw.2.1).trans x6; obtain ⟨v0, v1⟩ := q2c (hSw.2.2.trans hs1); go_simp); try with_reducible rfl)
  simp only [List.getElem_toArray, List.getElem_cons_zero, List.getElem_cons_succ, Act.put, List.setIfInBounds_toArray, List.set_cons_zero, List.set_cons_succ]
  refine wpAnyH_take (i := 2) (v := ?hv2u3) rfl (by kernel_rfl) (by kernel_rfl) (by kernel_rfl) (fun _ _ _ h => h) (Or.inl ⟨by rfl, ?hy2u3⟩) (by assumption) ?hr2u3
  case hy2u3 => ((intro W9 hSw; have q0' := (World.cell?_of_block (a := ⟨qb, 0, none⟩) hSw.1).trans q0; have x' := (World.cell?_of_block (a := ⟨g, p * 8 + 6, none⟩) hSw.2.1).trans x6; obtain ⟨v0, v1⟩ := q2c (hSw.2.2.trans hs1); go_simp); try with_reducible rfl)
  simp only [List.getElem_toArray, List.getElem_cons_zero, List.getElem_cons_succ, Act.put, List.setIfInBounds_toArray, List.set_cons_zero, List.set_cons_succ]
  refine wpAnyH_take (i := 3) (v := ?hv3u4) rfl (by kernel_rfl) (by kernel_rfl) (by kernel_rfl) (fun _ _ _ h => h) (Or.inl ⟨by rfl, ?hy3u4⟩) (by assumption) ?hr3u4
  case hy3u4 => ((intro W9 hSw; have q0' := (World.cell?_of_block (a := ⟨qb, 0, none⟩) hSw.1).trans q0; have x' := (World.cell?_of_block (a := ⟨g, p * 8 + 6, none⟩) hSw.2.1).trans x6; obtain ⟨v0, v1⟩ := q2c (hSw.2.2.trans hs1); go_simp); try with_reducible rfl)
  simp only [List.getElem_toArray, List.getElem_cons_zero, List.getElem_cons_succ, Act.put, List.setIfInBounds_toArray, List.set_cons_zero, List.set_cons_succ]
  refine wpAnyH_take (i := 4) (v := ?hv4u5) rfl (by kernel_rfl) (by kernel_rfl) (by kernel_rfl) (fun _ _ _ h => h) (Or.inl ⟨by rfl, ?hy4u5⟩) (by assumption) ?hr4u5
  case hy4u5 => ((intro W9 hSw; have q0' := (World.cell?_of_block (a := ⟨qb, 0, none⟩) hSw.1).trans q0; have x' := (World.cell?_of_block (a := ⟨g, p * 8 + 6, none⟩) hSw.2.1).trans x6; obtain ⟨v0, v1⟩ := q2c (hSw.2.2.trans hs1); go_simp); try with_reducible rfl)
  simp only [List.getElem_toArray, List.getElem_cons_zero, List.getElem_cons_succ, Act.put, List.setIfInBounds_toArray, List.set_cons_zero, List.set_cons_succ]
  refine wpAnyH_take (i := 5) (v := ?hv5u6) rfl (by kernel_rfl) (by kernel_rfl) (by kernel_rfl) (fun _ _ _ h => h) (Or.inl ⟨by rfl, ?hy5u6⟩) (by assumption) ?hr5u6
  case hy5u6 => ((intro W9 hSw; have q0' := (World.cell?_of_block (a := ⟨qb, 0, none⟩) hSw.1).trans q0; have x' := (World.cell?_of_block (a := ⟨g, p * 8 + 6, none⟩) hSw.2.1).trans x6; obtain ⟨v0, v1⟩ := q2c (hSw.2.2.trans hs1); go_simp); try with_reducible rfl)
  simp only [List.getElem_toArray, List.getElem_cons_zero, List.getElem_cons_succ, Act.put, List.setIfInBounds_toArray, List.set_cons_zero, List.set_cons_succ]
  refine wpAnyH_take (i := 6) (v := ?hv6u7) rfl (by kernel_rfl) (by kernel_rfl) (by kernel_rfl) (fun _ _ _ h => h) (Or.inl ⟨by rfl, ?hy6u7⟩) (by assumption) ?hr6u7
  case hy6u7 => ((intro W9 hSw; have q0' := (World.cell?_of_block (a := ⟨qb, 0, none⟩) hSw.1).trans q0; have x' := (World.cell?_of_block (a := ⟨g, p * 8 + 6, none⟩) hSw.2.1).trans x6; obtain ⟨v0, v1⟩ := q2c (hSw.2.2.trans hs1); go_simp); try with_reducible rfl)
  simp only [List.getElem_toArray, List.getElem_cons_zero, List.getElem_cons_succ, Act.put, List.setIfInBounds_toArray, List.set_cons_zero, List.set_cons_succ]
  refine wpAnyH_take (i := 7) (v := ?hv7u8) rfl (by kernel_rfl) (by kernel_rfl) (by kernel_rfl) (fun _ _ _ h => h) (Or.inl ⟨by rfl, ?hy7u8⟩) (by assumption) ?hr7u8
  case hy7u8 => ((intro W9 hSw; have q0' := (World.cell?_of_block (a := ⟨qb, 0, none⟩) hSw.1).trans q0; have x' := (World.cell?_of_block (a := ⟨g, p * 8 + 6, none⟩) hSw.2.1).trans x6; obtain ⟨v0, v1⟩ := q2c (hSw.2.2.trans hs1); go_simp); try with_reducible rfl)
  simp only [List.getElem_toArray, List.getElem_cons_zero, List.getElem_cons_succ, Act.put, List.setIfInBounds_toArray, List.set_cons_zero, List.set_cons_succ]
  refine wpAnyH_take (i := 8) (v := ?hv8u9) rfl (by kernel_rfl) (by kernel_rfl) (by kernel_rfl) (fun _ _ _ h => h) (Or.inl ⟨by rfl, ?hy8u9⟩) (by assumption) ?hr8u9
  case hy8u9 => ((intro W9 hSw; have q0' := (World.cell?_of_block (a := ⟨qb, 0, none⟩) hSw.1).trans q0; have x' := (World.cell?_of_block (a := ⟨g, p * 8 + 6, none⟩) hSw.2.1).trans x6; obtain ⟨v0, v1⟩ := q2c (hSw.2.2.trans hs1); go_simp); try with_reducible rfl)
  simp only [List.getElem_toArray, List.getElem_cons_zero, List.getElem_cons_succ, Act.put, List.setIfInBounds_toArray, List.set_cons_zero, List.set_cons_succ]
  refine wpAnyH_take (i := 9) (v := ?hv9u10) rfl (by kernel_rfl) (by kernel_rfl) (by kernel_rfl) (fun _ _ _ h => h) (Or.inl ⟨by rfl, ?hy9u10⟩) (by assumption) ?hr9u10
  case hy9u10 => ((intro W9 hSw; have q0' := (World.cell?_of_block (a := ⟨qb, 0, none⟩) hSw.1).trans q0; have x' := (World.cell?_of_block (a := ⟨g, p * 8 + 6, none⟩) hSw.2.1).trans x6; obtain ⟨v0, v1⟩ := q2c (hSw.2.2.trans hs1); go_simp); try with_reducible rfl)
  simp only [List.getElem_toArray, List.getElem_cons_zero, List.getElem_cons_succ, Act.put, List.setIfInBounds_toArray, List.set_cons_zero, List.set_cons_succ]
  refine wpAnyH_take (i := 10) (v := ?hv10u11) rfl (by kernel_rfl) (by kernel_rfl) (by kernel_rfl) (fun _ _ _ h => h) (Or.inl ⟨by rfl, ?hy10u11⟩) (by assumption) ?hr10u11
  case hy10u11 => ((intro W9 hSw; have q0' := (World.cell?_of_block (a := ⟨qb, 0, none⟩) hSw.1).trans q0; have x' := (World.cell?_of_block (a := ⟨g, p * 8 + 6, none⟩) hSw.2.1).trans x6; obtain ⟨v0, v1⟩ := q2c (hSw.2.2.trans hs1); go_simp); try with_reducible rfl)
  simp only [List.getElem_toArray, List.getElem_cons_zero, List.getElem_cons_succ, Act.put, List.setIfInBounds_toArray, List.set_cons_zero, List.set_cons_succ]
  refine wpAnyH_take (i := 11) (v := ?hv11u12) rfl (by kernel_rfl) (by kernel_rfl) (by kernel_rfl) (fun _ _ _ h => h) (Or.inl ⟨by rfl, ?hy11u12⟩) (by assumption) ?hr11u12
  case hy11u12 => ((intro W9 hSw; have q0' := (World.cell?_of_block (a := ⟨qb, 0, none⟩) hSw.1).trans q0; have x' := (World.cell?_of_block (a := ⟨g, p * 8 + 6, none⟩) hSw.2.1).trans x6; obtain ⟨v0, v1⟩ := q2c (hSw.2.2.trans hs1); go_simp); try with_reducible rfl)
  simp only [List.getElem_toArray, List.getElem_cons_zero, List.getElem_cons_succ, Act.put, List.setIfInBounds_toArray, List.set_cons_zero, List.set_cons_succ]
  refine wpAnyH_take (i := 12) (v := ?hv12u13) rfl (by kernel_rfl) (by kernel_rfl) (by kernel_rfl) (fun _ _ _ h => h) (Or.inl ⟨by rfl, ?hy12u13⟩) (by assumption) ?hr12u13
  case hy12u13 => ((intro W9 hSw; have q0' := (World.cell?_of_block (a := ⟨qb, 0, none⟩) hSw.1).trans q0; have x' := (World.cell?_of_block (a := ⟨g, p * 8 + 6, none⟩) hSw.2.1).trans x6; obtain ⟨v0, v1⟩ := q2c (hSw.2.2.trans hs1); go_simp); try with_reducible rfl)
  simp only [List.getElem_toArray, List.getElem_cons_zero, List.getElem_cons_succ, Act.put, List.setIfInBounds_toArray, List.set_cons_zero, List.set_cons_succ]
  refine wpAnyH_take (i := 13) (v := ?hv13u14) rfl (by kernel_rfl) (by kernel_rfl) (by kernel_rfl) (fun _ _ _ h => h) (Or.inl ⟨by rfl, ?hy13u14⟩) (by assumption) ?hr13u14
  case hy13u14 => ((intro W9 hSw; have q0' := (World.cell?_of_block (a := ⟨qb, 0, none⟩) hSw.1).trans q0; have x' := (World.cell?_of_block (a := ⟨g, p * 8 + 6, none⟩) hSw.2.1).trans x6; obtain ⟨v0, v1⟩ := q2c (hSw.2.2.trans hs1); go_simp); try with_reducible rfl)
  simp only [List.getElem_toArray, List.getElem_cons_zero, List.getElem_cons_succ, Act.put, List.setIfInBounds_toArray, List.set_cons_zero, List.set_cons_succ]
  refine wpAnyH_take (i := 14) (v := ?hv14u15) rfl (by kernel_rfl) (by kernel_rfl) (by kernel_rfl) (fun _ _ _ h => h) (Or.inl ⟨by rfl, ?hy14u15⟩) (by assumption) ?hr14u15
  case hy14u15 => ((intro W9 hSw; have q0' := (World.cell?_of_block (a := ⟨qb, 0, none⟩) hSw.1).trans q0; have x' := (World.cell?_of_block (a := ⟨g, p * 8 + 6, none⟩) hSw.2.1).trans x6; obtain ⟨v0, v1⟩ := q2c (hSw.2.2.trans hs1); go_simp); try with_reducible rfl)
  simp only [List.getElem_toArray, List.getElem_cons_zero, List.getElem_cons_succ, Act.put, List.setIfInBounds_toArray, List.set_cons_zero, List.set_cons_succ]
  refine wpAnyH_ready (rs := [15]) (by kernel_rfl) (by simp) (AllReadyH.cons rfl (fun KK hK => ?_) AllReadyH.nil)
  dsimp -proj only [List.getElem_toArray, List.getElem_cons_zero, List.getElem_cons_succ]
  have hrd : (W1.drewN 1).heap[W.heap.size + 1]? = some (.cells #[.int .i64 0, .int .i64 0] 61 (0, 0)) := hr1
  refine step_store_mid rfl 61 _ _ rfl (W.heap.size + 1) 0 _ rfl rfl (by intro j hj; have hj2 : j < 2 := hj; have : j = 0 ∨ j = 1 := (by omega); rcases this with rfl | rfl <;> exact ⟨by unfold World.cell?; rw [show W1.drew.heap[W.heap.size + 1]? = _ from hr1]; rfl, frz hrd _⟩) (by kernel_rfl) (by kernel_rfl) ?_
  refine hK.out _ _ ⟨setCells_other _ _ _ _ _ (by omega), setCells_other _ _ _ _ _ (by omega), setCells_other _ _ _ _ _ (by omega)⟩ (fun hHeld => ?_)
  clear hK KK
  try simp only [List.getElem_toArray, List.getElem_cons_zero, List.getElem_cons_succ, Act.put, List.setIfInBounds_toArray, List.set_cons_zero, List.set_cons_succ]
  refine wpAnyH_done (by kernel_rfl) ?_ _
  generalize hwF : (World.setCells _ (W.heap.size + 1) 0 _) = wF
  have hF : wF.heap[W.heap.size + 1]? = some (.cells #[.int .i64 (A.L p : Int), .int .i64 ((d : Int) + 1)] 61 (0, 0)) := by
    rw [← hwF]
    show ((W1.drew.setCell ⟨W.heap.size + 1, 0, none⟩ _).setCell ⟨W.heap.size + 1, 1, none⟩ _).heap[W.heap.size + 1]? = _
    have hrd2 : W1.drew.heap[W.heap.size + 1]? = some (.cells #[.int .i64 0, .int .i64 0] 61 (0, 0)) := hr1
    rw [setCell_block _ _ _ _ (setCell_block _ _ _ _ hrd2)]
    rfl
  have hbF : Below W.heap.size W wF := by rw [← hwF]; exact setCells_below _ _ _ (hb1.trans (below_drewNq _ _ 1)) (by omega)
  obtain ⟨d0, d1⟩ := q2c hF
  clear hwF
  go_wp2
  refine bodyPost_ret (v := .agg #[.int .i64 (A.L p : Int), .int .i64 ((d : Int) + 1)]) (by simp [results, Try.results55, go_sem, d0, d1]; try rfl) rfl ?_
  exact ⟨rfl, hbF⟩
set_option maxRecDepth 100000 in
set_option maxHeartbeats 4000000 in
theorem below1 (base qb g c n : Nat) (A : Ar) (f r s m k : Int) (p d : Nat) (W : World) (h : QW W base qb g c n A f r s m k) (hp : p < n) (hn : n ≤ 8193) (hd : d ≤ 8193) :
    Calls Try.prog 55 #[.pointer (some ⟨qb, 0, none⟩), .agg #[.int .i64 (p : Int), .int .i64 (d : Int)], .int .i64 1] W fun e W' => e = .returned (.agg #[.int .i64 (A.R p : Int), .int .i64 ((d : Int) + 1)]) ∧ Below W.heap.size W W' := by
  obtain ⟨W1, hW1⟩ : ∃ W1, (W.alloc (.cells #[.int .i64 (p : Int), .int .i64 (d : Int)] 61)).alloc (.cells #[.int .i64 0, .int .i64 0] 61) = W1 := ⟨_, rfl⟩
  have hb1 : Below W.heap.size W W1 := by rw [← hW1]; exact ((Below.refl _ W).alloc (Nat.le_refl _) _).alloc (by simp) _
  have hs1 : W1.heap[W.heap.size]? = some (.cells #[.int .i64 (p : Int), .int .i64 (d : Int)] 61 (0, 0)) := by rw [← hW1, Below.heap_alloc _ _ _ (by simp)]; exact World.alloc_heap_new W _
  have hr1 : W1.heap[W.heap.size + 1]? = some (.cells #[.int .i64 0, .int .i64 0] 61 (0, 0)) := by
    rw [← hW1]
    have := World.alloc_heap_new (W.alloc (.cells #[.int .i64 (p : Int), .int .i64 (d : Int)] 61)) (.cells #[.int .i64 0, .int .i64 0] 61)
    rwa [World.size_alloc] at this
  have HW : Hid ((W.alloc (.cells #[.int .i64 (p : Int), .int .i64 (d : Int)] 61)).alloc (.cells #[.int .i64 0, .int .i64 0] 61) = W1) := hW1
  have hQ1 := h.later hb1
  obtain ⟨q0, q1, q2, q3, q4, q5⟩ := hQ1.cells
  have x6 : W1.cell? ⟨g, p * 8 + 7, none⟩ = some (.int .i64 (A.R p : Int)) := hQ1.nd hp 7 (by decide)
  have i0 : (0 : Int) ≤ (p : Int) := by omega
  have i1 : (p : Int) < (n : Int) := by omega
  have ed : IntKind.i64.wrap ((d : Int) + 1) = (d : Int) + 1 := by rw [IntKind.wrap_i64]; omega
  have hlt := h.lt
  clear hW1
  go_enter Try.func55, Try.ntmps55
  go_wp2_with fail
  rw [HW.out]
  refine wp_region_held_drew (S := fun W9 => W9.heap[qb]? = W1.heap[qb]? ∧ W9.heap[g]? = W1.heap[g]? ∧ W9.heap[W.heap.size]? = W1.heap[W.heap.size]?) (by kernel_rfl) ⟨rfl, rfl, rfl⟩ (fun hHeld => ?_)
  refine wpAnyH_take (i := 0) (v := ?hv0u16) rfl (by kernel_rfl) (by kernel_rfl) (by kernel_rfl) (fun _ _ _ h => h) (Or.inl ⟨by rfl, ?hy0u16⟩) (by assumption) ?hr0u16
  case hy0u16 => ((intro W9 hSw; have q0' := (World.cell?_of_block (a := ⟨qb, 0, none⟩) hSw.1).trans q0; have x' := (World.cell?_of_block (a := ⟨g, p * 8 + 7, none⟩) hSw.2.1).trans x6; obtain ⟨v0, v1⟩ := q2c (hSw.2.2.trans hs1); go_simp); try with_reducible rfl)
  simp only [List.getElem_toArray, List.getElem_cons_zero, List.getElem_cons_succ, Act.put, List.setIfInBounds_toArray, List.set_cons_zero, List.set_cons_succ]
  refine wpAnyH_take (i := 1) (v := ?hv1u17) rfl (by kernel_rfl) (by kernel_rfl) (by kernel_rfl) (fun _ _ _ h => h) (Or.inl ⟨by rfl, ?hy1u17⟩) (by assumption) ?hr1u17
  case hy1u17 => ((intro W9 hSw; have q0' := (World.cell?_of_block (a := ⟨qb, 0, none⟩) hSw.1).trans q0; have x' := (World.cell?_of_block (a := ⟨g, p * 8 + 7, none⟩) hSw.2.1).trans x6; obtain ⟨v0, v1⟩ := q2c (hSw.2.2.trans hs1); go_simp); try with_reducible rfl)
  simp only [List.getElem_toArray, List.getElem_cons_zero, List.getElem_cons_succ, Act.put, List.setIfInBounds_toArray, List.set_cons_zero, List.set_cons_succ]
  refine wpAnyH_take (i := 2) (v := ?hv2u18) rfl (by kernel_rfl) (by kernel_rfl) (by kernel_rfl) (fun _ _ _ h => h) (Or.inl ⟨by rfl, ?hy2u18⟩) (by assumption) ?hr2u18
  case hy2u18 => ((intro W9 hSw; have q0' := (World.cell?_of_block (a := ⟨qb, 0, none⟩) hSw.1).trans q0; have x' := (World.cell?_of_block (a := ⟨g, p * 8 + 7, none⟩) hSw.2.1).trans x6; obtain ⟨v0, v1⟩ := q2c (hSw.2.2.trans hs1); go_simp); try with_reducible rfl)
  simp only [List.getElem_toArray, List.getElem_cons_zero, List.getElem_cons_succ, Act.put, List.setIfInBounds_toArray, List.set_cons_zero, List.set_cons_succ]
  refine wpAnyH_take (i := 3) (v := ?hv3u19) rfl (by kernel_rfl) (by kernel_rfl) (by kernel_rfl) (fun _ _ _ h => h) (Or.inl ⟨by rfl, ?hy3u19⟩) (by assumption) ?hr3u19
  case hy3u19 => ((intro W9 hSw; have q0' := (World.cell?_of_block (a := ⟨qb, 0, none⟩) hSw.1).trans q0; have x' := (World.cell?_of_block (a := ⟨g, p * 8 + 7, none⟩) hSw.2.1).trans x6; obtain ⟨v0, v1⟩ := q2c (hSw.2.2.trans hs1); go_simp); try with_reducible rfl)
  simp only [List.getElem_toArray, List.getElem_cons_zero, List.getElem_cons_succ, Act.put, List.setIfInBounds_toArray, List.set_cons_zero, List.set_cons_succ]
  refine wpAnyH_take (i := 4) (v := ?hv4u20) rfl (by kernel_rfl) (by kernel_rfl) (by kernel_rfl) (fun _ _ _ h => h) (Or.inl ⟨by rfl, ?hy4u20⟩) (by assumption) ?hr4u20
  case hy4u20 => ((intro W9 hSw; have q0' := (World.cell?_of_block (a := ⟨qb, 0, none⟩) hSw.1).trans q0; have x' := (World.cell?_of_block (a := ⟨g, p * 8 + 7, none⟩) hSw.2.1).trans x6; obtain ⟨v0, v1⟩ := q2c (hSw.2.2.trans hs1); go_simp); try with_reducible rfl)
  simp only [List.getElem_toArray, List.getElem_cons_zero, List.getElem_cons_succ, Act.put, List.setIfInBounds_toArray, List.set_cons_zero, List.set_cons_succ]
  refine wpAnyH_take (i := 5) (v := ?hv5u21) rfl (by kernel_rfl) (by kernel_rfl) (by kernel_rfl) (fun _ _ _ h => h) (Or.inl ⟨by rfl, ?hy5u21⟩) (by assumption) ?hr5u21
  case hy5u21 => ((intro W9 hSw; have q0' := (World.cell?_of_block (a := ⟨qb, 0, none⟩) hSw.1).trans q0; have x' := (World.cell?_of_block (a := ⟨g, p * 8 + 7, none⟩) hSw.2.1).trans x6; obtain ⟨v0, v1⟩ := q2c (hSw.2.2.trans hs1); go_simp); try with_reducible rfl)
  simp only [List.getElem_toArray, List.getElem_cons_zero, List.getElem_cons_succ, Act.put, List.setIfInBounds_toArray, List.set_cons_zero, List.set_cons_succ]
  refine wpAnyH_take (i := 6) (v := ?hv6u22) rfl (by kernel_rfl) (by kernel_rfl) (by kernel_rfl) (fun _ _ _ h => h) (Or.inl ⟨by rfl, ?hy6u22⟩) (by assumption) ?hr6u22
  case hy6u22 => ((intro W9 hSw; have q0' := (World.cell?_of_block (a := ⟨qb, 0, none⟩) hSw.1).trans q0; have x' := (World.cell?_of_block (a := ⟨g, p * 8 + 7, none⟩) hSw.2.1).trans x6; obtain ⟨v0, v1⟩ := q2c (hSw.2.2.trans hs1); go_simp); try with_reducible rfl)
  simp only [List.getElem_toArray, List.getElem_cons_zero, List.getElem_cons_succ, Act.put, List.setIfInBounds_toArray, List.set_cons_zero, List.set_cons_succ]
  refine wpAnyH_take (i := 7) (v := ?hv7u23) rfl (by kernel_rfl) (by kernel_rfl) (by kernel_rfl) (fun _ _ _ h => h) (Or.inl ⟨by rfl, ?hy7u23⟩) (by assumption) ?hr7u23
  case hy7u23 => ((intro W9 hSw; have q0' := (World.cell?_of_block (a := ⟨qb, 0, none⟩) hSw.1).trans q0; have x' := (World.cell?_of_block (a := ⟨g, p * 8 + 7, none⟩) hSw.2.1).trans x6; obtain ⟨v0, v1⟩ := q2c (hSw.2.2.trans hs1); go_simp); try with_reducible rfl)
  simp only [List.getElem_toArray, List.getElem_cons_zero, List.getElem_cons_succ, Act.put, List.setIfInBounds_toArray, List.set_cons_zero, List.set_cons_succ]
  refine wpAnyH_take (i := 8) (v := ?hv8u24) rfl (by kernel_rfl) (by kernel_rfl) (by kernel_rfl) (fun _ _ _ h => h) (Or.inl ⟨by rfl, ?hy8u24⟩) (by assumption) ?hr8u24
  case hy8u24 => ((intro W9 hSw; have q0' := (World.cell?_of_block (a := ⟨qb, 0, none⟩) hSw.1).trans q0; have x' := (World.cell?_of_block (a := ⟨g, p * 8 + 7, none⟩) hSw.2.1).trans x6; obtain ⟨v0, v1⟩ := q2c (hSw.2.2.trans hs1); go_simp); try with_reducible rfl)
  simp only [List.getElem_toArray, List.getElem_cons_zero, List.getElem_cons_succ, Act.put, List.setIfInBounds_toArray, List.set_cons_zero, List.set_cons_succ]
  refine wpAnyH_take (i := 9) (v := ?hv9u25) rfl (by kernel_rfl) (by kernel_rfl) (by kernel_rfl) (fun _ _ _ h => h) (Or.inl ⟨by rfl, ?hy9u25⟩) (by assumption) ?hr9u25
  case hy9u25 => ((intro W9 hSw; have q0' := (World.cell?_of_block (a := ⟨qb, 0, none⟩) hSw.1).trans q0; have x' := (World.cell?_of_block (a := ⟨g, p * 8 + 7, none⟩) hSw.2.1).trans x6; obtain ⟨v0, v1⟩ := q2c (hSw.2.2.trans hs1); go_simp); try with_reducible rfl)
  simp only [List.getElem_toArray, List.getElem_cons_zero, List.getElem_cons_succ, Act.put, List.setIfInBounds_toArray, List.set_cons_zero, List.set_cons_succ]
  refine wpAnyH_take (i := 10) (v := ?hv10u26) rfl (by kernel_rfl) (by kernel_rfl) (by kernel_rfl) (fun _ _ _ h => h) (Or.inl ⟨by rfl, ?hy10u26⟩) (by assumption) ?hr10u26
  case hy10u26 => ((intro W9 hSw; have q0' := (World.cell?_of_block (a := ⟨qb, 0, none⟩) hSw.1).trans q0; have x' := (World.cell?_of_block (a := ⟨g, p * 8 + 7, none⟩) hSw.2.1).trans x6; obtain ⟨v0, v1⟩ := q2c (hSw.2.2.trans hs1); go_simp); try with_reducible rfl)
  simp only [List.getElem_toArray, List.getElem_cons_zero, List.getElem_cons_succ, Act.put, List.setIfInBounds_toArray, List.set_cons_zero, List.set_cons_succ]
  refine wpAnyH_take (i := 11) (v := ?hv11u27) rfl (by kernel_rfl) (by kernel_rfl) (by kernel_rfl) (fun _ _ _ h => h) (Or.inl ⟨by rfl, ?hy11u27⟩) (by assumption) ?hr11u27
  case hy11u27 => ((intro W9 hSw; have q0' := (World.cell?_of_block (a := ⟨qb, 0, none⟩) hSw.1).trans q0; have x' := (World.cell?_of_block (a := ⟨g, p * 8 + 7, none⟩) hSw.2.1).trans x6; obtain ⟨v0, v1⟩ := q2c (hSw.2.2.trans hs1); go_simp); try with_reducible rfl)
  simp only [List.getElem_toArray, List.getElem_cons_zero, List.getElem_cons_succ, Act.put, List.setIfInBounds_toArray, List.set_cons_zero, List.set_cons_succ]
  refine wpAnyH_take (i := 12) (v := ?hv12u28) rfl (by kernel_rfl) (by kernel_rfl) (by kernel_rfl) (fun _ _ _ h => h) (Or.inl ⟨by rfl, ?hy12u28⟩) (by assumption) ?hr12u28
  case hy12u28 => ((intro W9 hSw; have q0' := (World.cell?_of_block (a := ⟨qb, 0, none⟩) hSw.1).trans q0; have x' := (World.cell?_of_block (a := ⟨g, p * 8 + 7, none⟩) hSw.2.1).trans x6; obtain ⟨v0, v1⟩ := q2c (hSw.2.2.trans hs1); go_simp); try with_reducible rfl)
  simp only [List.getElem_toArray, List.getElem_cons_zero, List.getElem_cons_succ, Act.put, List.setIfInBounds_toArray, List.set_cons_zero, List.set_cons_succ]
  refine wpAnyH_take (i := 13) (v := ?hv13u29) rfl (by kernel_rfl) (by kernel_rfl) (by kernel_rfl) (fun _ _ _ h => h) (Or.inl ⟨by rfl, ?hy13u29⟩) (by assumption) ?hr13u29
  case hy13u29 => ((intro W9 hSw; have q0' := (World.cell?_of_block (a := ⟨qb, 0, none⟩) hSw.1).trans q0; have x' := (World.cell?_of_block (a := ⟨g, p * 8 + 7, none⟩) hSw.2.1).trans x6; obtain ⟨v0, v1⟩ := q2c (hSw.2.2.trans hs1); go_simp); try with_reducible rfl)
  simp only [List.getElem_toArray, List.getElem_cons_zero, List.getElem_cons_succ, Act.put, List.setIfInBounds_toArray, List.set_cons_zero, List.set_cons_succ]
  refine wpAnyH_take (i := 14) (v := ?hv14u30) rfl (by kernel_rfl) (by kernel_rfl) (by kernel_rfl) (fun _ _ _ h => h) (Or.inl ⟨by rfl, ?hy14u30⟩) (by assumption) ?hr14u30
  case hy14u30 => ((intro W9 hSw; have q0' := (World.cell?_of_block (a := ⟨qb, 0, none⟩) hSw.1).trans q0; have x' := (World.cell?_of_block (a := ⟨g, p * 8 + 7, none⟩) hSw.2.1).trans x6; obtain ⟨v0, v1⟩ := q2c (hSw.2.2.trans hs1); go_simp); try with_reducible rfl)
  simp only [List.getElem_toArray, List.getElem_cons_zero, List.getElem_cons_succ, Act.put, List.setIfInBounds_toArray, List.set_cons_zero, List.set_cons_succ]
  refine wpAnyH_ready (rs := [15]) (by kernel_rfl) (by simp) (AllReadyH.cons rfl (fun KK hK => ?_) AllReadyH.nil)
  dsimp -proj only [List.getElem_toArray, List.getElem_cons_zero, List.getElem_cons_succ]
  have hrd : (W1.drewN 1).heap[W.heap.size + 1]? = some (.cells #[.int .i64 0, .int .i64 0] 61 (0, 0)) := hr1
  refine step_store_mid rfl 61 _ _ rfl (W.heap.size + 1) 0 _ rfl rfl (by intro j hj; have hj2 : j < 2 := hj; have : j = 0 ∨ j = 1 := (by omega); rcases this with rfl | rfl <;> exact ⟨by unfold World.cell?; rw [show W1.drew.heap[W.heap.size + 1]? = _ from hr1]; rfl, frz hrd _⟩) (by kernel_rfl) (by kernel_rfl) ?_
  refine hK.out _ _ ⟨setCells_other _ _ _ _ _ (by omega), setCells_other _ _ _ _ _ (by omega), setCells_other _ _ _ _ _ (by omega)⟩ (fun hHeld => ?_)
  clear hK KK
  try simp only [List.getElem_toArray, List.getElem_cons_zero, List.getElem_cons_succ, Act.put, List.setIfInBounds_toArray, List.set_cons_zero, List.set_cons_succ]
  refine wpAnyH_done (by kernel_rfl) ?_ _
  generalize hwF : (World.setCells _ (W.heap.size + 1) 0 _) = wF
  have hF : wF.heap[W.heap.size + 1]? = some (.cells #[.int .i64 (A.R p : Int), .int .i64 ((d : Int) + 1)] 61 (0, 0)) := by
    rw [← hwF]
    show ((W1.drew.setCell ⟨W.heap.size + 1, 0, none⟩ _).setCell ⟨W.heap.size + 1, 1, none⟩ _).heap[W.heap.size + 1]? = _
    have hrd2 : W1.drew.heap[W.heap.size + 1]? = some (.cells #[.int .i64 0, .int .i64 0] 61 (0, 0)) := hr1
    rw [setCell_block _ _ _ _ (setCell_block _ _ _ _ hrd2)]
    rfl
  have hbF : Below W.heap.size W wF := by rw [← hwF]; exact setCells_below _ _ _ (hb1.trans (below_drewNq _ _ 1)) (by omega)
  obtain ⟨d0, d1⟩ := q2c hF
  clear hwF
  go_wp2
  refine bodyPost_ret (v := .agg #[.int .i64 (A.R p : Int), .int .i64 ((d : Int) + 1)]) (by simp [results, Try.results55, go_sem, d0, d1]; try rfl) rfl ?_
  exact ⟨rfl, hbF⟩
end Go.Proofs.Ytlklolmhaiaaiaa
