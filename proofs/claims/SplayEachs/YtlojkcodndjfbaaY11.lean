import Derived.Test.YtlojkcodndjfbaaY10
namespace Go.Proofs.Ytlojkcodndjfbaa
open Go.ChangeShapes Go.WideShapes Go.ChangeAt Go.RowKit
set_option linter.unusedVariables false
set_option linter.unusedSimpArgs false

/-- a node that has been cut off goes to the free ones -/
theorem unlink {W W' : World} {base qb g c n : Nat} {A A3 : Ar} {t b : Tr} {fl : List Nat} {root m rb : Nat} {room work work' : Int} (h : QI W base qb g c n A t fl root room work) (hps : t.ps = m :: b.ps) (hE : A3.E = A.E) (hlb : b.lies A3.L A3.R rb) (hout : ∀ p, p ∉ t.ps → A3.L p = A.L p ∧ A3.R p = A.R p) (hq : QW W' base qb g c n (A3.set m ev0 (fl.headD 0) 0) m rb ((t.size - 1 : Nat) : Int) room work') (hw : 0 ≤ work') : QI W' base qb g c n (A3.set m ev0 (fl.headD 0) 0) b (m :: fl) rb room work' ∧ b.ps.map (A3.set m ev0 (fl.headD 0) 0).E = b.ps.map A.E := by
  have hnd := h.ndT
  rw [hps, List.nodup_cons] at hnd
  have hmt : m ∈ t.ps := by rw [hps]; simp
  have hm0 : m ≠ 0 := h.neT m hmt
  have hsz : b.size = t.size - 1 := by
    have := congrArg List.length hps
    rw [List.length_cons, Tr.size_ps, Tr.size_ps] at this
    omega
  have hsz2 : t.size = b.size + 1 := by
    have := congrArg List.length hps
    rw [List.length_cons, Tr.size_ps, Tr.size_ps] at this
    omega
  have hnb : ∀ q ∈ b.ps, q ≠ m := fun q hq e => hnd.1 (e ▸ hq)
  have hL : ∀ q, q ≠ m → (A3.set m ev0 (fl.headD 0) 0).L q = A3.L q := fun q hq => upd_ne _ _ hq
  have hR : ∀ q, q ≠ m → (A3.set m ev0 (fl.headD 0) 0).R q = A3.R q := fun q hq => upd_ne _ _ hq
  have hEq : ∀ q, q ≠ m → (A3.set m ev0 (fl.headD 0) 0).E q = A.E q := fun q hq => by show updE A3.E m ev0 q = _; unfold updE; rw [if_neg hq, hE]
  have hnd2 := List.nodup_append.1 h.nd
  have hmf : ∀ q ∈ fl, q ≠ m ∧ q ∉ t.ps := fun q hq => ⟨fun e => hnd2.2.2 m hmt q hq e.symm, fun h2 => hnd2.2.2 q h2 q hq rfl⟩
  refine ⟨⟨?_, ?_, ⟨upd_at _ _ _, ?_⟩, ?_, ?_, ?_, ?_, h.nr, h.rm, ?_, hw⟩, List.map_congr_left fun q hq => hEq q (hnb q hq)⟩
  · rw [hsz]; exact hq
  · exact Tr.lies_congr hlb fun q hq => ⟨hL q (hnb q hq), hR q (hnb q hq)⟩
  · exact FLs.congr h.fr fun q hq => by rw [hL q (hmf q hq).1]; exact (hout q (hmf q hq).2).1
  · rw [List.nodup_append, List.nodup_cons]
    refine ⟨hnd.2, ⟨fun h2 => (hmf m h2).1 rfl, hnd2.2.1⟩, fun x hx y hy => ?_⟩
    rcases List.mem_cons.1 hy with h2 | h2
    · rw [h2]; exact hnb x hx
    · exact hnd2.2.2 x (by rw [hps]; simp [hx]) y h2
  · intro x hx
    have hx' : x ∈ b.ps ∨ x = m ∨ x ∈ fl := by simpa using hx
    rcases hx' with h2 | h2 | h2
    · exact h.inr x (by rw [hps]; simp [h2])
    · rw [h2]; exact h.inr m (by simp [hmt])
    · exact h.inr x (by simp [h2])
  · have := h.cnt
    simp only [List.length_cons]
    omega
  · have h0 : (0 : Nat) ∉ t.ps := fun hq => h.neT 0 hq rfl
    rw [hL 0 (fun e => hm0 e.symm), hR 0 (fun e => hm0 e.symm), (hout 0 h0).1, (hout 0 h0).2]
    exact h.z
  · have hs := h.srt
    rw [hps, List.pairwise_cons] at hs
    exact hs.2.imp_of_mem fun {x y} hx hy h2 => by rw [hEq x (hnb x hx), hEq y (hnb y hy)]; exact h2
set_option maxRecDepth 100000 in
set_option maxHeartbeats 4000000 in
theorem pop_any (base qb g c n : Nat) (A : Ar) (t : Tr) (fl : List Nat) (root : Nat) (room work : Int) (W : World) (h : QI W base qb g c n A t fl root room work) (ht : t ≠ .nil) (hwk2 : work ≤ 4611686018427387904) :
    Calls Try.prog 10 #[.pointer (some ⟨qb, 0, none⟩)] W fun e' W' => ∃ (A' : Ar) (t' : Tr) (fl' : List Nat) (root' m : Nat), e' = .returned (.tuple #[evV (A.E m), .int .i64 0]) ∧ QI W' base qb g c n A' t' fl' root' room (work + (openT sdL t).k) ∧ t.ps = m :: t'.ps ∧ t'.ps.map A'.E = t'.ps.map A.E ∧ Ch (S2 qb g) W W' := by
  obtain ⟨W1, hW1⟩ : ∃ W1, W.alloc (.cells #[.int .u64 0, .int .i64 0, .int .u64 0, .int .i64 0, .int .i64 0, .int .i64 0] 27) = W1 := ⟨_, rfl⟩
  have hb1 : Below W.heap.size W W1 := by rw [← hW1]; exact (Below.refl _ W).alloc (Nat.le_refl _) _
  have he1 : W1.heap[W.heap.size]? = some (.cells #[.int .u64 0, .int .i64 0, .int .u64 0, .int .i64 0, .int .i64 0, .int .i64 0] 27 (0, 0)) := by rw [← hW1]; exact World.alloc_heap_new W _
  have HW : Hid (W.alloc (.cells #[.int .u64 0, .int .i64 0, .int .u64 0, .int .i64 0, .int .i64 0, .int .i64 0] 27) = W1) := hW1
  have hQ1 := h.q.later hb1
  have hlt := h.q.lt
  have hn1 := h.n1
  have hwk := h.wk
  have hl1 := lt_of_block he1
  have hroot : root ≠ 0 := fun e => ht (Tr.lies_zero (e ▸ h.ti))
  have dr : ((root : Int) == 0) = false := by simp; omega
  obtain ⟨q0, q1, q2, q3, q4, q5⟩ := hQ1.cells
  rw [← hW1] at q0 q1 q2 q3 q4 q5
  have hps := least_ps ht h.neT
  have hmn : (openT sdL t).m < n := h.inT _ (by rw [hps]; simp)
  have hk9 := openT_k _ side_sdL t.size t (Nat.le_refl _)
  have HL := least_any base qb g c n A _ _ _ _ _ t root W1 hQ1 hn1.2.1 hn1.1 h.ti h.ndT h.inT h.z ⟨hwk, hwk2⟩ hn1.2.2
  have hsz : 0 < t.size := by rw [← Tr.size_ps, hps]; simp
  generalize hO : openT sdL t = O at *
  clear hW1
  go_enter Try.func10, Try.ntmps10
  go_wp2_with (first | (go_at_call 36; rw [HW.out]; (with_reducible refine HL.mono ?_); rintro e' w2 ⟨A2, rb, rfl, hQ2, hE2, hlb, hout, hC2⟩; obtain ⟨z0, z1, z2, z3, z4, z5⟩ := hQ2.cells; have zf := own_frozen hQ2.box 2; have hQ3 := hQ2.setRoot (rb : Int); have HV := leave_any base qb g c n A2 (fl.headD 0) _ t.size _ _ O.m _ hQ3 hmn hn1.2.1 ⟨hsz, hn1.2.2⟩) | (go_at_call 37; (with_reducible refine HV.mono ?_); rintro e' w4 ⟨rfl, hQ4, hC4⟩; have hC14 : Ch (S2 qb g) W1 w4 := hC2.trans ((Ch.set _ _ _ _ _ (.inl rfl)).trans hC4); have he4 := (hC14.block _ hl1 (by rintro (e | e) <;> omega)).trans he1; obtain ⟨r0, r1, r2, r3, r4, r5⟩ := q6c he4; have rf := frz he4; have rf0 := rf 0; have rf1 := rf 1; have rf2 := rf 2; have rf3 := rf 3; have rf4 := rf 4; have rf5 := rf 5; clear rf; unfold evV))
  generalize hWF : (World.setCell (World.setCell (World.setCell (World.setCell (World.setCell (World.setCell w4 _ _) _ _) _ _) _ _) _ _) _ _) = wF
  obtain ⟨p1, p2, p3⟩ := put6 he4 _ _ _ _ _ _ wF hWF
  obtain ⟨d0, d1, d2, d3, d4, d5⟩ := q6c p1
  refine bodyPost_ret (v := .tuple #[evV (A.E O.m), .int .i64 0]) (by simp [results, Try.results10, go_sem, d0, d1, d2, d3, d4, d5, evV]; try rfl) rfl ?_
  have hQF : QW wF base qb g c n (A2.set O.m ev0 (fl.headD 0) 0) O.m rb ((t.size - 1 : Nat) : Int) room (work + O.k) := ⟨hQ4.box.far fun j e => (by cases e; exact p2 qb (by omega)), hQ4.row.far fun j e => (by cases e; exact p2 g (by omega)), hQ4.ne⟩
  obtain ⟨r1, r2⟩ := unlink h hps hE2 hlb hout hQF (by omega)
  refine ⟨_, O.b, _, rb, O.m, rfl, r1, hps, r2, ?_⟩
  have hcF : Ch (S2 qb g) W w4 := (Ch.below hb1).trans hC14
  have hbF := p3 0 _ (Below.refl 0 _) (Nat.zero_le _)
  exact ⟨hbF.os.trans hcF.os, hbF.tape.trans hcF.tape, hbF.output.trans hcF.output, Nat.le_trans hcF.size hbF.size, fun j hj hs => (p2 j (by omega)).trans (hcF.block j hj hs)⟩
end Go.Proofs.Ytlojkcodndjfbaa
