import Derived.Test.YtlklolmhaiaaiaaJYB1
namespace Go.Proofs.Ytlklolmhaiaaiaa
open Go.ChangeShapes Go.WideShapes Go.ChangeAt Go.RowKit
set_option linter.unusedVariables false
set_option linter.unusedSimpArgs false

set_option maxRecDepth 100000 in
set_option maxHeartbeats 8000000 in
theorem heldA_pop {R0 : (Nat → Ev) → Tr → Int → Prop} {R1 : Tr → Int → Prop} {o : OpV} {room : Int} (hOC : OpC R0 R1 o room) {base qb g c : Nat} {wb : Int} {L : List Ev} {p : Option Addr} (W : World) (h : QSR R0 base qb g room wb L W) (hE : EL W qb g p c L) (hwb : wb ≤ 4611686018427000000 - 16384) (hn1 : o.kd ≠ 1) (hn2 : o.kd ≠ 2) (hk : o.kd = 3) : Calls Try.prog 12 #[.pointer (some ⟨qb, 0, none⟩), .slice p L.length c, .int .i64 room, .agg (opA o)] W fun r W' => HResA R1 base qb g room wb W r W' := by
  have HKD : Hid _ := hk
  obtain ⟨W1, hW1⟩ : ∃ W1, W.alloc (.cells (opA o) 32) = W1 := ⟨_, rfl⟩
  have hb1 : Below W.heap.size W W1 := by rw [← hW1]; exact (Below.refl _ W).alloc (Nat.le_refl _) _
  have ho1 : W1.heap[W.heap.size]? = some (.cells (opA o) 32 (0, 0)) := by rw [← hW1]; exact World.alloc_heap_new W _
  have hln := h.len
  have hsrt := h.srt
  have hlt := h.lt
  have HSK := seekE o.t o.s o.q (hE.later hb1) hsrt (by omega)
  unfold opA at *
  obtain ⟨y0, y1, y2, y3, y4, y5, y6⟩ := c7 ho1
  rw [← hW1] at y0 y1 y2 y3 y4 y5 y6
  have HW : Hid (W.alloc (.cells #[.int .i64 o.kd, .int .i64 o.wh, .int .u64 o.t, .int .i64 o.s, .int .u64 o.q, .int .i64 o.d, .int .i64 o.n] 32) = W1) := hW1
  have H0 : Hid (QSR R0 base qb g room wb L W1 ∧ EL W1 qb g p c L ∧ wb ≤ 4611686018427000000 - 16384 ∧ Below W.heap.size W W1 ∧ W1.heap[W.heap.size]? = some (.cells #[.int .i64 o.kd, .int .i64 o.wh, .int .u64 o.t, .int .i64 o.s, .int .u64 o.q, .int .i64 o.d, .int .i64 o.n] 32 (0, 0)) ∧ ((L.length : Int) ≤ room ∧ room ≤ 8192) ∧ L.Pairwise keyLt ∧ (qb < W.heap.size ∧ base ≤ qb) ∧ g < W.heap.size ∧ base ≤ g) := ⟨h.later hb1, hE.later hb1, hwb, hb1, ho1, hln, hsrt, hlt⟩
  have d1 : (o.kd == 1) = false := by simpa using hn1
  have d2 : (o.kd == 2) = false := by simpa using hn2
  have d3 : (o.kd == 3) = true := by simpa using hk
  clear hW1 hb1 ho1 h hE hwb hln hsrt hlt hn1 hn2 hk
  generalize hnL : L.length = n at HSK ⊢
  have HNL : Hid (L.length = n) := hnL
  clear hnL
  go_enter Try.func12, Try.ntmps12
  go_upto_region 14 with (go_at_call 28; rw [HW.out]; (with_reducible refine HSK.mono ?_); rintro e w2 ⟨i, th, rfl, hb2, hsk⟩; obtain ⟨z0, z1, z2, z3, z4, z5, z6⟩ := c7 ((hb2.block _ (lt_of_block H0.out.2.2.2.2.1)).trans H0.out.2.2.2.2.1); have HS : Hid (Below W1.heap.size W1 w2 ∧ SK L o.t o.s o.q i th ∧ QSR R0 base qb g room wb L w2 ∧ EL w2 qb g p c L ∧ Ch (S2 qb g) W w2) := ⟨hb2, hsk, H0.out.1.later hb2, H0.out.2.1.later hb2, (Ch.below H0.out.2.2.2.1).trans (Ch.below hb2)⟩; clear hb2 hsk y0 y1 y2 y3 y4 y5 y6)
  have HM := popA hOC HKD.out w2 HS.out.2.2.1 (by have := H0.out.2.2.1; omega)
  unfold evV at HM
  go_upto_region 15 with (go_at_call 34; (with_reducible refine HM.mono ?_); rintro e w3 ⟨x, code, L', rfl, hcs, hq3, hC3⟩; have HM3 : Hid ((L = [] ∧ L' = [] ∧ x = ev0 ∧ code = 82 ∨ code = 0 ∧ L = x :: L') ∧ QSR (rOf R1) base qb g room (wb + 16384) L' w3 ∧ Ch (S2 qb g) w2 w3) := ⟨hcs, hq3, hC3⟩; clear hcs hq3 hC3)
  obtain ⟨w4, hw4⟩ : ∃ w4, w3.alloc (.cells #[.int .u64 (x).t, .int .i64 (x).s, .int .u64 (x).q, .int .i64 (x).d, .int .i64 (x).k, .int .i64 (x).v] 64) = w4 := ⟨_, rfl⟩
  rw [hw4]
  have hb4 : Below w3.heap.size w3 w4 := by rw [← hw4]; exact (Below.refl _ w3).alloc (Nat.le_refl _) _
  have ha4 : w4.heap[w3.heap.size]? = some (.cells #[.int .u64 (x).t, .int .i64 (x).s, .int .u64 (x).q, .int .i64 (x).d, .int .i64 (x).k, .int .i64 (x).v] 64 (0, 0)) := by rw [← hw4]; exact World.alloc_heap_new w3 _
  obtain ⟨a0, a1, a2, a3, a4, a5⟩ := q6c ha4
  have hE4 : EL w4 qb g p c L := (HS.out.2.2.2.1.keep HM3.out.2.2 (.inl rfl)).later hb4
  have HF : Hid (EL w4 qb g p c L ∧ Below w3.heap.size w3 w4) := ⟨hE4, hb4⟩
  clear hw4 hb4 ha4 HM
  rcases HM3.out.1 with ⟨e0, e1, e2, e3⟩ | ⟨e1, e0⟩
  · have hn0 : n = 0 := by rw [← HNL.out, e0]; rfl
    have HT := told_no (.slice p n c) 82 0 w4
    have HL' : Hid (L' = [] ∧ L = []) := ⟨e1, e0⟩
    subst e2 e3
    unfold evV at HT
    have dn : decide (0 < n) = false := by simp; omega
    clear e0 e1 hE4 hn0
    go_wp2_with (go_at_call 33; (with_reducible refine HT.mono ?_); rintro e w5 ⟨rfl, hb5⟩)
    refine bodyPost_ret (v := .tuple #[.slice p n c, .bool true]) (by simp [results, Try.results12, go_sem]) rfl ?_
    have hb35 : Below w3.heap.size w3 w5 := HF.out.2.trans (hb5.mono HF.out.2.size)
    exact ⟨p, c, g, L, by rw [HNL.out], by have h9 := HM3.out.2.1.later hb35; rw [HL'.out.1, ← HL'.out.2] at h9; exact h9, HF.out.1.later hb5, .inl rfl, (HS.out.2.2.2.2.trans HM3.out.2.2).trans (Ch.below hb35)⟩
  · have hn0 : 0 < L.length := by rw [e0]; simp
    have hx : lX L 0 = x := by rw [e0]; rfl
    have HT := toldE 0 82 hE4 hn0
    rw [HNL.out, hx, show ((0 : Nat) : Int) = 0 from rfl] at HT
    unfold evV at HT
    have hlx : ∀ k, lX L (1 + k) = lX L' k := fun k => by rw [e0, Nat.add_comm]; rfl
    have hll : L.length = L'.length + 1 := by rw [e0]; rfl
    obtain ⟨m, hm⟩ : ∃ m, n - 1 = m := ⟨_, rfl⟩
    obtain ⟨kk, hkk⟩ : ∃ kk, c - 1 = kk := ⟨_, rfl⟩
    have dn : decide (0 < n) = true := by have := HNL.out; simp; omega
    have HL' : Hid (L.length = L'.length + 1 ∧ n = m + 1 ∧ (∀ k, lX L (1 + k) = lX L' k)) := ⟨hll, by have := HNL.out; omega, hlx⟩
    subst e1
    rcases HF.out.1 with ⟨_, _, r1⟩ | ⟨b, o9, r1, r2, r3, r4, r5⟩
    · rw [r1] at hn0; exact absurd hn0 (Nat.not_lt_zero _)
    · subst r1
      have s1 : (1 : Int) ≤ (n : Int) := by have := HNL.out; omega
      have s2 : (n : Int) ≤ (c : Int) := by have := HNL.out; omega
      have s3 : (1 : Int) ≤ (c : Int) := by omega
      have HR : Hid (EvO w4 b o9 L.length (lX L) ∧ L.length ≤ c ∧ b ≠ qb ∧ b ≠ g ∧ c = kk + 1) := ⟨r2, r3, r4, r5, by omega⟩
      clear e0 hn0 hx hll hlx hE4 r2 r3 r4 r5
      by_cases hc1 : c = 1
      · have hb99 : m = 0 := by have h1 := HR.out.2.1; have h2 := HL'.out; omega
        have HM0 : Hid (m = 0) := hb99
        clear hb99
        have hk0 : kk = 0 := by omega
        subst hc1 hk0
        clear hkk
        go_wp2_with (go_at_call 33; (with_reducible refine HT.mono ?_); rintro e w5 ⟨rfl, hb5⟩)
        refine bodyPost_ret (v := .tuple #[.slice (some ⟨b, o9, none⟩) m 0, .bool true]) (by simp [results, Try.results12, go_sem]; try omega) rfl ?_
        have hb35 : Below w3.heap.size w3 w5 := HF.out.2.trans (hb5.mono HF.out.2.size)
        have h0 := HL'.out
        have h1 := HR.out
        have h8 := HNL.out
        exact ⟨some ⟨b, o9, none⟩, 0, g, L', by rw [show L'.length = m by omega], HM3.out.2.1.later hb35, .inr ⟨b, o9, rfl, ⟨(h1.1.later hb5).1, fun i r hi hr => by have := HM0.out; omega⟩, by have := HM0.out; omega, h1.2.2.1, h1.2.2.2.1⟩, .inl rfl, (HS.out.2.2.2.2.trans HM3.out.2.2).trans (Ch.below hb35)⟩
      · go_wp2_with (go_at_call 33; (with_reducible refine HT.mono ?_); rintro e w5 ⟨rfl, hb5⟩)
        refine bodyPost_ret (v := .tuple #[.slice (some ⟨b, o9 + 6, none⟩) m kk, .bool true]) (by simp [results, Try.results12, go_sem]) rfl ?_
        have hb35 : Below w3.heap.size w3 w5 := HF.out.2.trans (hb5.mono HF.out.2.size)
        have h0 := HL'.out
        have h1 := HR.out
        have h8 := HNL.out
        have h9 := ((h1.1.later hb5).part 1 m (by omega)).congr (N' := L'.length) (Y := lX L') (by omega) (fun i hi => h0.2.2 i)
        exact ⟨some ⟨b, o9 + 6, none⟩, kk, g, L', by rw [show L'.length = m by omega], HM3.out.2.1.later hb35, .inr ⟨b, o9 + 6, rfl, by simpa using h9, by omega, h1.2.2.1, h1.2.2.2.1⟩, .inl rfl, (HS.out.2.2.2.2.trans HM3.out.2.2).trans (Ch.below hb35)⟩
end Go.Proofs.Ytlklolmhaiaaiaa
