import Derived.Test.YtlklolmhaiaaiaaJYB1
import Derived.Test.YtlklolmhaiaaiaaJYCut
import Derived.Test.YtlklolmhaiaaiaaJY35
namespace Go.Proofs.Ytlklolmhaiaaiaa
open Go.ChangeShapes Go.WideShapes Go.ChangeAt Go.RowKit
set_option linter.unusedVariables false
set_option linter.unusedSimpArgs false

set_option maxRecDepth 100000 in
set_option maxHeartbeats 8000000 in
theorem heldA_split {R0 : (Nat → Ev) → Tr → Int → Prop} {R1 : Tr → Int → Prop} {o : OpV} {room : Int} (hOC : OpC R0 R1 o room) {base qb g c : Nat} {wb : Int} {L : List Ev} {p : Option Addr} (W : World) (h : QSR R0 base qb g room wb L W) (hE : EL W qb g p c L) (hwb : wb ≤ 4611686018427000000 - 16384) (hn1 : o.kd ≠ 1) (hn2 : o.kd ≠ 2) (hn3 : o.kd ≠ 3) (hn4 : o.kd ≠ 4) (hn5 : o.kd ≠ 5) (hk : o.kd = 6) {b0 o9 : Nat} (hp : p = some ⟨b0, o9, none⟩) : Calls Try.prog 12 #[.pointer (some ⟨qb, 0, none⟩), .slice p L.length c, .int .i64 room, .agg (opA o)] W fun r W' => HResA R1 base qb g room wb W r W' := by
  have HKD : Hid _ := hk
  obtain ⟨W1, hW1⟩ : ∃ W1, W.alloc (.cells (opA o) 32) = W1 := ⟨_, rfl⟩
  have hb1 : Below W.heap.size W W1 := by rw [← hW1]; exact (Below.refl _ W).alloc (Nat.le_refl _) _
  have ho1 : W1.heap[W.heap.size]? = some (.cells (opA o) 32 (0, 0)) := by rw [← hW1]; exact World.alloc_heap_new W _
  have hln := h.len
  have hsrt := h.srt
  have hlt := h.lt
  have HSK := seekE o.t o.s o.q (hE.later hb1) hsrt (by omega)
  unfold opA at *
  obtain ⟨y0, y1, y2, y3, y4, y5, y6⟩ := c7 ho1
  rw [← hW1] at y0 y1 y2 y3 y4 y5 y6
  have HW : Hid (W.alloc (.cells #[.int .i64 o.kd, .int .i64 o.wh, .int .u64 o.t, .int .i64 o.s, .int .u64 o.q, .int .i64 o.d, .int .i64 o.n] 32) = W1) := hW1
  have H0 : Hid (QSR R0 base qb g room wb L W1 ∧ EL W1 qb g p c L ∧ wb ≤ 4611686018427000000 - 16384 ∧ Below W.heap.size W W1 ∧ W1.heap[W.heap.size]? = some (.cells #[.int .i64 o.kd, .int .i64 o.wh, .int .u64 o.t, .int .i64 o.s, .int .u64 o.q, .int .i64 o.d, .int .i64 o.n] 32 (0, 0)) ∧ ((L.length : Int) ≤ room ∧ room ≤ 8192) ∧ L.Pairwise keyLt ∧ (qb < W.heap.size ∧ base ≤ qb) ∧ g < W.heap.size ∧ base ≤ g) := ⟨h.later hb1, hE.later hb1, hwb, hb1, ho1, hln, hsrt, hlt⟩
  have d1 : (o.kd == 1) = false := by simpa using hn1
  have d2 : (o.kd == 2) = false := by simpa using hn2
  have d3 : (o.kd == 3) = false := by simpa using hn3
  have d4 : (o.kd == 4) = false := by simpa using hn4
  have d5 : (o.kd == 5) = false := by simpa using hn5
  have d6 : (o.kd == 6) = true := by simpa using hk
  subst hp
  clear hW1 hb1 ho1 h hE hwb hln hsrt hlt hn1 hn2 hn3 hn4 hn5 hk
  generalize hnL : L.length = n at HSK ⊢
  have HNL : Hid (L.length = n) := hnL
  clear hnL
  go_enter Try.func12, Try.ntmps12
  go_wp2_with (go_at_call 28; rw [HW.out]; (with_reducible refine HSK.mono ?_); rintro e w2 ⟨i, th, rfl, hb2, hsk⟩; obtain ⟨z0, z1, z2, z3, z4, z5, z6⟩ := c7 ((hb2.block _ (lt_of_block H0.out.2.2.2.2.1)).trans H0.out.2.2.2.2.1); have HS : Hid (Below W1.heap.size W1 w2 ∧ SK L o.t o.s o.q i th ∧ QSR R0 base qb g room wb L w2 ∧ EL w2 qb g (some ⟨b0, o9, none⟩) c L ∧ Ch (S2 qb g) W w2) := ⟨hb2, hsk, H0.out.1.later hb2, H0.out.2.1.later hb2, (Ch.below H0.out.2.2.2.1).trans (Ch.below hb2)⟩; clear hb2 hsk y0 y1 y2 y3 y4 y5 y6)
  go_loopw [23] (fun x wr => ∃ k : Nat, x = .int .i64 (k : Int) ∧ k ≤ n ∧ (∀ j, j < k → (lX L j).t < o.t) ∧ Below w2.heap.size w2 wr) (fun x _ => n - (intOf x).toNat)
  case atStart => exact ⟨0, rfl, Nat.zero_le _, fun j hj => absurd hj (Nat.not_lt_zero _), Below.refl _ _⟩
  case round =>
    obtain ⟨k, rfl, hkn, hlo, hbr⟩ := hrel
    have hor : wr.heap[W.heap.size]? = some (.cells #[.int .i64 o.kd, .int .i64 o.wh, .int .u64 o.t, .int .i64 o.s, .int .u64 o.q, .int .i64 o.d, .int .i64 o.n] 32 (0, 0)) := by
      have h6 := lt_of_block H0.out.2.2.2.2.1
      have h5 := HS.out.1.size
      exact (hbr.block _ (by omega)).trans ((HS.out.1.block _ h6).trans H0.out.2.2.2.2.1)
    obtain ⟨v0, v1, v2, v3, v4, v5, v6⟩ := c7 hor
    have HB : Hid (Below w2.heap.size w2 wr) := hbr
    have HLO : Hid (∀ j, j < k → (lX L j).t < o.t) := hlo
    by_cases hlt : k < n
    · have dl : decide ((k : Int) < (n : Int)) = true := by simp; omega
      have i0 : (0 : Int) ≤ (k : Int) := by omega
      have i1 : (k : Int) < (n : Int) := by omega
      have hEr := HS.out.2.2.2.1.later hbr
      have x0 : wr.cell? ⟨b0, o9 + k * 6, none⟩ = some (.int .u64 (lX L k).t) := by
        rcases hEr with ⟨r1, _⟩ | ⟨b9, o8, r1, r2, _⟩
        · cases r1
        · injection r1 with r1
          injection r1 with e1 e2 e3
          subst e1 e2
          exact r2.2 k 0 (by have := HNL.out; omega) (by decide)
      have ek : IntKind.i64.wrap ((k : Int) + 1) = (k : Int) + 1 := by have h8 := H0.out.2.2.2.2.2.1; have := HNL.out; rw [IntKind.wrap_i64]; omega
      have hm := meas0 hlt
      clear hor hbr hlo hEr
      by_cases htu : (lX L k).t < o.t
      · have du : decide ((lX L k).t < o.t) = true := by simpa using htu
        go_wp2_with fail
        go_quiet (fail)
        go_wp2_with fail
        refine ⟨⟨k + 1, rfl, hlt, fun j hj => ?_, HB.out.trans (below_drewNq _ _ _)⟩, hm⟩
        by_cases hj2 : j < k
        · exact HLO.out j hj2
        · obtain rfl : j = k := by omega
          exact htu
      · have du : decide ((lX L k).t < o.t) = false := by simpa using htu
        have HHI : Hid (k < L.length → o.t ≤ (lX L k).t) := fun _ => by omega
        clear htu hm
        go_wp2_with fail
        go_quiet (fail)
        clear dl i0 i1 ek v0 v1 v2 v3 v4 v5 v6
        generalize hw5 : World.drewN wr _ = w5
        have hb5 : Below w2.heap.size w2 w5 := by rw [← hw5]; exact HB.out.trans (below_drewNq _ _ _)
        clear hw5 x0 du HB
        have hQ5 := HS.out.2.2.1.later hb5
        have hE5 := HS.out.2.2.2.1.later hb5
        have ho5 : w5.heap[W.heap.size]? = some (.cells #[.int .i64 o.kd, .int .i64 o.wh, .int .u64 o.t, .int .i64 o.s, .int .u64 o.q, .int .i64 o.d, .int .i64 o.n] 32 (0, 0)) := by
          have h6 := lt_of_block H0.out.2.2.2.2.1
          have h5 := HS.out.1.size
          exact (hb5.block _ (by omega)).trans ((HS.out.1.block _ h6).trans H0.out.2.2.2.2.1)
        obtain ⟨u0, u1, u2, u3, u4, u5, u6⟩ := c7 ho5
        have HM := splitA hOC HKD.out w5 hQ5 (by have := H0.out.2.2.1; omega)
        have H5 : Hid (EL w5 qb g (some ⟨b0, o9, none⟩) c L ∧ Below w2.heap.size w2 w5) := ⟨hE5, hb5⟩
        clear hQ5 hE5 ho5 hb5
        go_upto_region 33 with (go_at_call 17; (with_reducible refine HM.mono ?_); rintro e w6 ⟨b6, X6, L1, L2, rfl, hL, hX6, hx6, hb6, ht1, ht2, hq6, hC6⟩; have H6 : Hid (L = L1 ++ L2 ∧ EvsL w6 b6 L2.length X6 ∧ (∀ i, i < L2.length → L2[i]? = some (X6 i)) ∧ (∀ x ∈ L1, x.t < o.t) ∧ (∀ x ∈ L2, o.t ≤ x.t) ∧ QSR (rOf R1) base qb g room (wb + 8192) L1 w6 ∧ Ch (S2 qb g) w5 w6) := ⟨hL, hX6, hx6, ht1, ht2, hq6, hC6⟩; clear hL hX6 hx6 hb6 ht1 ht2 hq6 hC6)
        clear HM u0 u1 u2 u3 u4 u5 u6
        obtain ⟨hL, hX6, hx6, ht1, ht2, hq6, hC6⟩ := H6.out
        obtain ⟨hk1, hk2, hk3⟩ := cutAt hL ht1 ht2 (by have := HNL.out; omega) HLO.out HHI.out
        have hll : L.length = L1.length + L2.length := by rw [hL, List.length_append]
        obtain ⟨m, hm⟩ : ∃ m, n - k = m := ⟨_, rfl⟩
        obtain ⟨kk, hkk⟩ : ∃ kk, c - k = kk := ⟨_, rfl⟩
        have hm2 : L2.length = m := by have := HNL.out; omega
        have hE6 := H5.out.1.keep hC6 (.inl rfl)
        rcases hE6 with ⟨r1, _⟩ | ⟨b9, o8, r1, r2, r3, r4, r5⟩
        · cases r1
        have r1' : b9 = b0 ∧ o8 = o9 := by injection r1 with r1; injection r1 with e1 e2 e3; exact ⟨e1.symm, e2.symm⟩
        obtain ⟨rfl, rfl⟩ := r1'
        rw [hm2] at hX6
        have hXX : ∀ i, i < m → X6 i = lX L (k + i) := fun i hi => by
          have h1 := hx6 i (by omega)
          rw [lX_at (by omega)] at h1
          rw [hk1, hk3 i (by omega)]
          exact (Option.some.inj h1).symm
        have hXo : XAt w6 (some ⟨b6, 0, none⟩) m (fun j => evC (X6 (j / 6)) (j % 6)) := by have h := hX6.xat 0 m (by omega); simpa using h
        have hXl : XAt w6 (some ⟨b9, o8 + k * 6, none⟩) m (fun j => evC (X6 (j / 6)) (j % 6)) := ((r2.part k m (by have := HNL.out; omega)).xat).congr fun j hj => by rw [hXX (j / 6) (by omega)]
        have s0 : (0 : Int) ≤ (k : Int) := by omega
        have s1 : (k : Int) ≤ (n : Int) := by have := HNL.out; omega
        have s2 : (n : Int) ≤ (c : Int) := by have := HNL.out; omega
        have s3 : (k : Int) ≤ (c : Int) := by omega
        have hm9 : m ≤ 1000000 := by have h8 := H0.out.2.2.2.2.2.1; have := HNL.out; omega
        have h1k : EvO w6 b9 o8 L1.length (lX L1) := (show EvO w6 b9 o8 L1.length (lX L) from ⟨r2.1, fun i r hi hr => r2.2 i r (by omega) hr⟩).congr rfl hk2
        have HF : Hid (EvO w6 b9 o8 L1.length (lX L1) ∧ L1.length ≤ c ∧ b9 ≠ qb ∧ b9 ≠ g ∧ k = L1.length ∧ QSR (rOf R1) base qb g room (wb + 8192) L1 w6 ∧ Ch (S2 qb g) W w6) := ⟨h1k, by omega, r4, r5, hk1, hq6, (HS.out.2.2.2.2.trans (Ch.below H5.out.2)).trans hC6⟩
        have hl2 : (L2.length : Nat) = m := hm2
        have HTn := sameEvents_yes m _ (some ⟨b6, 0, none⟩) (some ⟨b9, o8 + k * 6, none⟩) m kk hm9 w6.drew (hXo.below (below_drewNq _ w6 1)) (hXl.below (below_drewNq _ w6 1)) (evSh_evC m X6)
        have HTz : Hid (c = k → Calls Try.prog 9 #[.slice (some ⟨b6, 0, none⟩) m m, .slice (some ⟨b9, o8, none⟩) m 0] w6.drew fun e w' => e = .returned (.bool true) ∧ Below w6.drew.heap.size w6.drew w') := fun hck => sameEvents_yes m _ (some ⟨b6, 0, none⟩) (some ⟨b9, o8, none⟩) m 0 hm9 w6.drew (hXo.below (below_drewNq _ w6 1)) (.inl (by omega)) (evSh_evC m X6)
        rw [hl2]
        clear hL hX6 hx6 ht1 ht2 hq6 hC6 hk1 hk2 hk3 hll hm2 r1 r2 r3 r4 r5 hXX hXo hXl hm9 h1k hl2 HLO HHI H6 H5
        by_cases hck : c = k
        · have HT := HTz.out hck
          have hkk0 : kk = 0 := by omega
          subst hck hkk0
          clear hkk HTn HTz
          go_region_law (go_simp; (with_reducible refine HT.mono ?_); rintro e w7 ⟨rfl, hb7⟩)
          all_goals
            go_wp2_with fail
            refine bodyPost_ret (v := .tuple #[.slice (some ⟨b9, o8, none⟩) c c, .bool true]) (by simp [results, Try.results12, go_sem]) rfl ?_
            obtain ⟨f1, f2, f3, f4, f5, f6, f7⟩ := HF.out
            have hb7' : Below w6.heap.size w6 w7 := (below_drewNq _ w6 1).trans hb7
            exact ⟨_, c, g, L1, by rw [← f5], (f6.later hb7').up (by omega), .inr ⟨b9, o8, rfl, f1.later hb7', f2, f3, f4⟩, .inl rfl, f7.trans (Ch.below hb7')⟩
        · go_region_law (go_simp; (with_reducible refine HTn.mono ?_); rintro e w7 ⟨rfl, hb7⟩)
          all_goals
            go_wp2_with fail
            refine bodyPost_ret (v := .tuple #[.slice (some ⟨b9, o8, none⟩) k c, .bool true]) (by simp [results, Try.results12, go_sem]) rfl ?_
            obtain ⟨f1, f2, f3, f4, f5, f6, f7⟩ := HF.out
            have hb7' : Below w6.heap.size w6 w7 := (below_drewNq _ w6 1).trans hb7
            exact ⟨_, c, g, L1, by rw [← f5], (f6.later hb7').up (by omega), .inr ⟨b9, o8, rfl, f1.later hb7', f2, f3, f4⟩, .inl rfl, f7.trans (Ch.below hb7')⟩
    · have dl : decide ((k : Int) < (n : Int)) = false := by simp; omega
      have HHI : Hid (k < L.length → o.t ≤ (lX L k).t) := fun h9 => by have := HNL.out; omega
      have x0 : True := trivial
      have du : True := trivial
      clear hor hbr hlo
      go_wp2_with fail
      go_quiet (fail)
      clear dl v0 v1 v2 v3 v4 v5 v6
      generalize hw5 : World.drewN wr _ = w5
      have hb5 : Below w2.heap.size w2 w5 := by rw [← hw5]; exact HB.out.trans (below_drewNq _ _ _)
      clear hw5 x0 du HB
      have hQ5 := HS.out.2.2.1.later hb5
      have hE5 := HS.out.2.2.2.1.later hb5
      have ho5 : w5.heap[W.heap.size]? = some (.cells #[.int .i64 o.kd, .int .i64 o.wh, .int .u64 o.t, .int .i64 o.s, .int .u64 o.q, .int .i64 o.d, .int .i64 o.n] 32 (0, 0)) := by
        have h6 := lt_of_block H0.out.2.2.2.2.1
        have h5 := HS.out.1.size
        exact (hb5.block _ (by omega)).trans ((HS.out.1.block _ h6).trans H0.out.2.2.2.2.1)
      obtain ⟨u0, u1, u2, u3, u4, u5, u6⟩ := c7 ho5
      have HM := splitA hOC HKD.out w5 hQ5 (by have := H0.out.2.2.1; omega)
      have H5 : Hid (EL w5 qb g (some ⟨b0, o9, none⟩) c L ∧ Below w2.heap.size w2 w5) := ⟨hE5, hb5⟩
      clear hQ5 hE5 ho5 hb5
      go_upto_region 33 with (go_at_call 17; (with_reducible refine HM.mono ?_); rintro e w6 ⟨b6, X6, L1, L2, rfl, hL, hX6, hx6, hb6, ht1, ht2, hq6, hC6⟩; have H6 : Hid (L = L1 ++ L2 ∧ EvsL w6 b6 L2.length X6 ∧ (∀ i, i < L2.length → L2[i]? = some (X6 i)) ∧ (∀ x ∈ L1, x.t < o.t) ∧ (∀ x ∈ L2, o.t ≤ x.t) ∧ QSR (rOf R1) base qb g room (wb + 8192) L1 w6 ∧ Ch (S2 qb g) w5 w6) := ⟨hL, hX6, hx6, ht1, ht2, hq6, hC6⟩; clear hL hX6 hx6 hb6 ht1 ht2 hq6 hC6)
      clear HM u0 u1 u2 u3 u4 u5 u6
      obtain ⟨hL, hX6, hx6, ht1, ht2, hq6, hC6⟩ := H6.out
      obtain ⟨hk1, hk2, hk3⟩ := cutAt hL ht1 ht2 (by have := HNL.out; omega) HLO.out HHI.out
      have hll : L.length = L1.length + L2.length := by rw [hL, List.length_append]
      obtain ⟨m, hm⟩ : ∃ m, n - k = m := ⟨_, rfl⟩
      obtain ⟨kk, hkk⟩ : ∃ kk, c - k = kk := ⟨_, rfl⟩
      have hm2 : L2.length = m := by have := HNL.out; omega
      have hE6 := H5.out.1.keep hC6 (.inl rfl)
      rcases hE6 with ⟨r1, _⟩ | ⟨b9, o8, r1, r2, r3, r4, r5⟩
      · cases r1
      have r1' : b9 = b0 ∧ o8 = o9 := by injection r1 with r1; injection r1 with e1 e2 e3; exact ⟨e1.symm, e2.symm⟩
      obtain ⟨rfl, rfl⟩ := r1'
      rw [hm2] at hX6
      have hXX : ∀ i, i < m → X6 i = lX L (k + i) := fun i hi => by
        have h1 := hx6 i (by omega)
        rw [lX_at (by omega)] at h1
        rw [hk1, hk3 i (by omega)]
        exact (Option.some.inj h1).symm
      have hXo : XAt w6 (some ⟨b6, 0, none⟩) m (fun j => evC (X6 (j / 6)) (j % 6)) := by have h := hX6.xat 0 m (by omega); simpa using h
      have hXl : XAt w6 (some ⟨b9, o8 + k * 6, none⟩) m (fun j => evC (X6 (j / 6)) (j % 6)) := ((r2.part k m (by have := HNL.out; omega)).xat).congr fun j hj => by rw [hXX (j / 6) (by omega)]
      have s0 : (0 : Int) ≤ (k : Int) := by omega
      have s1 : (k : Int) ≤ (n : Int) := by have := HNL.out; omega
      have s2 : (n : Int) ≤ (c : Int) := by have := HNL.out; omega
      have s3 : (k : Int) ≤ (c : Int) := by omega
      have hm9 : m ≤ 1000000 := by have h8 := H0.out.2.2.2.2.2.1; have := HNL.out; omega
      have h1k : EvO w6 b9 o8 L1.length (lX L1) := (show EvO w6 b9 o8 L1.length (lX L) from ⟨r2.1, fun i r hi hr => r2.2 i r (by omega) hr⟩).congr rfl hk2
      have HF : Hid (EvO w6 b9 o8 L1.length (lX L1) ∧ L1.length ≤ c ∧ b9 ≠ qb ∧ b9 ≠ g ∧ k = L1.length ∧ QSR (rOf R1) base qb g room (wb + 8192) L1 w6 ∧ Ch (S2 qb g) W w6) := ⟨h1k, by omega, r4, r5, hk1, hq6, (HS.out.2.2.2.2.trans (Ch.below H5.out.2)).trans hC6⟩
      have hl2 : (L2.length : Nat) = m := hm2
      have HTn := sameEvents_yes m _ (some ⟨b6, 0, none⟩) (some ⟨b9, o8 + k * 6, none⟩) m kk hm9 w6.drew (hXo.below (below_drewNq _ w6 1)) (hXl.below (below_drewNq _ w6 1)) (evSh_evC m X6)
      have HTz : Hid (c = k → Calls Try.prog 9 #[.slice (some ⟨b6, 0, none⟩) m m, .slice (some ⟨b9, o8, none⟩) m 0] w6.drew fun e w' => e = .returned (.bool true) ∧ Below w6.drew.heap.size w6.drew w') := fun hck => sameEvents_yes m _ (some ⟨b6, 0, none⟩) (some ⟨b9, o8, none⟩) m 0 hm9 w6.drew (hXo.below (below_drewNq _ w6 1)) (.inl (by omega)) (evSh_evC m X6)
      rw [hl2]
      clear hL hX6 hx6 ht1 ht2 hq6 hC6 hk1 hk2 hk3 hll hm2 r1 r2 r3 r4 r5 hXX hXo hXl hm9 h1k hl2 HLO HHI H6 H5
      by_cases hck : c = k
      · have HT := HTz.out hck
        have hkk0 : kk = 0 := by omega
        subst hck hkk0
        clear hkk HTn HTz
        go_region_law (go_simp; (with_reducible refine HT.mono ?_); rintro e w7 ⟨rfl, hb7⟩)
        all_goals
          go_wp2_with fail
          refine bodyPost_ret (v := .tuple #[.slice (some ⟨b9, o8, none⟩) c c, .bool true]) (by simp [results, Try.results12, go_sem]) rfl ?_
          obtain ⟨f1, f2, f3, f4, f5, f6, f7⟩ := HF.out
          have hb7' : Below w6.heap.size w6 w7 := (below_drewNq _ w6 1).trans hb7
          exact ⟨_, c, g, L1, by rw [← f5], (f6.later hb7').up (by omega), .inr ⟨b9, o8, rfl, f1.later hb7', f2, f3, f4⟩, .inl rfl, f7.trans (Ch.below hb7')⟩
      · go_region_law (go_simp; (with_reducible refine HTn.mono ?_); rintro e w7 ⟨rfl, hb7⟩)
        all_goals
          go_wp2_with fail
          refine bodyPost_ret (v := .tuple #[.slice (some ⟨b9, o8, none⟩) k c, .bool true]) (by simp [results, Try.results12, go_sem]) rfl ?_
          obtain ⟨f1, f2, f3, f4, f5, f6, f7⟩ := HF.out
          have hb7' : Below w6.heap.size w6 w7 := (below_drewNq _ w6 1).trans hb7
          exact ⟨_, c, g, L1, by rw [← f5], (f6.later hb7').up (by omega), .inr ⟨b9, o8, rfl, f1.later hb7', f2, f3, f4⟩, .inl rfl, f7.trans (Ch.below hb7')⟩
end Go.Proofs.Ytlklolmhaiaaiaa
