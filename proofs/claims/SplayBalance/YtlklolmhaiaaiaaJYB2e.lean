import Derived.Test.YtlklolmhaiaaiaaJYB1
import Derived.Test.YtlklolmhaiaaiaaJYCut
import Derived.Test.YtlklolmhaiaaiaaJY35
import Derived.Test.YtlklolmhaiaaiaaJYB2a
import Derived.Test.YtlklolmhaiaaiaaJYB2b
import Derived.Test.YtlklolmhaiaaiaaJYB2c
import Derived.Test.YtlklolmhaiaaiaaJYB2d
namespace Go.Proofs.Ytlklolmhaiaaiaa
open Go.ChangeShapes Go.WideShapes Go.ChangeAt Go.RowKit
set_option linter.unusedVariables false
set_option linter.unusedSimpArgs false

set_option maxRecDepth 100000 in
set_option maxHeartbeats 8000000 in
theorem heldA_split0 {R0 : (Nat → Ev) → Tr → Int → Prop} {R1 : Tr → Int → Prop} {o : OpV} {room : Int} (hOC : OpC R0 R1 o room) {base qb g c : Nat} {wb : Int} {L : List Ev} {p : Option Addr} (W : World) (h : QSR R0 base qb g room wb L W) (hE : EL W qb g p c L) (hwb : wb ≤ 4611686018427000000 - 16384) (hn1 : o.kd ≠ 1) (hn2 : o.kd ≠ 2) (hn3 : o.kd ≠ 3) (hn4 : o.kd ≠ 4) (hn5 : o.kd ≠ 5) (hk : o.kd = 6) (hp : p = none) (hc0 : c = 0) (hL0 : L = []) : Calls Try.prog 12 #[.pointer (some ⟨qb, 0, none⟩), .slice p L.length c, .int .i64 room, .agg (opA o)] W fun r W' => HResA R1 base qb g room wb W r W' := by
  have HKD : Hid _ := hk
  obtain ⟨W1, hW1⟩ : ∃ W1, W.alloc (.cells (opA o) 32) = W1 := ⟨_, rfl⟩
  have hb1 : Below W.heap.size W W1 := by rw [← hW1]; exact (Below.refl _ W).alloc (Nat.le_refl _) _
  have ho1 : W1.heap[W.heap.size]? = some (.cells (opA o) 32 (0, 0)) := by rw [← hW1]; exact World.alloc_heap_new W _
  have hln := h.len
  have hsrt := h.srt
  have hlt := h.lt
  have HSK := seekE o.t o.s o.q (hE.later hb1) hsrt (by omega)
  unfold opA at *
  obtain ⟨y0, y1, y2, y3, y4, y5, y6⟩ := c7 ho1
  rw [← hW1] at y0 y1 y2 y3 y4 y5 y6
  have HW : Hid (W.alloc (.cells #[.int .i64 o.kd, .int .i64 o.wh, .int .u64 o.t, .int .i64 o.s, .int .u64 o.q, .int .i64 o.d, .int .i64 o.n] 32) = W1) := hW1
  have H0 : Hid (QSR R0 base qb g room wb L W1 ∧ EL W1 qb g p c L ∧ wb ≤ 4611686018427000000 - 16384 ∧ Below W.heap.size W W1 ∧ W1.heap[W.heap.size]? = some (.cells #[.int .i64 o.kd, .int .i64 o.wh, .int .u64 o.t, .int .i64 o.s, .int .u64 o.q, .int .i64 o.d, .int .i64 o.n] 32 (0, 0)) ∧ ((L.length : Int) ≤ room ∧ room ≤ 8192) ∧ L.Pairwise keyLt ∧ (qb < W.heap.size ∧ base ≤ qb) ∧ g < W.heap.size ∧ base ≤ g) := ⟨h.later hb1, hE.later hb1, hwb, hb1, ho1, hln, hsrt, hlt⟩
  have d1 : (o.kd == 1) = false := by simpa using hn1
  have d2 : (o.kd == 2) = false := by simpa using hn2
  have d3 : (o.kd == 3) = false := by simpa using hn3
  have d4 : (o.kd == 4) = false := by simpa using hn4
  have d5 : (o.kd == 5) = false := by simpa using hn5
  have d6 : (o.kd == 6) = true := by simpa using hk
  subst hp hc0 hL0
  clear hW1 hb1 ho1 h hE hwb hln hsrt hlt hn1 hn2 hn3 hn4 hn5 hk
  simp only [List.length_nil] at HSK ⊢
  go_enter Try.func12, Try.ntmps12
  go_wp2_with (go_at_call 28; rw [HW.out]; (with_reducible refine HSK.mono ?_); rintro e w2 ⟨i, th, rfl, hb2, hsk⟩; obtain ⟨z0, z1, z2, z3, z4, z5, z6⟩ := c7 ((hb2.block _ (lt_of_block H0.out.2.2.2.2.1)).trans H0.out.2.2.2.2.1); have HS : Hid (Below W1.heap.size W1 w2 ∧ SK [] o.t o.s o.q i th ∧ QSR R0 base qb g room wb [] w2 ∧ EL w2 qb g none 0 [] ∧ Ch (S2 qb g) W w2) := ⟨hb2, hsk, H0.out.1.later hb2, H0.out.2.1.later hb2, (Ch.below H0.out.2.2.2.1).trans (Ch.below hb2)⟩; clear hb2 hsk y0 y1 y2 y3 y4 y5 y6)
  go_loopw [23] (fun x wr => x = .int .i64 0 ∧ wr = w2) (fun _ _ => 0)
  case atStart => exact ⟨rfl, rfl⟩
  case round =>
    obtain ⟨rfl, h9⟩ := hrel
    subst h9
    go_wp2_with fail
    go_quiet (fail)
    generalize hw5 : World.drewN wr _ = w5
    have hb5 : Below wr.heap.size wr w5 := by rw [← hw5]; exact below_drewNq _ _ _
    clear hw5
    have hQ5 := HS.out.2.2.1.later hb5
    have ho5 : w5.heap[W.heap.size]? = some (.cells #[.int .i64 o.kd, .int .i64 o.wh, .int .u64 o.t, .int .i64 o.s, .int .u64 o.q, .int .i64 o.d, .int .i64 o.n] 32 (0, 0)) := by
      have h6 := lt_of_block H0.out.2.2.2.2.1
      have h5 := HS.out.1.size
      exact (hb5.block _ (by omega)).trans ((HS.out.1.block _ h6).trans H0.out.2.2.2.2.1)
    obtain ⟨u0, u1, u2, u3, u4, u5, u6⟩ := c7 ho5
    have HM := splitA hOC HKD.out w5 hQ5 (by have := H0.out.2.2.1; omega)
    have HB5 : Hid (Below wr.heap.size wr w5) := hb5
    clear hQ5 ho5 hb5 z0 z1 z2 z3 z4 z5 z6
    go_upto_region 33 with (go_at_call 17; (with_reducible refine HM.mono ?_); rintro e w6 ⟨b6, X6, L1, L2, rfl, hL, hX6, hx6, hb6, ht1, ht2, hq6, hC6⟩; have H6 : Hid ([] = L1 ++ L2 ∧ QSR (rOf R1) base qb g room (wb + 8192) L1 w6 ∧ Ch (S2 qb g) w5 w6) := ⟨hL, hq6, hC6⟩; clear hL hX6 hx6 hb6 ht1 ht2 hq6 hC6)
    clear HM u0 u1 u2 u3 u4 u5 u6
    have hnil := List.append_eq_nil_iff.1 H6.out.1.symm
    have hl2 : L2.length = 0 := by rw [hnil.2]; rfl
    rw [hl2]
    have HL1 : Hid (L1 = []) := hnil.1
    have HT := sameEvents_yes 0 (fun _ => .int .i64 0) (some ⟨b6, 0, none⟩) none 0 0 (by omega) w6.drew (.inl rfl) (.inl rfl) (EvSh.zero _)
    clear hnil hl2
    go_region_law (go_simp; (with_reducible refine HT.mono ?_); rintro e w7 ⟨rfl, hb7⟩)
    all_goals
      go_wp2_with fail
      refine bodyPost_ret (v := .tuple #[.slice none 0 0, .bool true]) (by simp [results, Try.results12, go_sem]) rfl ?_
      have hb7' : Below w6.heap.size w6 w7 := (below_drewNq _ w6 1).trans hb7
      have h9 := H6.out.2.1
      rw [HL1.out] at h9
      exact ⟨none, 0, g, [], rfl, (h9.later hb7').up (by omega), .inl ⟨rfl, rfl, rfl⟩, .inl rfl, ((HS.out.2.2.2.2.trans (Ch.below HB5.out)).trans H6.out.2.2).trans (Ch.below hb7')⟩
theorem heldA_any {R0 : (Nat → Ev) → Tr → Int → Prop} {R1 : Tr → Int → Prop} {o : OpV} {room : Int} (hOC : OpC R0 R1 o room) {base qb g c : Nat} {wb : Int} {L : List Ev} {p : Option Addr} (W : World) (h : QSR R0 base qb g room wb L W) (hE : EL W qb g p c L) (hwb : wb ≤ 4611686018427000000 - 16384) : Calls Try.prog 12 #[.pointer (some ⟨qb, 0, none⟩), .slice p L.length c, .int .i64 room, .agg (opA o)] W fun r W' => HResA R1 base qb g room wb W r W' := by
  by_cases k1 : o.kd = 1
  · exact heldA_insert hOC W h hE hwb k1
  by_cases k2 : o.kd = 2
  · exact heldA_min hOC W h hE hwb k1 k2
  by_cases k3 : o.kd = 3
  · exact heldA_pop hOC W h hE hwb k1 k2 k3
  by_cases k4 : o.kd = 4
  · exact heldA_find hOC W h hE hwb k1 k2 k3 k4
  by_cases k5 : o.kd = 5
  · exact heldA_remove hOC W h hE hwb k1 k2 k3 k4 k5
  by_cases k6 : o.kd = 6
  · rcases hE with ⟨e1, e2, e3⟩ | ⟨b, o9, e1, h9⟩
    · exact heldA_split0 hOC W h (.inl ⟨e1, e2, e3⟩) hwb k1 k2 k3 k4 k5 k6 e1 e2 e3
    · exact heldA_split hOC W h (.inr ⟨b, o9, e1, h9⟩) hwb k1 k2 k3 k4 k5 k6 e1
  by_cases k8 : o.kd = 8
  · exact heldA_list hOC W h hE hwb k1 k2 k3 k4 k5 k6 k8
  by_cases k7 : o.kd = 7
  · exact heldA_sizes hOC W h hE hwb k1 k2 k3 k4 k5 k6 k8 k7
  exact heldA_else hOC W h hE hwb k1 k2 k3 k4 k5 k6 k8 k7
end Go.Proofs.Ytlklolmhaiaaiaa
