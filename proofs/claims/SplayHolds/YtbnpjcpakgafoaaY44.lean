import Derived.Test.YtbnpjcpakgafoaaY43
import Derived.Test.YtbnpjcpakgafoaaY35
namespace Go.Proofs.Ytbnpjcpakgafoaa
open Go.ChangeShapes Go.WideShapes Go.ChangeAt Go.RowKit
set_option linter.unusedVariables false
set_option linter.unusedSimpArgs false

set_option maxRecDepth 100000 in
set_option maxHeartbeats 8000000 in
theorem held_split0 {base qb g c : Nat} {room wb : Int} {L : List Ev} {p : Option Addr} (o : OpV) (W : World) (h : QS base qb g room wb L W) (hE : EL W qb g p c L) (hwb : wb ≤ 4611686018427000000 - 16384) (hn1 : o.kd ≠ 1) (hn2 : o.kd ≠ 2) (hn3 : o.kd ≠ 3) (hn4 : o.kd ≠ 4) (hn5 : o.kd ≠ 5) (hk : o.kd = 6) (hp : p = none) (hc0 : c = 0) (hL0 : L = []) : Calls Try.prog 23 #[.pointer (some ⟨qb, 0, none⟩), .slice p L.length c, .int .i64 room, .agg (opA o)] W fun r W' => HRes base qb g room wb W r W' := by
  obtain ⟨W1, hW1⟩ : ∃ W1, W.alloc (.cells (opA o) 43) = W1 := ⟨_, rfl⟩
  have hb1 : Below W.heap.size W W1 := by rw [← hW1]; exact (Below.refl _ W).alloc (Nat.le_refl _) _
  have ho1 : W1.heap[W.heap.size]? = some (.cells (opA o) 43 (0, 0)) := by rw [← hW1]; exact World.alloc_heap_new W _
  have hln := h.len
  have hsrt := h.srt
  have hlt := h.lt
  have HSK := seekE o.t o.s o.q (hE.later hb1) hsrt (by omega)
  unfold opA at *
  obtain ⟨y0, y1, y2, y3, y4, y5, y6⟩ := c7 ho1
  rw [← hW1] at y0 y1 y2 y3 y4 y5 y6
  have HW : Hid (W.alloc (.cells #[.int .i64 o.kd, .int .i64 o.wh, .int .u64 o.t, .int .i64 o.s, .int .u64 o.q, .int .i64 o.d, .int .i64 o.n] 43) = W1) := hW1
  have H0 : Hid (QS base qb g room wb L W1 ∧ EL W1 qb g p c L ∧ wb ≤ 4611686018427000000 - 16384 ∧ Below W.heap.size W W1 ∧ W1.heap[W.heap.size]? = some (.cells #[.int .i64 o.kd, .int .i64 o.wh, .int .u64 o.t, .int .i64 o.s, .int .u64 o.q, .int .i64 o.d, .int .i64 o.n] 43 (0, 0)) ∧ ((L.length : Int) ≤ room ∧ room ≤ 8192) ∧ L.Pairwise keyLt ∧ (qb < W.heap.size ∧ base ≤ qb) ∧ g < W.heap.size ∧ base ≤ g) := ⟨h.later hb1, hE.later hb1, hwb, hb1, ho1, hln, hsrt, hlt⟩
  have d1 : (o.kd == 1) = false := by simpa using hn1
  have d2 : (o.kd == 2) = false := by simpa using hn2
  have d3 : (o.kd == 3) = false := by simpa using hn3
  have d4 : (o.kd == 4) = false := by simpa using hn4
  have d5 : (o.kd == 5) = false := by simpa using hn5
  have d6 : (o.kd == 6) = true := by simpa using hk
  subst hp hc0 hL0
  clear hW1 hb1 ho1 h hE hwb hln hsrt hlt hn1 hn2 hn3 hn4 hn5 hk
  simp only [List.length_nil] at HSK ⊢
  go_enter Try.func23, Try.ntmps23
  go_wp2_with (go_at_call 19; rw [HW.out]; (with_reducible refine HSK.mono ?_); rintro e w2 ⟨i, th, rfl, hb2, hsk⟩; obtain ⟨z0, z1, z2, z3, z4, z5, z6⟩ := c7 ((hb2.block _ (lt_of_block H0.out.2.2.2.2.1)).trans H0.out.2.2.2.2.1); have HS : Hid (Below W1.heap.size W1 w2 ∧ SK [] o.t o.s o.q i th ∧ QS base qb g room wb [] w2 ∧ EL w2 qb g none 0 [] ∧ Ch (S2 qb g) W w2) := ⟨hb2, hsk, H0.out.1.later hb2, H0.out.2.1.later hb2, (Ch.below H0.out.2.2.2.1).trans (Ch.below hb2)⟩; clear hb2 hsk y0 y1 y2 y3 y4 y5 y6)
  go_loopw [23] (fun x wr => x = .int .i64 0 ∧ wr = w2) (fun _ _ => 0)
  case atStart => exact ⟨rfl, rfl⟩
  case round =>
    obtain ⟨rfl, h9⟩ := hrel
    subst h9
    go_wp2_with fail
    go_quiet (fail)
    generalize hw5 : World.drewN wr _ = w5
    have hb5 : Below wr.heap.size wr w5 := by rw [← hw5]; exact below_drewNq _ _ _
    clear hw5
    have hQ5 := HS.out.2.2.1.later hb5
    have ho5 : w5.heap[W.heap.size]? = some (.cells #[.int .i64 o.kd, .int .i64 o.wh, .int .u64 o.t, .int .i64 o.s, .int .u64 o.q, .int .i64 o.d, .int .i64 o.n] 43 (0, 0)) := by
      have h6 := lt_of_block H0.out.2.2.2.2.1
      have h5 := HS.out.1.size
      exact (hb5.block _ (by omega)).trans ((HS.out.1.block _ h6).trans H0.out.2.2.2.2.1)
    obtain ⟨u0, u1, u2, u3, u4, u5, u6⟩ := c7 ho5
    have HM := splitS o.t w5 hQ5 (by have := H0.out.2.2.1; omega)
    have HB5 : Hid (Below wr.heap.size wr w5) := hb5
    clear hQ5 ho5 hb5 z0 z1 z2 z3 z4 z5 z6
    go_upto_region 33 with (go_at_call 10; (with_reducible refine HM.mono ?_); rintro e w6 ⟨b6, X6, L1, L2, rfl, hL, hX6, hx6, hb6, ht1, ht2, hq6, hC6⟩; have H6 : Hid ([] = L1 ++ L2 ∧ QS base qb g room (wb + 8192) L1 w6 ∧ Ch (S2 qb g) w5 w6) := ⟨hL, hq6, hC6⟩; clear hL hX6 hx6 hb6 ht1 ht2 hq6 hC6)
    clear HM u0 u1 u2 u3 u4 u5 u6
    have hnil := List.append_eq_nil_iff.1 H6.out.1.symm
    have hl2 : L2.length = 0 := by rw [hnil.2]; rfl
    rw [hl2]
    have HL1 : Hid (L1 = []) := hnil.1
    have HT := sameEvents_yes 0 (fun _ => .int .i64 0) (some ⟨b6, 0, none⟩) none 0 0 (by omega) w6.drew (.inl rfl) (.inl rfl) (EvSh.zero _)
    clear hnil hl2
    go_region_law (go_simp; (with_reducible refine HT.mono ?_); rintro e w7 ⟨rfl, hb7⟩)
    all_goals
      go_wp2_with fail
      refine bodyPost_ret (v := .tuple #[.slice none 0 0, .bool true]) (by simp [results, Try.results23, go_sem]) rfl ?_
      have hb7' : Below w6.heap.size w6 w7 := (below_drewNq _ w6 1).trans hb7
      have h9 := H6.out.2.1
      rw [HL1.out] at h9
      exact ⟨none, 0, g, [], rfl, (h9.later hb7').up (by omega), .inl ⟨rfl, rfl, rfl⟩, .inl rfl, ((HS.out.2.2.2.2.trans (Ch.below HB5.out)).trans H6.out.2.2).trans (Ch.below hb7')⟩
theorem held_any {base qb g c : Nat} {room wb : Int} {L : List Ev} {p : Option Addr} (o : OpV) (W : World) (h : QS base qb g room wb L W) (hE : EL W qb g p c L) (hwb : wb ≤ 4611686018427000000 - 16384) : Calls Try.prog 23 #[.pointer (some ⟨qb, 0, none⟩), .slice p L.length c, .int .i64 room, .agg (opA o)] W fun r W' => HRes base qb g room wb W r W' := by
  by_cases k1 : o.kd = 1
  · exact held_insert o W h hE hwb k1
  by_cases k2 : o.kd = 2
  · exact held_min o W h hE hwb k1 k2
  by_cases k3 : o.kd = 3
  · exact held_pop o W h hE hwb k1 k2 k3
  by_cases k4 : o.kd = 4
  · exact held_find o W h hE hwb k1 k2 k3 k4
  by_cases k5 : o.kd = 5
  · exact held_remove o W h hE hwb k1 k2 k3 k4 k5
  by_cases k6 : o.kd = 6
  · rcases hE with ⟨e1, e2, e3⟩ | ⟨b, o9, e1, h9⟩
    · exact held_split0 o W h (.inl ⟨e1, e2, e3⟩) hwb k1 k2 k3 k4 k5 k6 e1 e2 e3
    · exact held_split o W h (.inr ⟨b, o9, e1, h9⟩) hwb k1 k2 k3 k4 k5 k6 e1
  by_cases k8 : o.kd = 8
  · exact held_list o W h hE hwb k1 k2 k3 k4 k5 k6 k8
  by_cases k7 : o.kd = 7
  · exact held_sizes o W h hE hwb k1 k2 k3 k4 k5 k6 k8 k7
  exact held_else o W h hE hwb k1 k2 k3 k4 k5 k6 k8 k7
set_option maxRecDepth 100000 in
theorem holds_bad (room : Int) (p : Option Addr) (N c : Nat) (W : World) (h : room < 1 ∨ 8192 < room) :
    Calls Try.prog 6 #[.int .i64 room, .slice p N c] W fun e W' => e = .returned (.bool true) ∧ Below W.heap.size W W' := by
  have HN := q_newBad room h W
  by_cases h1 : room < 1
  · have d1 : decide (room < 1) = true := by simpa using h1
    clear h h1
    go_enter Try.func6, Try.ntmps6
    go_wp2_with (go_at_call 16; (with_reducible refine HN.mono ?_); rintro e w1 ⟨rfl, h9⟩; subst h9)
    go_ret
    exact ⟨rfl, Below.refl _ _⟩
  · have d1 : decide (room < 1) = false := by simpa using h1
    have d2 : decide (8192 < room) = true := by simp; omega
    clear h h1
    go_enter Try.func6, Try.ntmps6
    go_wp2_with (go_at_call 16; (with_reducible refine HN.mono ?_); rintro e w1 ⟨rfl, h9⟩; subst h9)
    go_ret
    exact ⟨rfl, Below.refl _ _⟩
set_option maxRecDepth 100000 in
set_option maxHeartbeats 16000000 in
theorem holds_good (room : Int) (p : Option Addr) (N c : Nat) (O : Nat → OpV) (W : World) (h1 : 1 ≤ room) (h2 : room ≤ 8192) (hk : OpsIn W p N O) (hN : N ≤ 3000000000000) :
    Calls Try.prog 6 #[.int .i64 room, .slice p N c] W fun e W' => e = .returned (.bool true) ∧ Below W.heap.size W W' := by
  have HN := q_new room h1 h2 W
  have HK : Hid (OpsIn W p N O ∧ N ≤ 3000000000000 ∧ 1 ≤ room ∧ room ≤ 8192) := ⟨hk, hN, h1, h2⟩
  clear hk hN h1 h2
  go_enter Try.func6, Try.ntmps6
  go_wp2_with (go_at_call 16; (with_reducible refine HN.mono ?_); rintro e w2 ⟨qb, nb, rfl, hq, hO, hne, hqs, hb2⟩; have HQ : Hid (QS W.heap.size qb nb room 0 [] w2 ∧ Below W.heap.size W w2) := ⟨new_QS hq hO hne hqs ⟨HK.out.2.2.1, HK.out.2.2.2⟩, hb2⟩; clear hq hO hne hqs hb2)
  go_loopw [7, 8] (fun v x wr => ∃ (i g c' : Nat) (p' : Option Addr) (L : List Ev), v = .slice p' L.length c' ∧ x = .int .i64 (i : Int) ∧ i ≤ N ∧ QS W.heap.size qb g room (16384 * (i : Int)) L wr ∧ EL wr qb g p' c' L ∧ Below W.heap.size W wr) (fun _ x _ => N - (intOf x).toNat)
  case atStart => exact ⟨0, nb, 0, none, [], rfl, rfl, Nat.zero_le _, HQ.out.1, .inl ⟨rfl, rfl, rfl⟩, HQ.out.2⟩
  case round =>
    obtain ⟨i, g, c', p', L, rfl, rfl, hiN, hQ, hE, hbr⟩ := hrel
    have HQ0 : Hid (QS W.heap.size qb g room (16384 * (i : Int)) L wr ∧ Below W.heap.size W wr ∧ EL wr qb g p' c' L) := ⟨hQ, hbr, hE⟩
    clear HQ hQ hbr hE HN
    by_cases hlt : i < N
    · have dl : decide ((i : Int) < (N : Int)) = true := by simp; omega
      have i0 : (0 : Int) ≤ (i : Int) := by omega
      have i1 : (i : Int) < (N : Int) := by omega
      obtain ⟨hk, hN, _, _⟩ := HK.out
      obtain ⟨b, o, hp, hbl, hcells⟩ : ∃ b o, p = some ⟨b, o, none⟩ ∧ b < W.heap.size ∧ ∀ i r, i < N → r < 7 → W.cell? ⟨b, o + i * 7 + r, none⟩ = some ((opA (O i)).toList.getD r undef) := by
        rcases hk with h9 | h9
        · omega
        · exact h9
      subst hp
      have hcw : ∀ r, r < 7 → wr.cell? ⟨b, o + i * 7 + r, none⟩ = some ((opA (O i)).toList.getD r undef) := fun r hr => (cell_below (a := ⟨b, o + i * 7 + r, none⟩) HQ0.out.2.1 hbl).trans (hcells i r hlt hr)
      have x0 : wr.cell? ⟨b, o + i * 7, none⟩ = some (.int .i64 (O i).kd) := hcw 0 (by decide)
      have x1 : wr.cell? ⟨b, o + i * 7 + 1, none⟩ = some (.int .i64 (O i).wh) := hcw 1 (by decide)
      have x2 : wr.cell? ⟨b, o + i * 7 + 2, none⟩ = some (.int .u64 (O i).t) := hcw 2 (by decide)
      have x3 : wr.cell? ⟨b, o + i * 7 + 3, none⟩ = some (.int .i64 (O i).s) := hcw 3 (by decide)
      have x4 : wr.cell? ⟨b, o + i * 7 + 4, none⟩ = some (.int .u64 (O i).q) := hcw 4 (by decide)
      have x5 : wr.cell? ⟨b, o + i * 7 + 5, none⟩ = some (.int .i64 (O i).d) := hcw 5 (by decide)
      have x6 : wr.cell? ⟨b, o + i * 7 + 6, none⟩ = some (.int .i64 (O i).n) := hcw 6 (by decide)
      have ei : IntKind.i64.wrap ((i : Int) + 1) = (i : Int) + 1 := by rw [IntKind.wrap_i64]; omega
      have HA := held_any (O i) wr HQ0.out.1 HQ0.out.2.2 (by omega)
      unfold opA at HA
      have hm := meas hlt
      generalize hnL : L.length = n at HA ⊢
      have HNL : Hid (L.length = n) := hnL
      clear hcw hcells hk hbl hN hnL
      go_wp2_with (go_at_call 23; (with_reducible refine HA.mono ?_); rintro e w3 ⟨p3, c3, g3, L3, rfl, hq3, hE3, hg3, hC3⟩; have HQ3 : Hid (QS W.heap.size qb g3 room (16384 * (i : Int) + 16384) L3 w3 ∧ EL w3 qb g3 p3 c3 L3 ∧ Ch (S2 qb g) wr w3) := ⟨hq3, hE3, hC3⟩; clear hq3 hE3 hg3 hC3)
      have hl2 := HQ0.out.1.lt
      exact ⟨⟨i + 1, g3, c3, p3, L3, rfl, rfl, hlt, HQ3.out.1.up (by omega), HQ3.out.2.1, HQ0.out.2.1.trans (HQ3.out.2.2.toBelow HQ0.out.2.1.size (by rintro k (rfl | rfl); exact hl2.1.2; exact hl2.2.2))⟩, hm⟩
    · have dl : decide ((i : Int) < (N : Int)) = false := by simp; omega
      have HLs := listS wr HQ0.out.1
      have hln := HQ0.out.1.len
      have hl2 := HQ0.out.1.lt
      have HSZ : Hid (∀ w5, QS W.heap.size qb g room (16384 * (i : Int)) L w5 → Calls Try.prog 17 #[.pointer (some ⟨qb, 0, none⟩)] w5 fun e W' => e = .returned (.int .i64 (L.length : Int)) ∧ W' = w5) := fun w5 h5 => size_any w5 h5
      have HLN : Hid (L.length ≤ 1000000) := by show L.length ≤ 1000000; omega
      have HL2 : Hid ((qb < wr.heap.size ∧ W.heap.size ≤ qb) ∧ g < wr.heap.size ∧ W.heap.size ≤ g) := hl2
      clear hln hl2
      go_wp2_with (first | (go_at_call 9; (with_reducible refine HLs.mono ?_); rintro e w3 ⟨b3, X3, rfl, hX3, hs3, hl3, hb3, hq3, hC3⟩; have hE3 : EL w3 qb g p' c' L := HQ0.out.2.2.keep hC3 (.inl rfl); have HT := sameEvents_yes L.length (fun j => evC (X3 (j / 6)) (j % 6)) (some ⟨b3, 0, none⟩) p' L.length c' HLN.out w3 (by have h := hX3.xat 0 L.length (by omega); simpa using h) (hE3.xat.congr (fun j hj => by have h1 := hl3 (j / 6) (by omega); rw [lX_at (by omega)] at h1; rw [Option.some.inj h1])) (evSh_evC L.length X3); have HM3 : Hid (QS W.heap.size qb g room (16384 * (i : Int)) L w3 ∧ Ch (S2 qb g) wr w3) := ⟨hq3, hC3⟩; clear hX3 hs3 hl3 hb3 hq3 hC3 hE3) | (go_at_call 11; (with_reducible refine HT.mono ?_); rintro e w5 ⟨rfl, hb5⟩; have HZ := HSZ.out w5 (HM3.out.1.later hb5)) | (go_at_call 17; (with_reducible refine HZ.mono ?_); rintro e w9 ⟨rfl, h9⟩; subst h9))
      go_ret
      have hB3 := HQ0.out.2.1.trans (HM3.out.2.toBelow HQ0.out.2.1.size (by rintro k (rfl | rfl); exact HL2.out.1.2; exact HL2.out.2.2))
      exact ⟨rfl, hB3.trans (hb5.mono hB3.size)⟩
theorem holds_law (room : Int) (p : Option Addr) (N c : Nat) (O : Nat → OpV) (W : World) (hk : OpsIn W p N O) (hN : N ≤ 3000000000000) :
    Calls Try.prog 6 #[.int .i64 room, .slice p N c] W fun e W' => e = .returned (.bool true) ∧ Below W.heap.size W W' := by
  by_cases h : room < 1 ∨ 8192 < room
  · exact holds_bad room p N c W h
  · exact holds_good room p N c O W (by omega) (by omega) hk hN
end Go.Proofs.Ytbnpjcpakgafoaa
