import Derived.Test.YtkncalocpnkegaaY17
namespace Go.Proofs.Ytkncalocpnkegaa
open Go.ChangeShapes Go.WideShapes Go.ChangeAt Go.RowKit
set_option linter.unusedVariables false
set_option linter.unusedSimpArgs false

theorem KBx.frz {W : World} {kb : Nat} {kt ks kq : Int} (h : KBx W kb kt ks kq) (k : Nat) : W.frozen? ⟨kb, k, none⟩ = false := by
  unfold KBx at h
  simp [World.frozen?, h]
theorem new_QS {W : World} {base qb nb : Nat} {room : Int} (hq : W.heap[qb]? = some (.cells #[.slice (some ⟨nb, 0, none⟩) 1 1, .int .i64 0, .int .i64 0, .int .i64 0, .int .i64 room, .int .i64 0] 63 (0, 0))) (hO : Own W base 69 8 (.slice (some ⟨nb, 0, none⟩) 1 1) 1 zNd) (hne : qb ≠ nb) (hb : base ≤ qb) (hr : 1 ≤ room ∧ room ≤ 8192) : QS base qb nb room 0 [] W := by
  refine ⟨1, 1, ⟨fun _ => ev0, fun _ => 0, fun _ => 0⟩, .nil, [], 0, 0, ⟨⟨?_, ?_, fun e => hne e.symm⟩, rfl, trivial, by simp [Tr.ps], by simp [Tr.ps], rfl, ⟨rfl, rfl⟩, by omega, hr, List.Pairwise.nil, Int.le_refl _⟩, rfl, Int.le_refl _⟩
  · refine Own.mk' hq rfl (Nat.le_refl _) (by unfold maxLen; omega) hb fun j hj => ?_
    have : j = 0 ∨ j = 1 ∨ j = 2 ∨ j = 3 ∨ j = 4 ∨ j = 5 := by omega
    rcases this with rfl | rfl | rfl | rfl | rfl | rfl <;> rfl
  · refine hO.congr fun j hj => ?_
    have : j = 0 ∨ j = 1 ∨ j = 2 ∨ j = 3 ∨ j = 4 ∨ j = 5 ∨ j = 6 ∨ j = 7 := by omega
    rcases this with rfl | rfl | rfl | rfl | rfl | rfl | rfl | rfl <;> rfl
theorem QS.up {base qb g : Nat} {room wb wb' : Int} {L : List Ev} {W : World} (h : QS base qb g room wb L W) (hw : wb ≤ wb') : QS base qb g room wb' L W := by
  obtain ⟨c, n, A, t, fl, root, work, hq, hL, h2⟩ := h
  exact ⟨c, n, A, t, fl, root, work, hq, hL, by omega⟩
/-- keys that come in -/
def KeysAt (W : World) (p : Option Addr) (N : Nat) (T S Q : Nat → Int) : Prop := N = 0 ∨ ∃ b o, p = some ⟨b, o, none⟩ ∧ b < W.heap.size ∧ ∀ i, i < N → W.cell? ⟨b, o + i * 3, none⟩ = some (.int .u64 (T i)) ∧ W.cell? ⟨b, o + i * 3 + 1, none⟩ = some (.int .i64 (S i)) ∧ W.cell? ⟨b, o + i * 3 + 2, none⟩ = some (.int .u64 (Q i))
theorem insOk {base qb g : Nat} {room wb : Int} {L : List Ev} {e : Ev} {W W' : World} {code : Int} (h : InsR base qb g room wb L e W code W') (h1 : (L.length : Int) ≠ room) (h2 : ¬ ∃ x ∈ L, cmpE e.t e.s e.q x = 0) : ∃ g', code = 0 ∧ ∃ L', QS base qb g' room (wb + 8192) L' W' ∧ L'.length = L.length + 1 ∧ (∀ x, x ∈ L' ↔ x = e ∨ x ∈ L) ∧ (g' = g ∨ W.heap.size ≤ g') ∧ Ch (S2 qb g) W W' := by
  obtain ⟨g', hc, hg, hC⟩ := h
  rcases hc with ⟨h3, _⟩ | ⟨_, h3, _⟩ | ⟨_, _, h4, L', h5, h6, h7⟩
  · exact absurd h3 h1
  · exact absurd h3 h2
  · exact ⟨g', h4, L', h5, h6, h7, hg, hC⟩
theorem insFull {base qb g : Nat} {room wb : Int} {L : List Ev} {e : Ev} {W W' : World} {code : Int} (h : InsR base qb g room wb L e W code W') (h1 : (L.length : Int) = room) : ∃ g', code = 80 ∧ QS base qb g' room (wb + 8192) L W' ∧ (g' = g ∨ W.heap.size ≤ g') ∧ Ch (S2 qb g) W W' := by
  obtain ⟨g', hc, hg, hC⟩ := h
  rcases hc with ⟨_, h4, h5⟩ | ⟨h3, _⟩ | ⟨h3, _⟩
  · exact ⟨g', h4, h5, hg, hC⟩
  · exact absurd h1 h3
  · exact absurd h1 h3
theorem insTwin {base qb g : Nat} {room wb : Int} {L : List Ev} {e : Ev} {W W' : World} {code : Int} (h : InsR base qb g room wb L e W code W') (h1 : (L.length : Int) ≠ room) (h2 : ∃ x ∈ L, cmpE e.t e.s e.q x = 0) : ∃ g', code = 81 ∧ QS base qb g' room (wb + 8192) L W' ∧ (g' = g ∨ W.heap.size ≤ g') ∧ Ch (S2 qb g) W W' := by
  obtain ⟨g', hc, hg, hC⟩ := h
  rcases hc with ⟨h3, _⟩ | ⟨_, _, h4, h5⟩ | ⟨_, h3, _⟩
  · exact absurd h3 h1
  · exact ⟨g', h4, h5, hg, hC⟩
  · exact absurd h2 h3
set_option maxRecDepth 100000 in
set_option maxHeartbeats 8000000 in
theorem rooms_law (room : Int) (p : Option Addr) (N c : Nat) (T S Q : Nat → Int) (W : World) (hk : KeysAt W p N T S Q) (hN : N ≤ 5864062014805) :
    Calls Try.prog 5 #[.int .i64 room, .slice p N c] W fun e W' => e = .returned (.bool true) ∧ Below W.heap.size W W' := by
  by_cases h1 : room < 1 ∨ 300 < room
  · have e1 : wrap64 (1 + wrap64 ((IntKind.u64.wrap room).tmod 300)) = 1 + (IntKind.u64.wrap room).tmod 300 ∧ 0 ≤ (IntKind.u64.wrap room).tmod 300 ∧ (IntKind.u64.wrap room).tmod 300 < 300 := by
      have h0 : 0 ≤ IntKind.u64.wrap room := by simp only [IntKind.wrap, IntKind.bits, IntKind.signed]; simp; omega
      rw [Int.tmod_eq_emod_of_nonneg h0]
      have h2 := Int.emod_nonneg (IntKind.u64.wrap room) (show (300 : Int) ≠ 0 by decide)
      have h3 := Int.emod_lt_of_pos (IntKind.u64.wrap room) (show (0 : Int) < 300 by decide)
      generalize IntKind.u64.wrap room % 300 = z at h2 h3 ⊢
      refine ⟨?_, h2, h3⟩
      rw [show wrap64 z = z by unfold wrap64; omega, show wrap64 (1 + z) = 1 + z by unfold wrap64; omega]
    have hb9 : 1 ≤ wrap64 (1 + wrap64 ((IntKind.u64.wrap room).tmod 300)) ∧ wrap64 (1 + wrap64 ((IntKind.u64.wrap room).tmod 300)) ≤ 300 := by rw [e1.1]; omega
    clear e1
    by_cases h2 : room < 1
    · have d1 : decide (room < 1) = true := by simpa using h2
      clear h1 h2
      go_enter Try.func5, Try.ntmps5
      go_upto_region 3 with fail
      generalize wrap64 (1 + wrap64 ((IntKind.u64.wrap room).tmod 300)) = R at hb9 ⊢
      obtain ⟨hR1, hR2⟩ := hb9
      have HN := q_new R hR1 (by omega) W
      go_wp2_with (go_at_call 9; (with_reducible refine HN.mono ?_); rintro e w1 ⟨qb, nb, rfl, hq, hO, hne, hqs, hb1⟩; have HQ : Hid (QS W.heap.size qb nb R 0 [] w1) := new_QS hq hO hne hqs ⟨hR1, by omega⟩; clear hq hO)
      go_loopw [7] (fun x wr => ∃ (i g : Nat) (L : List Ev), x = .int .i64 (i : Int) ∧ (i : Int) ≤ R ∧ QS W.heap.size qb g R (8192 * (i : Int)) L wr ∧ L.length = i ∧ (∀ x ∈ L, x.t < i ∧ x.s = 1) ∧ Below W.heap.size W wr) (fun x _ => R.toNat - (intOf x).toNat)
      case atStart => exact ⟨0, nb, [], rfl, by omega, HQ.out, rfl, fun x hx => (by cases hx), hb1⟩
      case round =>
        obtain ⟨i, g, L, rfl, hiR, hQ, hLi, hall, hbr⟩ := hrel
        have HQ0 : Hid (QS W.heap.size qb g R (8192 * (i : Int)) L wr) := hQ
        have HLI : Hid (L.length = i) := hLi
        have HALL : Hid (∀ x ∈ L, x.t < i ∧ x.s = 1) := hall
        clear HQ hQ hLi hall
        by_cases hlt : (i : Int) < R
        · have dl : decide ((i : Int) < R) = true := by simpa using hlt
          have ei : IntKind.i64.wrap ((i : Int) + 1) = (i : Int) + 1 := by rw [IntKind.wrap_i64]; omega
          have eu : IntKind.u64.wrap (i : Int) = (i : Int) := by simp only [IntKind.wrap, IntKind.bits, IntKind.signed]; simp; omega
          have er : IntKind.i64.wrap (R - (i : Int)) = R - (i : Int) := by rw [IntKind.wrap_i64]; omega
          have HRM := room_any wr HQ0.out
          rw [HLI.out] at HRM
          go_wp2_with (first | (go_at_call 11; (with_reducible refine HRM.mono ?_); rintro e w2 ⟨rfl, hb2⟩; have HQ2 : Hid (QS W.heap.size qb g R (8192 * (i : Int)) L w2) := HQ0.out.later hb2) | (go_at_call 18; refine (ins_any ⟨(i : Int), 1, 0, 0, 0, 0⟩ w2 HQ2.out (by omega)).mono ?_; rintro e w3 ⟨code, rfl, hI⟩; obtain ⟨g3, hcode, L3, hQ3, hL3, hx3, hg3, hC3⟩ := insOk hI (by rw [HLI.out]; omega) (by rintro ⟨x, hx, hc⟩; have := (HALL.out x hx).1; unfold cmpE at hc; rw [keyCmp_eq] at hc; have := hc.1; simp at this; omega); subst hcode))
          refine ⟨⟨i + 1, g3, L3, rfl, by omega, ?_, by rw [hL3, HLI.out], fun x hx => ?_, ?_⟩, ?_⟩
          · have e9 : (8192 : Int) * ((i + 1 : Nat) : Int) = 8192 * (i : Int) + 8192 := by omega
            rw [e9]; exact hQ3
          · rcases (hx3 x).1 hx with h9 | h9
            · subst h9; exact ⟨by simp; omega, rfl⟩
            · have := HALL.out x h9; exact ⟨by omega, this.2⟩
          · have hl2 := HQ2.out.lt
            exact (hbr.trans (hb2.mono hbr.size)).trans (hC3.toBelow (by have := hbr.size; have := hb2.size; omega) (by rintro k (rfl | rfl); exact hl2.1.2; exact hl2.2.2))
          · have h9 : (intOf (Value.int .i64 (((i + 1 : Nat) : Int)))).toNat = i + 1 := by simp [intOf]
            have h8 : (intOf (Value.int .i64 (i : Int))).toNat = i := by simp [intOf]
            show R.toNat - (intOf (Value.int .i64 ((i : Int) + 1))).toNat < _
            rw [show ((i : Int) + 1) = ((i + 1 : Nat) : Int) by omega, h9, h8]
            omega
        · have dl : decide ((i : Int) < R) = false := by simpa using hlt
          have hiR2 : (i : Int) = R := by omega
          go_wp2_with fail
          go_loopw [8] (fun x wr => ∃ (j g : Nat) (L : List Ev), x = .int .i64 (j : Int) ∧ j ≤ N ∧ QS W.heap.size qb g R (8192 * (300 + 4 * (j : Int))) L wr ∧ (L.length : Int) = R ∧ (∀ x ∈ L, x.s < 3 + (j : Int)) ∧ Below W.heap.size W wr) (fun x _ => N - (intOf x).toNat)
          case atStart => exact ⟨0, g, L, rfl, Nat.zero_le _, HQ0.out.up (by omega), by rw [HLI.out]; exact hiR2, fun x hx => by have := (HALL.out x hx).2; omega, hbr⟩
          case round =>
            clear HQ0 HLI HALL hbr dl hlt hiR hiR2
            obtain ⟨j, g, L, rfl, hjN, hQ, hLR, hall, hbr⟩ := hrel
            have HQ0 : Hid (QS W.heap.size qb g R (8192 * (300 + 4 * (j : Int))) L wr) := hQ
            have HLR : Hid ((L.length : Int) = R) := hLR
            have HALL : Hid (∀ x ∈ L, x.s < 3 + (j : Int)) := hall
            clear hQ hLR hall
            by_cases hlt : j < N
            · have dl : decide ((j : Int) < (N : Int)) = true := by simp; omega
              have i0 : (0 : Int) ≤ (j : Int) := by omega
              have i1 : (j : Int) < (N : Int) := by omega
              obtain ⟨b, o, hp, hbl, hcells⟩ : ∃ b o, p = some ⟨b, o, none⟩ ∧ b < W.heap.size ∧ ∀ i, i < N → W.cell? ⟨b, o + i * 3, none⟩ = some (.int .u64 (T i)) ∧ W.cell? ⟨b, o + i * 3 + 1, none⟩ = some (.int .i64 (S i)) ∧ W.cell? ⟨b, o + i * 3 + 2, none⟩ = some (.int .u64 (Q i)) := by
                rcases hk with h9 | h9
                · omega
                · exact h9
              subst hp
              have x0 := (cell_below (a := ⟨b, o + j * 3, none⟩) hbr hbl).trans (hcells j hlt).1
              have x1 := (cell_below (a := ⟨b, o + j * 3 + 1, none⟩) hbr hbl).trans (hcells j hlt).2.1
              have x2 := (cell_below (a := ⟨b, o + j * 3 + 2, none⟩) hbr hbl).trans (hcells j hlt).2.2
              clear hcells
              have ej : IntKind.i64.wrap ((j : Int) + 1) = (j : Int) + 1 := by rw [IntKind.wrap_i64]; omega
              have e3 : IntKind.i64.wrap (3 + (j : Int)) = 3 + (j : Int) := by rw [IntKind.wrap_i64]; omega
              obtain ⟨wA, hwA⟩ : ∃ wA, wr.alloc (.cells #[.int .u64 (T j), .int .i64 2, .int .u64 (Q j)] 38) = wA := ⟨_, rfl⟩
              have HWA : Hid (wr.alloc (.cells #[.int .u64 (T j), .int .i64 2, .int .u64 (Q j)] 38) = wA) := hwA
              have hbA : Below wr.heap.size wr wA := by rw [← hwA]; exact (Below.refl _ wr).alloc (Nat.le_refl _) _
              have hKA : KBx wA wr.heap.size (T j) 2 (Q j) := by unfold KBx; rw [← hwA]; exact World.alloc_heap_new wr _
              clear hwA
              have HQA : Hid (QS W.heap.size qb g R (8192 * (300 + 4 * (j : Int))) L wA) := HQ0.out.later hbA
              have hl0 := HQ0.out.lt
              have hnk : wr.heap.size ≠ qb ∧ wr.heap.size ≠ g := by omega
              have HR1 := room_any wA HQA.out
              rw [HLR.out, Int.sub_self] at HR1
              have hwb : (8192 : Int) * (300 + 4 * (j : Int)) + 40000 ≤ 4611686018427387904 := by omega
              have hLne : L ≠ [] := fun e9 => by have := HLR.out; rw [e9] at this; simp at this; omega
              go_upto_region 21 with (first | (go_at_call 11; first | (rw [HWA.out]; (with_reducible refine HR1.mono ?_); rintro e w2 ⟨rfl, hb2⟩; have hK2 : KBx w2 wr.heap.size (T j) 2 (Q j) := (hb2.block _ (lt_of_block hKA)).trans hKA; obtain ⟨k0, k1, k2⟩ := hK2.cells; have HQ2 : Hid (QS W.heap.size qb g R (8192 * (300 + 4 * (j : Int))) L w2) := HQA.out.later hb2) | (rw [HW5.out]; (with_reducible refine HR5.mono ?_); rintro e w6 ⟨rfl, hb6⟩)) | (go_at_call 18; refine (ins_any ⟨T j, 2, Q j, 0, 0, 0⟩ w2 HQ2.out (by omega)).mono ?_; rintro e w3 ⟨code, rfl, hI⟩; obtain ⟨g3, hcode, hQ3, hg3, hC3⟩ := insFull hI HLR.out; subst hcode; have hK3 : KBx w3 wr.heap.size (T j) 2 (Q j) := (hC3.block _ (lt_of_block hK2) (by rintro (e | e); exact hnk.1 e; exact hnk.2 e)).trans hK2; have HQ3 : Hid (QS W.heap.size qb g3 R (8192 * (300 + 4 * (j : Int)) + 8192) L w3) := hQ3; have hnk3 : wr.heap.size ≠ g3 := (by have := lt_of_block hK2; rcases hg3 with h9 | h9 <;> omega); clear hQ3 hI) | (go_at_call 19; refine (popS w3 HQ3.out (by omega) hLne).mono ?_; rintro e w4 ⟨y, L4, rfl, hL4, hQ4, hC4⟩; have HL4 : Hid (L = y :: L4) := hL4; have hK4 : KBx w4 wr.heap.size (T j) 2 (Q j) := (hC4.block _ (lt_of_block hK3) (by rintro (e | e); exact hnk.1 e; exact hnk3 e)).trans hK3; obtain ⟨w5, hw5⟩ : ∃ w5, w4.alloc (.cells #[.int .u64 y.t, .int .i64 y.s, .int .u64 y.q, .int .i64 y.d, .int .i64 y.k, .int .i64 y.v] 40) = w5 := ⟨_, rfl⟩; have HW5 : Hid (w4.alloc (.cells #[.int .u64 y.t, .int .i64 y.s, .int .u64 y.q, .int .i64 y.d, .int .i64 y.k, .int .i64 y.v] 40) = w5) := hw5; have hb5 : Below w4.heap.size w4 w5 := (by rw [← hw5]; exact (Below.refl _ w4).alloc (Nat.le_refl _) _); clear hw5; have HQ5 : Hid (QS W.heap.size qb g3 R (8192 * (300 + 4 * (j : Int)) + 8192 + 8192) L4 w5) := hQ4.later hb5; clear hQ4 hL4; have HR5 := room_any w5 HQ5.out; rw [show R - (L4.length : Int) = 1 from (by have h8 := HLR.out; rw [HL4.out, List.length_cons] at h8; omega)] at HR5; unfold evV))
              have HQ6 : Hid (QS W.heap.size qb g3 R (8192 * (300 + 4 * (j : Int)) + 8192 + 8192) L4 w6.drew) := (HQ5.out.later hb6).later (below_drewNq _ _ 1)
              have hK6 : KBx w6 wr.heap.size (T j) 2 (Q j) := (hb6.block _ (Nat.lt_of_lt_of_le (lt_of_block hK4) hb5.size)).trans ((hb5.block _ (lt_of_block hK4)).trans hK4)
              have hl5 := HQ5.out.lt
              have C6 : Ch (fun k => W.heap.size ≤ k) wr w6.drew := ((((((Ch.below hbA).trans (Ch.below hb2)).trans (hC3.mono (by rintro k (rfl | rfl); exact hl0.1.2; exact hl0.2.2))).trans (hC4.mono (by rintro k (rfl | rfl); exact hl0.1.2; exact hl5.2.2))).trans (Ch.below hb5)).trans (Ch.below hb6)).trans (Ch.drew _ _ 1)
              have C6' : Hid (Ch (fun k => W.heap.size ≤ k) wr w6.drew) := C6
              have hln : (L4.length : Int) = R - 1 := by
                have h8 := HLR.out
                rw [HL4.out, List.length_cons] at h8
                omega
              have HLN : Hid ((L4.length : Int) = R - 1) := hln
              clear hln
              have HAL : Hid (∀ x ∈ L4, x.s < 3 + (j : Int)) := fun x hx => HALL.out x (by rw [HL4.out]; exact List.mem_cons_of_mem _ hx)
              have HLM : L4.length ≤ 8192 := by have := HLN.out; omega
              clear x0 x1 x2 hbA hb2 hC3 hC4 hb5 hb6 hK2 hK3 hK4 hKA HQ0 HQA HQ2 HQ3 HQ5 HR1 HR5 HALL HLR HL4 hLne C6 k0 k1 k2
              obtain ⟨k0, k1, k2⟩ := hK6.cells
              go_region_held3 (fun w' => w'.cell? ⟨wr.heap.size, 0, none⟩ = some (.int .u64 (T j)) ∧ w'.cell? ⟨wr.heap.size, 1, none⟩ = some (.int .i64 2) ∧ w'.cell? ⟨wr.heap.size, 2, none⟩ = some (.int .u64 (Q j))) (first | exact ⟨k0, k1, k2⟩ | exact KP | go_keep) (first | (go_at_call 13; refine (listS w6.drew HQ6.out).mono ?_; rintro e w7 ⟨b7, X, rfl, hX, hsrt, hLX, hb7, hQ7, hC7⟩; have hK7 : KBx w7 wr.heap.size (T j) 2 (Q j) := (hC7.block _ (lt_of_block hK6) (by rintro (e | e); exact hnk.1 e; exact hnk3 e)).trans hK6; have KP := hK7.cells; have HQ7 : Hid (QS W.heap.size qb g3 R (8192 * (300 + 4 * (j : Int)) + 8192 + 8192) L4 w7) := hQ7; have HX : Hid (EvsL w7 b7 L4.length X) := hX; clear hQ7 hX) | (go_at_call 20; refine (seek_any b7 L4.length L4.length X (T j) 2 (Q j) w7 HX.out HLM hsrt).mono ?_; rintro e w8 ⟨i0', th, rfl, hth, hb8⟩; have hK8 : KBx w8 wr.heap.size (T j) 2 (Q j) := (hb8.block _ (lt_of_block hK7)).trans hK7; clear KP; have KP := hK8.cells))
              have HTW : Hid (th = true ↔ ∃ x ∈ L4, cmpE (T j) 2 (Q j) x = 0) := by
                refine hth.trans ⟨?_, ?_⟩
                · rintro ⟨jj, hj1, hj2⟩
                  exact ⟨X jj, List.mem_of_getElem? (hLX jj hj1), hj2⟩
                · rintro ⟨x, hx, hc⟩
                  obtain ⟨jj, hj1, hj2⟩ := List.getElem_of_mem hx
                  have h9 := hLX jj hj1
                  rw [List.getElem?_eq_getElem hj1, hj2] at h9
                  exact ⟨jj, hj1, by rw [← Option.some.inj h9]; exact hc⟩
              have hlS : ∀ k, S2 qb g3 k → W.heap.size ≤ k := by
                rintro k (rfl | rfl)
                · exact hl0.1.2
                · exact hl5.2.2
              have HQ8 : Hid (QS W.heap.size qb g3 R (8192 * (300 + 4 * (j : Int)) + 8192 + 8192) L4 w8) := HQ7.out.later hb8
              have C8 : Hid (Ch (fun k => W.heap.size ≤ k) wr w8) := (C6'.out.trans (hC7.mono hlS)).trans (Ch.below hb8)
              clear hth hLX hsrt HX HQ7 HQ6 C6' hC7 hb8 hK6 hK7 KP k0 k1 k2 hb7
              obtain ⟨k0, k1, k2⟩ := hK8.cells
              have HLr : (L4.length : Int) ≠ R := by have := HLN.out; omega
              have HLr' : Hid ((L4.length : Int) ≠ R) := HLr
              clear HLr
              cases th with
              | false =>
                go_wp2_with (go_at_call 18; refine (ins_any ⟨T j, 2, Q j, 0, 0, 0⟩ w8 HQ8.out (by omega)).mono ?_; rintro e w9 ⟨code, rfl, hI⟩; obtain ⟨g9, hcode, L9, hQ9, hL9, hx9, hg9, hC9⟩ := insOk hI HLr'.out (fun h9 => absurd (HTW.out.2 h9) (by decide)); subst hcode; have HQ9 : Hid (QS W.heap.size qb g9 R (8192 * (300 + 4 * (j : Int)) + 8192 + 8192 + 8192) L9 w9) := hQ9; clear hQ9 hI)
                refine ⟨⟨j + 1, g9, L9, rfl, hlt, HQ9.out.up (by omega), by rw [hL9]; have := HLN.out; omega, fun x hx => ?_, ?_⟩, meas hlt⟩
                · rcases (hx9 x).1 hx with h9 | h9
                  · subst h9; show (2 : Int) < _; omega
                  · have := HAL.out x h9; omega
                · exact hbr.trans ((C8.out.trans (hC9.mono hlS)).toBelow hbr.size (fun k hk => hk))
              | true =>
                obtain ⟨z, hz⟩ : ∃ z, z = 3 + (j : Int) := ⟨_, rfl⟩
                have e3' : IntKind.i64.wrap (3 + (j : Int)) = z := e3.trans hz.symm
                have HZ : Hid (z = 3 + (j : Int)) := hz
                clear e3 hz
                go_wp2_with (first | (go_at_call 18; have HQ9b := HQ9.out; clear HQ9b; refine (ins_any ⟨T j, z, Q j, 0, 0, 0⟩ _ (HQ9.out.keep (Ch.set (fun k => k = wr.heap.size) w9 wr.heap.size 1 (.int .i64 z) rfl) (fun e9 => hnk.1 e9.symm) (fun e9 => hnk9 e9.symm)) (by omega)).mono ?_; rintro e w10 ⟨code, rfl, hI⟩; obtain ⟨g10, hcode, L9, hQ10, hL9, hx9, hg10, hC10⟩ := insOk hI HLr'.out (by rintro ⟨x, hx, hc⟩; have h8 := HAL.out x hx; have h6 := HZ.out; unfold cmpE at hc; rw [keyCmp_eq] at hc; have h7 := hc.2.1; simp only [] at h7; omega); subst hcode; have HQ10 : Hid (QS W.heap.size qb g10 R (8192 * (300 + 4 * (j : Int)) + 8192 + 8192 + 8192 + 8192) L9 w10) := hQ10; clear hQ10 hI) | (go_at_call 18; refine (ins_any ⟨T j, 2, Q j, 0, 0, 0⟩ w8 HQ8.out (by omega)).mono ?_; rintro e w9 ⟨code, rfl, hI⟩; obtain ⟨g9, hcode, hQ9, hg9, hC9⟩ := insTwin hI HLr'.out (HTW.out.1 rfl); subst hcode; have HQ9 : Hid (QS W.heap.size qb g9 R (8192 * (300 + 4 * (j : Int)) + 8192 + 8192 + 8192) L4 w9) := hQ9; have hK9 : KBx w9 wr.heap.size (T j) 2 (Q j) := (hC9.block _ (lt_of_block hK8) (by rintro (e | e); exact hnk.1 e; exact hnk3 e)).trans hK8; have hnk9 : wr.heap.size ≠ g9 := (by have := lt_of_block hK8; rcases hg9 with h9 | h9 <;> omega); clear hQ9 hI k0 k1 k2; obtain ⟨k0, k1, k2⟩ := hK9.cells; have hKf := hK9.frz 1))
                have hl9 := HQ9.out.lt
                refine ⟨⟨j + 1, g10, L9, rfl, hlt, HQ10.out.up (by omega), by rw [hL9]; have := HLN.out; omega, fun x hx => ?_, ?_⟩, meas hlt⟩
                · rcases (hx9 x).1 hx with h9 | h9
                  · subst h9; show z < _; have := HZ.out; omega
                  · have := HAL.out x h9; omega
                · exact hbr.trans ((((C8.out.trans (hC9.mono hlS)).trans (Ch.set _ _ _ _ _ hbr.size)).trans (hC10.mono (by rintro k (rfl | rfl); exact hl9.1.2; exact hl9.2.2))).toBelow hbr.size (fun k hk => hk))
            · have dl : decide ((j : Int) < (N : Int)) = false := by simp; omega
              have HS := size_any wr HQ0.out
              rw [HLR.out] at HS
              go_wp2_with (go_at_call 10; (with_reducible refine HS.mono ?_); rintro e w9 ⟨rfl, h9⟩; subst h9)
              go_ret
              exact ⟨rfl, hbr⟩
    · have d1 : decide (room < 1) = false := by simpa using h2
      have d2 : decide (300 < room) = true := by simp; omega
      clear h1 h2
      go_enter Try.func5, Try.ntmps5
      go_upto_region 3 with fail
      generalize wrap64 (1 + wrap64 ((IntKind.u64.wrap room).tmod 300)) = R at hb9 ⊢
      obtain ⟨hR1, hR2⟩ := hb9
      have HN := q_new R hR1 (by omega) W
      go_wp2_with (go_at_call 9; (with_reducible refine HN.mono ?_); rintro e w1 ⟨qb, nb, rfl, hq, hO, hne, hqs, hb1⟩; have HQ : Hid (QS W.heap.size qb nb R 0 [] w1) := new_QS hq hO hne hqs ⟨hR1, by omega⟩; clear hq hO)
      go_loopw [7] (fun x wr => ∃ (i g : Nat) (L : List Ev), x = .int .i64 (i : Int) ∧ (i : Int) ≤ R ∧ QS W.heap.size qb g R (8192 * (i : Int)) L wr ∧ L.length = i ∧ (∀ x ∈ L, x.t < i ∧ x.s = 1) ∧ Below W.heap.size W wr) (fun x _ => R.toNat - (intOf x).toNat)
      case atStart => exact ⟨0, nb, [], rfl, by omega, HQ.out, rfl, fun x hx => (by cases hx), hb1⟩
      case round =>
        obtain ⟨i, g, L, rfl, hiR, hQ, hLi, hall, hbr⟩ := hrel
        have HQ0 : Hid (QS W.heap.size qb g R (8192 * (i : Int)) L wr) := hQ
        have HLI : Hid (L.length = i) := hLi
        have HALL : Hid (∀ x ∈ L, x.t < i ∧ x.s = 1) := hall
        clear HQ hQ hLi hall
        by_cases hlt : (i : Int) < R
        · have dl : decide ((i : Int) < R) = true := by simpa using hlt
          have ei : IntKind.i64.wrap ((i : Int) + 1) = (i : Int) + 1 := by rw [IntKind.wrap_i64]; omega
          have eu : IntKind.u64.wrap (i : Int) = (i : Int) := by simp only [IntKind.wrap, IntKind.bits, IntKind.signed]; simp; omega
          have er : IntKind.i64.wrap (R - (i : Int)) = R - (i : Int) := by rw [IntKind.wrap_i64]; omega
          have HRM := room_any wr HQ0.out
          rw [HLI.out] at HRM
          go_wp2_with (first | (go_at_call 11; (with_reducible refine HRM.mono ?_); rintro e w2 ⟨rfl, hb2⟩; have HQ2 : Hid (QS W.heap.size qb g R (8192 * (i : Int)) L w2) := HQ0.out.later hb2) | (go_at_call 18; refine (ins_any ⟨(i : Int), 1, 0, 0, 0, 0⟩ w2 HQ2.out (by omega)).mono ?_; rintro e w3 ⟨code, rfl, hI⟩; obtain ⟨g3, hcode, L3, hQ3, hL3, hx3, hg3, hC3⟩ := insOk hI (by rw [HLI.out]; omega) (by rintro ⟨x, hx, hc⟩; have := (HALL.out x hx).1; unfold cmpE at hc; rw [keyCmp_eq] at hc; have := hc.1; simp at this; omega); subst hcode))
          refine ⟨⟨i + 1, g3, L3, rfl, by omega, ?_, by rw [hL3, HLI.out], fun x hx => ?_, ?_⟩, ?_⟩
          · have e9 : (8192 : Int) * ((i + 1 : Nat) : Int) = 8192 * (i : Int) + 8192 := by omega
            rw [e9]; exact hQ3
          · rcases (hx3 x).1 hx with h9 | h9
            · subst h9; exact ⟨by simp; omega, rfl⟩
            · have := HALL.out x h9; exact ⟨by omega, this.2⟩
          · have hl2 := HQ2.out.lt
            exact (hbr.trans (hb2.mono hbr.size)).trans (hC3.toBelow (by have := hbr.size; have := hb2.size; omega) (by rintro k (rfl | rfl); exact hl2.1.2; exact hl2.2.2))
          · have h9 : (intOf (Value.int .i64 (((i + 1 : Nat) : Int)))).toNat = i + 1 := by simp [intOf]
            have h8 : (intOf (Value.int .i64 (i : Int))).toNat = i := by simp [intOf]
            show R.toNat - (intOf (Value.int .i64 ((i : Int) + 1))).toNat < _
            rw [show ((i : Int) + 1) = ((i + 1 : Nat) : Int) by omega, h9, h8]
            omega
        · have dl : decide ((i : Int) < R) = false := by simpa using hlt
          have hiR2 : (i : Int) = R := by omega
          go_wp2_with fail
          go_loopw [8] (fun x wr => ∃ (j g : Nat) (L : List Ev), x = .int .i64 (j : Int) ∧ j ≤ N ∧ QS W.heap.size qb g R (8192 * (300 + 4 * (j : Int))) L wr ∧ (L.length : Int) = R ∧ (∀ x ∈ L, x.s < 3 + (j : Int)) ∧ Below W.heap.size W wr) (fun x _ => N - (intOf x).toNat)
          case atStart => exact ⟨0, g, L, rfl, Nat.zero_le _, HQ0.out.up (by omega), by rw [HLI.out]; exact hiR2, fun x hx => by have := (HALL.out x hx).2; omega, hbr⟩
          case round =>
            clear HQ0 HLI HALL hbr dl hlt hiR hiR2
            obtain ⟨j, g, L, rfl, hjN, hQ, hLR, hall, hbr⟩ := hrel
            have HQ0 : Hid (QS W.heap.size qb g R (8192 * (300 + 4 * (j : Int))) L wr) := hQ
            have HLR : Hid ((L.length : Int) = R) := hLR
            have HALL : Hid (∀ x ∈ L, x.s < 3 + (j : Int)) := hall
            clear hQ hLR hall
            by_cases hlt : j < N
            · have dl : decide ((j : Int) < (N : Int)) = true := by simp; omega
              have i0 : (0 : Int) ≤ (j : Int) := by omega
              have i1 : (j : Int) < (N : Int) := by omega
              obtain ⟨b, o, hp, hbl, hcells⟩ : ∃ b o, p = some ⟨b, o, none⟩ ∧ b < W.heap.size ∧ ∀ i, i < N → W.cell? ⟨b, o + i * 3, none⟩ = some (.int .u64 (T i)) ∧ W.cell? ⟨b, o + i * 3 + 1, none⟩ = some (.int .i64 (S i)) ∧ W.cell? ⟨b, o + i * 3 + 2, none⟩ = some (.int .u64 (Q i)) := by
                rcases hk with h9 | h9
                · omega
                · exact h9
              subst hp
              have x0 := (cell_below (a := ⟨b, o + j * 3, none⟩) hbr hbl).trans (hcells j hlt).1
              have x1 := (cell_below (a := ⟨b, o + j * 3 + 1, none⟩) hbr hbl).trans (hcells j hlt).2.1
              have x2 := (cell_below (a := ⟨b, o + j * 3 + 2, none⟩) hbr hbl).trans (hcells j hlt).2.2
              clear hcells
              have ej : IntKind.i64.wrap ((j : Int) + 1) = (j : Int) + 1 := by rw [IntKind.wrap_i64]; omega
              have e3 : IntKind.i64.wrap (3 + (j : Int)) = 3 + (j : Int) := by rw [IntKind.wrap_i64]; omega
              obtain ⟨wA, hwA⟩ : ∃ wA, wr.alloc (.cells #[.int .u64 (T j), .int .i64 2, .int .u64 (Q j)] 38) = wA := ⟨_, rfl⟩
              have HWA : Hid (wr.alloc (.cells #[.int .u64 (T j), .int .i64 2, .int .u64 (Q j)] 38) = wA) := hwA
              have hbA : Below wr.heap.size wr wA := by rw [← hwA]; exact (Below.refl _ wr).alloc (Nat.le_refl _) _
              have hKA : KBx wA wr.heap.size (T j) 2 (Q j) := by unfold KBx; rw [← hwA]; exact World.alloc_heap_new wr _
              clear hwA
              have HQA : Hid (QS W.heap.size qb g R (8192 * (300 + 4 * (j : Int))) L wA) := HQ0.out.later hbA
              have hl0 := HQ0.out.lt
              have hnk : wr.heap.size ≠ qb ∧ wr.heap.size ≠ g := by omega
              have HR1 := room_any wA HQA.out
              rw [HLR.out, Int.sub_self] at HR1
              have hwb : (8192 : Int) * (300 + 4 * (j : Int)) + 40000 ≤ 4611686018427387904 := by omega
              have hLne : L ≠ [] := fun e9 => by have := HLR.out; rw [e9] at this; simp at this; omega
              go_upto_region 21 with (first | (go_at_call 11; first | (rw [HWA.out]; (with_reducible refine HR1.mono ?_); rintro e w2 ⟨rfl, hb2⟩; have hK2 : KBx w2 wr.heap.size (T j) 2 (Q j) := (hb2.block _ (lt_of_block hKA)).trans hKA; obtain ⟨k0, k1, k2⟩ := hK2.cells; have HQ2 : Hid (QS W.heap.size qb g R (8192 * (300 + 4 * (j : Int))) L w2) := HQA.out.later hb2) | (rw [HW5.out]; (with_reducible refine HR5.mono ?_); rintro e w6 ⟨rfl, hb6⟩)) | (go_at_call 18; refine (ins_any ⟨T j, 2, Q j, 0, 0, 0⟩ w2 HQ2.out (by omega)).mono ?_; rintro e w3 ⟨code, rfl, hI⟩; obtain ⟨g3, hcode, hQ3, hg3, hC3⟩ := insFull hI HLR.out; subst hcode; have hK3 : KBx w3 wr.heap.size (T j) 2 (Q j) := (hC3.block _ (lt_of_block hK2) (by rintro (e | e); exact hnk.1 e; exact hnk.2 e)).trans hK2; have HQ3 : Hid (QS W.heap.size qb g3 R (8192 * (300 + 4 * (j : Int)) + 8192) L w3) := hQ3; have hnk3 : wr.heap.size ≠ g3 := (by have := lt_of_block hK2; rcases hg3 with h9 | h9 <;> omega); clear hQ3 hI) | (go_at_call 19; refine (popS w3 HQ3.out (by omega) hLne).mono ?_; rintro e w4 ⟨y, L4, rfl, hL4, hQ4, hC4⟩; have HL4 : Hid (L = y :: L4) := hL4; have hK4 : KBx w4 wr.heap.size (T j) 2 (Q j) := (hC4.block _ (lt_of_block hK3) (by rintro (e | e); exact hnk.1 e; exact hnk3 e)).trans hK3; obtain ⟨w5, hw5⟩ : ∃ w5, w4.alloc (.cells #[.int .u64 y.t, .int .i64 y.s, .int .u64 y.q, .int .i64 y.d, .int .i64 y.k, .int .i64 y.v] 40) = w5 := ⟨_, rfl⟩; have HW5 : Hid (w4.alloc (.cells #[.int .u64 y.t, .int .i64 y.s, .int .u64 y.q, .int .i64 y.d, .int .i64 y.k, .int .i64 y.v] 40) = w5) := hw5; have hb5 : Below w4.heap.size w4 w5 := (by rw [← hw5]; exact (Below.refl _ w4).alloc (Nat.le_refl _) _); clear hw5; have HQ5 : Hid (QS W.heap.size qb g3 R (8192 * (300 + 4 * (j : Int)) + 8192 + 8192) L4 w5) := hQ4.later hb5; clear hQ4 hL4; have HR5 := room_any w5 HQ5.out; rw [show R - (L4.length : Int) = 1 from (by have h8 := HLR.out; rw [HL4.out, List.length_cons] at h8; omega)] at HR5; unfold evV))
              have HQ6 : Hid (QS W.heap.size qb g3 R (8192 * (300 + 4 * (j : Int)) + 8192 + 8192) L4 w6.drew) := (HQ5.out.later hb6).later (below_drewNq _ _ 1)
              have hK6 : KBx w6 wr.heap.size (T j) 2 (Q j) := (hb6.block _ (Nat.lt_of_lt_of_le (lt_of_block hK4) hb5.size)).trans ((hb5.block _ (lt_of_block hK4)).trans hK4)
              have hl5 := HQ5.out.lt
              have C6 : Ch (fun k => W.heap.size ≤ k) wr w6.drew := ((((((Ch.below hbA).trans (Ch.below hb2)).trans (hC3.mono (by rintro k (rfl | rfl); exact hl0.1.2; exact hl0.2.2))).trans (hC4.mono (by rintro k (rfl | rfl); exact hl0.1.2; exact hl5.2.2))).trans (Ch.below hb5)).trans (Ch.below hb6)).trans (Ch.drew _ _ 1)
              have C6' : Hid (Ch (fun k => W.heap.size ≤ k) wr w6.drew) := C6
              have hln : (L4.length : Int) = R - 1 := by
                have h8 := HLR.out
                rw [HL4.out, List.length_cons] at h8
                omega
              have HLN : Hid ((L4.length : Int) = R - 1) := hln
              clear hln
              have HAL : Hid (∀ x ∈ L4, x.s < 3 + (j : Int)) := fun x hx => HALL.out x (by rw [HL4.out]; exact List.mem_cons_of_mem _ hx)
              have HLM : L4.length ≤ 8192 := by have := HLN.out; omega
              clear x0 x1 x2 hbA hb2 hC3 hC4 hb5 hb6 hK2 hK3 hK4 hKA HQ0 HQA HQ2 HQ3 HQ5 HR1 HR5 HALL HLR HL4 hLne C6 k0 k1 k2
              obtain ⟨k0, k1, k2⟩ := hK6.cells
              go_region_held3 (fun w' => w'.cell? ⟨wr.heap.size, 0, none⟩ = some (.int .u64 (T j)) ∧ w'.cell? ⟨wr.heap.size, 1, none⟩ = some (.int .i64 2) ∧ w'.cell? ⟨wr.heap.size, 2, none⟩ = some (.int .u64 (Q j))) (first | exact ⟨k0, k1, k2⟩ | exact KP | go_keep) (first | (go_at_call 13; refine (listS w6.drew HQ6.out).mono ?_; rintro e w7 ⟨b7, X, rfl, hX, hsrt, hLX, hb7, hQ7, hC7⟩; have hK7 : KBx w7 wr.heap.size (T j) 2 (Q j) := (hC7.block _ (lt_of_block hK6) (by rintro (e | e); exact hnk.1 e; exact hnk3 e)).trans hK6; have KP := hK7.cells; have HQ7 : Hid (QS W.heap.size qb g3 R (8192 * (300 + 4 * (j : Int)) + 8192 + 8192) L4 w7) := hQ7; have HX : Hid (EvsL w7 b7 L4.length X) := hX; clear hQ7 hX) | (go_at_call 20; refine (seek_any b7 L4.length L4.length X (T j) 2 (Q j) w7 HX.out HLM hsrt).mono ?_; rintro e w8 ⟨i0', th, rfl, hth, hb8⟩; have hK8 : KBx w8 wr.heap.size (T j) 2 (Q j) := (hb8.block _ (lt_of_block hK7)).trans hK7; clear KP; have KP := hK8.cells))
              have HTW : Hid (th = true ↔ ∃ x ∈ L4, cmpE (T j) 2 (Q j) x = 0) := by
                refine hth.trans ⟨?_, ?_⟩
                · rintro ⟨jj, hj1, hj2⟩
                  exact ⟨X jj, List.mem_of_getElem? (hLX jj hj1), hj2⟩
                · rintro ⟨x, hx, hc⟩
                  obtain ⟨jj, hj1, hj2⟩ := List.getElem_of_mem hx
                  have h9 := hLX jj hj1
                  rw [List.getElem?_eq_getElem hj1, hj2] at h9
                  exact ⟨jj, hj1, by rw [← Option.some.inj h9]; exact hc⟩
              have hlS : ∀ k, S2 qb g3 k → W.heap.size ≤ k := by
                rintro k (rfl | rfl)
                · exact hl0.1.2
                · exact hl5.2.2
              have HQ8 : Hid (QS W.heap.size qb g3 R (8192 * (300 + 4 * (j : Int)) + 8192 + 8192) L4 w8) := HQ7.out.later hb8
              have C8 : Hid (Ch (fun k => W.heap.size ≤ k) wr w8) := (C6'.out.trans (hC7.mono hlS)).trans (Ch.below hb8)
              clear hth hLX hsrt HX HQ7 HQ6 C6' hC7 hb8 hK6 hK7 KP k0 k1 k2 hb7
              obtain ⟨k0, k1, k2⟩ := hK8.cells
              have HLr : (L4.length : Int) ≠ R := by have := HLN.out; omega
              have HLr' : Hid ((L4.length : Int) ≠ R) := HLr
              clear HLr
              cases th with
              | false =>
                go_wp2_with (go_at_call 18; refine (ins_any ⟨T j, 2, Q j, 0, 0, 0⟩ w8 HQ8.out (by omega)).mono ?_; rintro e w9 ⟨code, rfl, hI⟩; obtain ⟨g9, hcode, L9, hQ9, hL9, hx9, hg9, hC9⟩ := insOk hI HLr'.out (fun h9 => absurd (HTW.out.2 h9) (by decide)); subst hcode; have HQ9 : Hid (QS W.heap.size qb g9 R (8192 * (300 + 4 * (j : Int)) + 8192 + 8192 + 8192) L9 w9) := hQ9; clear hQ9 hI)
                refine ⟨⟨j + 1, g9, L9, rfl, hlt, HQ9.out.up (by omega), by rw [hL9]; have := HLN.out; omega, fun x hx => ?_, ?_⟩, meas hlt⟩
                · rcases (hx9 x).1 hx with h9 | h9
                  · subst h9; show (2 : Int) < _; omega
                  · have := HAL.out x h9; omega
                · exact hbr.trans ((C8.out.trans (hC9.mono hlS)).toBelow hbr.size (fun k hk => hk))
              | true =>
                obtain ⟨z, hz⟩ : ∃ z, z = 3 + (j : Int) := ⟨_, rfl⟩
                have e3' : IntKind.i64.wrap (3 + (j : Int)) = z := e3.trans hz.symm
                have HZ : Hid (z = 3 + (j : Int)) := hz
                clear e3 hz
                go_wp2_with (first | (go_at_call 18; have HQ9b := HQ9.out; clear HQ9b; refine (ins_any ⟨T j, z, Q j, 0, 0, 0⟩ _ (HQ9.out.keep (Ch.set (fun k => k = wr.heap.size) w9 wr.heap.size 1 (.int .i64 z) rfl) (fun e9 => hnk.1 e9.symm) (fun e9 => hnk9 e9.symm)) (by omega)).mono ?_; rintro e w10 ⟨code, rfl, hI⟩; obtain ⟨g10, hcode, L9, hQ10, hL9, hx9, hg10, hC10⟩ := insOk hI HLr'.out (by rintro ⟨x, hx, hc⟩; have h8 := HAL.out x hx; have h6 := HZ.out; unfold cmpE at hc; rw [keyCmp_eq] at hc; have h7 := hc.2.1; simp only [] at h7; omega); subst hcode; have HQ10 : Hid (QS W.heap.size qb g10 R (8192 * (300 + 4 * (j : Int)) + 8192 + 8192 + 8192 + 8192) L9 w10) := hQ10; clear hQ10 hI) | (go_at_call 18; refine (ins_any ⟨T j, 2, Q j, 0, 0, 0⟩ w8 HQ8.out (by omega)).mono ?_; rintro e w9 ⟨code, rfl, hI⟩; obtain ⟨g9, hcode, hQ9, hg9, hC9⟩ := insTwin hI HLr'.out (HTW.out.1 rfl); subst hcode; have HQ9 : Hid (QS W.heap.size qb g9 R (8192 * (300 + 4 * (j : Int)) + 8192 + 8192 + 8192) L4 w9) := hQ9; have hK9 : KBx w9 wr.heap.size (T j) 2 (Q j) := (hC9.block _ (lt_of_block hK8) (by rintro (e | e); exact hnk.1 e; exact hnk3 e)).trans hK8; have hnk9 : wr.heap.size ≠ g9 := (by have := lt_of_block hK8; rcases hg9 with h9 | h9 <;> omega); clear hQ9 hI k0 k1 k2; obtain ⟨k0, k1, k2⟩ := hK9.cells; have hKf := hK9.frz 1))
                have hl9 := HQ9.out.lt
                refine ⟨⟨j + 1, g10, L9, rfl, hlt, HQ10.out.up (by omega), by rw [hL9]; have := HLN.out; omega, fun x hx => ?_, ?_⟩, meas hlt⟩
                · rcases (hx9 x).1 hx with h9 | h9
                  · subst h9; show z < _; have := HZ.out; omega
                  · have := HAL.out x h9; omega
                · exact hbr.trans ((((C8.out.trans (hC9.mono hlS)).trans (Ch.set _ _ _ _ _ hbr.size)).trans (hC10.mono (by rintro k (rfl | rfl); exact hl9.1.2; exact hl9.2.2))).toBelow hbr.size (fun k hk => hk))
            · have dl : decide ((j : Int) < (N : Int)) = false := by simp; omega
              have HS := size_any wr HQ0.out
              rw [HLR.out] at HS
              go_wp2_with (go_at_call 10; (with_reducible refine HS.mono ?_); rintro e w9 ⟨rfl, h9⟩; subst h9)
              go_ret
              exact ⟨rfl, hbr⟩
  · have d1 : decide (room < 1) = false := by simp; omega
    have d2 : decide (300 < room) = false := by simp; omega
    have hR1 : 1 ≤ room := by omega
    have hR2 : room ≤ 300 := by omega
    clear h1
    obtain ⟨R, rfl⟩ : ∃ R, R = room := ⟨_, rfl⟩
    have HN := q_new R hR1 (by omega) W
    go_enter Try.func5, Try.ntmps5
    go_upto_region 3 with fail
    go_wp2_with (go_at_call 9; (with_reducible refine HN.mono ?_); rintro e w1 ⟨qb, nb, rfl, hq, hO, hne, hqs, hb1⟩; have HQ : Hid (QS W.heap.size qb nb R 0 [] w1) := new_QS hq hO hne hqs ⟨hR1, by omega⟩; clear hq hO)
    go_loopw [7] (fun x wr => ∃ (i g : Nat) (L : List Ev), x = .int .i64 (i : Int) ∧ (i : Int) ≤ R ∧ QS W.heap.size qb g R (8192 * (i : Int)) L wr ∧ L.length = i ∧ (∀ x ∈ L, x.t < i ∧ x.s = 1) ∧ Below W.heap.size W wr) (fun x _ => R.toNat - (intOf x).toNat)
    case atStart => exact ⟨0, nb, [], rfl, by omega, HQ.out, rfl, fun x hx => (by cases hx), hb1⟩
    case round =>
      obtain ⟨i, g, L, rfl, hiR, hQ, hLi, hall, hbr⟩ := hrel
      have HQ0 : Hid (QS W.heap.size qb g R (8192 * (i : Int)) L wr) := hQ
      have HLI : Hid (L.length = i) := hLi
      have HALL : Hid (∀ x ∈ L, x.t < i ∧ x.s = 1) := hall
      clear HQ hQ hLi hall
      by_cases hlt : (i : Int) < R
      · have dl : decide ((i : Int) < R) = true := by simpa using hlt
        have ei : IntKind.i64.wrap ((i : Int) + 1) = (i : Int) + 1 := by rw [IntKind.wrap_i64]; omega
        have eu : IntKind.u64.wrap (i : Int) = (i : Int) := by simp only [IntKind.wrap, IntKind.bits, IntKind.signed]; simp; omega
        have er : IntKind.i64.wrap (R - (i : Int)) = R - (i : Int) := by rw [IntKind.wrap_i64]; omega
        have HRM := room_any wr HQ0.out
        rw [HLI.out] at HRM
        go_wp2_with (first | (go_at_call 11; (with_reducible refine HRM.mono ?_); rintro e w2 ⟨rfl, hb2⟩; have HQ2 : Hid (QS W.heap.size qb g R (8192 * (i : Int)) L w2) := HQ0.out.later hb2) | (go_at_call 18; refine (ins_any ⟨(i : Int), 1, 0, 0, 0, 0⟩ w2 HQ2.out (by omega)).mono ?_; rintro e w3 ⟨code, rfl, hI⟩; obtain ⟨g3, hcode, L3, hQ3, hL3, hx3, hg3, hC3⟩ := insOk hI (by rw [HLI.out]; omega) (by rintro ⟨x, hx, hc⟩; have := (HALL.out x hx).1; unfold cmpE at hc; rw [keyCmp_eq] at hc; have := hc.1; simp at this; omega); subst hcode))
        refine ⟨⟨i + 1, g3, L3, rfl, by omega, ?_, by rw [hL3, HLI.out], fun x hx => ?_, ?_⟩, ?_⟩
        · have e9 : (8192 : Int) * ((i + 1 : Nat) : Int) = 8192 * (i : Int) + 8192 := by omega
          rw [e9]; exact hQ3
        · rcases (hx3 x).1 hx with h9 | h9
          · subst h9; exact ⟨by simp; omega, rfl⟩
          · have := HALL.out x h9; exact ⟨by omega, this.2⟩
        · have hl2 := HQ2.out.lt
          exact (hbr.trans (hb2.mono hbr.size)).trans (hC3.toBelow (by have := hbr.size; have := hb2.size; omega) (by rintro k (rfl | rfl); exact hl2.1.2; exact hl2.2.2))
        · have h9 : (intOf (Value.int .i64 (((i + 1 : Nat) : Int)))).toNat = i + 1 := by simp [intOf]
          have h8 : (intOf (Value.int .i64 (i : Int))).toNat = i := by simp [intOf]
          show R.toNat - (intOf (Value.int .i64 ((i : Int) + 1))).toNat < _
          rw [show ((i : Int) + 1) = ((i + 1 : Nat) : Int) by omega, h9, h8]
          omega
      · have dl : decide ((i : Int) < R) = false := by simpa using hlt
        have hiR2 : (i : Int) = R := by omega
        go_wp2_with fail
        go_loopw [8] (fun x wr => ∃ (j g : Nat) (L : List Ev), x = .int .i64 (j : Int) ∧ j ≤ N ∧ QS W.heap.size qb g R (8192 * (300 + 4 * (j : Int))) L wr ∧ (L.length : Int) = R ∧ (∀ x ∈ L, x.s < 3 + (j : Int)) ∧ Below W.heap.size W wr) (fun x _ => N - (intOf x).toNat)
        case atStart => exact ⟨0, g, L, rfl, Nat.zero_le _, HQ0.out.up (by omega), by rw [HLI.out]; exact hiR2, fun x hx => by have := (HALL.out x hx).2; omega, hbr⟩
        case round =>
          clear HQ0 HLI HALL hbr dl hlt hiR hiR2
          obtain ⟨j, g, L, rfl, hjN, hQ, hLR, hall, hbr⟩ := hrel
          have HQ0 : Hid (QS W.heap.size qb g R (8192 * (300 + 4 * (j : Int))) L wr) := hQ
          have HLR : Hid ((L.length : Int) = R) := hLR
          have HALL : Hid (∀ x ∈ L, x.s < 3 + (j : Int)) := hall
          clear hQ hLR hall
          by_cases hlt : j < N
          · have dl : decide ((j : Int) < (N : Int)) = true := by simp; omega
            have i0 : (0 : Int) ≤ (j : Int) := by omega
            have i1 : (j : Int) < (N : Int) := by omega
            obtain ⟨b, o, hp, hbl, hcells⟩ : ∃ b o, p = some ⟨b, o, none⟩ ∧ b < W.heap.size ∧ ∀ i, i < N → W.cell? ⟨b, o + i * 3, none⟩ = some (.int .u64 (T i)) ∧ W.cell? ⟨b, o + i * 3 + 1, none⟩ = some (.int .i64 (S i)) ∧ W.cell? ⟨b, o + i * 3 + 2, none⟩ = some (.int .u64 (Q i)) := by
              rcases hk with h9 | h9
              · omega
              · exact h9
            subst hp
            have x0 := (cell_below (a := ⟨b, o + j * 3, none⟩) hbr hbl).trans (hcells j hlt).1
            have x1 := (cell_below (a := ⟨b, o + j * 3 + 1, none⟩) hbr hbl).trans (hcells j hlt).2.1
            have x2 := (cell_below (a := ⟨b, o + j * 3 + 2, none⟩) hbr hbl).trans (hcells j hlt).2.2
            clear hcells
            have ej : IntKind.i64.wrap ((j : Int) + 1) = (j : Int) + 1 := by rw [IntKind.wrap_i64]; omega
            have e3 : IntKind.i64.wrap (3 + (j : Int)) = 3 + (j : Int) := by rw [IntKind.wrap_i64]; omega
            obtain ⟨wA, hwA⟩ : ∃ wA, wr.alloc (.cells #[.int .u64 (T j), .int .i64 2, .int .u64 (Q j)] 38) = wA := ⟨_, rfl⟩
            have HWA : Hid (wr.alloc (.cells #[.int .u64 (T j), .int .i64 2, .int .u64 (Q j)] 38) = wA) := hwA
            have hbA : Below wr.heap.size wr wA := by rw [← hwA]; exact (Below.refl _ wr).alloc (Nat.le_refl _) _
            have hKA : KBx wA wr.heap.size (T j) 2 (Q j) := by unfold KBx; rw [← hwA]; exact World.alloc_heap_new wr _
            clear hwA
            have HQA : Hid (QS W.heap.size qb g R (8192 * (300 + 4 * (j : Int))) L wA) := HQ0.out.later hbA
            have hl0 := HQ0.out.lt
            have hnk : wr.heap.size ≠ qb ∧ wr.heap.size ≠ g := by omega
            have HR1 := room_any wA HQA.out
            rw [HLR.out, Int.sub_self] at HR1
            have hwb : (8192 : Int) * (300 + 4 * (j : Int)) + 40000 ≤ 4611686018427387904 := by omega
            have hLne : L ≠ [] := fun e9 => by have := HLR.out; rw [e9] at this; simp at this; omega
            go_upto_region 21 with (first | (go_at_call 11; first | (rw [HWA.out]; (with_reducible refine HR1.mono ?_); rintro e w2 ⟨rfl, hb2⟩; have hK2 : KBx w2 wr.heap.size (T j) 2 (Q j) := (hb2.block _ (lt_of_block hKA)).trans hKA; obtain ⟨k0, k1, k2⟩ := hK2.cells; have HQ2 : Hid (QS W.heap.size qb g R (8192 * (300 + 4 * (j : Int))) L w2) := HQA.out.later hb2) | (rw [HW5.out]; (with_reducible refine HR5.mono ?_); rintro e w6 ⟨rfl, hb6⟩)) | (go_at_call 18; refine (ins_any ⟨T j, 2, Q j, 0, 0, 0⟩ w2 HQ2.out (by omega)).mono ?_; rintro e w3 ⟨code, rfl, hI⟩; obtain ⟨g3, hcode, hQ3, hg3, hC3⟩ := insFull hI HLR.out; subst hcode; have hK3 : KBx w3 wr.heap.size (T j) 2 (Q j) := (hC3.block _ (lt_of_block hK2) (by rintro (e | e); exact hnk.1 e; exact hnk.2 e)).trans hK2; have HQ3 : Hid (QS W.heap.size qb g3 R (8192 * (300 + 4 * (j : Int)) + 8192) L w3) := hQ3; have hnk3 : wr.heap.size ≠ g3 := (by have := lt_of_block hK2; rcases hg3 with h9 | h9 <;> omega); clear hQ3 hI) | (go_at_call 19; refine (popS w3 HQ3.out (by omega) hLne).mono ?_; rintro e w4 ⟨y, L4, rfl, hL4, hQ4, hC4⟩; have HL4 : Hid (L = y :: L4) := hL4; have hK4 : KBx w4 wr.heap.size (T j) 2 (Q j) := (hC4.block _ (lt_of_block hK3) (by rintro (e | e); exact hnk.1 e; exact hnk3 e)).trans hK3; obtain ⟨w5, hw5⟩ : ∃ w5, w4.alloc (.cells #[.int .u64 y.t, .int .i64 y.s, .int .u64 y.q, .int .i64 y.d, .int .i64 y.k, .int .i64 y.v] 40) = w5 := ⟨_, rfl⟩; have HW5 : Hid (w4.alloc (.cells #[.int .u64 y.t, .int .i64 y.s, .int .u64 y.q, .int .i64 y.d, .int .i64 y.k, .int .i64 y.v] 40) = w5) := hw5; have hb5 : Below w4.heap.size w4 w5 := (by rw [← hw5]; exact (Below.refl _ w4).alloc (Nat.le_refl _) _); clear hw5; have HQ5 : Hid (QS W.heap.size qb g3 R (8192 * (300 + 4 * (j : Int)) + 8192 + 8192) L4 w5) := hQ4.later hb5; clear hQ4 hL4; have HR5 := room_any w5 HQ5.out; rw [show R - (L4.length : Int) = 1 from (by have h8 := HLR.out; rw [HL4.out, List.length_cons] at h8; omega)] at HR5; unfold evV))
            have HQ6 : Hid (QS W.heap.size qb g3 R (8192 * (300 + 4 * (j : Int)) + 8192 + 8192) L4 w6.drew) := (HQ5.out.later hb6).later (below_drewNq _ _ 1)
            have hK6 : KBx w6 wr.heap.size (T j) 2 (Q j) := (hb6.block _ (Nat.lt_of_lt_of_le (lt_of_block hK4) hb5.size)).trans ((hb5.block _ (lt_of_block hK4)).trans hK4)
            have hl5 := HQ5.out.lt
            have C6 : Ch (fun k => W.heap.size ≤ k) wr w6.drew := ((((((Ch.below hbA).trans (Ch.below hb2)).trans (hC3.mono (by rintro k (rfl | rfl); exact hl0.1.2; exact hl0.2.2))).trans (hC4.mono (by rintro k (rfl | rfl); exact hl0.1.2; exact hl5.2.2))).trans (Ch.below hb5)).trans (Ch.below hb6)).trans (Ch.drew _ _ 1)
            have C6' : Hid (Ch (fun k => W.heap.size ≤ k) wr w6.drew) := C6
            have hln : (L4.length : Int) = R - 1 := by
              have h8 := HLR.out
              rw [HL4.out, List.length_cons] at h8
              omega
            have HLN : Hid ((L4.length : Int) = R - 1) := hln
            clear hln
            have HAL : Hid (∀ x ∈ L4, x.s < 3 + (j : Int)) := fun x hx => HALL.out x (by rw [HL4.out]; exact List.mem_cons_of_mem _ hx)
            have HLM : L4.length ≤ 8192 := by have := HLN.out; omega
            clear x0 x1 x2 hbA hb2 hC3 hC4 hb5 hb6 hK2 hK3 hK4 hKA HQ0 HQA HQ2 HQ3 HQ5 HR1 HR5 HALL HLR HL4 hLne C6 k0 k1 k2
            obtain ⟨k0, k1, k2⟩ := hK6.cells
            go_region_held3 (fun w' => w'.cell? ⟨wr.heap.size, 0, none⟩ = some (.int .u64 (T j)) ∧ w'.cell? ⟨wr.heap.size, 1, none⟩ = some (.int .i64 2) ∧ w'.cell? ⟨wr.heap.size, 2, none⟩ = some (.int .u64 (Q j))) (first | exact ⟨k0, k1, k2⟩ | exact KP | go_keep) (first | (go_at_call 13; refine (listS w6.drew HQ6.out).mono ?_; rintro e w7 ⟨b7, X, rfl, hX, hsrt, hLX, hb7, hQ7, hC7⟩; have hK7 : KBx w7 wr.heap.size (T j) 2 (Q j) := (hC7.block _ (lt_of_block hK6) (by rintro (e | e); exact hnk.1 e; exact hnk3 e)).trans hK6; have KP := hK7.cells; have HQ7 : Hid (QS W.heap.size qb g3 R (8192 * (300 + 4 * (j : Int)) + 8192 + 8192) L4 w7) := hQ7; have HX : Hid (EvsL w7 b7 L4.length X) := hX; clear hQ7 hX) | (go_at_call 20; refine (seek_any b7 L4.length L4.length X (T j) 2 (Q j) w7 HX.out HLM hsrt).mono ?_; rintro e w8 ⟨i0', th, rfl, hth, hb8⟩; have hK8 : KBx w8 wr.heap.size (T j) 2 (Q j) := (hb8.block _ (lt_of_block hK7)).trans hK7; clear KP; have KP := hK8.cells))
            have HTW : Hid (th = true ↔ ∃ x ∈ L4, cmpE (T j) 2 (Q j) x = 0) := by
              refine hth.trans ⟨?_, ?_⟩
              · rintro ⟨jj, hj1, hj2⟩
                exact ⟨X jj, List.mem_of_getElem? (hLX jj hj1), hj2⟩
              · rintro ⟨x, hx, hc⟩
                obtain ⟨jj, hj1, hj2⟩ := List.getElem_of_mem hx
                have h9 := hLX jj hj1
                rw [List.getElem?_eq_getElem hj1, hj2] at h9
                exact ⟨jj, hj1, by rw [← Option.some.inj h9]; exact hc⟩
            have hlS : ∀ k, S2 qb g3 k → W.heap.size ≤ k := by
              rintro k (rfl | rfl)
              · exact hl0.1.2
              · exact hl5.2.2
            have HQ8 : Hid (QS W.heap.size qb g3 R (8192 * (300 + 4 * (j : Int)) + 8192 + 8192) L4 w8) := HQ7.out.later hb8
            have C8 : Hid (Ch (fun k => W.heap.size ≤ k) wr w8) := (C6'.out.trans (hC7.mono hlS)).trans (Ch.below hb8)
            clear hth hLX hsrt HX HQ7 HQ6 C6' hC7 hb8 hK6 hK7 KP k0 k1 k2 hb7
            obtain ⟨k0, k1, k2⟩ := hK8.cells
            have HLr : (L4.length : Int) ≠ R := by have := HLN.out; omega
            have HLr' : Hid ((L4.length : Int) ≠ R) := HLr
            clear HLr
            cases th with
            | false =>
              go_wp2_with (go_at_call 18; refine (ins_any ⟨T j, 2, Q j, 0, 0, 0⟩ w8 HQ8.out (by omega)).mono ?_; rintro e w9 ⟨code, rfl, hI⟩; obtain ⟨g9, hcode, L9, hQ9, hL9, hx9, hg9, hC9⟩ := insOk hI HLr'.out (fun h9 => absurd (HTW.out.2 h9) (by decide)); subst hcode; have HQ9 : Hid (QS W.heap.size qb g9 R (8192 * (300 + 4 * (j : Int)) + 8192 + 8192 + 8192) L9 w9) := hQ9; clear hQ9 hI)
              refine ⟨⟨j + 1, g9, L9, rfl, hlt, HQ9.out.up (by omega), by rw [hL9]; have := HLN.out; omega, fun x hx => ?_, ?_⟩, meas hlt⟩
              · rcases (hx9 x).1 hx with h9 | h9
                · subst h9; show (2 : Int) < _; omega
                · have := HAL.out x h9; omega
              · exact hbr.trans ((C8.out.trans (hC9.mono hlS)).toBelow hbr.size (fun k hk => hk))
            | true =>
              obtain ⟨z, hz⟩ : ∃ z, z = 3 + (j : Int) := ⟨_, rfl⟩
              have e3' : IntKind.i64.wrap (3 + (j : Int)) = z := e3.trans hz.symm
              have HZ : Hid (z = 3 + (j : Int)) := hz
              clear e3 hz
              go_wp2_with (first | (go_at_call 18; have HQ9b := HQ9.out; clear HQ9b; refine (ins_any ⟨T j, z, Q j, 0, 0, 0⟩ _ (HQ9.out.keep (Ch.set (fun k => k = wr.heap.size) w9 wr.heap.size 1 (.int .i64 z) rfl) (fun e9 => hnk.1 e9.symm) (fun e9 => hnk9 e9.symm)) (by omega)).mono ?_; rintro e w10 ⟨code, rfl, hI⟩; obtain ⟨g10, hcode, L9, hQ10, hL9, hx9, hg10, hC10⟩ := insOk hI HLr'.out (by rintro ⟨x, hx, hc⟩; have h8 := HAL.out x hx; have h6 := HZ.out; unfold cmpE at hc; rw [keyCmp_eq] at hc; have h7 := hc.2.1; simp only [] at h7; omega); subst hcode; have HQ10 : Hid (QS W.heap.size qb g10 R (8192 * (300 + 4 * (j : Int)) + 8192 + 8192 + 8192 + 8192) L9 w10) := hQ10; clear hQ10 hI) | (go_at_call 18; refine (ins_any ⟨T j, 2, Q j, 0, 0, 0⟩ w8 HQ8.out (by omega)).mono ?_; rintro e w9 ⟨code, rfl, hI⟩; obtain ⟨g9, hcode, hQ9, hg9, hC9⟩ := insTwin hI HLr'.out (HTW.out.1 rfl); subst hcode; have HQ9 : Hid (QS W.heap.size qb g9 R (8192 * (300 + 4 * (j : Int)) + 8192 + 8192 + 8192) L4 w9) := hQ9; have hK9 : KBx w9 wr.heap.size (T j) 2 (Q j) := (hC9.block _ (lt_of_block hK8) (by rintro (e | e); exact hnk.1 e; exact hnk3 e)).trans hK8; have hnk9 : wr.heap.size ≠ g9 := (by have := lt_of_block hK8; rcases hg9 with h9 | h9 <;> omega); clear hQ9 hI k0 k1 k2; obtain ⟨k0, k1, k2⟩ := hK9.cells; have hKf := hK9.frz 1))
              have hl9 := HQ9.out.lt
              refine ⟨⟨j + 1, g10, L9, rfl, hlt, HQ10.out.up (by omega), by rw [hL9]; have := HLN.out; omega, fun x hx => ?_, ?_⟩, meas hlt⟩
              · rcases (hx9 x).1 hx with h9 | h9
                · subst h9; show z < _; have := HZ.out; omega
                · have := HAL.out x h9; omega
              · exact hbr.trans ((((C8.out.trans (hC9.mono hlS)).trans (Ch.set _ _ _ _ _ hbr.size)).trans (hC10.mono (by rintro k (rfl | rfl); exact hl9.1.2; exact hl9.2.2))).toBelow hbr.size (fun k hk => hk))
          · have dl : decide ((j : Int) < (N : Int)) = false := by simp; omega
            have HS := size_any wr HQ0.out
            rw [HLR.out] at HS
            go_wp2_with (go_at_call 10; (with_reducible refine HS.mono ?_); rintro e w9 ⟨rfl, h9⟩; subst h9)
            go_ret
            exact ⟨rfl, hbr⟩
end Go.Proofs.Ytkncalocpnkegaa
