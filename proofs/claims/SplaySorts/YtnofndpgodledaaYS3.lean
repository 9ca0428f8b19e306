import Derived.Test.YtnofndpgodledaaYS2
namespace Go.Proofs.Ytnofndpgodledaa
open Go.ChangeShapes Go.WideShapes Go.ChangeAt Go.RowKit
set_option linter.unusedVariables false
set_option linter.unusedSimpArgs false

theorem neq_sm (x : Ev) (W : World) : (binOp .neq 33 (.agg #[.int .u64 x.t, .int .i64 x.s, .int .u64 x.q, .int .i64 x.d, .int .i64 x.k, .int .i64 x.v]) (.agg #[.int .u64 x.t, .int .i64 x.s, .int .u64 x.q, .int .i64 x.d, .int .i64 x.k, .int .i64 x.v])).run Try.prog W = .ok (.bool false) W := neq_evV _ _ _ _ _ _ W
theorem xat_at {W : World} {p : Option Addr} {m : Nat} {Y : Nat → Ev} (h : XAt W p m (fun j => evC (Y (j / 6)) (j % 6))) {j : Nat} (hj : j < m) : ∃ b o, p = some ⟨b, o, none⟩ ∧ W.cell? ⟨b, o + j * 6, none⟩ = some (.int .u64 (Y j).t) ∧ W.cell? ⟨b, o + j * 6 + 1, none⟩ = some (.int .i64 (Y j).s) ∧ W.cell? ⟨b, o + j * 6 + 2, none⟩ = some (.int .u64 (Y j).q) ∧ W.cell? ⟨b, o + j * 6 + 3, none⟩ = some (.int .i64 (Y j).d) ∧ W.cell? ⟨b, o + j * 6 + 4, none⟩ = some (.int .i64 (Y j).k) ∧ W.cell? ⟨b, o + j * 6 + 5, none⟩ = some (.int .i64 (Y j).v) := by
  rcases h with h | ⟨b, o, h1, h2, h3⟩
  · omega
  · have key : ∀ r, r < 6 → W.cell? ⟨b, o + j * 6 + r, none⟩ = some (evC (Y j) r) := fun r hr => by
      have := h3 (j * 6 + r) (by omega)
      simp only [show (j * 6 + r) / 6 = j by omega, show (j * 6 + r) % 6 = r by omega] at this
      rw [Nat.add_assoc]
      exact this
    exact ⟨b, o, h1, key 0 (by decide), key 1 (by decide), key 2 (by decide), key 3 (by decide), key 4 (by decide), key 5 (by decide)⟩
theorem drop_at {L : List Ev} {m j : Nat} {Y : Nat → Ev} {x : Ev} {L' : List Ev} (hL : L.length = m) (hY : ∀ i, i < m → L[i]? = some (Y i)) (hj : j < m) (h : L.drop j = x :: L') : x = Y j ∧ L' = L.drop (j + 1) := by
  rw [List.drop_eq_getElem_cons (by omega)] at h
  injection h with h1 h2
  have := hY j hj
  rw [List.getElem?_eq_getElem (by omega)] at this
  exact ⟨h1.symm.trans (Option.some.inj this), h2.symm⟩
theorem s2_no {qb g : Nat} {v : Value} (h : ∀ k, v.ownBlock = some k → k ≠ qb ∧ k ≠ g) : ∀ k, v.ownBlock = some k → ¬ S2 qb g k := fun k hk => by
  rintro (e | e)
  · exact (h k hk).1 e
  · exact (h k hk).2 e
set_option maxRecDepth 100000 in
set_option maxHeartbeats 8000000 in
theorem sorts_law (p : Option Addr) (N c : Nat) (X : Nat → Ev) (W : World) (hk : EvIn W p N X) (hc : N ≤ c) (hN : N ≤ 1000000000000000000) :
    Calls Try.prog 3 #[.slice p N c] W fun e W' => e = .returned (.bool true) ∧ Below W.heap.size W W' := by
  by_cases hbig : 8192 < N
  · have d0 : decide ((8192 : Int) < (N : Int)) = true := by simp; omega
    have s1 : (8192 : Int) ≤ (c : Int) := by omega
    have HNB := q_newBad 8193 (.inr (by decide)) W
    have HN := q_new 8192 (by decide) (by decide) W
    have HK : Hid (EvIn W p N X) := hk
    clear hk
    go_enter Try.func3, Try.ntmps3
    go_upto_region 8 with (first | (go_at_call 6; (with_reducible refine HNB.mono ?_); rintro e w0 ⟨rfl, h9⟩; subst w0) | (go_at_call 6; (with_reducible refine HN.mono ?_); rintro e w1 ⟨qb, nb, rfl, hq, hO, hne, hqs, hb1⟩; have HQ : Hid (QS W.heap.size qb nb 8192 0 [] w1) := new_QS hq hO hne hqs ⟨by omega, by omega⟩; clear hq hO))
    have HO := order_any p 8192 c (fun i => toSe (X i)) (by omega) w1 ((evIn_sIn HK.out (by omega)).below hb1)
    go_wp2_with (first | (go_at_call 8; (with_reducible refine HO.mono ?_); rintro e w2 ⟨gd, d, rfl, hrow, hst, hsr, hb2⟩; have HD := distinct_any (n := 8192) (by omega) w2 hrow; have HST : Hid (Stb klt 0 8192 (fun i => toSe (X i)) d ∧ Srt klt 0 8192 d ∧ Below w1.heap.size w1 w2) := ⟨hst, hsr, hb2⟩; clear hst hsr hb2 hrow) | (go_at_call 7; (with_reducible refine HD.mono ?_); rintro e w3 ⟨vv, rfl, hown, hb3⟩; obtain ⟨p2, c2, hvv⟩ := srow_form hown; subst hvv; obtain ⟨m, hm⟩ : ∃ m, (dl d 8192).length = m := ⟨_, rfl⟩; rw [hm] at hown ⊢))
    have HOW : Hid (w3.ownsRow w2.heap.size 33 6 (.slice p2 m c2) m (celL (dl d 8192)) ∧ (∀ k, (Value.slice p2 m c2).ownBlock = some k → k ≠ qb ∧ k ≠ nb) ∧ Below W.heap.size W w3 ∧ (dl d 8192).length = m ∧ m ≤ 8192) := by
      have h1 := HST.out.2.2
      have h2 := HQ.out.lt
      have h3 := h1.size
      have hlen9 := dl_len d 8192
      refine ⟨hown, fun k hk => ?_, (hb1.trans (h1.mono hb1.size)).trans (hb3.mono (Nat.le_trans hb1.size h1.size)), hm, by omega⟩
      have h4 := srow_lt hown k hk
      omega
    have HQ3 : Hid (QS W.heap.size qb nb 8192 0 [] w3) := HQ.out.later (HST.out.2.2.trans (hb3.mono HST.out.2.2.size))
    clear hown hb3 hb1 HQ HD HO hm
    go_loopw [6] (fun x wr => ∃ (i g : Nat) (L : List Ev), x = .int .i64 (i : Int) ∧ i ≤ 8192 ∧ QS W.heap.size qb g 8192 (8192 * (i : Int)) L wr ∧ FF X i L ∧ wr.ownsRow w2.heap.size 33 6 (.slice p2 m c2) m (celL (dl d 8192)) ∧ (∀ k, (Value.slice p2 m c2).ownBlock = some k → k ≠ qb ∧ k ≠ g) ∧ Below W.heap.size W wr) (fun x _ => 8192 - (intOf x).toNat)
    case atStart => exact ⟨0, nb, [], rfl, Nat.zero_le _, HQ3.out, FF.zero X, HOW.out.1, HOW.out.2.1, HOW.out.2.2.1⟩
    case round =>
      obtain ⟨i, g, L, rfl, hiM, hQ, hF, ho, hkk, hbr⟩ := hrel
      have HQ0 : Hid (QS W.heap.size qb g 8192 (8192 * (i : Int)) L wr ∧ FF X i L ∧ wr.ownsRow w2.heap.size 33 6 (.slice p2 m c2) m (celL (dl d 8192)) ∧ (∀ k, (Value.slice p2 m c2).ownBlock = some k → k ≠ qb ∧ k ≠ g) ∧ Below W.heap.size W wr) := ⟨hQ, hF, ho, hkk, hbr⟩
      clear HQ3 hQ hF ho hkk hbr
      by_cases hlt : i < 8192
      · have dlt : decide ((i : Int) < (8192 : Int)) = true := by simp; omega
        have i0 : (0 : Int) ≤ (i : Int) := by omega
        have i1 : (i : Int) < (8192 : Int) := by omega
        obtain ⟨b, o, hp, hbl, hcs⟩ : ∃ b o, p = some ⟨b, o, none⟩ ∧ b < W.heap.size ∧ ∀ i r, i < N → r < 6 → W.cell? ⟨b, o + i * 6 + r, none⟩ = some (evC (X i) r) := by
          rcases HK.out with h9 | h9
          · omega
          · exact h9
        subst hp
        have hbr := HQ0.out.2.2.2.2
        have hiN : i < N := by omega
        have x0 : wr.cell? ⟨b, o + i * 6, none⟩ = some (.int .u64 (X i).t) := (cell_below (a := ⟨b, o + i * 6, none⟩) hbr hbl).trans (hcs i 0 hiN (by decide))
        have x1 : wr.cell? ⟨b, o + i * 6 + 1, none⟩ = some (.int .i64 (X i).s) := (cell_below (a := ⟨b, o + i * 6 + 1, none⟩) hbr hbl).trans (hcs i 1 hiN (by decide))
        have x2 : wr.cell? ⟨b, o + i * 6 + 2, none⟩ = some (.int .u64 (X i).q) := (cell_below (a := ⟨b, o + i * 6 + 2, none⟩) hbr hbl).trans (hcs i 2 hiN (by decide))
        have x3 : wr.cell? ⟨b, o + i * 6 + 3, none⟩ = some (.int .i64 (X i).d) := (cell_below (a := ⟨b, o + i * 6 + 3, none⟩) hbr hbl).trans (hcs i 3 hiN (by decide))
        have x4 : wr.cell? ⟨b, o + i * 6 + 4, none⟩ = some (.int .i64 (X i).k) := (cell_below (a := ⟨b, o + i * 6 + 4, none⟩) hbr hbl).trans (hcs i 4 hiN (by decide))
        have x5 : wr.cell? ⟨b, o + i * 6 + 5, none⟩ = some (.int .i64 (X i).v) := (cell_below (a := ⟨b, o + i * 6 + 5, none⟩) hbr hbl).trans (hcs i 5 hiN (by decide))
        have ei : IntKind.i64.wrap ((i : Int) + 1) = (i : Int) + 1 := by rw [IntKind.wrap_i64]; omega
        have HI := ins_any (X i) wr HQ0.out.1 (by omega)
        have hmM : 8192 - (intOf (.int .i64 ((i : Int) + 1))).toNat < 8192 - (intOf (.int .i64 (i : Int))).toNat := smeas hlt
        have hne9 : (L.length : Int) ≠ 8192 := by have h8 := HQ0.out.2.1.1; omega
        unfold evV at HI
        clear hbr hcs
        go_upto_region 13 with (go_at_call 9; (with_reducible refine HI.mono ?_); rintro e w5 ⟨code, rfl, hI⟩; obtain ⟨g5, L5, hQ5, hg5, hC5, hcc, hF5⟩ := insThree hI hne9 HQ0.out.2.1; clear hI)
        have H5 : Hid (QS W.heap.size qb g5 8192 (8192 * ((i + 1 : Nat) : Int)) L5 w5 ∧ FF X (i + 1) L5 ∧ w5.ownsRow w2.heap.size 33 6 (.slice p2 m c2) m (celL (dl d 8192)) ∧ (∀ k, (Value.slice p2 m c2).ownBlock = some k → k ≠ qb ∧ k ≠ g5) ∧ Below W.heap.size W w5) := by
          obtain ⟨h1, h2, h3, h4, h5⟩ := HQ0.out
          have hl2 := h1.lt
          refine ⟨hQ5.up (by omega), hF5, srow_far h3 hC5 (s2_no h4), fun k hk => ⟨(h4 k hk).1, ?_⟩, h5.trans (hC5.toBelow h5.size (by rintro k (rfl | rfl); exact hl2.1.2; exact hl2.2.2))⟩
          have h6 := srow_lt h3 k hk
          have h7 := (h4 k hk).2
          omega
        clear hQ5 hg5 hC5 hF5 x0 x1 x2 x3 x4 x5 HI HQ0
        rcases hcc with h8 | h8
        · subst h8
          go_wp2_with fail
          exact ⟨⟨i + 1, g5, L5, rfl, hlt, H5.out⟩, hmM⟩
        · subst h8
          go_wp2_with fail
          exact ⟨⟨i + 1, g5, L5, rfl, hlt, H5.out⟩, hmM⟩
      · have dlt : decide ((i : Int) < (8192 : Int)) = false := by simp; omega
        have him : i = 8192 := by omega
        have hLd : L.map toSe = dl d 8192 := ff_dl (by have h9 := HQ0.out.2.1; rw [him] at h9; exact h9) HQ0.out.1.srt HST.out.1 HST.out.2.1
        have hlen : L.length = m := by rw [← HOW.out.2.2.2.1, ← hLd, List.length_map]
        have hmM := HOW.out.2.2.2.2
        have HS := size_any wr HQ0.out.1
        have HL := listS wr HQ0.out.1
        rw [hlen] at HS HL
        have HLD : Hid (L.map toSe = dl d 8192 ∧ L.length = m ∧ i = 8192) := ⟨hLd, hlen, him⟩
        clear hLd hlen him
        go_wp2_with (first | (go_at_call 10; (with_reducible refine HS.mono ?_); rintro e w4 ⟨rfl, h9⟩; subst w4) | (go_at_call 12; (with_reducible refine HL.mono ?_); rintro e w5 ⟨b5, Y, rfl, hE5, hs5, hY, hb5, hQ5, hC5⟩; have ho5 := srow_far HQ0.out.2.2.1 hC5 (s2_no HQ0.out.2.2.2.1); have hx5 : XAt w5 p2 m (fun j => evC (Y (j / 6)) (j % 6)) := srow_xat (by rw [HLD.out.1]; exact ho5) HLD.out.2.1 hY; have HSE := sameEvents_yes m _ (some ⟨b5, 0, none⟩) p2 m c2 (by omega) w5 (by have h := hE5.xat 0 m (by omega); simpa using h) hx5 (evSh_evC m Y); have H5 : Hid (QS W.heap.size qb g 8192 (8192 * (i : Int)) L w5 ∧ w5.ownsRow w2.heap.size 33 6 (.slice p2 m c2) m (celL (dl d 8192)) ∧ XAt w5 p2 m (fun j => evC (Y (j / 6)) (j % 6)) ∧ (∀ i, i < m → L[i]? = some (Y i)) ∧ Ch (S2 qb g) wr w5) := ⟨hQ5, ho5, hx5, hY, hC5⟩; clear hQ5 ho5 hx5 hY hC5 hE5 hs5) | (go_at_call 11; (with_reducible refine HSE.mono ?_); rintro e w6 ⟨rfl, hb6⟩))
        have H6 : Hid (QS W.heap.size qb g 8192 67108864 L w6 ∧ w6.ownsRow w2.heap.size 33 6 (.slice p2 m c2) m (celL (dl d 8192)) ∧ XAt w6 p2 m (fun j => evC (Y (j / 6)) (j % 6)) ∧ (∀ i, i < m → L[i]? = some (Y i)) ∧ Below W.heap.size W w6 ∧ (∀ k, (Value.slice p2 m c2).ownBlock = some k → k ≠ qb ∧ k ≠ g)) := by
          obtain ⟨h1, h2, h3, h4, h5⟩ := H5.out
          have hl2 := h1.lt
          refine ⟨(h1.later hb6).up (by omega), srow_later h2 hb6, h3.below hb6, h4, ?_, HQ0.out.2.2.2.1⟩
          have hb := HQ0.out.2.2.2.2
          have h8 : Below W.heap.size W w5 := hb.trans (h5.toBelow hb.size (by rintro k (rfl | rfl); exact hl2.1.2; exact hl2.2.2))
          exact h8.trans (hb6.mono h8.size)
        clear H5 HQ0 hb6 HSE HS HL hb5
        go_loopw [8] (fun x w9 => ∃ j : Nat, x = .int .i64 (j : Int) ∧ j ≤ m ∧ QS W.heap.size qb g 8192 (67108864 + 16384 * (j : Int)) (L.drop j) w9 ∧ w9.ownsRow w2.heap.size 33 6 (.slice p2 m c2) m (celL (dl d 8192)) ∧ Below W.heap.size W w9) (fun x _ => m - (intOf x).toNat)
        case atStart => exact ⟨0, rfl, Nat.zero_le _, by simpa using H6.out.1, H6.out.2.1, H6.out.2.2.2.2.1⟩
        case round =>
          obtain ⟨j, rfl, hj, hQ, ho, hbr⟩ := hrel
          by_cases hlt2 : j < m
          · have dl2 : decide ((j : Int) < (m : Int)) = true := by simp; omega
            have hm2 := smeas hlt2
            have j0 : (0 : Int) ≤ (j : Int) := by omega
            have j1 : (j : Int) < (m : Int) := by omega
            have ej : IntKind.i64.wrap ((j : Int) + 1) = (j : Int) + 1 := by rw [IntKind.wrap_i64]; omega
            have HP := popS wr hQ (by omega) (by intro h9; rw [List.drop_eq_nil_iff] at h9; have := HLD.out.2.1; omega)
            have hql := hQ.lt
            have HW9 : Hid (wr.ownsRow w2.heap.size 33 6 (.slice p2 m c2) m (celL (dl d 8192)) ∧ Below W.heap.size W wr ∧ W.heap.size ≤ qb ∧ W.heap.size ≤ g) := ⟨ho, hbr, hql.1.2, hql.2.2⟩
            have NE := neq_sm (Y j)
            unfold evV at HP
            clear ho hbr hQ hql
            go_upto_region 21 with (go_at_call 13; (with_reducible refine HP.mono ?_); rintro e w7 ⟨x, L7, rfl, hL7, hQ7, hC7⟩; obtain ⟨hx7, hL77⟩ := drop_at HLD.out.2.1 H6.out.2.2.2.1 hlt2 hL7; subst hx7; subst hL77; have H7 : Hid (QS W.heap.size qb g 8192 (67108864 + 16384 * (j : Int) + 8192) (L.drop (j + 1)) w7 ∧ w7.ownsRow w2.heap.size 33 6 (.slice p2 m c2) m (celL (dl d 8192)) ∧ Below W.heap.size W w7) := ⟨hQ7, srow_far HW9.out.1 hC7 (s2_no H6.out.2.2.2.2.2), HW9.out.2.1.trans (hC7.toBelow HW9.out.2.1.size (by rintro k (rfl | rfl); exact HW9.out.2.2.1; exact HW9.out.2.2.2))⟩; clear hL7 hQ7 hC7)
            generalize hw8 : w7.alloc _ = w8
            have he8 : w8.heap[w7.heap.size]? = some (.cells #[.int .u64 (Y j).t, .int .i64 (Y j).s, .int .u64 (Y j).q, .int .i64 (Y j).d, .int .i64 (Y j).k, .int .i64 (Y j).v] 33 (0, 0)) := by rw [← hw8]; exact World.alloc_heap_new w7 _
            have hb8 : Below w7.heap.size w7 w8 := by rw [← hw8]; exact (Below.refl _ w7).alloc (Nat.le_refl _) _
            obtain ⟨y0, y1, y2, y3, y4, y5⟩ := q6c he8
            obtain ⟨bb, oo, hp2, z0, z1, z2, z3, z4, z5⟩ := xat_at (srow_xat (by rw [HLD.out.1]; exact srow_later H7.out.2.1 hb8) HLD.out.2.1 H6.out.2.2.2.1) hlt2
            have H8 : Hid (QS W.heap.size qb g 8192 (67108864 + 16384 * ((j + 1 : Nat) : Int)) (L.drop (j + 1)) w8 ∧ w8.ownsRow w2.heap.size 33 6 (.slice p2 m c2) m (celL (dl d 8192)) ∧ Below W.heap.size W w8) := ⟨(H7.out.1.later hb8).up (by omega), srow_later H7.out.2.1 hb8, H7.out.2.2.trans (hb8.mono H7.out.2.2.size)⟩
            clear hw8 he8 hb8 H7
            subst hp2
            go_quiet (fail)
            go_wp2_with fail
            exact ⟨⟨j + 1, rfl, hlt2, H8.out.1.later (below_drewNq _ _ _), srow_later H8.out.2.1 (below_drewNq _ _ _), H8.out.2.2.trans (below_drewNq _ _ _)⟩, hm2⟩
          · have dl2 : decide ((j : Int) < (m : Int)) = false := by simp; omega
            have hQe : QS W.heap.size qb g 8192 (67108864 + 16384 * (j : Int)) [] wr := by
              have h9 := hQ
              rw [List.drop_eq_nil_of_le (by have := HLD.out.2.1; omega)] at h9
              exact h9
            have hql := hQ.lt
            have HP := popS2 wr hQe (by omega)
            have HW9 : Hid (Below W.heap.size W wr ∧ W.heap.size ≤ qb ∧ W.heap.size ≤ g) := ⟨hbr, hql.1.2, hql.2.2⟩
            clear ho hbr hQ hql hQe
            unfold evV at HP
            go_upto_region 24 with (go_at_call 13; (with_reducible refine HP.mono ?_); rintro e w7 ⟨x, code, L7, rfl, hcs, hQ7, hC7⟩; have hcs2 : code = 82 ∧ L7 = [] := (by rcases hcs with ⟨_, h6, _, h7⟩ | ⟨_, h6⟩; exact ⟨h7, h6⟩; cases h6); clear hcs; obtain ⟨h6, h7⟩ := hcs2; subst h6; subst h7; have H7 : Hid (QS W.heap.size qb g 8192 (67108864 + 16384 * (j : Int) + 16384) [] w7 ∧ Below W.heap.size W w7) := ⟨hQ7, HW9.out.1.trans (hC7.toBelow HW9.out.1.size (by rintro k (rfl | rfl); exact HW9.out.2.1; exact HW9.out.2.2))⟩; clear hQ7 hC7)
            generalize hw8 : w7.alloc _ = w8
            have hb8 : Below w7.heap.size w7 w8 := by rw [← hw8]; exact (Below.refl _ w7).alloc (Nat.le_refl _) _
            have HS := size_any w8 (H7.out.1.later hb8)
            have H8 : Hid (Below W.heap.size W w8) := H7.out.2.trans (hb8.mono H7.out.2.size)
            clear hw8 hb8 H7
            go_wp2_with (go_at_call 10; (with_reducible refine HS.mono ?_); rintro e w9 ⟨rfl, h9⟩; subst w9)
            refine bodyPost_ret (v := .bool true) (by simp [results, Try.results3, go_sem]) rfl ?_
            exact ⟨rfl, H8.out⟩
  · have d0 : decide ((8192 : Int) < (N : Int)) = false := by simp; omega
    have eN : IntKind.i64.wrap ((N : Int) + 1) = (N : Int) + 1 := by rw [IntKind.wrap_i64]; omega
    have HK : Hid (EvIn W p N X) := hk
    clear hk hN
    by_cases hq8 : N = 8192
    · have d1 : ((N : Int) == 8192) = true := by simp; omega
      have HNB := q_newBad ((N : Int) + 1) (.inr (by omega)) W
      have HN := q_new (N : Int) (by omega) (by omega) W
      have hN1 : 1 ≤ N ∧ N ≤ 8192 := by omega
      clear hq8
      go_enter Try.func3, Try.ntmps3
      go_upto_region 8 with (first | (go_at_call 6; (with_reducible refine HNB.mono ?_); rintro e w0 ⟨rfl, h9⟩; subst w0) | (go_at_call 6; (with_reducible refine HN.mono ?_); rintro e w1 ⟨qb, nb, rfl, hq, hO, hne, hqs, hb1⟩; have HQ : Hid (QS W.heap.size qb nb (N : Int) 0 [] w1) := new_QS hq hO hne hqs ⟨by omega, by omega⟩; clear hq hO))
      have HO := order_any p N c (fun i => toSe (X i)) (by omega) w1 ((evIn_sIn HK.out (by omega)).below hb1)
      go_wp2_with (first | (go_at_call 8; (with_reducible refine HO.mono ?_); rintro e w2 ⟨gd, d, rfl, hrow, hst, hsr, hb2⟩; have HD := distinct_any (n := N) (by omega) w2 hrow; have HST : Hid (Stb klt 0 N (fun i => toSe (X i)) d ∧ Srt klt 0 N d ∧ Below w1.heap.size w1 w2) := ⟨hst, hsr, hb2⟩; clear hst hsr hb2 hrow) | (go_at_call 7; (with_reducible refine HD.mono ?_); rintro e w3 ⟨vv, rfl, hown, hb3⟩; obtain ⟨p2, c2, hvv⟩ := srow_form hown; subst hvv; obtain ⟨m, hm⟩ : ∃ m, (dl d N).length = m := ⟨_, rfl⟩; rw [hm] at hown ⊢))
      have HOW : Hid (w3.ownsRow w2.heap.size 33 6 (.slice p2 m c2) m (celL (dl d N)) ∧ (∀ k, (Value.slice p2 m c2).ownBlock = some k → k ≠ qb ∧ k ≠ nb) ∧ Below W.heap.size W w3 ∧ (dl d N).length = m ∧ m ≤ N) := by
        have h1 := HST.out.2.2
        have h2 := HQ.out.lt
        have h3 := h1.size
        have hlen9 := dl_len d N
        refine ⟨hown, fun k hk => ?_, (hb1.trans (h1.mono hb1.size)).trans (hb3.mono (Nat.le_trans hb1.size h1.size)), hm, by omega⟩
        have h4 := srow_lt hown k hk
        omega
      have HQ3 : Hid (QS W.heap.size qb nb (N : Int) 0 [] w3) := HQ.out.later (HST.out.2.2.trans (hb3.mono HST.out.2.2.size))
      clear hown hb3 hb1 HQ HD HO hm
      go_loopw [6] (fun x wr => ∃ (i g : Nat) (L : List Ev), x = .int .i64 (i : Int) ∧ i ≤ N ∧ QS W.heap.size qb g (N : Int) (8192 * (i : Int)) L wr ∧ FF X i L ∧ wr.ownsRow w2.heap.size 33 6 (.slice p2 m c2) m (celL (dl d N)) ∧ (∀ k, (Value.slice p2 m c2).ownBlock = some k → k ≠ qb ∧ k ≠ g) ∧ Below W.heap.size W wr) (fun x _ => N - (intOf x).toNat)
      case atStart => exact ⟨0, nb, [], rfl, Nat.zero_le _, HQ3.out, FF.zero X, HOW.out.1, HOW.out.2.1, HOW.out.2.2.1⟩
      case round =>
        obtain ⟨i, g, L, rfl, hiM, hQ, hF, ho, hkk, hbr⟩ := hrel
        have HQ0 : Hid (QS W.heap.size qb g (N : Int) (8192 * (i : Int)) L wr ∧ FF X i L ∧ wr.ownsRow w2.heap.size 33 6 (.slice p2 m c2) m (celL (dl d N)) ∧ (∀ k, (Value.slice p2 m c2).ownBlock = some k → k ≠ qb ∧ k ≠ g) ∧ Below W.heap.size W wr) := ⟨hQ, hF, ho, hkk, hbr⟩
        clear HQ3 hQ hF ho hkk hbr
        by_cases hlt : i < N
        · have dlt : decide ((i : Int) < (N : Int)) = true := by simp; omega
          have i0 : (0 : Int) ≤ (i : Int) := by omega
          have i1 : (i : Int) < (N : Int) := by omega
          obtain ⟨b, o, hp, hbl, hcs⟩ : ∃ b o, p = some ⟨b, o, none⟩ ∧ b < W.heap.size ∧ ∀ i r, i < N → r < 6 → W.cell? ⟨b, o + i * 6 + r, none⟩ = some (evC (X i) r) := by
            rcases HK.out with h9 | h9
            · omega
            · exact h9
          subst hp
          have hbr := HQ0.out.2.2.2.2
          have hiN : i < N := by omega
          have x0 : wr.cell? ⟨b, o + i * 6, none⟩ = some (.int .u64 (X i).t) := (cell_below (a := ⟨b, o + i * 6, none⟩) hbr hbl).trans (hcs i 0 hiN (by decide))
          have x1 : wr.cell? ⟨b, o + i * 6 + 1, none⟩ = some (.int .i64 (X i).s) := (cell_below (a := ⟨b, o + i * 6 + 1, none⟩) hbr hbl).trans (hcs i 1 hiN (by decide))
          have x2 : wr.cell? ⟨b, o + i * 6 + 2, none⟩ = some (.int .u64 (X i).q) := (cell_below (a := ⟨b, o + i * 6 + 2, none⟩) hbr hbl).trans (hcs i 2 hiN (by decide))
          have x3 : wr.cell? ⟨b, o + i * 6 + 3, none⟩ = some (.int .i64 (X i).d) := (cell_below (a := ⟨b, o + i * 6 + 3, none⟩) hbr hbl).trans (hcs i 3 hiN (by decide))
          have x4 : wr.cell? ⟨b, o + i * 6 + 4, none⟩ = some (.int .i64 (X i).k) := (cell_below (a := ⟨b, o + i * 6 + 4, none⟩) hbr hbl).trans (hcs i 4 hiN (by decide))
          have x5 : wr.cell? ⟨b, o + i * 6 + 5, none⟩ = some (.int .i64 (X i).v) := (cell_below (a := ⟨b, o + i * 6 + 5, none⟩) hbr hbl).trans (hcs i 5 hiN (by decide))
          have ei : IntKind.i64.wrap ((i : Int) + 1) = (i : Int) + 1 := by rw [IntKind.wrap_i64]; omega
          have HI := ins_any (X i) wr HQ0.out.1 (by omega)
          have hmM : N - (intOf (.int .i64 ((i : Int) + 1))).toNat < N - (intOf (.int .i64 (i : Int))).toNat := smeas hlt
          have hne9 : (L.length : Int) ≠ (N : Int) := by have h8 := HQ0.out.2.1.1; omega
          unfold evV at HI
          clear hbr hcs
          go_upto_region 13 with (go_at_call 9; (with_reducible refine HI.mono ?_); rintro e w5 ⟨code, rfl, hI⟩; obtain ⟨g5, L5, hQ5, hg5, hC5, hcc, hF5⟩ := insThree hI hne9 HQ0.out.2.1; clear hI)
          have H5 : Hid (QS W.heap.size qb g5 (N : Int) (8192 * ((i + 1 : Nat) : Int)) L5 w5 ∧ FF X (i + 1) L5 ∧ w5.ownsRow w2.heap.size 33 6 (.slice p2 m c2) m (celL (dl d N)) ∧ (∀ k, (Value.slice p2 m c2).ownBlock = some k → k ≠ qb ∧ k ≠ g5) ∧ Below W.heap.size W w5) := by
            obtain ⟨h1, h2, h3, h4, h5⟩ := HQ0.out
            have hl2 := h1.lt
            refine ⟨hQ5.up (by omega), hF5, srow_far h3 hC5 (s2_no h4), fun k hk => ⟨(h4 k hk).1, ?_⟩, h5.trans (hC5.toBelow h5.size (by rintro k (rfl | rfl); exact hl2.1.2; exact hl2.2.2))⟩
            have h6 := srow_lt h3 k hk
            have h7 := (h4 k hk).2
            omega
          clear hQ5 hg5 hC5 hF5 x0 x1 x2 x3 x4 x5 HI HQ0
          rcases hcc with h8 | h8
          · subst h8
            go_wp2_with fail
            exact ⟨⟨i + 1, g5, L5, rfl, hlt, H5.out⟩, hmM⟩
          · subst h8
            go_wp2_with fail
            exact ⟨⟨i + 1, g5, L5, rfl, hlt, H5.out⟩, hmM⟩
        · have dlt : decide ((i : Int) < (N : Int)) = false := by simp; omega
          have him : i = N := by omega
          have hLd : L.map toSe = dl d N := ff_dl (by have h9 := HQ0.out.2.1; rw [him] at h9; exact h9) HQ0.out.1.srt HST.out.1 HST.out.2.1
          have hlen : L.length = m := by rw [← HOW.out.2.2.2.1, ← hLd, List.length_map]
          have hmM := HOW.out.2.2.2.2
          have HS := size_any wr HQ0.out.1
          have HL := listS wr HQ0.out.1
          rw [hlen] at HS HL
          have HLD : Hid (L.map toSe = dl d N ∧ L.length = m ∧ i = N) := ⟨hLd, hlen, him⟩
          clear hLd hlen him
          go_wp2_with (first | (go_at_call 10; (with_reducible refine HS.mono ?_); rintro e w4 ⟨rfl, h9⟩; subst w4) | (go_at_call 12; (with_reducible refine HL.mono ?_); rintro e w5 ⟨b5, Y, rfl, hE5, hs5, hY, hb5, hQ5, hC5⟩; have ho5 := srow_far HQ0.out.2.2.1 hC5 (s2_no HQ0.out.2.2.2.1); have hx5 : XAt w5 p2 m (fun j => evC (Y (j / 6)) (j % 6)) := srow_xat (by rw [HLD.out.1]; exact ho5) HLD.out.2.1 hY; have HSE := sameEvents_yes m _ (some ⟨b5, 0, none⟩) p2 m c2 (by omega) w5 (by have h := hE5.xat 0 m (by omega); simpa using h) hx5 (evSh_evC m Y); have H5 : Hid (QS W.heap.size qb g (N : Int) (8192 * (i : Int)) L w5 ∧ w5.ownsRow w2.heap.size 33 6 (.slice p2 m c2) m (celL (dl d N)) ∧ XAt w5 p2 m (fun j => evC (Y (j / 6)) (j % 6)) ∧ (∀ i, i < m → L[i]? = some (Y i)) ∧ Ch (S2 qb g) wr w5) := ⟨hQ5, ho5, hx5, hY, hC5⟩; clear hQ5 ho5 hx5 hY hC5 hE5 hs5) | (go_at_call 11; (with_reducible refine HSE.mono ?_); rintro e w6 ⟨rfl, hb6⟩))
          have H6 : Hid (QS W.heap.size qb g (N : Int) 67108864 L w6 ∧ w6.ownsRow w2.heap.size 33 6 (.slice p2 m c2) m (celL (dl d N)) ∧ XAt w6 p2 m (fun j => evC (Y (j / 6)) (j % 6)) ∧ (∀ i, i < m → L[i]? = some (Y i)) ∧ Below W.heap.size W w6 ∧ (∀ k, (Value.slice p2 m c2).ownBlock = some k → k ≠ qb ∧ k ≠ g)) := by
            obtain ⟨h1, h2, h3, h4, h5⟩ := H5.out
            have hl2 := h1.lt
            refine ⟨(h1.later hb6).up (by omega), srow_later h2 hb6, h3.below hb6, h4, ?_, HQ0.out.2.2.2.1⟩
            have hb := HQ0.out.2.2.2.2
            have h8 : Below W.heap.size W w5 := hb.trans (h5.toBelow hb.size (by rintro k (rfl | rfl); exact hl2.1.2; exact hl2.2.2))
            exact h8.trans (hb6.mono h8.size)
          clear H5 HQ0 hb6 HSE HS HL hb5
          go_loopw [8] (fun x w9 => ∃ j : Nat, x = .int .i64 (j : Int) ∧ j ≤ m ∧ QS W.heap.size qb g (N : Int) (67108864 + 16384 * (j : Int)) (L.drop j) w9 ∧ w9.ownsRow w2.heap.size 33 6 (.slice p2 m c2) m (celL (dl d N)) ∧ Below W.heap.size W w9) (fun x _ => m - (intOf x).toNat)
          case atStart => exact ⟨0, rfl, Nat.zero_le _, by simpa using H6.out.1, H6.out.2.1, H6.out.2.2.2.2.1⟩
          case round =>
            obtain ⟨j, rfl, hj, hQ, ho, hbr⟩ := hrel
            by_cases hlt2 : j < m
            · have dl2 : decide ((j : Int) < (m : Int)) = true := by simp; omega
              have hm2 := smeas hlt2
              have j0 : (0 : Int) ≤ (j : Int) := by omega
              have j1 : (j : Int) < (m : Int) := by omega
              have ej : IntKind.i64.wrap ((j : Int) + 1) = (j : Int) + 1 := by rw [IntKind.wrap_i64]; omega
              have HP := popS wr hQ (by omega) (by intro h9; rw [List.drop_eq_nil_iff] at h9; have := HLD.out.2.1; omega)
              have hql := hQ.lt
              have HW9 : Hid (wr.ownsRow w2.heap.size 33 6 (.slice p2 m c2) m (celL (dl d N)) ∧ Below W.heap.size W wr ∧ W.heap.size ≤ qb ∧ W.heap.size ≤ g) := ⟨ho, hbr, hql.1.2, hql.2.2⟩
              have NE := neq_sm (Y j)
              unfold evV at HP
              clear ho hbr hQ hql
              go_upto_region 21 with (go_at_call 13; (with_reducible refine HP.mono ?_); rintro e w7 ⟨x, L7, rfl, hL7, hQ7, hC7⟩; obtain ⟨hx7, hL77⟩ := drop_at HLD.out.2.1 H6.out.2.2.2.1 hlt2 hL7; subst hx7; subst hL77; have H7 : Hid (QS W.heap.size qb g (N : Int) (67108864 + 16384 * (j : Int) + 8192) (L.drop (j + 1)) w7 ∧ w7.ownsRow w2.heap.size 33 6 (.slice p2 m c2) m (celL (dl d N)) ∧ Below W.heap.size W w7) := ⟨hQ7, srow_far HW9.out.1 hC7 (s2_no H6.out.2.2.2.2.2), HW9.out.2.1.trans (hC7.toBelow HW9.out.2.1.size (by rintro k (rfl | rfl); exact HW9.out.2.2.1; exact HW9.out.2.2.2))⟩; clear hL7 hQ7 hC7)
              generalize hw8 : w7.alloc _ = w8
              have he8 : w8.heap[w7.heap.size]? = some (.cells #[.int .u64 (Y j).t, .int .i64 (Y j).s, .int .u64 (Y j).q, .int .i64 (Y j).d, .int .i64 (Y j).k, .int .i64 (Y j).v] 33 (0, 0)) := by rw [← hw8]; exact World.alloc_heap_new w7 _
              have hb8 : Below w7.heap.size w7 w8 := by rw [← hw8]; exact (Below.refl _ w7).alloc (Nat.le_refl _) _
              obtain ⟨y0, y1, y2, y3, y4, y5⟩ := q6c he8
              obtain ⟨bb, oo, hp2, z0, z1, z2, z3, z4, z5⟩ := xat_at (srow_xat (by rw [HLD.out.1]; exact srow_later H7.out.2.1 hb8) HLD.out.2.1 H6.out.2.2.2.1) hlt2
              have H8 : Hid (QS W.heap.size qb g (N : Int) (67108864 + 16384 * ((j + 1 : Nat) : Int)) (L.drop (j + 1)) w8 ∧ w8.ownsRow w2.heap.size 33 6 (.slice p2 m c2) m (celL (dl d N)) ∧ Below W.heap.size W w8) := ⟨(H7.out.1.later hb8).up (by omega), srow_later H7.out.2.1 hb8, H7.out.2.2.trans (hb8.mono H7.out.2.2.size)⟩
              clear hw8 he8 hb8 H7
              subst hp2
              go_quiet (fail)
              go_wp2_with fail
              exact ⟨⟨j + 1, rfl, hlt2, H8.out.1.later (below_drewNq _ _ _), srow_later H8.out.2.1 (below_drewNq _ _ _), H8.out.2.2.trans (below_drewNq _ _ _)⟩, hm2⟩
            · have dl2 : decide ((j : Int) < (m : Int)) = false := by simp; omega
              have hQe : QS W.heap.size qb g (N : Int) (67108864 + 16384 * (j : Int)) [] wr := by
                have h9 := hQ
                rw [List.drop_eq_nil_of_le (by have := HLD.out.2.1; omega)] at h9
                exact h9
              have hql := hQ.lt
              have HP := popS2 wr hQe (by omega)
              have HW9 : Hid (Below W.heap.size W wr ∧ W.heap.size ≤ qb ∧ W.heap.size ≤ g) := ⟨hbr, hql.1.2, hql.2.2⟩
              clear ho hbr hQ hql hQe
              unfold evV at HP
              go_upto_region 24 with (go_at_call 13; (with_reducible refine HP.mono ?_); rintro e w7 ⟨x, code, L7, rfl, hcs, hQ7, hC7⟩; have hcs2 : code = 82 ∧ L7 = [] := (by rcases hcs with ⟨_, h6, _, h7⟩ | ⟨_, h6⟩; exact ⟨h7, h6⟩; cases h6); clear hcs; obtain ⟨h6, h7⟩ := hcs2; subst h6; subst h7; have H7 : Hid (QS W.heap.size qb g (N : Int) (67108864 + 16384 * (j : Int) + 16384) [] w7 ∧ Below W.heap.size W w7) := ⟨hQ7, HW9.out.1.trans (hC7.toBelow HW9.out.1.size (by rintro k (rfl | rfl); exact HW9.out.2.1; exact HW9.out.2.2))⟩; clear hQ7 hC7)
              generalize hw8 : w7.alloc _ = w8
              have hb8 : Below w7.heap.size w7 w8 := by rw [← hw8]; exact (Below.refl _ w7).alloc (Nat.le_refl _) _
              have HS := size_any w8 (H7.out.1.later hb8)
              have H8 : Hid (Below W.heap.size W w8) := H7.out.2.trans (hb8.mono H7.out.2.size)
              clear hw8 hb8 H7
              go_wp2_with (go_at_call 10; (with_reducible refine HS.mono ?_); rintro e w9 ⟨rfl, h9⟩; subst w9)
              refine bodyPost_ret (v := .bool true) (by simp [results, Try.results3, go_sem]) rfl ?_
              exact ⟨rfl, H8.out⟩
    · have d1 : ((N : Int) == 8192) = false := by simp; omega
      have HN := q_new ((N : Int) + 1) (by omega) (by omega) W
      have HNB := q_newBad 0 (.inl (by decide)) W
      go_enter Try.func3, Try.ntmps3
      go_upto_region 8 with (first | (go_at_call 6; (with_reducible refine HNB.mono ?_); rintro e w0 ⟨rfl, h9⟩; subst w0) | (go_at_call 6; (with_reducible refine HN.mono ?_); rintro e w1 ⟨qb, nb, rfl, hq, hO, hne, hqs, hb1⟩; have HQ : Hid (QS W.heap.size qb nb ((N : Int) + 1) 0 [] w1) := new_QS hq hO hne hqs ⟨by omega, by omega⟩; clear hq hO))
      have HO := order_any p N c (fun i => toSe (X i)) (by omega) w1 ((evIn_sIn HK.out (by omega)).below hb1)
      go_wp2_with (first | (go_at_call 8; (with_reducible refine HO.mono ?_); rintro e w2 ⟨gd, d, rfl, hrow, hst, hsr, hb2⟩; have HD := distinct_any (n := N) (by omega) w2 hrow; have HST : Hid (Stb klt 0 N (fun i => toSe (X i)) d ∧ Srt klt 0 N d ∧ Below w1.heap.size w1 w2) := ⟨hst, hsr, hb2⟩; clear hst hsr hb2 hrow) | (go_at_call 7; (with_reducible refine HD.mono ?_); rintro e w3 ⟨vv, rfl, hown, hb3⟩; obtain ⟨p2, c2, hvv⟩ := srow_form hown; subst hvv; obtain ⟨m, hm⟩ : ∃ m, (dl d N).length = m := ⟨_, rfl⟩; rw [hm] at hown ⊢))
      have HOW : Hid (w3.ownsRow w2.heap.size 33 6 (.slice p2 m c2) m (celL (dl d N)) ∧ (∀ k, (Value.slice p2 m c2).ownBlock = some k → k ≠ qb ∧ k ≠ nb) ∧ Below W.heap.size W w3 ∧ (dl d N).length = m ∧ m ≤ N) := by
        have h1 := HST.out.2.2
        have h2 := HQ.out.lt
        have h3 := h1.size
        have hlen9 := dl_len d N
        refine ⟨hown, fun k hk => ?_, (hb1.trans (h1.mono hb1.size)).trans (hb3.mono (Nat.le_trans hb1.size h1.size)), hm, by omega⟩
        have h4 := srow_lt hown k hk
        omega
      have HQ3 : Hid (QS W.heap.size qb nb ((N : Int) + 1) 0 [] w3) := HQ.out.later (HST.out.2.2.trans (hb3.mono HST.out.2.2.size))
      clear hown hb3 hb1 HQ HD HO hm
      go_loopw [6] (fun x wr => ∃ (i g : Nat) (L : List Ev), x = .int .i64 (i : Int) ∧ i ≤ N ∧ QS W.heap.size qb g ((N : Int) + 1) (8192 * (i : Int)) L wr ∧ FF X i L ∧ wr.ownsRow w2.heap.size 33 6 (.slice p2 m c2) m (celL (dl d N)) ∧ (∀ k, (Value.slice p2 m c2).ownBlock = some k → k ≠ qb ∧ k ≠ g) ∧ Below W.heap.size W wr) (fun x _ => N - (intOf x).toNat)
      case atStart => exact ⟨0, nb, [], rfl, Nat.zero_le _, HQ3.out, FF.zero X, HOW.out.1, HOW.out.2.1, HOW.out.2.2.1⟩
      case round =>
        obtain ⟨i, g, L, rfl, hiM, hQ, hF, ho, hkk, hbr⟩ := hrel
        have HQ0 : Hid (QS W.heap.size qb g ((N : Int) + 1) (8192 * (i : Int)) L wr ∧ FF X i L ∧ wr.ownsRow w2.heap.size 33 6 (.slice p2 m c2) m (celL (dl d N)) ∧ (∀ k, (Value.slice p2 m c2).ownBlock = some k → k ≠ qb ∧ k ≠ g) ∧ Below W.heap.size W wr) := ⟨hQ, hF, ho, hkk, hbr⟩
        clear HQ3 hQ hF ho hkk hbr
        by_cases hlt : i < N
        · have dlt : decide ((i : Int) < (N : Int)) = true := by simp; omega
          have i0 : (0 : Int) ≤ (i : Int) := by omega
          have i1 : (i : Int) < (N : Int) := by omega
          obtain ⟨b, o, hp, hbl, hcs⟩ : ∃ b o, p = some ⟨b, o, none⟩ ∧ b < W.heap.size ∧ ∀ i r, i < N → r < 6 → W.cell? ⟨b, o + i * 6 + r, none⟩ = some (evC (X i) r) := by
            rcases HK.out with h9 | h9
            · omega
            · exact h9
          subst hp
          have hbr := HQ0.out.2.2.2.2
          have hiN : i < N := by omega
          have x0 : wr.cell? ⟨b, o + i * 6, none⟩ = some (.int .u64 (X i).t) := (cell_below (a := ⟨b, o + i * 6, none⟩) hbr hbl).trans (hcs i 0 hiN (by decide))
          have x1 : wr.cell? ⟨b, o + i * 6 + 1, none⟩ = some (.int .i64 (X i).s) := (cell_below (a := ⟨b, o + i * 6 + 1, none⟩) hbr hbl).trans (hcs i 1 hiN (by decide))
          have x2 : wr.cell? ⟨b, o + i * 6 + 2, none⟩ = some (.int .u64 (X i).q) := (cell_below (a := ⟨b, o + i * 6 + 2, none⟩) hbr hbl).trans (hcs i 2 hiN (by decide))
          have x3 : wr.cell? ⟨b, o + i * 6 + 3, none⟩ = some (.int .i64 (X i).d) := (cell_below (a := ⟨b, o + i * 6 + 3, none⟩) hbr hbl).trans (hcs i 3 hiN (by decide))
          have x4 : wr.cell? ⟨b, o + i * 6 + 4, none⟩ = some (.int .i64 (X i).k) := (cell_below (a := ⟨b, o + i * 6 + 4, none⟩) hbr hbl).trans (hcs i 4 hiN (by decide))
          have x5 : wr.cell? ⟨b, o + i * 6 + 5, none⟩ = some (.int .i64 (X i).v) := (cell_below (a := ⟨b, o + i * 6 + 5, none⟩) hbr hbl).trans (hcs i 5 hiN (by decide))
          have ei : IntKind.i64.wrap ((i : Int) + 1) = (i : Int) + 1 := by rw [IntKind.wrap_i64]; omega
          have HI := ins_any (X i) wr HQ0.out.1 (by omega)
          have hmM : N - (intOf (.int .i64 ((i : Int) + 1))).toNat < N - (intOf (.int .i64 (i : Int))).toNat := smeas hlt
          have hne9 : (L.length : Int) ≠ ((N : Int) + 1) := by have h8 := HQ0.out.2.1.1; omega
          unfold evV at HI
          clear hbr hcs
          go_upto_region 13 with (go_at_call 9; (with_reducible refine HI.mono ?_); rintro e w5 ⟨code, rfl, hI⟩; obtain ⟨g5, L5, hQ5, hg5, hC5, hcc, hF5⟩ := insThree hI hne9 HQ0.out.2.1; clear hI)
          have H5 : Hid (QS W.heap.size qb g5 ((N : Int) + 1) (8192 * ((i + 1 : Nat) : Int)) L5 w5 ∧ FF X (i + 1) L5 ∧ w5.ownsRow w2.heap.size 33 6 (.slice p2 m c2) m (celL (dl d N)) ∧ (∀ k, (Value.slice p2 m c2).ownBlock = some k → k ≠ qb ∧ k ≠ g5) ∧ Below W.heap.size W w5) := by
            obtain ⟨h1, h2, h3, h4, h5⟩ := HQ0.out
            have hl2 := h1.lt
            refine ⟨hQ5.up (by omega), hF5, srow_far h3 hC5 (s2_no h4), fun k hk => ⟨(h4 k hk).1, ?_⟩, h5.trans (hC5.toBelow h5.size (by rintro k (rfl | rfl); exact hl2.1.2; exact hl2.2.2))⟩
            have h6 := srow_lt h3 k hk
            have h7 := (h4 k hk).2
            omega
          clear hQ5 hg5 hC5 hF5 x0 x1 x2 x3 x4 x5 HI HQ0
          rcases hcc with h8 | h8
          · subst h8
            go_wp2_with fail
            exact ⟨⟨i + 1, g5, L5, rfl, hlt, H5.out⟩, hmM⟩
          · subst h8
            go_wp2_with fail
            exact ⟨⟨i + 1, g5, L5, rfl, hlt, H5.out⟩, hmM⟩
        · have dlt : decide ((i : Int) < (N : Int)) = false := by simp; omega
          have him : i = N := by omega
          have hLd : L.map toSe = dl d N := ff_dl (by have h9 := HQ0.out.2.1; rw [him] at h9; exact h9) HQ0.out.1.srt HST.out.1 HST.out.2.1
          have hlen : L.length = m := by rw [← HOW.out.2.2.2.1, ← hLd, List.length_map]
          have hmM := HOW.out.2.2.2.2
          have HS := size_any wr HQ0.out.1
          have HL := listS wr HQ0.out.1
          rw [hlen] at HS HL
          have HLD : Hid (L.map toSe = dl d N ∧ L.length = m ∧ i = N) := ⟨hLd, hlen, him⟩
          clear hLd hlen him
          go_wp2_with (first | (go_at_call 10; (with_reducible refine HS.mono ?_); rintro e w4 ⟨rfl, h9⟩; subst w4) | (go_at_call 12; (with_reducible refine HL.mono ?_); rintro e w5 ⟨b5, Y, rfl, hE5, hs5, hY, hb5, hQ5, hC5⟩; have ho5 := srow_far HQ0.out.2.2.1 hC5 (s2_no HQ0.out.2.2.2.1); have hx5 : XAt w5 p2 m (fun j => evC (Y (j / 6)) (j % 6)) := srow_xat (by rw [HLD.out.1]; exact ho5) HLD.out.2.1 hY; have HSE := sameEvents_yes m _ (some ⟨b5, 0, none⟩) p2 m c2 (by omega) w5 (by have h := hE5.xat 0 m (by omega); simpa using h) hx5 (evSh_evC m Y); have H5 : Hid (QS W.heap.size qb g ((N : Int) + 1) (8192 * (i : Int)) L w5 ∧ w5.ownsRow w2.heap.size 33 6 (.slice p2 m c2) m (celL (dl d N)) ∧ XAt w5 p2 m (fun j => evC (Y (j / 6)) (j % 6)) ∧ (∀ i, i < m → L[i]? = some (Y i)) ∧ Ch (S2 qb g) wr w5) := ⟨hQ5, ho5, hx5, hY, hC5⟩; clear hQ5 ho5 hx5 hY hC5 hE5 hs5) | (go_at_call 11; (with_reducible refine HSE.mono ?_); rintro e w6 ⟨rfl, hb6⟩))
          have H6 : Hid (QS W.heap.size qb g ((N : Int) + 1) 67108864 L w6 ∧ w6.ownsRow w2.heap.size 33 6 (.slice p2 m c2) m (celL (dl d N)) ∧ XAt w6 p2 m (fun j => evC (Y (j / 6)) (j % 6)) ∧ (∀ i, i < m → L[i]? = some (Y i)) ∧ Below W.heap.size W w6 ∧ (∀ k, (Value.slice p2 m c2).ownBlock = some k → k ≠ qb ∧ k ≠ g)) := by
            obtain ⟨h1, h2, h3, h4, h5⟩ := H5.out
            have hl2 := h1.lt
            refine ⟨(h1.later hb6).up (by omega), srow_later h2 hb6, h3.below hb6, h4, ?_, HQ0.out.2.2.2.1⟩
            have hb := HQ0.out.2.2.2.2
            have h8 : Below W.heap.size W w5 := hb.trans (h5.toBelow hb.size (by rintro k (rfl | rfl); exact hl2.1.2; exact hl2.2.2))
            exact h8.trans (hb6.mono h8.size)
          clear H5 HQ0 hb6 HSE HS HL hb5
          go_loopw [8] (fun x w9 => ∃ j : Nat, x = .int .i64 (j : Int) ∧ j ≤ m ∧ QS W.heap.size qb g ((N : Int) + 1) (67108864 + 16384 * (j : Int)) (L.drop j) w9 ∧ w9.ownsRow w2.heap.size 33 6 (.slice p2 m c2) m (celL (dl d N)) ∧ Below W.heap.size W w9) (fun x _ => m - (intOf x).toNat)
          case atStart => exact ⟨0, rfl, Nat.zero_le _, by simpa using H6.out.1, H6.out.2.1, H6.out.2.2.2.2.1⟩
          case round =>
            obtain ⟨j, rfl, hj, hQ, ho, hbr⟩ := hrel
            by_cases hlt2 : j < m
            · have dl2 : decide ((j : Int) < (m : Int)) = true := by simp; omega
              have hm2 := smeas hlt2
              have j0 : (0 : Int) ≤ (j : Int) := by omega
              have j1 : (j : Int) < (m : Int) := by omega
              have ej : IntKind.i64.wrap ((j : Int) + 1) = (j : Int) + 1 := by rw [IntKind.wrap_i64]; omega
              have HP := popS wr hQ (by omega) (by intro h9; rw [List.drop_eq_nil_iff] at h9; have := HLD.out.2.1; omega)
              have hql := hQ.lt
              have HW9 : Hid (wr.ownsRow w2.heap.size 33 6 (.slice p2 m c2) m (celL (dl d N)) ∧ Below W.heap.size W wr ∧ W.heap.size ≤ qb ∧ W.heap.size ≤ g) := ⟨ho, hbr, hql.1.2, hql.2.2⟩
              have NE := neq_sm (Y j)
              unfold evV at HP
              clear ho hbr hQ hql
              go_upto_region 21 with (go_at_call 13; (with_reducible refine HP.mono ?_); rintro e w7 ⟨x, L7, rfl, hL7, hQ7, hC7⟩; obtain ⟨hx7, hL77⟩ := drop_at HLD.out.2.1 H6.out.2.2.2.1 hlt2 hL7; subst hx7; subst hL77; have H7 : Hid (QS W.heap.size qb g ((N : Int) + 1) (67108864 + 16384 * (j : Int) + 8192) (L.drop (j + 1)) w7 ∧ w7.ownsRow w2.heap.size 33 6 (.slice p2 m c2) m (celL (dl d N)) ∧ Below W.heap.size W w7) := ⟨hQ7, srow_far HW9.out.1 hC7 (s2_no H6.out.2.2.2.2.2), HW9.out.2.1.trans (hC7.toBelow HW9.out.2.1.size (by rintro k (rfl | rfl); exact HW9.out.2.2.1; exact HW9.out.2.2.2))⟩; clear hL7 hQ7 hC7)
              generalize hw8 : w7.alloc _ = w8
              have he8 : w8.heap[w7.heap.size]? = some (.cells #[.int .u64 (Y j).t, .int .i64 (Y j).s, .int .u64 (Y j).q, .int .i64 (Y j).d, .int .i64 (Y j).k, .int .i64 (Y j).v] 33 (0, 0)) := by rw [← hw8]; exact World.alloc_heap_new w7 _
              have hb8 : Below w7.heap.size w7 w8 := by rw [← hw8]; exact (Below.refl _ w7).alloc (Nat.le_refl _) _
              obtain ⟨y0, y1, y2, y3, y4, y5⟩ := q6c he8
              obtain ⟨bb, oo, hp2, z0, z1, z2, z3, z4, z5⟩ := xat_at (srow_xat (by rw [HLD.out.1]; exact srow_later H7.out.2.1 hb8) HLD.out.2.1 H6.out.2.2.2.1) hlt2
              have H8 : Hid (QS W.heap.size qb g ((N : Int) + 1) (67108864 + 16384 * ((j + 1 : Nat) : Int)) (L.drop (j + 1)) w8 ∧ w8.ownsRow w2.heap.size 33 6 (.slice p2 m c2) m (celL (dl d N)) ∧ Below W.heap.size W w8) := ⟨(H7.out.1.later hb8).up (by omega), srow_later H7.out.2.1 hb8, H7.out.2.2.trans (hb8.mono H7.out.2.2.size)⟩
              clear hw8 he8 hb8 H7
              subst hp2
              go_quiet (fail)
              go_wp2_with fail
              exact ⟨⟨j + 1, rfl, hlt2, H8.out.1.later (below_drewNq _ _ _), srow_later H8.out.2.1 (below_drewNq _ _ _), H8.out.2.2.trans (below_drewNq _ _ _)⟩, hm2⟩
            · have dl2 : decide ((j : Int) < (m : Int)) = false := by simp; omega
              have hQe : QS W.heap.size qb g ((N : Int) + 1) (67108864 + 16384 * (j : Int)) [] wr := by
                have h9 := hQ
                rw [List.drop_eq_nil_of_le (by have := HLD.out.2.1; omega)] at h9
                exact h9
              have hql := hQ.lt
              have HP := popS2 wr hQe (by omega)
              have HW9 : Hid (Below W.heap.size W wr ∧ W.heap.size ≤ qb ∧ W.heap.size ≤ g) := ⟨hbr, hql.1.2, hql.2.2⟩
              clear ho hbr hQ hql hQe
              unfold evV at HP
              go_upto_region 24 with (go_at_call 13; (with_reducible refine HP.mono ?_); rintro e w7 ⟨x, code, L7, rfl, hcs, hQ7, hC7⟩; have hcs2 : code = 82 ∧ L7 = [] := (by rcases hcs with ⟨_, h6, _, h7⟩ | ⟨_, h6⟩; exact ⟨h7, h6⟩; cases h6); clear hcs; obtain ⟨h6, h7⟩ := hcs2; subst h6; subst h7; have H7 : Hid (QS W.heap.size qb g ((N : Int) + 1) (67108864 + 16384 * (j : Int) + 16384) [] w7 ∧ Below W.heap.size W w7) := ⟨hQ7, HW9.out.1.trans (hC7.toBelow HW9.out.1.size (by rintro k (rfl | rfl); exact HW9.out.2.1; exact HW9.out.2.2))⟩; clear hQ7 hC7)
              generalize hw8 : w7.alloc _ = w8
              have hb8 : Below w7.heap.size w7 w8 := by rw [← hw8]; exact (Below.refl _ w7).alloc (Nat.le_refl _) _
              have HS := size_any w8 (H7.out.1.later hb8)
              have H8 : Hid (Below W.heap.size W w8) := H7.out.2.trans (hb8.mono H7.out.2.size)
              clear hw8 hb8 H7
              go_wp2_with (go_at_call 10; (with_reducible refine HS.mono ?_); rintro e w9 ⟨rfl, h9⟩; subst w9)
              refine bodyPost_ret (v := .bool true) (by simp [results, Try.results3, go_sem]) rfl ?_
              exact ⟨rfl, H8.out⟩
end Go.Proofs.Ytnofndpgodledaa
