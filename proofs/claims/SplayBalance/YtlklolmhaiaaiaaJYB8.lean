import Derived.Test.YtlklolmhaiaaiaaJYB7
import Derived.Test.YtlklolmhaiaaiaaJYB2e
import Derived.Test.YtlklolmhaiaaiaaJY35
namespace Go.Proofs.Ytlklolmhaiaaiaa
open Go.ChangeShapes Go.WideShapes Go.ChangeAt Go.RowKit
set_option linter.unusedVariables false
set_option linter.unusedSimpArgs false

set_option maxRecDepth 100000 in
set_option maxHeartbeats 16000000 in
theorem balance_good (room : Int) (p : Option Addr) (N c : Nat) (O : Nat → OpV) (W : World) (h1 : 1 ≤ room) (h2 : room ≤ 8192) (hk : OpsIn W p N O) (hN : N ≤ 3000000000000) :
    Calls Try.prog 3 #[.int .i64 room, .slice p N c] W fun e W' => e = .returned (.bool true) ∧ Below W.heap.size W W' := by
  have HN := q_new room h1 h2 W
  have HK : Hid (OpsIn W p N O ∧ N ≤ 3000000000000 ∧ 1 ≤ room ∧ room ≤ 8192) := ⟨hk, hN, h1, h2⟩
  clear hk hN h1 h2
  go_enter Try.func3, Try.ntmps3
  go_wp2_with (go_at_call 6; (with_reducible refine HN.mono ?_); rintro e w2 ⟨qb, nb, rfl, hq, hO, hne, hqs, hb2⟩; have HQ : Hid (QSR (BL 0) W.heap.size qb nb room 0 [] w2 ∧ Below W.heap.size W w2) := ⟨new_QSR BL.nil hq hO hne hqs ⟨HK.out.2.2.1, HK.out.2.2.2⟩, hb2⟩; clear hq hO hne hqs hb2)
  go_loopw [7, 8, 9] (fun y v x wr => ∃ (i g c' lim : Nat) (p' : Option Addr) (L : List Ev), y = .int .i64 (lim : Int) ∧ v = .slice p' L.length c' ∧ x = .int .i64 (i : Int) ∧ i ≤ N ∧ lim ≤ 200 * i ∧ QSR (BL lim) W.heap.size qb g room (16384 * (i : Int)) L wr ∧ EL wr qb g p' c' L ∧ Below W.heap.size W wr) (fun _ _ x _ => N - (intOf x).toNat)
  case atStart => exact ⟨0, nb, 0, 0, none, [], rfl, rfl, rfl, Nat.zero_le _, Nat.le_refl _, HQ.out.1, .inl ⟨rfl, rfl, rfl⟩, HQ.out.2⟩
  case round =>
    obtain ⟨w0, hw0⟩ : ∃ w0, w0 = wr := ⟨wr, rfl⟩
    subst hw0
    obtain ⟨i, g, c', lim, p', L, rfl, rfl, rfl, hiN, hlim, hQ, hE, hbr⟩ := hrel
    have hln := hQ.len
    have hlq := hQ.lt
    have hsrt := hQ.srt
    obtain ⟨cq, nq, A, t, fl, root, work, hq, hL, hw, hBL⟩ := hQ
    have el : L.length = t.size := by rw [hL, List.length_map, Tr.size_ps]
    have hQ : QSR (BR0 A.E t work) W.heap.size qb g room (16384 * (i : Int)) L w0 := ⟨cq, nq, A, t, fl, root, work, hq, hL, hw, rfl, rfl, rfl⟩
    have HQ0 : Hid (QSR (BR0 A.E t work) W.heap.size qb g room (16384 * (i : Int)) L w0 ∧ EL w0 qb g p' c' L ∧ Below W.heap.size W w0 ∧ BL lim A.E t work ∧ L = t.ps.map A.E ∧ (t.ps.Pairwise fun p q => keyLt (A.E p) (A.E q)) ∧ (∀ p ∈ t.ps, p ≠ 0) ∧ L.length = t.size ∧ t.size ≤ 8192 ∧ L.Pairwise keyLt ∧ (((L.length : Int) ≤ room) ∧ room ≤ 8192) ∧ ((qb < w0.heap.size ∧ W.heap.size ≤ qb) ∧ g < w0.heap.size ∧ W.heap.size ≤ g) ∧ lim ≤ 200 * i ∧ 0 ≤ work ∧ work ≤ 16384 * (i : Int)) := ⟨hQ, hE, hbr, hBL, hL, hq.srt, hq.neT, el, hq.n1.2.2, hsrt, hln, hlq, hlim, hq.wk, hw⟩
    clear HQ HN hQ hE hbr hBL hL hq hsrt hln hlq hlim hw el
    by_cases hlt : i < N
    · have dl : decide ((i : Int) < (N : Int)) = true := by simp; omega
      have dl2 : decide (i < N) = true := by simp; omega
      have i0 : (0 : Int) ≤ (i : Int) := by omega
      have i1 : (i : Int) < (N : Int) := by omega
      obtain ⟨hk, hN, _, _⟩ := HK.out
      obtain ⟨b, o, hp, hbl, hcells⟩ : ∃ b o, p = some ⟨b, o, none⟩ ∧ b < W.heap.size ∧ ∀ i r, i < N → r < 7 → W.cell? ⟨b, o + i * 7 + r, none⟩ = some ((opA (O i)).toList.getD r undef) := by
        rcases hk with h9 | h9
        · omega
        · exact h9
      subst hp
      have hcw : ∀ r, r < 7 → w0.cell? ⟨b, o + i * 7 + r, none⟩ = some ((opA (O i)).toList.getD r undef) := fun r hr => (cell_below (a := ⟨b, o + i * 7 + r, none⟩) HQ0.out.2.2.1 hbl).trans (hcells i r hlt hr)
      have x0 : w0.cell? ⟨b, o + i * 7, none⟩ = some (.int .i64 (O i).kd) := hcw 0 (by decide)
      have x1 : w0.cell? ⟨b, o + i * 7 + 1, none⟩ = some (.int .i64 (O i).wh) := hcw 1 (by decide)
      have x2 : w0.cell? ⟨b, o + i * 7 + 2, none⟩ = some (.int .u64 (O i).t) := hcw 2 (by decide)
      have x3 : w0.cell? ⟨b, o + i * 7 + 3, none⟩ = some (.int .i64 (O i).s) := hcw 3 (by decide)
      have x4 : w0.cell? ⟨b, o + i * 7 + 4, none⟩ = some (.int .u64 (O i).q) := hcw 4 (by decide)
      have x5 : w0.cell? ⟨b, o + i * 7 + 5, none⟩ = some (.int .i64 (O i).d) := hcw 5 (by decide)
      have x6 : w0.cell? ⟨b, o + i * 7 + 6, none⟩ = some (.int .i64 (O i).n) := hcw 6 (by decide)
      have ei : IntKind.i64.wrap ((i : Int) + 1) = (i : Int) + 1 := by rw [IntKind.wrap_i64]; omega
      have hm := meas0 hlt
      generalize O i = o1 at *
      clear hcw hcells hk hbl hN
      go_upto_region 10 with fail
      obtain ⟨w1, hw1⟩ : ∃ w1, w0.alloc (.cells #[.int .i64 o1.kd, .int .i64 o1.wh, .int .u64 o1.t, .int .i64 o1.s, .int .u64 o1.q, .int .i64 o1.d, .int .i64 o1.n] 32) = w1 := ⟨_, rfl⟩
      rw [hw1]
      have hb1 : Below w0.heap.size w0 w1 := by rw [← hw1]; exact (Below.refl _ w0).alloc (Nat.le_refl _) _
      have ho1 : w1.heap[w0.heap.size]? = some (.cells #[.int .i64 o1.kd, .int .i64 o1.wh, .int .u64 o1.t, .int .i64 o1.s, .int .u64 o1.q, .int .i64 o1.d, .int .i64 o1.n] 32 (0, 0)) := by rw [← hw1]; exact World.alloc_heap_new w0 _
      have H1 : Hid (Below w0.heap.size w0 w1 ∧ w1.heap[w0.heap.size]? = some (.cells #[.int .i64 o1.kd, .int .i64 o1.wh, .int .u64 o1.t, .int .i64 o1.s, .int .u64 o1.q, .int .i64 o1.d, .int .i64 o1.n] 32 (0, 0)) ∧ QSR (BR0 A.E t work) W.heap.size qb g room (16384 * (i : Int)) L w1) := ⟨hb1, ho1, HQ0.out.1.later hb1⟩
      clear hw1 hb1 ho1 x0 x1 x2 x3 x4 x5 x6
      have HD := depthsB w1 H1.out.2.2
      go_upto_region 11 with (go_at_call 7; (with_reducible refine HD.mono ?_); rintro e w2 ⟨pd, cd, rfl, hdp, hdb, hq2, hC2⟩; have H2 : Hid (DpW w2 pd t ∧ (∀ b o f, pd = some ⟨b, o, f⟩ → w1.heap.size ≤ b) ∧ QSR (BR0 A.E t work) W.heap.size qb g room (16384 * (i : Int)) L w2 ∧ Ch (S2 qb g) w1 w2) := ⟨hdp, hdb, hq2, hC2⟩; clear hdp hdb hq2 hC2)
      clear HD
      have HWk := workB w2 H2.out.2.2.1
      go_upto_region 12 with (go_at_call 8; (with_reducible refine HWk.mono ?_); rintro e w9 ⟨rfl, h9⟩; have h9 := h9.symm; subst h9)
      clear HWk
      have HLs := listB w2 H2.out.2.2.1
      have HTr : Hid (∀ w, Below w2.heap.size w2 w ∨ (Ch (S2 qb g) w2 w) → Calls Try.prog 11 #[.slice pd L.length cd] w fun e W' => e = .returned (.bool true) ∧ Below w.heap.size w W') := fun w hw => by
        have hdw : DpW w pd t := by
          rcases hw with h9 | h9
          · exact H2.out.1.later h9
          · have h8 := HQ0.out.2.2.2.2.2.2.2.2.2.2.2.1
            have h7 := H1.out.1.size
            exact H2.out.1.keep H2.out.2.1 (by omega) (by omega) h9
        rw [HQ0.out.2.2.2.2.2.2.2.1]
        exact tree_any w hdw HQ0.out.2.2.2.2.2.2.2.2.1
      have HLN : Hid (L.length ≤ 1000000) := by have h8 := HQ0.out; show L.length ≤ 1000000; omega
      go_upto_region 14 with (first | (go_at_call 10; (with_reducible refine HLs.mono ?_); rintro e w3 ⟨b3, X3, rfl, hX3, hs3, hl3, hb3, hq3, hC3⟩; have hE3 : EL w3 qb g p' c' L := (((HQ0.out.2.1.later H1.out.1).keep H2.out.2.2.2 (.inl rfl)).keep hC3 (.inl rfl)); have HT := sameEvents_yes L.length (fun j => evC (X3 (j / 6)) (j % 6)) (some ⟨b3, 0, none⟩) p' L.length c' HLN.out w3 (by have h := hX3.xat 0 L.length (by omega); simpa using h) (hE3.xat.congr (fun j hj => by have h1 := hl3 (j / 6) (by omega); rw [lX_at (by omega)] at h1; rw [Option.some.inj h1])) (evSh_evC L.length X3); have H3 : Hid (QSR (BR0 A.E t work) W.heap.size qb g room (16384 * (i : Int)) L w3 ∧ EL w3 qb g p' c' L ∧ Ch (S2 qb g) w2 w3) := ⟨hq3, hE3, hC3⟩; clear hX3 hs3 hl3 hb3 hq3 hC3 hE3) | (go_at_call 9; (with_reducible refine HT.mono ?_); rintro e w5 ⟨rfl, hb5⟩; have H5 : Hid (Below w3.heap.size w3 w5) := hb5; have HTT := HTr.out w5 (.inr (H3.out.2.2.trans (Ch.below hb5))); clear hb5) | (go_at_call 11; (with_reducible refine HTT.mono ?_); rintro e w6 ⟨rfl, hb6⟩; have H6 : Hid (Below w5.heap.size w5 w6) := hb6; clear hb6))
      clear HLs HT HTT
      have hb36 : Below w3.heap.size w3 w6 := H5.out.trans (H6.out.mono H5.out.size)
      have hC26 : Ch (S2 qb g) w2 w6 := H3.out.2.2.trans (Ch.below hb36)
      have hC16 : Ch (S2 qb g) w1 w6 := H2.out.2.2.2.trans hC26
      have hlq := HQ0.out.2.2.2.2.2.2.2.2.2.2.2.1
      have hob : w6.heap[w0.heap.size]? = some (.cells #[.int .i64 o1.kd, .int .i64 o1.wh, .int .u64 o1.t, .int .i64 o1.s, .int .u64 o1.q, .int .i64 o1.d, .int .i64 o1.n] 32 (0, 0)) := (hC16.block _ (lt_of_block H1.out.2.1) (by rintro (e | e) <;> omega)).trans H1.out.2.1
      have H7 : Hid (Ch (S2 qb g) w0 w6 ∧ w6.heap[w0.heap.size]? = some (.cells #[.int .i64 o1.kd, .int .i64 o1.wh, .int .u64 o1.t, .int .i64 o1.s, .int .u64 o1.q, .int .i64 o1.d, .int .i64 o1.n] 32 (0, 0)) ∧ QSR (BR0 A.E t work) W.heap.size qb g room (16384 * (i : Int)) L w6 ∧ EL w6 qb g p' c' L ∧ DpW w6 pd t) := ⟨(Ch.below H1.out.1).trans hC16, hob, H3.out.1.later hb36, H3.out.2.1.later hb36, by have h7 := H1.out.1.size; exact H2.out.1.keep H2.out.2.1 (by omega) (by omega) hC26⟩
      obtain ⟨z0, z1, z2, z3, z4, z5, z6⟩ := c7 hob
      have HA := heldA_any (opC (o := o1) (room := room) (E0 := A.E) (t0 := t) (w0 := work)) w6 H7.out.2.2.1 H7.out.2.2.2.1 (by have := HK.out.2.1; omega)
      unfold opA at HA
      clear hb36 hC26 hC16 hob
      go_upto_region 15 with (go_at_call 12; (with_reducible refine HA.mono ?_); rintro e w7 ⟨p3, c3, g3, L3, rfl, hq7, hE7, hg7, hC7⟩; have H8 : Hid (QSR (rOf (BR1 o1 room A.E t work)) W.heap.size qb g3 room (16384 * (i : Int) + 16384) L3 w7 ∧ EL w7 qb g3 p3 c3 L3 ∧ (g3 = g ∨ w6.heap.size ≤ g3) ∧ Ch (S2 qb g) w6 w7) := ⟨hq7, hE7, hg7, hC7⟩; clear hq7 hE7 hg7 hC7)
      clear HA z0 z1 z2 z3 z4 z5 z6
      obtain ⟨cq3, nq3, A3, t3, fl3, root3, work3, hq3, hL3, hw3, k, rfl, hpot, hpaid⟩ := H8.out.1
      have hQ3 : QSR (BR0 A3.E t3 (work + k)) W.heap.size qb g3 room (16384 * (i : Int) + 16384) L3 w7 := ⟨cq3, nq3, A3, t3, fl3, root3, _, hq3, hL3, hw3, rfl, rfl, rfl⟩
      have hBL3 : BL (lim + limB o1 t) A3.E t3 (work + k) := HQ0.out.2.2.2.1.step hpot
      have hlb : limB o1 t ≤ 200 := by
        unfold limB
        split
        · exact share_le HQ0.out.2.2.2.2.2.2.2.2.1
        · omega
      have H9 : Hid (QSR (BR0 A3.E t3 (work + k)) W.heap.size qb g3 room (16384 * (i : Int) + 16384) L3 w7 ∧ BL (lim + limB o1 t) A3.E t3 (work + k) ∧ (work + k ≤ ((lim + limB o1 t : Nat) : Int)) ∧ PaidC o1 room A.E t k ∧ (k : Int) ≤ 900000000000000000 ∧ limB o1 t ≤ 200) := ⟨hQ3, hBL3, hBL3.le, hpaid, by have := HK.out.2.1; have := HQ0.out; omega, hlb⟩
      clear hq3 hL3 hw3 hpot hpaid hQ3 hBL3 hlb
      have HB7 : Below w7.heap.size w7 w7.drew := below_drewNq _ w7 1
      have HW7 := workB w7.drew (H9.out.1.later HB7)
      have hC07 : Ch (S2 qb g) w0 w7 := H7.out.1.trans H8.out.2.2.2
      have hlq := HQ0.out.2.2.2.2.2.2.2.2.2.2.2.1
      have hz7 : w0.heap.size + 1 ≤ w6.heap.size := Nat.le_trans (lt_of_block H7.out.2.1) (Nat.le_refl _)
      have hob : w7.heap[w0.heap.size]? = some (.cells #[.int .i64 o1.kd, .int .i64 o1.wh, .int .u64 o1.t, .int .i64 o1.s, .int .u64 o1.q, .int .i64 o1.d, .int .i64 o1.n] 32 (0, 0)) := (H8.out.2.2.2.block _ (by omega) (by rintro (e | e) <;> omega)).trans H7.out.2.1
      have hobd := (HB7.block _ (lt_of_block hob)).trans hob
      obtain ⟨z0, z1, z2, z3, z4, z5, z6⟩ := c7 hobd
      have hdp7 : DpW w7 pd t := by have h7 := H1.out.1.size; exact H7.out.2.2.2.2.keep H2.out.2.1 (by omega) (by omega) H8.out.2.2.2
      have hfull : ∃ full : Bool, (full = true ↔ (t.size : Int) = room) ∧ ((L.length : Int) == room) = full ∧ decide ((L.length : Int) = room) = full := ⟨decide ((L.length : Int) = room), by rw [HQ0.out.2.2.2.2.2.2.2.1]; simp, by rw [Bool.eq_iff_iff]; simp, rfl⟩
      obtain ⟨full, hf1, hf2, hf3⟩ := hfull
      have HPd : Calls Try.prog 13 #[.agg (opA o1), .slice p' L.length c', .slice pd L.length cd, .bool full, .int .i64 (k : Int)] w7.drew fun e W' => e = .returned (.bool true) ∧ Below w7.drew.heap.size w7.drew W' := by
        have hLe := HQ0.out.2.2.2.2.1
        have hE7 : EL w7.drew qb g p' c' L := (H7.out.2.2.2.1.keep H8.out.2.2.2 (.inl rfl)).later HB7
        rw [hLe] at hE7
        rw [hLe]
        exact paid_any o1 k full w7.drew hf1 ⟨hE7, by rw [← hLe]; exact HQ0.out.2.2.2.2.2.2.2.2.2.1, hdp7.later HB7, by rw [← hLe]; exact HQ0.out.2.2.2.2.2.2.2.1, HQ0.out.2.2.2.2.2.2.2.2.1⟩ HQ0.out.2.2.2.2.2.1 HQ0.out.2.2.2.2.2.2.1 H9.out.2.2.2.1
      unfold opA at HPd
      have ew : IntKind.i64.wrap (work + (k : Int) - work) = (k : Int) := by have := H9.out; rw [IntKind.wrap_i64]; omega
      have H10 : Hid (Ch (S2 qb g) w0 w7 ∧ w7.heap[w0.heap.size]? = some (.cells #[.int .i64 o1.kd, .int .i64 o1.wh, .int .u64 o1.t, .int .i64 o1.s, .int .u64 o1.q, .int .i64 o1.d, .int .i64 o1.n] 32 (0, 0))) := ⟨hC07, hob⟩
      clear hC07 hlq hz7 hob hobd hdp7 hf1
      have KP8 : Hid (∀ w8, Below w7.drew.heap.size w7.drew w8 → (fun w' => w'.cell? ⟨w0.heap.size, 0, none⟩ = some (.int .i64 o1.kd) ∧ w'.cell? ⟨w0.heap.size, 1, none⟩ = some (.int .i64 o1.wh) ∧ w'.cell? ⟨w0.heap.size, 2, none⟩ = some (.int .u64 o1.t) ∧ w'.cell? ⟨w0.heap.size, 3, none⟩ = some (.int .i64 o1.s) ∧ w'.cell? ⟨w0.heap.size, 4, none⟩ = some (.int .u64 o1.q) ∧ w'.cell? ⟨w0.heap.size, 5, none⟩ = some (.int .i64 o1.d) ∧ w'.cell? ⟨w0.heap.size, 6, none⟩ = some (.int .i64 o1.n)) w8) := fun w8 hb8 => by
        have h9 := (hb8.block _ (by have := HB7.size; exact Nat.lt_of_lt_of_le (lt_of_block H10.out.2) this)).trans ((HB7.block _ (lt_of_block H10.out.2)).trans H10.out.2)
        exact c7 h9
      go_region_held3 (fun w' => w'.cell? ⟨w0.heap.size, 0, none⟩ = some (.int .i64 o1.kd) ∧ w'.cell? ⟨w0.heap.size, 1, none⟩ = some (.int .i64 o1.wh) ∧ w'.cell? ⟨w0.heap.size, 2, none⟩ = some (.int .u64 o1.t) ∧ w'.cell? ⟨w0.heap.size, 3, none⟩ = some (.int .i64 o1.s) ∧ w'.cell? ⟨w0.heap.size, 4, none⟩ = some (.int .u64 o1.q) ∧ w'.cell? ⟨w0.heap.size, 5, none⟩ = some (.int .i64 o1.d) ∧ w'.cell? ⟨w0.heap.size, 6, none⟩ = some (.int .i64 o1.n)) (first | exact ⟨z0, z1, z2, z3, z4, z5, z6⟩ | exact KP | go_keep) (first | (go_at_call 8; refine HW7.mono ?_; rintro e w8 ⟨rfl, h9⟩; have h9 := h9.symm; subst h9; have KP := KP8.out w7.drew (Below.refl _ _)) | (go_at_call 13; refine HPd.mono ?_; rintro e w8 ⟨rfl, hb8⟩; have KP := KP8.out w8 hb8))
      have B78 : Hid (Below w7.heap.size w7 w8) := HB7.trans hb8
      obtain ⟨v0, v1, v2, v3, v4, v5, v6⟩ := KP8.out w8 hb8
      have HW8 := workB w8 (H9.out.1.later B78.out)
      have HSh := share_any L.length w8 (by have := HQ0.out; omega)
      have hk9 := H9.out.2.2.1
      have hsh : Hid (share L.length ≤ 200) := share_le (by have := HQ0.out; omega)
      have hlm : Hid (lim ≤ 600000000000000 ∧ lim ≤ 200 * i) := ⟨by have := HQ0.out; have := HK.out; omega, HQ0.out.2.2.2.2.2.2.2.2.2.2.2.2.1⟩
      clear KP8 HW7 HPd hb8 HB7
      clear z0 z1 z2 z3 z4 z5 z6
      by_cases hin : 1 ≤ o1.kd ∧ o1.kd ≤ 6
      · have hlB : lim + limB o1 t = lim + share L.length := by unfold limB; rw [if_pos hin, HQ0.out.2.2.2.2.2.2.2.1]
        have da : decide ((1 : Int) ≤ o1.kd) = true := by simpa using hin.1
        have db : decide (o1.kd ≤ (6 : Int)) = true := by simpa using hin.2
        have dc : (1 : Int) ≤ o1.kd := hin.1
        have el : IntKind.i64.wrap ((lim : Int) + (share L.length : Int)) = ((lim + share L.length : Nat) : Int) := by have := hlm.out; have := hsh.out; rw [IntKind.wrap_i64]; omega
        rw [hlB] at hk9
        have HLB : Hid (lim + limB o1 t = lim + share L.length) := hlB
        clear hlB hin
        generalize share L.length = sh at *
        have dd : decide (((lim + sh : Nat) : Int) < work + (k : Int)) = false := by simp; omega
        clear hk9
        generalize hl9 : lim + sh = lim9 at *
        have HL9 : Hid (lim + sh = lim9) := hl9
        clear hl9
        go_wp2_with (first | (go_at_call 14; (with_reducible refine HSh.mono ?_); rintro e w9 ⟨rfl, h9⟩; have h9 := h9.symm; subst h9) | (go_at_call 8; (with_reducible refine HW8.mono ?_); rintro e w9 ⟨rfl, h9⟩; have h9 := h9.symm; subst h9))
        have hlB := HLB.out
        have hlq := HQ0.out.2.2.2.2.2.2.2.2.2.2.2.1
        have hB8 : Below W.heap.size W w8 := (HQ0.out.2.2.1.trans (H10.out.1.toBelow HQ0.out.2.2.1.size (by rintro k (rfl | rfl); exact hlq.1.2; exact hlq.2.2))).trans (B78.out.mono (HQ0.out.2.2.1.trans (H10.out.1.toBelow HQ0.out.2.2.1.size (by rintro k (rfl | rfl); exact hlq.1.2; exact hlq.2.2))).size)
        have hQ8 : QSR (BL (lim + limB o1 t)) W.heap.size qb g3 room (16384 * ((i + 1 : Nat) : Int)) L3 w8 := (H9.out.1.later B78.out).turn (by rintro _ _ _ ⟨rfl, rfl, rfl⟩; exact H9.out.2.1) (by omega)
        rw [hlB] at hQ8
        exact ⟨⟨i + 1, g3, c3, lim9, p3, L3, rfl, rfl, rfl, hlt, by have := hlm.out; have := hsh.out; have := HL9.out; omega, hQ8, H8.out.2.1.later B78.out, hB8⟩, hm⟩
      · have hlB : lim + limB o1 t = lim := by unfold limB; rw [if_neg hin]; rfl
        rw [hlB] at hk9
        have dd : decide ((lim : Int) < work + (k : Int)) = false := by simp; omega
        have HLB : Hid (lim + limB o1 t = lim) := hlB
        clear hlB hk9 HSh
        by_cases ha : 1 ≤ o1.kd
        · have da : decide ((1 : Int) ≤ o1.kd) = true := by simpa using ha
          have db : decide (o1.kd ≤ (6 : Int)) = false := by simp; omega
          clear hin
          go_wp2_with (go_at_call 8; (with_reducible refine HW8.mono ?_); rintro e w9 ⟨rfl, h9⟩; have h9 := h9.symm; subst h9)
          have hlB := HLB.out
          have hlq := HQ0.out.2.2.2.2.2.2.2.2.2.2.2.1
          have hB8 : Below W.heap.size W w8 := (HQ0.out.2.2.1.trans (H10.out.1.toBelow HQ0.out.2.2.1.size (by rintro k (rfl | rfl); exact hlq.1.2; exact hlq.2.2))).trans (B78.out.mono (HQ0.out.2.2.1.trans (H10.out.1.toBelow HQ0.out.2.2.1.size (by rintro k (rfl | rfl); exact hlq.1.2; exact hlq.2.2))).size)
          have hQ8 : QSR (BL (lim + limB o1 t)) W.heap.size qb g3 room (16384 * ((i + 1 : Nat) : Int)) L3 w8 := (H9.out.1.later B78.out).turn (by rintro _ _ _ ⟨rfl, rfl, rfl⟩; exact H9.out.2.1) (by omega)
          rw [hlB] at hQ8
          exact ⟨⟨i + 1, g3, c3, lim, p3, L3, rfl, rfl, rfl, hlt, by have := hlm.out; omega, hQ8, H8.out.2.1.later B78.out, hB8⟩, hm⟩
        · have da : decide ((1 : Int) ≤ o1.kd) = false := by simp; omega
          clear hin
          go_wp2_with (go_at_call 8; (with_reducible refine HW8.mono ?_); rintro e w9 ⟨rfl, h9⟩; have h9 := h9.symm; subst h9)
          have hlB := HLB.out
          have hlq := HQ0.out.2.2.2.2.2.2.2.2.2.2.2.1
          have hB8 : Below W.heap.size W w8 := (HQ0.out.2.2.1.trans (H10.out.1.toBelow HQ0.out.2.2.1.size (by rintro k (rfl | rfl); exact hlq.1.2; exact hlq.2.2))).trans (B78.out.mono (HQ0.out.2.2.1.trans (H10.out.1.toBelow HQ0.out.2.2.1.size (by rintro k (rfl | rfl); exact hlq.1.2; exact hlq.2.2))).size)
          have hQ8 : QSR (BL (lim + limB o1 t)) W.heap.size qb g3 room (16384 * ((i + 1 : Nat) : Int)) L3 w8 := (H9.out.1.later B78.out).turn (by rintro _ _ _ ⟨rfl, rfl, rfl⟩; exact H9.out.2.1) (by omega)
          rw [hlB] at hQ8
          exact ⟨⟨i + 1, g3, c3, lim, p3, L3, rfl, rfl, rfl, hlt, by have := hlm.out; omega, hQ8, H8.out.2.1.later B78.out, hB8⟩, hm⟩
    · have dl : decide ((i : Int) < (N : Int)) = false := by simp; omega
      have dl2 : decide (i < N) = false := by simp; omega
      go_wp2_with fail
      go_ret
      exact ⟨rfl, HQ0.out.2.2.1⟩
set_option maxRecDepth 100000 in
theorem balance_bad (room : Int) (p : Option Addr) (N c : Nat) (W : World) (h : room < 1 ∨ 8192 < room) :
    Calls Try.prog 3 #[.int .i64 room, .slice p N c] W fun e W' => e = .returned (.bool true) ∧ Below W.heap.size W W' := by
  have HN := q_newBad room h W
  by_cases h1 : room < 1
  · have d1 : decide (room < 1) = true := by simpa using h1
    clear h h1
    go_enter Try.func3, Try.ntmps3
    go_wp2_with (go_at_call 6; (with_reducible refine HN.mono ?_); rintro e w1 ⟨rfl, h9⟩; subst h9)
    go_ret
    exact ⟨rfl, Below.refl _ _⟩
  · have d1 : decide (room < 1) = false := by simpa using h1
    have d2 : decide (8192 < room) = true := by simp; omega
    clear h h1
    go_enter Try.func3, Try.ntmps3
    go_wp2_with (go_at_call 6; (with_reducible refine HN.mono ?_); rintro e w1 ⟨rfl, h9⟩; subst h9)
    go_ret
    exact ⟨rfl, Below.refl _ _⟩
theorem balance_law (room : Int) (p : Option Addr) (N c : Nat) (O : Nat → OpV) (W : World) (hk : OpsIn W p N O) (hN : N ≤ 3000000000000) :
    Calls Try.prog 3 #[.int .i64 room, .slice p N c] W fun e W' => e = .returned (.bool true) ∧ Below W.heap.size W W' := by
  by_cases h : room < 1 ∨ 8192 < room
  · exact balance_bad room p N c W h
  · exact balance_good room p N c O W (by omega) (by omega) hk hN
end Go.Proofs.Ytlklolmhaiaaiaa
