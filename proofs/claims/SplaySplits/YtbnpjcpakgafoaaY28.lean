import Derived.Test.YtbnpjcpakgafoaaY28a
namespace Go.Proofs.Ytbnpjcpakgafoaa
open Go.ChangeShapes Go.WideShapes Go.ChangeAt Go.RowKit
set_option linter.unusedVariables false
set_option linter.unusedSimpArgs false

theorem parts {L L1 L2 : List Ev} {X2 X3 X4 : Nat → Ev} (hL : L = L1 ++ L2) (h2 : ∀ i, i < L.length → L[i]? = some (X2 i)) (h3 : ∀ i, i < L2.length → L2[i]? = some (X3 i)) (h4 : ∀ i, i < L1.length → L1[i]? = some (X4 i)) : (∀ i, i < L1.length → X2 (0 + i) = X4 i) ∧ ∀ i, i < L2.length → X2 (L1.length + i) = X3 i := by
  subst hL
  rw [List.length_append] at h2
  refine ⟨fun i hi => ?_, fun i hi => ?_⟩
  · have := h2 i (by omega)
    rw [List.getElem?_append_left hi, h4 i hi] at this
    rw [Nat.zero_add]
    exact (Option.some.inj this).symm
  · have := h2 (L1.length + i) (by omega)
    rw [List.getElem?_append_right (by omega), show L1.length + i - L1.length = i by omega, h3 i hi] at this
    exact (Option.some.inj this).symm
theorem sameEvents_nn (n : Nat) (F : Nat → Value) (p1 p2 : Option Addr) (hL : n ≤ 1000000) (w : World) (h1 : XAt w p1 n F) (h2 : XAt w p2 n F) (hs : EvSh n F) :
    Calls Try.prog 11 #[.slice p1 n n, .slice p2 n n] w fun e w' => e = .returned (.bool true) ∧ Below w.heap.size w w' := sameEvents_yes n F p1 p2 n n hL w h1 h2 hs
set_option maxRecDepth 100000 in
set_option maxHeartbeats 8000000 in
theorem splits_law (p : Option Addr) (N c : Nat) (X : Nat → Ev) (u : Int) (W : World) (hk : EvIn W p N X) (hc : N ≤ c) (hN : N ≤ 1000000000000000000) :
    Calls Try.prog 3 #[.slice p N c, .int .u64 u] W fun e W' => e = .returned (.bool true) ∧ Below W.heap.size W W' := by
  have HF := filled_any p N c X W hk hc hN
  clear hk hc hN
  go_enter Try.func3, Try.ntmps3
  go_upto_region 4 with (go_at_call 8; (with_reducible refine HF.mono ?_); rintro e w1 ⟨qb, g, M, L, rfl, hQ1, hM, hz1, hz2, hFl, hb1⟩; have HQ1 : Hid (QS W.heap.size qb g ((M : Int) + 1) (8192 * (M : Int)) L w1) := hQ1; have HLM : Hid (L.length ≤ M) := hFl.1; clear hFl hQ1 HF hz1 hz2)
  have HL1 := listS w1 HQ1.out
  have hg1 := HQ1.out.lt
  have hsrt0 := HQ1.out.srt
  go_upto_region 5 with (go_at_call 9; (with_reducible refine HL1.mono ?_); rintro e w2 ⟨b2, X2, rfl, hE2, hs2, hX2, hb2, hQ2, hC2⟩; have HQ2 : Hid (QS W.heap.size qb g ((M : Int) + 1) (8192 * (M : Int)) L w2) := hQ2; have HE2 : Hid (EvsL w2 b2 L.length X2) := hE2; clear hQ2 hE2 hs2 HL1 HQ1)
  have HS := splitS u w2 HQ2.out (by omega)
  go_upto_region 6 with (go_at_call 10; (with_reducible refine HS.mono ?_); rintro e w3 ⟨b3, X3, L1, L2, rfl, hL, hE3, hX3, hb3, ht1, ht2, hQ3, hC3⟩; have HQ3 : Hid (QS W.heap.size qb g ((M : Int) + 1) (8192 * (M : Int) + 8192) L1 w3) := hQ3; have HE3 : Hid (EvsL w3 b3 L2.length X3) := hE3; clear hQ3 hE3 HS)
  have HL4 := listS w3 HQ3.out
  go_upto_region 7 with (go_at_call 9; (with_reducible refine HL4.mono ?_); rintro e w4 ⟨b4, X4, rfl, hE4, hs4, hX4, hb4, hQ4, hC4⟩; have HQ4 : Hid (QS W.heap.size qb g ((M : Int) + 1) (8192 * (M : Int) + 8192) L1 w4) := hQ4; have HE4 : Hid (EvsL w4 b4 L1.length X4) := hE4; clear hQ4 hE4 hs4 HL4 HQ3)
  have hll : L.length = L1.length + L2.length := by rw [hL, List.length_append]
  have hLM := HLM.out
  have hszs : w1.heap.size ≤ w2.heap.size ∧ w2.heap.size ≤ w3.heap.size := ⟨hC2.size, hC3.size⟩
  have nb2 : ¬ S2 qb g b2 := by rintro (e | e) <;> omega
  have nb3 : ¬ S2 qb g b3 := by rintro (e | e) <;> omega
  have hE2 : EvsL w4 b2 L.length X2 := (HE2.out.keep hC3 nb2).keep hC4 nb2
  have hE3 : EvsL w4 b3 L2.length X3 := HE3.out.keep hC4 nb3
  obtain ⟨hp1, hp2⟩ := parts hL hX2 hX3 hX4
  have hB4 : Below W.heap.size W w4 := by
    have hs : ∀ k, S2 qb g k → W.heap.size ≤ k := by rintro k (rfl | rfl); exact hg1.1.2; exact hg1.2.2
    exact hb1.trans (((hC2.trans hC3).trans hC4).toBelow hb1.size hs)
  have HEV : Hid (EvsL w4 b2 L.length X2 ∧ EvsL w4 b3 L2.length X3 ∧ EvsL w4 b4 L1.length X4) := ⟨hE2, hE3, HE4.out⟩
  have HLS : Hid (L = L1 ++ L2 ∧ L.length = L1.length + L2.length ∧ (∀ i, i < L.length → L[i]? = some (X2 i)) ∧ (∀ i, i < L2.length → L2[i]? = some (X3 i)) ∧ (∀ i, i < L1.length → L1[i]? = some (X4 i)) ∧ (∀ x ∈ L1, x.t < u) ∧ ∀ x ∈ L2, u ≤ x.t) := ⟨hL, hll, hX2, hX3, hX4, ht1, ht2⟩
  have HP : Hid ((∀ i, i < L1.length → X2 (0 + i) = X4 i) ∧ ∀ i, i < L2.length → X2 (L1.length + i) = X3 i) := ⟨hp1, hp2⟩
  have hsz1 : L1.length + L2.length ≤ 4000 := by omega
  have hLM2 : L1.length + L2.length ≤ M := by omega
  clear hE2 hE3 HE2 HE3 HE4 hL hX2 hX3 hX4 ht1 ht2 hp1 hp2 hC2 hC3 hC4 HQ2 hb1
  try rw [hll]
  clear hll hLM
  generalize hn1 : L1.length = n1 at hsz1 hLM2 HP ⊢
  generalize hn2 : L2.length = n2 at hsz1 hLM2 HP ⊢
  have HB4 : Hid (Below W.heap.size W w4) := hB4
  have HSRT : Hid (L.Pairwise keyLt) := hsrt0
  have HNB : Hid ((¬ S2 qb g b2) ∧ (¬ S2 qb g b3) ∧ L1.length = n1 ∧ L2.length = n2 ∧ M ≤ 4000 ∧ b2 < w4.heap.size ∧ b3 < w4.heap.size ∧ n1 + n2 ≤ 4000 ∧ n1 + n2 ≤ M) := ⟨nb2, nb3, hn1, hn2, hM, HEV.out.1.1, HEV.out.2.1.1, hsz1, hLM2⟩
  obtain ⟨n, hnn⟩ : ∃ n, n1 + n2 = n := ⟨_, rfl⟩
  have e1 : IntKind.i64.wrap ((n1 : Int) + (n2 : Int)) = (n : Int) := by rw [IntKind.wrap_i64]; omega
  have s1 : (n1 : Int) ≤ (n : Int) := by omega
  have s2 : n1 ≤ n := by omega
  have s3 : n - n1 = n2 := by omega
  rw [hnn]
  have HNN : Hid (n1 + n2 = n) := hnn
  have HLN : Hid (L.length = n ∧ n ≤ 1000000) := ⟨by have h3 := HLS.out.2.1; omega, by omega⟩
  have HS1 := sameEvents_yes n1 (fun j => evC (X4 (j / 6)) (j % 6)) (some ⟨b4, 0, none⟩) (some ⟨b2, 0, none⟩) n1 n (by omega) w4 (by have h := HEV.out.2.2.xat 0 n1 (by omega); simpa using h) (by have h := HEV.out.1.xatEq (Y := X4) 0 n1 (by have := HLS.out.2.1; omega) HP.out.1; simpa using h) (evSh_evC n1 X4)
  have hX3w : Hid (XAt w4 (some ⟨b3, 0, none⟩) n2 (fun j => evC (X3 (j / 6)) (j % 6)) ∧ XAt w4 (some ⟨b2, n1 * 6, none⟩) n2 (fun j => evC (X3 (j / 6)) (j % 6)) ∧ n2 ≤ 1000000) := ⟨by have h := HEV.out.2.1.xat 0 n2 (by omega); simpa using h, HEV.out.1.xatEq (Y := X3) n1 n2 (by have := HLS.out.2.1; omega) HP.out.2, by omega⟩
  clear hnn hB4 hsrt0 nb2 nb3 hn1 hn2 hM hsz1 hLM2 hszs hb2 hb3 hb4 hg1 HLM HP
  have HS2 : ∀ w5 : World, Below w4.heap.size w4 w5 → Calls Try.prog 11 #[.slice (some ⟨b3, 0, none⟩) n2 n2, .slice (some ⟨b2, n1 * 6, none⟩) n2 n2] w5 fun e w' => e = .returned (.bool true) ∧ Below w5.heap.size w5 w' := fun w5 hbS => sameEvents_yes n2 _ _ _ n2 n2 hX3w.out.2.2 w5 (hX3w.out.1.below hbS) (hX3w.out.2.1.below hbS) (evSh_evC n2 X3)
  have HS2z : ∀ w5 : World, Below w4.heap.size w4 w5 → n = n1 → Calls Try.prog 11 #[.slice (some ⟨b3, 0, none⟩) n2 n2, .slice (some ⟨b2, 0, none⟩) n2 n2] w5 fun e w' => e = .returned (.bool true) ∧ Below w5.heap.size w5 w' := fun w5 hbS hz => sameEvents_yes n2 _ _ _ n2 n2 hX3w.out.2.2 w5 (hX3w.out.1.below hbS) (.inl (by have := HNN.out; omega)) (evSh_evC n2 X3)
  have HS2H : Hid ((∀ w5 : World, Below w4.heap.size w4 w5 → Calls Try.prog 11 #[.slice (some ⟨b3, 0, none⟩) n2 n2, .slice (some ⟨b2, n1 * 6, none⟩) n2 n2] w5 fun e w' => e = .returned (.bool true) ∧ Below w5.heap.size w5 w') ∧ ∀ w5 : World, Below w4.heap.size w4 w5 → n = n1 → Calls Try.prog 11 #[.slice (some ⟨b3, 0, none⟩) n2 n2, .slice (some ⟨b2, 0, none⟩) n2 n2] w5 fun e w' => e = .returned (.bool true) ∧ Below w5.heap.size w5 w') := ⟨HS2, HS2z⟩
  clear HS2 HS2z
  go_wp2_with (first | (go_at_call 11; have h99 := hbS; clear h99; first | ((with_reducible refine (HS2H.out.1 w5 hbS).mono ?_); rintro e w6 ⟨rfl, hbS2⟩) | ((with_reducible refine (HS2H.out.2 w5 hbS h).mono ?_); rintro e w6 ⟨rfl, hbS2⟩)) | (go_at_call 11; (with_reducible refine HS1.mono ?_); rintro e w5 ⟨rfl, hbS⟩))
  all_goals
    first | (have h' := h.symm; subst h') | clear h
    clear s1 s2 s3 e1 HS1 HS2H hX3w
    have hb6 : Below w4.heap.size w4 w6 := hbS.trans (hbS2.mono hbS.size)
    have HQ6 : Hid (QS W.heap.size qb g ((M : Int) + 1) (8192 * (M : Int) + 8192) L1 w6) := HQ4.out.later hb6
    have HEV6 : Hid (EvsL w6 b2 L.length X2 ∧ EvsL w6 b3 L2.length X3 ∧ EvsL w6 b4 L1.length X4) := ⟨HEV.out.1.later hb6, HEV.out.2.1.later hb6, HEV.out.2.2.later hb6⟩
    have HB6 : Hid (Below W.heap.size W w6) := HB4.out.trans (hb6.mono HB4.out.size)
    clear hb6 hbS hbS2 HQ4 HEV HB4
    go_loopw [10] (fun x wr => ∃ i : Nat, x = .int .i64 (i : Int) ∧ i ≤ n1 ∧ wr = w6) (fun x _ => n1 - (intOf x).toNat)
    case atStart => exact ⟨0, rfl, Nat.zero_le _, rfl⟩
    case round =>
      obtain ⟨i, rfl, hi, rfl⟩ := hrel
      by_cases hlt : i < n1
      · have dl : decide ((i : Int) < (n1 : Int)) = true := by simp; omega
        have hm := meas hlt
        have i0 : (0 : Int) ≤ (i : Int) := by omega
        have i1 : (i : Int) < (n1 : Int) := by omega
        have hl9 : i < L1.length := by have := HNB.out; omega
        have x0 : wr.cell? ⟨b4, i * 6, none⟩ = some (.int .u64 (X4 i).t) := HEV6.out.2.2.2 i 0 hl9 (by decide)
        have hx4 := HLS.out.2.2.2.2.2.1 (X4 i) (List.mem_of_getElem? (HLS.out.2.2.2.2.1 i hl9))
        have du : decide (u ≤ (X4 i).t) = false := by simp; omega
        have ei : IntKind.i64.wrap ((i : Int) + 1) = (i : Int) + 1 := by have := HNB.out; rw [IntKind.wrap_i64]; omega
        clear hx4 hl9
        go_wp2_with fail
        exact ⟨⟨i + 1, rfl, hlt, by first | rfl | trivial⟩, hm⟩
      · have dl : decide ((i : Int) < (n1 : Int)) = false := by simp; omega
        go_wp2_with fail
        go_loopw [11] (fun x w9 => ∃ (j g' : Nat), x = .int .i64 (j : Int) ∧ j ≤ n2 ∧ QS W.heap.size qb g' ((M : Int) + 1) (8192 * (M : Int) + 8192 + 8192 * (j : Int)) (L1 ++ L2.drop (n2 - j)) w9 ∧ EvsL w9 b2 L.length X2 ∧ EvsL w9 b3 L2.length X3 ∧ b2 ≠ g' ∧ b3 ≠ g' ∧ Below W.heap.size W w9) (fun x _ => n2 - (intOf x).toNat)
        case atStart =>
          refine ⟨0, g, rfl, Nat.zero_le _, ?_, HEV6.out.1, HEV6.out.2.1, fun e => HNB.out.1 (.inr e), fun e => HNB.out.2.1 (.inr e), HB6.out⟩
          have h9 : L2.drop (n2 - 0) = [] := by rw [List.drop_eq_nil_iff]; have := HNB.out; omega
          rw [h9, List.append_nil]
          exact HQ6.out.up (by omega)
        case round =>
          obtain ⟨j, g', rfl, hj, hQ, hE2, hE3, hn2, hn3, hbr⟩ := hrel
          clear HQ6 HEV6 HB6
          by_cases hlt2 : j < n2
          · obtain ⟨k, hk⟩ : ∃ k, k = n2 - 1 - j := ⟨_, rfl⟩
            have dl2 : decide ((j : Int) < (n2 : Int)) = true := by simp; omega
            have hm := meas hlt2
            have i0 : (0 : Int) ≤ (j : Int) := by omega
            have i1 : (j : Int) < (n2 : Int) := by omega
            have i2 : (0 : Int) ≤ (k : Int) := by omega
            have i3 : (k : Int) < (n2 : Int) := by omega
            have hl9 : j < L2.length ∧ k < L2.length := by have := HNB.out; omega
            have hx3 := HLS.out.2.2.2.2.2.2 (X3 j) (List.mem_of_getElem? (HLS.out.2.2.2.1 j hl9.1))
            have du : decide ((X3 j).t < u) = false := by simp; omega
            have xt : wr.cell? ⟨b3, j * 6, none⟩ = some (.int .u64 (X3 j).t) := hE3.2 j 0 hl9.1 (by decide)
            have x0 : wr.cell? ⟨b3, k * 6, none⟩ = some (.int .u64 (X3 k).t) := hE3.2 k 0 hl9.2 (by decide)
            have x1 : wr.cell? ⟨b3, k * 6 + 1, none⟩ = some (.int .i64 (X3 k).s) := hE3.2 k 1 hl9.2 (by decide)
            have x2 : wr.cell? ⟨b3, k * 6 + 2, none⟩ = some (.int .u64 (X3 k).q) := hE3.2 k 2 hl9.2 (by decide)
            have x3 : wr.cell? ⟨b3, k * 6 + 3, none⟩ = some (.int .i64 (X3 k).d) := hE3.2 k 3 hl9.2 (by decide)
            have x4 : wr.cell? ⟨b3, k * 6 + 4, none⟩ = some (.int .i64 (X3 k).k) := hE3.2 k 4 hl9.2 (by decide)
            have x5 : wr.cell? ⟨b3, k * 6 + 5, none⟩ = some (.int .i64 (X3 k).v) := hE3.2 k 5 hl9.2 (by decide)
            have e1 : IntKind.i64.wrap ((n2 : Int) - 1) = (n2 : Int) - 1 := by have := HNB.out; rw [IntKind.wrap_i64]; omega
            have e2 : IntKind.i64.wrap ((n2 : Int) - 1 - (j : Int)) = (k : Int) := by have := HNB.out; rw [IntKind.wrap_i64]; omega
            have ej : IntKind.i64.wrap ((j : Int) + 1) = (j : Int) + 1 := by have := HNB.out; rw [IntKind.wrap_i64]; omega
            have HI := ins_any (X3 k) wr hQ (by have := HNB.out; omega)
            have hd : n2 - j = k + 1 := by omega
            have hsrt : (L1 ++ L2).Pairwise keyLt := by have h9 := HSRT.out; rw [HLS.out.1] at h9; exact h9
            have hpb := putBack hsrt (HLS.out.2.2.2.1 k hl9.2)
            have hlen : ((L1 ++ L2.drop (n2 - j)).length : Int) ≠ (M : Int) + 1 := by
              rw [List.length_append, List.length_drop]
              have := HNB.out
              omega
            have HPB : Hid (n2 - j = k + 1 ∧ k = n2 - 1 - j ∧ (L1 ++ L2).Pairwise keyLt ∧ ((L1 ++ L2.drop (n2 - j)).length : Int) ≠ (M : Int) + 1) := ⟨hd, hk, hsrt, hlen⟩
            have hqv := hQ.lt
            have HH : Hid (EvsL wr b2 L.length X2 ∧ EvsL wr b3 L2.length X3 ∧ b2 ≠ g' ∧ b3 ≠ g' ∧ Below W.heap.size W wr ∧ W.heap.size ≤ qb ∧ W.heap.size ≤ g' ∧ b2 ≠ qb ∧ b3 ≠ qb) := ⟨hE2, hE3, hn2, hn3, hbr, hqv.1.2, hqv.2.2, fun e => HNB.out.1 (.inl e), fun e => HNB.out.2.1 (.inl e)⟩
            clear hx3 hl9 hk hd hsrt hlen hQ hE2 hE3 hn2 hn3 hbr hqv
            unfold evV at HI
            go_wp2_with (go_at_call 12; (with_reducible refine HI.mono ?_); rintro e w10 ⟨code, rfl, hI⟩; obtain ⟨g10, hcode, L9, hQ9, hL9, hx9, hg9, hC9⟩ := insOk hI HPB.out.2.2.2 (by rw [HPB.out.1]; exact hpb.1); subst hcode; have HQ9 : Hid (QS W.heap.size qb g10 ((M : Int) + 1) (8192 * (M : Int) + 8192 + 8192 * (j : Int) + 8192) L9 w10 ∧ (∀ x, x ∈ L9 ↔ x = X3 k ∨ x ∈ L1 ++ L2.drop (n2 - j)) ∧ (g10 = g' ∨ wr.heap.size ≤ g10) ∧ Ch (S2 qb g') wr w10) := ⟨hQ9, hx9, hg9, hC9⟩; clear hI hQ9 hL9 hx9 hg9 hC9)
            obtain ⟨hQ9, hx9, hg9, hC9⟩ := HQ9.out
            obtain ⟨hd, hk, hsrt, hlen⟩ := HPB.out
            obtain ⟨hE2, hE3, hn2, hn3, hbr, hq1, hq2, hq3, hq4⟩ := HH.out
            rw [hd] at hx9
            have hL9 := hpb.2 L9 hQ9.srt hx9
            rw [show k = n2 - (j + 1) by omega] at hL9
            rw [hL9] at hQ9
            have z2 : ¬ S2 qb g' b2 := by rintro (e | e); exact hq3 e; exact hn2 e
            have z3 : ¬ S2 qb g' b3 := by rintro (e | e); exact hq4 e; exact hn3 e
            refine ⟨⟨j + 1, g10, rfl, hlt2, hQ9.up (by omega), hE2.keep hC9 z2, hE3.keep hC9 z3, ?_, ?_, hbr.trans (hC9.toBelow hbr.size (by rintro k9 (rfl | rfl); exact hq1; exact hq2))⟩, hm⟩
            · have := hE2.1; rcases hg9 with e | e <;> omega
            · have := hE3.1; rcases hg9 with e | e <;> omega
          · have dl2 : decide ((j : Int) < (n2 : Int)) = false := by simp; omega
            have hj2 : n2 - j = 0 := by omega
            rw [hj2, List.drop_zero, ← HLS.out.1] at hQ
            have hqv := hQ.lt
            have HLL := listS wr hQ
            have HH : Hid (EvsL wr b2 L.length X2 ∧ b2 ≠ g' ∧ Below W.heap.size W wr ∧ W.heap.size ≤ qb ∧ W.heap.size ≤ g' ∧ b2 ≠ qb) := ⟨hE2, hn2, hbr, hqv.1.2, hqv.2.2, fun e => HNB.out.1 (.inl e)⟩
            rw [HLN.out.1] at HLL
            clear hQ hE2 hE3 hn2 hn3 hbr hqv hj2
            go_wp2_with (first | (go_at_call 9; (with_reducible refine HLL.mono ?_); rintro e w11 ⟨b11, X11, rfl, hE11, hs11, hX11, hb11, hQ11, hC11⟩; have HS11 := sameEvents_nn _ (fun j => evC (X2 (j / 6)) (j % 6)) (some ⟨b11, 0, none⟩) (some ⟨b2, 0, none⟩) HLN.out.2 w11 (by have h := hE11.xatEq (Y := X2) 0 _ (Nat.le_of_eq (Nat.zero_add _)) (fun i9 hi9 => by rw [Nat.zero_add]; have h1 := hX11 i9 hi9; have h2 := HLS.out.2.2.1 i9 (by rw [HLN.out.1]; exact hi9); rw [h1] at h2; exact Option.some.inj h2); simpa using h) (by have h := (HH.out.1.keep hC11 (by rintro (e | e); exact HH.out.2.2.2.2.2 e; exact HH.out.2.1 e)).xat 0 L.length (by omega); rw [HLN.out.1] at h; simpa using h) (evSh_evC _ X2); have HC11 : Hid (Ch (S2 qb g') wr w11) := hC11; clear hE11 hs11 hX11 hb11 hQ11 hC11) | (go_at_call 11; (with_reducible refine HS11.mono ?_); rintro e w12 ⟨rfl, hb12⟩))
            go_ret
            refine ⟨rfl, ?_⟩
            have hB11 := HH.out.2.2.1.trans (HC11.out.toBelow HH.out.2.2.1.size (by rintro k9 (rfl | rfl); exact HH.out.2.2.2.1; exact HH.out.2.2.2.2.1))
            exact hB11.trans (hb12.mono hB11.size)
end Go.Proofs.Ytbnpjcpakgafoaa
