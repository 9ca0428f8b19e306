import Derived.Test.YtcibmbcfpecgpaaK1
namespace Go.Proofs.Ytcibmbcfpecgpaa
open Go.ChangeShapes Go.WideShapes Go.ChangeAt Go.RowKit
set_option linter.unusedVariables false

theorem enc_pos (z : Nat) : 0 < (enc z).length := by
  rw [enc]
  split <;> simp
theorem own_some {W : World} {base E sz n : Nat} {v : Value} {xs : List Value} (h : W.ownsRow base E sz v n xs) (hn : 0 < n) : ∃ g c, v = .slice (some ⟨g, 0, none⟩) n c := by
  rcases h.2 with ⟨_, h2⟩ | ⟨g, c, cur, h1, _⟩
  · omega
  · exact ⟨g, c, h1⟩
theorem rNum_some (z : Nat) (hz : z < 18446744073709551616) (w : World) :
    Calls Try.prog 19 #[.int .u64 z] w fun e w' => ∃ g c, e = .returned (.slice (some ⟨g, 0, none⟩) (enc z).length c) ∧ w'.ownsRow w.heap.size 5 1 (.slice (some ⟨g, 0, none⟩) (enc z).length c) (enc z).length (bcs (enc z)) ∧ Below w.heap.size w w' := by
  refine (rNum_any z hz w).mono ?_
  rintro e w' ⟨v', rfl, h1, h2⟩
  obtain ⟨g, c, rfl⟩ := own_some h1 (enc_pos z)
  exact ⟨g, c, rfl, h1, h2⟩

set_option maxRecDepth 100000 in
set_option maxHeartbeats 1000000 in
theorem rSign_some (i : Int) (h : -9223372036854775808 ≤ i ∧ i ≤ 9223372036854775807) (w : World) :
    Calls Try.prog 20 #[.int .i64 i] w fun e w' => ∃ g c, e = .returned (.slice (some ⟨g, 0, none⟩) (enc (zig i)).length c) ∧ w'.ownsRow w.heap.size 5 1 (.slice (some ⟨g, 0, none⟩) (enc (zig i)).length c) (enc (zig i)).length (bcs (enc (zig i))) ∧ Below w.heap.size w w' := by
  obtain ⟨h0, h1⟩ := h
  have hz := zig_lt i h0 h1
  have HN := rNum_some (zig i) hz w
  by_cases hp : 0 ≤ i
  · have d1 : decide (i ≥ 0) = true := decide_eq_true hp
    have d1' : decide (0 ≤ i) = true := decide_eq_true hp
    have e : ((zig i : Nat) : Int) = 2 * i := by unfold zig; rw [if_pos hp]; omega
    rw [e] at HN
    have HN' : Hid (Calls Try.prog 19 #[.int .u64 (2 * i)] w fun e w' => ∃ g c, e = .returned (.slice (some ⟨g, 0, none⟩) (enc (zig i)).length c) ∧ w'.ownsRow w.heap.size 5 1 (.slice (some ⟨g, 0, none⟩) (enc (zig i)).length c) (enc (zig i)).length (bcs (enc (zig i))) ∧ Below w.heap.size w w') := HN
    clear HN e hz
    go_enter Try.func20, Try.ntmps20
    go_wp2_with fail
    refine HN'.out.mono ?_
    rintro x w1 ⟨g, c, rfl, o1, b1⟩
    go_wp2_with fail
    go_ret
    exact ⟨_, _, rfl, o1, b1⟩
  · have d1 : decide (i ≥ 0) = false := decide_eq_false hp
    have d1' : decide (0 ≤ i) = false := decide_eq_false hp
    have e : ((zig i : Nat) : Int) = 2 * -(i + 1) + 1 := by unfold zig; rw [if_neg hp]; omega
    rw [e] at HN
    have HN' : Hid (Calls Try.prog 19 #[.int .u64 (2 * -(i + 1) + 1)] w fun e w' => ∃ g c, e = .returned (.slice (some ⟨g, 0, none⟩) (enc (zig i)).length c) ∧ w'.ownsRow w.heap.size 5 1 (.slice (some ⟨g, 0, none⟩) (enc (zig i)).length c) (enc (zig i)).length (bcs (enc (zig i))) ∧ Below w.heap.size w w') := HN
    clear HN e hz
    go_enter Try.func20, Try.ntmps20
    go_wp2_with fail
    refine HN'.out.mono ?_
    rintro x w1 ⟨g, c, rfl, o1, b1⟩
    go_wp2_with fail
    go_ret
    exact ⟨_, _, rfl, o1, b1⟩
theorem bcs_one (l : List Nat) : ∀ u ∈ bcs l, u.oneCell' = true := by
  intro u hu
  unfold bcs at hu
  obtain ⟨c, _, rfl⟩ := List.mem_map.1 hu
  rfl
theorem own_news {W : World} {base g n c : Nat} {xs : List Value} {E sz : Nat} (h : W.ownsRow base E sz (.slice (some ⟨g, 0, none⟩) n c) n xs) : ∀ j u, xs[j]? = some u → W.cell? ((⟨g, 0, none⟩ : Addr).add j) = some u := h.cells (g := g) rfl
theorem own_below2 {w w' : World} {base E sz n : Nat} {v : Value} {xs : List Value} (h : w.ownsRow base E sz v n xs) (hb : Below w.heap.size w w') : w'.ownsRow base E sz v n xs := by
  refine ⟨h.1, ?_⟩
  rcases h.2 with h | ⟨g, cap, cur, rfl, hg, hh, r⟩
  · exact Or.inl h
  · exact Or.inr ⟨g, cap, cur, rfl, hg, (hb.block g (Array.getElem?_eq_some_iff.1 hh).1).trans hh, r⟩
theorem box6 {w W : World} {B : Nat} {c0 c1 c2 c3 c4 c5 : Value} {T : TypeId} (hb : Below B (w.alloc (.cells #[c0, c1, c2, c3, c4, c5] T)) W) (hB : w.heap.size < B) : W.cell? ⟨w.heap.size, 0, none⟩ = some c0 ∧ W.cell? ⟨w.heap.size, 1, none⟩ = some c1 ∧ W.cell? ⟨w.heap.size, 2, none⟩ = some c2 ∧ W.cell? ⟨w.heap.size, 3, none⟩ = some c3 ∧ W.cell? ⟨w.heap.size, 4, none⟩ = some c4 ∧ W.cell? ⟨w.heap.size, 5, none⟩ = some c5 := by
  have h := (hb.block w.heap.size hB).trans (heap_alloc_new w _)
  refine ⟨?_, ?_, ?_, ?_, ?_, ?_⟩
  all_goals (unfold World.cell?; rw [h]; rfl)

set_option maxRecDepth 100000 in
set_option maxHeartbeats 2000000 in
theorem rPack_any (t q : Nat) (s d k v : Int) (ht : t < 18446744073709551616) (hq : q < 18446744073709551616) (hs : -9223372036854775808 ≤ s ∧ s ≤ 9223372036854775807) (hd : -9223372036854775808 ≤ d ∧ d ≤ 9223372036854775807) (hk : -9223372036854775808 ≤ k ∧ k ≤ 9223372036854775807) (hv : -9223372036854775808 ≤ v ∧ v ≤ 9223372036854775807) (w : World) :
    Calls Try.prog 7 #[.agg #[.int .u64 t, .int .i64 s, .int .u64 q, .int .i64 d, .int .i64 k, .int .i64 v]] w fun e w' => ∃ g c, e = .returned (.slice (some ⟨g, 0, none⟩) (evb t q s d k v).length c) ∧ w'.ownsRow w.heap.size 5 1 (.slice (some ⟨g, 0, none⟩) (evb t q s d k v).length c) (evb t q s d k v).length (bcs (evb t q s d k v)) ∧ Below w.heap.size w w' := by
  obtain ⟨i5, hi5, ha5, hb5, hc5⟩ := infoQ Try.info5'
  have e0 := enc_len10 t ht
  have e1 := enc_len10 (zig s) (zig_lt s hs.1 hs.2)
  have e2 := enc_len10 q hq
  have e3 := enc_len10 (zig d) (zig_lt d hd.1 hd.2)
  have e4 := enc_len10 (zig k) (zig_lt k hk.1 hk.2)
  have e5 := enc_len10 (zig v) (zig_lt v hv.1 hv.2)
  have hB0 : Below (w.heap.size + 1) (w.alloc (.cells #[.int .u64 t, .int .i64 s, .int .u64 q, .int .i64 d, .int .i64 k, .int .i64 v] 26)) (w.alloc (.cells #[.int .u64 t, .int .i64 s, .int .u64 q, .int .i64 d, .int .i64 k, .int .i64 v] 26)) := Below.refl _ _
  go_enter Try.func7, Try.ntmps7
  go_wp2_with fail
  refine (rNum_some t ht _).mono ?_
  rintro x w1 ⟨g1, c1, rfl, o1, b1⟩
  rw [World.size_alloc] at o1 b1
  obtain ⟨z0, z1, z2, z3, z4, z5⟩ := box6 b1 (Nat.lt_succ_self _)
  have HO1 : Hid (w1.ownsRow (w.heap.size + 1) 5 1 (.slice (some ⟨g1, 0, none⟩) (enc t).length c1) (enc t).length (bcs (enc t))) := o1
  have HB1 : Hid (Below (w.heap.size + 1) (w.alloc (.cells #[.int .u64 t, .int .i64 s, .int .u64 q, .int .i64 d, .int .i64 k, .int .i64 v] 26)) w1) := b1
  clear o1 b1
  have hsz1 : w.heap.size + 1 ≤ w1.heap.size := by have := HB1.out.size; simpa using this
  go_wp2_with fail
  refine (rSign_some s hs w1).mono ?_
  rintro x y1 ⟨f1, d1, rfl, p1, r1⟩
  have HP1 : Hid (y1.ownsRow w1.heap.size 5 1 (.slice (some ⟨f1, 0, none⟩) (enc (zig s)).length d1) (enc (zig s)).length (bcs (enc (zig s)))) := p1
  have HY1 : Hid (Below (w.heap.size + 1) (w.alloc (.cells #[.int .u64 t, .int .i64 s, .int .u64 q, .int .i64 d, .int .i64 k, .int .i64 v] 26)) y1) := HB1.out.trans (r1.mono hsz1)
  have HQ1 : Hid (y1.ownsRow (w.heap.size + 1) 5 1 (.slice (some ⟨g1, 0, none⟩) (enc t).length c1) (enc t).length (bcs (enc t))) := own_below2 HO1.out r1
  have hys1 : w.heap.size + 1 ≤ y1.heap.size := Nat.le_trans hsz1 r1.size
  have u1 : (enc t).length + (enc (zig s)).length ≤ maxLen := by unfold maxLen; omega
  have k1 : ((enc t).length + (enc (zig s)).length) * 1 ≤ 140737488355328 := by omega
  clear p1 r1
  go_wp2_with (at_builtin; refine wpList_append_own_at _ rfl _ _ 29 rfl (w.heap.size + 1) 5 i5 _ 1 1 Try.underlying29 hi5 ha5 hb5 hc5 rfl (by decide) _ _ _ rfl HQ1.out ⟨f1, 0, none⟩ _ d1 (bcs (enc (zig s))) rfl (by rw [bcs_len, Nat.mul_one]) (own_news HP1.out) (bcs_one _) u1 k1 hys1 ?_; intro v1 w2 ow1 gr1 _ _; rw [← bcs_app, ← List.length_append] at ow1; obtain ⟨A2, hA2⟩ : ∃ A, (enc t) ++ enc (zig s) = A := ⟨_, rfl⟩; rw [hA2] at ow1; have hL2 : 0 < A2.length ∧ A2.length ≤ 20 := (by rw [← hA2, List.length_append]; have := enc_pos t; omega); have HA2 : Hid ((enc t) ++ enc (zig s) = A2) := hA2; clear hA2; obtain ⟨g2, c2, rfl⟩ := own_some ow1 hL2.1; have HB2 : Hid (Below (w.heap.size + 1) (w.alloc (.cells #[.int .u64 t, .int .i64 s, .int .u64 q, .int .i64 d, .int .i64 k, .int .i64 v] 26)) w2) := HY1.out.grown gr1 hys1 (fun r e => own_base2 HQ1.out e); obtain ⟨z0, z1, z2, z3, z4, z5⟩ := box6 HB2.out (Nat.lt_succ_self _); have HO2 : Hid (w2.ownsRow (w.heap.size + 1) 5 1 (.slice (some ⟨g2, 0, none⟩) A2.length c2) A2.length (bcs A2)) := ow1; have hsz2 : w.heap.size + 1 ≤ w2.heap.size := Nat.le_trans hys1 gr1.size; clear ow1 gr1)
  go_wp2_with fail
  refine (rNum_some q hq w2).mono ?_
  rintro x y2 ⟨f2, d2, rfl, p2, r2⟩
  have HP2 : Hid (y2.ownsRow w2.heap.size 5 1 (.slice (some ⟨f2, 0, none⟩) (enc q).length d2) (enc q).length (bcs (enc q))) := p2
  have HY2 : Hid (Below (w.heap.size + 1) (w.alloc (.cells #[.int .u64 t, .int .i64 s, .int .u64 q, .int .i64 d, .int .i64 k, .int .i64 v] 26)) y2) := HB2.out.trans (r2.mono hsz2)
  have HQ2 : Hid (y2.ownsRow (w.heap.size + 1) 5 1 (.slice (some ⟨g2, 0, none⟩) A2.length c2) A2.length (bcs A2)) := own_below2 HO2.out r2
  have hys2 : w.heap.size + 1 ≤ y2.heap.size := Nat.le_trans hsz2 r2.size
  have u2 : A2.length + (enc q).length ≤ maxLen := by unfold maxLen; omega
  have k2 : (A2.length + (enc q).length) * 1 ≤ 140737488355328 := by omega
  clear p2 r2
  go_wp2_with (at_builtin; refine wpList_append_own_at _ rfl _ _ 29 rfl (w.heap.size + 1) 5 i5 _ 1 1 Try.underlying29 hi5 ha5 hb5 hc5 rfl (by decide) _ _ _ rfl HQ2.out ⟨f2, 0, none⟩ _ d2 (bcs (enc q)) rfl (by rw [bcs_len, Nat.mul_one]) (own_news HP2.out) (bcs_one _) u2 k2 hys2 ?_; intro v2 w3 ow2 gr2 _ _; rw [← bcs_app, ← List.length_append] at ow2; obtain ⟨A3, hA3⟩ : ∃ A, A2 ++ enc q = A := ⟨_, rfl⟩; rw [hA3] at ow2; have hL3 : 0 < A3.length ∧ A3.length ≤ 30 := (by rw [← hA3, List.length_append]; have := enc_pos t; omega); have HA3 : Hid (A2 ++ enc q = A3) := hA3; clear hA3; obtain ⟨g3, c3, rfl⟩ := own_some ow2 hL3.1; have HB3 : Hid (Below (w.heap.size + 1) (w.alloc (.cells #[.int .u64 t, .int .i64 s, .int .u64 q, .int .i64 d, .int .i64 k, .int .i64 v] 26)) w3) := HY2.out.grown gr2 hys2 (fun r e => own_base2 HQ2.out e); obtain ⟨z0, z1, z2, z3, z4, z5⟩ := box6 HB3.out (Nat.lt_succ_self _); have HO3 : Hid (w3.ownsRow (w.heap.size + 1) 5 1 (.slice (some ⟨g3, 0, none⟩) A3.length c3) A3.length (bcs A3)) := ow2; have hsz3 : w.heap.size + 1 ≤ w3.heap.size := Nat.le_trans hys2 gr2.size; clear ow2 gr2)
  go_wp2_with fail
  refine (rSign_some d hd w3).mono ?_
  rintro x y3 ⟨f3, d3, rfl, p3, r3⟩
  have HP3 : Hid (y3.ownsRow w3.heap.size 5 1 (.slice (some ⟨f3, 0, none⟩) (enc (zig d)).length d3) (enc (zig d)).length (bcs (enc (zig d)))) := p3
  have HY3 : Hid (Below (w.heap.size + 1) (w.alloc (.cells #[.int .u64 t, .int .i64 s, .int .u64 q, .int .i64 d, .int .i64 k, .int .i64 v] 26)) y3) := HB3.out.trans (r3.mono hsz3)
  have HQ3 : Hid (y3.ownsRow (w.heap.size + 1) 5 1 (.slice (some ⟨g3, 0, none⟩) A3.length c3) A3.length (bcs A3)) := own_below2 HO3.out r3
  have hys3 : w.heap.size + 1 ≤ y3.heap.size := Nat.le_trans hsz3 r3.size
  have u3 : A3.length + (enc (zig d)).length ≤ maxLen := by unfold maxLen; omega
  have k3 : (A3.length + (enc (zig d)).length) * 1 ≤ 140737488355328 := by omega
  clear p3 r3
  go_wp2_with (at_builtin; refine wpList_append_own_at _ rfl _ _ 29 rfl (w.heap.size + 1) 5 i5 _ 1 1 Try.underlying29 hi5 ha5 hb5 hc5 rfl (by decide) _ _ _ rfl HQ3.out ⟨f3, 0, none⟩ _ d3 (bcs (enc (zig d))) rfl (by rw [bcs_len, Nat.mul_one]) (own_news HP3.out) (bcs_one _) u3 k3 hys3 ?_; intro v3 w4 ow3 gr3 _ _; rw [← bcs_app, ← List.length_append] at ow3; obtain ⟨A4, hA4⟩ : ∃ A, A3 ++ enc (zig d) = A := ⟨_, rfl⟩; rw [hA4] at ow3; have hL4 : 0 < A4.length ∧ A4.length ≤ 40 := (by rw [← hA4, List.length_append]; have := enc_pos t; omega); have HA4 : Hid (A3 ++ enc (zig d) = A4) := hA4; clear hA4; obtain ⟨g4, c4, rfl⟩ := own_some ow3 hL4.1; have HB4 : Hid (Below (w.heap.size + 1) (w.alloc (.cells #[.int .u64 t, .int .i64 s, .int .u64 q, .int .i64 d, .int .i64 k, .int .i64 v] 26)) w4) := HY3.out.grown gr3 hys3 (fun r e => own_base2 HQ3.out e); obtain ⟨z0, z1, z2, z3, z4, z5⟩ := box6 HB4.out (Nat.lt_succ_self _); have HO4 : Hid (w4.ownsRow (w.heap.size + 1) 5 1 (.slice (some ⟨g4, 0, none⟩) A4.length c4) A4.length (bcs A4)) := ow3; have hsz4 : w.heap.size + 1 ≤ w4.heap.size := Nat.le_trans hys3 gr3.size; clear ow3 gr3)
  go_wp2_with fail
  refine (rSign_some k hk w4).mono ?_
  rintro x y4 ⟨f4, d4, rfl, p4, r4⟩
  have HP4 : Hid (y4.ownsRow w4.heap.size 5 1 (.slice (some ⟨f4, 0, none⟩) (enc (zig k)).length d4) (enc (zig k)).length (bcs (enc (zig k)))) := p4
  have HY4 : Hid (Below (w.heap.size + 1) (w.alloc (.cells #[.int .u64 t, .int .i64 s, .int .u64 q, .int .i64 d, .int .i64 k, .int .i64 v] 26)) y4) := HB4.out.trans (r4.mono hsz4)
  have HQ4 : Hid (y4.ownsRow (w.heap.size + 1) 5 1 (.slice (some ⟨g4, 0, none⟩) A4.length c4) A4.length (bcs A4)) := own_below2 HO4.out r4
  have hys4 : w.heap.size + 1 ≤ y4.heap.size := Nat.le_trans hsz4 r4.size
  have u4 : A4.length + (enc (zig k)).length ≤ maxLen := by unfold maxLen; omega
  have k4 : (A4.length + (enc (zig k)).length) * 1 ≤ 140737488355328 := by omega
  clear p4 r4
  go_wp2_with (at_builtin; refine wpList_append_own_at _ rfl _ _ 29 rfl (w.heap.size + 1) 5 i5 _ 1 1 Try.underlying29 hi5 ha5 hb5 hc5 rfl (by decide) _ _ _ rfl HQ4.out ⟨f4, 0, none⟩ _ d4 (bcs (enc (zig k))) rfl (by rw [bcs_len, Nat.mul_one]) (own_news HP4.out) (bcs_one _) u4 k4 hys4 ?_; intro v4 w5 ow4 gr4 _ _; rw [← bcs_app, ← List.length_append] at ow4; obtain ⟨A5, hA5⟩ : ∃ A, A4 ++ enc (zig k) = A := ⟨_, rfl⟩; rw [hA5] at ow4; have hL5 : 0 < A5.length ∧ A5.length ≤ 50 := (by rw [← hA5, List.length_append]; have := enc_pos t; omega); have HA5 : Hid (A4 ++ enc (zig k) = A5) := hA5; clear hA5; obtain ⟨g5, c5, rfl⟩ := own_some ow4 hL5.1; have HB5 : Hid (Below (w.heap.size + 1) (w.alloc (.cells #[.int .u64 t, .int .i64 s, .int .u64 q, .int .i64 d, .int .i64 k, .int .i64 v] 26)) w5) := HY4.out.grown gr4 hys4 (fun r e => own_base2 HQ4.out e); obtain ⟨z0, z1, z2, z3, z4, z5⟩ := box6 HB5.out (Nat.lt_succ_self _); have HO5 : Hid (w5.ownsRow (w.heap.size + 1) 5 1 (.slice (some ⟨g5, 0, none⟩) A5.length c5) A5.length (bcs A5)) := ow4; have hsz5 : w.heap.size + 1 ≤ w5.heap.size := Nat.le_trans hys4 gr4.size; clear ow4 gr4)
  go_wp2_with fail
  refine (rSign_some v hv w5).mono ?_
  rintro x y5 ⟨f5, d5, rfl, p5, r5⟩
  have HP5 : Hid (y5.ownsRow w5.heap.size 5 1 (.slice (some ⟨f5, 0, none⟩) (enc (zig v)).length d5) (enc (zig v)).length (bcs (enc (zig v)))) := p5
  have HY5 : Hid (Below (w.heap.size + 1) (w.alloc (.cells #[.int .u64 t, .int .i64 s, .int .u64 q, .int .i64 d, .int .i64 k, .int .i64 v] 26)) y5) := HB5.out.trans (r5.mono hsz5)
  have HQ5 : Hid (y5.ownsRow (w.heap.size + 1) 5 1 (.slice (some ⟨g5, 0, none⟩) A5.length c5) A5.length (bcs A5)) := own_below2 HO5.out r5
  have hys5 : w.heap.size + 1 ≤ y5.heap.size := Nat.le_trans hsz5 r5.size
  have u5 : A5.length + (enc (zig v)).length ≤ maxLen := by unfold maxLen; omega
  have k5 : (A5.length + (enc (zig v)).length) * 1 ≤ 140737488355328 := by omega
  clear p5 r5
  go_wp2_with (at_builtin; refine wpList_append_own_at _ rfl _ _ 29 rfl (w.heap.size + 1) 5 i5 _ 1 1 Try.underlying29 hi5 ha5 hb5 hc5 rfl (by decide) _ _ _ rfl HQ5.out ⟨f5, 0, none⟩ _ d5 (bcs (enc (zig v))) rfl (by rw [bcs_len, Nat.mul_one]) (own_news HP5.out) (bcs_one _) u5 k5 hys5 ?_; intro v5 w6 ow5 gr5 _ _; rw [← bcs_app, ← List.length_append] at ow5; obtain ⟨A6, hA6⟩ : ∃ A, A5 ++ enc (zig v) = A := ⟨_, rfl⟩; rw [hA6] at ow5; have hL6 : 0 < A6.length ∧ A6.length ≤ 60 := (by rw [← hA6, List.length_append]; have := enc_pos t; omega); have HA6 : Hid (A5 ++ enc (zig v) = A6) := hA6; clear hA6; obtain ⟨g6, c6, rfl⟩ := own_some ow5 hL6.1; have HB6 : Hid (Below (w.heap.size + 1) (w.alloc (.cells #[.int .u64 t, .int .i64 s, .int .u64 q, .int .i64 d, .int .i64 k, .int .i64 v] 26)) w6) := HY5.out.grown gr5 hys5 (fun r e => own_base2 HQ5.out e); obtain ⟨z0, z1, z2, z3, z4, z5⟩ := box6 HB6.out (Nat.lt_succ_self _); have HO6 : Hid (w6.ownsRow (w.heap.size + 1) 5 1 (.slice (some ⟨g6, 0, none⟩) A6.length c6) A6.length (bcs A6)) := ow5; have hsz6 : w.heap.size + 1 ≤ w6.heap.size := Nat.le_trans hys5 gr5.size; clear ow5 gr5)
  go_ret
  have hF : A6 = evb t q s d k v := by
    rw [← HA6.out, ← HA5.out, ← HA4.out, ← HA3.out, ← HA2.out]
    unfold evb
    simp only [List.append_assoc]
  rw [← hF]
  have hlow : w6.ownsRow w.heap.size 5 1 (.slice (some ⟨g6, 0, none⟩) A6.length c6) A6.length (bcs A6) := by
    refine ⟨HO6.out.1, ?_⟩
    rcases HO6.out.2 with h | ⟨g, cap, cur, h1, h2, h3⟩
    · exact .inl h
    · exact .inr ⟨g, cap, cur, h1, Nat.le_trans (Nat.le_succ _) h2, h3⟩
  exact ⟨g6, c6, rfl, hlow, ((Below.refl _ w).alloc (Nat.le_refl _) _).trans (HB6.out.mono (Nat.le_succ _))⟩
end Go.Proofs.Ytcibmbcfpecgpaa
