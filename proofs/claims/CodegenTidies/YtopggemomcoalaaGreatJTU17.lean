import Derived.Test.YtopggemomcoalaaGreatJTU16
namespace Go.Proofs.YtopggemomcoalaaGreat
open Go.ChangeShapes Go.WideShapes Go.ChangeAt Go.RowKit
set_option linter.unusedVariables false
set_option linter.unusedSimpArgs false

/-! ### the law -/
theorem rm_iat {P : Pg} {w : World} {b g c : Nat} (h : Own w b 36 3 (.slice (some ⟨g, 0, none⟩) (P.n + 2) c) (P.n + 2) (inC (rmO P) (rmA P P.a) (rmA P P.b))) : IAt w (some ⟨g, 0, none⟩) P.n P.op P.a P.b := by
  refine .inr ⟨g, 0, rfl, (h.lt g rfl).2, fun k hk => ?_⟩
  obtain ⟨⟨h0, h1, h2⟩, _⟩ := own_ins h (k := k) (by omega)
  rw [Nat.zero_add]
  refine ⟨h0.trans ?_, h1.trans ?_, h2.trans ?_⟩
  · unfold rmO; rw [if_neg (by omega), if_neg (by omega)]
  · unfold rmA; rw [if_neg (by omega)]
  · unfold rmA; rw [if_neg (by omega)]
theorem rm_kat {P : Pg} {w : World} {b g c : Nat} (h : Own w b 3 1 (.slice (some ⟨g, 0, none⟩) (P.m + 2) c) (P.m + 2) (iv (rmE P))) : KAt w (some ⟨g, 0, none⟩) P.m P.en := by
  refine .inr ⟨g, 0, rfl, (h.lt g rfl).2, fun k hk => ?_⟩
  rw [Nat.zero_add, h.cell (by omega)]
  unfold iv rmE
  rw [if_neg (by omega), if_neg (by omega)]
theorem hb46K {w w' : World} {b : Nat} {o : Obj} (h : Below w.heap.size w w') (hx : w.heap[b]? = some o) : w'.heap[b]? = some o := (h.block _ (lt_of_block hx)).trans hx
set_option maxRecDepth 100000 in
set_option maxHeartbeats 16000000 in
theorem tidies_law (P : Pg) (v : PgV) (kinds : Int) (W : World) (h : PAt W P v) (hs : roomyP P) (ha : A64 P) :
    Calls Tryz.prog 4 #[.agg #[.int .i64 P.words, .int .i64 P.locals, .slice v.cp P.n v.cc, .slice v.ep P.m v.ec], .int .i64 kinds] W fun e W' => e = .returned (.bool true) ∧ Below W.heap.size W W' := by
  have hdd : (dcode P kinds != dcode P kinds) = false := by simp
  obtain ⟨wp, hwp⟩ : ∃ wp, W.alloc (.cells #[.int .i64 P.words, .int .i64 P.locals, .slice v.cp P.n v.cc, .slice v.ep P.m v.ec] 25) = wp := ⟨_, rfl⟩
  obtain ⟨hb0, hbox, hszp⟩ := boxed _ _ _ hwp
  have HW := tmh hwp
  have hp0 := h.below hb0
  have HRm := tmh (roomy_any v.cp v.ep v.cc v.ec wp hp0.1 hp0.2 hs)
  have H0 := tmh (And.intro hbox (And.intro hb0 (And.intro hp0 (And.intro hs (And.intro ha (show W.heap.size < wp.heap.size by omega))))))
  obtain ⟨y0, y1, y2, y3⟩ := cells4 hbox
  clear hwp hb0 hbox hszp h hp0 hs ha
  go_enter Tryz.func4, Tryz.ntmps4
  go_upto_region 1 with fail
  rw [HW.out]
  go_upto_region 2 with (go_at_call 12; (with_reducible refine HRm.out.mono ?_); rintro e w1 ⟨g, hh, rfl, o1, o2, b1⟩)
  obtain ⟨w2, hw2⟩ : ∃ w2, w1.alloc (.cells #[.int .i64 P.words, .int .i64 P.locals, .slice (some ⟨g, 0, none⟩) P.n (P.n + 2), .slice (some ⟨hh, 0, none⟩) P.m (P.m + 2)] 25) = w2 := ⟨_, rfl⟩
  rw [hw2]
  obtain ⟨hb2, hx2, hz2⟩ := boxed _ _ _ hw2
  have hbp2 : Below wp.heap.size wp w2 := b1.trans (hb2.mono b1.size)
  have H2 := tmh (And.intro (o1.later hb2) (And.intro (o2.later hb2) (And.intro hx2 (And.intro hbp2 (And.intro b1.size (show w1.heap.size < w2.heap.size by omega))))))
  have HT1 := tmh (tidy_first kinds w2 (rm_iat H2.out.1) (rm_kat H2.out.2.1) H0.out.2.2.2.2.1 (cc := P.n + 2) (ec := P.m + 2))
  clear y0 y1 y2 y3 o1 o2 b1 hw2 hb2 hx2 hz2 hbp2
  obtain ⟨c0, c1, c2, c3⟩ := cells4 H2.out.2.2.1
  go_upto_region 3 with (go_at_call 6; (with_reducible refine HT1.out.mono ?_); rintro e w3 ⟨Q, hQ, lp, lq, lc, lx, rfl, o1, o2, b3⟩)
  obtain ⟨w4, hw4⟩ : ∃ w4, w3.alloc (.cells #[.int .i64 Q.words, .int .i64 Q.locals, .slice lp Q.n lc, .slice lq Q.m lx] 25) = w4 := ⟨_, rfl⟩
  rw [hw4]
  obtain ⟨hb4, hx4, hz4⟩ := boxed _ _ _ hw4
  have hb24 : Below w2.heap.size w2 w4 := b3.trans (hb4.mono b3.size)
  have H4 := tmh (And.intro (o1.later hb4) (And.intro (o2.later hb4) (And.intro hx4 (And.intro hb24 (And.intro b3.size (And.intro (show w3.heap.size < w4.heap.size by omega) (And.intro hQ (And.intro (o1.lt) (o2.lt)))))))))
  have hp4 := H0.out.2.2.1.below (H2.out.2.2.2.1.trans (hb24.mono H2.out.2.2.2.1.size))
  have HT2 := tmh (rtidy_same kinds hQ w4 hp4.1 hp4.2 H0.out.2.2.2.2.1 (cc := v.cc) (ec := v.ec))
  clear c0 c1 c2 c3 o1 o2 b3 hw4 hb4 hx4 hz4 hb24 hQ hp4
  obtain ⟨y0, y1, y2, y3⟩ := cells4 ((H4.out.2.2.2.1.block _ (by have := H0.out.2.2.2.2.2; have := H2.out.2.2.2.1.size; omega)).trans ((H2.out.2.2.2.1.block _ H0.out.2.2.2.2.2).trans H0.out.1))
  go_upto_region 4 with (go_at_call 13; (with_reducible refine HT2.out.mono ?_); rintro e w5 ⟨rp, rq, rc, rx, rfl, o1, o2, b5⟩)
  obtain ⟨w6, hw6⟩ : ∃ w6, w5.alloc (.cells #[.int .i64 Q.words, .int .i64 Q.locals, .slice rp Q.n rc, .slice rq Q.m rx] 25) = w6 := ⟨_, rfl⟩
  rw [hw6]
  obtain ⟨hb6, hx6, hz6⟩ := boxed _ _ _ hw6
  have hb46 : Below w4.heap.size w4 w6 := b5.trans (hb6.mono b5.size)
  have H6 := tmh (And.intro (o1.later hb6) (And.intro (o2.later hb6) (And.intro hx6 (And.intro hb46 (And.intro b5.size (show w5.heap.size < w6.heap.size by omega))))))
  clear y0 y1 y2 y3 o1 o2 b5 hw6 hb6 hx6 hz6 hb46
  obtain ⟨qn, qm⟩ := TQ.sz H0.out.2.2.2.2.1 H4.out.2.2.2.2.2.2.1
  have HQz : Hid (roomyP Q) := tmh ⟨by omega, by omega⟩
  have hq6 := (hb46K H6.out.2.2.2.1 H4.out.2.2.1)
  have HS1 := tmh (sameProgram_yes Q ⟨lp, lc, lq, lx⟩ ⟨rp, rc, rq, rx⟩ w6 ⟨own_iat (H4.out.1.later H6.out.2.2.2.1), own_kat (H4.out.2.1.later H6.out.2.2.2.1)⟩ ⟨own_iat H6.out.1, own_kat H6.out.2.1⟩ HQz.out)
  have hb26 := H4.out.2.2.2.1.trans (H6.out.2.2.2.1.mono H4.out.2.2.2.1.size)
  have hbp6 := H2.out.2.2.2.1.trans (hb26.mono H2.out.2.2.2.1.size)
  have hc6 := (hb26.block _ H2.out.2.2.2.2.2).trans H2.out.2.2.1
  have hpx6 := (hbp6.block _ H0.out.2.2.2.2.2).trans H0.out.1
  have HS2 : Hid (∀ w, Below w6.heap.size w6 w → Calls Tryz.prog 9 #[.agg #[.int .i64 P.words, .int .i64 P.locals, .slice (some ⟨g, 0, none⟩) P.n (P.n + 2), .slice (some ⟨hh, 0, none⟩) P.m (P.m + 2)], .agg #[.int .i64 P.words, .int .i64 P.locals, .slice v.cp P.n v.cc, .slice v.ep P.m v.ec]] w fun e w' => e = .returned (.bool true) ∧ Below w.heap.size w w') := tmh fun w hw => sameProgram_yes P ⟨some ⟨g, 0, none⟩, P.n + 2, some ⟨hh, 0, none⟩, P.m + 2⟩ v w ⟨rm_iat ((H2.out.1.later hb26).later hw), rm_kat ((H2.out.2.1.later hb26).later hw)⟩ (H0.out.2.2.1.below (hbp6.trans (hw.mono hbp6.size))) H0.out.2.2.2.1
  have HX6 := tmh (And.intro hb26 (And.intro hbp6 (And.intro hc6 (And.intro hpx6 (And.intro (lt_of_block hc6) (lt_of_block hpx6))))))
  obtain ⟨y0, y1, y2, y3⟩ := cells4 hq6
  obtain ⟨z0, z1, z2, z3⟩ := cells4 H6.out.2.2.1
  clear hb26 hbp6 hc6 hpx6 hq6
  go_upto_region 6 with (first
    | (go_at_call 9; (with_reducible refine HS1.out.mono ?_); rintro e w7 ⟨rfl, b7⟩; have HB7 := tmh b7; clear b7; clear y0 y1 y2 y3 z0 z1 z2 z3; obtain ⟨c0, c1, c2, c3⟩ := cells4 ((HB7.out.block _ HX6.out.2.2.2.2.1).trans HX6.out.2.2.1); obtain ⟨d0, d1, d2, d3⟩ := cells4 ((HB7.out.block _ HX6.out.2.2.2.2.2).trans HX6.out.2.2.2.1))
    | (go_at_call 9; (with_reducible refine (HS2.out _ HB7.out).mono ?_); rintro e w8 ⟨rfl, b8⟩; have HB8 := tmh (HB7.out.trans (b8.mono HB7.out.size)); clear b8))
  clear c0 c1 c2 c3 d0 d1 d2 d3
  have hb28 := HX6.out.1.trans (HB8.out.mono HX6.out.1.size)
  obtain ⟨c0, c1, c2, c3⟩ := cells4 ((HB8.out.block _ HX6.out.2.2.2.2.1).trans HX6.out.2.2.1)
  have HT3 := tmh (tidy_same kinds H4.out.2.2.2.2.2.2.1 w8 (rm_iat (H2.out.1.later hb28)) (rm_kat (H2.out.2.1.later hb28)) H0.out.2.2.2.2.1 (cc := P.n + 2) (ec := P.m + 2))
  have H8 := tmh hb28
  clear hb28
  go_upto_region 7 with (go_at_call 6; (with_reducible refine HT3.out.mono ?_); rintro e w9 ⟨sp, sq, sc, sx, rfl, o1, o2, b9⟩)
  obtain ⟨w10, hw10⟩ : ∃ w10, w9.alloc (.cells #[.int .i64 Q.words, .int .i64 Q.locals, .slice sp Q.n sc, .slice sq Q.m sx] 25) = w10 := ⟨_, rfl⟩
  rw [hw10]
  obtain ⟨hb10, hx10, hz10⟩ := boxed _ _ _ hw10
  have hb810 : Below w8.heap.size w8 w10 := b9.trans (hb10.mono b9.size)
  have H10 := tmh (And.intro (o1.later hb10) (And.intro (o2.later hb10) (And.intro hx10 (And.intro hb810 (And.intro b9.size (show w9.heap.size < w10.heap.size by omega))))))
  clear c0 c1 c2 c3 o1 o2 b9 hw10 hb10 hx10 hz10 hb810
  have hb410 := (H6.out.2.2.2.1.trans (HB8.out.mono H6.out.2.2.2.1.size)).trans (H10.out.2.2.2.1.mono (Nat.le_trans H6.out.2.2.2.1.size HB8.out.size))
  have hb210 := H4.out.2.2.2.1.trans (hb410.mono H4.out.2.2.2.1.size)
  have hq10 := hb46K hb410 H4.out.2.2.1
  obtain ⟨w11, hw11⟩ : ∃ w11, w10.alloc (.cells #[.int .i64 Q.words, .int .i64 Q.locals, .slice lp Q.n lc, .slice lq Q.m lx] 25) = w11 := ⟨_, rfl⟩
  obtain ⟨hb11, hx11, hz11⟩ := boxed _ _ _ hw11
  have hPB : PB (fun j => j < w10.heap.size ∧ (Value.slice lp Q.n lc).ownBlock ≠ some j ∧ (Value.slice lq Q.m lx).ownBlock ≠ some j) (fun j => w11.heap[j]?) w11 w2.heap.size w10.heap.size Q lp lq lc lx := by
    refine ⟨hx11, (H4.out.1.later hb410).later hb11, (H4.out.2.1.later hb410).later hb11, hb210.size, fun j hj => ⟨Nat.lt_of_lt_of_le hj.1 hb11.size, rfl⟩, fun hj => Nat.lt_irrefl _ hj.1, fun g o e hj => ?_, fun g o e hj => ?_⟩
    · subst e; exact hj.2.1 rfl
    · subst e; exact hj.2.2 rfl
  have hSp := spoilt_one w11 hPB qn qm (Nat.le_trans hb210.size hb11.size)
  have HSp : Hid (Calls Tryz.prog 14 #[.slice (some ⟨w10.heap.size, 0, none⟩) 1 1] w11 fun e W' => e = .returned (.bool true) ∧ (∀ j, j < w10.heap.size → (j < w2.heap.size ∨ w3.heap.size ≤ j) → W'.heap[j]? = w10.heap[j]?) ∧ Below w2.heap.size w2 W' ∧ w10.heap.size ≤ W'.heap.size) := tmh (hSp.mono fun e w' h => by
    obtain ⟨h1, h2, h3⟩ := h
    refine ⟨h1, fun j hj hj2 => ?_, (hb210.trans (hb11.mono hb210.size)).trans h3, Nat.le_trans hb11.size h3.size⟩
    rw [(h2 j ⟨hj, fun e => by have := H4.out.2.2.2.2.2.2.2.1 j e; omega, fun e => by have := H4.out.2.2.2.2.2.2.2.2 j e; omega⟩).2]
    exact hb11.block j hj)
  have hb610 : Below w6.heap.size w6 w10 := HB8.out.trans (H10.out.2.2.2.1.mono HB8.out.size)
  have hL34 := H4.out.2.2.2.2.2.1
  have hL8 : w4.heap.size ≤ w8.heap.size := Nat.le_trans H6.out.2.2.2.1.size HB8.out.size
  have HS3 : Hid (∀ w, (∀ j, j < w10.heap.size → (j < w2.heap.size ∨ w3.heap.size ≤ j) → w.heap[j]? = w10.heap[j]?) → Calls Tryz.prog 9 #[.agg #[.int .i64 Q.words, .int .i64 Q.locals, .slice sp Q.n sc, .slice sq Q.m sx], .agg #[.int .i64 Q.words, .int .i64 Q.locals, .slice rp Q.n rc, .slice rq Q.m rx]] w fun e w' => e = .returned (.bool true) ∧ Below w.heap.size w w') := tmh fun w hw => by
    have r1 := H6.out.1.later hb610
    have r2 := H6.out.2.1.later hb610
    exact sameProgram_yes Q ⟨sp, sc, sq, sx⟩ ⟨rp, rc, rq, rx⟩ w
      ⟨own_iat (H10.out.1.far fun k hk => hw k (H10.out.1.lt k hk).2 (.inr (by have := (H10.out.1.lt k hk).1; omega))), own_kat (H10.out.2.1.far fun k hk => hw k (H10.out.2.1.lt k hk).2 (.inr (by have := (H10.out.2.1.lt k hk).1; omega)))⟩
      ⟨own_iat (r1.far fun k hk => hw k (r1.lt k hk).2 (.inr (by have := (r1.lt k hk).1; omega))), own_kat (r2.far fun k hk => hw k (r2.lt k hk).2 (.inr (by have := (r2.lt k hk).1; omega)))⟩ HQz.out
  have HS4 : Hid (∀ w, Below w2.heap.size w2 w → Calls Tryz.prog 9 #[.agg #[.int .i64 P.words, .int .i64 P.locals, .slice (some ⟨g, 0, none⟩) P.n (P.n + 2), .slice (some ⟨hh, 0, none⟩) P.m (P.m + 2)], .agg #[.int .i64 P.words, .int .i64 P.locals, .slice v.cp P.n v.cc, .slice v.ep P.m v.ec]] w fun e w' => e = .returned (.bool true) ∧ Below w.heap.size w w') := tmh fun w hw => sameProgram_yes P ⟨some ⟨g, 0, none⟩, P.n + 2, some ⟨hh, 0, none⟩, P.m + 2⟩ v w ⟨rm_iat (H2.out.1.later hw), rm_kat (H2.out.2.1.later hw)⟩ (H0.out.2.2.1.below (H2.out.2.2.2.1.trans (hw.mono H2.out.2.2.2.1.size))) H0.out.2.2.2.1
  have hwb : w5.heap.size < w10.heap.size ∧ w3.heap.size ≤ w5.heap.size := ⟨by have := H6.out.2.2.2.2.2; have := hb610.size; omega, by have := H6.out.2.2.2.2.1; omega⟩
  have hab : w9.heap.size < w10.heap.size ∧ w3.heap.size ≤ w9.heap.size := ⟨H10.out.2.2.2.2.2, by have := H10.out.2.2.2.2.1; omega⟩
  have hwx := hb46K hb610 H6.out.2.2.1
  have HW11 := tmh hw11
  have HX10 := tmh (And.intro hwb (And.intro hab hwx))
  obtain ⟨y0, y1, y2, y3⟩ := cells4 hq10
  clear hb410 hb210 hq10 hw11 hb11 hx11 hz11 hPB hSp hb610 hL34 hL8 hwb hab hwx
  go_upto_region 9 with (first
    | (go_at_call 14; rw [HW11.out]; (with_reducible refine HSp.out.mono ?_); rintro e w12 ⟨rfl, k12, b12, l12⟩; have H12 := tmh (And.intro k12 (And.intro b12 l12)); clear k12 b12 l12; clear y0 y1 y2 y3; obtain ⟨z0, z1, z2, z3⟩ := cells4 ((H12.out.1 _ HX10.out.2.1.1 (.inr HX10.out.2.1.2)).trans H10.out.2.2.1); obtain ⟨x0, x1, x2, x3⟩ := cells4 ((H12.out.1 _ HX10.out.1.1 (.inr HX10.out.1.2)).trans HX10.out.2.2))
    | (go_at_call 9; (with_reducible refine (HS3.out _ H12.out.1).mono ?_); rintro e w13 ⟨rfl, b13⟩; have H13 := tmh (And.intro (H12.out.2.1.trans (b13.mono H12.out.2.1.size)) b13); clear b13; clear z0 z1 z2 z3 x0 x1 x2 x3; obtain ⟨c0, c1, c2, c3⟩ := cells4 (hb46K H13.out.1 H2.out.2.2.1); obtain ⟨d0, d1, d2, d3⟩ := cells4 (hb46K (H2.out.2.2.2.1.trans (H13.out.1.mono H2.out.2.2.2.1.size)) H0.out.1))
    | (go_at_call 9; (with_reducible refine (HS4.out _ H13.out.1).mono ?_); rintro e w14 ⟨rfl, b14⟩; have H14 := tmh (H13.out.1.trans (b14.mono H13.out.1.size)); clear b14; clear c0 c1 c2 c3 d0 d1 d2 d3))
  have hpx := hb46K (H2.out.2.2.2.1.trans (H14.out.mono H2.out.2.2.2.1.size)) H0.out.1
  obtain ⟨d0, d1, d2, d3⟩ := cells4 hpx
  have g1 := H2.out.1.later H14.out
  have g2 := H2.out.2.1.later H14.out
  have u0 : w14.cell? ⟨g, P.n * 3, none⟩ = some (.int .i64 (-31)) := (own_ins g1 (k := P.n) (by omega)).1.1.trans (by unfold rmO; rw [if_neg (by omega), if_pos rfl])
  have u1 : w14.cell? ⟨g, (P.n + 1) * 3, none⟩ = some (.int .i64 (-32)) := (own_ins g1 (k := P.n + 1) (by omega)).1.1.trans (by unfold rmO; rw [if_pos rfl])
  have v0 : w14.cell? ⟨hh, P.m, none⟩ = some (.int .i64 (-33)) := (g2.cell (by omega)).trans (by unfold iv rmE; rw [if_neg (by omega), if_pos rfl])
  have v1 : w14.cell? ⟨hh, P.m + 1, none⟩ = some (.int .i64 (-34)) := (g2.cell (by omega)).trans (by unfold iv rmE; rw [if_pos rfl])
  obtain ⟨s1, s2⟩ := H0.out.2.2.2.1
  obtain ⟨n1, hn1⟩ : ∃ x, P.n + 1 = x := ⟨_, rfl⟩
  obtain ⟨m1, hm1⟩ : ∃ x, P.m + 1 = x := ⟨_, rfl⟩
  obtain ⟨n2, hn2⟩ : ∃ x, P.n + 2 = x := ⟨_, rfl⟩
  obtain ⟨m2, hm2⟩ : ∃ x, P.m + 2 = x := ⟨_, rfl⟩
  rw [hn1] at u1
  rw [hm1] at v1
  have e1 : IntKind.i64.wrap ((P.n : Int) + 1) = (n1 : Int) := by rw [IntKind.wrap_i64]; omega
  have e2 : IntKind.i64.wrap ((P.m : Int) + 1) = (m1 : Int) := by rw [IntKind.wrap_i64]; omega
  have i0 : (0 : Int) ≤ (P.n : Int) := by omega
  have i1 : (P.n : Int) < (n2 : Int) := by omega
  have i2 : (0 : Int) ≤ (n1 : Int) := by omega
  have i3 : (n1 : Int) < (n2 : Int) := by omega
  have j0 : (0 : Int) ≤ (P.m : Int) := by omega
  have j1 : (P.m : Int) < (m2 : Int) := by omega
  have j2 : (0 : Int) ≤ (m1 : Int) := by omega
  have j3 : (m1 : Int) < (m2 : Int) := by omega
  have HFIN := tmh (H0.out.2.1.trans ((H2.out.2.2.2.1.trans (H14.out.mono H2.out.2.2.2.1.size)).mono H0.out.2.1.size))
  rw [hn2, hm2]
  clear hpx g1 g2 s1 s2 hn1 hm1 hn2 hm2
  go_quiet (fail)
  go_wp2_with fail
  go_ret
  exact ⟨rfl, HFIN.out.trans ((below_drewNq _ _ _).mono HFIN.out.size)⟩
end Go.Proofs.YtopggemomcoalaaGreat
