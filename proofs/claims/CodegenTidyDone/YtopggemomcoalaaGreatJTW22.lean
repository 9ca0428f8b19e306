import Derived.Test.YtopggemomcoalaaGreatJTW21
import Derived.BigQuiet
namespace Go.Proofs.YtopggemomcoalaaGreat
open Go.ChangeShapes Go.WideShapes Go.ChangeAt Go.RowKit
set_option linter.unusedVariables false
set_option linter.unusedSimpArgs false

theorem belowN {B : Nat} {w w' : World} (h : Below B w w') (n : Nat) : Below B w (w'.drewN n) := h.trans (by induction n with | zero => exact Below.refl _ _ | succ n ih => exact ih.drew)
theorem own_ipt {W : World} {b n c : Nat} {q : Option Addr} {F : Nat → Value} {t : TypeId} {s : Nat} (h : Own W b t s (.slice q n c) n F) (hn : 0 < n) : ∃ g, q = some ⟨g, 0, none⟩ := by
  rcases h.form with ⟨_, h2⟩ | ⟨g, c', h1, _⟩
  · omega
  · injection h1 with h1; exact ⟨g, h1⟩
theorem kat_pt {W : World} {n : Nat} {q : Option Addr} {K : Nat → Int} (h : KAt W q n K) (hn : 0 < n) : ∃ g o, q = some ⟨g, o, none⟩ := by
  rcases h with h | ⟨g, o, h1, _⟩
  · omega
  · exact ⟨g, o, h1⟩
theorem kat_at {W : World} {n g o : Nat} {K : Nat → Int} (h : KAt W (some ⟨g, o, none⟩) n K) {k : Nat} (hk : k < n) : W.cell? ⟨g, o + k, none⟩ = some (.int .i64 (K k)) := by
  rcases h with h | ⟨g', o', h1, _, h3⟩
  · omega
  · injection h1 with h1
    injection h1 with h1 h2
    subst h1; subst h2
    exact h3 k hk
set_option maxRecDepth 100000 in
set_option maxHeartbeats 16000000 in
theorem done_good (P : Pg) (v : PgV) (W : World) (h : PAt W P v) (hs : roomyP P) (ha : A64 P) (hc : dcode P P.m = 0) :
    Calls Tryz.prog 3 #[.agg #[.int .i64 P.words, .int .i64 P.locals, .slice v.cp P.n v.cc, .slice v.ep P.m v.ec], .int .i64 (P.m : Int)] W fun e W' => e = .returned (.bool true) ∧ Below W.heap.size W W' := by
  obtain ⟨wp, hwp⟩ : ∃ wp, W.alloc (.cells #[.int .i64 P.words, .int .i64 P.locals, .slice v.cp P.n v.cc, .slice v.ep P.m v.ec] 25) = wp := ⟨_, rfl⟩
  obtain ⟨hb0, hbox, hszp⟩ := boxed _ _ _ hwp
  have HB := tmh hwp
  have hp0 := h.below hb0
  have HC := copyProgram_any P v wp hp0 hs
  have HT : Hid (∀ (v' : PgV) (w : World), PAt w P v' → Calls Tryz.prog 6 #[.agg #[.int .i64 P.words, .int .i64 P.locals, .slice v'.cp P.n v'.cc, .slice v'.ep P.m v'.ec], .int .i64 (P.m : Int)] w fun e W' => ∃ Q L lp lc lq lx, e = .returned (.tuple #[.agg #[.int .i64 P.words, .int .i64 P.locals, .slice lp Q.n lc, .slice lq P.m lx], .int .i64 0]) ∧ (DQ P Q L ∧ Tid P Q) ∧ Own W' w.heap.size 36 3 (.slice lp Q.n lc) Q.n (inC Q.op Q.a Q.b) ∧ Own W' w.heap.size 3 1 (.slice lq P.m lx) P.m (iv Q.en) ∧ Below w.heap.size w W') := tmh fun v' w hv => tidy_1 w hv.1 hv.2 ha hc
  have HV : Hid (∀ w, Below wp.heap.size wp w → Calls Tryz.prog 8 #[.agg #[.int .i64 P.words, .int .i64 P.locals, .slice v.cp P.n v.cc, .slice v.ep P.m v.ec], .int .i64 (P.m : Int)] w fun e w' => e = .returned (.int .i64 0) ∧ Below w.heap.size w w') := tmh fun w hw => by
    have h := rverify_any P v (P.m : Int) w (hp0.below hw)
    rw [hc] at h
    exact h
  have H0 := tmh (And.intro hbox (And.intro hb0 hp0))
  have hlt : W.heap.size < wp.heap.size := by omega
  have HL := tmh hlt
  obtain ⟨y0, y1, y2, y3⟩ := cells4 hbox
  clear hwp h hp0 hbox hb0 hc hlt hszp ha
  go_enter Tryz.func3, Tryz.ntmps3
  go_upto_region 1 with fail
  rw [HB.out]
  go_upto_region 2 with (first | (go_at_call 7; (with_reducible refine HC.mono ?_); rintro e w1 ⟨v', rfl, hp1, z1⟩; have HZ1 := tmh (And.intro z1 hp1); clear z1 hp1) | (go_at_call 6; (with_reducible refine (HT.out v' _ HZ1.out.2).mono ?_); rintro e w2 ⟨Q, L, lp, lc, lq, lx, rfl, hd, q1, q2, z2⟩; have HZ2 := tmh (And.intro z2 (And.intro hd (And.intro q1 q2))); clear z2 hd q1 q2))
  clear y0 y1 y2 y3
  obtain ⟨wg, hwg⟩ : ∃ wg, w2.alloc (.cells #[.int .i64 P.words, .int .i64 P.locals, .slice lp Q.n lc, .slice lq P.m lx] 25) = wg := ⟨_, rfl⟩
  obtain ⟨hbg, hgbx, hgsz⟩ := boxed _ _ _ hwg
  have hb2 : Below wp.heap.size wp w2 := HZ1.out.1.trans (HZ2.out.1.mono HZ1.out.1.size)
  have hbb : Below wp.heap.size wp wg := hb2.trans (hbg.mono hb2.size)
  rw [hwg]
  have hpx := (hbb.block _ HL.out).trans H0.out.1
  obtain ⟨y0, y1, y2, y3⟩ := cells4 hpx
  have HG := tmh (And.intro hbb (And.intro hpx (And.intro hgbx (And.intro (HZ2.out.2.2.1.later hbg) (HZ2.out.2.2.2.later hbg)))))
  clear hwg hbg hbb hpx hgbx hgsz hb2
  go_upto_region 6 with (go_at_call 8; (with_reducible refine (HV.out _ HG.out.1).mono ?_); rintro e w3 ⟨rfl, z3⟩; have HZ3 := tmh z3; clear z3)
  clear y0 y1 y2 y3
  have hb3 : Below wg.heap.size wg w3 := HZ3.out
  have hpx := (hb3.block _ (lt_of_block HG.out.2.1)).trans HG.out.2.1
  have hqx := (hb3.block _ (lt_of_block HG.out.2.2.1)).trans HG.out.2.2.1
  obtain ⟨y0, y1, y2, y3⟩ := cells4 hpx
  obtain ⟨q0, q1, q2, q3⟩ := cells4 hqx
  have HT2 := tidy_2 (lc := lc) (lx := lx) HZ2.out.2.1.1 w3 (own_iat (HG.out.2.2.2.1.later hb3)) (own_kat (HG.out.2.2.2.2.later hb3))
  have H3 := tmh (And.intro hpx (And.intro hqx (And.intro (HG.out.2.2.2.1.later hb3) (And.intro (HG.out.2.2.2.2.later hb3) (HG.out.1.trans (hb3.mono HG.out.1.size))))))
  clear hb3 hpx hqx
  go_upto_region 7 with (go_at_call 6; (with_reducible refine HT2.mono ?_); rintro e w4 ⟨lp2, lc2, lq2, lx2, rfl, r1, r2, z4⟩; have HZ4 := tmh (And.intro z4 (And.intro r1 r2)); clear r1 r2 z4)
  clear y0 y1 y2 y3 q0 q1 q2 q3 HT2
  obtain ⟨wh, hwh⟩ : ∃ wh, w4.alloc (.cells #[.int .i64 P.words, .int .i64 P.locals, .slice lp2 Q.n lc2, .slice lq2 P.m lx2] 25) = wh := ⟨_, rfl⟩
  obtain ⟨hbh, hhx, hhz⟩ := boxed _ _ _ hwh
  rw [hwh]
  have hb4 : Below w3.heap.size w3 wh := HZ4.out.1.trans (hbh.mono HZ4.out.1.size)
  have hpx := (hb4.block _ (lt_of_block H3.out.1)).trans H3.out.1
  have hqx := (hb4.block _ (lt_of_block H3.out.2.1)).trans H3.out.2.1
  have HS := same_q (lc := lc) (lx := lx) (lc2 := lc2) (lx2 := lx2) HZ2.out.2.1.1 wh (own_iat (H3.out.2.2.1.later hb4)) (own_kat (H3.out.2.2.2.1.later hb4)) (HZ4.out.2.1.below hbh) (HZ4.out.2.2.below hbh)
  obtain ⟨y0, y1, y2, y3⟩ := cells4 hpx
  obtain ⟨q0, q1, q2, q3⟩ := cells4 hqx
  obtain ⟨h0, h1, h2, h3⟩ := cells4 hhx
  have H4 := tmh (And.intro hpx (And.intro hqx (And.intro (H3.out.2.2.1.later hb4) (And.intro (H3.out.2.2.2.1.later hb4) (H3.out.2.2.2.2.trans (hb4.mono H3.out.2.2.2.2.size))))))
  have t1 : decide ((P.n : Int) < (Q.n : Int)) = false := by have := HZ2.out.2.1.1.n; simp; omega
  have t2 : decide (P.n < Q.n) = false := by have := HZ2.out.2.1.1.n; simp; omega
  clear hwh hbh hhx hhz hb4 hpx hqx
  go_upto_region 9 with (go_at_call 9; (with_reducible refine HS.mono ?_); rintro e w5 ⟨rfl, z5⟩; have HZ5 := tmh z5; obtain ⟨y0, y1, y2, y3⟩ := cells4 ((z5.block _ (lt_of_block H4.out.1)).trans H4.out.1); obtain ⟨q0, q1, q2, q3⟩ := cells4 ((z5.block _ (lt_of_block H4.out.2.1)).trans H4.out.2.1); clear z5)
  clear y0 y1 y2 y3 q0 q1 q2 q3 h0 h1 h2 h3 t1 t2 HS
  have hqx := (HZ5.out.block _ (lt_of_block H4.out.2.1)).trans H4.out.2.1
  have hpx := (HZ5.out.block _ (lt_of_block H4.out.1)).trans H4.out.1
  have H5 := tmh (And.intro hpx (And.intro hqx (And.intro (H4.out.2.2.1.later HZ5.out) (And.intro (H4.out.2.2.2.1.later HZ5.out) (H4.out.2.2.2.2.trans (HZ5.out.mono H4.out.2.2.2.2.size))))))
  obtain ⟨q0, q1, q2, q3⟩ := cells4 hqx
  have HD := depths_q (lc := lc) (lx := lx) HZ2.out.2.1.1 w5 (own_iat H5.out.2.2.1) (own_kat H5.out.2.2.2.1)
  obtain ⟨i5, hi5, hz0, hz1, hz2⟩ := info_parts infoB1
  obtain ⟨N3, hN3⟩ : ∃ N3, Q.n + 3 = N3 := ⟨_, rfl⟩
  have hn3 := HZ2.out.2.1.1.z
  have e3 : IntKind.i64.wrap ((Q.n : Int) + 3) = (N3 : Int) := by rw [IntKind.wrap_i64]; omega
  have HN := tmh (And.intro hN3 hn3)
  clear hqx hpx hN3 hn3
  go_upto_region 12 with (go_at_call 10; (with_reducible refine HD.mono ?_); rintro e w6 ⟨db, rfl, o6, z6⟩; have HZ6 := tmh (And.intro z6 o6); obtain ⟨q0, q1, q2, q3⟩ := cells4 ((z6.block _ (lt_of_block H5.out.2.1)).trans H5.out.2.1); clear z6 o6)
  go_upto_region 13 with (at_make; refine wpList_make_full _ rfl (.tmp 94) (.tmp 94) 34 rfl w6.heap.size 4 i5 _ 1 Tryz.underlying34 hi5 hz0 hz1 .i64 .i64 N3 N3 N3 rfl rfl rfl rfl ?c1 ?c2 ?c3 ?_)
  case c1 => rw [hz2]; have := HN.out; omega
  case c2 => unfold maxLen; have := HN.out; omega
  case c3 => exact Nat.le_refl _
  intro w7 hown hgrow
  have hb7 : Below w6.heap.size w6 w7 := (Below.refl _ _).grown hgrow (Nat.le_refl _) (by simp)
  have hO7 : Own w7 w6.heap.size 4 1 (.slice (some ⟨w6.heap.size, 0, none⟩) N3 N3) N3 (fun x => .bool ((fun _ => false : Nat → Bool) x)) := (own_of hown).congr fun j hj => by
    have h6 : (Value.bool false).cells.size = 1 := rfl
    unfold madeCells
    have hj2 : j < N3 := by omega
    simp [hj2, h6]
    rw [Nat.mod_one]
    rfl
  obtain ⟨B, hB⟩ : ∃ B, B = w6.heap.size := ⟨_, rfl⟩
  have HDW : Hid (DW P Q W w6 W.heap.size w2.heap.size db v.cp v.ep lp lq v.cc v.ec lc lx) := tmh ⟨(HZ6.out.1.block _ (lt_of_block H5.out.1)).trans H5.out.1, (HZ6.out.1.block _ (lt_of_block H5.out.2.1)).trans H5.out.2.1, H0.out.2.2.2.below (H5.out.2.2.2.2.trans (HZ6.out.1.mono H5.out.2.2.2.2.size)), ⟨_, H5.out.2.2.1.later HZ6.out.1⟩, ⟨_, H5.out.2.2.2.1.later HZ6.out.1⟩, ⟨_, HZ6.out.2⟩, H0.out.2.1.trans ((H5.out.2.2.2.2.trans (HZ6.out.1.mono H5.out.2.2.2.2.size)).mono H0.out.2.1.size)⟩
  have HF := tmh (And.intro HZ2.out.2.1.1 (And.intro HN.out hB))
  rw [← hB] at hO7 hb7 ⊢
  have H7 := tmh (And.intro hO7 hb7)
  have HX : Hid (∀ w, Below B w6 w → DW P Q W w W.heap.size w2.heap.size db v.cp v.ep lp lq v.cc v.ec lc lx) := tmh fun w hw => HDW.out.later (hB ▸ hw)
  have HB6 : Hid (Below W.heap.size W w6) := tmh HDW.out.bl
  clear hown hgrow hi5 hz0 hz1 hz2 hO7 q0 q1 q2 q3 HD HC HT HV HG H3 H4 H5 HZ1 HZ2 HZ3 HZ4 HZ5 HZ6 HDW HB HN e3 hs HL
  have hqx := (HX.out w7 hb7).qx
  obtain ⟨q0, q1, q2, q3⟩ := cells4 hqx
  clear hqx hb7 hB
  go_wp2_with fail
  clear q0 q1 q2 q3
  go_loopw [99] (fun x wr => ∃ (k : Nat) (G : Nat → Bool), x = .int .i64 (k : Int) ∧ k ≤ P.m ∧ Own wr B 4 1 (.slice (some ⟨B, 0, none⟩) N3 N3) N3 (fun x => .bool (G x)) ∧ (∀ j, j < k → 0 ≤ Q.en j → G (Q.en j).toNat = true) ∧ Below B w6 wr) (fun x _ => P.m - (intOf x).toNat)
  case atStart => exact ⟨0, fun _ => false, rfl, Nat.zero_le _, H7.out.1, fun j hj => absurd hj (Nat.not_lt_zero _), H7.out.2⟩
  case round =>
    obtain ⟨k, G, rfl, hk, hO, hG, hbr⟩ := hrel
    have hT := HX.out wr hbr
    obtain ⟨y0, y1, y2, y3⟩ := cells4 hT.px
    obtain ⟨q0, q1, q2, q3⟩ := cells4 hT.qx
    by_cases hlt : k < P.m
    · have d3 : decide ((k : Int) < (P.m : Int)) = true := by simp; omega
      have d4 : decide (k < P.m) = true := by simp; omega
      have i0 : (0 : Int) ≤ (k : Int) := by omega
      have i1 : (k : Int) < (P.m : Int) := by omega
      have hm32 : P.m ≤ 32 := by rw [← HF.out.1.m]; exact HF.out.1.v.sz.2.2.2
      have ek : IntKind.i64.wrap ((k : Int) + 1) = ((k + 1 : Nat) : Int) := by rw [IntKind.wrap_i64]; omega
      have hm := meas0 hlt
      obtain ⟨b1, hqe⟩ := hT.qe
      obtain ⟨g, hg⟩ := own_ipt hqe (by omega)
      obtain ⟨g2, o2, hg2⟩ := kat_pt hT.pe (by omega)
      have hpe := hT.pe
      rw [hg2] at hpe y3
      rw [hg] at hqe q3
      have x0 : wr.cell? ⟨g, k, none⟩ = some (.int .i64 (Q.en k)) := hqe.cell (by omega)
      have x1 : wr.cell? ⟨g2, o2 + k, none⟩ = some (.int .i64 (P.en k)) := kat_at hpe hlt
      have hsg := HF.out.1.sg.2 k hlt
      rcases (by cases decide (Q.en k < 0) <;> simp : decide (Q.en k < 0) = true ∨ decide (Q.en k < 0) = false) with e1 | e1
      · have e2 : decide (P.en k < 0) = true := by
          have := of_decide_eq_true e1
          exact decide_eq_true (hsg.1 this)
        have e3 : decide (0 ≤ Q.en k) = false := by
          have := of_decide_eq_true e1
          exact decide_eq_false (by omega)
        have H8 := tmh (And.intro hO (And.intro hbr (show ∀ j, j < k + 1 → 0 ≤ Q.en j → G (Q.en j).toNat = true from fun j hj h0 => by
          rcases Nat.lt_or_eq_of_le (Nat.le_of_lt_succ hj) with h9 | rfl
          · exact hG j h9 h0
          · have := of_decide_eq_true e1; omega)))
        clear hO hbr hG hT hk hqe hg hg2 hpe hsg hm32
        go_wp2_with fail
        go_quiet (fail)
        go_wp2_with fail
        exact ⟨⟨k + 1, G, rfl, hlt, H8.out.1, H8.out.2.2, belowN H8.out.2.1 _⟩, hm⟩
      · have e2 : decide (P.en k < 0) = false := by
          have := of_decide_eq_false e1
          exact decide_eq_false (fun h9 => this (hsg.2 h9))
        have e3 : decide (0 ≤ Q.en k) = true := by
          have := of_decide_eq_false e1
          exact decide_eq_true (by omega)
        obtain ⟨A, hA, hAn⟩ : ∃ A : Nat, Q.en k = (A : Int) ∧ A < N3 := by
          have := HF.out.1.v.gd.en k (by rw [HF.out.1.m]; exact hlt)
          have := of_decide_eq_true e3
          have := HF.out.2.1.1
          exact ⟨(Q.en k).toNat, by omega, by omega⟩
        obtain ⟨f0, f1, hBq⟩ := own_boolc hO hAn
        have hO8 := own_upT hO A
        have H8 := tmh (And.intro hO8 (And.intro (show ∀ j, j < k + 1 → 0 ≤ Q.en j → (if (Q.en j).toNat = A then true else G (Q.en j).toNat) = true from fun j hj h0 => by
          rcases Nat.lt_or_eq_of_le (Nat.le_of_lt_succ hj) with h9 | rfl
          · rw [hG j h9 h0]; split <;> rfl
          · rw [hA, Int.toNat_natCast, if_pos rfl]) hbr))
        rw [hA] at x0 e1 e3
        have j0 : (0 : Int) ≤ (A : Int) := by omega
        have j1 : (A : Int) < (N3 : Int) := by omega
        clear hO hbr hG hT hk hqe hg hg2 hpe hsg hm32 hO8 hA
        go_wp2_with fail
        go_quiet (fail)
        go_wp2_with fail
        exact ⟨⟨k + 1, fun x => if x = A then true else G x, rfl, hlt, H8.out.1, H8.out.2.1, (belowN H8.out.2.2 _).setCell (p := ⟨B, A, none⟩) (Nat.le_refl _) _⟩, hm⟩
    · have d3 : decide ((k : Int) < (P.m : Int)) = false := by simp; omega
      have d4 : decide (k < P.m) = false := by simp; omega
      obtain rfl : k = P.m := by omega
      have H8 := tmh (And.intro hO (And.intro hbr hG))
      clear hO hbr hG hT hk hlt
      go_wp2_with fail
      clear y0 y1 y2 y3 q0 q1 q2 q3
      go_loopw [132] (fun x wr => ∃ (k : Nat) (G : Nat → Bool), x = .int .i64 (k : Int) ∧ k ≤ Q.n ∧ Own wr B 4 1 (.slice (some ⟨B, 0, none⟩) N3 N3) N3 (fun x => .bool (G x)) ∧ (∀ j, j < P.m → 0 ≤ Q.en j → G (Q.en j).toNat = true) ∧ (∀ i, i < k → jmp (Q.op i) = true → G (Q.a i).toNat = true) ∧ Below B w6 wr) (fun x _ => Q.n - (intOf x).toNat)
      case atStart => exact ⟨0, G, rfl, Nat.zero_le _, H8.out.1, H8.out.2.2, fun j hj => absurd hj (Nat.not_lt_zero _), H8.out.2.1⟩
      case round =>
        obtain ⟨k, G, rfl, hk, hO, hG, hG2, hbr⟩ := hrel
        have hT := HX.out wr hbr
        obtain ⟨q0, q1, q2, q3⟩ := cells4 hT.qx
        by_cases hlt : k < Q.n
        · have d3 : decide ((k : Int) < (Q.n : Int)) = true := by simp; omega
          have d4 : decide (k < Q.n) = true := by simp; omega
          have i0 : (0 : Int) ≤ (k : Int) := by omega
          have i1 : (k : Int) < (Q.n : Int) := by omega
          have ek : IntKind.i64.wrap ((k : Int) + 1) = ((k + 1 : Nat) : Int) := by have := HF.out.1.z; rw [IntKind.wrap_i64]; omega
          have hm := meas0 hlt
          obtain ⟨b1, hqc⟩ := hT.qc
          obtain ⟨b2, hdp⟩ := hT.dp
          obtain ⟨g, hg⟩ := own_ipt hqc (by omega)
          subst hg
          obtain ⟨⟨x0, x1, x2⟩, hfz⟩ := own_ins hqc hlt
          obtain ⟨w8, hw8⟩ : ∃ w8, wr.alloc (.cells #[.int .i64 (Q.op k), .int .i64 (Q.a k), .int .i64 (Q.b k)] 36) = w8 := ⟨_, rfl⟩
          obtain ⟨hb8, hx8, hz8⟩ := boxed _ _ _ hw8
          have HW8 := tmh hw8
          have z0 : w8.cell? ⟨db, k, none⟩ = some (.int .i64 (dL Q k)) := (hdp.later hb8).cell (by omega)
          have z1 : decide (dL Q k < 0) = false := by
            have h1 := HF.out.1.t.all k hlt
            have h2 := (vf_of (kinds := (Q.m : Int)) HF.out.1.v.code).2.nn k hlt
            exact decide_eq_false (by omega)
          have c0 : w8.cell? ⟨wr.heap.size, 0, none⟩ = some (.int .i64 (Q.op k)) := cellT hx8 rfl
          have c1 : w8.cell? ⟨wr.heap.size, 1, none⟩ = some (.int .i64 (Q.a k)) := cellT hx8 rfl
          have hO8 := hO.later hb8
          have hb9 : Below B w6 w8 := hbr.trans (hb8.mono (Nat.le_of_lt (hO.lt B rfl).2))
          have H9 := tmh (And.intro hO8 (And.intro hb9 (And.intro hG hG2)))
          have HJ := tmh (And.intro hlt hqc)
          clear hw8 hb8 hx8 hz8 hO hbr hG hG2 hT hk hqc hdp hfz hO8 hb9
          go_upto_region 24 with fail
          rw [HW8.out]
          clear x0 x1 x2 HW8
          rcases (by cases jmp (Q.op k) <;> simp : jmp (Q.op k) = true ∨ jmp (Q.op k) = false) with hj | hj
          · obtain ⟨A, hA, hAn⟩ : ∃ A : Nat, Q.a k = (A : Int) ∧ A < N3 := by
              have := HF.out.1.v.gd.a k hlt hj
              have := HF.out.2.1.1
              exact ⟨(Q.a k).toNat, by omega, by omega⟩
            obtain ⟨f0, f1, hBq⟩ := own_boolc H9.out.1 hAn
            have hO8 := own_upT H9.out.1 A
            have H10 := tmh (And.intro hO8 (And.intro (show ∀ j, j < P.m → 0 ≤ Q.en j → (if (Q.en j).toNat = A then true else G (Q.en j).toNat) = true from fun j hj h0 => by
              rw [H9.out.2.2.1 j hj h0]; split <;> rfl) (show ∀ i, i < k + 1 → jmp (Q.op i) = true → (if (Q.a i).toNat = A then true else G (Q.a i).toNat) = true from fun i hi h0 => by
              rcases Nat.lt_or_eq_of_le (Nat.le_of_lt_succ hi) with h9 | rfl
              · rw [H9.out.2.2.2 i h9 h0]; split <;> rfl
              · rw [hA, Int.toNat_natCast, if_pos rfl])))
            rw [hA] at c1
            have j0 : (0 : Int) ≤ (A : Int) := by omega
            have j1 : (A : Int) < (N3 : Int) := by omega
            unfold jmp at hj
            clear hO8 hA
            cases h1 : (Q.op k == 35) with
            | true =>
              clear hj
              go_wp2_with fail
              exact ⟨⟨k + 1, fun x => if x = A then true else G x, rfl, HJ.out.1, H10.out.1, H10.out.2.1, H10.out.2.2, H9.out.2.1.setCell (p := ⟨B, A, none⟩) (Nat.le_refl _) _⟩, hm⟩
            | false =>
              have h2 : (Q.op k == 36) = true := by rw [h1] at hj; simpa using hj
              clear hj
              go_wp2_with fail
              exact ⟨⟨k + 1, fun x => if x = A then true else G x, rfl, HJ.out.1, H10.out.1, H10.out.2.1, H10.out.2.2, H9.out.2.1.setCell (p := ⟨B, A, none⟩) (Nat.le_refl _) _⟩, hm⟩
          · have H10 := tmh (show ∀ i, i < k + 1 → jmp (Q.op i) = true → G (Q.a i).toNat = true from fun i hi h0 => by
              rcases Nat.lt_or_eq_of_le (Nat.le_of_lt_succ hi) with h9 | rfl
              · exact H9.out.2.2.2 i h9 h0
              · rw [hj] at h0; cases h0)
            unfold jmp at hj
            have h1 : (Q.op k == 35) = false := by cases h : (Q.op k == 35) with | true => rw [h] at hj; simp at hj | false => rfl
            have h2 : (Q.op k == 36) = false := by rw [h1] at hj; simpa using hj
            clear hj
            go_wp2_with fail
            exact ⟨⟨k + 1, G, rfl, HJ.out.1, H9.out.1, H9.out.2.2.1, H10.out, H9.out.2.1⟩, hm⟩
        · have d3 : decide ((k : Int) < (Q.n : Int)) = false := by simp; omega
          have d4 : decide (k < Q.n) = false := by simp; omega
          obtain rfl : k = Q.n := by omega
          have H9 := tmh (And.intro hO (And.intro hbr (And.intro hG hG2)))
          clear hO hbr hG hG2 hT hk hlt
          go_wp2_with fail
          clear q0 q1 q2 q3
          have hfree : ∀ x, G x = false → FreeP Q x := fun x hx => ⟨fun i hi hj e => by
            have h9 := H9.out.2.2.2 i hi hj
            rw [e, hx] at h9
            exact Bool.noConfusion h9, fun j hj h0 e => by
            have h8 := HF.out.1.v.gd.en j hj
            have h9 := H9.out.2.2.1 j (by rw [← HF.out.1.m]; exact hj) (by omega)
            rw [e, hx] at h9
            exact Bool.noConfusion h9⟩
          have HFR := tmh hfree
          clear hfree
          go_loopw [158] (fun x wr => ∃ (k : Nat), x = .int .i64 (k : Int) ∧ k ≤ Q.n ∧ Own wr B 4 1 (.slice (some ⟨B, 0, none⟩) N3 N3) N3 (fun x => .bool (G x)) ∧ Below B w6 wr) (fun x _ => Q.n - (intOf x).toNat)
          case atStart => exact ⟨0, rfl, Nat.zero_le _, H9.out.1, H9.out.2.1⟩
          case round =>
            obtain ⟨k, rfl, hk, hO, hbr⟩ := hrel
            have hT := HX.out wr hbr
            by_cases hlt : k < Q.n
            · have d3 : decide ((k : Int) < (Q.n : Int)) = true := by simp; omega
              have d4 : decide (k < Q.n) = true := by simp; omega
              have i0 : (0 : Int) ≤ (k : Int) := by omega
              have i1 : (k : Int) < (Q.n : Int) := by omega
              have i2 : (k : Int) < (N3 : Int) := by have := HF.out.2.1.1; omega
              have ek : IntKind.i64.wrap ((k : Int) + 1) = ((k + 1 : Nat) : Int) := by have := HF.out.1.z; rw [IntKind.wrap_i64]; omega
              have hm := meas0 hlt
              obtain ⟨b1, hqc⟩ := hT.qc
              obtain ⟨g, hg⟩ := own_ipt hqc (by omega)
              subst hg
              obtain ⟨⟨x0, x1, x2⟩, hfz⟩ := own_ins hqc hlt
              obtain ⟨w8, hw8⟩ : ∃ w8, wr.alloc (.cells #[.int .i64 (Q.op k), .int .i64 (Q.a k), .int .i64 (Q.b k)] 36) = w8 := ⟨_, rfl⟩
              obtain ⟨hb8, hx8, hz8⟩ := boxed _ _ _ hw8
              have HW8 := tmh hw8
              have c0 : w8.cell? ⟨wr.heap.size, 0, none⟩ = some (.int .i64 (Q.op k)) := cellT hx8 rfl
              have c1 : w8.cell? ⟨wr.heap.size, 1, none⟩ = some (.int .i64 (Q.a k)) := cellT hx8 rfl
              have hb9 : Below B w6 w8 := hbr.trans (hb8.mono (Nat.le_of_lt (hO.lt B rfl).2))
              have H11 := tmh (And.intro (hO.later hb8) hb9)
              have HJ := tmh (And.intro hlt (hqc.later hb8))
              have HX8 := tmh hx8
              have HSZ : Hid (wr.heap.size < w8.heap.size) := tmh (by omega)
              have HSB : Hid (B ≤ w8.heap.size) := tmh (by have := (hO.lt B rfl).2; omega)
              obtain ⟨q0, q1, q2, q3⟩ := cells4 (hT.later hb8).qx
              clear hw8 hb8 hx8 hz8 hO hbr hT hk hqc hfz hb9
              go_upto_region 32 with fail
              rw [HW8.out]
              clear x0 x1 x2 HW8
              cases h1 : (Q.op k == 35) with
              | true =>
                have hj : jmp (Q.op k) = true := by unfold jmp; rw [h1]; rfl
                obtain ⟨A, hA, hAn⟩ : ∃ A : Nat, Q.a k = (A : Int) ∧ A < Q.n := by
                  have := HF.out.1.v.gd.a k HJ.out.1 hj
                  exact ⟨(Q.a k).toNat, by omega, by omega⟩
                obtain ⟨⟨x0, x1, x2⟩, hfz⟩ := own_ins HJ.out.2 hAn
                obtain ⟨t1, t2⟩ := tdy_jump R2f R1f HF.out.1.v HF.out.1.t HJ.out.1 (by simpa using h1)
                rw [hA] at t1 t2
                rw [Int.toNat_natCast] at t2
                have g1 : ((A : Int) == ((k + 1 : Nat) : Int)) = false := by simp only [beq_eq_false_iff_ne]; exact t1
                have g2 : (A == k + 1) = false := by simp only [beq_eq_false_iff_ne]; intro h9; exact t1 (by rw [h9])
                have g3 : ((A : Int) == (k : Int) + 1) = false := by simp only [beq_eq_false_iff_ne]; intro h9; exact t1 (by rw [h9]; rfl)
                have g4 : (Q.op A == 0) = false := by simp only [beq_eq_false_iff_ne]; exact t2
                have g5 : (Q.op k == 13) = false := by have h9 : Q.op k = 35 := by simpa using h1
                                                       rw [h9]; rfl
                clear t1 t2
                have hcirc : Q.op A = 35 → ∀ k', Q.op (jit Q k' A) = 35 := fun h9 k' => by
                  have h := tdy_circ HF.out.1.v HF.out.1.p HJ.out.1 hj (by rw [hA, Int.toNat_natCast]; exact h9) k'
                  rw [hA, Int.toNat_natCast] at h
                  exact h
                have HCI := tmh (fun h9 => circles_any HF.out.1.v.gd HF.out.1.z hAn (hcirc h9) w8 HJ.out.2)
                have HAK := tmh hA
                rw [hA] at c1
                have j0 : (0 : Int) ≤ (A : Int) := by omega
                have j1 : (A : Int) < (Q.n : Int) := by omega
                clear hcirc hA hj hfz x1 x2
                cases e5 : (Q.op A == 35) with
                | false =>
                  go_wp2_with fail
                  exact ⟨⟨k + 1, rfl, HJ.out.1, H11.out.1, H11.out.2⟩, hm⟩
                | true =>
                  have HC2 := HCI.out (by simpa using e5)
                  clear HCI
                  go_wp2_with (go_at_call 11; (with_reducible refine HC2.mono ?_); rintro e w9 ⟨rfl, z9⟩; have HZ9 := tmh z9; obtain ⟨c0, c1⟩ : w9.cell? ⟨wr.heap.size, 0, none⟩ = some (.int .i64 (Q.op k)) ∧ w9.cell? ⟨wr.heap.size, 1, none⟩ = some (.int .i64 (A : Int)) := ⟨cellT ((z9.block _ HSZ.out).trans HX8.out) rfl, (cellT ((z9.block _ HSZ.out).trans HX8.out) rfl : w9.cell? ⟨wr.heap.size, 1, none⟩ = some (.int .i64 (Q.a k))).trans (by rw [HAK.out])⟩; clear z9)
                  exact ⟨⟨k + 1, rfl, HJ.out.1, H11.out.1.later HZ9.out, H11.out.2.trans (HZ9.out.mono HSB.out)⟩, hm⟩
              | false =>
                cases h2 : (Q.op k == 36) with
                | true =>
                  have hj : jmp (Q.op k) = true := by unfold jmp; rw [h1, h2]; rfl
                  obtain ⟨A, hA, hAn⟩ : ∃ A : Nat, Q.a k = (A : Int) ∧ A < Q.n := by
                    have := HF.out.1.v.gd.a k HJ.out.1 hj
                    exact ⟨(Q.a k).toNat, by omega, by omega⟩
                  obtain ⟨⟨x0, x1, x2⟩, hfz⟩ := own_ins HJ.out.2 hAn
                  have g5 : (Q.op k == 13) = false := by have h9 : Q.op k = 36 := by simpa using h2
                                                         rw [h9]; rfl
                  have hcirc : Q.op A = 35 → ∀ k', Q.op (jit Q k' A) = 35 := fun h9 k' => by
                    have h := tdy_circ HF.out.1.v HF.out.1.p HJ.out.1 hj (by rw [hA, Int.toNat_natCast]; exact h9) k'
                    rw [hA, Int.toNat_natCast] at h
                    exact h
                  have HCI := tmh (fun h9 => circles_any HF.out.1.v.gd HF.out.1.z hAn (hcirc h9) w8 HJ.out.2)
                  have HAK := tmh hA
                  rw [hA] at c1
                  have j0 : (0 : Int) ≤ (A : Int) := by omega
                  have j1 : (A : Int) < (Q.n : Int) := by omega
                  clear hcirc hA hj hfz x1 x2
                  cases e5 : (Q.op A == 35) with
                  | false =>
                    go_wp2_with fail
                    exact ⟨⟨k + 1, rfl, HJ.out.1, H11.out.1, H11.out.2⟩, hm⟩
                  | true =>
                    have HC2 := HCI.out (by simpa using e5)
                    clear HCI
                    go_wp2_with (go_at_call 11; (with_reducible refine HC2.mono ?_); rintro e w9 ⟨rfl, z9⟩; have HZ9 := tmh z9; obtain ⟨c0, c1⟩ : w9.cell? ⟨wr.heap.size, 0, none⟩ = some (.int .i64 (Q.op k)) ∧ w9.cell? ⟨wr.heap.size, 1, none⟩ = some (.int .i64 (A : Int)) := ⟨cellT ((z9.block _ HSZ.out).trans HX8.out) rfl, (cellT ((z9.block _ HSZ.out).trans HX8.out) rfl : w9.cell? ⟨wr.heap.size, 1, none⟩ = some (.int .i64 (Q.a k))).trans (by rw [HAK.out])⟩; clear z9)
                    exact ⟨⟨k + 1, rfl, HJ.out.1, H11.out.1.later HZ9.out, H11.out.2.trans (HZ9.out.mono HSB.out)⟩, hm⟩
                | false =>
                  cases h3 : (Q.op k == 13) with
                  | false =>
                    go_wp2_with fail
                    exact ⟨⟨k + 1, rfl, HJ.out.1, H11.out.1, H11.out.2⟩, hm⟩
                  | true =>
                    by_cases hk2 : k < 2
                    · have g6 : decide ((2 : Int) ≤ (k : Int)) = false := by simp; omega
                      have g7 : decide (2 ≤ k) = false := by simp; omega
                      clear hk2
                      go_wp2_with fail
                      exact ⟨⟨k + 1, rfl, HJ.out.1, H11.out.1, H11.out.2⟩, hm⟩
                    · obtain ⟨k1, hk1⟩ : ∃ k1, k1 + 1 = k := ⟨k - 1, by omega⟩
                      obtain ⟨k3, hk3⟩ : ∃ k3, k3 + 2 = k := ⟨k - 2, by omega⟩
                      have g6 : decide ((2 : Int) ≤ (k : Int)) = true := by simp; omega
                      have g7 : decide (2 ≤ k) = true := by simp; omega
                      have s1 : IntKind.i64.wrap ((k : Int) - 1) = (k1 : Int) := by have := HF.out.1.z; rw [IntKind.wrap_i64]; omega
                      have s2 : IntKind.i64.wrap ((k : Int) - 2) = (k3 : Int) := by have := HF.out.1.z; rw [IntKind.wrap_i64]; omega
                      have j0 : (0 : Int) ≤ (k1 : Int) := by omega
                      have j1 : (k1 : Int) < (Q.n : Int) := by omega
                      have j2 : (0 : Int) ≤ (k3 : Int) := by omega
                      have j3 : (k3 : Int) < (Q.n : Int) := by omega
                      have j4 : (k1 : Int) < (N3 : Int) := by omega
                      obtain ⟨⟨x0, _, _⟩, _⟩ := own_ins HJ.out.2 (show k1 < Q.n by omega)
                      obtain ⟨⟨x3, _, _⟩, _⟩ := own_ins HJ.out.2 (show k3 < Q.n by omega)
                      have y0 : w8.cell? ⟨B, k, none⟩ = some (.bool (G k)) := (own_boolc H11.out.1 (by omega)).1
                      have y1 : w8.cell? ⟨B, k1, none⟩ = some (.bool (G k1)) := (own_boolc H11.out.1 (by omega)).1
                      have HK := tmh (And.intro hk1 hk3)
                      clear hk1 hk3 hk2
                      cases h4 : (Q.op k1 == 1) with
                      | false =>
                        go_wp2_with fail
                        exact ⟨⟨k + 1, rfl, HJ.out.1, H11.out.1, H11.out.2⟩, hm⟩
                      | true =>
                        cases h5 : (Q.op k3 == 1) with
                        | false =>
                          go_wp2_with fail
                          exact ⟨⟨k + 1, rfl, HJ.out.1, H11.out.1, H11.out.2⟩, hm⟩
                        | true =>
                          cases h6 : G k with
                          | true =>
                            rw [h6] at y0
                            go_wp2_with fail
                            exact ⟨⟨k + 1, rfl, HJ.out.1, H11.out.1, H11.out.2⟩, hm⟩
                          | false =>
                            cases h7 : G k1 with
                            | true =>
                              rw [h6] at y0
                              rw [h7] at y1
                              go_wp2_with fail
                              exact ⟨⟨k + 1, rfl, HJ.out.1, H11.out.1, H11.out.2⟩, hm⟩
                            | false =>
                              exact (tdy_add R2f R1f (L := L) (c := k3) HF.out.1.t add_known (by have := HJ.out.1; have := HK.out; omega) (by simpa using h5) (by rw [show k3 + 1 = k1 by have := HK.out; omega]; simpa using h4) (by rw [HK.out.2]; simpa using h3) (by rw [show k3 + 1 = k1 by have := HK.out; omega]; exact HFR.out _ h7) (by rw [HK.out.2]; exact HFR.out _ h6)).elim
            · have d3 : decide ((k : Int) < (Q.n : Int)) = false := by simp; omega
              have d4 : decide (k < Q.n) = false := by simp; omega
              clear hO hT hk hlt
              go_wp2_with fail
              go_ret
              exact ⟨rfl, HB6.out.trans (hbr.mono (by rw [HF.out.2.2]; exact HB6.out.size))⟩
theorem done_law (P : Pg) (v : PgV) (kinds : Int) (W : World) (h : PAt W P v) (hs : roomyP P) (ha : A64 P) :
    Calls Tryz.prog 3 #[.agg #[.int .i64 P.words, .int .i64 P.locals, .slice v.cp P.n v.cc, .slice v.ep P.m v.ec], .int .i64 kinds] W fun e W' => e = .returned (.bool true) ∧ Below W.heap.size W W' := by
  by_cases hc : dcode P kinds = 0
  · obtain ⟨rfl, _⟩ := vf_of hc
    exact done_good P v W h hs ha hc
  · exact done_bad P v kinds W h hs hc
end Go.Proofs.YtopggemomcoalaaGreat
