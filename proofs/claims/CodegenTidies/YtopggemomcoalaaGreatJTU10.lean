import Derived.Test.YtopggemomcoalaaGreatJTU9
import Derived.Deep.CutRange
namespace Go.Proofs.YtopggemomcoalaaGreat
open Go.ChangeShapes Go.WideShapes Go.ChangeAt Go.RowKit
set_option linter.unusedVariables false
set_option linter.unusedSimpArgs false

/-! ### the document's constants -/
theorem PB.plain {Sf : Nat → Prop} {Hf : Nat → Option Obj} {W : World} {base tb : Nat} {P : Pg} {cp ep : Option Addr} {cc ec : Nat} (h : PB Sf Hf W base tb P cp ep cc ec) : PB NoS NoH W base tb P cp ep cc ec := ⟨h.bx, h.cd, h.en, h.lo, fun j hj => hj.elim, fun hj => hj, fun _ _ _ hj => hj, fun _ _ _ hj => hj⟩
def OnS (B : Nat) : Nat → Prop := fun j => j = B
def OnH (w : World) : Nat → Option Obj := fun j => w.heap[j]?
theorem pb_frame {W W' : World} {base tb B : Nat} {P : Pg} {lp lq : Option Addr} {lc lx : Nat} (h : PB NoS NoH W base tb P lp lq lc lx) (hB : W.heap.size ≤ B) (hb : Below W.heap.size W W') (hl : B < W'.heap.size) : PB (OnS B) (OnH W') W' base tb P lp lq lc lx := by
  have h' := h.later hb
  refine ⟨h'.bx, h'.cd, h'.en, h'.lo, fun j hj => ?_, fun e => ?_, fun g o e hj => ?_, fun g o e hj => ?_⟩
  · have e : j = B := hj
    subst e
    exact ⟨hl, rfl⟩
  · have e : tb = B := e
    have := ltB h.bx
    omega
  · have e2 : g = B := hj
    subst e
    have := (h.cd.lt g rfl).2
    omega
  · have e2 : g = B := hj
    subst e
    have := (h.en.lt g rfl).2
    omega
theorem own_nm {W : World} {base g c n : Nat} {T : Nat → Bool} (h : Own W base 4 1 (.slice (some ⟨g, 0, none⟩) n c) n (fun x => .bool ((fun x => !(T x)) x))) (k : Nat) : Own (W.setCell ⟨g, k, none⟩ (.bool true)) base 4 1 (.slice (some ⟨g, 0, none⟩) n c) n (fun x => .bool ((fun x => !(upB T k x)) x)) :=
  (own_setB h k true).congr fun x _ => by
    show Value.bool (if x = k then true else !(T x)) = Value.bool (!(if x = k then false else T x))
    by_cases e : x = k
    · rw [if_pos e, if_pos e]; rfl
    · rw [if_neg e, if_neg e]
def CR (P : Pg) (Sf : Nat → Prop) (Hf : Nat → Option Obj) (wa : World) (tb : Nat) (lp lq : Option Addr) (lc lx : Nat) (x : Value) (wr : World) : Prop := ∃ (c f : Nat) (Q : Pg) (L' : Nat → Int), x = .int .i64 (c : Int) ∧ c ≤ 8192 ∧ Q.n = P.n ∧ P.n ≤ f + c ∧ foldL R2f R1f (frB P) f c Q = foldL R2f R1f (frB P) P.n 0 P ∧ Vf Q L' ∧ Full Q L' ∧ A64 Q ∧ (∀ x, c < x → frB P x = true → FreeP Q x) ∧ PB Sf Hf wr wa.heap.size tb Q lp lq lc lx ∧ Below wa.heap.size wa wr
theorem meas1 {c k n : Nat} (h : c < n) (h2 : c < k) : n - (intOf (.int .i64 (k : Int))).toNat < n - (intOf (.int .i64 (c : Int))).toNat := by
  show n - ((k : Int)).toNat < n - ((c : Int)).toNat
  omega
theorem cr_step {P Q : Pg} {Sf : Nat → Prop} {Hf : Nat → Option Obj} {wa : World} {tb : Nat} {lp lq : Option Addr} {lc lx c f : Nat} {L' : Nat → Int} (hlt : c < P.n) (hn : P.n ≤ 4096) (hQ : Q.n = P.n) (hfc : P.n ≤ f + c) (hfl : foldL R2f R1f (frB P) f c Q = foldL R2f R1f (frB P) P.n 0 P) (v : Vf Q L') (hf : Full Q L') (ha : A64 Q) (hfr : ∀ x, c < x → frB P x = true → FreeP Q x)
    {s : Nat} {Q2 : Pg} (hd : dfat (frB P) Q c = (Q2, s)) {w' : World} (hT : PB Sf Hf w' wa.heap.size tb Q2 lp lq lc lx) (hb : Below wa.heap.size wa w') {k : Nat} (hk : c + s = k) : CR P Sf Hf wa tb lp lq lc lx (.int .i64 (k : Int)) w' ∧ P.n - (intOf (.int .i64 (k : Int))).toNat < P.n - (intOf (.int .i64 (c : Int))).toNat := by
  subst hk
  have hlq : c < Q.n := by rw [hQ]; exact hlt
  obtain ⟨f', rfl⟩ : ∃ f', f = f' + 1 := ⟨f - 1, by omega⟩
  have hun : foldL R2f R1f (frB P) (f' + 1) c Q = foldL R2f R1f (frB P) f' (c + (fatP R2f R1f (frB P) Q c).2) (fatP R2f R1f (frB P) Q c).1 := if_pos hlq
  have hfa := fat_any R2f R1f v hf hlq hfr
  have ha2 := fat_a64 v hf ha (frB P) hlq
  obtain ⟨hs0, hs3, L2, hv2, hf2, hn2, hfr2⟩ : 0 < s ∧ s ≤ 4096 ∧ ∃ L2, Vf (fatP R2f R1f (frB P) Q c).1 L2 ∧ Full (fatP R2f R1f (frB P) Q c).1 L2 ∧ (fatP R2f R1f (frB P) Q c).1.n = Q.n ∧ ∀ x, c + s < x → frB P x = true → FreeP (fatP R2f R1f (frB P) Q c).1 x := by
    have es : (fatP R2f R1f (frB P) Q c).2 = s := by rw [dfat_is, hd]
    rcases hfa with h9 | ⟨Q3, s3, h9, hs, hR⟩
    · rw [h9] at es ⊢
      have es : 1 = s := es
      subst es
      exact ⟨by omega, by omega, L', v, hf, rfl, fun x hx => hfr x (by omega)⟩
    · have hs3 : s3 ≤ 3 := by
        have e : (fatP R2f R1f (frB P) Q c).2 = s3 := by rw [h9]
        rw [← e]
        unfold fatP
        repeat' split
        all_goals (first | exact (by decide : 3 ≤ 3) | exact (by decide : 2 ≤ 3) | exact (by decide : 1 ≤ 3))
      rw [h9] at es ⊢
      have es : s3 = s := es
      subst es
      exact ⟨hs, by omega, _, hR.vf.1, hR.vf.2, hR.pa.n, fun x hx hx2 => hR.fr x hx (hfr x (by omega) hx2)⟩
  rw [hun, dfat_is, hd] at hfl
  rw [dfat_is, hd] at ha2 hv2 hf2 hn2 hfr2
  exact ⟨⟨c + s, f', Q2, L2, rfl, by omega, hn2.trans hQ, by omega, hfl, hv2, hf2, ha2, hfr2, hT, hb⟩, meas1 hlt (by omega)⟩
theorem fold3_op (P : Pg) (c : Nat) (z : Int) : (fold3 P c z).op c = 35 := by
  show (if c = c + 2 then (1 : Int) else if c = c + 1 then 35 else if c = c then 35 else P.op c) = 35
  rw [if_neg (by omega), if_neg (by omega), if_pos rfl]
theorem double_int {Sf : Nat → Prop} {Hf : Nat → Option Obj} {base tb g : Nat} {P : Pg} {lq : Option Addr} {lc lx : Nat} {L : Nat → Int} (v : Vf P L) (W : World) (hT : PB Sf Hf W base tb P (some ⟨g, 0, none⟩) lq lc lx) (c : Nat) (hc : c + 1 < P.n) (hB : base ≤ W.heap.size) (fr : Nat → Bool) (h1 : P.op c = 1) (hf : fr (c + 1) = true) (hno : ¬ (fr (c + 2) = true ∧ P.op (c + 1) = 1 ∧ two2 (P.op (c + 2)) = true ∧ (pairV (P.op (c + 2)) (P.a c) (P.a (c + 1))).2 = 0)) :
    Calls Tryz.prog 58 #[.slice (some ⟨g, 0, none⟩) P.n lc, .int .i64 (c : Int)] W fun e W' => ∃ d : Int, e = .returned (.int .i64 d) ∧ PB Sf Hf W' base tb (dfat fr P c).1 (some ⟨g, 0, none⟩) lq lc lx ∧ Below base W W' ∧ (d = 0 ∧ (dfat fr P c).2 = 1 ∨ d = 2 ∧ (dfat fr P c).2 = 2) := by
  refine (double_any v W hT c hc hB fr h1 hf hno).mono fun e W' h => ?_
  obtain ⟨d, h1, h2, h3, h4⟩ := h
  refine ⟨(d : Int), h1, h2, h3, ?_⟩
  rcases h4 with ⟨rfl, h⟩ | ⟨rfl, h⟩
  · exact .inl ⟨rfl, h⟩
  · exact .inr ⟨rfl, h⟩
set_option maxRecDepth 100000 in
set_option maxHeartbeats 16000000 in
theorem constants_any {P : Pg} {L : Nat → Int} (v : Vf P L) (hf : Full P L) (ha : A64 P) (cp ep : Option Addr) (cc ec : Nat) (W : World) (hI : IAt W cp P.n P.op P.a P.b) (hE : KAt W ep P.m P.en) :
    Calls Tryz.prog 34 #[.agg #[.int .i64 P.words, .int .i64 P.locals, .slice cp P.n cc, .slice ep P.m ec]] W fun e W' => OwnP W W' e (foldL R2f R1f (frB P) P.n 0 P) := by
  have hsz := v.sz
  have hn := hsz.2.2.1
  have hm32 := hsz.2.2.2
  obtain ⟨i5, hi5, hz0, hz1, hz2⟩ := info_parts infoB2
  obtain ⟨wp, hwp⟩ : ∃ wp, W.alloc (.cells #[.int .i64 P.words, .int .i64 P.locals, .slice cp P.n cc, .slice ep P.m ec] 25) = wp := ⟨_, rfl⟩
  obtain ⟨hbp, hpx, hpz⟩ := boxed _ _ _ hwp
  obtain ⟨wa, hwa⟩ : ∃ wa, wp.alloc (.cells #[.int .i64 0, .int .i64 0, .slice none 0 0, .slice none 0 0] 25) = wa := ⟨_, rfl⟩
  obtain ⟨hba, hrx, haz⟩ := boxed _ _ _ hwa
  rw [hpz] at hrx
  have hWa : Below W.heap.size W wa := hbp.trans (hba.mono hbp.size)
  have hpb := (hba.block W.heap.size (by omega)).trans hpx
  have HC := copyProgram_own P ⟨cp, cc, ep, ec⟩ wa ⟨hI.below hWa, hE.below hWa⟩ ⟨by omega, by omega⟩
  dsimp only at HC
  have HW := tmh (And.intro hwp hwa)
  have H0 := tmh (And.intro v (And.intro hpb (And.intro hrx (And.intro hWa (And.intro (show wa.heap.size = W.heap.size + 2 by omega) (hI.below hWa))))))
  have HE := tmh (hE.below hWa)
  have HV := tmh (And.intro hf ha)
  obtain ⟨y0, y1, y2, y3⟩ := cells4 hpb
  clear hwp hbp hpx hpz hwa hba hrx haz hWa hpb hI hE v hsz hf ha
  go_enter Tryz.func34, Tryz.ntmps34
  go_upto_region 1 with fail
  rw [HW.out.1, HW.out.2]
  go_upto_region 2 with (go_at_call 7; (with_reducible refine HC.mono ?_); rintro e w1 ⟨lp, lq, lc, lx, rfl, o1, o2, b1⟩)
  obtain ⟨wq, hwq⟩ : ∃ wq, w1.alloc (.cells #[.int .i64 P.words, .int .i64 P.locals, .slice lp P.n lc, .slice lq P.m lx] 25) = wq := ⟨_, rfl⟩
  obtain ⟨hpq, hbq⟩ := pb_new o1 o2 b1.size hwq
  rw [hwq]
  obtain ⟨tb, htb⟩ : ∃ tb, tb = w1.heap.size := ⟨_, rfl⟩
  rw [← htb] at hpq ⊢
  have hbw : Below wa.heap.size wa wq := b1.trans (hbq.mono b1.size)
  have hlt0 : W.heap.size < wa.heap.size := by have := H0.out.2.2.2.2.1; omega
  have H1 := tmh (And.intro hpq (And.intro hbw (show wa.heap.size ≤ tb by rw [htb]; exact b1.size)))
  have HL0 := tmh hlt0
  clear y0 y1 y2 y3
  obtain ⟨p0, p1, p2, p3⟩ := cells4 ((hbw.block _ hlt0).trans H0.out.2.1)
  clear hwq hpq hbq hbw o1 o2 b1 HC htb hlt0
  go_upto_region 3 with (at_make; refine wpList_make_full _ rfl (.tmp 17) (.tmp 17) 34 rfl wq.heap.size 4 i5 _ 1 Tryz.underlying34 hi5 hz0 hz1 .i64 .i64 P.n P.n P.n rfl rfl rfl rfl ?c1 ?c2 ?c3 ?_)
  case c1 => rw [hz2]; omega
  case c2 => unfold maxLen; omega
  case c3 => exact Nat.le_refl _
  intro w2 hown hgrow
  have hb2 : Below wq.heap.size wq w2 := (Below.refl _ _).grown hgrow (Nat.le_refl _) (by simp)
  have hO2 := own_falses hown
  obtain ⟨B, hB⟩ : ∃ B, B = wq.heap.size := ⟨_, rfl⟩
  rw [← hB] at hO2 hb2 ⊢
  have hO2 : Own w2 B 4 1 (.slice (some ⟨B, 0, none⟩) P.n P.n) P.n (fun x => .bool ((fun x => !(fr1 P 0 x)) x)) := hO2
  have H2 := tmh (And.intro hO2 (And.intro hb2 hB))
  have hqb : ∀ w, Below B wq w → w.heap[W.heap.size]? = some (.cells #[.int .i64 P.words, .int .i64 P.locals, .slice cp P.n cc, .slice ep P.m ec] 25 (0, 0)) := fun w hw => ((hw.block _ (by have := H1.out.2.1.size; have := HL0.out; omega)).trans (H1.out.2.1.block _ HL0.out)).trans H0.out.2.1
  have HQB := tmh hqb
  clear p0 p1 p2 p3
  obtain ⟨p0, p1, p2, p3⟩ := cells4 (hqb w2 hb2)
  clear hown hgrow hi5 hz0 hz1 hz2 hO2 hb2 hB hqb
  go_wp2_with fail
  clear p0 p1 p2 p3
  go_loopw [22] (fun x wr => ∃ k : Nat, x = .int .i64 (k : Int) ∧ k ≤ P.n ∧ Own wr B 4 1 (.slice (some ⟨B, 0, none⟩) P.n P.n) P.n (fun x => .bool ((fun x => !(fr1 P k x)) x)) ∧ Below B wq wr) (fun x _ => P.n - (intOf x).toNat)
  case atStart => exact ⟨0, rfl, Nat.zero_le _, H2.out.1, H2.out.2.1⟩
  case round =>
    obtain ⟨k, rfl, hk, hO, hbr⟩ := hrel
    by_cases hlt : k < P.n
    · have d1 : decide ((k : Int) < (P.n : Int)) = true := by simp; omega
      have d2 : decide (k < P.n) = true := by simp; omega
      have i0 : (0 : Int) ≤ (k : Int) := by omega
      have i1 : (k : Int) < (P.n : Int) := by omega
      have ek : IntKind.i64.wrap ((k : Int) + 1) = ((k + 1 : Nat) : Int) := by rw [IntKind.wrap_i64]; omega
      have hm := meas0 hlt
      obtain ⟨gp, op, hgp⟩ := iat_pt H0.out.2.2.2.2.2 (by omega)
      subst hgp
      have hIr := (H0.out.2.2.2.2.2.below H1.out.2.1).below (H2.out.2.2 ▸ hbr)
      obtain ⟨x0, x1, x2⟩ := iat_at hIr hlt
      obtain ⟨w8, hw8⟩ : ∃ w8, wr.alloc (.cells #[.int .i64 (P.op k), .int .i64 (P.a k), .int .i64 (P.b k)] 36) = w8 := ⟨_, rfl⟩
      obtain ⟨hb8, hx8, hz8⟩ := boxed _ _ _ hw8
      have HW8 := tmh hw8
      have HJ := rleads_any (P.op k) (P.a k) (P.b k) w8
      obtain ⟨c0, c1, c2⟩ : w8.cell? ⟨wr.heap.size, 0, none⟩ = some (.int .i64 (P.op k)) ∧ w8.cell? ⟨wr.heap.size, 1, none⟩ = some (.int .i64 (P.a k)) ∧ w8.cell? ⟨wr.heap.size, 2, none⟩ = some (.int .i64 (P.b k)) := ⟨cellT hx8 rfl, cellT hx8 rfl, cellT hx8 rfl⟩
      have hBw := Nat.le_of_lt (hO.lt B rfl).2
      have H8 := tmh (And.intro (hO.later hb8) (And.intro (hbr.trans (hb8.mono hBw)) (And.intro hx8 (show B ≤ w8.heap.size by omega))))
      clear hw8 hb8 hx8 hz8 hO hbr hk hIr hBw
      go_upto_region 6 with fail
      rw [HW8.out]
      clear x0 x1 x2 HW8
      cases hj : jmp (P.op k) with
      | false =>
        rw [hj] at HJ
        have hst : fr1 P (k + 1) = fr1 P k := by
          show (if jmp (P.op k) = true then upB (fr1 P k) (P.a k).toNat else fr1 P k) = _
          rw [if_neg (by rw [hj]; exact Bool.false_ne_true)]
        have HS := tmh hst
        clear hst hj
        go_wp2_with (go_at_call 55; (with_reducible refine HJ.mono ?_); rintro e w9 ⟨rfl, b9⟩)
        exact ⟨⟨k + 1, rfl, hlt, by rw [HS.out]; exact H8.out.1.later b9, H8.out.2.1.trans (b9.mono H8.out.2.2.2)⟩, hm⟩
      | true =>
        rw [hj] at HJ
        obtain ⟨A, hA, hAn⟩ : ∃ A : Nat, P.a k = (A : Int) ∧ A < P.n := by
          have := H0.out.1.gd.a k hlt hj
          exact ⟨(P.a k).toNat, by omega, by omega⟩
        have hst : fr1 P (k + 1) = upB (fr1 P k) A := by
          show (if jmp (P.op k) = true then upB (fr1 P k) (P.a k).toNat else fr1 P k) = _
          rw [if_pos hj, hA, Int.toNat_natCast]
        have HA := tmh (And.intro hA hst)
        clear hA hst
        go_upto_region 7 with (go_at_call 55; (with_reducible refine HJ.mono ?_); rintro e w9 ⟨rfl, b9⟩; have HB9 := tmh b9; clear b9)
        have hx9 := (HB9.out.block _ (lt_of_block H8.out.2.2.1)).trans H8.out.2.2.1
        rw [HA.out.1] at hx9
        clear c0 c1 c2
        have c1 : w9.cell? ⟨wr.heap.size, 1, none⟩ = some (.int .i64 (A : Int)) := cellT hx9 rfl
        have hO9 := H8.out.1.later HB9.out
        obtain ⟨q0, f0, hBq⟩ := own_boolc hO9 hAn
        have hO7 := own_nm hO9 A
        have hb7 : Below B wq (w9.setCell ⟨B, A, none⟩ (.bool true)) := (H8.out.2.1.trans (HB9.out.mono H8.out.2.2.2)).setCell (p := ⟨B, A, none⟩) (Nat.le_refl _) _
        have j0 : (0 : Int) ≤ (A : Int) := by omega
        have j1 : (A : Int) < (P.n : Int) := by omega
        have H7 := tmh (And.intro hO7 hb7)
        clear hO9 hO7 hb7 hx9 hj
        go_wp2_with fail
        exact ⟨⟨k + 1, rfl, hlt, by rw [HA.out.2]; exact H7.out.1, H7.out.2⟩, hm⟩
    · have d1 : decide ((k : Int) < (P.n : Int)) = false := by simp; omega
      have d2 : decide (k < P.n) = false := by simp; omega
      obtain rfl : k = P.n := by omega
      have H3 := tmh (And.intro hO hbr)
      obtain ⟨p0, p1, p2, p3⟩ := cells4 (HQB.out wr hbr)
      clear hO hbr hk hlt
      go_wp2_with fail
      clear p0 p1 p2 p3
      go_loopw [36] (fun x wr => ∃ k : Nat, x = .int .i64 (k : Int) ∧ k ≤ P.m ∧ Own wr B 4 1 (.slice (some ⟨B, 0, none⟩) P.n P.n) P.n (fun x => .bool ((fun x => !(fr2 P k x)) x)) ∧ Below B wq wr) (fun x _ => P.m - (intOf x).toNat)
      case atStart => exact ⟨0, rfl, Nat.zero_le _, H3.out.1, H3.out.2⟩
      case round =>
        obtain ⟨k, rfl, hk, hO, hbr⟩ := hrel
        by_cases hlt : k < P.m
        · have d3 : decide ((k : Int) < (P.m : Int)) = true := by simp; omega
          have d4 : decide (k < P.m) = true := by simp; omega
          have i0 : (0 : Int) ≤ (k : Int) := by omega
          have i1 : (k : Int) < (P.m : Int) := by omega
          have ek : IntKind.i64.wrap ((k : Int) + 1) = ((k + 1 : Nat) : Int) := by rw [IntKind.wrap_i64]; omega
          have hm := meas0 hlt
          obtain ⟨ge, oe, hge⟩ := kat_ptU HE.out (by omega)
          subst hge
          have x0 : wr.cell? ⟨ge, oe + k, none⟩ = some (.int .i64 (P.en k)) := kat_atU ((HE.out.below H1.out.2.1).below (H2.out.2.2 ▸ hbr)) hlt
          have hv := H0.out.1.en k hlt
          rcases (by cases decide (0 ≤ P.en k) <;> simp : decide (0 ≤ P.en k) = true ∨ decide (0 ≤ P.en k) = false) with e0 | e0
          · obtain ⟨A, hA, hAn⟩ : ∃ A : Nat, P.en k = (A : Int) ∧ A < P.n := by
              have := of_decide_eq_true e0
              exact ⟨(P.en k).toNat, by omega, by omega⟩
            have hst : fr2 P (k + 1) = upB (fr2 P k) A := by
              show (if P.en k = -1 then fr2 P k else upB (fr2 P k) (P.en k).toNat) = _
              rw [if_neg (by omega), hA, Int.toNat_natCast]
            obtain ⟨q0, f0, hBq⟩ := own_boolc hO hAn
            have hO7 := own_nm hO A
            have hb7 : Below B wq (wr.setCell ⟨B, A, none⟩ (.bool true)) := hbr.setCell (p := ⟨B, A, none⟩) (Nat.le_refl _) _
            have HF := tmh (And.intro hO7 (And.intro hb7 hst))
            rw [hA] at x0 e0
            have j0 : (0 : Int) ≤ (A : Int) := by omega
            have j1 : (A : Int) < (P.n : Int) := by omega
            clear hO hbr hst hk hO7 hb7 hA hv
            go_wp2_with fail
            exact ⟨⟨k + 1, rfl, hlt, by rw [HF.out.2.2]; exact HF.out.1, HF.out.2.1⟩, hm⟩
          · have hst : fr2 P (k + 1) = fr2 P k := if_pos (by have := of_decide_eq_false e0; omega)
            have HF := tmh (And.intro hO (And.intro hbr hst))
            clear hO hbr hst hk hv
            go_wp2_with fail
            exact ⟨⟨k + 1, rfl, hlt, by rw [HF.out.2.2]; exact HF.out.1, HF.out.2.1⟩, hm⟩
        · have d3 : decide ((k : Int) < (P.m : Int)) = false := by simp; omega
          have d4 : decide (k < P.m) = false := by simp; omega
          obtain rfl : k = P.m := by omega
          have hON : Own wr B 4 1 (.slice (some ⟨B, 0, none⟩) P.n P.n) P.n (fun x => .bool ((fun x => !(frB P x)) x)) := hO.congr fun x hx => by
            show Value.bool (!(fr2 P P.m x)) = _
            rw [fr2_all]
          have hTN := pb_frame H1.out.1 (Nat.le_of_eq H2.out.2.2.symm) (H2.out.2.2 ▸ hbr) (hON.lt B rfl).2
          have hbN : Below wa.heap.size wa wr := H1.out.2.1.trans (hbr.mono (by rw [H2.out.2.2]; exact H1.out.2.1.size))
          have HN := tmh (And.intro hON (And.intro hTN hbN))
          clear hO hbr hk hlt hON hTN hbN
          go_wp2_with fail
          obtain ⟨wn, hwn⟩ : ∃ wn, wn = wr := ⟨_, rfl⟩
          subst hwn
          go_loopw [9] (fun x wr => CR P (OnS B) (OnH wn) wa tb lp lq lc lx x wr) (fun x _ => P.n - (intOf x).toNat)
          case atStart => exact ⟨0, P.n, P, L, rfl, by omega, rfl, by omega, rfl, H0.out.1, HV.out.1, HV.out.2, fun x _ hx => by unfold frB at hx; exact of_decide_eq_true hx, HN.out.2.1, HN.out.2.2⟩
          case round =>
            obtain ⟨c, f, Q, L', rfl, hc8, hQ, hfc, hfl, v, hf, ha, hfr, hT, hbr⟩ := hrel
            obtain ⟨y0, y1, y2, y3⟩ := hT.cells
            rw [hQ] at y2
            by_cases hlt : c < P.n
            · have d1 : decide ((c : Int) < (P.n : Int)) = true := by simp; omega
              have d2 : decide (c < P.n) = true := by simp; omega
              have hlq : c < Q.n := by rw [hQ]; exact hlt
              obtain ⟨g, hg⟩ := hT.ip (by omega)
              subst hg
              have HS := tmh (fun (s : Nat) (Q2 : Pg) (hd : dfat (frB P) Q c = (Q2, s)) (w' : World) (hT : PB (OnS B) (OnH wn) w' wa.heap.size tb Q2 (some ⟨g, 0, none⟩) lq lc lx) (hb : Below wa.heap.size wa w') (k : Nat) (hk : c + s = k) => cr_step hlt hn hQ hfc hfl v hf ha hfr hd hT hb hk)
              obtain ⟨⟨x0, _, _⟩, _⟩ := hT.ins (k := c) hlq
              have hON : Own wr B 4 1 (.slice (some ⟨B, 0, none⟩) P.n P.n) P.n (fun x => .bool ((fun x => !(frB P x)) x)) := HN.out.1.far fun k hk => by
                simp [Value.ownBlock] at hk
                rw [← hk]
                exact (hT.fr B rfl).2
              obtain ⟨k1, hk1⟩ : ∃ k1, c + 1 = k1 := ⟨_, rfl⟩
              obtain ⟨k2, hk2⟩ : ∃ k2, c + 2 = k2 := ⟨_, rfl⟩
              obtain ⟨k3, hk3⟩ : ∃ k3, c + 3 = k3 := ⟨_, rfl⟩
              have e1 : IntKind.i64.wrap ((c : Int) + 1) = (k1 : Int) := by rw [IntKind.wrap_i64]; omega
              have e2 : IntKind.i64.wrap ((c : Int) + 2) = (k2 : Int) := by rw [IntKind.wrap_i64]; omega
              have e3 : IntKind.i64.wrap ((c : Int) + 3) = (k3 : Int) := by rw [IntKind.wrap_i64]; omega
              have l0 : (0 : Int) ≤ (c : Int) := by omega
              have l1 : (c : Int) < (P.n : Int) := by omega
              have j0 : (0 : Int) ≤ (k1 : Int) := by omega
              have m0 : (0 : Int) ≤ (k2 : Int) := by omega
              obtain ⟨two, htwo⟩ : ∃ two : Bool, two = (decide (k1 < P.n) && frB P k1) := ⟨_, rfl⟩
              obtain ⟨three, hthree⟩ : ∃ three : Bool, three = (two && (decide (k2 < P.n) && frB P k2)) := ⟨_, rfl⟩
              have HK := tmh (And.intro hk1 (And.intro hk2 (And.intro hk3 (And.intro hQ hlq))))
              have HT2 := tmh (And.intro htwo hthree)
              have HQv := tmh (And.intro v (And.intro hf ha))
              have HTT := tmh (And.intro hT hbr)
              have HOB := tmh hON
              clear hfc hfl v hf ha hfr hT hbr hON hk1 hk2 hk3 htwo hthree hQ hlq hc8
              go_upto_region 17 with fail
              obtain ⟨wq0, hwq0⟩ : ∃ wq0, wq0 = wr := ⟨_, rfl⟩
              subst hwq0
              go_cut [10] from 46 to 128 (fun x10 wc => x10 = .bool two ∧ wc = wq0)
              case first =>
                by_cases n1 : k1 < P.n
                · obtain ⟨z1, _, _⟩ := own_boolc HOB.out n1
                  have j1 : (k1 : Int) < (P.n : Int) := by omega
                  have d3 : decide ((k1 : Int) < (P.n : Int)) = true := by simp; omega
                  have d4 : decide (k1 < P.n) = true := by simp; omega
                  cases hb1 : frB P k1 with
                  | false =>
                    have q1 : wq0.cell? ⟨B, k1, none⟩ = some (.bool true) := by rw [z1]; show some (Value.bool (!(frB P k1))) = _; rw [hb1]; rfl
                    have ht2 : two = false := by rw [HT2.out.1, hb1]; simp
                    have HTF := tmh ht2
                    clear ht2 z1 hb1
                    go_wp2_with fail
                    go_meet
                    case rel => exact ⟨by rw [HTF.out], rfl⟩
                  | true =>
                    have q1 : wq0.cell? ⟨B, k1, none⟩ = some (.bool false) := by rw [z1]; show some (Value.bool (!(frB P k1))) = _; rw [hb1]; rfl
                    have ht2 : two = true := by rw [HT2.out.1, hb1]; simp [n1]
                    have HTF := tmh ht2
                    clear ht2 z1 hb1
                    go_wp2_with fail
                    go_meet
                    case rel => exact ⟨by rw [HTF.out], rfl⟩
                · have d3 : decide ((k1 : Int) < (P.n : Int)) = false := by simp; omega
                  have d4 : decide (k1 < P.n) = false := by simp; omega
                  have ht2 : two = false := by rw [HT2.out.1, d4]; rfl
                  have HTF := tmh ht2
                  clear ht2
                  go_wp2_with fail
                  go_meet
                  case rel => exact ⟨by rw [HTF.out], rfl⟩
              case rest =>
              obtain ⟨rfl, hwc⟩ := hcut
              subst hwc
              go_upto_region 18 with fail
              obtain ⟨wq0, hwq0⟩ : ∃ wz, wz = wc := ⟨_, rfl⟩
              subst hwq0
              go_cut [11] from 46 to 128 (fun x11 wc => x11 = .bool three ∧ wc = wq0)
              case first =>
                cases two with
                | false =>
                  have ht3 : three = false := HT2.out.2
                  have HTF := tmh ht3
                  clear ht3
                  go_wp2_with fail
                  go_meet
                  case rel => exact ⟨by rw [HTF.out], rfl⟩
                | true =>
                  by_cases n2 : k2 < P.n
                  · obtain ⟨z2, _, _⟩ := own_boolc HOB.out n2
                    have m1 : (k2 : Int) < (P.n : Int) := by omega
                    have d5 : decide ((k2 : Int) < (P.n : Int)) = true := by simp; omega
                    have d6 : decide (k2 < P.n) = true := by simp; omega
                    cases hb2 : frB P k2 with
                    | false =>
                      have q2 : wq0.cell? ⟨B, k2, none⟩ = some (.bool true) := by rw [z2]; show some (Value.bool (!(frB P k2))) = _; rw [hb2]; rfl
                      have ht3 : three = false := by rw [HT2.out.2, hb2]; simp
                      have HTF := tmh ht3
                      clear ht3 hb2 z2
                      go_wp2_with fail
                      go_meet
                      case rel => exact ⟨by rw [HTF.out], rfl⟩
                    | true =>
                      have q2 : wq0.cell? ⟨B, k2, none⟩ = some (.bool false) := by rw [z2]; show some (Value.bool (!(frB P k2))) = _; rw [hb2]; rfl
                      have ht3 : three = true := by rw [HT2.out.2, hb2]; simp [n2]
                      have HTF := tmh ht3
                      clear ht3 hb2 z2
                      go_wp2_with fail
                      go_meet
                      case rel => exact ⟨by rw [HTF.out], rfl⟩
                  · have d5 : decide ((k2 : Int) < (P.n : Int)) = false := by simp; omega
                    have d6 : decide (k2 < P.n) = false := by simp; omega
                    have ht3 : three = false := by rw [HT2.out.2, d6]; simp
                    have HTF := tmh ht3
                    clear ht3
                    go_wp2_with fail
                    go_meet
                    case rel => exact ⟨by rw [HTF.out], rfl⟩
              case rest =>
                obtain ⟨rfl, hwc⟩ := hcut
                subst hwc
                have BW := tmh (Below.refl wa.heap.size wc)
                by_cases o1 : Q.op c = 1
                · obtain ⟨lq1, _, _⟩ := push_L HQv.out.1 HQv.out.2.1 HK.out.2.2.2.2 o1
                  have n1 : k1 < P.n := by have := HK.out.1; have := HK.out.2.2.2.1; omega
                  have j1 : (k1 : Int) < (P.n : Int) := by omega
                  rw [o1] at x0
                  have HO1 := tmh (And.intro o1 lq1)
                  clear o1 lq1
                  have hbw := HTT.out.2.size
                  have HBW := tmh hbw
                  clear hbw
                  cases two with
                  | false =>
                    have hf1 : frB P k1 = false := by have := HT2.out.1; rw [decide_eq_true n1] at this; simpa using this.symm
                    have ht3 : three = false := HT2.out.2
                    subst ht3
                    have hd : dfat (frB P) Q c = (Q, 1) := by
                      have hf : ¬ frB P (c + 1) = true := by rw [HK.out.1, hf1]; decide
                      unfold dfat
                      rw [if_neg (fun h => hf h.2.1), if_neg (fun h => hf h.2.1), if_neg (fun h => hf h.2.1), if_neg (fun h => hf h.2.1)]
                    have HD := tmh hd
                    clear hd hf1
                    go_wp2_with fail
                    exact HS.out 1 Q HD.out _ HTT.out.1 HTT.out.2 k1 HK.out.1
                  | true =>
                    have hf1 : frB P (c + 1) = true := by have := HT2.out.1; rw [decide_eq_true n1] at this; rw [HK.out.1]; simpa using this.symm
                    have HF1 := tmh hf1
                    clear hf1
                    by_cases ho : three = true ∧ Q.op (c + 1) = 1
                    · obtain ⟨rfl, o2⟩ := ho
                      have hk2 : k2 < P.n ∧ frB P (c + 2) = true := by
                        have := HT2.out.2
                        rw [HK.out.2.1]
                        simpa using this
                      have hc2 : c + 2 < Q.n := by rw [HK.out.2.1, HK.out.2.2.2.1]; exact hk2.1
                      obtain ⟨⟨x3, _, _⟩, _⟩ := HTT.out.1.ins (k := c + 1) (by omega)
                      rw [o2, HK.out.1] at x3
                      have HO2 := tmh (And.intro o2 (And.intro hk2.2 hc2))
                      have hin : In64 (Q.a (c + 1)) := HQv.out.2.2 (c + 1) (by omega)
                      have hqn : Q.n ≤ 4096 := by rw [HK.out.2.2.2.1]; exact hn
                      have HIN := tmh (And.intro hin hqn)
                      clear o2 hk2 hc2 hin hqn
                      by_cases t2 : two2 (Q.op (c + 2)) = true
                      · by_cases hz : (pairV (Q.op (c + 2)) (Q.a c) (Q.a (c + 1))).2 = 0
                        · have hH := triple_yes wc HTT.out.1 c HO2.out.2.2 HIN.out.2 t2 HIN.out.1 hz HBW.out
                          rw [HK.out.2.2.2.1] at hH
                          have hd : dfat (frB P) Q c = (fold3 Q c (pairV (Q.op (c + 2)) (Q.a c) (Q.a (c + 1))).1, 3) := by
                            unfold dfat
                            rw [if_pos ⟨HO1.out.1, HF1.out, HO2.out.2.1, HO2.out.1, t2, hz⟩]
                          have hop := fold3_op Q c (pairV (Q.op (c + 2)) (Q.a c) (Q.a (c + 1))).1
                          have hqn : (fold3 Q c (pairV (Q.op (c + 2)) (Q.a c) (Q.a (c + 1))).1).n = P.n := HK.out.2.2.2.1
                          generalize fold3 Q c (pairV (Q.op (c + 2)) (Q.a c) (Q.a (c + 1))).1 = Q3 at hH hd hop hqn
                          have HH := tmh hH
                          have HD := tmh (And.intro hd (And.intro hop hqn))
                          clear hH hd hop hqn t2 hz
                          go_upto_region 22 with (go_at_call 57; (with_reducible refine HH.out.mono ?_); rintro e w8 ⟨rfl, t8, b8⟩; have H8 := tmh (And.intro t8 b8); clear t8 b8)
                          clear y0 y1 y2 y3 x0 x3
                          have y2 : w8.cell? ⟨tb, 2, none⟩ = some (.slice (some ⟨g, 0, none⟩) P.n lc) := by have := H8.out.1.cells.2.2.1; rw [HD.out.2.2] at this; exact this
                          have x0 : w8.cell? ⟨g, c * 3, none⟩ = some (.int .i64 35) := by have := (H8.out.1.ins (k := c) (by rw [HD.out.2.2]; exact hlt)).1.1; rw [HD.out.2.1] at this; exact this
                          go_wp2_with fail
                          exact HS.out 3 Q3 HD.out.1 _ H8.out.1 (HTT.out.2.trans H8.out.2) k3 HK.out.2.2.1
                        · have hH := triple_bad wc HTT.out.1 c HO2.out.2.2 HIN.out.2 t2 HIN.out.1 hz HBW.out
                          rw [HK.out.2.2.2.1] at hH
                          have HH := tmh hH
                          have HZ := tmh hz
                          clear hH t2 hz
                          go_upto_region 22 with (go_at_call 57; (with_reducible refine HH.out.mono ?_); rintro e w8 ⟨rfl, t8, b8⟩; have H8 := tmh (And.intro t8 b8); clear t8 b8)
                          clear y0 y1 y2 y3 x0 x3
                          have y2 : w8.cell? ⟨tb, 2, none⟩ = some (.slice (some ⟨g, 0, none⟩) P.n lc) := by have := H8.out.1.cells.2.2.1; rw [HK.out.2.2.2.1] at this; exact this
                          have x0 : w8.cell? ⟨g, c * 3, none⟩ = some (.int .i64 1) := by have := (H8.out.1.ins (k := c) HK.out.2.2.2.2).1.1; rw [HO1.out.1] at this; exact this
                          have BW2 := tmh (BW.out.trans H8.out.2)
                          clear BW
                          have BW := BW2
                          clear BW2
                          have hHD := double_int HQv.out.1 w8 H8.out.1 c HO1.out.2 (Nat.le_trans HBW.out H8.out.2.size) (frB P) HO1.out.1 HF1.out (fun h => HZ.out h.2.2.2)
                          rw [HK.out.2.2.2.1] at hHD
                          have HDb := tmh hHD
                          clear hHD
                          go_upto_region 24 with (go_at_call 58; (with_reducible refine HDb.out.mono ?_); rintro e w9 ⟨d, rfl, t9, b9, hd⟩; have H9 := tmh (And.intro t9 (And.intro b9 hd)); clear t9 b9 hd)
                          rcases H9.out.2.2 with ⟨hd, hds⟩ | ⟨hd, hds⟩
                          · subst hd
                            have HDS := tmh hds
                            clear hds
                            go_wp2_with fail
                            exact HS.out 1 _ (by rw [← HDS.out]) _ H9.out.1 (HTT.out.2.trans (BW.out.trans H9.out.2.1)) k1 HK.out.1
                          · subst hd
                            have HDS := tmh hds
                            clear hds
                            go_wp2_with fail
                            exact HS.out 2 _ (by rw [← HDS.out]) _ H9.out.1 (HTT.out.2.trans (BW.out.trans H9.out.2.1)) k2 HK.out.2.1
                      · have hH := triple_no2 wc HTT.out.1 c HO2.out.2.2 HIN.out.2 (by simpa using t2) HBW.out
                        rw [HK.out.2.2.2.1] at hH
                        have HH := tmh hH
                        have HZ := tmh t2
                        clear hH t2
                        go_upto_region 22 with (go_at_call 57; (with_reducible refine HH.out.mono ?_); rintro e w8 ⟨rfl, t8, b8⟩; have H8 := tmh (And.intro t8 b8); clear t8 b8)
                        clear y0 y1 y2 y3 x0 x3
                        have y2 : w8.cell? ⟨tb, 2, none⟩ = some (.slice (some ⟨g, 0, none⟩) P.n lc) := by have := H8.out.1.cells.2.2.1; rw [HK.out.2.2.2.1] at this; exact this
                        have x0 : w8.cell? ⟨g, c * 3, none⟩ = some (.int .i64 1) := by have := (H8.out.1.ins (k := c) HK.out.2.2.2.2).1.1; rw [HO1.out.1] at this; exact this
                        have BW2 := tmh (BW.out.trans H8.out.2)
                        clear BW
                        have BW := BW2
                        clear BW2
                        have hHD := double_int HQv.out.1 w8 H8.out.1 c HO1.out.2 (Nat.le_trans HBW.out H8.out.2.size) (frB P) HO1.out.1 HF1.out (fun h => HZ.out h.2.2.1)
                        rw [HK.out.2.2.2.1] at hHD
                        have HDb := tmh hHD
                        clear hHD
                        go_upto_region 24 with (go_at_call 58; (with_reducible refine HDb.out.mono ?_); rintro e w9 ⟨d, rfl, t9, b9, hd⟩; have H9 := tmh (And.intro t9 (And.intro b9 hd)); clear t9 b9 hd)
                        rcases H9.out.2.2 with ⟨hd, hds⟩ | ⟨hd, hds⟩
                        · subst hd
                          have HDS := tmh hds
                          clear hds
                          go_wp2_with fail
                          exact HS.out 1 _ (by rw [← HDS.out]) _ H9.out.1 (HTT.out.2.trans (BW.out.trans H9.out.2.1)) k1 HK.out.1
                        · subst hd
                          have HDS := tmh hds
                          clear hds
                          go_wp2_with fail
                          exact HS.out 2 _ (by rw [← HDS.out]) _ H9.out.1 (HTT.out.2.trans (BW.out.trans H9.out.2.1)) k2 HK.out.2.1
                    · have hno : ¬ (frB P (c + 2) = true ∧ Q.op (c + 1) = 1 ∧ two2 (Q.op (c + 2)) = true ∧ (pairV (Q.op (c + 2)) (Q.a c) (Q.a (c + 1))).2 = 0) := fun h => ho ⟨by
                        obtain ⟨l2, _, _⟩ := push_L HQv.out.1 HQv.out.2.1 HO1.out.2 h.2.1
                        have e : k2 < P.n := by have := HK.out.2.1; have := HK.out.2.2.2.1; omega
                        rw [HT2.out.2, decide_eq_true e, ← HK.out.2.1, h.1]
                        rfl, h.2.1⟩
                      obtain ⟨⟨x3, _, _⟩, _⟩ := HTT.out.1.ins (k := c + 1) HO1.out.2
                      rw [HK.out.1] at x3
                      have hcase : three = false ∨ three = true ∧ (Q.op (c + 1) == 1) = false := by
                        cases three with
                        | false => exact .inl rfl
                        | true => exact .inr ⟨rfl, by simpa using fun h => ho ⟨rfl, h⟩⟩
                      have HNO := tmh hno
                      clear hno ho
                      rcases hcase with rfl | ⟨rfl, b2⟩
                      · clear x3
                        have hHD := double_int HQv.out.1 wc HTT.out.1 c HO1.out.2 HBW.out (frB P) HO1.out.1 HF1.out HNO.out
                        rw [HK.out.2.2.2.1] at hHD
                        have HDb := tmh hHD
                        clear hHD
                        go_upto_region 24 with (go_at_call 58; (with_reducible refine HDb.out.mono ?_); rintro e w9 ⟨d, rfl, t9, b9, hd⟩; have H9 := tmh (And.intro t9 (And.intro b9 hd)); clear t9 b9 hd)
                        rcases H9.out.2.2 with ⟨hd, hds⟩ | ⟨hd, hds⟩
                        · subst hd
                          have HDS := tmh hds
                          clear hds
                          go_wp2_with fail
                          exact HS.out 1 _ (by rw [← HDS.out]) _ H9.out.1 (HTT.out.2.trans (BW.out.trans H9.out.2.1)) k1 HK.out.1
                        · subst hd
                          have HDS := tmh hds
                          clear hds
                          go_wp2_with fail
                          exact HS.out 2 _ (by rw [← HDS.out]) _ H9.out.1 (HTT.out.2.trans (BW.out.trans H9.out.2.1)) k2 HK.out.2.1
                      · rw [HK.out.1] at b2
                        have hHD := double_int HQv.out.1 wc HTT.out.1 c HO1.out.2 HBW.out (frB P) HO1.out.1 HF1.out HNO.out
                        rw [HK.out.2.2.2.1] at hHD
                        have HDb := tmh hHD
                        clear hHD
                        go_upto_region 24 with (go_at_call 58; (with_reducible refine HDb.out.mono ?_); rintro e w9 ⟨d, rfl, t9, b9, hd⟩; have H9 := tmh (And.intro t9 (And.intro b9 hd)); clear t9 b9 hd)
                        rcases H9.out.2.2 with ⟨hd, hds⟩ | ⟨hd, hds⟩
                        · subst hd
                          have HDS := tmh hds
                          clear hds
                          go_wp2_with fail
                          exact HS.out 1 _ (by rw [← HDS.out]) _ H9.out.1 (HTT.out.2.trans (BW.out.trans H9.out.2.1)) k1 HK.out.1
                        · subst hd
                          have HDS := tmh hds
                          clear hds
                          go_wp2_with fail
                          exact HS.out 2 _ (by rw [← HDS.out]) _ H9.out.1 (HTT.out.2.trans (BW.out.trans H9.out.2.1)) k2 HK.out.2.1
                · have b1 : (Q.op c == 1) = false := by simpa using o1
                  have hd : dfat (frB P) Q c = (Q, 1) := by
                    unfold dfat
                    rw [if_neg (fun h => o1 h.1), if_neg (fun h => o1 h.1), if_neg (fun h => o1 h.1), if_neg (fun h => o1 h.1)]
                  have HD := tmh hd
                  clear hd o1
                  go_wp2_with fail
                  exact HS.out 1 Q HD.out _ HTT.out.1 HTT.out.2 k1 HK.out.1
            · have d1 : decide ((c : Int) < (P.n : Int)) = false := by simp; omega
              have d2 : decide (c < P.n) = false := by simp; omega
              have hend : foldL R2f R1f (frB P) f c Q = Q := by
                cases f with
                | zero => rfl
                | succ f => exact if_neg (by rw [hQ]; exact hlt)
              rw [hend] at hfl
              have HQ := tmh (And.intro hfl hQ)
              have hT := hT.plain
              clear y0 y1 y2 y3
              obtain ⟨q0, q1, q2, q3⟩ := hT.cells
              have q4 : wr.cell? ⟨tb, 2, none⟩ = some (.slice lp P.n lc) := by rw [hQ] at q2; exact q2
              clear q2
              have hr2 := (hbr.block _ (show W.heap.size + 1 < wa.heap.size by have := H0.out.2.2.2.2.1; omega)).trans H0.out.2.2.1
              have hfz := fun k9 => frz hr2 k9
              obtain ⟨z0, z1, z2, z3⟩ := cells4 hr2
              have hnt : tb ≠ W.heap.size + 1 := by have := hT.lo; have := H0.out.2.2.2.2.1; omega
              have HX := tmh (And.intro hT (And.intro hbr hr2))
              clear hT hbr hr2 hfl hend hQ v hf ha hfr hfc hc8 hlt
              go_wp2_with fail
              generalize hWF : World.setCell (World.setCell (World.setCell (World.setCell wr _ _) _ _) _ _) _ _ = wF
              have hWF : (((wr.setCell ⟨W.heap.size + 1, 0, none⟩ (.int .i64 Q.words)).setCell ⟨W.heap.size + 1, 1, none⟩ (.int .i64 Q.locals)).setCell ⟨W.heap.size + 1, 2, none⟩ (.slice lp Q.n lc)).setCell ⟨W.heap.size + 1, 3, none⟩ (.slice lq Q.m lx) = wF := by rw [HQ.out.2]; exact hWF
              obtain ⟨hres, o1, o2, hbF⟩ := rT_end H0.out.2.2.2.1 H0.out.2.2.2.2.1 HX.out.1 HX.out.2.1 HX.out.2.2 hWF
              clear hWF z0 z1 z2 z3 hfz q0 q1 q3 q4
              obtain ⟨z0, z1, z2, z3⟩ := cells4 hres
              refine bodyPost_ret (v := .agg #[.int .i64 Q.words, .int .i64 Q.locals, .slice lp Q.n lc, .slice lq Q.m lx]) (by simp [results, Tryz.results34, go_sem, z0, z1, z2, z3]; try rfl) rfl ?_
              rw [← HQ.out.1]
              exact ⟨lp, lq, lc, lx, rfl, o1, o2, hbF⟩
end Go.Proofs.YtopggemomcoalaaGreat
