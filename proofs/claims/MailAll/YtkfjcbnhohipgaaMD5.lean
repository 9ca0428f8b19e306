import Derived.Test.YtkfjcbnhohipgaaMD4
import Derived.BigQuiet
import Derived.Deep.RegionLaw
import Derived.Deep.RegionHeld3
import Derived.Deep.Cut
import Derived.Deep.DeepCutAuto
import Derived.Deep.CutBlock
import Derived.Deep.CutRange
import Derived.Deep.AppendLies
import Derived.Handy
import Derived.Lib.RabinKarpLaws
namespace Go.Proofs.Ytkfjcbnhohipgaa
open Go.ChangeShapes Go.WideShapes Go.ChangeAt Go.RowKit
set_option linter.unusedVariables false
set_option linter.unusedSimpArgs false


theorem take_filter (q : Lt → Bool) (L : List Lt) (j : Nat) (hj : j < L.length) : (L.take (j + 1)).filter q = (L.take j).filter q ++ (if q (L.getD j lt0) then [L.getD j lt0] else []) := by
  rw [List.take_add_one, List.filter_append, List.getElem?_eq_getElem hj, List.getD_eq_getElem?_getD, List.getElem?_eq_getElem hj]
  simp [List.filter_cons]
theorem filter_le (q : Lt → Bool) (L : List Lt) (j : Nat) : ((L.take j).filter q).length ≤ L.length := Nat.le_trans (List.length_filter_le _ _) (List.length_take_le' _ _)
/-- a letter behind a row of letters -/
theorem app_lt {ops : Array Oper} {rest : List Oper} {o : Oper} {a : Act} {w : World} {Q : Exit → Act → World → Prop} (hgd : o.guard = none) (sl x : Operand) (ho : o.op = .call { callee := .builtin .append, args := #[sl, x], argTypes := #[94, 94] }) (B : Nat) (v : Value) (Ls : List Lt) (l : Lt) (hs : a.eval sl = v) (hb : Own w B 110 5 v Ls.length (lF Ls))
    (hx : a.eval x = .slice (some ⟨w.heap.size, 0, none⟩) 1 1) (hlim : Ls.length ≤ 1000000) (hbase : B ≤ w.heap.size)
    (h : ∀ g cap w', Own w' B 110 5 (.slice (some ⟨g, 0, none⟩) (Ls.length + 1) cap) (Ls ++ [l]).length (lF (Ls ++ [l])) → w.grownBy w' v.ownBlock → (v.ownBlock = some g ∨ w.heap.size ≤ g) → g < w'.heap.size → wpList Try.prog ops Q rest (a.put o.dst (.slice (some ⟨g, 0, none⟩) (Ls.length + 1) cap)) w') : wpList Try.prog ops Q (o :: rest) a (w.alloc (.cells #[.int .i64 (l.f : Int), .int .i64 (l.t : Int), .int .i64 l.p, .int .i64 l.k, .int .i64 l.m] 110)) := by
  obtain ⟨iT, hT1, hT2, hT3, hT4⟩ := binfo infoLT
  refine app_one 110 94 iT _ 5 40 Try.underlying94 hT1 hT2 hT3 hT4 rfl (by decide) hgd sl x ho B v Ls.length (lF Ls) (lF (Ls ++ [l])) hs hb [.int .i64 (l.f : Int), .int .i64 (l.t : Int), .int .i64 l.p, .int .i64 l.k, .int .i64 l.m] hx rfl (by simp [Value.oneCell']) (by omega) (by decide) hbase (lF_app Ls l) ?_
  intro g cap w' k1 k2 k3 k4
  refine h g cap w' ?_ k2 k3 k4
  rw [List.length_append, List.length_singleton]
  exact k1
theorem below_grown_drew {b : Nat} {w w' : World} {k : Nat} {o : Option Nat} (g : (w.drewN k).grownBy w' o) (hb : b ≤ w.heap.size) (h : ∀ k, o = some k → b ≤ k) : Below b w w' := Below.trans (show Below b w (w.drewN k) from ⟨rfl, rfl, rfl, Nat.le_refl _, fun _ _ => rfl⟩) ((Below.refl b (w.drewN k)).grown g hb h)
def dq (x : Nat) (px : Int) (l : Lt) : Bool := ((l.f : Int) == (x : Int)) && (l.p == px)
theorem own0 (w : World) (B : Nat) (L : List Lt) (h : L = []) : Own w B 110 5 (.slice none 0 0) L.length (lF L) := by subst h; exact ⟨rfl, .inl ⟨rfl, rfl⟩⟩
set_option maxRecDepth 100000 in
theorem rdrop_no (x : Int) {Fo : Nat → Option Obj} {base qb pb fb n : Nat} {room : Int} {srt : Bool} {ph fl : Nat → Int} {v : Value} {L : List Lt} (hx : x < 0 ∨ (n : Int) ≤ x) (W : World) (h : RX Fo W base qb pb fb n room srt ph fl v L) : Calls Try.prog 48 #[.pointer (some ⟨qb, 0, none⟩), .int .i64 x] W fun e W' => e = .returned (.tuple #[.int .i64 0, .int .i64 91]) ∧ W' = W := by
  have HK := rhas_no x hx W h
  clear h hx
  go_enter Try.func48, Try.ntmps48
  go_wp2_with (go_at_call 55; (with_reducible refine HK.mono ?_); rintro e w1 ⟨rfl, h9⟩; subst h9)
  exact bodyPost_ret (v := .tuple #[.int .i64 0, .int .i64 91]) (by simp [results, Try.results48, go_sem]) rfl ⟨rfl, rfl⟩
set_option maxRecDepth 100000 in
set_option maxHeartbeats 8000000 in
theorem rdrop_any (x : Nat) {Fo : Nat → Option Obj} {base qb pb fb n : Nat} {room : Int} {srt : Bool} {ph fl : Nat → Int} {v : Value} {L : List Lt} (hx : x < n) (hL : L.length ≤ 1000000) (W : World) (h : RX Fo W base qb pb fb n room srt ph fl v L) (hbase : base ≤ W.heap.size) :
    Calls Try.prog 48 #[.pointer (some ⟨qb, 0, none⟩), .int .i64 (x : Int)] W fun r W' => Below base W W' ∧ r = .returned (.tuple #[.int .i64 ((L.countP (dq x (ph x)) : Nat) : Int), .int .i64 0]) ∧ ∃ v', RX Fo W' base qb pb fb n room srt ph (fun i => if i = x then 0 else fl i) v' (L.filter fun l => !dq x (ph x) l) := by
  have HK := rhas_yes x hx W h
  have i0 : (0 : Int) ≤ (x : Int) := by omega
  have i1 : (x : Int) < (n : Int) := by omega
  obtain ⟨px, hpx⟩ : ∃ px, ph x = px := ⟨_, rfl⟩
  rw [hpx]
  have HX := mhid (And.intro h (And.intro hbase hpx))
  obtain ⟨m, hm0⟩ : ∃ m, L.length = m := ⟨_, rfl⟩
  have HML := mhid hm0
  obtain ⟨q, cp, hv⟩ : ∃ q cp, v = .slice q m cp := by
    rcases h.l.form with ⟨h1, h2⟩ | ⟨g, c, h1, _⟩
    · exact ⟨none, 0, by rw [h1, ← hm0, h2]⟩
    · exact ⟨_, _, by rw [h1, ← hm0]⟩
  subst hv
  rw [hm0] at hL
  clear hm0 h hbase hpx
  go_enter Try.func48, Try.ntmps48
  go_wp2_with (go_at_call 55; (with_reducible refine HK.mono ?_); rintro e w1 ⟨rfl, h9⟩; subst h9)
  clear HK
  go_loopw [6, 7, 8] (fun a s y wr => ∃ j : Nat, y = .int .i64 (j : Int) ∧ j ≤ m ∧ s = .int .i64 (((L.take j).countP (dq x px) : Nat) : Int) ∧ Own wr w1.heap.size 110 5 a ((L.take j).filter fun l => !dq x px l).length (lF ((L.take j).filter fun l => !dq x px l)) ∧ Below w1.heap.size w1 wr) (fun _ _ y _ => m - (intOf y).toNat)
  case atStart => exact ⟨0, rfl, Nat.zero_le _, by simp, own0 _ _ _ (by simp), Below.refl _ _⟩
  case round =>
    obtain ⟨j, rfl, hj, rfl, ho, hbr⟩ := hrel
    have HB := mhid (And.intro ho hbr)
    have hX := HX.out.1.later hbr
    obtain ⟨c0, c1, c2, c3, c4, c5⟩ := hX.cells
    by_cases hlt : j < m
    · have dl : decide ((j : Int) < (m : Int)) = true := by simp; omega
      have hm := meas hlt
      have ek : IntKind.i64.wrap ((j : Int) + 1) = (j : Int) + 1 := by rw [IntKind.wrap_i64]; omega
      have k0 : (0 : Int) ≤ (j : Int) := by omega
      have k1 : (j : Int) < (m : Int) := by omega
      have hnx := take_countP (dq x px) L j (by rw [HML.out]; exact hlt)
      have hnf := take_filter (fun l => !dq x px l) L j (by rw [HML.out]; exact hlt)
      have hcl := countP_le (dq x px) L j
      have hfl := filter_le (fun l => !dq x px l) L j
      rw [HML.out] at hcl hfl
      obtain ⟨s, hs⟩ : ∃ s, (L.take j).countP (dq x px) = s := ⟨_, rfl⟩
      rw [hs] at hnx hcl ⊢
      have es : IntKind.i64.wrap ((s : Int) + 1) = ((s + 1 : Nat) : Int) := by rw [IntKind.wrap_i64]; omega
      have hl := hX.l
      rw [HML.out] at hl
      rcases hl.form with ⟨h1, h2⟩ | ⟨g, c', h1, _⟩
      · omega
      injection h1 with h1 _ _
      subst h1
      obtain ⟨y0, y1, y2, y3, y4⟩ := ltc hl hlt
      obtain ⟨⟨lf, lt, lp, lk, lm⟩, hlx⟩ : ∃ l, L.getD j lt0 = l := ⟨_, rfl⟩
      rw [hlx] at y0 y1 y2 y3 y4 hnx hnf
      simp only at y0 y1 y2 y3 y4
      have HNX := mhid (And.intro hnx (And.intro hnf hfl))
      have HLT := mhid hlt
      have HLM := mhid hL
      clear hbr hX hlt hj hnx hnf hcl hfl hs hl hlx ho hL
      go_upto_region 9 with fail
      clear y0 y1 y2 y3 y4 c0 c1 c2 c3 c4 c5
      obtain ⟨wz, hwz⟩ : ∃ wz, wr.alloc (.cells #[.int .i64 (lf : Int), .int .i64 (lt : Int), .int .i64 lp, .int .i64 lk, .int .i64 lm] 110) = wz := ⟨_, rfl⟩
      rw [hwz]
      have hnew : wz.heap[wr.heap.size]? = some (.cells #[.int .i64 (lf : Int), .int .i64 (lt : Int), .int .i64 lp, .int .i64 lk, .int .i64 lm] 110 (0, 0)) := by rw [← hwz]; exact World.alloc_heap_new wr _
      have hbz : Below wr.heap.size wr wz := by rw [← hwz]; exact (Below.refl _ wr).alloc (Nat.le_refl _) _
      have z0 : wz.cell? ⟨wr.heap.size, 0, none⟩ = some (.int .i64 (lf : Int)) := by unfold World.cell?; rw [hnew]; rfl
      have z1 : wz.cell? ⟨wr.heap.size, 1, none⟩ = some (.int .i64 (lt : Int)) := by unfold World.cell?; rw [hnew]; rfl
      have z2 : wz.cell? ⟨wr.heap.size, 2, none⟩ = some (.int .i64 lp) := by unfold World.cell?; rw [hnew]; rfl
      have z3 : wz.cell? ⟨wr.heap.size, 3, none⟩ = some (.int .i64 lk) := by unfold World.cell?; rw [hnew]; rfl
      have z4 : wz.cell? ⟨wr.heap.size, 4, none⟩ = some (.int .i64 lm) := by unfold World.cell?; rw [hnew]; rfl
      have hbz2 : Below w1.heap.size w1 wz := HB.out.2.trans (hbz.mono HB.out.2.size)
      have hoz := HB.out.1.later hbz
      have hX := HX.out.1.later hbz2
      obtain ⟨c0, c1, c2, c3, c4, c5⟩ := hX.cells
      have y1 := hX.phc hx
      rw [HX.out.2.2] at y1
      have HZ := mhid (And.intro hoz hbz2)
      clear hwz hnew hbz hoz hbz2 hX
      by_cases u0 : (lf : Int) = (x : Int)
      · have f0 : ((lf : Int) == (x : Int)) = true := by simpa using u0
        have f0n : (lf == x) = true := by simp; omega
        by_cases u1 : lp = px
        · have f1 : (lp == px) = true := by simpa using u1
          have HQ : Hid (dq x px ⟨lf, lt, lp, lk, lm⟩ = true) := by show dq x px ⟨lf, lt, lp, lk, lm⟩ = true; unfold dq; simp [*]
          clear u0 u1
          go_quiet (fail)
          go_wp2_with fail
          refine ⟨⟨j + 1, rfl, HLT.out, ?_, ?_, HZ.out.2.trans ⟨rfl, rfl, rfl, Nat.le_refl _, fun _ _ => rfl⟩⟩, hm⟩
          · rw [HNX.out.1, HQ.out]; rfl
          · rw [HNX.out.2.1, HQ.out]
            simp only [Bool.not_true, Bool.false_eq_true, if_false, List.append_nil]
            exact HZ.out.1.later ⟨rfl, rfl, rfl, Nat.le_refl _, fun _ _ => rfl⟩
        · have f1 : (lp == px) = false := by simpa using u1
          have HQ : Hid (dq x px ⟨lf, lt, lp, lk, lm⟩ = false) := by show dq x px ⟨lf, lt, lp, lk, lm⟩ = false; unfold dq; simp [*]
          clear u0 u1
          go_quiet (fail)
          go_wp2_with (at_builtin; refine app_lt rfl _ _ rfl w1.heap.size u6 _ ⟨lf, lt, lp, lk, lm⟩ rfl (HZ.out.1.later ⟨rfl, rfl, rfl, Nat.le_refl _, fun _ _ => rfl⟩) rfl (Nat.le_trans HNX.out.2.2 HLM.out) HZ.out.2.size ?_; intro g9 c9 w9 o9 g9b g9c g9d)
          have b9 : Below w1.heap.size w1 w9 := HZ.out.2.trans (below_grown_drew g9b HZ.out.2.size (fun k hk => (Own.lt HZ.out.1 k hk).1))
          refine ⟨⟨j + 1, rfl, HLT.out, ?_, ?_, b9⟩, hm⟩
          · rw [HNX.out.1, HQ.out]; rfl
          · rw [HNX.out.2.1, HQ.out]
            simp only [Bool.not_false, if_true]
            rw [List.length_append, List.length_singleton] at o9 ⊢
            exact o9
      · have f0 : ((lf : Int) == (x : Int)) = false := by simpa using u0
        have f0n : (lf == x) = false := by simp; omega
        have HQ : Hid (dq x px ⟨lf, lt, lp, lk, lm⟩ = false) := by show dq x px ⟨lf, lt, lp, lk, lm⟩ = false; unfold dq; simp [*]
        clear u0
        go_quiet (fail)
        go_wp2_with (at_builtin; refine app_lt rfl _ _ rfl w1.heap.size u6 _ ⟨lf, lt, lp, lk, lm⟩ rfl (HZ.out.1.later ⟨rfl, rfl, rfl, Nat.le_refl _, fun _ _ => rfl⟩) rfl (Nat.le_trans HNX.out.2.2 HLM.out) HZ.out.2.size ?_; intro g9 c9 w9 o9 g9b g9c g9d)
        have b9 : Below w1.heap.size w1 w9 := HZ.out.2.trans (below_grown_drew g9b HZ.out.2.size (fun k hk => (Own.lt HZ.out.1 k hk).1))
        refine ⟨⟨j + 1, rfl, HLT.out, ?_, ?_, b9⟩, hm⟩
        · rw [HNX.out.1, HQ.out]; rfl
        · rw [HNX.out.2.1, HQ.out]
          simp only [Bool.not_false, if_true]
          rw [List.length_append, List.length_singleton] at o9 ⊢
          exact o9
    · have dl : decide ((j : Int) < (m : Int)) = false := by simp; omega
      obtain rfl : m = j := by omega
      have ht : L.take m = L := by rw [← HML.out]; exact List.take_length
      rw [ht] at ho ⊢
      obtain ⟨q6, n6, c6, hv6⟩ : ∃ q6 n6 c6, u6 = .slice q6 n6 c6 := by
        rcases ho.form with ⟨h1, _⟩ | ⟨g, c, h1, _⟩
        · exact ⟨_, _, _, h1⟩
        · exact ⟨_, _, _, h1⟩
      have h2 := hX.setL (W' := wr) ⟨rfl, rfl, rfl, Nat.le_refl _, fun _ _ _ => rfl⟩ u6 _ (ho.lower HX.out.2.1) (fun k hk => .inr fun o hFo => by
        have e1 := (ho.lt k hk).1
        have e2 := lt_of_block (HX.out.1.fr k o hFo).1
        omega)
      have h3 := h2.setFl x hx 0
      have y1 := h2.flc hx
      obtain ⟨e0, e1, e2, e3, e4, e5⟩ := h2.cells
      have nf : wr.frozen? ⟨qb, 5, none⟩ = false := frz hX.p _
      have nf2 : (wr.setCell ⟨qb, 5, none⟩ u6).frozen? ⟨fb, x, none⟩ = false := by obtain ⟨cr, hcr, _⟩ := h2.f.block; exact frz hcr _
      have hB : Below base w1 ((wr.setCell ⟨qb, 5, none⟩ u6).setCell ⟨fb, x, none⟩ (.int .i64 0)) := ((hbr.mono HX.out.2.1).setCell (p := ⟨qb, 5, none⟩) hX.hbs _).setCell (p := ⟨fb, x, none⟩) (Own.lt h2.f fb rfl).1 _
      have HH := mhid (And.intro h3 hB)
      rw [hv6] at nf2 y1 e0 e1 e2 e3 e4 e5 HH ⊢
      clear h2 h3 hB hX ho hbr hj hlt ht hv6
      go_wp2_with fail
      refine bodyPost_ret (v := .tuple #[.int .i64 ((L.countP (dq x px) : Nat) : Int), .int .i64 0]) (by simp [results, Try.results48, go_sem]) rfl ?_
      exact ⟨HH.out.2, rfl, _, HH.out.1⟩
end Go.Proofs.Ytkfjcbnhohipgaa
