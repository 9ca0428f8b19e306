import Derived.Test.YtkfjcbnhohipgaaMD5
import Derived.Test.YtkfjcbnhohipgaaMD6
import Derived.BigQuiet
import Derived.Deep.RegionLaw
import Derived.Deep.RegionHeld3
import Derived.Deep.Cut
import Derived.Deep.DeepCutAuto
import Derived.Deep.CutBlock
import Derived.Deep.CutRange
import Derived.Deep.AppendLies
import Derived.Handy
import Derived.Lib.RabinKarpLaws
namespace Go.Proofs.Ytkfjcbnhohipgaa
open Go.ChangeShapes Go.WideShapes Go.ChangeAt Go.RowKit
set_option linter.unusedVariables false
set_option linter.unusedSimpArgs false


theorem RX.but {W : World} {Fo : Nat → Option Obj} {base qb pb fb n : Nat} {room : Int} {srt : Bool} {ph fl : Nat → Int} {v : Value} {L : List Lt} {W' : World} {g : Nat} (h : RX Fo W base qb pb fb n room srt ph fl v L) (hk : ∀ k, k < W.heap.size → k ≠ g → W'.heap[k]? = W.heap[k]?) (hq : qb ≠ g) (hp : pb ≠ g) (hf : fb ≠ g) (hv : v.ownBlock ≠ some g) (hF : ∀ o, Fo g ≠ some o) : RX Fo W' base qb pb fb n room srt ph fl v L := by
  refine ⟨(hk qb (lt_of_block h.p) hq).trans h.p, h.h.far fun k hk' => hk k (h.h.lt k hk').2 ?_, h.f.far fun k hk' => hk k (h.f.lt k hk').2 ?_, h.l.far fun k hk' => hk k (h.l.lt k hk').2 (fun e => hv (by rw [hk', e])), h.ne, h.hbs, fun k o hk' => ⟨(hk k (lt_of_block (h.fr k o hk').1) (fun e => hF o (by rw [← e]; exact hk'))).trans (h.fr k o hk').1, (h.fr k o hk').2⟩⟩
  · simp [Value.ownBlock] at hk'
    subst hk'
    exact hp
  · simp [Value.ownBlock] at hk'
    subst hk'
    exact hf
theorem RX.grown {W : World} {Fo : Nat → Option Obj} {base qb pb fb n : Nat} {room : Int} {srt : Bool} {ph fl : Nat → Int} {v : Value} {L : List Lt} {W' : World} {b : Option Nat} (h : RX Fo W base qb pb fb n room srt ph fl v L) (hg : W.grownBy W' b) (hne : ∀ k, b = some k → qb ≠ k ∧ pb ≠ k ∧ fb ≠ k ∧ v.ownBlock ≠ some k ∧ ∀ o, Fo k ≠ some o) : RX Fo W' base qb pb fb n room srt ph fl v L := by
  have key : ∀ k, k < W.heap.size → (∀ j, b = some j → k ≠ j) → W'.heap[k]? = W.heap[k]? := fun k h1 h2 => hg.block k h1 (fun e => h2 k e.symm rfl)
  refine ⟨(key qb (lt_of_block h.p) fun j hj => (hne j hj).1).trans h.p, h.h.far fun k hk' => key k (h.h.lt k hk').2 fun j hj => ?_, h.f.far fun k hk' => key k (h.f.lt k hk').2 fun j hj => ?_, h.l.far fun k hk' => key k (h.l.lt k hk').2 fun j hj e => (hne j hj).2.2.2.1 (by rw [hk', e]), h.ne, h.hbs, fun k o hk' => ⟨(key k (lt_of_block (h.fr k o hk').1) fun j hj e => (hne j hj).2.2.2.2 o (by rw [← e]; exact hk')).trans (h.fr k o hk').1, (h.fr k o hk').2⟩⟩
  · simp [Value.ownBlock] at hk'
    subst hk'
    exact (hne j hj).2.1
  · simp [Value.ownBlock] at hk'
    subst hk'
    exact (hne j hj).2.2.1
def mq (x : Nat) (z : Int) (l : Lt) : Bool := ((l.t : Int) == (x : Int)) && (l.p == z)
theorem sets_keep (W : World) (g o : Nat) (vs : List Value) : (∀ k, k ≠ g → (W.setCells g o vs).heap[k]? = W.heap[k]?) ∧ (W.setCells g o vs).heap.size = W.heap.size := ⟨fun k hk => setCells_other g vs o W k hk, setCells_size g vs o W⟩
theorem own_drewN {w : World} {B : Nat} {t : TypeId} {s m : Nat} {v : Value} {F : Nat → Value} (h : Own w B t s v m F) (k : Nat) : Own (w.drewN k) B t s v m F := h.later ⟨rfl, rfl, rfl, Nat.le_refl _, fun _ _ => rfl⟩
theorem lswp_eq (W : World) (g o : Nat) (X Y : Lt) : (((((((((((W).setCell ⟨g, o + 5, none⟩ (.int .i64 (Y.f : Int))).setCell ⟨g, o + 6, none⟩ (.int .i64 (Y.t : Int))).setCell ⟨g, o + 7, none⟩ (.int .i64 Y.p)).setCell ⟨g, o + 8, none⟩ (.int .i64 Y.k)).setCell ⟨g, o + 9, none⟩ (.int .i64 Y.m))).setCell ⟨g, o, none⟩ (.int .i64 (X.f : Int))).setCell ⟨g, o + 1, none⟩ (.int .i64 (X.t : Int))).setCell ⟨g, o + 2, none⟩ (.int .i64 X.p)).setCell ⟨g, o + 3, none⟩ (.int .i64 X.k)).setCell ⟨g, o + 4, none⟩ (.int .i64 X.m) = (W.setCells g (o + 5) (ltL Y)).setCells g o (ltL X) := rfl
/-- two letters change places -/
theorem lswp_row {W W' : World} {B g m cp : Nat} {c : Nat → Lt} (h : Own W B 110 5 (.slice (some ⟨g, 0, none⟩) m cp) m (lG c)) (k p : Nat) (hp : p + 1 = k) (X Y : Lt) (hX : c k = X) (hY : c p = Y) (hW : W' = (W.setCells g (k * 5) (ltL Y)).setCells g (p * 5) (ltL X)) : Own W' B 110 5 (.slice (some ⟨g, 0, none⟩) m cp) m (lG (swp c k (k - 1))) ∧ (∀ j, j ≠ g → W'.heap[j]? = W.heap[j]?) ∧ W'.heap.size = W.heap.size ∧ (B ≤ g → ∀ b w0, Below b w0 W → b ≤ g → Below b w0 W') := by
  subst hX hY
  obtain rfl : p = k - 1 := by omega
  have h1 := own_set (own_set h k (c (k - 1))) (k - 1) (c k)
  rw [swp_setLt c (by omega)] at h1
  have k1 := sets_keep W g (k * 5) (ltL (c (k - 1)))
  have k2 := sets_keep (W.setCells g (k * 5) (ltL (c (k - 1)))) g ((k - 1) * 5) (ltL (c k))
  rw [← hW] at h1 k2
  refine ⟨h1, fun j hj => (k2.1 j hj).trans (k1.1 j hj), k2.2.trans k1.2, fun _ b w0 hb hbg => ?_⟩
  rw [hW]
  exact setCells_below _ _ _ (setCells_below _ _ _ hb hbg) hbg
theorem inner_step {Fo : Nat → Option Obj} {base qb pb fb n : Nat} {room : Int} {srt : Bool} {ph fl : Nat → Int} {v : Value} {L : List Lt} {w9 w1 : World} {B g m cp : Nat} {c : Nat → Lt} (h : Own w9 B 110 5 (.slice (some ⟨g, 0, none⟩) m cp) m (lG c)) (hrx : RX Fo w9 base qb pb fb n room srt ph fl v L) (hq : qb ≠ g) (hpb : pb ≠ g) (hf : fb ≠ g) (hv : v.ownBlock ≠ some g) (hF : ∀ o, Fo g ≠ some o) (hbg : base ≤ g) (k p o : Nat) (hp : p + 1 = k) (ho : p * 5 = o) (X Y : Lt) (hX : c k = X) (hY : c p = Y) (hb : Below base w1 w9) (hsz : base ≤ w9.heap.size) (obj : Obj) :
    Own (((w9.setCells g (o + 5) (ltL Y)).setCells g o (ltL X)).alloc obj) B 110 5 (.slice (some ⟨g, 0, none⟩) m cp) m (lG (swp c k (k - 1))) ∧ RX Fo (((w9.setCells g (o + 5) (ltL Y)).setCells g o (ltL X)).alloc obj) base qb pb fb n room srt ph fl v L ∧ Below base w1 (((w9.setCells g (o + 5) (ltL Y)).setCells g o (ltL X)).alloc obj) ∧ w9.heap.size ≤ (((w9.setCells g (o + 5) (ltL Y)).setCells g o (ltL X)).alloc obj).heap.size := by
  obtain ⟨wS, hwS⟩ : ∃ wS, wS = (w9.setCells g (o + 5) (ltL Y)).setCells g o (ltL X) := ⟨_, rfl⟩
  have hr := lswp_row h k p hp X Y hX hY (W' := wS) (by rw [hwS, ho, show k * 5 = o + 5 by omega])
  rw [← hwS]
  have ha : Below wS.heap.size wS (wS.alloc obj) := (Below.refl _ wS).alloc (Nat.le_refl _) _
  have hb2 := hr.2.2.2 (Own.lt h g rfl).1 base w1 hb hbg
  refine ⟨hr.1.later ha, (hrx.but (fun j _ hj => hr.2.1 j hj) hq hpb hf hv hF).later ha, hb2.trans (ha.mono (by rw [hr.2.2.1]; exact hsz)), ?_⟩
  rw [World.size_alloc, hr.2.2.1]
  omega
theorem own0T (w : World) (B : Nat) (F : Nat → Value) : Own w B 31 2 (.slice none 0 0) 0 F := ⟨rfl, .inl ⟨rfl, rfl⟩⟩
/-- a thing behind a row of things -/
theorem app_tg {ops : Array Oper} {rest : List Oper} {o : Oper} {a : Act} {w : World} {Q : Exit → Act → World → Prop} (hgd : o.guard = none) (sl x : Operand) (ho : o.op = .call { callee := .builtin .append, args := #[sl, x], argTypes := #[37, 37] }) (B : Nat) (v : Value) (m : Nat) (k : Nat → Int × Int) (y z : Int) (hs : a.eval sl = v) (hb : Own w B 31 2 v m (thF k))
    (hx : a.eval x = .slice (some ⟨w.heap.size, 0, none⟩) 1 1) (hlim : m ≤ 1000000) (hbase : B ≤ w.heap.size)
    (h : ∀ g cap w', Own w' B 31 2 (.slice (some ⟨g, 0, none⟩) (m + 1) cap) (m + 1) (thF fun i => if i = m then (y, z) else k i) → w.grownBy w' v.ownBlock → (v.ownBlock = some g ∨ w.heap.size ≤ g) → g < w'.heap.size → wpList Try.prog ops Q rest (a.put o.dst (.slice (some ⟨g, 0, none⟩) (m + 1) cap)) w') : wpList Try.prog ops Q (o :: rest) a (w.alloc (.cells #[.int .i64 y, .int .i64 z] 31)) := by
  obtain ⟨iT, hT1, hT2, hT3, hT4⟩ := binfo infoTH
  exact app_one 31 37 iT _ 2 16 Try.underlying37 hT1 hT2 hT3 hT4 rfl (by decide) hgd sl x ho B v m (thF k) _ hs hb [.int .i64 y, .int .i64 z] hx rfl (by simp [Value.oneCell']) (by omega) (by decide) hbase (thF_app k m y z _ rfl) h
set_option maxRecDepth 100000 in
theorem rdrain_no (x : Int) {Fo : Nat → Option Obj} {base qb pb fb n : Nat} {room : Int} {srt : Bool} {ph fl : Nat → Int} {v : Value} {L : List Lt} (hx : x < 0 ∨ (n : Int) ≤ x) (W : World) (h : RX Fo W base qb pb fb n room srt ph fl v L) : Calls Try.prog 46 #[.pointer (some ⟨qb, 0, none⟩), .int .i64 x] W fun e W' => e = .returned (.tuple #[.slice none 0 0, .int .i64 91]) ∧ W' = W := by
  have HK := rhas_no x hx W h
  clear h hx
  go_enter Try.func46, Try.ntmps46
  go_wp2_with (go_at_call 55; (with_reducible refine HK.mono ?_); rintro e w1 ⟨rfl, h9⟩; subst h9)
  exact bodyPost_ret (v := .tuple #[.slice none 0 0, .int .i64 91]) (by simp [results, Try.results46, go_sem]) rfl ⟨rfl, rfl⟩
set_option maxRecDepth 100000 in
theorem rdrain_low (x : Nat) {Fo : Nat → Option Obj} {base qb pb fb n : Nat} {room : Int} {srt : Bool} {ph fl : Nat → Int} {v : Value} {L : List Lt} (hx : x < n) (hn : n ≤ 64) (hl : Low ph n x) (W : World) (h : RX Fo W base qb pb fb n room srt ph fl v L) : Calls Try.prog 46 #[.pointer (some ⟨qb, 0, none⟩), .int .i64 (x : Int)] W fun e W' => e = .returned (.tuple #[.slice none 0 0, .int .i64 92]) ∧ RX Fo W' base qb pb fb n room srt ph fl v L ∧ Below W.heap.size W W' := by
  have HK := rhas_yes x hx W h
  have HW := rwaits_any x hx hn W h
  have HX := mhid (And.intro h hl)
  clear h hx hl
  go_enter Try.func46, Try.ntmps46
  go_wp2_with (first | (go_at_call 55; (with_reducible refine HK.mono ?_); rintro e w1 ⟨rfl, h9⟩; subst h9) | (go_at_call 57; (with_reducible refine HW.mono ?_); rintro e w2 ⟨b2, rfl, h2, h3⟩; obtain rfl : b2 = true := h2.2 HX.out.2; have B2 := mhid h3; clear h2 h3))
  exact bodyPost_ret (v := .tuple #[.slice none 0 0, .int .i64 92]) (by simp [results, Try.results46, go_sem]) rfl ⟨rfl, HX.out.1.later B2.out, B2.out⟩
set_option maxRecDepth 100000 in
set_option maxHeartbeats 16000000 in
theorem rdrain_ok (x : Nat) {Fo : Nat → Option Obj} {base qb pb fb n : Nat} {room : Int} {srt : Bool} {ph fl : Nat → Int} {v : Value} {L : List Lt} (hx : x < n) (hn : n ≤ 64) (hL : L.length ≤ 1000000) (hp : 0 ≤ ph x ∧ ph x < 4611686018427387904) (hlow : ¬ Low ph n x) (hinc : L.Pairwise fun a b => a.m < b.m) (W : World) (h : RX Fo W base qb pb fb n room srt ph fl v L) (hbase : base ≤ W.heap.size) (S : Nat) (hS : (L.filter (mq x (ph x - 1))).length = S) :
    Calls Try.prog 46 #[.pointer (some ⟨qb, 0, none⟩), .int .i64 (x : Int)] W fun r W' => Below base W W' ∧ ∃ (vo : Value) (c : Nat → Lt) (v' : Value), r = .returned (.tuple #[vo, .int .i64 0]) ∧ Own W' W.heap.size 31 2 vo S (thF fun i => ((c i).k, (c i).m)) ∧ (∀ p q, p < q → q < S → RL srt (c p) (c q)) ∧ (∀ l, (∃ p, p < S ∧ c p = l) ↔ l ∈ L.filter (mq x (ph x - 1))) ∧ RX Fo W' base qb pb fb n room srt ph fl v' (L.filter fun l => !mq x (ph x - 1) l) := by
  have HK := rhas_yes x hx W h
  have HW := rwaits_any x hx hn W h
  have i0 : (0 : Int) ≤ (x : Int) := by omega
  have i1 : (x : Int) < (n : Int) := by omega
  obtain ⟨px, hpx⟩ : ∃ px, ph x = px := ⟨_, rfl⟩
  rw [hpx] at hS ⊢
  obtain ⟨pz, hpz⟩ : ∃ pz, px - 1 = pz := ⟨_, rfl⟩
  have ew : IntKind.i64.wrap (px - 1) = pz := by rw [IntKind.wrap_i64]; omega
  rw [hpz] at hS ⊢
  have HX := mhid (And.intro h (And.intro hbase (And.intro hpx (And.intro hlow hinc))))
  obtain ⟨m, hm0⟩ : ∃ m, L.length = m := ⟨_, rfl⟩
  have HML := mhid hm0
  obtain ⟨q, cp, hv⟩ : ∃ q cp, v = .slice q m cp := by
    rcases h.l.form with ⟨h1, h2⟩ | ⟨g, c, h1, _⟩
    · exact ⟨none, 0, by rw [h1, ← hm0, h2]⟩
    · exact ⟨_, _, by rw [h1, ← hm0]⟩
  subst hv
  rw [hm0] at hL
  have HSS := mhid hS
  clear hm0 hbase hpx hlow hinc hpz hp hS h
  go_enter Try.func46, Try.ntmps46
  go_upto_region 7 with (first | (go_at_call 55; (with_reducible refine HK.mono ?_); rintro e w0 ⟨rfl, h9⟩; subst h9) | (go_at_call 57; (with_reducible refine HW.mono ?_); rintro e w1 ⟨b2, rfl, h2, h3⟩; obtain rfl : b2 = false := (by cases b2; rfl; exact absurd (h2.1 rfl) HX.out.2.2.2.1); have B1 := mhid h3; clear h2 h3))
  clear HK HW
  have H1 := mhid (HX.out.1.later B1.out)
  go_wp2_with fail
  go_loopw [7, 8, 9] (fun a b y wr => ∃ j : Nat, y = .int .i64 (j : Int) ∧ j ≤ m ∧ Own wr w1.heap.size 110 5 a ((L.take j).filter (mq x pz)).length (lF ((L.take j).filter (mq x pz))) ∧ Own wr w1.heap.size 110 5 b ((L.take j).filter fun l => !mq x pz l).length (lF ((L.take j).filter fun l => !mq x pz l)) ∧ (∀ k, a.ownBlock = some k → b.ownBlock ≠ some k) ∧ Below w1.heap.size w1 wr) (fun _ _ y _ => m - (intOf y).toNat)
  case atStart => exact ⟨0, rfl, Nat.zero_le _, own0 _ _ _ (by simp), own0 _ _ _ (by simp), fun k hk => by simp [Value.ownBlock] at hk, Below.refl _ _⟩
  case round =>
    obtain ⟨j, rfl, hj, ho, ho2, hap, hbr⟩ := hrel
    have HB := mhid (And.intro ho (And.intro ho2 (And.intro hap hbr)))
    have hX := H1.out.later hbr
    obtain ⟨c0, c1, c2, c3, c4, c5⟩ := hX.cells
    by_cases hlt : j < m
    · have dl : decide ((j : Int) < (m : Int)) = true := by simp; omega
      have hm := meas hlt
      have ek : IntKind.i64.wrap ((j : Int) + 1) = (j : Int) + 1 := by rw [IntKind.wrap_i64]; omega
      have k0 : (0 : Int) ≤ (j : Int) := by omega
      have k1 : (j : Int) < (m : Int) := by omega
      have hnf := take_filter (mq x pz) L j (by rw [HML.out]; exact hlt)
      have hnf2 := take_filter (fun l => !mq x pz l) L j (by rw [HML.out]; exact hlt)
      have hfl := filter_le (mq x pz) L j
      have hfl2 := filter_le (fun l => !mq x pz l) L j
      rw [HML.out] at hfl hfl2
      have hl := hX.l
      rw [HML.out] at hl
      rcases hl.form with ⟨h1, h2⟩ | ⟨g, c', h1, _⟩
      · omega
      injection h1 with h1 _ _
      subst h1
      obtain ⟨y0, y1, y2, y3, y4⟩ := ltc hl hlt
      obtain ⟨⟨lf, lt, lp, lk, lm⟩, hlx⟩ : ∃ l, L.getD j lt0 = l := ⟨_, rfl⟩
      rw [hlx] at y0 y1 y2 y3 y4 hnf hnf2
      simp only at y0 y1 y2 y3 y4
      have HNX := mhid (And.intro (Nat.le_trans hfl hL) (And.intro hnf (And.intro (Nat.le_trans hfl2 hL) hnf2)))
      have HLT := mhid hlt
      clear hbr hX hlt hj hnf hnf2 hfl hfl2 hl hlx ho ho2 hap hL
      go_upto_region 11 with fail
      clear y0 y1 y2 y3 y4 c0 c1 c2 c3 c4 c5
      obtain ⟨wz, hwz⟩ : ∃ wz, wr.alloc (.cells #[.int .i64 (lf : Int), .int .i64 (lt : Int), .int .i64 lp, .int .i64 lk, .int .i64 lm] 110) = wz := ⟨_, rfl⟩
      rw [hwz]
      have hnew : wz.heap[wr.heap.size]? = some (.cells #[.int .i64 (lf : Int), .int .i64 (lt : Int), .int .i64 lp, .int .i64 lk, .int .i64 lm] 110 (0, 0)) := by rw [← hwz]; exact World.alloc_heap_new wr _
      have hbz : Below wr.heap.size wr wz := by rw [← hwz]; exact (Below.refl _ wr).alloc (Nat.le_refl _) _
      have z0 : wz.cell? ⟨wr.heap.size, 0, none⟩ = some (.int .i64 (lf : Int)) := by unfold World.cell?; rw [hnew]; rfl
      have z1 : wz.cell? ⟨wr.heap.size, 1, none⟩ = some (.int .i64 (lt : Int)) := by unfold World.cell?; rw [hnew]; rfl
      have z2 : wz.cell? ⟨wr.heap.size, 2, none⟩ = some (.int .i64 lp) := by unfold World.cell?; rw [hnew]; rfl
      have z3 : wz.cell? ⟨wr.heap.size, 3, none⟩ = some (.int .i64 lk) := by unfold World.cell?; rw [hnew]; rfl
      have z4 : wz.cell? ⟨wr.heap.size, 4, none⟩ = some (.int .i64 lm) := by unfold World.cell?; rw [hnew]; rfl
      have hbz2 : Below w1.heap.size w1 wz := HB.out.2.2.2.trans (hbz.mono HB.out.2.2.2.size)
      have hoz := HB.out.1.later hbz
      have hoz2 := HB.out.2.1.later hbz
      have hX := H1.out.later hbz2
      obtain ⟨c0, c1, c2, c3, c4, c5⟩ := hX.cells
      have y1 := hX.phc hx
      rw [HX.out.2.2.1] at y1
      have HZ := mhid (And.intro hoz (And.intro hoz2 hbz2))
      clear hwz hnew hbz hoz hoz2 hbz2 hX
      by_cases u0 : (lt : Int) = (x : Int)
      · have f0 : ((lt : Int) == (x : Int)) = true := by simpa using u0
        have f0n : (lt == x) = true := by simp; omega
        by_cases u1 : lp = pz
        · have f1 : (lp == pz) = true := by simpa using u1
          have HQ : Hid (mq x pz ⟨lf, lt, lp, lk, lm⟩ = true) := by show mq x pz ⟨lf, lt, lp, lk, lm⟩ = true; unfold mq; simp [*]
          clear u0 u1
          go_quiet (fail)
          go_wp2_with (at_builtin; refine app_lt rfl _ _ rfl w1.heap.size u7 _ ⟨lf, lt, lp, lk, lm⟩ rfl (HZ.out.1.later ⟨rfl, rfl, rfl, Nat.le_refl _, fun _ _ => rfl⟩) rfl HNX.out.1 HZ.out.2.2.size ?_; intro g9 c9 w9 o9 g9b g9c g9d)
          have b9 : Below w1.heap.size w1 w9 := HZ.out.2.2.trans (below_grown_drew g9b HZ.out.2.2.size (fun k hk => (Own.lt HZ.out.1 k hk).1))
          have o9b := (own_drewN HZ.out.2.1 _).keptBy g9b (fun k hk e => HB.out.2.2.1 k e hk)
          refine ⟨⟨j + 1, rfl, HLT.out, ?_, ?_, ?_, b9⟩, hm⟩
          · rw [HNX.out.2.1, HQ.out]
            simp only [if_true]
            rw [List.length_append, List.length_singleton] at o9 ⊢
            exact o9
          · rw [HNX.out.2.2.2, HQ.out]
            simp only [Bool.not_true, Bool.false_eq_true, if_false, List.append_nil]
            exact o9b
          · intro k hk hk2
            simp [Value.ownBlock] at hk
            subst hk
            rcases g9c with e | e
            · exact HB.out.2.2.1 _ e hk2
            · have := (Own.lt HZ.out.2.1 _ hk2).2
              have e' : wz.heap.size ≤ g9 := e
              omega
        · have f1 : (lp == pz) = false := by simpa using u1
          have HQ : Hid (mq x pz ⟨lf, lt, lp, lk, lm⟩ = false) := by show mq x pz ⟨lf, lt, lp, lk, lm⟩ = false; unfold mq; simp [*]
          clear u0 u1
          go_quiet (fail)
          go_wp2_with (at_builtin; refine app_lt rfl _ _ rfl w1.heap.size u8 _ ⟨lf, lt, lp, lk, lm⟩ rfl (HZ.out.2.1.later ⟨rfl, rfl, rfl, Nat.le_refl _, fun _ _ => rfl⟩) rfl HNX.out.2.2.1 HZ.out.2.2.size ?_; intro g9 c9 w9 o9 g9b g9c g9d)
          have b9 : Below w1.heap.size w1 w9 := HZ.out.2.2.trans (below_grown_drew g9b HZ.out.2.2.size (fun k hk => (Own.lt HZ.out.2.1 k hk).1))
          have o9b := (own_drewN HZ.out.1 _).keptBy g9b (fun k hk e => HB.out.2.2.1 k hk e)
          refine ⟨⟨j + 1, rfl, HLT.out, ?_, ?_, ?_, b9⟩, hm⟩
          · rw [HNX.out.2.1, HQ.out]
            simp only [Bool.false_eq_true, if_false, List.append_nil]
            exact o9b
          · rw [HNX.out.2.2.2, HQ.out]
            simp only [Bool.not_false, if_true]
            rw [List.length_append, List.length_singleton] at o9 ⊢
            exact o9
          · intro k hk hk2
            simp [Value.ownBlock] at hk2
            subst hk2
            rcases g9c with e | e
            · exact HB.out.2.2.1 _ hk e
            · have := (Own.lt HZ.out.1 _ hk).2
              have e' : wz.heap.size ≤ g9 := e
              omega
      · have f0 : ((lt : Int) == (x : Int)) = false := by simpa using u0
        have f0n : (lt == x) = false := by simp; omega
        have HQ : Hid (mq x pz ⟨lf, lt, lp, lk, lm⟩ = false) := by show mq x pz ⟨lf, lt, lp, lk, lm⟩ = false; unfold mq; simp [*]
        clear u0
        go_quiet (fail)
        go_wp2_with (at_builtin; refine app_lt rfl _ _ rfl w1.heap.size u8 _ ⟨lf, lt, lp, lk, lm⟩ rfl (HZ.out.2.1.later ⟨rfl, rfl, rfl, Nat.le_refl _, fun _ _ => rfl⟩) rfl HNX.out.2.2.1 HZ.out.2.2.size ?_; intro g9 c9 w9 o9 g9b g9c g9d)
        have b9 : Below w1.heap.size w1 w9 := HZ.out.2.2.trans (below_grown_drew g9b HZ.out.2.2.size (fun k hk => (Own.lt HZ.out.2.1 k hk).1))
        have o9b := (own_drewN HZ.out.1 _).keptBy g9b (fun k hk e => HB.out.2.2.1 k hk e)
        refine ⟨⟨j + 1, rfl, HLT.out, ?_, ?_, ?_, b9⟩, hm⟩
        · rw [HNX.out.2.1, HQ.out]
          simp only [Bool.false_eq_true, if_false, List.append_nil]
          exact o9b
        · rw [HNX.out.2.2.2, HQ.out]
          simp only [Bool.not_false, if_true]
          rw [List.length_append, List.length_singleton] at o9 ⊢
          exact o9
        · intro k hk hk2
          simp [Value.ownBlock] at hk2
          subst hk2
          rcases g9c with e | e
          · exact HB.out.2.2.1 _ hk e
          · have := (Own.lt HZ.out.1 _ hk).2
            have e' : wz.heap.size ≤ g9 := e
            omega
    · have dl : decide ((j : Int) < (m : Int)) = false := by simp; omega
      obtain rfl : m = j := by omega
      have ht : L.take m = L := by rw [← HML.out]; exact List.take_length
      rw [ht] at ho ho2
      obtain ⟨q8, n8, c8, hv8⟩ : ∃ q8 n8 c8, u8 = .slice q8 n8 c8 := by
        rcases ho2.form with ⟨h1, _⟩ | ⟨g, c, h1, _⟩
        · exact ⟨_, _, _, h1⟩
        · exact ⟨_, _, _, h1⟩
      rw [HSS.out] at ho
      obtain ⟨q7, c7, hv7⟩ : ∃ q7 c7, u7 = .slice q7 S c7 := by
        rcases ho.form with ⟨h1, h2⟩ | ⟨g, c, h1, _⟩
        · exact ⟨none, 0, by rw [h1, h2]⟩
        · exact ⟨_, _, h1⟩
      have h2 := hX.setL (W' := wr) ⟨rfl, rfl, rfl, Nat.le_refl _, fun _ _ _ => rfl⟩ u8 _ (ho2.lower (Nat.le_trans HX.out.2.1 B1.out.size)) (fun k hk => .inr fun o hFo => by
        have e1 := (ho2.lt k hk).1
        have e2 := lt_of_block (H1.out.fr k o hFo).1
        omega)
      have o7 : Own (wr.setCell ⟨qb, 5, none⟩ u8) w1.heap.size 110 5 u7 S (lG fun i => (L.filter (mq x pz)).getD i lt0) := ho.far fun k hk => Below.heap_setCell _ _ _ _ (ho.apart hX.p (by decide) k hk)
      have nf : wr.frozen? ⟨qb, 5, none⟩ = false := frz hX.p _
      have hB : Below base w1 (wr.setCell ⟨qb, 5, none⟩ u8) := (hbr.mono (Nat.le_trans HX.out.2.1 B1.out.size)).setCell (p := ⟨qb, 5, none⟩) hX.hbs _
      have G7 : Hid (∀ k, u7.ownBlock = some k → qb ≠ k ∧ pb ≠ k ∧ fb ≠ k ∧ u8.ownBlock ≠ some k ∧ (∀ o, Fo k ≠ some o) ∧ base ≤ k ∧ w1.heap.size ≤ k) := fun k hk => by
        have e1 := (ho.lt k hk).1
        have e2 := lt_of_block H1.out.p
        have e3 := (Own.lt H1.out.h pb rfl).2
        have e4 := (Own.lt H1.out.f fb rfl).2
        have e5 := Nat.le_trans HX.out.2.1 B1.out.size
        exact ⟨by omega, by omega, by omega, hap k hk, fun o hFo => by have := lt_of_block (H1.out.fr k o hFo).1; omega, by omega, e1⟩
      have hA := HX.out.2.2.2.2.filter (mq x pz)
      have hlt2 : ∀ p q, p < q → q < S → ((L.filter (mq x pz)).getD p lt0).m < ((L.filter (mq x pz)).getD q lt0).m := fun p q h1 h3 => by
        rw [← HSS.out] at h3
        rw [List.getD_eq_getElem?_getD, List.getD_eq_getElem?_getD, List.getElem?_eq_getElem (by omega), List.getElem?_eq_getElem h3]
        exact List.pairwise_iff_getElem.1 hA p q (by omega) h3 h1
      have hos : OS srt S 1 (fun i => (L.filter (mq x pz)).getD i lt0) := ⟨fun p q h1 h3 => by omega, fun p q h1 h3 h4 => hlt2 p q (by omega) h4, fun p q h1 h3 h4 => hlt2 p q h3 h4⟩
      have hmm : ∀ l, (∃ p, p < S ∧ (fun i => (L.filter (mq x pz)).getD i lt0) p = l) ↔ l ∈ L.filter (mq x pz) := fun l => by
        rw [List.mem_iff_getElem?, ← HSS.out]
        constructor
        · rintro ⟨p, h1, h3⟩
          refine ⟨p, ?_⟩
          rw [List.getElem?_eq_getElem h1, ← h3]
          show some _ = some (List.getD _ _ _)
          rw [List.getD_eq_getElem?_getD, List.getElem?_eq_getElem h1]
          rfl
        · rintro ⟨p, h1⟩
          have h3 : p < (L.filter (mq x pz)).length := by
            rcases Nat.lt_or_ge p (L.filter (mq x pz)).length with h4 | h4
            · exact h4
            · rw [List.getElem?_eq_none h4] at h1; cases h1
          refine ⟨p, h3, ?_⟩
          show List.getD _ _ _ = l
          rw [List.getD_eq_getElem?_getD, h1]
          rfl
      obtain ⟨c0', hc0⟩ : ∃ c0', (fun i => (L.filter (mq x pz)).getD i lt0) = c0' := ⟨_, rfl⟩
      rw [hc0] at o7 hos hmm
      obtain ⟨w5, hw5⟩ : ∃ w5, wr.setCell ⟨qb, 5, none⟩ u8 = w5 := ⟨_, rfl⟩
      rw [hw5] at h2 o7 hB
      have hsz5 : w1.heap.size ≤ w5.heap.size := by rw [← hw5]; have := hbr.size; simpa [World.setCell] using this
      have HSL : Hid (S ≤ 1000000) := by have := List.length_filter_le (mq x pz) L; rw [HSS.out, HML.out] at this; exact Nat.le_trans this hL
      have H5 := mhid (And.intro o7 (And.intro hos (And.intro hmm (And.intro h2 (And.intro hB hsz5)))))
      have HW5 := mhid hw5
      subst hv7
      rw [hv8] at HW5
      have HV8 := mhid hv8
      rw [hv8]
      clear h2 o7 hB hX ho ho2 hap hbr hj hlt ht hA hlt2 hos hmm hc0 hsz5 hw5 hL hv8
      go_upto_region 15 with fail
      rw [HW5.out]
      clear c0 c1 c2 c3 c4 c5 nf dl
      go_wp2_with fail
      go_loopw [11] (fun y wr => ∃ (i : Nat) (c : Nat → Lt), y = .int .i64 (i : Int) ∧ 1 ≤ i ∧ (i ≤ S ∨ i = 1) ∧ OS srt S i c ∧ Mem S c c0' ∧ Own wr w1.heap.size 110 5 (.slice q7 S c7) S (lG c) ∧ RX Fo wr base qb pb fb n room srt ph fl u8 (L.filter fun l => !mq x pz l) ∧ Below base w1 wr ∧ w1.heap.size ≤ wr.heap.size) (fun y _ => S - (intOf y).toNat)
      case atStart => exact ⟨1, c0', rfl, Nat.le_refl _, .inr rfl, H5.out.2.1, fun l => Iff.rfl, H5.out.1, H5.out.2.2.2.1, H5.out.2.2.2.2.1, H5.out.2.2.2.2.2⟩
      case round =>
        obtain ⟨i, c, rfl, hi1, hiS, hos, hmem, ho, hrx, hbr, hsz⟩ := hrel
        have HO := mhid (And.intro hos (And.intro hmem (And.intro ho (And.intro hrx (And.intro hbr hsz)))))
        by_cases hlt : i < S
        · have dl : decide ((i : Int) < (S : Int)) = true := by simp; omega
          have dln : decide (i < S) = true := by simp; omega
          have hme := meas hlt
          have hSl := HSL.out
          have ek : IntKind.i64.wrap ((i : Int) + 1) = (i : Int) + 1 := by rw [IntKind.wrap_i64]; omega
          rcases ho.form with ⟨h1, h2⟩ | ⟨g, c', h1, _⟩
          · omega
          injection h1 with h1 _ h1c
          subst h1 h1c
          have HIS := mhid (And.intro hlt (And.intro hi1 hSl))
          have HG := mhid (G7.out g rfl)
          obtain ⟨wo, rfl⟩ : ∃ wo, wo = wr := ⟨_, rfl⟩
          clear hos hmem ho hrx hbr hsz hlt hi1 hiS hSl
          go_wp2_with fail
          go_loopw [12] (fun y wr => ∃ (k : Nat) (c : Nat → Lt), y = .int .i64 (k : Int) ∧ k ≤ i ∧ IS srt S i k c ∧ Mem S c c0' ∧ Own wr w1.heap.size 110 5 (.slice (some ⟨g, 0, none⟩) S c7) S (lG c) ∧ RX Fo wr base qb pb fb n room srt ph fl u8 (L.filter fun l => !mq x pz l) ∧ Below base w1 wr ∧ w1.heap.size ≤ wr.heap.size) (fun y _ => (intOf y).toNat)
          case atStart => exact ⟨i, c, rfl, Nat.le_refl _, HO.out.1.toIS HIS.out.1, HO.out.2⟩
          case round =>
            clear HO
            obtain ⟨k, c, rfl, hki, his, hmem, ho, hrx, hbr, hsz⟩ := hrel
            have HI := mhid (And.intro hki (And.intro his (And.intro hmem (And.intro ho (And.intro hrx (And.intro hbr hsz))))))
            by_cases hk0 : 0 < k
            · have dk : decide ((0 : Int) < (k : Int)) = true := by simp; omega
              have dkn : decide (0 < k) = true := by simpa using hk0
              obtain ⟨p, hp⟩ : ∃ p, p + 1 = k := ⟨k - 1, by omega⟩
              have hkS : k < S := by have := HIS.out.1; omega
              have hb6 := HIS.out.2.2
              have ej : IntKind.i64.wrap ((k : Int) - 1) = (p : Int) := by rw [IntKind.wrap_i64]; omega
              have k0 : (0 : Int) ≤ (k : Int) := by omega
              have k1 : (k : Int) < (S : Int) := by omega
              have p0 : (0 : Int) ≤ (p : Int) := by omega
              have p1 : (p : Int) < (S : Int) := by omega
              obtain ⟨a0, a1, a2, a3, a4⟩ := lgc ho hkS
              obtain ⟨b0, b1, b2, b3, b4⟩ := lgc ho (i := p) (by omega)
              obtain ⟨X, hX⟩ : ∃ X, c k = X := ⟨_, rfl⟩
              obtain ⟨Y, hY⟩ : ∃ Y, c p = Y := ⟨_, rfl⟩
              obtain ⟨o, ho5⟩ : ∃ o, p * 5 = o := ⟨_, rfl⟩
              have hk5 : k * 5 = o + 5 := by omega
              rw [hX, hk5] at a0 a1 a2 a3 a4
              rw [hY, ho5] at b0 b1 b2 b3 b4
              have hgl := (Own.lt ho g rfl).2
              have HA := fun (w' : World) (hw' : RX Fo w' base qb pb fb n room srt ph fl u8 (L.filter fun l => !mq x pz l)) => rahead_any X Y w' hw'
              have hqr : ah srt X Y = true ↔ RL srt (c k) (c (k - 1)) := by
                rw [hX, show k - 1 = p by omega, hY]
                exact ah_RL (by have := his.d p (by omega) (by omega); rw [hX, hY] at this; exact this)
              obtain ⟨q9, hq9⟩ : ∃ q9, ah srt X Y = q9 := ⟨_, rfl⟩
              rw [hq9] at hqr
              simp only [hq9] at HA
              have HXY := mhid (And.intro hX (And.intro hY (And.intro hqr (And.intro hp (And.intro hk0 hkS)))))
              have HO5 := mhid (And.intro ho5 hk5)
              have KW := mhid hrx
              have HGL := mhid hgl
              clear hX hY hqr hq9 his hmem ho hrx hbr hsz hki hp hk0 hkS hb6 hgl
              go_upto_region 19 with fail
              go_region_held3 (fun w' => (((w'.cell? ⟨g, o + 5, none⟩ = some (.int .i64 (X.f : Int)) ∧ w'.cell? ⟨g, o + 6, none⟩ = some (.int .i64 (X.t : Int))) ∧ (w'.cell? ⟨g, o + 7, none⟩ = some (.int .i64 X.p) ∧ (w'.cell? ⟨g, o + 8, none⟩ = some (.int .i64 X.k) ∧ w'.cell? ⟨g, o + 9, none⟩ = some (.int .i64 X.m)))) ∧ ((w'.cell? ⟨g, o, none⟩ = some (.int .i64 (Y.f : Int)) ∧ w'.cell? ⟨g, o + 1, none⟩ = some (.int .i64 (Y.t : Int))) ∧ (w'.cell? ⟨g, o + 2, none⟩ = some (.int .i64 Y.p) ∧ (w'.cell? ⟨g, o + 3, none⟩ = some (.int .i64 Y.k) ∧ w'.cell? ⟨g, o + 4, none⟩ = some (.int .i64 Y.m)))))) (first | exact s6 | go_keep) ((go_at_call 58; (with_reducible refine (HA _ ?_).mono ?_); (first | exact KW.out | exact KW.out.later (drewB _) | exact KW.out.later (below_drewNq _ _ _)); rintro e9 w9 ⟨rfl, hb9⟩; have hB9 : Below wr.heap.size wr w9 := (by first | exact hb9 | exact (drewB _).trans hb9 | exact (below_drewNq _ _ _).trans hb9); have hr3 := HI.out.2.2.2.1.later hB9; obtain ⟨a0, a1, a2, a3, a4⟩ := lgc hr3 HXY.out.2.2.2.2.2; obtain ⟨b0, b1, b2, b3, b4⟩ := lgc hr3 (i := p) (by have h8 := HXY.out.2.2.2.1; have h9 := HXY.out.2.2.2.2.2; omega); rw [HXY.out.1, HO5.out.2] at a0 a1 a2 a3 a4; rw [HXY.out.2.1, HO5.out.1] at b0 b1 b2 b3 b4; have fg : ∀ j, w9.frozen? ⟨g, j, none⟩ = false := (fun j => (by obtain ⟨cr, hcr, _⟩ := hr3.block; exact frz hcr _)); have s6 : (((w9.cell? ⟨g, o + 5, none⟩ = some (.int .i64 (X.f : Int)) ∧ w9.cell? ⟨g, o + 6, none⟩ = some (.int .i64 (X.t : Int))) ∧ (w9.cell? ⟨g, o + 7, none⟩ = some (.int .i64 X.p) ∧ (w9.cell? ⟨g, o + 8, none⟩ = some (.int .i64 X.k) ∧ w9.cell? ⟨g, o + 9, none⟩ = some (.int .i64 X.m)))) ∧ ((w9.cell? ⟨g, o, none⟩ = some (.int .i64 (Y.f : Int)) ∧ w9.cell? ⟨g, o + 1, none⟩ = some (.int .i64 (Y.t : Int))) ∧ (w9.cell? ⟨g, o + 2, none⟩ = some (.int .i64 Y.p) ∧ (w9.cell? ⟨g, o + 3, none⟩ = some (.int .i64 Y.k) ∧ w9.cell? ⟨g, o + 4, none⟩ = some (.int .i64 Y.m))))) := ⟨⟨⟨a0, a1⟩, ⟨a2, ⟨a3, a4⟩⟩⟩, ⟨⟨b0, b1⟩, ⟨b2, ⟨b3, b4⟩⟩⟩⟩; have HR3 := mhid (And.intro hr3 hB9); have lg9 := Nat.lt_of_lt_of_le HGL.out hB9.size; clear hb9 hB9 hr3))
              all_goals (
                cases q9
                · go_wp2_with fail
                  have hst := HI.out.2.1.stop HI.out.1 (fun _ h9 => by have := HXY.out.2.2.1.2 h9; cases this)
                  exact ⟨⟨i + 1, c, rfl, by omega, .inl HIS.out.1, hst, HI.out.2.2.1, HR3.out.1, HI.out.2.2.2.2.1.later HR3.out.2, HI.out.2.2.2.2.2.1.trans (HR3.out.2.mono (Nat.le_trans (Nat.le_trans HX.out.2.1 B1.out.size) HI.out.2.2.2.2.2.2)), Nat.le_trans HI.out.2.2.2.2.2.2 HR3.out.2.size⟩, hme⟩
                · go_wp2_with fail
                  have e9 := inner_step HR3.out.1 (HI.out.2.2.2.2.1.later HR3.out.2) HG.out.1 HG.out.2.1 HG.out.2.2.1 HG.out.2.2.2.1 HG.out.2.2.2.2.1 HG.out.2.2.2.2.2.1 k p o HXY.out.2.2.2.1 HO5.out.1 X Y HXY.out.1 HXY.out.2.1 (HI.out.2.2.2.2.2.1.trans (HR3.out.2.mono (Nat.le_trans (Nat.le_trans HX.out.2.1 B1.out.size) HI.out.2.2.2.2.2.2))) (Nat.le_trans (Nat.le_trans HX.out.2.1 B1.out.size) (Nat.le_trans HI.out.2.2.2.2.2.2 HR3.out.2.size)) (.cells #[.int .i64 (X.f : Int), .int .i64 (X.t : Int), .int .i64 X.p, .int .i64 X.k, .int .i64 X.m] 110)
                  have hst := HI.out.2.1.step HXY.out.2.2.2.2.1 HI.out.1 (HXY.out.2.2.1.1 rfl)
                  have hpk := HXY.out.2.2.2.1
                  have hme9 := HI.out.2.2.1.swp HXY.out.2.2.2.2.1 HXY.out.2.2.2.2.2
                  rw [show k - 1 = p by omega] at hst
                  refine ⟨⟨p, swp c k (k - 1), rfl, by have := HI.out.1; omega, by rw [show k - 1 = p by omega]; exact hst, hme9, e9.1, e9.2.1, e9.2.2.1, Nat.le_trans HI.out.2.2.2.2.2.2 (Nat.le_trans HR3.out.2.size e9.2.2.2)⟩, ?_⟩
                  simp only [intOf]
                  omega)
            · have dk : decide ((0 : Int) < (k : Int)) = false := by simp; omega
              have dkn : decide (0 < k) = false := by simpa using hk0
              have hst := his.stop hki (fun h9 => absurd h9 hk0)
              have HST := mhid hst
              clear his hmem ho hrx hbr hsz hki hk0 hst
              go_upto_region 19 with fail
              go_quiet (fail)
              go_wp2_with fail
              exact ⟨⟨i + 1, c, rfl, by omega, .inl HIS.out.1, HST.out, HI.out.2.2.1, HI.out.2.2.2.1.later (below_drewNq _ _ _), HI.out.2.2.2.2.1.later (below_drewNq _ _ _), HI.out.2.2.2.2.2.1.trans (below_drewNq _ _ _), HI.out.2.2.2.2.2.2⟩, hme⟩
        · have dl : decide ((i : Int) < (S : Int)) = false := by simp; omega
          have dln : decide (i < S) = false := by simp; omega
          have hss : ∀ p q, p < q → q < S → RL srt (c p) (c q) := fun p q h1 h2 => hos.s p q h1 (by omega)
          have HSS2 := mhid hss
          clear hos hmem ho hrx hbr hsz hlt hi1 hiS hss
          go_wp2_with fail
          go_loopw [14, 15] (fun a y wr => ∃ j : Nat, y = .int .i64 (j : Int) ∧ j ≤ S ∧ Own wr w1.heap.size 31 2 a j (thF fun i => ((c i).k, (c i).m)) ∧ Own wr w1.heap.size 110 5 (.slice q7 S c7) S (lG c) ∧ RX Fo wr base qb pb fb n room srt ph fl u8 (L.filter fun l => !mq x pz l) ∧ Below base w1 wr ∧ w1.heap.size ≤ wr.heap.size) (fun _ y _ => S - (intOf y).toNat)
          case atStart => exact ⟨0, rfl, Nat.zero_le _, own0T _ _ _, HO.out.2.2⟩
          case round =>
            obtain ⟨j, rfl, hj, hoT, ho, hrx, hbr, hsz⟩ := hrel
            have HI := mhid (And.intro hoT (And.intro ho (And.intro hrx (And.intro hbr hsz))))
            by_cases hlt : j < S
            · have dl4 : decide ((j : Int) < (S : Int)) = true := by simp; omega
              have dl4n : decide (j < S) = true := by simp; omega
              have hme := meas hlt
              have hSl := HSL.out
              have ek : IntKind.i64.wrap ((j : Int) + 1) = (j : Int) + 1 := by rw [IntKind.wrap_i64]; omega
              have k0 : (0 : Int) ≤ (j : Int) := by omega
              have k1 : (j : Int) < (S : Int) := by omega
              rcases ho.form with ⟨h1, h2⟩ | ⟨g, c', h1, _⟩
              · omega
              injection h1 with h1 _ h1c
              subst h1 h1c
              obtain ⟨a0, a1, a2, a3, a4⟩ := lgc ho hlt
              have HLT := mhid hlt
              clear hoT ho hrx hbr hsz hlt hj hSl HO a0 a1 a2
              go_wp2_with (at_builtin; refine app_tg rfl _ _ rfl w1.heap.size u14 j _ (c j).k (c j).m rfl HI.out.1 rfl (by have h8 := HSL.out; have h9 := HLT.out; omega) HI.out.2.2.2.2 ?_; intro g9 c9 w9 o9 g9b g9c g9d)
              have o9' := Own.congr o9 (G := thF fun i => ((c i).k, (c i).m)) (fun jj hjj => by
                have he : (fun i => if i = j then ((c j).k, (c j).m) else ((c i).k, (c i).m)) = fun i => ((c i).k, (c i).m) := by
                  funext i
                  by_cases e : i = j
                  · rw [if_pos e, e]
                  · rw [if_neg e]
                rw [he])
              have hbg : ∀ k, u14.ownBlock = some k → w1.heap.size ≤ k := fun k hk => (Own.lt HI.out.1 k hk).1
              have hfar := HI.out.2.1.keptBy g9b (fun k hk e => HI.out.2.1.clash HI.out.1 (by decide) hk e)
              have hrx9 := HI.out.2.2.1.grown g9b (fun k hk => by
                have e1 := hbg k hk
                have e2 := lt_of_block H1.out.p
                have e3 := (Own.lt H1.out.h pb rfl).2
                have e4 := (Own.lt H1.out.f fb rfl).2
                exact ⟨by omega, by omega, by omega, fun e => HI.out.2.2.1.l.clash HI.out.1 (by decide) e hk, fun o hFo => by have := lt_of_block (H1.out.fr k o hFo).1; omega⟩)
              have hbs := Nat.le_trans HX.out.2.1 B1.out.size
              have hb9 : Below base w1 w9 := HI.out.2.2.2.1.trans ((Below.refl base wr).grown g9b (Nat.le_trans hbs HI.out.2.2.2.2) (fun k hk => Nat.le_trans hbs (hbg k hk)))
              exact ⟨⟨j + 1, rfl, HLT.out, o9', hfar, hrx9, hb9, Nat.le_trans HI.out.2.2.2.2 g9b.4⟩, hme⟩
            · have dl4 : decide ((j : Int) < (S : Int)) = false := by simp; omega
              have dl4n : decide (j < S) = false := by simp; omega
              obtain rfl : S = j := by omega
              clear hoT ho hrx hbr hsz hlt hj
              go_wp2_with fail
              refine bodyPost_ret (v := .tuple #[u14, .int .i64 0]) (by simp [results, Try.results46, go_sem]) rfl ?_
              refine ⟨(B1.out.mono HX.out.2.1).trans HI.out.2.2.2.1, u14, c, u8, rfl, HI.out.1.lower B1.out.size, HSS2.out, fun l => ?_, HI.out.2.2.1⟩
              rw [HO.out.2.1 l]
              exact H5.out.2.2.1 l
end Go.Proofs.Ytkfjcbnhohipgaa
