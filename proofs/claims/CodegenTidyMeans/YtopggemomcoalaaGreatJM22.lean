import Derived.Test.YtopggemomcoalaaGreatJM19
import Derived.BigQuiet
import Derived.Deep.RegionHeld3
import Derived.Laws.CopyOwn
namespace Go.Proofs.YtopggemomcoalaaGreat
open Go.ChangeShapes Go.WideShapes Go.ChangeAt Go.RowKit
set_option linter.unusedVariables false

set_option maxRecDepth 100000 in
set_option maxHeartbeats 1000000 in
theorem sameWords_any (p q : Option Addr) (n m c d : Nat) (K L : Nat → Int) (hn : n ≤ 17592186044416) (w : World) (hp : KAt w p n K) (hq : KAt w q m L) :
    Calls Tryz.prog 39 #[.slice p n c, .slice q m d] w fun e w' => e = .returned (.bool (decide (n = m) && sameF n K L)) ∧ Below w.heap.size w w' := by
  by_cases hnm : n = m
  · subst hnm
    rw [decide_eq_true rfl, Bool.true_and]
    have fy : Hid ((∀ j, j < n → K j = L j) → sameF n K L = true) := sameF_yes
    have fn : ∀ j, Hid (j < n → K j ≠ L j → sameF n K L = false) := fun j => sameF_no
    generalize sameF n K L = res at fy fn ⊢
    go_enter Tryz.func39, Tryz.ntmps39
    go_wp2
    go_loopw [13] (fun v wr => ∃ i : Nat, v = .int .i64 i ∧ i ≤ n ∧ Hid (∀ j, j < i → K j = L j) ∧ Below w.heap.size w wr) (fun v _ => n - (intOf v).toNat)
    case atStart => exact ⟨0, rfl, Nat.zero_le _, (fun j hj => by omega : ∀ j, j < 0 → K j = L j), Below.refl _ _⟩
    case round =>
      obtain ⟨i, rfl, hi, hsm, hbel⟩ := hrel
      by_cases hlt : i < n
      · obtain h0 | ⟨b, o, rfl, hl, hc⟩ := hp
        · omega
        obtain h0 | ⟨b', o', rfl, hl', hc'⟩ := hq
        · omega
        have x0 := (cell_below (a := ⟨b, o + i, none⟩) hbel hl).trans (hc i hlt)
        have y0 := (cell_below (a := ⟨b', o' + i, none⟩) hbel hl').trans (hc' i hlt)
        have dl : decide ((i : Int) < n) = true := decide_eq_true (by omega)
        have hm := meas0 hlt
        have hni := fn i
        clear hc hc' hl hl' fn
        by_cases he : K i = L i
        · have hsm' : Hid (∀ j, j < i + 1 → K j = L j) := by
            show ∀ j, j < i + 1 → K j = L j
            intro j hj
            by_cases h : j < i
            · exact hsm.out j h
            · obtain rfl : j = i := by omega
              exact he
          rw [he] at x0
          clear he hsm hni
          generalize L i = z at x0 y0
          go_wp2
          go_quiet (fail)
          go_wp2
          exact ⟨⟨i + 1, rfl, hlt, hsm', hbel.trans (below_drewNq _ _ _)⟩, hm⟩
        · have hres : res = false := hni.out hlt he
          subst hres
          have de : (K i == L i) = false := by simpa using he
          clear he hsm hni fy
          generalize K i = z1 at x0 de
          generalize L i = z2 at y0 de
          go_wp2
          go_quiet (fail)
          go_wp2
          go_ret
          exact ⟨rfl, hbel.trans (below_drewNq _ _ _)⟩
      · have dl : decide ((i : Int) < n) = false := decide_eq_false (by omega)
        obtain rfl : i = n := by omega
        have hres : res = true := fy.out hsm.out
        subst hres
        clear fy fn hp hq
        go_wp2
        go_ret
        exact ⟨rfl, hbel⟩
  · have d0 : ((n : Int) == m) = false := by simp; omega
    rw [decide_eq_false hnm, Bool.false_and]
    clear hp hq
    go_enter Tryz.func39, Tryz.ntmps39
    go_wp2
    go_ret
    exact ⟨rfl, Below.refl _ _⟩
set_option maxRecDepth 100000 in
set_option maxHeartbeats 1000000 in
theorem copyWords_any (sl : Option Addr) (L cap : Nat) (K : Nat → Int) (w : World) (hL : L ≤ 17592186044416) (h : KAt w sl L K) :
    Calls Tryz.prog 15 #[.slice sl L cap] w fun r w' => r = .returned (.slice (some ⟨w.heap.size, 0, none⟩) L L) ∧ w'.heap[w.heap.size]? = some (.cells (intsL K L).toArray 2 (0, 0)) ∧ Below w.heap.size w w' ∧ w.heap.size < w'.heap.size := by
  obtain ⟨i5, hi5, ha5, hb5, hc5⟩ := info_parts infoI64M
  have hsz : (Tryz.prog.info? 2).map (·.size) = some 1 := by simp [hi5, hb5]
  go_enter Tryz.func15, Tryz.ntmps15
  go_wp2_with (at_make; refine wpList_make_full _ rfl (.tmp 5) (.tmp 5) 50 rfl w.heap.size 2 i5 (.int .i64 0) 1 Tryz.underlying50 hi5 ha5 hb5 .i64 .i64 L L L rfl rfl rfl rfl ?c1 ?c2 ?c3 ?_)
  case c1 => rw [hc5]; omega
  case c2 => unfold maxLen; omega
  case c3 => exact Nat.le_refl _
  intro w1 hown hgrow
  obtain ⟨cur, hcur, hcs⟩ : ∃ cur : List Value, w1.heap[w.heap.size]? = some (.cells cur.toArray 2 (0, 0)) ∧ cur.length = L := by
    obtain ⟨_, hx | ⟨g', cap', cur, hv, _, hh, _, _, hs, _⟩⟩ := hown
    · simp at hx
    · simp at hv
      obtain ⟨rfl, rfl⟩ := hv
      exact ⟨cur.toList, by simpa using hh, by simpa using hs⟩
  have hb1 : Below w.heap.size w w1 := (Below.refl _ _).grown hgrow (Nat.le_refl _) (by simp)
  have hlt1 : w.heap.size < w1.heap.size := lt_of_block hcur
  have hB1 := h.below hb1
  have HC : Hid (w1.heap[w.heap.size]? = some (.cells cur.toArray 2 (0, 0))) := hcur
  clear hown hgrow hcur
  go_wp2_with (refine wpList_copy_splice rfl (.tmp 7) (.tmp 8) 50 50 rfl 2 Tryz.underlying50 hsz (some ⟨w.heap.size, 0, none⟩) sl L L L cap rfl rfl w.heap.size 0 cur 2 HC.out (intsL K L) ?d1 ?d2 ?d3 (intsL_one K L) w.heap.size w hb1 (Nat.le_refl _) ?_)
  case d1 => rw [intsL_len]; simp
  case d2 =>
    intro hp
    rw [intsL_len] at hp
    obtain hx | ⟨b, off, rfl, hlt, hc⟩ := hB1
    · omega
    · refine ⟨⟨b, off, none⟩, rfl, fun j v hj => ?_⟩
      have hjl : j < L := by
        rcases Nat.lt_or_ge j L with z | z
        · exact z
        · rw [List.getElem?_eq_none (by rw [intsL_len]; exact z)] at hj; simp at hj
      rw [intsL_get hjl] at hj
      rw [addr_add, hc j hjl]
      exact hj
  case d3 => rw [intsL_len]; omega
  intro w2 hh2 hb2
  have hfull : splice cur 0 (intsL K L) = intsL K L := by
    simp [splice, intsL_len]
    omega
  have H2 : Hid (w2.heap[w.heap.size]? = some (.cells (intsL K L).toArray 2 (0, 0))) := by rw [← hfull]; exact hh2
  clear hh2 HC
  go_wp2
  go_ret
  exact ⟨rfl, H2.out, hb2, lt_of_block H2.out⟩
/-! ### events -/
def XAt (W : World) (p : Option Addr) (n : Nat) (F : Nat → Value) : Prop := n = 0 ∨ ∃ b o, p = some ⟨b, o, none⟩ ∧ b < W.heap.size ∧ ∀ j, j < n * 6 → W.cell? ⟨b, o + j, none⟩ = some (F j)
theorem XAt.below {W W' : World} {p : Option Addr} {n : Nat} {F : Nat → Value} (h : XAt W p n F) (hb : Below W.heap.size W W') : XAt W' p n F := by
  rcases h with h | ⟨b, o, e, hl, hc⟩
  · exact .inl h
  · exact .inr ⟨b, o, e, Nat.lt_of_lt_of_le hl hb.size, fun j hj => (cell_below (a := ⟨b, o + j, none⟩) hb hl).trans (hc j hj)⟩
theorem XAt.congr {W : World} {p : Option Addr} {n : Nat} {F G : Nat → Value} (h : XAt W p n F) (he : ∀ j, j < n * 6 → F j = G j) : XAt W p n G := by
  rcases h with h | ⟨b, o, e, hl, hc⟩
  · exact .inl h
  · exact .inr ⟨b, o, e, hl, fun j hj => by rw [hc j hj, he j hj]⟩
theorem KAt.congr {W : World} {p : Option Addr} {n : Nat} {F G : Nat → Int} (h : KAt W p n F) (he : ∀ j, j < n → F j = G j) : KAt W p n G := by
  rcases h with h | ⟨b, o, e, hl, hc⟩
  · exact .inl h
  · exact .inr ⟨b, o, e, hl, fun j hj => by rw [hc j hj, he j hj]⟩
theorem Own.xat {W : World} {base : Nat} {p : Option Addr} {n c : Nat} {F : Nat → Value} (h : Own W base 49 6 (.slice p n c) n F) : XAt W p n F := by
  rcases h.form with ⟨e1, e2⟩ | ⟨g, c', e1, e2, e3⟩
  · exact .inl e2
  · cases e1
    exact .inr ⟨g, 0, rfl, e3, fun j hj => by rw [Nat.zero_add]; exact h.cell hj⟩
theorem Own.kat {W : World} {base : Nat} {p : Option Addr} {n c : Nat} {K : Nat → Int} (h : Own W base 2 1 (.slice p n c) n (iv K)) : KAt W p n K := by
  rcases h.form with ⟨e1, e2⟩ | ⟨g, c', e1, e2, e3⟩
  · exact .inl e2
  · cases e1
    exact .inr ⟨g, 0, rfl, e3, fun j hj => by rw [Nat.zero_add]; exact h.cell (by omega)⟩
/-- the cells are events' -/
def EvSh (n : Nat) (F : Nat → Value) : Prop := ∀ i, i < n → ∃ t s q d k x : Int, F (i * 6) = .int .u64 t ∧ F (i * 6 + 1) = .int .i64 s ∧ F (i * 6 + 2) = .int .u64 q ∧ F (i * 6 + 3) = .int .i64 d ∧ F (i * 6 + 4) = .int .i64 k ∧ F (i * 6 + 5) = .int .i64 x
theorem EvSh.zero (F : Nat → Value) : EvSh 0 F := fun i hi => by omega
theorem neq_evV (a b c d e f : Int) (W : World) : (binOp .neq 49 (.agg #[.int .u64 a, .int .i64 b, .int .u64 c, .int .i64 d, .int .i64 e, .int .i64 f]) (.agg #[.int .u64 a, .int .i64 b, .int .u64 c, .int .i64 d, .int .i64 e, .int .i64 f])).run Tryz.prog W = .ok (.bool false) W := by
  go_simp
set_option maxRecDepth 100000 in
set_option maxHeartbeats 2000000 in
theorem sameEvents_yes (n : Nat) (F : Nat → Value) (p1 p2 : Option Addr) (c1 c2 : Nat) (hL : n ≤ 1000000) (w : World) (h1 : XAt w p1 n F) (h2 : XAt w p2 n F) (hs : EvSh n F) :
    Calls Tryz.prog 19 #[.slice p1 n c1, .slice p2 n c2] w fun e w' => e = .returned (.bool true) ∧ Below w.heap.size w w' := by
  have HH1 : Hid (XAt w p1 n F) := h1
  have HH2 : Hid (XAt w p2 n F) := h2
  have HS : Hid (EvSh n F) := hs
  clear h1 h2 hs
  go_enter Tryz.func19, Tryz.ntmps19
  go_wp2
  go_loopw [13] (fun v wr => ∃ i : Nat, v = .int .i64 i ∧ i ≤ n ∧ Below w.heap.size w wr) (fun v _ => n - (intOf v).toNat)
  case atStart => exact ⟨0, rfl, Nat.zero_le _, Below.refl _ _⟩
  case round =>
    obtain ⟨i, rfl, hi, hbel⟩ := hrel
    by_cases hlt : i < n
    · have dl : decide ((i : Int) < n) = true := decide_eq_true (by omega)
      have hm := meas0 hlt
      obtain ⟨t, s, q, d, k, x, e0, e1, e2, e3, e4, e5⟩ := HS.out i hlt
      obtain hx | ⟨g1, o1, rfl, hg1, k1⟩ := HH1.out.below hbel
      · omega
      obtain hx | ⟨g2, o2, rfl, hg2, k2⟩ := HH2.out.below hbel
      · omega
      have x0 := (k1 (i * 6) (by omega)).trans (congrArg some e0)
      have x1 := (k1 (i * 6 + 1) (by omega)).trans (congrArg some e1)
      have x2 := (k1 (i * 6 + 2) (by omega)).trans (congrArg some e2)
      have x3 := (k1 (i * 6 + 3) (by omega)).trans (congrArg some e3)
      have x4 := (k1 (i * 6 + 4) (by omega)).trans (congrArg some e4)
      have x5 := (k1 (i * 6 + 5) (by omega)).trans (congrArg some e5)
      have y0 := (k2 (i * 6) (by omega)).trans (congrArg some e0)
      have y1 := (k2 (i * 6 + 1) (by omega)).trans (congrArg some e1)
      have y2 := (k2 (i * 6 + 2) (by omega)).trans (congrArg some e2)
      have y3 := (k2 (i * 6 + 3) (by omega)).trans (congrArg some e3)
      have y4 := (k2 (i * 6 + 4) (by omega)).trans (congrArg some e4)
      have y5 := (k2 (i * 6 + 5) (by omega)).trans (congrArg some e5)
      simp only [← Nat.add_assoc] at x1 x2 x3 x4 x5 y1 y2 y3 y4 y5
      have ne1 := neq_evV t s q d k x
      clear HH1 HH2 k1 k2 HS e0 e1 e2 e3 e4 e5
      go_wp2
      go_quiet (fail)
      go_wp2
      exact ⟨⟨i + 1, rfl, hlt, hbel.trans (below_drewNq _ _ _)⟩, hm⟩
    · have dl : decide ((i : Int) < n) = false := decide_eq_false (by omega)
      obtain rfl : i = n := by omega
      clear HH1 HH2 HS
      go_wp2
      go_ret
      exact ⟨rfl, hbel⟩
set_option maxRecDepth 100000 in
set_option maxHeartbeats 2000000 in
theorem sameState_yes (p1 p2 : Option Addr) (n c1 c2 : Nat) (K : Nat → Int) (d s : Int) (hn : n ≤ 17592186044416) (w : World) (h1 : KAt w p1 n K) (h2 : KAt w p2 n K) :
    Calls Tryz.prog 18 #[.agg #[.slice p1 n c1, .int .u64 d, .int .u64 s], .agg #[.slice p2 n c2, .int .u64 d, .int .u64 s]] w fun e w' => e = .returned (.bool true) ∧ Below w.heap.size w w' := by
  obtain ⟨w1, hw1⟩ : ∃ w1, (w.alloc (.cells #[.slice p1 n c1, .int .u64 d, .int .u64 s] 52)).alloc (.cells #[.slice p2 n c2, .int .u64 d, .int .u64 s] 52) = w1 := ⟨_, rfl⟩
  have hb1 : Below w.heap.size w w1 := by rw [← hw1]; exact ((Below.refl _ w).alloc (Nat.le_refl _) _).alloc (by simp) _
  have HC := sameWords_any p1 p2 n n c1 c2 K K hn w1 (h1.below hb1) (h2.below hb1)
  rw [decide_eq_true rfl, sameF_yes (fun _ _ => rfl)] at HC
  have HW : Hid ((w.alloc (.cells #[.slice p1 n c1, .int .u64 d, .int .u64 s] 52)).alloc (.cells #[.slice p2 n c2, .int .u64 d, .int .u64 s] 52) = w1) := hw1
  clear hw1 h1 h2
  go_enter Tryz.func18, Tryz.ntmps18
  go_wp2_with (go_at_call 39; rw [HW.out]; (with_reducible refine HC.mono ?_); rintro e w2 ⟨rfl, z2⟩)
  go_ret
  exact ⟨rfl, hb1.trans (z2.mono hb1.size)⟩
/-- an effect lies there -/
def EfL (W : World) (v : Value) (E : Ef) : Prop := ∃ (wp : Option Addr) (wc : Nat) (op : Option Addr) (oc : Nat), v = .agg #[.int .i64 E.code, .slice wp E.nw wc, .int .u64 E.dice, .int .u64 E.sent, .slice op E.on oc, .int .i64 E.used] ∧ KAt W wp E.nw E.wd ∧ XAt W op E.on E.oF
theorem EfAt.lies {W : World} {base : Nat} {v : Value} {E : Ef} (h : EfAt W base v E) : EfL W v E := by
  obtain ⟨wp, wc, op, oc, h1, h2, h3⟩ := h
  exact ⟨wp, wc, op, oc, h1, h2.kat, h3.xat⟩
theorem EfL.below {W W' : World} {v : Value} {E : Ef} (h : EfL W v E) (hb : Below W.heap.size W W') : EfL W' v E := by
  obtain ⟨wp, wc, op, oc, h1, h2, h3⟩ := h
  exact ⟨wp, wc, op, oc, h1, h2.below hb, h3.below hb⟩
/-- the same effect -/
structure EfEq (E G : Ef) : Prop where
  code : E.code = G.code
  nw : E.nw = G.nw
  wd : ∀ j, j < E.nw → E.wd j = G.wd j
  dice : E.dice = G.dice
  sent : E.sent = G.sent
  on : E.on = G.on
  oF : ∀ j, j < E.on * 6 → E.oF j = G.oF j
  used : E.used = G.used
theorem EfEq.refl (E : Ef) : EfEq E E := ⟨rfl, rfl, fun _ _ => rfl, rfl, rfl, rfl, fun _ _ => rfl, rfl⟩
theorem EfL.eqv {W : World} {v : Value} {E G : Ef} (h : EfL W v E) (e : EfEq E G) : EfL W v G := by
  obtain ⟨wp, wc, op, oc, h1, h2, h3⟩ := h
  refine ⟨wp, wc, op, oc, ?_, ?_, ?_⟩
  · rw [h1, e.code, e.nw, e.dice, e.sent, e.on, e.used]
  · rw [← e.nw]; exact h2.congr e.wd
  · rw [← e.on]; exact h3.congr e.oF
end Go.Proofs.YtopggemomcoalaaGreat
