import Derived.Test.YtciaacckdodhcaaGreatM19
import Derived.Maps.AppendAt
import Derived.Test.YtciaacckdodhcaaGreatM5
namespace Go.Proofs.YtciaacckdodhcaaGreat
open Go.ChangeShapes Go.WideShapes Go.ChangeAt Go.RowKit
set_option linter.unusedVariables false

/-! ### the document's own machine: 23 cells, and four rows -/
def rF (C : Nat → Value) (M : Mc) (sv lv ov : Value) (at_ : Int) (k : Nat) : Value :=
  if k < 16 then C k else if k = 16 then M.wv else if k = 17 then .int .u64 M.dice else if k = 18 then .int .u64 M.sent else if k = 19 then ov else if k = 20 then sv else if k = 21 then lv else .int .i64 at_
def RB (W : World) (base mb : Nat) (C : Nat → Value) (M : Mc) (sv lv ov : Value) (at_ : Int) : Prop := Own W base 77 23 (.slice (some ⟨mb, 0, none⟩) 1 1) 1 (rF C M sv lv ov at_)
theorem RB.cell {W : World} {base mb : Nat} {C : Nat → Value} {M : Mc} {sv lv ov : Value} {at_ : Int} (h : RB W base mb C M sv lv ov at_) (k : Nat) (hk : k < 23) : W.cell? ⟨mb, k, none⟩ = some (rF C M sv lv ov at_ k) := Own.cell h (by omega)
theorem RB.frozen {W : World} {base mb : Nat} {C : Nat → Value} {M : Mc} {sv lv ov : Value} {at_ : Int} (h : RB W base mb C M sv lv ov at_) (k : Nat) : W.frozen? ⟨mb, k, none⟩ = false := by
  obtain ⟨cur, h1, _⟩ := Own.block h
  simp [World.frozen?, h1]
theorem RB.lt {W : World} {base mb : Nat} {C : Nat → Value} {M : Mc} {sv lv ov : Value} {at_ : Int} (h : RB W base mb C M sv lv ov at_) : mb < W.heap.size ∧ base ≤ mb := by
  obtain ⟨cur, h1, _, _, _, h5, _⟩ := Own.block h
  exact ⟨(Array.getElem?_eq_some_iff.1 h1).1, h5⟩
theorem RB.put {W : World} {base mb : Nat} {C : Nat → Value} {M M' : Mc} {sv lv ov sv' lv' ov' : Value} {at_ at2 : Int} (h : RB W base mb C M sv lv ov at_) (k : Nat) (v : Value) (hv : rF C M' sv' lv' ov' at2 k = v) (he : ∀ j, j < 23 → j ≠ k → rF C M sv lv ov at_ j = rF C M' sv' lv' ov' at2 j) : RB (W.setCell ⟨mb, k, none⟩ v) base mb C M' sv' lv' ov' at2 := by
  refine Own.congr (Own.put h k [v]) fun j hj => ?_
  unfold putF
  by_cases e : j = k
  · subst e
    rw [if_pos (by simp)]
    simp [hv]
  · rw [if_neg (by simp; omega)]
    exact he j (by omega) e
theorem grown_set (W : World) (b k : Nat) (v : Value) : W.grownBy (W.setCell ⟨b, k, none⟩ v) (some b) := ⟨rfl, rfl, rfl, by simp [World.setCell], fun j hj hne => Below.heap_setCell _ _ _ _ (fun e => hne (by rw [e]))⟩
theorem grown_trans {a b c : World} {r : Option Nat} (h : a.grownBy b r) (h' : b.grownBy c r) : a.grownBy c r := ⟨h'.os.trans h.os, h'.tape.trans h.tape, h'.output.trans h.output, Nat.le_trans h.size h'.size, fun k hk hn => (h'.block k (Nat.lt_of_lt_of_le hk h.size) hn).trans (h.block k hk hn)⟩
def bks (mb : Nat) (wv ov sv lv : Value) (i : Nat) : Option Nat := if i = 0 then some mb else if i = 1 then wv.ownBlock else if i = 2 then ov.ownBlock else if i = 3 then sv.ownBlock else lv.ownBlock
def ApB (B : Nat → Option Nat) : Prop := ∀ i j, i < 5 → j < 5 → i ≠ j → ∀ k, B i = some k → B j ≠ some k
theorem ApB.upd {B B' : Nat → Option Nat} {j : Nat} {sz : Nat} (h : ApB B) (hlt : ∀ i k, i < 5 → B i = some k → k < sz) (he : ∀ i, i < 5 → i ≠ j → B' i = B i) (hj : B' j = B j ∨ ∃ k, B' j = some k ∧ sz ≤ k) : ApB B' := fun a b ha hb hab k hk hc => by
  by_cases e1 : a = j
  · subst e1
    rw [he b hb (fun e => hab e.symm)] at hc
    rcases hj with e | ⟨k', e, hs⟩
    · rw [e] at hk
      exact h a b ha hb hab k hk hc
    · rw [e] at hk
      injection hk with hk
      have := hlt b k hb hc
      omega
  · rw [he a ha e1] at hk
    by_cases e2 : b = j
    · subst e2
      rcases hj with e | ⟨k', e, hs⟩
      · rw [e] at hc
        exact h a b ha hb hab k hk hc
      · rw [e] at hc
        injection hc with hc
        have := hlt a k ha hk
        omega
    · rw [he b hb e2] at hc
      exact h a b ha hb hab k hk hc
structure RWs (w0 W : World) (base mb nw nl : Nat) (C : Nat → Value) (M : Mc) (sv lv ov : Value) (at_ : Int) : Prop where
  box : RB W base mb C M sv lv ov at_
  wr : Own W base 2 1 M.wv nw (iv M.wd)
  out : Own W base 30 6 ov M.on M.oF
  st : Own W base 2 1 sv M.hi (iv M.st)
  lo : Own W base 2 1 lv nl (iv M.lo)
  ap : ApB (bks mb M.wv ov sv lv)
  bel : Below base w0 W
theorem RWs.lts {w0 W : World} {base mb nw nl : Nat} {C : Nat → Value} {M : Mc} {sv lv ov : Value} {at_ : Int} (h : RWs w0 W base mb nw nl C M sv lv ov at_) : ∀ i k, i < 5 → bks mb M.wv ov sv lv i = some k → k < W.heap.size ∧ base ≤ k := fun i k hi hk => by
  unfold bks at hk
  by_cases h0 : i = 0
  · rw [if_pos h0] at hk; injection hk with hk; rw [← hk]; exact ⟨h.box.lt.1, h.box.lt.2⟩
  rw [if_neg h0] at hk
  by_cases h1 : i = 1
  · rw [if_pos h1] at hk; exact ⟨(h.wr.lt k hk).2, (h.wr.lt k hk).1⟩
  rw [if_neg h1] at hk
  by_cases h2 : i = 2
  · rw [if_pos h2] at hk; exact ⟨(h.out.lt k hk).2, (h.out.lt k hk).1⟩
  rw [if_neg h2] at hk
  by_cases h3 : i = 3
  · rw [if_pos h3] at hk; exact ⟨(h.st.lt k hk).2, (h.st.lt k hk).1⟩
  rw [if_neg h3] at hk
  exact ⟨(h.lo.lt k hk).2, (h.lo.lt k hk).1⟩
/-- a row that is none of those that were written -/
theorem Own.keptBy {W W' : World} {base : Nat} {t : TypeId} {s m : Nat} {v : Value} {F : Nat → Value} {r : Option Nat} (h : Own W base t s v m F) (hg : W.grownBy W' r) (hne : ∀ k, v.ownBlock = some k → r ≠ some k) : Own W' base t s v m F := h.far fun k hk => hg.block k (h.lt k hk).2 (fun e => hne k hk e.symm)
/-- the machine's own cells written -/
theorem RWs.cells {w0 W W' : World} {base mb nw nl : Nat} {C : Nat → Value} {M M' : Mc} {sv lv ov sv' : Value} {at_ at2 : Int} (h : RWs w0 W base mb nw nl C M sv lv ov at_) (hg : W.grownBy W' (some mb)) (hb : RB W' base mb C M' sv' lv ov at2) (e1 : M'.wv = M.wv) (e2 : M'.wd = M.wd) (e3 : M'.on = M.on) (e4 : M'.oF = M.oF) (e5 : M'.lo = M.lo) (hs : Own W base 2 1 sv' M'.hi (iv M'.st)) (hsb : sv'.ownBlock = sv.ownBlock) : RWs w0 W' base mb nw nl C M' sv' lv ov at2 := by
  have ne : ∀ i, i < 5 → i ≠ 0 → ∀ k, bks mb M.wv ov sv lv i = some k → (some mb : Option Nat) ≠ some k := fun i hi h0 k hk => by
    have := h.ap 0 i (by omega) hi (fun e => h0 e.symm) mb rfl
    rw [hk] at this
    exact fun e => this e.symm
  have hbm := h.box.lt.2
  have hsz := h.bel.size
  refine ⟨hb, ?_, ?_, ?_, ?_, ?_, ?_⟩
  · rw [e1, e2]; exact h.wr.keptBy hg (ne 1 (by omega) (by omega))
  · rw [e3, e4]; exact h.out.keptBy hg (ne 2 (by omega) (by omega))
  · exact hs.keptBy hg (fun k hk => ne 3 (by omega) (by omega) k (by rw [hsb] at hk; exact hk))
  · rw [e5]; exact h.lo.keptBy hg (ne 4 (by omega) (by omega))
  · rw [e1]
    intro i j hi hj hij k hk
    have eb : ∀ i, bks mb M.wv ov sv' lv i = bks mb M.wv ov sv lv i := fun i => by unfold bks; rw [hsb]
    rw [eb] at hk ⊢
    exact h.ap i j hi hj hij k hk
  · exact h.bel.grown hg (by have := h.box.lt.1; omega) (fun k hk => by injection hk with hk; omega)
/-- the stack grown, its new head laid into the machine -/
theorem RWs.grow {w0 W w1 : World} {base mb nw nl : Nat} {C : Nat → Value} {M : Mc} {sv lv ov v' : Value} {at_ : Int} (h : RWs w0 W base mb nw nl C M sv lv ov at_) (x : Int) (W2 : World) (hb2 : Below W.heap.size W W2) (hg : W2.grownBy w1 sv.ownBlock) (hO : Own w1 base 2 1 v' (M.hi + 1) (iv (updI M.st M.hi x))) (hat : v'.ownBlock = sv.ownBlock ∨ v'.ownBlock = some W2.heap.size) : RWs w0 (w1.setCell ⟨mb, 20, none⟩ v') base mb nw nl C (pushM M x) v' lv ov at_ := by
  have hlt := h.lts
  have hs2 := hb2.size
  have ap' : ApB (bks mb M.wv ov v' lv) := h.ap.upd (j := 3) (sz := W.heap.size) (fun i k hi hk => (hlt i k hi hk).1) (fun i hi hi3 => by
      unfold bks
      rw [if_neg hi3, if_neg hi3]) (by
      rcases hat with e | e
      · left; exact e
      · right; exact ⟨_, e, hs2⟩)
  have ne3 : ∀ i, i < 5 → i ≠ 3 → ∀ k, bks mb M.wv ov sv lv i = some k → sv.ownBlock ≠ some k := fun i hi h3 k hk => h.ap i 3 hi (by omega) h3 k hk
  have ne0 : ∀ i, i < 5 → i ≠ 0 → ∀ k, bks mb M.wv ov v' lv i = some k → (some mb : Option Nat) ≠ some k := fun i hi h0 k hk => by
    have := ap' 0 i (by omega) hi (fun e => h0 e.symm) mb rfl
    rw [hk] at this
    exact fun e => this e.symm
  have hg2 := grown_set w1 mb 20 v'
  have hbm := h.box.lt
  have hsz := h.bel.size
  have box1 : RB w1 base mb C M sv lv ov at_ := (Own.later h.box hb2).keptBy hg (fun k hk => ne3 0 (by omega) (by omega) k hk)
  refine ⟨?_, ?_, ?_, ?_, ?_, ap', ?_⟩
  · refine box1.put 20 v' rfl fun j hj hne => ?_
    unfold rF
    repeat' split
    all_goals first | rfl | omega
  · exact ((h.wr.later hb2).keptBy hg (ne3 1 (by omega) (by omega))).keptBy hg2 (ne0 1 (by omega) (by omega))
  · exact ((h.out.later hb2).keptBy hg (ne3 2 (by omega) (by omega))).keptBy hg2 (ne0 2 (by omega) (by omega))
  · exact hO.keptBy hg2 (ne0 3 (by omega) (by omega))
  · exact ((h.lo.later hb2).keptBy hg (ne3 4 (by omega) (by omega))).keptBy hg2 (ne0 4 (by omega) (by omega))
  · refine ((h.bel.trans (hb2.mono (by omega))).grown hg (by omega) (fun k hk => (hlt 3 k (by omega) hk).2)).grown hg2 (by have := hg.size; omega) (fun k hk => by injection hk with hk; omega)
theorem RWs.later {w0 W W' : World} {base mb nw nl : Nat} {C : Nat → Value} {M : Mc} {sv lv ov : Value} {at_ : Int} (h : RWs w0 W base mb nw nl C M sv lv ov at_) (hb : Below W.heap.size W W') : RWs w0 W' base mb nw nl C M sv lv ov at_ := ⟨Own.later h.box hb, h.wr.later hb, h.out.later hb, h.st.later hb, h.lo.later hb, h.ap, h.bel.trans (hb.mono (by have := h.box.lt; omega))⟩
/-- a word, or a local, written -/
theorem RWs.setRow {w0 W : World} {base mb nw nl : Nat} {C : Nat → Value} {M M' : Mc} {sv lv ov : Value} {at_ : Int} (h : RWs w0 W base mb nw nl C M sv lv ov at_) (j g k : Nat) (x : Value) (hj : j = 1 ∨ j = 4) (hg : bks mb M.wv ov sv lv j = some g) (e1 : M'.wv = M.wv) (e2 : M'.on = M.on) (e3 : M'.oF = M.oF) (e4 : M'.st = M.st) (e5 : M'.hi = M.hi) (e6 : M'.dice = M.dice) (e7 : M'.sent = M.sent) (hw : Own (W.setCell ⟨g, k, none⟩ x) base 2 1 M.wv nw (iv M'.wd)) (hl : Own (W.setCell ⟨g, k, none⟩ x) base 2 1 lv nl (iv M'.lo)) : RWs w0 (W.setCell ⟨g, k, none⟩ x) base mb nw nl C M' sv lv ov at_ := by
  have hgr := grown_set W g k x
  have hlt := h.lts j g (by omega) hg
  have ne : ∀ i, i < 5 → i ≠ j → ∀ k', bks mb M.wv ov sv lv i = some k' → (some g : Option Nat) ≠ some k' := fun i hi hij k' hk => by
    have := h.ap j i (by omega) hi (fun e => hij e.symm) g hg
    rw [hk] at this
    exact fun e => this e.symm
  have hsz := h.bel.size
  refine ⟨?_, by rw [e1]; exact hw, ?_, ?_, hl, by rw [e1]; exact h.ap, h.bel.grown hgr (by have := h.box.lt; omega) (fun k' hk => by injection hk with hk; omega)⟩
  · refine Own.congr (Own.keptBy h.box hgr (fun k' hk => ne 0 (by omega) (by omega) k' hk)) fun i hi => ?_
    unfold rF
    rw [e1, e6, e7]
  · rw [e2, e3]; exact h.out.keptBy hgr (ne 2 (by omega) (by omega))
  · rw [e4, e5]; exact h.st.keptBy hgr (ne 3 (by omega) (by omega))
end Go.Proofs.YtciaacckdodhcaaGreat
namespace Go.Proofs.YtciaacckdodhcaaGreat
open Go.ChangeShapes Go.WideShapes Go.ChangeAt Go.RowKit
set_option linter.unusedVariables false
set_option linter.unusedSimpArgs false

theorem new_cell1 (W : World) (x : Value) (t : TypeId) : ∀ j u, [x][j]? = some u → (W.alloc (.cells #[x] t)).cell? ((⟨W.heap.size, 0, none⟩ : Addr).add j) = some u := by
  intro j u h
  have e : (W.alloc (.cells #[x] t)).heap[W.heap.size]? = some (.cells #[x] t (0, 0)) := World.alloc_heap_new W _
  rw [addr_add, Nat.zero_add]
  unfold World.cell?
  rw [e]
  show (#[x] : Array Value)[j]? = some u
  simpa using h
theorem own_push {W : World} {base : Nat} {t : TypeId} {v : Value} {i : Nat} {F : Nat → Int} {x : Int} (h : W.ownsRow base t 1 v (i + 1) (cellsF (iv F) (i * 1) ++ [.int .i64 x])) : Own W base t 1 v (i + 1) (iv (updI F i x)) := by
  have e : cellsF (iv F) (i * 1) ++ [.int .i64 x] = cellsF (iv (updI F i x)) ((i + 1) * 1) := by
    have e1 : [Value.int .i64 x] = cellsF (fun _ => .int .i64 x) 1 := rfl
    rw [e1, cellsF_append, Nat.mul_one, Nat.mul_one]
    refine cellsF_congr fun j hj => ?_
    by_cases h : j < i
    · simp only [if_pos h]
      unfold iv
      rw [updI_ne _ _ (by omega)]
    · simp only [if_neg h]
      obtain rfl : j = i := by omega
      unfold iv
      rw [updI_at]
  unfold Own
  rw [← e]
  exact h
theorem own_sl {W : World} {base : Nat} {t : TypeId} {s m : Nat} {v : Value} {F : Nat → Value} (h : Own W base t s v m F) : ∃ op oc, v = .slice op m oc := by
  rcases h.form with ⟨h1, h2⟩ | ⟨g, c, h1, _⟩
  · exact ⟨none, 0, by rw [h1, h2]⟩
  · exact ⟨_, _, h1⟩
/-- what giving leaves alone -/
structure FrR (mb : Nat) (sv : Value) (w w' : World) : Prop where
  size : w.heap.size ≤ w'.heap.size
  far : ∀ k, k < w.heap.size → k ≠ mb → sv.ownBlock ≠ some k → w'.heap[k]? = w.heap[k]?
set_option maxRecDepth 100000 in
set_option maxHeartbeats 1000000 in
theorem rgive (w0 w : World) (base mb nw nl : Nat) (C : Nat → Value) (M : Mc) (sv lv ov : Value) (at_ : Int) (h : RWs w0 w base mb nw nl C M sv lv ov at_) (x : Int) (h64 : M.hi < 64) :
    Calls Tryz.prog 66 #[.pointer (some ⟨mb, 0, none⟩), .int .i64 x] w fun e w' => e = .returned (.tuple #[]) ∧ ∃ sv', RWs w0 w' base mb nw nl C (pushM M x) sv' lv ov at_ ∧ FrR mb sv w w' := by
  obtain ⟨i3, hi3, ha3, hb3, hc3⟩ := info_parts infoI64
  obtain ⟨qs, cs, hsv⟩ := own_sl h.st
  subst hsv
  obtain ⟨wA, hwA⟩ : ∃ wA, w.alloc (.cells #[.int .i64 x] 2) = wA := ⟨_, rfl⟩
  have hbA : Below w.heap.size w wA := by rw [← hwA]; exact (Below.refl _ w).alloc (Nat.le_refl _) _
  have hsA : wA.heap.size = w.heap.size + 1 := by rw [← hwA, World.size_alloc]
  have hnew := new_cell1 w (.int .i64 x) 2
  rw [hwA] at hnew
  have c20 : w.cell? ⟨mb, 20, none⟩ = some (.slice qs M.hi cs) := h.box.cell 20 (by omega)
  have hbas : base ≤ wA.heap.size := by have := h.box.lt; omega
  have HO : Hid (wA.ownsRow base 2 1 (.slice qs M.hi cs) M.hi (cellsF (iv M.st) (M.hi * 1))) := h.st.later hbA
  have HH : Hid (RWs w0 w base mb nw nl C M (.slice qs M.hi cs) lv ov at_) := h
  have HWA : Hid (w.alloc (.cells #[.int .i64 x] 2) = wA) := hwA
  have HN : Hid (∀ j u, [Value.int .i64 x][j]? = some u → wA.cell? ((⟨w.heap.size, 0, none⟩ : Addr).add j) = some u) := hnew
  have ne3 : Hid (∀ k, (some mb : Option Nat) = some k → (Value.slice qs M.hi cs).ownBlock ≠ some k) := fun k hk => h.ap 0 3 (by omega) (by omega) (by omega) k hk
  have box : Hid (RB wA base mb C M (.slice qs M.hi cs) lv ov at_) := Own.later h.box hbA
  clear hwA h hnew
  go_enter Tryz.func66, Tryz.ntmps66
  go_wp2_with (at_builtin; rw [HWA.out]; refine wpList_append_own_at _ rfl _ _ 31 rfl base 2 i3 _ 1 8 Tryz.underlying31 hi3 ha3 hb3 hc3 rfl (by decide) (.slice qs M.hi cs) M.hi _ rfl HO.out ⟨w.heap.size, 0, none⟩ 1 1 [.int .i64 x] rfl rfl HN.out (by simp [Value.oneCell']) ?p1 ?p2 hbas ?_; (case p1 => (unfold maxLen; omega)); (case p2 => omega); intro v0 w1 hown hgrow _ hat; have hv0 := own_sl (own_push hown); obtain ⟨q1, c1, hv1⟩ := hv0; subst hv1; have box1 : Hid (RB w1 base mb C M (.slice qs M.hi cs) lv ov at_) := Own.keptBy box.out hgrow ne3.out; have d20 : w1.cell? ⟨mb, 20, none⟩ = some (.slice qs M.hi cs) := box1.out.cell 20 (by omega); have e20 := box1.out.frozen 20)
  go_end0
  have hfin := HH.out.grow x wA hbA hgrow (own_push hown) hat
  refine ⟨rfl, _, hfin, ?_, fun k hk hm hs => ?_⟩
  · have := hgrow.size
    have : (w1.setCell ⟨mb, 20, none⟩ (.slice q1 (M.hi + 1) c1)).heap.size = w1.heap.size := by simp [World.setCell]
    omega
  · rw [Below.heap_setCell _ _ _ _ (by show k ≠ mb; exact hm), hgrow.block k (by omega) (fun e => hs e.symm)]
    exact hbA.block k hk
set_option maxRecDepth 100000 in
set_option maxHeartbeats 1000000 in
theorem rtake (w0 w : World) (base mb nw nl : Nat) (C : Nat → Value) (M : Mc) (sv lv ov : Value) (at_ : Int) (h : RWs w0 w base mb nw nl C M sv lv ov at_) (h0 : Nat) (hh : M.hi = h0 + 1) (h64 : M.hi ≤ 64) :
    Calls Tryz.prog 64 #[.pointer (some ⟨mb, 0, none⟩)] w fun e w' => e = .returned (.int .i64 (topM M)) ∧ ∃ sv', RWs w0 w' base mb nw nl C (popM M) sv' lv ov at_ ∧ sv'.ownBlock = sv.ownBlock ∧ Only mb w w' := by
  obtain ⟨g, cap, hsv, hgb, hgl⟩ : ∃ g cap, sv = .slice (some ⟨g, 0, none⟩) M.hi cap ∧ base ≤ g ∧ g < w.heap.size := by
    rcases h.st.form with ⟨e1, e2⟩ | hx
    · omega
    · exact hx
  subst hsv
  have hO := h.st
  obtain ⟨cur, k1, k2, k3, k4, k5, k6⟩ := hO.block
  have c20 : w.cell? ⟨mb, 20, none⟩ = some (.slice (some ⟨g, 0, none⟩) (h0 + 1) cap) := by rw [← hh]; exact h.box.cell 20 (by omega)
  have f20 := h.box.frozen 20
  have ce : w.cell? ⟨g, h0, none⟩ = some (.int .i64 (M.st h0)) := hO.cell (by omega)
  have i0 : (0 : Int) ≤ (h0 : Int) := by omega
  have i1 : (h0 : Int) < ((h0 + 1 : Nat) : Int) := by omega
  have i1' : (h0 : Int) < (h0 : Int) + 1 := by omega
  have i2 : (h0 : Int) + 1 - 1 = (h0 : Int) := by omega
  have i3 : (h0 : Int) ≤ (cap : Int) := by omega
  have i4 : h0 ≤ cap := by omega
  have dl : decide ((h0 : Int) < 0) = false := decide_eq_false (by omega)
  have top : topM M = M.st h0 := by unfold topM; rw [hh, Nat.add_sub_cancel]
  rw [top]
  have fin : Hid (∃ sv', RWs w0 (w.setCell ⟨mb, 20, none⟩ (.slice (some ⟨g, 0, none⟩) h0 cap)) base mb nw nl C (popM M) sv' lv ov at_ ∧ sv'.ownBlock = (Value.slice (some ⟨g, 0, none⟩) M.hi cap).ownBlock ∧ Only mb w (w.setCell ⟨mb, 20, none⟩ (.slice (some ⟨g, 0, none⟩) h0 cap))) := by
    have hp : (popM M).hi = h0 := by show M.hi - 1 = h0; omega
    refine ⟨.slice (some ⟨g, 0, none⟩) h0 cap, h.cells (grown_set w mb 20 _) ?_ rfl rfl rfl rfl rfl ?_ rfl, rfl, Only.set mb w 20 _⟩
    · refine h.box.put 20 _ rfl fun j hj hne => ?_
      unfold rF
      repeat' split
      all_goals first | rfl | omega
    · rw [hp]
      exact Own.mk' k1 k2 (by omega) k4 k5 (fun j hj => k6 j (by omega))
  have b64 : h0 ≤ 64 := by omega
  have hw : wrap64 (h0 : Int) = (h0 : Int) := by unfold wrap64; omega
  clear h hO k1 k2 k3 k4 k5 k6 top hh h64
  go_enter Tryz.func64, Tryz.ntmps64
  go_wp2
  go_ret
  exact ⟨rfl, fin.out⟩
end Go.Proofs.YtciaacckdodhcaaGreat
namespace Go.Proofs.YtciaacckdodhcaaGreat
open Go.ChangeShapes Go.WideShapes Go.ChangeAt Go.RowKit
set_option linter.unusedVariables false
set_option linter.unusedSimpArgs false

def RX (w0 W : World) (base mb nw nl : Nat) (C : Nat → Value) (M : Mc) (at_ : Int) : Prop := ∃ sv lv ov, RWs w0 W base mb nw nl C M sv lv ov at_
structure CR (C : Nat → Value) (cl : Cl) (code : Value) : Prop where
  code : C 2 = code
  time : C 4 = .int .u64 cl.time
  src : C 5 = .int .i64 cl.src
  dst : C 7 = .int .i64 cl.dst
  kind : C 8 = .int .i64 cl.kind
  data : C 9 = .int .i64 cl.data
  look : C 13 = .int .u64 cl.look
  parts : C 14 = .int .i64 cl.parts
  fuel : C 15 = .int .i64 cl.fuel
theorem RWs.fix {w0 W : World} {base mb nw nl : Nat} {C : Nat → Value} {M : Mc} {sv lv ov : Value} {at_ : Int} (h : RWs w0 W base mb nw nl C M sv lv ov at_) {k : Nat} (hk : k < 16) {v : Value} (e : C k = v) : W.cell? ⟨mb, k, none⟩ = some v := by
  rw [h.box.cell k (by omega)]
  unfold rF
  rw [if_pos hk, e]
theorem ibox (w : World) (o a b : Int) (wb : World) (h : w.alloc (.cells #[.int .i64 o, .int .i64 a, .int .i64 b] 70) = wb) : Below w.heap.size w wb ∧ wb.heap[w.heap.size]? = some (.cells #[.int .i64 o, .int .i64 a, .int .i64 b] 70 (0, 0)) ∧ wb.heap.size = w.heap.size + 1 := by
  subst h
  exact ⟨(Below.refl _ w).alloc (Nat.le_refl _) _, World.alloc_heap_new w _, World.size_alloc w _⟩
set_option maxRecDepth 100000 in
set_option maxHeartbeats 1000000 in
theorem rval_1 (w0 w : World) (base mb nw nl : Nat) (C : Nat → Value) (M : Mc) (sv lv ov : Value) (at_ : Int) (cl : Cl) (code : Value) (hC : CR C cl code) (a b : Int) (h : RWs w0 w base mb nw nl C M sv lv ov at_) (h64 : M.hi < 64) :
    Calls Tryz.prog 71 #[.pointer (some ⟨mb, 0, none⟩), .agg #[.int .i64 1, .int .i64 a, .int .i64 b]] w fun e w' => e = .returned (.tuple #[]) ∧ RX w0 w' base mb nw nl C (pushM M a) at_ := by
  obtain ⟨wb, hwb⟩ : ∃ wb, w.alloc (.cells #[.int .i64 1, .int .i64 a, .int .i64 b] 70) = wb := ⟨_, rfl⟩
  obtain ⟨hbb, hbx, hsz⟩ := ibox w 1 a b wb hwb
  have hb := h.later hbb
  have HWB : Hid (w.alloc (.cells #[.int .i64 1, .int .i64 a, .int .i64 b] 70) = wb) := hwb
  have HG := rgive w0 wb base mb nw nl C M sv lv ov at_ hb (a) h64
  clear hwb h
  go_enter Tryz.func71, Tryz.ntmps71
  go_wp2_with ((go_at_call 66; rw [HWB.out]; (with_reducible refine HG.mono ?_); rintro e w1 ⟨rfl, sv1, m1, f1⟩))
  go_end0
  exact ⟨rfl, _, _, _, m1⟩
set_option maxRecDepth 100000 in
set_option maxHeartbeats 1000000 in
theorem rval_9 (w0 w : World) (base mb nw nl : Nat) (C : Nat → Value) (M : Mc) (sv lv ov : Value) (at_ : Int) (cl : Cl) (code : Value) (hC : CR C cl code) (a b : Int) (h : RWs w0 w base mb nw nl C M sv lv ov at_) (h64 : M.hi < 64) :
    Calls Tryz.prog 71 #[.pointer (some ⟨mb, 0, none⟩), .agg #[.int .i64 9, .int .i64 a, .int .i64 b]] w fun e w' => e = .returned (.tuple #[]) ∧ RX w0 w' base mb nw nl C (pushM M cl.data) at_ := by
  obtain ⟨wb, hwb⟩ : ∃ wb, w.alloc (.cells #[.int .i64 9, .int .i64 a, .int .i64 b] 70) = wb := ⟨_, rfl⟩
  obtain ⟨hbb, hbx, hsz⟩ := ibox w 9 a b wb hwb
  have hb := h.later hbb
  have HWB : Hid (w.alloc (.cells #[.int .i64 9, .int .i64 a, .int .i64 b] 70) = wb) := hwb
  have HG := rgive w0 wb base mb nw nl C M sv lv ov at_ hb (cl.data) h64
  have cx : wb.cell? ⟨mb, 9, none⟩ = some (.int .i64 cl.data) := hb.fix (by decide) hC.data
  have hmb : mb < w.heap.size := h.box.lt.1
  have cx' : w.cell? ⟨mb, 9, none⟩ = some (.int .i64 cl.data) := h.fix (by decide) hC.data
  clear hwb h
  go_enter Tryz.func71, Tryz.ntmps71
  go_wp2_with ((go_at_call 66; rw [HWB.out]; (with_reducible refine HG.mono ?_); rintro e w1 ⟨rfl, sv1, m1, f1⟩))
  go_end0
  exact ⟨rfl, _, _, _, m1⟩
set_option maxRecDepth 100000 in
set_option maxHeartbeats 1000000 in
theorem rval_11 (w0 w : World) (base mb nw nl : Nat) (C : Nat → Value) (M : Mc) (sv lv ov : Value) (at_ : Int) (cl : Cl) (code : Value) (hC : CR C cl code) (a b : Int) (h : RWs w0 w base mb nw nl C M sv lv ov at_) (h64 : M.hi < 64) :
    Calls Tryz.prog 71 #[.pointer (some ⟨mb, 0, none⟩), .agg #[.int .i64 11, .int .i64 a, .int .i64 b]] w fun e w' => e = .returned (.tuple #[]) ∧ RX w0 w' base mb nw nl C (pushM M cl.dst) at_ := by
  obtain ⟨wb, hwb⟩ : ∃ wb, w.alloc (.cells #[.int .i64 11, .int .i64 a, .int .i64 b] 70) = wb := ⟨_, rfl⟩
  obtain ⟨hbb, hbx, hsz⟩ := ibox w 11 a b wb hwb
  have hb := h.later hbb
  have HWB : Hid (w.alloc (.cells #[.int .i64 11, .int .i64 a, .int .i64 b] 70) = wb) := hwb
  have HG := rgive w0 wb base mb nw nl C M sv lv ov at_ hb (cl.dst) h64
  have cx : wb.cell? ⟨mb, 7, none⟩ = some (.int .i64 cl.dst) := hb.fix (by decide) hC.dst
  have hmb : mb < w.heap.size := h.box.lt.1
  have cx' : w.cell? ⟨mb, 7, none⟩ = some (.int .i64 cl.dst) := h.fix (by decide) hC.dst
  clear hwb h
  go_enter Tryz.func71, Tryz.ntmps71
  go_wp2_with ((go_at_call 66; rw [HWB.out]; (with_reducible refine HG.mono ?_); rintro e w1 ⟨rfl, sv1, m1, f1⟩))
  go_end0
  exact ⟨rfl, _, _, _, m1⟩
set_option maxRecDepth 100000 in
set_option maxHeartbeats 1000000 in
theorem rval_12 (w0 w : World) (base mb nw nl : Nat) (C : Nat → Value) (M : Mc) (sv lv ov : Value) (at_ : Int) (cl : Cl) (code : Value) (hC : CR C cl code) (a b : Int) (h : RWs w0 w base mb nw nl C M sv lv ov at_) (h64 : M.hi < 64) :
    Calls Tryz.prog 71 #[.pointer (some ⟨mb, 0, none⟩), .agg #[.int .i64 12, .int .i64 a, .int .i64 b]] w fun e w' => e = .returned (.tuple #[]) ∧ RX w0 w' base mb nw nl C (pushM M cl.src) at_ := by
  obtain ⟨wb, hwb⟩ : ∃ wb, w.alloc (.cells #[.int .i64 12, .int .i64 a, .int .i64 b] 70) = wb := ⟨_, rfl⟩
  obtain ⟨hbb, hbx, hsz⟩ := ibox w 12 a b wb hwb
  have hb := h.later hbb
  have HWB : Hid (w.alloc (.cells #[.int .i64 12, .int .i64 a, .int .i64 b] 70) = wb) := hwb
  have HG := rgive w0 wb base mb nw nl C M sv lv ov at_ hb (cl.src) h64
  have cx : wb.cell? ⟨mb, 5, none⟩ = some (.int .i64 cl.src) := hb.fix (by decide) hC.src
  have hmb : mb < w.heap.size := h.box.lt.1
  have cx' : w.cell? ⟨mb, 5, none⟩ = some (.int .i64 cl.src) := h.fix (by decide) hC.src
  clear hwb h
  go_enter Tryz.func71, Tryz.ntmps71
  go_wp2_with ((go_at_call 66; rw [HWB.out]; (with_reducible refine HG.mono ?_); rintro e w1 ⟨rfl, sv1, m1, f1⟩))
  go_end0
  exact ⟨rfl, _, _, _, m1⟩
set_option maxRecDepth 100000 in
set_option maxHeartbeats 1000000 in
theorem rval_10 (w0 w : World) (base mb nw nl : Nat) (C : Nat → Value) (M : Mc) (sv lv ov : Value) (at_ : Int) (cl : Cl) (code : Value) (hC : CR C cl code) (a b : Int) (h : RWs w0 w base mb nw nl C M sv lv ov at_) (h64 : M.hi < 64) :
    Calls Tryz.prog 71 #[.pointer (some ⟨mb, 0, none⟩), .agg #[.int .i64 10, .int .i64 a, .int .i64 b]] w fun e w' => e = .returned (.tuple #[]) ∧ RX w0 w' base mb nw nl C (pushM M (wrap64 cl.time)) at_ := by
  obtain ⟨wb, hwb⟩ : ∃ wb, w.alloc (.cells #[.int .i64 10, .int .i64 a, .int .i64 b] 70) = wb := ⟨_, rfl⟩
  obtain ⟨hbb, hbx, hsz⟩ := ibox w 10 a b wb hwb
  have hb := h.later hbb
  have HWB : Hid (w.alloc (.cells #[.int .i64 10, .int .i64 a, .int .i64 b] 70) = wb) := hwb
  have HG := rgive w0 wb base mb nw nl C M sv lv ov at_ hb (wrap64 cl.time) h64
  have cx : wb.cell? ⟨mb, 4, none⟩ = some (.int .u64 cl.time) := hb.fix (by decide) hC.time
  have hmb : mb < w.heap.size := h.box.lt.1
  have cx' : w.cell? ⟨mb, 4, none⟩ = some (.int .u64 cl.time) := h.fix (by decide) hC.time
  clear hwb h
  go_enter Tryz.func71, Tryz.ntmps71
  go_wp2_with ((go_at_call 66; rw [HWB.out]; (with_reducible refine HG.mono ?_); rintro e w1 ⟨rfl, sv1, m1, f1⟩))
  go_end0
  exact ⟨rfl, _, _, _, m1⟩
set_option maxRecDepth 100000 in
set_option maxHeartbeats 1000000 in
theorem rval_2 (w0 w : World) (base mb nw nl : Nat) (C : Nat → Value) (M : Mc) (sv lv ov : Value) (at_ : Int) (cl : Cl) (code : Value) (hC : CR C cl code) (a b : Int) (h : RWs w0 w base mb nw nl C M sv lv ov at_) (h0 : Nat) (hh : M.hi = h0 + 1) (h64 : M.hi ≤ 64) :
    Calls Tryz.prog 71 #[.pointer (some ⟨mb, 0, none⟩), .agg #[.int .i64 2, .int .i64 a, .int .i64 b]] w fun e w' => e = .returned (.tuple #[]) ∧ RX w0 w' base mb nw nl C (popM M) at_ := by
  obtain ⟨wb, hwb⟩ : ∃ wb, w.alloc (.cells #[.int .i64 2, .int .i64 a, .int .i64 b] 70) = wb := ⟨_, rfl⟩
  obtain ⟨hbb, hbx, hsz⟩ := ibox w 2 a b wb hwb
  have hb := h.later hbb
  have HWB : Hid (w.alloc (.cells #[.int .i64 2, .int .i64 a, .int .i64 b] 70) = wb) := hwb
  have HG := rtake w0 wb base mb nw nl C M sv lv ov at_ hb h0 hh h64
  clear hwb h
  go_enter Tryz.func71, Tryz.ntmps71
  go_wp2_with ((go_at_call 64; rw [HWB.out]; (with_reducible refine HG.mono ?_); rintro e w1 ⟨rfl, sv1, m1, hs1, o1⟩))
  go_end0
  exact ⟨rfl, _, _, _, m1⟩
set_option maxRecDepth 100000 in
set_option maxHeartbeats 2000000 in
theorem rval_3 (w0 w : World) (base mb nw nl : Nat) (C : Nat → Value) (M : Mc) (sv lv ov : Value) (at_ : Int) (cl : Cl) (code : Value) (hC : CR C cl code) (a : Nat) (b : Int) (h : RWs w0 w base mb nw nl C M sv lv ov at_) (h64 : M.hi < 64) (ha : a < nw) (hn : nw ≤ 64) :
    Calls Tryz.prog 71 #[.pointer (some ⟨mb, 0, none⟩), .agg #[.int .i64 3, .int .i64 (a : Int), .int .i64 b]] w fun e w' => e = .returned (.tuple #[]) ∧ RX w0 w' base mb nw nl C (pushM M (M.wd a)) at_ := by
  obtain ⟨wb, hwb⟩ : ∃ wb, w.alloc (.cells #[.int .i64 3, .int .i64 (a : Int), .int .i64 b] 70) = wb := ⟨_, rfl⟩
  obtain ⟨hbb, hbx, hsz⟩ := ibox w 3 (a : Int) b wb hwb
  have hb := h.later hbb
  obtain ⟨gw, cw, hwv, hgb, hgl⟩ : ∃ g cap, M.wv = .slice (some ⟨g, 0, none⟩) nw cap ∧ base ≤ g ∧ g < w.heap.size := by
    rcases h.wr.form with ⟨e1, e2⟩ | hx
    · omega
    · exact hx
  have hne := h.lts 3
  have hd := hb.later (below_drewNq _ wb 1)
  have HG := rgive w0 wb.drew base mb nw nl C M sv lv ov at_ hd (M.wd a) h64
  have c16 : wb.drew.cell? ⟨mb, 16, none⟩ = some (.slice (some ⟨gw, 0, none⟩) nw cw) := (hd.box.cell 16 (by omega)).trans (congrArg some hwv)
  have c16b : wb.cell? ⟨mb, 16, none⟩ = some (.slice (some ⟨gw, 0, none⟩) nw cw) := (hb.box.cell 16 (by omega)).trans (congrArg some hwv)
  have hwr := hb.wr
  rw [hwv] at hwr
  have cw0 : wb.cell? ⟨gw, a, none⟩ = some (.int .i64 (M.wd a)) := hwr.cell (by omega)
  obtain ⟨b0, b1, b2⟩ := cells3' hbx
  have i0 : (0 : Int) ≤ (a : Int) := by omega
  have i1 : (a : Int) < (nw : Int) := by omega
  have hmb : mb < w.heap.size := h.box.lt.1
  have hsvb : sv.ownBlock ≠ some w.heap.size := fun e => by have := (hne w.heap.size (by omega) e).1; omega
  have HWV : Hid (M.wv = .slice (some ⟨gw, 0, none⟩) nw cw) := hwv
  have HWB : Hid (w.alloc (.cells #[.int .i64 3, .int .i64 (a : Int), .int .i64 b] 70) = wb) := hwb
  clear hwb h hwv hne hwr
  go_enter Tryz.func71, Tryz.ntmps71
  go_wp2
  rw [HWB.out]
  go_region_held3 (fun W => W.cell? ⟨mb, 16, none⟩ = some (.slice (some ⟨gw, 0, none⟩) nw cw) ∧ W.cell? ⟨w.heap.size, 1, none⟩ = some (.int .i64 (a : Int)) ∧ W.cell? ⟨gw, a, none⟩ = some (.int .i64 (M.wd a))) (first | exact KP | go_keep) ((go_at_call 66; (with_reducible refine HG.mono ?_); rintro e w1 ⟨rfl, sv1, m1, f1⟩; have KP : w1.cell? ⟨mb, 16, none⟩ = some (.slice (some ⟨gw, 0, none⟩) nw cw) ∧ w1.cell? ⟨w.heap.size, 1, none⟩ = some (.int .i64 (a : Int)) ∧ w1.cell? ⟨gw, a, none⟩ = some (.int .i64 (M.wd a)) := ⟨(m1.box.cell 16 (by omega)).trans (congrArg some HWV.out), (World.cell?_of_block (a := ⟨w.heap.size, 1, none⟩) (f1.far w.heap.size (by show _ < wb.heap.size; omega) (by omega) hsvb)).trans b1, (by have hx := m1.wr; rw [show (pushM M (M.wd a)).wv = M.wv from rfl, HWV.out] at hx; exact hx.cell (by omega))⟩))
  go_wp2
  go_end0
  exact ⟨rfl, _, _, _, m1⟩
set_option maxRecDepth 100000 in
set_option maxHeartbeats 2000000 in
theorem rval_7 (w0 w : World) (base mb nw nl : Nat) (C : Nat → Value) (M : Mc) (sv lv ov : Value) (at_ : Int) (cl : Cl) (code : Value) (hC : CR C cl code) (a : Nat) (b : Int) (h : RWs w0 w base mb nw nl C M sv lv ov at_) (h64 : M.hi < 64) (ha : a < nl) (hn : nl ≤ 64) :
    Calls Tryz.prog 71 #[.pointer (some ⟨mb, 0, none⟩), .agg #[.int .i64 7, .int .i64 (a : Int), .int .i64 b]] w fun e w' => e = .returned (.tuple #[]) ∧ RX w0 w' base mb nw nl C (pushM M (M.lo a)) at_ := by
  obtain ⟨wb, hwb⟩ : ∃ wb, w.alloc (.cells #[.int .i64 7, .int .i64 (a : Int), .int .i64 b] 70) = wb := ⟨_, rfl⟩
  obtain ⟨hbb, hbx, hsz⟩ := ibox w 7 (a : Int) b wb hwb
  have hb := h.later hbb
  obtain ⟨gw, cw, hwv, hgb, hgl⟩ : ∃ g cap, lv = .slice (some ⟨g, 0, none⟩) nl cap ∧ base ≤ g ∧ g < w.heap.size := by
    rcases h.lo.form with ⟨e1, e2⟩ | hx
    · omega
    · exact hx
  have hne := h.lts 3
  have hd := hb.later (below_drewNq _ wb 1)
  have HG := rgive w0 wb.drew base mb nw nl C M sv lv ov at_ hd (M.lo a) h64
  have c16 : wb.drew.cell? ⟨mb, 21, none⟩ = some (.slice (some ⟨gw, 0, none⟩) nl cw) := (hd.box.cell 21 (by omega)).trans (congrArg some hwv)
  have c16b : wb.cell? ⟨mb, 21, none⟩ = some (.slice (some ⟨gw, 0, none⟩) nl cw) := (hb.box.cell 21 (by omega)).trans (congrArg some hwv)
  have hwr := hb.lo
  rw [hwv] at hwr
  have cw0 : wb.cell? ⟨gw, a, none⟩ = some (.int .i64 (M.lo a)) := hwr.cell (by omega)
  obtain ⟨b0, b1, b2⟩ := cells3' hbx
  have i0 : (0 : Int) ≤ (a : Int) := by omega
  have i1 : (a : Int) < (nl : Int) := by omega
  have hmb : mb < w.heap.size := h.box.lt.1
  have hsvb : sv.ownBlock ≠ some w.heap.size := fun e => by have := (hne w.heap.size (by omega) e).1; omega
  have HWV : Hid (lv = .slice (some ⟨gw, 0, none⟩) nl cw) := hwv
  have HWB : Hid (w.alloc (.cells #[.int .i64 7, .int .i64 (a : Int), .int .i64 b] 70) = wb) := hwb
  clear hwb h hwv hne hwr
  go_enter Tryz.func71, Tryz.ntmps71
  go_wp2
  rw [HWB.out]
  go_region_held3 (fun W => W.cell? ⟨mb, 21, none⟩ = some (.slice (some ⟨gw, 0, none⟩) nl cw) ∧ W.cell? ⟨w.heap.size, 1, none⟩ = some (.int .i64 (a : Int)) ∧ W.cell? ⟨gw, a, none⟩ = some (.int .i64 (M.lo a))) (first | exact KP | go_keep) ((go_at_call 66; (with_reducible refine HG.mono ?_); rintro e w1 ⟨rfl, sv1, m1, f1⟩; have KP : w1.cell? ⟨mb, 21, none⟩ = some (.slice (some ⟨gw, 0, none⟩) nl cw) ∧ w1.cell? ⟨w.heap.size, 1, none⟩ = some (.int .i64 (a : Int)) ∧ w1.cell? ⟨gw, a, none⟩ = some (.int .i64 (M.lo a)) := ⟨(m1.box.cell 21 (by omega)).trans (congrArg some HWV.out), (World.cell?_of_block (a := ⟨w.heap.size, 1, none⟩) (f1.far w.heap.size (by show _ < wb.heap.size; omega) (by omega) hsvb)).trans b1, (by have hx := m1.lo; rw [show lv = lv from rfl, HWV.out] at hx; exact hx.cell (by omega))⟩))
  go_wp2
  go_end0
  exact ⟨rfl, _, _, _, m1⟩
theorem own_set {W : World} {base : Nat} {t : TypeId} {g n c : Nat} {F : Nat → Int} (h : Own W base t 1 (.slice (some ⟨g, 0, none⟩) n c) n (iv F)) (a : Nat) (x : Int) : Own (W.setCell ⟨g, a, none⟩ (.int .i64 x)) base t 1 (.slice (some ⟨g, 0, none⟩) n c) n (iv (updI F a x)) := by
  refine Own.congr (Own.put h a [.int .i64 x]) fun j hj => ?_
  unfold putF iv
  by_cases e : j = a
  · subst e
    rw [if_pos (by simp), updI_at]
    simp
  · rw [if_neg (by simp; omega), updI_ne _ _ e]
set_option maxRecDepth 100000 in
set_option maxHeartbeats 2000000 in
theorem rval_4 (w0 w : World) (base mb nw nl : Nat) (C : Nat → Value) (M : Mc) (sv lv ov : Value) (at_ : Int) (cl : Cl) (code : Value) (hC : CR C cl code) (a : Nat) (b : Int) (h : RWs w0 w base mb nw nl C M sv lv ov at_) (h0 : Nat) (hh : M.hi = h0 + 1) (h64 : M.hi ≤ 64) (ha : a < nw) (hn : nw ≤ 64) :
    Calls Tryz.prog 71 #[.pointer (some ⟨mb, 0, none⟩), .agg #[.int .i64 4, .int .i64 (a : Int), .int .i64 b]] w fun e w' => e = .returned (.tuple #[]) ∧ RX w0 w' base mb nw nl C { popM M with wd := updI M.wd a (topM M) } at_ := by
  obtain ⟨wb, hwb⟩ : ∃ wb, w.alloc (.cells #[.int .i64 4, .int .i64 (a : Int), .int .i64 b] 70) = wb := ⟨_, rfl⟩
  obtain ⟨hbb, hbx, hsz⟩ := ibox w 4 (a : Int) b wb hwb
  have hb := h.later hbb
  obtain ⟨gw, cw, hwv, hgb, hgl⟩ : ∃ g cap, M.wv = .slice (some ⟨g, 0, none⟩) nw cap ∧ base ≤ g ∧ g < w.heap.size := by
    rcases h.wr.form with ⟨e1, e2⟩ | hx
    · omega
    · exact hx
  have HG := rtake w0 wb base mb nw nl C M sv lv ov at_ hb h0 hh h64
  have hgm : gw ≠ mb := fun e => h.ap 1 0 (by omega) (by omega) (by omega) gw (by show (M.wv).ownBlock = some gw; rw [hwv]; rfl) (by rw [e]; rfl)
  have hgx : gw ≠ w.heap.size := by omega
  have hmb : mb < w.heap.size := h.box.lt.1
  have i0 : (0 : Int) ≤ (a : Int) := by omega
  have i1 : (a : Int) < (nw : Int) := by omega
  have HWV : Hid (M.wv = .slice (some ⟨gw, 0, none⟩) nw cw) := hwv
  have HWB : Hid (w.alloc (.cells #[.int .i64 4, .int .i64 (a : Int), .int .i64 b] 70) = wb) := hwb
  generalize hT : topM M = T at *
  have HT : Hid (topM M = T) := hT
  clear hwb h hwv hT
  go_enter Tryz.func71, Tryz.ntmps71
  go_wp2_with ((go_at_call 64; rw [HWB.out]; (with_reducible refine HG.mono ?_); rintro e w1 ⟨rfl, sv1, m1, hs1, o1⟩))
  have md := m1.later (below_drewNq _ w1 1)
  have c16 : w1.drew.cell? ⟨mb, 16, none⟩ = some (.slice (some ⟨gw, 0, none⟩) nw cw) := (md.box.cell 16 (by omega)).trans (congrArg some HWV.out)
  have c16b : w1.cell? ⟨mb, 16, none⟩ = some (.slice (some ⟨gw, 0, none⟩) nw cw) := (m1.box.cell 16 (by omega)).trans (congrArg some HWV.out)
  have hbx1 := (o1.far w.heap.size (by omega)).trans hbx
  obtain ⟨b0, b1, b2⟩ := cells3' hbx1
  have b1d : w1.drew.cell? ⟨w.heap.size, 1, none⟩ = some (.int .i64 (a : Int)) := b1
  have hwr := md.wr
  rw [show (popM M).wv = M.wv from rfl, HWV.out] at hwr
  have cw0 : w1.drew.cell? ⟨gw, a, none⟩ = some (.int .i64 (M.wd a)) := hwr.cell (by omega)
  have cw1 : w1.cell? ⟨gw, a, none⟩ = some (.int .i64 (M.wd a)) := cw0
  have fw : w1.drew.frozen? ⟨gw, a, none⟩ = false := by
    obtain ⟨cur, k1, _⟩ := hwr.block
    exact frz' k1 a
  have fw1 : w1.frozen? ⟨gw, a, none⟩ = false := fw
  go_region_held3 (fun W => W.cell? ⟨mb, 16, none⟩ = some (.slice (some ⟨gw, 0, none⟩) nw cw) ∧ W.cell? ⟨w.heap.size, 1, none⟩ = some (.int .i64 (a : Int))) (first | exact ⟨c16, b1d⟩ | exact ⟨(World.cell?_of_block (Below.heap_setCell _ ⟨gw, a, none⟩ _ mb (fun e => hgm e.symm))).trans c16, (World.cell?_of_block (Below.heap_setCell _ ⟨gw, a, none⟩ _ w.heap.size (fun e => hgx e.symm))).trans b1d⟩ | go_keep) (fail)
  go_wp2
  go_end0
  refine ⟨rfl, sv1, lv, ov, md.setRow (M' := { popM M with wd := updI M.wd a T }) 1 gw a _ (by omega) ?_ rfl rfl rfl rfl rfl rfl rfl ?_ ?_⟩
  · show (M.wv).ownBlock = some gw
    rw [HWV.out]; rfl
  · show Own _ base 2 1 M.wv nw _
    rw [HWV.out]
    exact own_set hwr a T
  · refine md.lo.keptBy (grown_set _ gw a _) (fun k hk => ?_)
    have := md.ap 1 4 (by omega) (by omega) (by omega) gw (by show M.wv.ownBlock = some gw; rw [HWV.out]; rfl)
    rw [show bks mb (popM M).wv ov sv1 lv 4 = lv.ownBlock from rfl, hk] at this
    exact fun e => this e.symm
set_option maxRecDepth 100000 in
set_option maxHeartbeats 2000000 in
theorem rval_8 (w0 w : World) (base mb nw nl : Nat) (C : Nat → Value) (M : Mc) (sv lv ov : Value) (at_ : Int) (cl : Cl) (code : Value) (hC : CR C cl code) (a : Nat) (b : Int) (h : RWs w0 w base mb nw nl C M sv lv ov at_) (h0 : Nat) (hh : M.hi = h0 + 1) (h64 : M.hi ≤ 64) (ha : a < nl) (hn : nl ≤ 64) :
    Calls Tryz.prog 71 #[.pointer (some ⟨mb, 0, none⟩), .agg #[.int .i64 8, .int .i64 (a : Int), .int .i64 b]] w fun e w' => e = .returned (.tuple #[]) ∧ RX w0 w' base mb nw nl C { popM M with lo := updI M.lo a (topM M) } at_ := by
  obtain ⟨wb, hwb⟩ : ∃ wb, w.alloc (.cells #[.int .i64 8, .int .i64 (a : Int), .int .i64 b] 70) = wb := ⟨_, rfl⟩
  obtain ⟨hbb, hbx, hsz⟩ := ibox w 8 (a : Int) b wb hwb
  have hb := h.later hbb
  obtain ⟨gw, cw, hwv, hgb, hgl⟩ : ∃ g cap, lv = .slice (some ⟨g, 0, none⟩) nl cap ∧ base ≤ g ∧ g < w.heap.size := by
    rcases h.lo.form with ⟨e1, e2⟩ | hx
    · omega
    · exact hx
  have HG := rtake w0 wb base mb nw nl C M sv lv ov at_ hb h0 hh h64
  have hgm : gw ≠ mb := fun e => h.ap 4 0 (by omega) (by omega) (by omega) gw (by show (lv).ownBlock = some gw; rw [hwv]; rfl) (by rw [e]; rfl)
  have hgx : gw ≠ w.heap.size := by omega
  have hmb : mb < w.heap.size := h.box.lt.1
  have i0 : (0 : Int) ≤ (a : Int) := by omega
  have i1 : (a : Int) < (nl : Int) := by omega
  have HWV : Hid (lv = .slice (some ⟨gw, 0, none⟩) nl cw) := hwv
  have HWB : Hid (w.alloc (.cells #[.int .i64 8, .int .i64 (a : Int), .int .i64 b] 70) = wb) := hwb
  generalize hT : topM M = T at *
  have HT : Hid (topM M = T) := hT
  clear hwb h hwv hT
  go_enter Tryz.func71, Tryz.ntmps71
  go_wp2_with ((go_at_call 64; rw [HWB.out]; (with_reducible refine HG.mono ?_); rintro e w1 ⟨rfl, sv1, m1, hs1, o1⟩))
  have md := m1.later (below_drewNq _ w1 1)
  have c16 : w1.drew.cell? ⟨mb, 21, none⟩ = some (.slice (some ⟨gw, 0, none⟩) nl cw) := (md.box.cell 21 (by omega)).trans (congrArg some HWV.out)
  have c16b : w1.cell? ⟨mb, 21, none⟩ = some (.slice (some ⟨gw, 0, none⟩) nl cw) := (m1.box.cell 21 (by omega)).trans (congrArg some HWV.out)
  have hbx1 := (o1.far w.heap.size (by omega)).trans hbx
  obtain ⟨b0, b1, b2⟩ := cells3' hbx1
  have b1d : w1.drew.cell? ⟨w.heap.size, 1, none⟩ = some (.int .i64 (a : Int)) := b1
  have hwr := md.lo
  rw [show lv = lv from rfl, HWV.out] at hwr
  have cw0 : w1.drew.cell? ⟨gw, a, none⟩ = some (.int .i64 (M.lo a)) := hwr.cell (by omega)
  have cw1 : w1.cell? ⟨gw, a, none⟩ = some (.int .i64 (M.lo a)) := cw0
  have fw : w1.drew.frozen? ⟨gw, a, none⟩ = false := by
    obtain ⟨cur, k1, _⟩ := hwr.block
    exact frz' k1 a
  have fw1 : w1.frozen? ⟨gw, a, none⟩ = false := fw
  go_region_held3 (fun W => W.cell? ⟨mb, 21, none⟩ = some (.slice (some ⟨gw, 0, none⟩) nl cw) ∧ W.cell? ⟨w.heap.size, 1, none⟩ = some (.int .i64 (a : Int))) (first | exact ⟨c16, b1d⟩ | exact ⟨(World.cell?_of_block (Below.heap_setCell _ ⟨gw, a, none⟩ _ mb (fun e => hgm e.symm))).trans c16, (World.cell?_of_block (Below.heap_setCell _ ⟨gw, a, none⟩ _ w.heap.size (fun e => hgx e.symm))).trans b1d⟩ | go_keep) (fail)
  go_wp2
  go_end0
  refine ⟨rfl, sv1, lv, ov, md.setRow (M' := { popM M with lo := updI M.lo a T }) 4 gw a _ (by omega) ?_ rfl rfl rfl rfl rfl rfl rfl ?_ ?_⟩
  · show (lv).ownBlock = some gw
    rw [HWV.out]; rfl
  · refine md.wr.keptBy (grown_set _ gw a _) (fun k hk => ?_)
    have := md.ap 4 1 (by omega) (by omega) (by omega) gw (by show lv.ownBlock = some gw; rw [HWV.out]; rfl)
    rw [show bks mb (popM M).wv ov sv1 lv 1 = M.wv.ownBlock from rfl] at this
    rw [show (popM M).wv = M.wv from rfl] at hk
    rw [hk] at this
    exact fun e => this e.symm
  · rw [HWV.out]
    exact own_set hwr a T
end Go.Proofs.YtciaacckdodhcaaGreat
