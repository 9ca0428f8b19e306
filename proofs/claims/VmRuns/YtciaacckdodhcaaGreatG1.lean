import Derived.Test.YtciaacckdodhcaaGreatChecked
import Derived.WalkKit
import Derived.ProofKit
import Derived.OpenShut
import Derived.Below
import Derived.Laws.CopyOwn
import Derived.Deep.MidRow
import Derived.Maps.AppendAt
import Derived.RangeFuncOwn
import Derived.BigRegion
import Derived.BigQuiet
import Derived.Deep.AppendLies
import Derived.RangeFuncBox
namespace Go.Proofs.YtciaacckdodhcaaGreat
open Go.ChangeShapes Go.WideShapes Go.ChangeAt Go.RowKit
set_option linter.unusedVariables false

/-! ### rows of the call's own, their cells said by a function -/
theorem addr_add0 (b off i : Nat) : (⟨b, off, none⟩ : Addr).add i = ⟨b, off + i, none⟩ := by
  unfold Addr.add
  by_cases hi : i = 0 <;> simp [hi]
def cellsF (F : Nat → Value) (n : Nat) : List Value := (List.range n).map F
theorem cellsF_len (F : Nat → Value) (n : Nat) : (cellsF F n).length = n := by simp [cellsF]
theorem cellsF_at (F : Nat → Value) {n j : Nat} (h : j < n) : (cellsF F n)[j]? = some (F j) := by
  unfold cellsF
  rw [List.getElem?_map, List.getElem?_range h]
  rfl
theorem cellsF_of (xs : List Value) : xs = cellsF (fun j => xs.getD j undef) xs.length := by
  apply List.ext_getElem?
  intro j
  by_cases h : j < xs.length
  · rw [cellsF_at _ h, List.getD_eq_getElem?_getD, List.getElem?_eq_getElem h]
    rfl
  · rw [List.getElem?_eq_none (by omega), List.getElem?_eq_none (by rw [cellsF_len]; omega)]
theorem cellsF_congr {F G : Nat → Value} {n : Nat} (h : ∀ j, j < n → F j = G j) : cellsF F n = cellsF G n := by
  unfold cellsF
  exact List.map_congr_left fun j hj => h j (List.mem_range.1 hj)
theorem cellsF_append (F G : Nat → Value) (n m : Nat) : cellsF F n ++ cellsF G m = cellsF (fun j => if j < n then F j else G (j - n)) (n + m) := by
  apply List.ext_getElem?
  intro j
  by_cases h : j < n
  · rw [List.getElem?_append_left (by rw [cellsF_len]; exact h), cellsF_at F h, cellsF_at _ (by omega), if_pos h]
  · rw [List.getElem?_append_right (by rw [cellsF_len]; omega), cellsF_len]
    by_cases h2 : j - n < m
    · rw [cellsF_at G h2, cellsF_at _ (by omega), if_neg h]
    · rw [List.getElem?_eq_none (by rw [cellsF_len]; omega), List.getElem?_eq_none (by rw [cellsF_len]; omega)]

/-- the slice v has m elements of s cells, F, in a block of the call's own -/
def Own (W : World) (base : Nat) (t : TypeId) (s : Nat) (v : Value) (m : Nat) (F : Nat → Value) : Prop := W.ownsRow base t s v m (cellsF F (m * s))
theorem Own.cell {W : World} {base : Nat} {t : TypeId} {s g m c : Nat} {F : Nat → Value} (h : Own W base t s (.slice (some ⟨g, 0, none⟩) m c) m F) {j : Nat} (hj : j < m * s) : W.cell? ⟨g, j, none⟩ = some (F j) := by
  have := h.cells (g := g) rfl j _ (cellsF_at F hj)
  rw [addr_add0, Nat.zero_add] at this
  exact this
theorem Own.block {W : World} {base : Nat} {t : TypeId} {s g m c : Nat} {F : Nat → Value} (h : Own W base t s (.slice (some ⟨g, 0, none⟩) m c) m F) : ∃ cur : Array Value, W.heap[g]? = some (.cells cur t (0, 0)) ∧ cur.size = c * s ∧ m ≤ c ∧ c ≤ maxLen ∧ base ≤ g ∧ ∀ j, j < m * s → cur[j]? = some (F j) := by
  rcases h.2 with ⟨h1, _⟩ | ⟨g', cap, cur, hv, hb, hg, hnc, hcm, hcs, htk⟩
  · cases h1
  · injection hv with h1 h2 h3
    injection h1 with h1
    injection h1 with h1 _ _
    subst h1 h3
    refine ⟨cur, hg, hcs, hnc, hcm, hb, fun j hj => ?_⟩
    have := cellsF_at F hj
    rw [← htk, List.getElem?_take, if_pos hj] at this
    simpa using this
theorem Own.mk' {W : World} {base : Nat} {t : TypeId} {s g m c : Nat} {F : Nat → Value} {cur : Array Value} (hg : W.heap[g]? = some (.cells cur t (0, 0))) (hcs : cur.size = c * s) (hnc : m ≤ c) (hcm : c ≤ maxLen) (hb : base ≤ g) (hc : ∀ j, j < m * s → cur[j]? = some (F j)) : Own W base t s (.slice (some ⟨g, 0, none⟩) m c) m F := by
  refine ⟨cellsF_len _ _, .inr ⟨g, c, cur, rfl, hb, hg, hnc, hcm, hcs, ?_⟩⟩
  apply List.ext_getElem?
  intro j
  rw [List.getElem?_take]
  by_cases h : j < m * s
  · rw [if_pos h, cellsF_at F h]
    simpa using hc j h
  · rw [if_neg h, List.getElem?_eq_none (by rw [cellsF_len]; omega)]
theorem setCell_block (w : World) (g o : Nat) (v : Value) {cur : Array Value} {t : TypeId} {fr : Nat × Nat} (h : w.heap[g]? = some (.cells cur t fr)) : (w.setCell ⟨g, o, none⟩ v).heap[g]? = some (.cells (cur.setIfInBounds o v) t fr) := by
  obtain ⟨hlt, hk⟩ := Array.getElem?_eq_some_iff.1 h
  show (w.heap.modify g _)[g]? = _
  rw [Array.getElem?_eq_getElem (by rw [Array.size_modify]; exact hlt), Array.getElem_modify_self, hk]
  rfl
theorem setCells_block (g : Nat) {t : TypeId} {fr : Nat × Nat} : ∀ (vs : List Value) (o : Nat) (w : World) (cur : Array Value), w.heap[g]? = some (.cells cur t fr) → ∃ cur', (w.setCells g o vs).heap[g]? = some (.cells cur' t fr) ∧ cur'.size = cur.size ∧ ∀ j, j < cur.size → cur'[j]? = if o ≤ j ∧ j < o + vs.length then vs[j - o]? else cur[j]?
  | [], o, w, cur, h => ⟨cur, h, rfl, fun j _ => by rw [if_neg (by simp only [List.length_nil]; omega)]⟩
  | v :: r, o, w, cur, h => by
    obtain ⟨cur', h1, h2, h3⟩ := setCells_block g r (o + 1) (w.setCell ⟨g, o, none⟩ v) _ (setCell_block w g o v h)
    refine ⟨cur', h1, by rw [h2]; simp, fun j hj => ?_⟩
    rw [h3 j (by simpa using hj)]
    by_cases h4 : j = o
    · subst h4
      rw [if_neg (by omega), if_pos (by simp)]
      simp [hj]
    · by_cases h5 : o + 1 ≤ j ∧ j < o + 1 + r.length
      · rw [if_pos h5, if_pos (by simp; omega)]
        have : j - o = (j - (o + 1)) + 1 := by omega
        rw [this]
        rfl
      · rw [if_neg h5, if_neg (by simp; omega), Array.getElem?_setIfInBounds_ne (by omega)]
theorem setCells_other (g : Nat) : ∀ (vs : List Value) (o : Nat) (w : World) (k : Nat), k ≠ g → (w.setCells g o vs).heap[k]? = w.heap[k]?
  | [], _, _, _, _ => rfl
  | v :: r, o, w, k, h => (setCells_other g r (o + 1) _ k h).trans (Below.heap_setCell w ⟨g, o, none⟩ v k h)
theorem setCells_size (g : Nat) : ∀ (vs : List Value) (o : Nat) (w : World), (w.setCells g o vs).heap.size = w.heap.size
  | [], _, _ => rfl
  | v :: r, o, w => (setCells_size g r (o + 1) _).trans (by simp [World.setCell])
theorem setCells_below {B g : Nat} {w0 : World} : ∀ (vs : List Value) (o : Nat) (w : World), Below B w0 w → B ≤ g → Below B w0 (w.setCells g o vs)
  | [], _, _, h, _ => h
  | v :: r, o, w, h, hg => setCells_below r (o + 1) _ (h.setCell (p := ⟨g, o, none⟩) hg v) hg
/-- the cells from o on are vs now -/
def putF (F : Nat → Value) (o : Nat) (vs : List Value) : Nat → Value := fun j => if o ≤ j ∧ j < o + vs.length then vs.getD (j - o) undef else F j
theorem Own.put {W : World} {base : Nat} {t : TypeId} {s g m c : Nat} {F : Nat → Value} (h : Own W base t s (.slice (some ⟨g, 0, none⟩) m c) m F) (o : Nat) (vs : List Value) : Own (W.setCells g o vs) base t s (.slice (some ⟨g, 0, none⟩) m c) m (putF F o vs) := by
  obtain ⟨cur, h1, h2, h3, h4, h5, h6⟩ := h.block
  obtain ⟨cur', k1, k2, k3⟩ := setCells_block g vs o W cur h1
  refine Own.mk' k1 (k2.trans h2) h3 h4 h5 fun j hj => ?_
  have hj' : j < cur.size := by rw [h2]; exact Nat.lt_of_lt_of_le hj (Nat.mul_le_mul_right _ h3)
  rw [k3 j hj']
  unfold putF
  by_cases hc : o ≤ j ∧ j < o + vs.length
  · rw [if_pos hc, if_pos hc, List.getD_eq_getElem?_getD]
    rw [List.getElem?_eq_getElem (by omega)]
    rfl
  · rw [if_neg hc, if_neg hc]
    exact h6 j hj
theorem Own.far {W W' : World} {base : Nat} {t : TypeId} {s m : Nat} {v : Value} {F : Nat → Value} (h : Own W base t s v m F) (hk : ∀ k, v.ownBlock = some k → W'.heap[k]? = W.heap[k]?) : Own W' base t s v m F := by
  refine ⟨h.1, ?_⟩
  rcases h.2 with h | ⟨g, cap, cur, rfl, hg, hh, r⟩
  · exact Or.inl h
  · exact Or.inr ⟨g, cap, cur, rfl, hg, (hk g rfl).trans hh, r⟩
theorem Own.there {W : World} {base : Nat} {t : TypeId} {s g m c : Nat} {F : Nat → Value} (h : Own W base t s (.slice (some ⟨g, 0, none⟩) m c) m F) {o n : Nat} (ho : o + n ≤ m * s) : W.there g o n := fun j hj => by
  obtain ⟨cur, h1, h2, h3, h4, h5, h6⟩ := h.block
  refine ⟨by rw [h.cell (by omega)]; rfl, ?_⟩
  simp [World.frozen?, h1]
theorem Own.congr {W : World} {base : Nat} {t : TypeId} {s m : Nat} {v : Value} {F G : Nat → Value} (h : Own W base t s v m F) (he : ∀ j, j < m * s → F j = G j) : Own W base t s v m G := by
  unfold Own
  rw [← cellsF_congr he]
  exact h
theorem Own.form {W : World} {base : Nat} {t : TypeId} {s m : Nat} {v : Value} {F : Nat → Value} (h : Own W base t s v m F) : (v = .slice none 0 0 ∧ m = 0) ∨ ∃ g c, v = .slice (some ⟨g, 0, none⟩) m c ∧ base ≤ g ∧ g < W.heap.size := by
  rcases h.2 with h | ⟨g, cap, cur, rfl, hg, hh, r⟩
  · exact .inl h
  · exact .inr ⟨g, cap, rfl, hg, (Array.getElem?_eq_some_iff.1 hh).1⟩
end Go.Proofs.YtciaacckdodhcaaGreat
namespace Go.Proofs.YtciaacckdodhcaaGreat
open Go.ChangeShapes Go.WideShapes Go.ChangeAt Go.RowKit
set_option linter.unusedVariables false

/-! ### lists of ints, wherever they lie -/
/-- n ints lie at p -/
def KAt (W : World) (p : Option Addr) (n : Nat) (K : Nat → Int) : Prop :=
  n = 0 ∨ ∃ b o, p = some ⟨b, o, none⟩ ∧ b < W.heap.size ∧ ∀ j, j < n → W.cell? ⟨b, o + j, none⟩ = some (.int .i64 (K j))
theorem cell_below {W W' : World} {a : Addr} (hb : Below W.heap.size W W') (hlt : a.block < W.heap.size) : W'.cell? a = W.cell? a := by
  unfold World.cell?
  rw [hb.block _ hlt]
theorem KAt.below {W W' : World} {p : Option Addr} {n : Nat} {K : Nat → Int} (h : KAt W p n K) (hb : Below W.heap.size W W') : KAt W' p n K := by
  rcases h with h | ⟨b, o, rfl, hl, hc⟩
  · exact .inl h
  · exact .inr ⟨b, o, rfl, Nat.lt_of_lt_of_le hl hb.size, fun j hj => (cell_below (a := ⟨b, o + j, none⟩) hb hl).trans (hc j hj)⟩

/-- are they the same? -/
theorem below_drewNq (B : Nat) (w : World) (n : Nat) : Below B w (w.drewN n) := ⟨rfl, rfl, rfl, Nat.le_refl _, fun _ _ => rfl⟩
def sameF (n : Nat) (K L : Nat → Int) : Bool := (List.range n).all fun j => K j == L j
theorem sameF_yes {n : Nat} {K L : Nat → Int} (h : ∀ j, j < n → K j = L j) : sameF n K L = true := by
  unfold sameF
  rw [List.all_eq_true]
  intro j hj
  simpa using h j (List.mem_range.1 hj)
theorem sameF_no {n : Nat} {K L : Nat → Int} {j : Nat} (hj : j < n) (h : K j ≠ L j) : sameF n K L = false := by
  unfold sameF
  rw [List.all_eq_false]
  exact ⟨j, List.mem_range.2 hj, by simpa using h⟩
theorem meas {n L : Nat} (h : n < L) : L - (intOf (.int .i64 ((n : Int) + 1))).toNat < L - (intOf (.int .i64 (n : Int))).toNat := by
  simp only [intOf]
  omega

set_option maxRecDepth 100000 in
set_option maxHeartbeats 1000000 in
theorem sameInts_any (p q : Option Addr) (n m c d : Nat) (K L : Nat → Int) (hn : n ≤ 17592186044416) (w : World) (hp : KAt w p n K) (hq : KAt w q m L) :
    Calls Tryz.prog 22 #[.slice p n c, .slice q m d] w fun e w' => e = .returned (.bool (decide (n = m) && sameF n K L)) ∧ Below w.heap.size w w' := by
  by_cases hnm : n = m
  · subst hnm
    rw [decide_eq_true rfl, Bool.true_and]
    have fy : Hid ((∀ j, j < n → K j = L j) → sameF n K L = true) := sameF_yes
    have fn : ∀ j, Hid (j < n → K j ≠ L j → sameF n K L = false) := fun j => sameF_no
    generalize sameF n K L = res at fy fn ⊢
    go_enter Tryz.func22, Tryz.ntmps22
    go_wp2
    go_loopw [13] (fun v wr => ∃ i : Nat, v = .int .i64 i ∧ i ≤ n ∧ Hid (∀ j, j < i → K j = L j) ∧ Below w.heap.size w wr) (fun v _ => n - (intOf v).toNat)
    case atStart => exact ⟨0, rfl, Nat.zero_le _, (fun j hj => by omega : ∀ j, j < 0 → K j = L j), Below.refl _ _⟩
    case round =>
      obtain ⟨i, rfl, hi, hsm, hbel⟩ := hrel
      by_cases hlt : i < n
      · obtain h0 | ⟨b, o, rfl, hl, hc⟩ := hp
        · omega
        obtain h0 | ⟨b', o', rfl, hl', hc'⟩ := hq
        · omega
        have x0 := (cell_below (a := ⟨b, o + i, none⟩) hbel hl).trans (hc i hlt)
        have y0 := (cell_below (a := ⟨b', o' + i, none⟩) hbel hl').trans (hc' i hlt)
        have dl : decide ((i : Int) < n) = true := decide_eq_true (by omega)
        have hm := meas hlt
        have hni := fn i
        clear hc hc' hl hl' fn
        by_cases he : K i = L i
        · have hsm' : Hid (∀ j, j < i + 1 → K j = L j) := by
            show ∀ j, j < i + 1 → K j = L j
            intro j hj
            by_cases h : j < i
            · exact hsm.out j h
            · obtain rfl : j = i := by omega
              exact he
          rw [he] at x0
          clear he hsm hni
          generalize L i = z at x0 y0
          go_wp2
          go_quiet (fail)
          go_wp2
          exact ⟨⟨i + 1, rfl, hlt, hsm', hbel.trans (below_drewNq _ _ _)⟩, hm⟩
        · have hres : res = false := hni.out hlt he
          subst hres
          have de : (K i == L i) = false := by simpa using he
          clear he hsm hni fy
          generalize K i = z1 at x0 de
          generalize L i = z2 at y0 de
          go_wp2
          go_quiet (fail)
          go_wp2
          go_ret
          exact ⟨rfl, hbel.trans (below_drewNq _ _ _)⟩
      · have dl : decide ((i : Int) < n) = false := decide_eq_false (by omega)
        obtain rfl : i = n := by omega
        have hres : res = true := fy.out hsm.out
        subst hres
        clear fy fn hp hq
        go_wp2
        go_ret
        exact ⟨rfl, hbel⟩
  · have d0 : ((n : Int) == m) = false := by simp; omega
    rw [decide_eq_false hnm, Bool.false_and]
    clear hp hq
    go_enter Tryz.func22, Tryz.ntmps22
    go_wp2
    go_ret
    exact ⟨rfl, Below.refl _ _⟩
/-! ### CopyInts -/
def intsL (K : Nat → Int) (L : Nat) : List Value := (List.range L).map fun i => Value.int .i64 (K i)
theorem intsL_len (K : Nat → Int) (L : Nat) : (intsL K L).length = L := by simp [intsL]
theorem intsL_get {K : Nat → Int} {L i : Nat} (h : i < L) : (intsL K L)[i]? = some (.int .i64 (K i)) := by simp [intsL, h]
theorem intsL_one (K : Nat → Int) (L : Nat) : ∀ u ∈ intsL K L, u.oneCell' = true := by
  intro u hu
  simp [intsL] at hu
  obtain ⟨i, _, rfl⟩ := hu
  rfl
theorem addr_add (b off i : Nat) : (⟨b, off, none⟩ : Addr).add i = ⟨b, off + i, none⟩ := by
  unfold Addr.add
  by_cases hi : i = 0 <;> simp [hi]
theorem infoInt : (Tryz.prog.info? 3).map (fun i => (i.zero, i.size, i.bytes)) = some (some (.int .i64 0), 1, 8) := by kernel_rfl
theorem lt_of_block {w : World} {g : Nat} {o : Obj} (h : w.heap[g]? = some o) : g < w.heap.size := (Array.getElem?_eq_some_iff.1 h).1

set_option maxRecDepth 100000 in
set_option maxHeartbeats 1000000 in
theorem copyInts_any (sl : Option Addr) (L cap : Nat) (K : Nat → Int) (w : World) (hL : L ≤ 17592186044416) (h : KAt w sl L K) :
    Calls Tryz.prog 11 #[.slice sl L cap] w fun r w' => r = .returned (.slice (some ⟨w.heap.size, 0, none⟩) L L) ∧ w'.heap[w.heap.size]? = some (.cells (intsL K L).toArray 3 (0, 0)) ∧ Below w.heap.size w w' ∧ w.heap.size < w'.heap.size := by
  obtain ⟨i5, hi5, ha5, hb5, hc5⟩ := info_parts infoInt
  have hsz : (Tryz.prog.info? 3).map (·.size) = some 1 := by simp [hi5, hb5]
  go_enter Tryz.func11, Tryz.ntmps11
  go_wp2_with (at_make; refine wpList_make_full _ rfl (.tmp 5) (.tmp 5) 23 rfl w.heap.size 3 i5 (.int .i64 0) 1 Tryz.underlying23 hi5 ha5 hb5 .i64 .i64 L L L rfl rfl rfl rfl ?c1 ?c2 ?c3 ?_)
  case c1 => rw [hc5]; omega
  case c2 => unfold maxLen; omega
  case c3 => exact Nat.le_refl _
  intro w1 hown hgrow
  obtain ⟨cur, hcur, hcs⟩ : ∃ cur : List Value, w1.heap[w.heap.size]? = some (.cells cur.toArray 3 (0, 0)) ∧ cur.length = L := by
    obtain ⟨_, hx | ⟨g', cap', cur, hv, _, hh, _, _, hs, _⟩⟩ := hown
    · simp at hx
    · simp at hv
      obtain ⟨rfl, rfl⟩ := hv
      exact ⟨cur.toList, by simpa using hh, by simpa using hs⟩
  have hb1 : Below w.heap.size w w1 := (Below.refl _ _).grown hgrow (Nat.le_refl _) (by simp)
  have hlt1 : w.heap.size < w1.heap.size := lt_of_block hcur
  have hB1 := h.below hb1
  have HC : Hid (w1.heap[w.heap.size]? = some (.cells cur.toArray 3 (0, 0))) := hcur
  clear hown hgrow hcur
  go_wp2_with (refine wpList_copy_splice rfl (.tmp 7) (.tmp 8) 23 23 rfl 3 Tryz.underlying23 hsz (some ⟨w.heap.size, 0, none⟩) sl L L L cap rfl rfl w.heap.size 0 cur 3 HC.out (intsL K L) ?d1 ?d2 ?d3 (intsL_one K L) w.heap.size w hb1 (Nat.le_refl _) ?_)
  case d1 => rw [intsL_len]; simp
  case d2 =>
    intro hp
    rw [intsL_len] at hp
    obtain hx | ⟨b, off, rfl, hlt, hc⟩ := hB1
    · omega
    · refine ⟨⟨b, off, none⟩, rfl, fun j v hj => ?_⟩
      have hjl : j < L := by
        rcases Nat.lt_or_ge j L with z | z
        · exact z
        · rw [List.getElem?_eq_none (by rw [intsL_len]; exact z)] at hj; simp at hj
      rw [intsL_get hjl] at hj
      rw [addr_add, hc j hjl]
      exact hj
  case d3 => rw [intsL_len]; omega
  intro w2 hh2 hb2
  have hfull : splice cur 0 (intsL K L) = intsL K L := by
    simp [splice, intsL_len]
    omega
  have H2 : Hid (w2.heap[w.heap.size]? = some (.cells (intsL K L).toArray 3 (0, 0))) := by rw [← hfull]; exact hh2
  clear hh2 HC
  go_wp2
  go_ret
  exact ⟨rfl, H2.out, hb2, lt_of_block H2.out⟩
end Go.Proofs.YtciaacckdodhcaaGreat
