import Derived.Test.YtopggemomcoalaaGreatChecked
import Derived.WalkKit
import Derived.ProofKit
import Derived.OpenShut
import Derived.Below
import Derived.Laws.CopyOwn
import Derived.Deep.MidRow
import Derived.Maps.AppendAt
import Derived.RangeFuncOwn
import Derived.BigQuiet
namespace Go.Proofs.YtopggemomcoalaaGreat
open Go.ChangeShapes Go.WideShapes Go.ChangeAt Go.RowKit
set_option linter.unusedVariables false

/-! ### rows of the call's own, their cells said by a function -/
theorem addr_add0 (b off i : Nat) : (⟨b, off, none⟩ : Addr).add i = ⟨b, off + i, none⟩ := by
  unfold Addr.add
  by_cases hi : i = 0 <;> simp [hi]
def cellsF (F : Nat → Value) (n : Nat) : List Value := (List.range n).map F
theorem cellsF_len (F : Nat → Value) (n : Nat) : (cellsF F n).length = n := by simp [cellsF]
theorem cellsF_at (F : Nat → Value) {n j : Nat} (h : j < n) : (cellsF F n)[j]? = some (F j) := by
  unfold cellsF
  rw [List.getElem?_map, List.getElem?_range h]
  rfl
theorem cellsF_of (xs : List Value) : xs = cellsF (fun j => xs.getD j undef) xs.length := by
  apply List.ext_getElem?
  intro j
  by_cases h : j < xs.length
  · rw [cellsF_at _ h, List.getD_eq_getElem?_getD, List.getElem?_eq_getElem h]
    rfl
  · rw [List.getElem?_eq_none (by omega), List.getElem?_eq_none (by rw [cellsF_len]; omega)]
theorem cellsF_congr {F G : Nat → Value} {n : Nat} (h : ∀ j, j < n → F j = G j) : cellsF F n = cellsF G n := by
  unfold cellsF
  exact List.map_congr_left fun j hj => h j (List.mem_range.1 hj)
theorem cellsF_append (F G : Nat → Value) (n m : Nat) : cellsF F n ++ cellsF G m = cellsF (fun j => if j < n then F j else G (j - n)) (n + m) := by
  apply List.ext_getElem?
  intro j
  by_cases h : j < n
  · rw [List.getElem?_append_left (by rw [cellsF_len]; exact h), cellsF_at F h, cellsF_at _ (by omega), if_pos h]
  · rw [List.getElem?_append_right (by rw [cellsF_len]; omega), cellsF_len]
    by_cases h2 : j - n < m
    · rw [cellsF_at G h2, cellsF_at _ (by omega), if_neg h]
    · rw [List.getElem?_eq_none (by rw [cellsF_len]; omega), List.getElem?_eq_none (by rw [cellsF_len]; omega)]

/-- the slice v has m elements of s cells, F, in a block of the call's own -/
def Own (W : World) (base : Nat) (t : TypeId) (s : Nat) (v : Value) (m : Nat) (F : Nat → Value) : Prop := W.ownsRow base t s v m (cellsF F (m * s))
theorem Own.cell {W : World} {base : Nat} {t : TypeId} {s g m c : Nat} {F : Nat → Value} (h : Own W base t s (.slice (some ⟨g, 0, none⟩) m c) m F) {j : Nat} (hj : j < m * s) : W.cell? ⟨g, j, none⟩ = some (F j) := by
  have := h.cells (g := g) rfl j _ (cellsF_at F hj)
  rw [addr_add0, Nat.zero_add] at this
  exact this
theorem Own.block {W : World} {base : Nat} {t : TypeId} {s g m c : Nat} {F : Nat → Value} (h : Own W base t s (.slice (some ⟨g, 0, none⟩) m c) m F) : ∃ cur : Array Value, W.heap[g]? = some (.cells cur t (0, 0)) ∧ cur.size = c * s ∧ m ≤ c ∧ c ≤ maxLen ∧ base ≤ g ∧ ∀ j, j < m * s → cur[j]? = some (F j) := by
  rcases h.2 with ⟨h1, _⟩ | ⟨g', cap, cur, hv, hb, hg, hnc, hcm, hcs, htk⟩
  · cases h1
  · injection hv with h1 h2 h3
    injection h1 with h1
    injection h1 with h1 _ _
    subst h1 h3
    refine ⟨cur, hg, hcs, hnc, hcm, hb, fun j hj => ?_⟩
    have := cellsF_at F hj
    rw [← htk, List.getElem?_take, if_pos hj] at this
    simpa using this
theorem Own.mk' {W : World} {base : Nat} {t : TypeId} {s g m c : Nat} {F : Nat → Value} {cur : Array Value} (hg : W.heap[g]? = some (.cells cur t (0, 0))) (hcs : cur.size = c * s) (hnc : m ≤ c) (hcm : c ≤ maxLen) (hb : base ≤ g) (hc : ∀ j, j < m * s → cur[j]? = some (F j)) : Own W base t s (.slice (some ⟨g, 0, none⟩) m c) m F := by
  refine ⟨cellsF_len _ _, .inr ⟨g, c, cur, rfl, hb, hg, hnc, hcm, hcs, ?_⟩⟩
  apply List.ext_getElem?
  intro j
  rw [List.getElem?_take]
  by_cases h : j < m * s
  · rw [if_pos h, cellsF_at F h]
    simpa using hc j h
  · rw [if_neg h, List.getElem?_eq_none (by rw [cellsF_len]; omega)]
theorem setCell_block (w : World) (g o : Nat) (v : Value) {cur : Array Value} {t : TypeId} {fr : Nat × Nat} (h : w.heap[g]? = some (.cells cur t fr)) : (w.setCell ⟨g, o, none⟩ v).heap[g]? = some (.cells (cur.setIfInBounds o v) t fr) := by
  obtain ⟨hlt, hk⟩ := Array.getElem?_eq_some_iff.1 h
  show (w.heap.modify g _)[g]? = _
  rw [Array.getElem?_eq_getElem (by rw [Array.size_modify]; exact hlt), Array.getElem_modify_self, hk]
  rfl
theorem setCells_block (g : Nat) {t : TypeId} {fr : Nat × Nat} : ∀ (vs : List Value) (o : Nat) (w : World) (cur : Array Value), w.heap[g]? = some (.cells cur t fr) → ∃ cur', (w.setCells g o vs).heap[g]? = some (.cells cur' t fr) ∧ cur'.size = cur.size ∧ ∀ j, j < cur.size → cur'[j]? = if o ≤ j ∧ j < o + vs.length then vs[j - o]? else cur[j]?
  | [], o, w, cur, h => ⟨cur, h, rfl, fun j _ => by rw [if_neg (by simp only [List.length_nil]; omega)]⟩
  | v :: r, o, w, cur, h => by
    obtain ⟨cur', h1, h2, h3⟩ := setCells_block g r (o + 1) (w.setCell ⟨g, o, none⟩ v) _ (setCell_block w g o v h)
    refine ⟨cur', h1, by rw [h2]; simp, fun j hj => ?_⟩
    rw [h3 j (by simpa using hj)]
    by_cases h4 : j = o
    · subst h4
      rw [if_neg (by omega), if_pos (by simp)]
      simp [hj]
    · by_cases h5 : o + 1 ≤ j ∧ j < o + 1 + r.length
      · rw [if_pos h5, if_pos (by simp; omega)]
        have : j - o = (j - (o + 1)) + 1 := by omega
        rw [this]
        rfl
      · rw [if_neg h5, if_neg (by simp; omega), Array.getElem?_setIfInBounds_ne (by omega)]
theorem setCells_other (g : Nat) : ∀ (vs : List Value) (o : Nat) (w : World) (k : Nat), k ≠ g → (w.setCells g o vs).heap[k]? = w.heap[k]?
  | [], _, _, _, _ => rfl
  | v :: r, o, w, k, h => (setCells_other g r (o + 1) _ k h).trans (Below.heap_setCell w ⟨g, o, none⟩ v k h)
theorem setCells_size (g : Nat) : ∀ (vs : List Value) (o : Nat) (w : World), (w.setCells g o vs).heap.size = w.heap.size
  | [], _, _ => rfl
  | v :: r, o, w => (setCells_size g r (o + 1) _).trans (by simp [World.setCell])
theorem setCells_below {B g : Nat} {w0 : World} : ∀ (vs : List Value) (o : Nat) (w : World), Below B w0 w → B ≤ g → Below B w0 (w.setCells g o vs)
  | [], _, _, h, _ => h
  | v :: r, o, w, h, hg => setCells_below r (o + 1) _ (h.setCell (p := ⟨g, o, none⟩) hg v) hg
/-- the cells from o on are vs now -/
def putF (F : Nat → Value) (o : Nat) (vs : List Value) : Nat → Value := fun j => if o ≤ j ∧ j < o + vs.length then vs.getD (j - o) undef else F j
theorem Own.put {W : World} {base : Nat} {t : TypeId} {s g m c : Nat} {F : Nat → Value} (h : Own W base t s (.slice (some ⟨g, 0, none⟩) m c) m F) (o : Nat) (vs : List Value) : Own (W.setCells g o vs) base t s (.slice (some ⟨g, 0, none⟩) m c) m (putF F o vs) := by
  obtain ⟨cur, h1, h2, h3, h4, h5, h6⟩ := h.block
  obtain ⟨cur', k1, k2, k3⟩ := setCells_block g vs o W cur h1
  refine Own.mk' k1 (k2.trans h2) h3 h4 h5 fun j hj => ?_
  have hj' : j < cur.size := by rw [h2]; exact Nat.lt_of_lt_of_le hj (Nat.mul_le_mul_right _ h3)
  rw [k3 j hj']
  unfold putF
  by_cases hc : o ≤ j ∧ j < o + vs.length
  · rw [if_pos hc, if_pos hc, List.getD_eq_getElem?_getD]
    rw [List.getElem?_eq_getElem (by omega)]
    rfl
  · rw [if_neg hc, if_neg hc]
    exact h6 j hj
theorem Own.far {W W' : World} {base : Nat} {t : TypeId} {s m : Nat} {v : Value} {F : Nat → Value} (h : Own W base t s v m F) (hk : ∀ k, v.ownBlock = some k → W'.heap[k]? = W.heap[k]?) : Own W' base t s v m F := by
  refine ⟨h.1, ?_⟩
  rcases h.2 with h | ⟨g, cap, cur, rfl, hg, hh, r⟩
  · exact Or.inl h
  · exact Or.inr ⟨g, cap, cur, rfl, hg, (hk g rfl).trans hh, r⟩
theorem Own.there {W : World} {base : Nat} {t : TypeId} {s g m c : Nat} {F : Nat → Value} (h : Own W base t s (.slice (some ⟨g, 0, none⟩) m c) m F) {o n : Nat} (ho : o + n ≤ m * s) : W.there g o n := fun j hj => by
  obtain ⟨cur, h1, h2, h3, h4, h5, h6⟩ := h.block
  refine ⟨by rw [h.cell (by omega)]; rfl, ?_⟩
  simp [World.frozen?, h1]
theorem Own.congr {W : World} {base : Nat} {t : TypeId} {s m : Nat} {v : Value} {F G : Nat → Value} (h : Own W base t s v m F) (he : ∀ j, j < m * s → F j = G j) : Own W base t s v m G := by
  unfold Own
  rw [← cellsF_congr he]
  exact h
theorem Own.form {W : World} {base : Nat} {t : TypeId} {s m : Nat} {v : Value} {F : Nat → Value} (h : Own W base t s v m F) : (v = .slice none 0 0 ∧ m = 0) ∨ ∃ g c, v = .slice (some ⟨g, 0, none⟩) m c ∧ base ≤ g ∧ g < W.heap.size := by
  rcases h.2 with h | ⟨g, cap, cur, rfl, hg, hh, r⟩
  · exact .inl h
  · exact .inr ⟨g, cap, rfl, hg, (Array.getElem?_eq_some_iff.1 hh).1⟩
end Go.Proofs.YtopggemomcoalaaGreat
namespace Go.Proofs.YtopggemomcoalaaGreat
open Go.ChangeShapes Go.WideShapes Go.ChangeAt Go.RowKit
set_option linter.unusedVariables false

/-! ### small things that the texts share -/
theorem cell_below {W W' : World} {a : Addr} (hb : Below W.heap.size W W') (hlt : a.block < W.heap.size) : W'.cell? a = W.cell? a := by
  unfold World.cell?
  rw [hb.block _ hlt]
theorem below_drewNq (B : Nat) (w : World) (n : Nat) : Below B w (w.drewN n) := ⟨rfl, rfl, rfl, Nat.le_refl _, fun _ _ => rfl⟩
theorem meas0 {n L : Nat} (h : n < L) : L - (intOf (.int .i64 ((n : Int) + 1))).toNat < L - (intOf (.int .i64 (n : Int))).toNat := by
  simp only [intOf]
  omega
theorem addr_add (b off i : Nat) : (⟨b, off, none⟩ : Addr).add i = ⟨b, off + i, none⟩ := by
  unfold Addr.add
  by_cases hi : i = 0 <;> simp [hi]
theorem lt_of_block {w : World} {g : Nat} {o : Obj} (h : w.heap[g]? = some o) : g < w.heap.size := (Array.getElem?_eq_some_iff.1 h).1
theorem frz {W : World} {b : Nat} {cur : Array Value} {t : TypeId} (h : W.heap[b]? = some (.cells cur t (0, 0))) : ∀ k, W.frozen? ⟨b, k, none⟩ = false := fun k => by simp [World.frozen?, h]
theorem srow_later {W W' : World} {base : Nat} {t : TypeId} {s m : Nat} {v : Value} {xs : List Value} (h : W.ownsRow base t s v m xs) (hb : Below W.heap.size W W') : W'.ownsRow base t s v m xs := by
  rcases h with ⟨h1, h2 | ⟨g, cap, cur, e, hg, hh, r⟩⟩
  · exact ⟨h1, .inl h2⟩
  · exact ⟨h1, .inr ⟨g, cap, cur, e, hg, (hb.block g (Array.getElem?_eq_some_iff.1 hh).1).trans hh, r⟩⟩
theorem srow_lt {W : World} {base : Nat} {t : TypeId} {s m : Nat} {v : Value} {xs : List Value} (h : W.ownsRow base t s v m xs) : ∀ k, v.ownBlock = some k → base ≤ k ∧ k < W.heap.size := fun k hk => by
  rcases h with ⟨h1, h2 | ⟨g, cap, cur, e, hg, hh, r⟩⟩
  · rw [h2.1] at hk
    cases hk
  · rw [e] at hk
    cases hk
    exact ⟨hg, (Array.getElem?_eq_some_iff.1 hh).1⟩
theorem scells_new (w : World) (cs : List Value) (t : TypeId) : ∀ j u, cs[j]? = some u → (w.alloc (.cells cs.toArray t)).cell? ((⟨w.heap.size, 0, none⟩ : Addr).add j) = some u := by
  intro j u hj
  rw [addr_add0, Nat.zero_add]
  unfold World.cell?
  rw [World.alloc_heap_new]
  simpa using hj
theorem Own.lower {W : World} {base base' : Nat} {t : TypeId} {s m : Nat} {v : Value} {F : Nat → Value} (h : Own W base t s v m F) (hb : base' ≤ base) : Own W base' t s v m F := by
  rcases h with ⟨h1, h2 | ⟨g, c, cur, h3, h4, h5⟩⟩
  · exact ⟨h1, .inl h2⟩
  · exact ⟨h1, .inr ⟨g, c, cur, h3, Nat.le_trans hb h4, h5⟩⟩
theorem Own.later {w w' : World} {base : Nat} {t : TypeId} {s m : Nat} {v : Value} {F : Nat → Value} (ho : Own w base t s v m F) (hb : Below w.heap.size w w') : Own w' base t s v m F := ho.far fun k hk => by
  rcases ho.form with ⟨h7, _⟩ | ⟨g, c, h7, h8, h9⟩
  · rw [h7] at hk; cases hk
  · rw [h7] at hk; cases hk; exact hb.block _ h9
theorem own_slice0 {W : World} {base : Nat} {t : TypeId} {s m : Nat} {v : Value} {F : Nat → Value} (h : Own W base t s v m F) : ∃ op oc, v = .slice op m oc := by
  rcases h.form with ⟨h1, h2⟩ | ⟨g, c, h1, _⟩
  · exact ⟨none, 0, by rw [h1, h2]⟩
  · exact ⟨_, _, h1⟩
theorem Own.lt {w : World} {base : Nat} {t : TypeId} {s m : Nat} {v : Value} {F : Nat → Value} (ho : Own w base t s v m F) : ∀ k, v.ownBlock = some k → base ≤ k ∧ k < w.heap.size := fun k hk => by
  rcases ho.form with ⟨h7, _⟩ | ⟨g, c, h7, h8, h9⟩
  · rw [h7] at hk; cases hk
  · rw [h7] at hk; cases hk; exact ⟨h8, h9⟩
end Go.Proofs.YtopggemomcoalaaGreat
namespace Go.Proofs.YtopggemomcoalaaGreat
open Go.ChangeShapes Go.WideShapes Go.ChangeAt Go.RowKit
set_option linter.unusedVariables false

theorem boxed (w : World) (o : Obj) (wp : World) (h : w.alloc o = wp) : Below w.heap.size w wp ∧ wp.heap[w.heap.size]? = some o ∧ wp.heap.size = w.heap.size + 1 := by
  subst h
  exact ⟨(Below.refl _ w).alloc (Nat.le_refl _) _, World.alloc_heap_new w _, World.size_alloc w _⟩
end Go.Proofs.YtopggemomcoalaaGreat
