import Derived.Test.YtmekcccmnkgodaaGreatDoorChecked
import Derived.WalkKit
import Derived.ProofKit
import Derived.OpenShut
import Derived.Below
import Derived.Laws.CopyOwn
import Derived.Deep.MidRow
import Derived.Maps.AppendAt
import Derived.RangeFuncOwn
import Derived.Lib.AppendZerosOnto
namespace Go.Proofs.YtmekcccmnkgodaaGreatDoor
open Go.ChangeShapes Go.WideShapes Go.ChangeAt Go.RowKit
set_option linter.unusedVariables false

/-! ### rows of the call's own, their cells said by a function -/
theorem addr_add0 (b off i : Nat) : (⟨b, off, none⟩ : Addr).add i = ⟨b, off + i, none⟩ := by
  unfold Addr.add
  by_cases hi : i = 0 <;> simp [hi]
def cellsF (F : Nat → Value) (n : Nat) : List Value := (List.range n).map F
theorem cellsF_len (F : Nat → Value) (n : Nat) : (cellsF F n).length = n := by simp [cellsF]
theorem cellsF_at (F : Nat → Value) {n j : Nat} (h : j < n) : (cellsF F n)[j]? = some (F j) := by
  unfold cellsF
  rw [List.getElem?_map, List.getElem?_range h]
  rfl
theorem cellsF_of (xs : List Value) : xs = cellsF (fun j => xs.getD j undef) xs.length := by
  apply List.ext_getElem?
  intro j
  by_cases h : j < xs.length
  · rw [cellsF_at _ h, List.getD_eq_getElem?_getD, List.getElem?_eq_getElem h]
    rfl
  · rw [List.getElem?_eq_none (by omega), List.getElem?_eq_none (by rw [cellsF_len]; omega)]
theorem cellsF_congr {F G : Nat → Value} {n : Nat} (h : ∀ j, j < n → F j = G j) : cellsF F n = cellsF G n := by
  unfold cellsF
  exact List.map_congr_left fun j hj => h j (List.mem_range.1 hj)
theorem cellsF_append (F G : Nat → Value) (n m : Nat) : cellsF F n ++ cellsF G m = cellsF (fun j => if j < n then F j else G (j - n)) (n + m) := by
  apply List.ext_getElem?
  intro j
  by_cases h : j < n
  · rw [List.getElem?_append_left (by rw [cellsF_len]; exact h), cellsF_at F h, cellsF_at _ (by omega), if_pos h]
  · rw [List.getElem?_append_right (by rw [cellsF_len]; omega), cellsF_len]
    by_cases h2 : j - n < m
    · rw [cellsF_at G h2, cellsF_at _ (by omega), if_neg h]
    · rw [List.getElem?_eq_none (by rw [cellsF_len]; omega), List.getElem?_eq_none (by rw [cellsF_len]; omega)]

/-- the slice v has m elements of s cells, F, in a block of the call's own -/
def Own (W : World) (base : Nat) (t : TypeId) (s : Nat) (v : Value) (m : Nat) (F : Nat → Value) : Prop := W.ownsRow base t s v m (cellsF F (m * s))
theorem Own.cell {W : World} {base : Nat} {t : TypeId} {s g m c : Nat} {F : Nat → Value} (h : Own W base t s (.slice (some ⟨g, 0, none⟩) m c) m F) {j : Nat} (hj : j < m * s) : W.cell? ⟨g, j, none⟩ = some (F j) := by
  have := h.cells (g := g) rfl j _ (cellsF_at F hj)
  rw [addr_add0, Nat.zero_add] at this
  exact this
theorem Own.block {W : World} {base : Nat} {t : TypeId} {s g m c : Nat} {F : Nat → Value} (h : Own W base t s (.slice (some ⟨g, 0, none⟩) m c) m F) : ∃ cur : Array Value, W.heap[g]? = some (.cells cur t (0, 0)) ∧ cur.size = c * s ∧ m ≤ c ∧ c ≤ maxLen ∧ base ≤ g ∧ ∀ j, j < m * s → cur[j]? = some (F j) := by
  rcases h.2 with ⟨h1, _⟩ | ⟨g', cap, cur, hv, hb, hg, hnc, hcm, hcs, htk⟩
  · cases h1
  · injection hv with h1 h2 h3
    injection h1 with h1
    injection h1 with h1 _ _
    subst h1 h3
    refine ⟨cur, hg, hcs, hnc, hcm, hb, fun j hj => ?_⟩
    have := cellsF_at F hj
    rw [← htk, List.getElem?_take, if_pos hj] at this
    simpa using this
theorem Own.mk' {W : World} {base : Nat} {t : TypeId} {s g m c : Nat} {F : Nat → Value} {cur : Array Value} (hg : W.heap[g]? = some (.cells cur t (0, 0))) (hcs : cur.size = c * s) (hnc : m ≤ c) (hcm : c ≤ maxLen) (hb : base ≤ g) (hc : ∀ j, j < m * s → cur[j]? = some (F j)) : Own W base t s (.slice (some ⟨g, 0, none⟩) m c) m F := by
  refine ⟨cellsF_len _ _, .inr ⟨g, c, cur, rfl, hb, hg, hnc, hcm, hcs, ?_⟩⟩
  apply List.ext_getElem?
  intro j
  rw [List.getElem?_take]
  by_cases h : j < m * s
  · rw [if_pos h, cellsF_at F h]
    simpa using hc j h
  · rw [if_neg h, List.getElem?_eq_none (by rw [cellsF_len]; omega)]
theorem setCell_block (w : World) (g o : Nat) (v : Value) {cur : Array Value} {t : TypeId} {fr : Nat × Nat} (h : w.heap[g]? = some (.cells cur t fr)) : (w.setCell ⟨g, o, none⟩ v).heap[g]? = some (.cells (cur.setIfInBounds o v) t fr) := by
  obtain ⟨hlt, hk⟩ := Array.getElem?_eq_some_iff.1 h
  show (w.heap.modify g _)[g]? = _
  rw [Array.getElem?_eq_getElem (by rw [Array.size_modify]; exact hlt), Array.getElem_modify_self, hk]
  rfl
theorem setCells_block (g : Nat) {t : TypeId} {fr : Nat × Nat} : ∀ (vs : List Value) (o : Nat) (w : World) (cur : Array Value), w.heap[g]? = some (.cells cur t fr) → ∃ cur', (w.setCells g o vs).heap[g]? = some (.cells cur' t fr) ∧ cur'.size = cur.size ∧ ∀ j, j < cur.size → cur'[j]? = if o ≤ j ∧ j < o + vs.length then vs[j - o]? else cur[j]?
  | [], o, w, cur, h => ⟨cur, h, rfl, fun j _ => by rw [if_neg (by simp only [List.length_nil]; omega)]⟩
  | v :: r, o, w, cur, h => by
    obtain ⟨cur', h1, h2, h3⟩ := setCells_block g r (o + 1) (w.setCell ⟨g, o, none⟩ v) _ (setCell_block w g o v h)
    refine ⟨cur', h1, by rw [h2]; simp, fun j hj => ?_⟩
    rw [h3 j (by simpa using hj)]
    by_cases h4 : j = o
    · subst h4
      rw [if_neg (by omega), if_pos (by simp)]
      simp [hj]
    · by_cases h5 : o + 1 ≤ j ∧ j < o + 1 + r.length
      · rw [if_pos h5, if_pos (by simp; omega)]
        have : j - o = (j - (o + 1)) + 1 := by omega
        rw [this]
        rfl
      · rw [if_neg h5, if_neg (by simp; omega), Array.getElem?_setIfInBounds_ne (by omega)]
theorem setCells_other (g : Nat) : ∀ (vs : List Value) (o : Nat) (w : World) (k : Nat), k ≠ g → (w.setCells g o vs).heap[k]? = w.heap[k]?
  | [], _, _, _, _ => rfl
  | v :: r, o, w, k, h => (setCells_other g r (o + 1) _ k h).trans (Below.heap_setCell w ⟨g, o, none⟩ v k h)
theorem setCells_size (g : Nat) : ∀ (vs : List Value) (o : Nat) (w : World), (w.setCells g o vs).heap.size = w.heap.size
  | [], _, _ => rfl
  | v :: r, o, w => (setCells_size g r (o + 1) _).trans (by simp [World.setCell])
theorem setCells_below {B g : Nat} {w0 : World} : ∀ (vs : List Value) (o : Nat) (w : World), Below B w0 w → B ≤ g → Below B w0 (w.setCells g o vs)
  | [], _, _, h, _ => h
  | v :: r, o, w, h, hg => setCells_below r (o + 1) _ (h.setCell (p := ⟨g, o, none⟩) hg v) hg
/-- the cells from o on are vs now -/
def putF (F : Nat → Value) (o : Nat) (vs : List Value) : Nat → Value := fun j => if o ≤ j ∧ j < o + vs.length then vs.getD (j - o) undef else F j
theorem Own.put {W : World} {base : Nat} {t : TypeId} {s g m c : Nat} {F : Nat → Value} (h : Own W base t s (.slice (some ⟨g, 0, none⟩) m c) m F) (o : Nat) (vs : List Value) : Own (W.setCells g o vs) base t s (.slice (some ⟨g, 0, none⟩) m c) m (putF F o vs) := by
  obtain ⟨cur, h1, h2, h3, h4, h5, h6⟩ := h.block
  obtain ⟨cur', k1, k2, k3⟩ := setCells_block g vs o W cur h1
  refine Own.mk' k1 (k2.trans h2) h3 h4 h5 fun j hj => ?_
  have hj' : j < cur.size := by rw [h2]; exact Nat.lt_of_lt_of_le hj (Nat.mul_le_mul_right _ h3)
  rw [k3 j hj']
  unfold putF
  by_cases hc : o ≤ j ∧ j < o + vs.length
  · rw [if_pos hc, if_pos hc, List.getD_eq_getElem?_getD]
    rw [List.getElem?_eq_getElem (by omega)]
    rfl
  · rw [if_neg hc, if_neg hc]
    exact h6 j hj
theorem Own.far {W W' : World} {base : Nat} {t : TypeId} {s m : Nat} {v : Value} {F : Nat → Value} (h : Own W base t s v m F) (hk : ∀ k, v.ownBlock = some k → W'.heap[k]? = W.heap[k]?) : Own W' base t s v m F := by
  refine ⟨h.1, ?_⟩
  rcases h.2 with h | ⟨g, cap, cur, rfl, hg, hh, r⟩
  · exact Or.inl h
  · exact Or.inr ⟨g, cap, cur, rfl, hg, (hk g rfl).trans hh, r⟩
theorem Own.there {W : World} {base : Nat} {t : TypeId} {s g m c : Nat} {F : Nat → Value} (h : Own W base t s (.slice (some ⟨g, 0, none⟩) m c) m F) {o n : Nat} (ho : o + n ≤ m * s) : W.there g o n := fun j hj => by
  obtain ⟨cur, h1, h2, h3, h4, h5, h6⟩ := h.block
  refine ⟨by rw [h.cell (by omega)]; rfl, ?_⟩
  simp [World.frozen?, h1]
theorem Own.congr {W : World} {base : Nat} {t : TypeId} {s m : Nat} {v : Value} {F G : Nat → Value} (h : Own W base t s v m F) (he : ∀ j, j < m * s → F j = G j) : Own W base t s v m G := by
  unfold Own
  rw [← cellsF_congr he]
  exact h
theorem Own.form {W : World} {base : Nat} {t : TypeId} {s m : Nat} {v : Value} {F : Nat → Value} (h : Own W base t s v m F) : (v = .slice none 0 0 ∧ m = 0) ∨ ∃ g c, v = .slice (some ⟨g, 0, none⟩) m c ∧ base ≤ g ∧ g < W.heap.size := by
  rcases h.2 with h | ⟨g, cap, cur, rfl, hg, hh, r⟩
  · exact .inl h
  · exact .inr ⟨g, cap, rfl, hg, (Array.getElem?_eq_some_iff.1 hh).1⟩
end Go.Proofs.YtmekcccmnkgodaaGreatDoor
namespace Go.Proofs.YtmekcccmnkgodaaGreatDoor
open Go.ChangeShapes Go.WideShapes Go.ChangeAt Go.RowKit
set_option linter.unusedVariables false

theorem run_copy_wide {P : Program} (w : World) (dT sT ty elem : TypeId) (size g o dLen dCap : Nat) (a : Addr) (sLen sCap : Nat) (cur : Array Value) (t : TypeId) (cs : List Value)
    (hu : P.underlying dT = some (.slice elem)) (hs : (P.info? elem).map (·.size) = some size)
    (hg : w.heap[g]? = some (.cells cur t (0, 0))) (hn : cs.length = Nat.min sLen dLen * size)
    (hsrc : ∀ j v, cs[j]? = some v → w.cell? (a.add j) = some v) (hfit : o + cs.length ≤ cur.size) (h1 : ∀ v ∈ cs, v.oneCell' = true) :
    (Builtin.copy_ #[dT, sT] ty #[.slice (some ⟨g, o, none⟩) dLen dCap, .slice (some a) sLen sCap]).run P w =
      .ok (goInt (Nat.min sLen dLen)) (w.setRow g (cur.toList.take o ++ cs ++ cur.toList.drop (o + cs.length)).toArray) := by
  have hl := run_firstCells_some (P := P) w size (Nat.min sLen dLen) a sLen sCap cs hn hsrc
  have hst := run_storeCells_at P g o t cs 0 cur w hg (by simpa using hfit) h1
  cases hq : P.info? elem with
  | none => simp [hq] at hs
  | some i =>
    have hi : i.size = size := by simpa [hq] using hs
    simp [Builtin.copy_, run_underlying hu, Builtin.lenOf, sizeOf, typeInfo, hq, hi, hl, hst]
theorem run_copy_zero {P : Program} (w : World) (dT sT ty elem : TypeId) (d a : Option Addr) (dLen dCap sCap : Nat) (hu : P.underlying dT = some (.slice elem)) (hs : (P.info? elem).isSome) :
    (Builtin.copy_ #[dT, sT] ty #[.slice d dLen dCap, .slice a 0 sCap]).run P w = .ok (goInt 0) w := by
  cases hq : P.info? elem with
  | none => simp [hq] at hs
  | some i =>
    have hl : ∀ (x : Addr), (loadCells x 0).run P w = .ok #[] w := fun x => by simpa using run_loadCells_list (P := P) w x [] (by simp)
    have h0 : Nat.min 0 dLen = 0 := Nat.zero_min _
    cases d <;> cases a <;> simp [Builtin.copy_, run_underlying hu, Builtin.lenOf, Builtin.firstCells, sizeOf, typeInfo, hq, h0, storeCells, hl]
/-- n elements of s cells go over to the head of a row of the call's own -/
theorem wpList_copy_head {P : Program} {w : World} {ops : Array Oper} {rest : List Oper} {o : Oper} {a : Act} {Q : Exit → Act → World → Prop} (hgd : o.guard = none) (d s : Operand) (dT sT : TypeId)
    (ho : o.op = .call { callee := .builtin .copy, args := #[d, s], argTypes := #[dT, sT] }) (elem : TypeId) (size : Nat) (hu : P.underlying dT = some (.slice elem)) (hsz : (P.info? elem).map (·.size) = some size)
    (base g dLen dCap n sCap : Nat) (sp : Option Addr) (hd : a.eval d = .slice (some ⟨g, 0, none⟩) dLen dCap) (hs : a.eval s = .slice sp n sCap) (hle : n ≤ dLen)
    (F G : Nat → Value) (hown : Own w base elem size (.slice (some ⟨g, 0, none⟩) dLen dCap) dLen F) (h1 : ∀ j, j < n * size → (G j).oneCell' = true)
    (hsrc : n = 0 ∨ ∃ ad, sp = some ad ∧ ∀ j, j < n * size → w.cell? (ad.add j) = some (G j)) (B : Nat) (w0 : World) (hb : Below B w0 w) (hBg : B ≤ g)
    (h : ∀ w', Hid (Own w' base elem size (.slice (some ⟨g, 0, none⟩) dLen dCap) dLen (fun j => if j < n * size then G j else F j)) → Below B w0 w' → wpList P ops Q rest (a.put o.dst (goInt n)) w') :
    wpList P ops Q (o :: rest) a w := by
  obtain ⟨cur, hg, hcs, hnc, hcm, hbg, hF⟩ := hown.block
  have hmin : Nat.min n dLen = n := Nat.min_eq_left hle
  rcases Nat.eq_zero_or_pos n with h0 | hp
  · subst h0
    have hrun := run_copy_zero (P := P) w dT sT o.type elem (some ⟨g, 0, none⟩) sp dLen dCap sCap hu (by cases hq : P.info? elem with | none => simp [hq] at hsz | some i => rfl)
    refine wpList_plain hgd fun K hK => ?_
    unfold Oper.wp
    simp [execOp, ho, resolve, invoke, builtin, hd, hs, hrun, Result.andThen]
    refine hK _ _ (h w ?_ hb)
    exact hown.congr fun j _ => by rw [if_neg (by omega)]
  · obtain ⟨ad, rfl, hc⟩ : ∃ ad, sp = some ad ∧ ∀ j, j < n * size → w.cell? (ad.add j) = some (G j) := by
      rcases hsrc with h | h
      · omega
      · exact h
    have hle2 : n * size ≤ cur.size := by rw [hcs]; exact Nat.mul_le_mul_right _ (Nat.le_trans hle hnc)
    have hrun := run_copy_wide (P := P) w dT sT o.type elem size g 0 dLen dCap ad n sCap cur elem (cellsF G (n * size)) hu hsz hg (by rw [cellsF_len, hmin])
      (fun j v hj => by
        have hlt : j < n * size := by
          have := (List.getElem?_eq_some_iff.1 hj).1
          rw [cellsF_len] at this
          exact this
        rw [cellsF_at _ hlt] at hj
        rw [hc j hlt]
        exact hj) (by rw [cellsF_len]; omega)
      (fun v hv => by
        unfold cellsF at hv
        obtain ⟨j, hj, rfl⟩ := List.mem_map.1 hv
        exact h1 j (List.mem_range.1 hj))
    rw [hmin] at hrun
    refine wpList_plain hgd fun K hK => ?_
    unfold Oper.wp
    simp [execOp, ho, resolve, invoke, builtin, hd, hs, hrun, Result.andThen]
    refine hK _ _ (h _ ?_ (below_setRow hb hBg _))
    refine Own.mk' (setRow_heap w g cur _ elem _ hg) ?_ hnc hcm hbg fun j hj => ?_
    · simp [cellsF_len]
      omega
    · have hj' : j < cur.size := by rw [hcs]; exact Nat.lt_of_lt_of_le hj (Nat.mul_le_mul_right _ hnc)
      by_cases hjn : j < n * size
      · rw [if_pos hjn]
        have : (cellsF G (n * size) ++ cur.toList.drop (n * size))[j]? = some (G j) := by
          rw [List.getElem?_append_left (by rw [cellsF_len]; exact hjn), cellsF_at _ hjn]
        simpa [cellsF_len] using this
      · rw [if_neg hjn]
        have : (cellsF G (n * size) ++ cur.toList.drop (n * size))[j]? = some (F j) := by
          rw [List.getElem?_append_right (by rw [cellsF_len]; omega), cellsF_len, List.getElem?_drop]
          rw [show n * size + (j - n * size) = j by omega]
          simpa using hF j hj
        simpa [cellsF_len] using this
end Go.Proofs.YtmekcccmnkgodaaGreatDoor
namespace Go.Proofs.YtmekcccmnkgodaaGreatDoor
open Go.ChangeShapes Go.WideShapes Go.ChangeAt Go.RowKit
set_option linter.unusedVariables false

theorem run_append_room_zeros {P : Program} (w : World) (t tn ty e : TypeId) (i : TypeInfo) (z : Value) (kq kn : IntKind) (ht : P.underlying t = some (.slice e)) (htn : P.underlying tn = some (.int kn)) (hi : P.info? e = some i) (hz : i.zero = some z)
    (g sLen sCap : Nat) (cur : Array Value) (hg : w.heap[g]? = some (.cells cur e (0, 0))) (k : Nat) (h0 : 0 < k) (hs : 0 < i.size) (h63 : (k : Int) ≤ 9223372036854775807) (h48 : k * i.bytes ≤ 281474976710656)
    (h1 : ∀ u ∈ (Builtin.zeroCells z.cells k).toList, u.oneCell' = true) (hroom : sLen + k ≤ sCap) (hfit : sLen * i.size + (Builtin.zeroCells z.cells k).toList.length ≤ cur.size) :
    (Builtin.append_ #[t, tn] ty #[.slice (some ⟨g, 0, none⟩) sLen sCap, .int kq k]).run P w =
      .ok (.slice (some ⟨g, 0, none⟩) (sLen + k) sCap) (w.setRow g (cur.toList.take (sLen * i.size) ++ (Builtin.zeroCells z.cells k).toList ++ cur.toList.drop (sLen * i.size + (Builtin.zeroCells z.cells k).toList.length)).toArray) := by
  have hst := run_storeCells_at P g (sLen * i.size) e (Builtin.zeroCells z.cells k).toList 0 cur w hg (by simpa using hfit) h1
  simp only [Nat.add_zero] at hst
  have hk : k ≠ 0 := by omega
  have hw : IntKind.i64.wrap (k : Int) = k := by rw [IntKind.wrap_i64]; omega
  have h48i : ¬ (281474976710656 < (k : Int) * (i.bytes : Int)) := by
    rw [← Int.natCast_mul]
    omega
  have hneg : ¬ ((k : Int) < 0) := by omega
  have hns : ¬ (k * i.size = 0) := Nat.mul_ne_zero hk (by omega)
  simp [Builtin.append_, run_underlying ht, run_underlying htn, sizeOf, typeInfo, zeroValue, hi, hz, asInt, asIntOf, hw, hroom, hneg, hns, h48i, Addr.add_lit, hst]

theorem run_append_own_zeros {P : Program} (w : World) (base : Nat) (t tn ty e : TypeId) (i : TypeInfo) (z : Value) (kq kn : IntKind) (size bytes : Nat) (ht : P.underlying t = some (.slice e)) (htn : P.underlying tn = some (.int kn)) (hi : P.info? e = some i) (hz : i.zero = some z)
    (hsize : i.size = size) (hby : i.bytes = bytes) (hzs : z.cells.size = size) (hsz : 0 < size) (v : Value) (n : Nat) (xs : List Value) (hown : w.ownsRow base e size v n xs) (k : Nat) (h0 : 0 < k)
    (h1 : ∀ u ∈ (Builtin.zeroCells z.cells k).toList, u.oneCell' = true) (h63 : n + k ≤ maxLen) (hbytes : (n + k) * bytes ≤ 140737488355328) (hbase : base ≤ w.heap.size) :
    ∃ v' w', (Builtin.append_ #[t, tn] ty #[v, .int kq k]).run P w = .ok v' w' ∧ w'.ownsRow base e size v' (n + k) (xs ++ (Builtin.zeroCells z.cells k).toList) ∧ w.grownBy w' v.ownBlock ∧ (v'.ownBlock = v.ownBlock ∨ v'.ownBlock = some w.heap.size) ∧ w'.ownsRow base e size v n xs := by
  subst hsize
  subst hby
  have hl : (Builtin.zeroCells z.cells k).toList.length = k * i.size := by rw [Array.length_toList, size_zeroCells, hzs]
  have hsmall : n + k ≤ 9223372036854775807 := by simp only [maxLen] at h63; omega
  have hb1 : k * i.bytes ≤ 281474976710656 := by have := Nat.mul_le_mul_right i.bytes (Nat.le_add_left k n); omega
  have hlen : (xs ++ (Builtin.zeroCells z.cells k).toList).length = (n + k) * i.size := by rw [List.length_append, hown.1, hl, Nat.add_mul]
  have grown : ∀ (old : Nat), old < n + k → ∀ (row : Option Nat),
      (w.drew.alloc (.cells (xs.toArray ++ Builtin.zeroCells z.cells k ++ Builtin.zeroCells z.cells (grownCap w (n + k) old e - (n + k))) e)).ownsRow base e i.size
        (.slice (some ⟨w.heap.size, 0, none⟩) (n + k) (grownCap w (n + k) old e)) (n + k) (xs ++ (Builtin.zeroCells z.cells k).toList) ∧
      w.grownBy (w.drew.alloc (.cells (xs.toArray ++ Builtin.zeroCells z.cells k ++ Builtin.zeroCells z.cells (grownCap w (n + k) old e - (n + k))) e)) row := by
    intro old ho row
    have hge := grownCap_ge w (n + k) old e
    have hcm : grownCap w (n + k) old e ≤ maxLen := grownCap_le_maxLen w (n + k) old e h63
    refine ⟨⟨hlen, .inr ⟨w.heap.size, _, _, rfl, hbase, heap_alloc_new w.drew _, hge, hcm, ?_, ?_⟩⟩, ⟨rfl, rfl, rfl, by simp, fun j hj _ => Below.heap_alloc w.drew _ j hj⟩⟩
    · simp only [Array.size_append, List.size_toArray, size_zeroCells, hzs, hown.1, ← Nat.add_mul]
      congr 1
      omega
    · simp only [Array.toList_append, List.append_assoc]
      rw [← List.append_assoc, ← hlen]
      exact List.take_left
  rcases hown.2 with ⟨rfl, rfl⟩ | ⟨g, cap, cur, rfl, hbg, hg, hnc, hcm, hcs, htake⟩
  · have hx : xs = [] := List.eq_nil_of_length_eq_zero (by simpa using hown.1)
    subst hx
    have hr := Lib.run_append_nil_zeros (P := P) w t tn ty e i z kq kn ht htn hi hz k h0 hsz (by omega) hb1
    have hgr := grown 0 (by omega) (Value.ownBlock (.slice none 0 0))
    simp only [Nat.zero_add, List.nil_append, Array.empty_append] at hgr ⊢
    exact ⟨_, _, hr, hgr.1, hgr.2, Or.inr rfl, World.ownsRow_nil _ _ _ _⟩
  · by_cases hroom : n + k ≤ cap
    · have hfit : n * i.size + (Builtin.zeroCells z.cells k).toList.length ≤ cur.size := by rw [hl, hcs, ← Nat.add_mul]; exact Nat.mul_le_mul_right _ hroom
      have hr := run_append_room_zeros (P := P) w t tn ty e i z kq kn ht htn hi hz g n cap cur hg k h0 hsz (by omega) hb1 h1 hroom hfit
      refine ⟨_, _, hr, ⟨hlen, .inr ⟨g, cap, _, rfl, hbg, setRow_heap w g cur _ e _ hg, hroom, hcm, ?_, ?_⟩⟩, ⟨rfl, rfl, rfl, by simp, fun k _ hk => setRow_other w g k _ (fun e => hk (by simp [Value.ownBlock, e]))⟩, Or.inl rfl, ⟨hown.1, .inr ⟨g, cap, _, rfl, hbg, setRow_heap w g cur _ e _ hg, hnc, hcm, ?_, ?_⟩⟩⟩
      · simp only [List.size_toArray, List.length_append, List.length_take, List.length_drop, Array.length_toList]
        rw [Array.length_toList] at hfit
        omega
      · rw [htake, ← hlen]
        exact List.take_left
      · simp only [List.size_toArray, List.length_append, List.length_take, List.length_drop, Array.length_toList]
        rw [Array.length_toList] at hfit
        omega
      · rw [htake, List.append_assoc, ← hown.1]
        exact List.take_left
    · have holds : ∀ j u, xs[j]? = some u → w.drew.cell? ((⟨g, 0, none⟩ : Addr).add j) = some u := hown.cells (g := g) rfl
      have hold := run_firstCells_some (P := P) w.drew i.size n ⟨g, 0, none⟩ n cap xs hown.1 holds
      have hr := Lib.run_append_grow_zeros (P := P) w t tn ty e i z kq kn ht htn hi hz (some ⟨g, 0, none⟩) n cap xs hold k h0 hsz (by omega) (by omega) hb1 (growslice_fits (by omega) hbytes)
      have hgr := grown cap (by omega) (Value.ownBlock (.slice (some ⟨g, 0, none⟩) n cap))
      exact ⟨_, _, hr, hgr.1, hgr.2, Or.inr rfl, ⟨hown.1, .inr ⟨g, cap, cur, rfl, hbg, (Below.heap_alloc w.drew _ g (Array.getElem?_eq_some_iff.1 hg).1).trans hg, hnc, hcm, hcs, htake⟩⟩⟩
end Go.Proofs.YtmekcccmnkgodaaGreatDoor
namespace Go.Proofs.YtmekcccmnkgodaaGreatDoor
open Go.ChangeShapes Go.WideShapes Go.ChangeAt Go.RowKit
set_option linter.unusedVariables false

/-- n slices of the call's own, apart from one another -/
structure Lists (W : World) (base : Nat) (t : TypeId) (s n : Nat) (V : Nat → Value) (M : Nat → Nat) (F : Nat → Nat → Value) : Prop where
  own : ∀ k, k < n → Own W base t s (V k) (M k) (F k)
  apart : ∀ j k, j < n → k < n → j ≠ k → (V j).ownBlock = none ∨ (V j).ownBlock ≠ (V k).ownBlock
theorem Lists.put {W : World} {base : Nat} {t : TypeId} {s n : Nat} {V : Nat → Value} {M : Nat → Nat} {F : Nat → Nat → Value} (h : Lists W base t s n V M F) {k g c : Nat} (hk : k < n) (hv : V k = .slice (some ⟨g, 0, none⟩) (M k) c) (o : Nat) (vs : List Value) : Lists (W.setCells g o vs) base t s n V M (fun j => if j = k then putF (F k) o vs else F j) := by
  refine ⟨fun j hj => ?_, h.apart⟩
  by_cases e : j = k
  · subst e
    rw [if_pos rfl, hv]
    have := h.own j hj
    rw [hv] at this
    exact this.put o vs
  · rw [if_neg e]
    refine (h.own j hj).far fun b hb => setCells_other g vs o W b ?_
    rintro rfl
    rcases h.apart j k hj hk e with h1 | h1
    · rw [h1] at hb
      cases hb
    · exact h1 (by rw [hb, hv]; rfl)
theorem Own.kind {W : World} {base : Nat} {t : TypeId} {s m : Nat} {v : Value} {F : Nat → Value} (h : Own W base t s v m F) {g : Nat} (hg : v.ownBlock = some g) : base ≤ g ∧ g < W.heap.size ∧ ∃ cur, W.heap[g]? = some (.cells cur t (0, 0)) := by
  rcases h.2 with ⟨rfl, _⟩ | ⟨g', cap, cur, rfl, hb, hh, r⟩
  · cases hg
  · cases hg
    exact ⟨hb, (Array.getElem?_eq_some_iff.1 hh).1, cur, hh⟩
theorem Own.other {W : World} {base : Nat} {t u : TypeId} {s m : Nat} {v : Value} {F : Nat → Value} (h : Own W base t s v m F) {g : Nat} {cur : Array Value} {fr : Nat × Nat} (hg : W.heap[g]? = some (.cells cur u fr)) (hne : t ≠ u) : v.ownBlock ≠ some g := by
  intro e
  obtain ⟨_, _, c, hc⟩ := h.kind e
  rw [hg] at hc
  injection hc with hc
  injection hc with _ h2 _
  exact hne h2.symm
theorem Own.grown {W W' : World} {base : Nat} {t : TypeId} {s m : Nat} {v : Value} {F : Nat → Value} (h : Own W base t s v m F) {row : Option Nat} (hg : W.grownBy W' row) (hne : ∀ g, v.ownBlock = some g → row ≠ some g) : Own W' base t s v m F :=
  h.far fun k hk => hg.block k (h.kind hk).2.1 (fun e => hne k hk e.symm)
theorem Own.more {W W' : World} {base : Nat} {t : TypeId} {s m : Nat} {v : Value} {F : Nat → Value} (h : Own W base t s v m F) (hb : Below W.heap.size W W') : Own W' base t s v m F :=
  h.far fun k hk => hb.block k (h.kind hk).2.1
def ext {α : Type} (f : Nat → α) (k : Nat) (a : α) : Nat → α := fun j => if j = k then a else f j
theorem ext_at {α : Type} (f : Nat → α) (k : Nat) (a : α) : ext f k a k = a := by unfold ext; rw [if_pos rfl]
theorem ext_ne {α : Type} (f : Nat → α) (k : Nat) (a : α) {j : Nat} (h : j ≠ k) : ext f k a j = f j := by unfold ext; rw [if_neg h]

/-- n lists, written full; k of them grown; mm of those kept in a row -/
structure P2 (w wr : World) (base Lb : Nat) (t tS : TypeId) (s n k mm : Nat) (V : Nat → Value) (M : Nat → Nat) (mark : Nat → Nat → Value) (V' : Nat → Value) (M' : Nat → Nat) (F' : Nat → Nat → Value) (mv : Value) : Prop where
  ls : Lists wr base t s n V M mark
  ls' : Lists wr base t s k V' M' F'
  pos : ∀ j, j < k → (V' j).ownBlock ≠ none
  cross : ∀ j i, j < k → i < n → (V' j).ownBlock = (V i).ownBlock → i = j
  more : Own wr base tS 1 mv mm V'
  notL : mv.ownBlock ≠ some Lb
  bel : Below base w wr
  keep : wr.heap[Lb]? = w.heap[Lb]?
  lbt : ∃ cur fr, w.heap[Lb]? = some (.cells cur tS fr)
theorem P2.grow {w wr w1 : World} {base Lb : Nat} {t tS : TypeId} {s n k mm : Nat} {V : Nat → Value} {M : Nat → Nat} {mark : Nat → Nat → Value} {V' : Nat → Value} {M' : Nat → Nat} {F' : Nat → Nat → Value} {mv : Value} (h : P2 w wr base Lb t tS s n k mm V M mark V' M' F' mv) (hne : t ≠ tS) (hk : k < n) (hmm : mm ≤ k) (hbase : base ≤ wr.heap.size)
    {v' : Value} {m' : Nat} {F1 : Nat → Value} (hown : Own w1 base t s v' m' F1) (hold : Own w1 base t s (V k) (M k) (mark k)) (hg : wr.grownBy w1 (V k).ownBlock) (hat : v'.ownBlock = (V k).ownBlock ∨ v'.ownBlock = some wr.heap.size) (hp : v'.ownBlock ≠ none) :
    P2 w w1 base Lb t tS s n (k + 1) mm V M mark (ext V' k v') (ext M' k m') (ext F' k F1) mv := by
  have hfar : ∀ j, j < k → ∀ g, (V' j).ownBlock = some g → (V k).ownBlock ≠ some g := fun j hj g e1 e2 => by
    have := h.cross j k hj hk (e1.trans e2.symm)
    omega
  have hnew : ∀ j, j < k → (V' j).ownBlock ≠ v'.ownBlock := fun j hj e => by
    rcases hat with h1 | h1
    · have := h.cross j k hj hk (e.trans h1)
      omega
    · have := ((h.ls'.own j hj).kind (e.trans h1)).2.1
      omega
  refine ⟨⟨fun j hj => ?_, h.ls.apart⟩, ⟨fun j hj => ?_, fun i j hi hj hij => ?_⟩, fun j hj => ?_, fun j i hj hi e => ?_, ?_, h.notL, ?_, ?_, h.lbt⟩
  · by_cases e : j = k
    · subst e
      exact hold
    · refine (h.ls.own j hj).grown hg fun g e1 e2 => ?_
      rcases h.ls.apart j k hj hk e with h1 | h1
      · rw [h1] at e1
        cases e1
      · exact h1 (e1.trans e2.symm)
  · by_cases e : j = k
    · subst e
      rw [ext_at, ext_at, ext_at]
      exact hown
    · rw [ext_ne _ _ _ e, ext_ne _ _ _ e, ext_ne _ _ _ e]
      exact (h.ls'.own j (by omega)).grown hg (hfar j (by omega))
  · right
    by_cases e1 : i = k
    · subst e1
      rw [ext_at, ext_ne _ _ _ (by omega)]
      exact fun e => hnew j (by omega) e.symm
    · by_cases e2 : j = k
      · subst e2
        rw [ext_at, ext_ne _ _ _ e1]
        exact hnew i (by omega)
      · rw [ext_ne _ _ _ e1, ext_ne _ _ _ e2]
        rcases h.ls'.apart i j (by omega) (by omega) hij with h1 | h1
        · exact absurd h1 (h.pos i (by omega))
        · exact h1
  · by_cases e : j = k
    · subst e
      rw [ext_at]
      exact hp
    · rw [ext_ne _ _ _ e]
      exact h.pos j (by omega)
  · by_cases ej : j = k
    · subst ej
      rw [ext_at] at e
      by_cases ei : i = j
      · exact ei
      · exfalso
        rcases hat with h1 | h1
        · rcases h.ls.apart i j hi hk ei with h2 | h2
          · exact hp (e.trans h2)
          · exact h2 (e.symm.trans h1)
        · have := ((h.ls.own i hi).kind (e.symm.trans h1)).2.1
          omega
    · rw [ext_ne _ _ _ ej] at e
      exact h.cross j i (by omega) hi e
  · refine (h.more.grown hg fun g e1 e2 => ?_).congr fun j hj => (ext_ne _ _ _ (by omega)).symm
    obtain ⟨_, _, c, hc⟩ := h.more.kind e1
    exact (h.ls.own k hk).other hc hne e2
  · exact h.bel.grown hg hbase fun r e => ((h.ls.own k hk).kind e).1
  · obtain ⟨cur, fr, hc⟩ := h.lbt
    have hc' := h.keep.trans hc
    rw [hg.block Lb (Array.getElem?_eq_some_iff.1 hc').1 (fun e => (h.ls.own k hk).other hc' hne e.symm)]
    exact h.keep
theorem P2.put {w wr : World} {base Lb : Nat} {t tS : TypeId} {s n k mm : Nat} {V : Nat → Value} {M : Nat → Nat} {mark : Nat → Nat → Value} {V' : Nat → Value} {M' : Nat → Nat} {F' : Nat → Nat → Value} {mv : Value} (h : P2 w wr base Lb t tS s n (k + 1) mm V M mark V' M' F' mv) (hne : t ≠ tS) {g c : Nat} (hv : V' k = .slice (some ⟨g, 0, none⟩) (M' k) c) {o : Nat} (ho : M k * s ≤ o) (vs : List Value) :
    P2 w (wr.setCells g o vs) base Lb t tS s n (k + 1) mm V M mark V' M' (fun j => if j = k then putF (F' k) o vs else F' j) mv := by
  have hb : (V' k).ownBlock = some g := by rw [hv]; rfl
  have hkd := (h.ls'.own k (by omega)).kind hb
  refine ⟨⟨fun j hj => ?_, h.ls.apart⟩, h.ls'.put (by omega) hv o vs, h.pos, h.cross, ?_, h.notL, setCells_below _ _ _ h.bel hkd.1, ?_, h.lbt⟩
  · by_cases e : (V j).ownBlock = some g
    · have hj' : j = k := h.cross k j (by omega) hj (hb.trans e.symm)
      subst hj'
      rcases (h.ls.own j hj).form with ⟨h1, _⟩ | ⟨g', c', h1, _⟩
      · rw [h1] at e
        cases e
      · have : g' = g := by rw [h1] at e; simpa [Value.ownBlock] using e
        subst this
        have := h.ls.own j hj
        rw [h1] at this ⊢
        refine (this.put o vs).congr fun x hx => ?_
        unfold putF
        rw [if_neg (by omega)]
    · exact (h.ls.own j hj).far fun b hb' => setCells_other g vs o wr b (fun e' => e (e' ▸ hb'))
  · refine h.more.far fun b hb' => setCells_other g vs o wr b ?_
    rintro rfl
    obtain ⟨_, _, c1, hc1⟩ := hkd
    exact h.more.other hc1 (fun e => hne e.symm) hb'
  · rw [setCells_other g vs o wr Lb ?_]
    · exact h.keep
    · rintro rfl
      obtain ⟨cur, fr, hc⟩ := h.lbt
      exact (h.ls'.own k (by omega)).other (h.keep.trans hc) hne hb
theorem P2.push {w wr w1 w2 : World} {base Lb : Nat} {t tS : TypeId} {s n k mm : Nat} {V : Nat → Value} {M : Nat → Nat} {mark : Nat → Nat → Value} {V' : Nat → Value} {M' : Nat → Nat} {F' : Nat → Nat → Value} {mv mv' : Value} (h : P2 w wr base Lb t tS s n k mm V M mark V' M' F' mv) (hne : t ≠ tS) (hb : Below wr.heap.size wr w1) (hbase : base ≤ wr.heap.size) (hLb : Lb < wr.heap.size)
    (hown : Own w2 base tS 1 mv' (mm + 1) V') (hg : w1.grownBy w2 mv.ownBlock) (hat : mv'.ownBlock = mv.ownBlock ∨ mv'.ownBlock = some w1.heap.size) : P2 w w2 base Lb t tS s n k (mm + 1) V M mark V' M' F' mv' := by
  have hm1 := h.more.more hb
  have ho : ∀ {v : Value} {m : Nat} {F : Nat → Value}, Own wr base t s v m F → Own w2 base t s v m F := fun {v m F} hv => by
    refine (hv.more hb).grown hg fun g e1 e2 => ?_
    obtain ⟨_, _, c, hc⟩ := (hv.more hb).kind e1
    exact hm1.other hc (fun e => hne e.symm) e2
  refine ⟨⟨fun j hj => ho (h.ls.own j hj), h.ls.apart⟩, ⟨fun j hj => ho (h.ls'.own j hj), h.ls'.apart⟩, h.pos, h.cross, hown, ?_, ?_, ?_, h.lbt⟩
  · rcases hat with e | e
    · rw [e]
      exact h.notL
    · rw [e]
      intro e2
      injection e2 with e2
      have := hb.size
      omega
  · exact (h.bel.trans (hb.mono hbase)).grown hg (Nat.le_trans hbase hb.size) fun r e => (hm1.kind e).1
  · rw [hg.block Lb (Nat.lt_of_lt_of_le hLb hb.size) (fun e => h.notL e.symm), hb.block Lb hLb]
    exact h.keep
end Go.Proofs.YtmekcccmnkgodaaGreatDoor
