import Derived.Test.YtckhliilndfljaaDoorA1
import Derived.Laws.CopyOwn
namespace Go.Proofs.YtckhliilndfljaaDoor
open Go.ChangeShapes Go.WideShapes Go.ChangeAt Go.RowKit
set_option linter.unusedVariables false

theorem run_copy_wide {P : Program} (w : World) (dT sT ty elem : TypeId) (size g o dLen dCap : Nat) (a : Addr) (sLen sCap : Nat) (cur : Array Value) (t : TypeId) (cs : List Value)
    (hu : P.underlying dT = some (.slice elem)) (hs : (P.info? elem).map (·.size) = some size)
    (hg : w.heap[g]? = some (.cells cur t (0, 0))) (hn : cs.length = Nat.min sLen dLen * size)
    (hsrc : ∀ j v, cs[j]? = some v → w.cell? (a.add j) = some v) (hfit : o + cs.length ≤ cur.size) (h1 : ∀ v ∈ cs, v.oneCell' = true) :
    (Builtin.copy_ #[dT, sT] ty #[.slice (some ⟨g, o, none⟩) dLen dCap, .slice (some a) sLen sCap]).run P w =
      .ok (goInt (Nat.min sLen dLen)) (w.setRow g (cur.toList.take o ++ cs ++ cur.toList.drop (o + cs.length)).toArray) := by
  have hl := run_firstCells_some (P := P) w size (Nat.min sLen dLen) a sLen sCap cs hn hsrc
  have hst := run_storeCells_at P g o t cs 0 cur w hg (by simpa using hfit) h1
  cases hq : P.info? elem with
  | none => simp [hq] at hs
  | some i =>
    have hi : i.size = size := by simpa [hq] using hs
    simp [Builtin.copy_, run_underlying hu, Builtin.lenOf, sizeOf, typeInfo, hq, hi, hl, hst]
theorem run_copy_zero {P : Program} (w : World) (dT sT ty elem : TypeId) (d a : Option Addr) (dLen dCap sCap : Nat) (hu : P.underlying dT = some (.slice elem)) (hs : (P.info? elem).isSome) :
    (Builtin.copy_ #[dT, sT] ty #[.slice d dLen dCap, .slice a 0 sCap]).run P w = .ok (goInt 0) w := by
  cases hq : P.info? elem with
  | none => simp [hq] at hs
  | some i =>
    have hl : ∀ (x : Addr), (loadCells x 0).run P w = .ok #[] w := fun x => by simpa using run_loadCells_list (P := P) w x [] (by simp)
    have h0 : Nat.min 0 dLen = 0 := Nat.zero_min _
    cases d <;> cases a <;> simp [Builtin.copy_, run_underlying hu, Builtin.lenOf, Builtin.firstCells, sizeOf, typeInfo, hq, h0, storeCells, hl]
/-- n elements of s cells go over to the head of a row of the call's own -/
theorem wpList_copy_head {P : Program} {w : World} {ops : Array Oper} {rest : List Oper} {o : Oper} {a : Act} {Q : Exit → Act → World → Prop} (hgd : o.guard = none) (d s : Operand) (dT sT : TypeId)
    (ho : o.op = .call { callee := .builtin .copy, args := #[d, s], argTypes := #[dT, sT] }) (elem : TypeId) (size : Nat) (hu : P.underlying dT = some (.slice elem)) (hsz : (P.info? elem).map (·.size) = some size)
    (base g dLen dCap n sCap : Nat) (sp : Option Addr) (hd : a.eval d = .slice (some ⟨g, 0, none⟩) dLen dCap) (hs : a.eval s = .slice sp n sCap) (hle : n ≤ dLen)
    (F G : Nat → Value) (hown : Own w base elem size (.slice (some ⟨g, 0, none⟩) dLen dCap) dLen F) (h1 : ∀ j, j < n * size → (G j).oneCell' = true)
    (hsrc : n = 0 ∨ ∃ ad, sp = some ad ∧ ∀ j, j < n * size → w.cell? (ad.add j) = some (G j)) (B : Nat) (w0 : World) (hb : Below B w0 w) (hBg : B ≤ g)
    (h : ∀ w', Hid (Own w' base elem size (.slice (some ⟨g, 0, none⟩) dLen dCap) dLen (fun j => if j < n * size then G j else F j)) → Below B w0 w' → wpList P ops Q rest (a.put o.dst (goInt n)) w') :
    wpList P ops Q (o :: rest) a w := by
  obtain ⟨cur, hg, hcs, hnc, hcm, hbg, hF⟩ := hown.block
  have hmin : Nat.min n dLen = n := Nat.min_eq_left hle
  rcases Nat.eq_zero_or_pos n with h0 | hp
  · subst h0
    have hrun := run_copy_zero (P := P) w dT sT o.type elem (some ⟨g, 0, none⟩) sp dLen dCap sCap hu (by cases hq : P.info? elem with | none => simp [hq] at hsz | some i => rfl)
    refine wpList_plain hgd fun K hK => ?_
    unfold Oper.wp
    simp [execOp, ho, resolve, invoke, builtin, hd, hs, hrun, Result.andThen]
    refine hK _ _ (h w ?_ hb)
    exact hown.congr fun j _ => by rw [if_neg (by omega)]
  · obtain ⟨ad, rfl, hc⟩ : ∃ ad, sp = some ad ∧ ∀ j, j < n * size → w.cell? (ad.add j) = some (G j) := by
      rcases hsrc with h | h
      · omega
      · exact h
    have hle2 : n * size ≤ cur.size := by rw [hcs]; exact Nat.mul_le_mul_right _ (Nat.le_trans hle hnc)
    have hrun := run_copy_wide (P := P) w dT sT o.type elem size g 0 dLen dCap ad n sCap cur elem (cellsF G (n * size)) hu hsz hg (by rw [cellsF_len, hmin])
      (fun j v hj => by
        have hlt : j < n * size := by
          have := (List.getElem?_eq_some_iff.1 hj).1
          rw [cellsF_len] at this
          exact this
        rw [cellsF_at _ hlt] at hj
        rw [hc j hlt]
        exact hj) (by rw [cellsF_len]; omega)
      (fun v hv => by
        unfold cellsF at hv
        obtain ⟨j, hj, rfl⟩ := List.mem_map.1 hv
        exact h1 j (List.mem_range.1 hj))
    rw [hmin] at hrun
    refine wpList_plain hgd fun K hK => ?_
    unfold Oper.wp
    simp [execOp, ho, resolve, invoke, builtin, hd, hs, hrun, Result.andThen]
    refine hK _ _ (h _ ?_ (below_setRow hb hBg _))
    refine Own.mk' (setRow_heap w g cur _ elem _ hg) ?_ hnc hcm hbg fun j hj => ?_
    · simp [cellsF_len]
      omega
    · have hj' : j < cur.size := by rw [hcs]; exact Nat.lt_of_lt_of_le hj (Nat.mul_le_mul_right _ hnc)
      by_cases hjn : j < n * size
      · rw [if_pos hjn]
        have : (cellsF G (n * size) ++ cur.toList.drop (n * size))[j]? = some (G j) := by
          rw [List.getElem?_append_left (by rw [cellsF_len]; exact hjn), cellsF_at _ hjn]
        simpa [cellsF_len] using this
      · rw [if_neg hjn]
        have : (cellsF G (n * size) ++ cur.toList.drop (n * size))[j]? = some (F j) := by
          rw [List.getElem?_append_right (by rw [cellsF_len]; omega), cellsF_len, List.getElem?_drop]
          rw [show n * size + (j - n * size) = j by omega]
          simpa using hF j hj
        simpa [cellsF_len] using this
end Go.Proofs.YtckhliilndfljaaDoor
