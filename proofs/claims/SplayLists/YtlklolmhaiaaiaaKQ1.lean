import Derived.Test.YtlklolmhaiaaiaaKW0
import Derived.Laws.CopyOwn
import Derived.WalkMore
import Derived.Deep.RegionHeld3
import Derived.BigQuiet
namespace Go.Proofs.Ytlklolmhaiaaiaa
open Go.ChangeShapes Go.WideShapes Go.ChangeAt Go.RowKit
set_option linter.unusedVariables false

theorem run_copy_wide {P : Program} (w : World) (dT sT ty elem : TypeId) (size g o dLen dCap : Nat) (a : Addr) (sLen sCap : Nat) (cur : Array Value) (t : TypeId) (cs : List Value)
    (hu : P.underlying dT = some (.slice elem)) (hs : (P.info? elem).map (·.size) = some size)
    (hg : w.heap[g]? = some (.cells cur t (0, 0))) (hn : cs.length = Nat.min sLen dLen * size)
    (hsrc : ∀ j v, cs[j]? = some v → w.cell? (a.add j) = some v) (hfit : o + cs.length ≤ cur.size) (h1 : ∀ v ∈ cs, v.oneCell' = true) :
    (Builtin.copy_ #[dT, sT] ty #[.slice (some ⟨g, o, none⟩) dLen dCap, .slice (some a) sLen sCap]).run P w =
      .ok (goInt (Nat.min sLen dLen)) (w.setRow g (cur.toList.take o ++ cs ++ cur.toList.drop (o + cs.length)).toArray) := by
  have hl := run_firstCells_some (P := P) w size (Nat.min sLen dLen) a sLen sCap cs hn hsrc
  have hst := run_storeCells_at P g o t cs 0 cur w hg (by simpa using hfit) h1
  cases hq : P.info? elem with
  | none => simp [hq] at hs
  | some i =>
    have hi : i.size = size := by simpa [hq] using hs
    simp [Builtin.copy_, run_underlying hu, Builtin.lenOf, sizeOf, typeInfo, hq, hi, hl, hst]
theorem run_copy_zero {P : Program} (w : World) (dT sT ty elem : TypeId) (d a : Option Addr) (dLen dCap sCap : Nat) (hu : P.underlying dT = some (.slice elem)) (hs : (P.info? elem).isSome) :
    (Builtin.copy_ #[dT, sT] ty #[.slice d dLen dCap, .slice a 0 sCap]).run P w = .ok (goInt 0) w := by
  cases hq : P.info? elem with
  | none => simp [hq] at hs
  | some i =>
    have hl : ∀ (x : Addr), (loadCells x 0).run P w = .ok #[] w := fun x => by simpa using run_loadCells_list (P := P) w x [] (by simp)
    have h0 : Nat.min 0 dLen = 0 := Nat.zero_min _
    cases d <;> cases a <;> simp [Builtin.copy_, run_underlying hu, Builtin.lenOf, Builtin.firstCells, sizeOf, typeInfo, hq, h0, storeCells, hl]
/-- n elements of s cells go over to the head of a row of the call's own -/
theorem wpList_copy_head {P : Program} {w : World} {ops : Array Oper} {rest : List Oper} {o : Oper} {a : Act} {Q : Exit → Act → World → Prop} (hgd : o.guard = none) (d s : Operand) (dT sT : TypeId)
    (ho : o.op = .call { callee := .builtin .copy, args := #[d, s], argTypes := #[dT, sT] }) (elem : TypeId) (size : Nat) (hu : P.underlying dT = some (.slice elem)) (hsz : (P.info? elem).map (·.size) = some size)
    (base g dLen dCap n sCap : Nat) (sp : Option Addr) (hd : a.eval d = .slice (some ⟨g, 0, none⟩) dLen dCap) (hs : a.eval s = .slice sp n sCap) (hle : n ≤ dLen)
    (F G : Nat → Value) (hown : Own w base elem size (.slice (some ⟨g, 0, none⟩) dLen dCap) dLen F) (h1 : ∀ j, j < n * size → (G j).oneCell' = true)
    (hsrc : n = 0 ∨ ∃ ad, sp = some ad ∧ ∀ j, j < n * size → w.cell? (ad.add j) = some (G j)) (B : Nat) (w0 : World) (hb : Below B w0 w) (hBg : B ≤ g)
    (h : ∀ w', Hid (Own w' base elem size (.slice (some ⟨g, 0, none⟩) dLen dCap) dLen (fun j => if j < n * size then G j else F j)) → Below B w0 w' → wpList P ops Q rest (a.put o.dst (goInt n)) w') :
    wpList P ops Q (o :: rest) a w := by
  obtain ⟨cur, hg, hcs, hnc, hcm, hbg, hF⟩ := hown.block
  have hmin : Nat.min n dLen = n := Nat.min_eq_left hle
  rcases Nat.eq_zero_or_pos n with h0 | hp
  · subst h0
    have hrun := run_copy_zero (P := P) w dT sT o.type elem (some ⟨g, 0, none⟩) sp dLen dCap sCap hu (by cases hq : P.info? elem with | none => simp [hq] at hsz | some i => rfl)
    refine wpList_plain hgd fun K hK => ?_
    unfold Oper.wp
    simp [execOp, ho, resolve, invoke, builtin, hd, hs, hrun, Result.andThen]
    refine hK _ _ (h w ?_ hb)
    exact hown.congr fun j _ => by rw [if_neg (by omega)]
  · obtain ⟨ad, rfl, hc⟩ : ∃ ad, sp = some ad ∧ ∀ j, j < n * size → w.cell? (ad.add j) = some (G j) := by
      rcases hsrc with h | h
      · omega
      · exact h
    have hle2 : n * size ≤ cur.size := by rw [hcs]; exact Nat.mul_le_mul_right _ (Nat.le_trans hle hnc)
    have hrun := run_copy_wide (P := P) w dT sT o.type elem size g 0 dLen dCap ad n sCap cur elem (cellsF G (n * size)) hu hsz hg (by rw [cellsF_len, hmin])
      (fun j v hj => by
        have hlt : j < n * size := by
          have := (List.getElem?_eq_some_iff.1 hj).1
          rw [cellsF_len] at this
          exact this
        rw [cellsF_at _ hlt] at hj
        rw [hc j hlt]
        exact hj) (by rw [cellsF_len]; omega)
      (fun v hv => by
        unfold cellsF at hv
        obtain ⟨j, hj, rfl⟩ := List.mem_map.1 hv
        exact h1 j (List.mem_range.1 hj))
    rw [hmin] at hrun
    refine wpList_plain hgd fun K hK => ?_
    unfold Oper.wp
    simp [execOp, ho, resolve, invoke, builtin, hd, hs, hrun, Result.andThen]
    refine hK _ _ (h _ ?_ (below_setRow hb hBg _))
    refine Own.mk' (setRow_heap w g cur _ elem _ hg) ?_ hnc hcm hbg fun j hj => ?_
    · simp [cellsF_len]
      omega
    · have hj' : j < cur.size := by rw [hcs]; exact Nat.lt_of_lt_of_le hj (Nat.mul_le_mul_right _ hnc)
      by_cases hjn : j < n * size
      · rw [if_pos hjn]
        have : (cellsF G (n * size) ++ cur.toList.drop (n * size))[j]? = some (G j) := by
          rw [List.getElem?_append_left (by rw [cellsF_len]; exact hjn), cellsF_at _ hjn]
        simpa [cellsF_len] using this
      · rw [if_neg hjn]
        have : (cellsF G (n * size) ++ cur.toList.drop (n * size))[j]? = some (F j) := by
          rw [List.getElem?_append_right (by rw [cellsF_len]; omega), cellsF_len, List.getElem?_drop]
          rw [show n * size + (j - n * size) = j by omega]
          simpa using hF j hj
        simpa [cellsF_len] using this
end Go.Proofs.Ytlklolmhaiaaiaa
namespace Go.Proofs.Ytlklolmhaiaaiaa
open Go.ChangeShapes Go.WideShapes Go.ChangeAt Go.RowKit
set_option linter.unusedVariables false

/-- are they the same? -/


theorem own_of_row {W : World} {base : Nat} {t : TypeId} {s m : Nat} {v : Value} {xs : List Value} (h : W.ownsRow base t s v m xs) : Own W base t s v m (fun j => xs.getD j undef) := by
  unfold Own
  rw [← h.1, ← cellsF_of xs]
  exact h
/-- a row that is none of those that were written -/
theorem Own.keptBy {W W' : World} {base : Nat} {t : TypeId} {s m : Nat} {v : Value} {F : Nat → Value} {r : Option Nat} (h : Own W base t s v m F) (hg : W.grownBy W' r) (hne : ∀ k, v.ownBlock = some k → r ≠ some k) : Own W' base t s v m F := h.far fun k hk => hg.block k (h.lt k hk).2 (fun e => hne k hk e.symm)
end Go.Proofs.Ytlklolmhaiaaiaa
namespace Go.Proofs.Ytlklolmhaiaaiaa
open Go.ChangeShapes Go.WideShapes Go.ChangeAt Go.RowKit
set_option linter.unusedVariables false

theorem qinfo {i? : Option TypeInfo} {z : Value} {s b : Nat} (h : i?.map (fun i => (i.zero, i.size, i.bytes)) = some (some z, s, b)) : ∃ i, i? = some i ∧ i.zero = some z ∧ i.size = s ∧ i.bytes = b := by
  cases i? with
  | none => cases h
  | some i =>
    simp at h
    exact ⟨i, rfl, h.1, h.2.1, h.2.2⟩
theorem infoND : (Try.prog.info? 67).map (fun i => (i.zero, i.size, i.bytes)) = some (some (.agg #[.int .u64 0, .int .i64 0, .int .u64 0, .int .i64 0, .int .i64 0, .int .i64 0, .int .i64 0, .int .i64 0]), 8, 64) := by kernel_rfl
theorem infoEV : (Try.prog.info? 64).map (fun i => (i.zero, i.size, i.bytes)) = some (some (.agg #[.int .u64 0, .int .i64 0, .int .u64 0, .int .i64 0, .int .i64 0, .int .i64 0]), 6, 48) := by kernel_rfl
def zNd (j : Nat) : Value := if j % 8 = 0 ∨ j % 8 = 2 then .int .u64 0 else .int .i64 0
theorem zND (n j : Nat) (hj : j < n * 8) : (madeCells (Value.agg #[.int .u64 0, .int .i64 0, .int .u64 0, .int .i64 0, .int .i64 0, .int .i64 0, .int .i64 0, .int .i64 0]).cells (n * 8)).toList.getD j undef = zNd j := by
  have h6 : (Value.agg #[.int .u64 0, .int .i64 0, .int .u64 0, .int .i64 0, .int .i64 0, .int .i64 0, .int .i64 0, .int .i64 0]).cells.size = 8 := rfl
  have hm : j % 8 = 0 ∨ j % 8 = 1 ∨ j % 8 = 2 ∨ j % 8 = 3 ∨ j % 8 = 4 ∨ j % 8 = 5 ∨ j % 8 = 6 ∨ j % 8 = 7 := by omega
  unfold madeCells zNd
  simp [hj, h6]
  rcases hm with h | h | h | h | h | h | h | h <;> rw [h] <;> rfl
set_option maxRecDepth 100000 in
set_option maxHeartbeats 4000000 in
theorem q_new (room : Int) (h1 : 1 ≤ room) (h2 : room ≤ 8192) (w : World) :
    Calls Try.prog 6 #[.int .i64 room] w fun e w' => ∃ qb nb, e = .returned (.tuple #[.pointer (some ⟨qb, 0, none⟩), .int .i64 0]) ∧ w'.heap[qb]? = some (.cells #[.slice (some ⟨nb, 0, none⟩) 1 1, .int .i64 0, .int .i64 0, .int .i64 0, .int .i64 room, .int .i64 0] 58 (0, 0)) ∧ Own w' w.heap.size 67 8 (.slice (some ⟨nb, 0, none⟩) 1 1) 1 zNd ∧ qb ≠ nb ∧ w.heap.size ≤ qb ∧ Below w.heap.size w w' := by
  have d1 : decide (room < 1) = false := by simp; omega
  have d2 : decide (8192 < room) = false := by simp; omega
  obtain ⟨i8, hi8, ha8, hb8, hc8⟩ := qinfo infoND
  go_enter Try.func6, Try.ntmps6
  go_wp2_with (at_make; refine wpList_make_full _ rfl (.const (.int .i64 1)) (.const (.int .i64 1)) 56 rfl w.heap.size 67 i8 _ 8 Try.underlying56 hi8 ha8 hb8 .i64 .i64 1 1 1 rfl rfl rfl rfl ?c1 ?c2 ?c3 ?_)
  case c1 => rw [hc8]; omega
  case c2 => unfold maxLen; omega
  case c3 => exact Nat.le_refl _
  intro w1 hown hgrow
  have hb1 : Below w.heap.size w w1 := (Below.refl _ _).grown hgrow (Nat.le_refl _) (by simp)
  have hO : Own w1 w.heap.size 67 8 (.slice (some ⟨w.heap.size, 0, none⟩) 1 1) 1 zNd := (own_of_row hown).congr fun j hj => zND 1 j hj
  have hlt := (Own.lt hO w.heap.size rfl).2
  clear hown hgrow
  go_wp2
  refine bodyPost_ret (v := .tuple #[.pointer (some ⟨w1.heap.size, 0, none⟩), .int .i64 0]) (by simp [results, Try.results6, go_sem]) rfl ?_
  refine ⟨_, _, rfl, World.alloc_heap_new w1 _, hO.later ((Below.refl _ w1).alloc (Nat.le_refl _) _), by omega, by omega, hb1.alloc (by omega) _⟩
set_option maxRecDepth 100000 in
set_option maxHeartbeats 4000000 in
theorem q_newBad (room : Int) (h1 : room < 1 ∨ 8192 < room) (w : World) :
    Calls Try.prog 6 #[.int .i64 room] w fun e w' => e = .returned (.tuple #[.pointer none, .int .i64 84]) ∧ w' = w := by
  by_cases h : room < 1
  · have d1 : decide (room < 1) = true := by simpa using h
    go_enter Try.func6, Try.ntmps6
    go_wp2
    exact bodyPost_ret (v := .tuple #[.pointer none, .int .i64 84]) (by simp [results, Try.results6, go_sem]) rfl ⟨rfl, rfl⟩
  · have d1 : decide (room < 1) = false := by simpa using h
    have d2 : decide (8192 < room) = true := by simp; omega
    go_enter Try.func6, Try.ntmps6
    go_wp2
    exact bodyPost_ret (v := .tuple #[.pointer none, .int .i64 84]) (by simp [results, Try.results6, go_sem]) rfl ⟨rfl, rfl⟩
set_option maxRecDepth 100000 in
set_option maxHeartbeats 4000000 in
/-- a list as an answer: a copy, cut behind its end -/
theorem q_handed (p : Option Addr) (n c : Nat) (G : Nat → Value) (w : World) (hn : n ≤ 8192) (h1 : ∀ j, (G j).oneCell' = true) (hsrc : n = 0 ∨ ∃ b o, p = some ⟨b, o, none⟩ ∧ b < w.heap.size ∧ ∀ j, j < n * 6 → w.cell? ⟨b, o + j, none⟩ = some (G j)) :
    Calls Try.prog 27 #[.slice p n c] w fun e w' => ∃ b, e = .returned (.slice (some ⟨b, 0, none⟩) n n) ∧ Own w' w.heap.size 64 6 (.slice (some ⟨b, 0, none⟩) n n) n G ∧ Below w.heap.size w w' := by
  obtain ⟨i6, hi6, ha6, hb6, hc6⟩ := qinfo infoEV
  have hsz : (Try.prog.info? 64).map (·.size) = some 6 := by simp [hi6, hb6]
  have HS : Hid (n = 0 ∨ ∃ b o, p = some ⟨b, o, none⟩ ∧ b < w.heap.size ∧ ∀ j, j < n * 6 → w.cell? ⟨b, o + j, none⟩ = some (G j)) := hsrc
  clear hsrc
  go_enter Try.func27, Try.ntmps27
  go_wp2_with (at_make; refine wpList_make_full _ rfl (.tmp 5) (.tmp 5) 27 rfl w.heap.size 64 i6 _ 6 Try.underlying27 hi6 ha6 hb6 .i64 .i64 n n n rfl rfl rfl rfl ?c1 ?c2 ?c3 ?_)
  case c1 => rw [hc6]; omega
  case c2 => unfold maxLen; omega
  case c3 => exact Nat.le_refl _
  intro w1 hown hgrow
  have hb1 : Below w.heap.size w w1 := (Below.refl _ _).grown hgrow (Nat.le_refl _) (by simp)
  have hO := own_of_row hown
  have hs2 : n = 0 ∨ ∃ ad, p = some ad ∧ ∀ j, j < n * 6 → w1.cell? (ad.add j) = some (G j) := by
    rcases HS.out with h | ⟨b, o, hp, hb, hc⟩
    · exact .inl h
    · exact .inr ⟨_, hp, fun j hj => by rw [addr_add0]; exact (cell_below (a := ⟨b, o + j, none⟩) hb1 hb).trans (hc j hj)⟩
  have HB1 : Hid (Below w.heap.size w w1) := hb1
  clear hown hgrow hb1
  go_wp2_with (refine wpList_copy_head rfl (.tmp 7) (.tmp 8) 27 27 rfl 64 6 Try.underlying27 hsz w.heap.size w.heap.size n n n c p rfl rfl (Nat.le_refl _) _ G hO (fun j _ => h1 j) hs2 w.heap.size w HB1.out (Nat.le_refl _) ?_; intro w2 hO2 hB2)
  have hO3 : Own w2 w.heap.size 64 6 (.slice (some ⟨w.heap.size, 0, none⟩) n n) n G := hO2.out.congr fun j hj => by rw [if_pos hj]
  go_wp2
  go_ret
  exact ⟨_, rfl, hO3, hB2⟩
end Go.Proofs.Ytlklolmhaiaaiaa
