import Derived.Test.YtcibmbcfpecgpaaK5
namespace Go.Proofs.Ytcibmbcfpecgpaa
open Go.ChangeShapes Go.WideShapes Go.ChangeAt Go.RowKit
set_option linter.unusedVariables false

theorem run_copy_wide {P : Program} (w : World) (dT sT ty elem : TypeId) (size g o dLen dCap : Nat) (a : Addr) (sLen sCap : Nat) (cur : Array Value) (t : TypeId) (cs : List Value)
    (hu : P.underlying dT = some (.slice elem)) (hs : (P.info? elem).map (·.size) = some size)
    (hg : w.heap[g]? = some (.cells cur t (0, 0))) (hn : cs.length = Nat.min sLen dLen * size)
    (hsrc : ∀ j v, cs[j]? = some v → w.cell? (a.add j) = some v) (hfit : o + cs.length ≤ cur.size) (h1 : ∀ v ∈ cs, v.oneCell' = true) :
    (Builtin.copy_ #[dT, sT] ty #[.slice (some ⟨g, o, none⟩) dLen dCap, .slice (some a) sLen sCap]).run P w =
      .ok (goInt (Nat.min sLen dLen)) (w.setRow g (cur.toList.take o ++ cs ++ cur.toList.drop (o + cs.length)).toArray) := by
  have hl := run_firstCells_some (P := P) w size (Nat.min sLen dLen) a sLen sCap cs hn hsrc
  have hst := run_storeCells_at P g o t cs 0 cur w hg (by simpa using hfit) h1
  cases hq : P.info? elem with
  | none => simp [hq] at hs
  | some i =>
    have hi : i.size = size := by simpa [hq] using hs
    simp [Builtin.copy_, run_underlying hu, Builtin.lenOf, sizeOf, typeInfo, hq, hi, hl, hst]
theorem run_copy_zero {P : Program} (w : World) (dT sT ty elem : TypeId) (d a : Option Addr) (dLen dCap sCap : Nat) (hu : P.underlying dT = some (.slice elem)) (hs : (P.info? elem).isSome) :
    (Builtin.copy_ #[dT, sT] ty #[.slice d dLen dCap, .slice a 0 sCap]).run P w = .ok (goInt 0) w := by
  cases hq : P.info? elem with
  | none => simp [hq] at hs
  | some i =>
    have hl : ∀ (x : Addr), (loadCells x 0).run P w = .ok #[] w := fun x => by simpa using run_loadCells_list (P := P) w x [] (by simp)
    have h0 : Nat.min 0 dLen = 0 := Nat.zero_min _
    cases d <;> cases a <;> simp [Builtin.copy_, run_underlying hu, Builtin.lenOf, Builtin.firstCells, sizeOf, typeInfo, hq, h0, storeCells, hl]
/-- n elements of s cells go over to the head of a row of the call's own -/
theorem wpList_copy_head {P : Program} {w : World} {ops : Array Oper} {rest : List Oper} {o : Oper} {a : Act} {Q : Exit → Act → World → Prop} (hgd : o.guard = none) (d s : Operand) (dT sT : TypeId)
    (ho : o.op = .call { callee := .builtin .copy, args := #[d, s], argTypes := #[dT, sT] }) (elem : TypeId) (size : Nat) (hu : P.underlying dT = some (.slice elem)) (hsz : (P.info? elem).map (·.size) = some size)
    (base g dLen dCap n sCap : Nat) (sp : Option Addr) (hd : a.eval d = .slice (some ⟨g, 0, none⟩) dLen dCap) (hs : a.eval s = .slice sp n sCap) (hle : n ≤ dLen)
    (F G : Nat → Value) (hown : Own w base elem size (.slice (some ⟨g, 0, none⟩) dLen dCap) dLen F) (h1 : ∀ j, j < n * size → (G j).oneCell' = true)
    (hsrc : n = 0 ∨ ∃ ad, sp = some ad ∧ ∀ j, j < n * size → w.cell? (ad.add j) = some (G j)) (B : Nat) (w0 : World) (hb : Below B w0 w) (hBg : B ≤ g)
    (h : ∀ w', Hid (Own w' base elem size (.slice (some ⟨g, 0, none⟩) dLen dCap) dLen (fun j => if j < n * size then G j else F j)) → Below B w0 w' → wpList P ops Q rest (a.put o.dst (goInt n)) w') :
    wpList P ops Q (o :: rest) a w := by
  obtain ⟨cur, hg, hcs, hnc, hcm, hbg, hF⟩ := hown.block
  have hmin : Nat.min n dLen = n := Nat.min_eq_left hle
  rcases Nat.eq_zero_or_pos n with h0 | hp
  · subst h0
    have hrun := run_copy_zero (P := P) w dT sT o.type elem (some ⟨g, 0, none⟩) sp dLen dCap sCap hu (by cases hq : P.info? elem with | none => simp [hq] at hsz | some i => rfl)
    refine wpList_plain hgd fun K hK => ?_
    unfold Oper.wp
    simp [execOp, ho, resolve, invoke, builtin, hd, hs, hrun, Result.andThen]
    refine hK _ _ (h w ?_ hb)
    exact hown.congr fun j _ => by rw [if_neg (by omega)]
  · obtain ⟨ad, rfl, hc⟩ : ∃ ad, sp = some ad ∧ ∀ j, j < n * size → w.cell? (ad.add j) = some (G j) := by
      rcases hsrc with h | h
      · omega
      · exact h
    have hle2 : n * size ≤ cur.size := by rw [hcs]; exact Nat.mul_le_mul_right _ (Nat.le_trans hle hnc)
    have hrun := run_copy_wide (P := P) w dT sT o.type elem size g 0 dLen dCap ad n sCap cur elem (cellsF G (n * size)) hu hsz hg (by rw [cellsF_len, hmin])
      (fun j v hj => by
        have hlt : j < n * size := by
          have := (List.getElem?_eq_some_iff.1 hj).1
          rw [cellsF_len] at this
          exact this
        rw [cellsF_at _ hlt] at hj
        rw [hc j hlt]
        exact hj) (by rw [cellsF_len]; omega)
      (fun v hv => by
        unfold cellsF at hv
        obtain ⟨j, hj, rfl⟩ := List.mem_map.1 hv
        exact h1 j (List.mem_range.1 hj))
    rw [hmin] at hrun
    refine wpList_plain hgd fun K hK => ?_
    unfold Oper.wp
    simp [execOp, ho, resolve, invoke, builtin, hd, hs, hrun, Result.andThen]
    refine hK _ _ (h _ ?_ (below_setRow hb hBg _))
    refine Own.mk' (setRow_heap w g cur _ elem _ hg) ?_ hnc hcm hbg fun j hj => ?_
    · simp [cellsF_len]
      omega
    · have hj' : j < cur.size := by rw [hcs]; exact Nat.lt_of_lt_of_le hj (Nat.mul_le_mul_right _ hnc)
      by_cases hjn : j < n * size
      · rw [if_pos hjn]
        have : (cellsF G (n * size) ++ cur.toList.drop (n * size))[j]? = some (G j) := by
          rw [List.getElem?_append_left (by rw [cellsF_len]; exact hjn), cellsF_at _ hjn]
        simpa [cellsF_len] using this
      · rw [if_neg hjn]
        have : (cellsF G (n * size) ++ cur.toList.drop (n * size))[j]? = some (F j) := by
          rw [List.getElem?_append_right (by rw [cellsF_len]; omega), cellsF_len, List.getElem?_drop]
          rw [show n * size + (j - n * size) = j by omega]
          simpa using hF j hj
        simpa [cellsF_len] using this

def evc (e : Ev) (r : Nat) : Value :=
  match r with
  | 0 => .int .u64 e.t
  | 1 => .int .i64 e.s
  | 2 => .int .u64 e.q
  | 3 => .int .i64 e.d
  | 4 => .int .i64 e.k
  | _ => .int .i64 e.v
def ev0 : Ev := ⟨0, 0, 0, 0, 0, 0⟩
def evsC (es : List Ev) (x : Nat) : Value := evc (es.getD (x / 6) ev0) (x % 6)
def rm (i : Nat) : Ev := ⟨0, 0, 0, 0, 0, -11 - (i : Int)⟩
/-- a list made by roomy; the marks from i on are not laid yet -/
def roomE (es : List Ev) (i j : Nat) : Ev := if j < es.length then es.getD j ev0 else if j < i then rm j else ev0
def roomC (es : List Ev) (i : Nat) (x : Nat) : Value := evc (roomE es i (x / 6)) (x % 6)
theorem evc_one (e : Ev) (r : Nat) : (evc e r).oneCell' = true := by
  unfold evc
  split <;> rfl
theorem six (i : Nat) : (i * 6) / 6 = i ∧ (i * 6) % 6 = 0 ∧ (i * 6 + 1) / 6 = i ∧ (i * 6 + 1) % 6 = 1 ∧ (i * 6 + 2) / 6 = i ∧ (i * 6 + 2) % 6 = 2 ∧ (i * 6 + 3) / 6 = i ∧ (i * 6 + 3) % 6 = 3 ∧ (i * 6 + 4) / 6 = i ∧ (i * 6 + 4) % 6 = 4 ∧ (i * 6 + 5) / 6 = i ∧ (i * 6 + 5) % 6 = 5 := by omega
theorem EvsAt.cellsAt {w : World} {b off : Nat} {es : List Ev} (hc : ∀ i (h : i < es.length),
    w.cell? ⟨b, off + i * 6, none⟩ = some (.int .u64 es[i].t) ∧ w.cell? ⟨b, off + i * 6 + 1, none⟩ = some (.int .i64 es[i].s) ∧ w.cell? ⟨b, off + i * 6 + 2, none⟩ = some (.int .u64 es[i].q) ∧ w.cell? ⟨b, off + i * 6 + 3, none⟩ = some (.int .i64 es[i].d) ∧ w.cell? ⟨b, off + i * 6 + 4, none⟩ = some (.int .i64 es[i].k) ∧ w.cell? ⟨b, off + i * 6 + 5, none⟩ = some (.int .i64 es[i].v)) :
    ∀ x, x < es.length * 6 → w.cell? ⟨b, off + x, none⟩ = some (evsC es x) := fun x hx => by
  obtain ⟨i, r, hr, rfl⟩ : ∃ i r, r < 6 ∧ x = i * 6 + r := ⟨x / 6, x % 6, by omega, by omega⟩
  have hi : i < es.length := by omega
  obtain ⟨c0, c1, c2, c3, c4, c5⟩ := hc i hi
  have e1 : (i * 6 + r) / 6 = i := by omega
  have e2 : (i * 6 + r) % 6 = r := by omega
  unfold evsC
  rw [e1, e2, List.getD_eq_getElem?_getD, List.getElem?_eq_getElem hi, ← Nat.add_assoc]
  match r, hr with
  | 0, _ => exact c0
  | 1, _ => exact c1
  | 2, _ => exact c2
  | 3, _ => exact c3
  | 4, _ => exact c4
  | 5, _ => exact c5
theorem zEvC (n j : Nat) (hj : j < n * 6) : (madeCells (Value.agg #[.int .u64 0, .int .i64 0, .int .u64 0, .int .i64 0, .int .i64 0, .int .i64 0]).cells (n * 6)).toList.getD j undef = evc ev0 (j % 6) := by
  have h6 : (Value.agg #[.int .u64 0, .int .i64 0, .int .u64 0, .int .i64 0, .int .i64 0, .int .i64 0]).cells.size = 6 := rfl
  have hm : j % 6 = 0 ∨ j % 6 = 1 ∨ j % 6 = 2 ∨ j % 6 = 3 ∨ j % 6 = 4 ∨ j % 6 = 5 := by omega
  unfold madeCells
  simp [hj, h6]
  rcases hm with h | h | h | h | h | h <;> rw [h] <;> rfl
theorem infoEvW : (Try.prog.info? 26).map (fun i => (i.zero, i.size, i.bytes)) = some (some (.agg #[.int .u64 0, .int .i64 0, .int .u64 0, .int .i64 0, .int .i64 0, .int .i64 0]), 6, 48) := by kernel_rfl
end Go.Proofs.Ytcibmbcfpecgpaa
