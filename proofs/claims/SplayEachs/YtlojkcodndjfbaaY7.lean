import Derived.Test.YtlojkcodndjfbaaY6
import Derived.Test.YtlojkcodndjfbaaQ1
import Derived.Deep.RegionLaw
import Derived.Deep.MidRow
import Derived.Deep.RegionHeld
namespace Go.Proofs.Ytlojkcodndjfbaa
open Go.ChangeShapes Go.WideShapes Go.ChangeAt Go.RowKit
set_option linter.unusedVariables false
set_option linter.unusedSimpArgs false

theorem step_append_own {P : Program} {ops : Array Oper} {o : Oper} {a : Act} {w : World} {K : Act → World → Prop} {Q : Exit → Act → World → Prop} {E : Prop}
    (hg : o.guard = none) (s x : Operand) (t : TypeId) (hop : o.op = Op.call { callee := Callee.builtin Builtin.append, args := #[s, x], argTypes := #[t, t] })
    (base : Nat) (e : TypeId) (i : TypeInfo) (z : Value) (size bytes : Nat) (ht : P.underlying t = some (.slice e)) (hi : P.info? e = some i) (hz : i.zero = some z)
    (hsize : i.size = size) (hby : i.bytes = bytes) (hzs : z.cells.size = size) (hsz : 0 < size)
    (v : Value) (n : Nat) (xs : List Value) (hs : a.eval s = v) (hown : w.ownsRow base e size v n xs)
    (ad : Addr) (m c : Nat) (news : List Value) (hx : a.eval x = .slice (some ad) m c) (hl : news.length = m * size) (hnews : ∀ j u, news[j]? = some u → w.cell? (ad.add j) = some u) (h1 : ∀ u ∈ news, u.oneCell' = true)
    (h63 : n + m ≤ maxLen) (hbytes : (n + m) * bytes ≤ 140737488355328) (hbase : base ≤ w.heap.size)
    (hK : ∀ v' w', w'.ownsRow base e size v' (n + m) (xs ++ news) → w.grownBy w' v.ownBlock → (v'.ownBlock = v.ownBlock ∨ v'.ownBlock = some w.heap.size) → K (a.put o.dst v') w') :
    if Region.wanted o (yielded ops a.tmps) = true then Oper.wp P o a w K Q else E := by
  have hw : Region.wanted o (yielded ops a.tmps) = true := by simp [Region.wanted, hg]
  rw [if_pos hw]
  obtain ⟨v', w', hr, h2, h3, h4, h5⟩ := run_append_own_at (P := P) w base t o.type e i z size bytes ht hi hz hsize hby hzs hsz v n xs hown ad m c news hl hnews h1 h63 hbytes hbase
  unfold Oper.wp execOp
  simp only [hop, resolve, invoke, builtin, Sem.run_bind, Sem.run_pure, Result.andThen_ok, List.map_toArray, List.map_cons, List.map_nil, hs, hx, hr]
  exact hK _ _ h2 h3 h5
theorem cells_new (w : World) (cs : List Value) (t : TypeId) : ∀ j u, cs[j]? = some u → (w.alloc (.cells cs.toArray t)).cell? ((⟨w.heap.size, 0, none⟩ : Addr).add j) = some u := by
  intro j u hj
  rw [addr_add0, Nat.zero_add]
  unfold World.cell?
  rw [World.alloc_heap_new]
  simpa using hj
theorem belowDA (w : World) (o : Obj) : Below w.heap.size w (w.drew.alloc o) := (show Below w.heap.size w w.drew from ⟨rfl, rfl, rfl, Nat.le_refl _, fun _ _ => rfl⟩).alloc (Nat.le_refl _) o

theorem step_store_mid {P : Program} {ops : Array Oper} {o : Oper} {a : Act} {w : World} {K : Act → World → Prop} {Q : Exit → Act → World → Prop} {E : Prop} (hg : o.guard = none) (ty : TypeId) (x y : Operand) (ho : o.op = .store ty x y)
    (b off : Nat) (cells : Array Value) (hx : a.eval x = .pointer (some ⟨b, off, none⟩)) (hy : a.eval y = .agg cells)
    (ht : w.there b off cells.size) (hi : (P.info? ty).map (·.size) = some cells.size) (h1 : cells.all (·.oneCell') = true)
    (h : K (a.put o.dst undef) (w.setCells b off cells.toList)) : if Region.wanted o (yielded ops a.tmps) = true then Oper.wp P o a w K Q else E := by
  have hw : Region.wanted o (yielded ops a.tmps) = true := by simp [Region.wanted, hg]
  rw [if_pos hw]
  exact wp_store_mid ty x y ho b off cells hx hy ht hi h1 h
theorem q6c {W : World} {b : Nat} {c0 c1 c2 c3 c4 c5 : Value} {t : TypeId} (h : W.heap[b]? = some (.cells #[c0, c1, c2, c3, c4, c5] t (0, 0))) : W.cell? ⟨b, 0, none⟩ = some c0 ∧ W.cell? ⟨b, 1, none⟩ = some c1 ∧ W.cell? ⟨b, 2, none⟩ = some c2 ∧ W.cell? ⟨b, 3, none⟩ = some c3 ∧ W.cell? ⟨b, 4, none⟩ = some c4 ∧ W.cell? ⟨b, 5, none⟩ = some c5 := by
  refine ⟨?_, ?_, ?_, ?_, ?_, ?_⟩
  all_goals (unfold World.cell?; rw [h]; rfl)
/-- six cells written -/
theorem put6 {W : World} {b : Nat} {a0 a1 a2 a3 a4 a5 : Value} {t : TypeId} (h : W.heap[b]? = some (.cells #[a0, a1, a2, a3, a4, a5] t (0, 0))) (c0 c1 c2 c3 c4 c5 : Value) (W' : World) (e : (((((W.setCell ⟨b, 0, none⟩ c0).setCell ⟨b, 1, none⟩ c1).setCell ⟨b, 2, none⟩ c2).setCell ⟨b, 3, none⟩ c3).setCell ⟨b, 4, none⟩ c4).setCell ⟨b, 5, none⟩ c5 = W') :
    W'.heap[b]? = some (.cells #[c0, c1, c2, c3, c4, c5] t (0, 0)) ∧ (∀ k, k ≠ b → W'.heap[k]? = W.heap[k]?) ∧ ∀ B w0, Below B w0 W → B ≤ b → Below B w0 W' := by
  subst e
  refine ⟨?_, fun k hk => ?_, fun B w0 hb hB => ?_⟩
  · rw [setCell_block _ _ _ _ (setCell_block _ _ _ _ (setCell_block _ _ _ _ (setCell_block _ _ _ _ (setCell_block _ _ _ _ (setCell_block _ _ _ _ h)))))]
    rfl
  · rw [Below.heap_setCell _ _ _ _ hk, Below.heap_setCell _ _ _ _ hk, Below.heap_setCell _ _ _ _ hk, Below.heap_setCell _ _ _ _ hk, Below.heap_setCell _ _ _ _ hk, Below.heap_setCell _ _ _ _ hk]
  · exact (((((hb.setCell (p := ⟨b, 0, none⟩) hB _).setCell (p := ⟨b, 1, none⟩) hB _).setCell (p := ⟨b, 2, none⟩) hB _).setCell (p := ⟨b, 3, none⟩) hB _).setCell (p := ⟨b, 4, none⟩) hB _).setCell (p := ⟨b, 5, none⟩) hB _
def updE (F : Nat → Ev) (i : Nat) (v : Ev) : Nat → Ev := fun j => if j = i then v else F j
def Ar.set (A : Ar) (p : Nat) (e : Ev) (l r : Nat) : Ar := ⟨updE A.E p e, upd A.L p l, upd A.R p r⟩
def evL (e : Ev) : List Value := [.int .u64 e.t, .int .i64 e.s, .int .u64 e.q, .int .i64 e.d, .int .i64 e.k, .int .i64 e.v]
def evV (e : Ev) : Value := .agg #[.int .u64 e.t, .int .i64 e.s, .int .u64 e.q, .int .i64 e.d, .int .i64 e.k, .int .i64 e.v]
theorem ndF_set (A : Ar) (p : Nat) (e : Ev) (l r : Nat) (j : Nat) : putF (ndF A) (p * 8) (evL e ++ [.int .i64 (l : Int), .int .i64 (r : Int)]) j = ndF (A.set p e l r) j := by
  obtain ⟨i, y, hy, rfl⟩ : ∃ i y, y < 8 ∧ j = i * 8 + y := ⟨j / 8, j % 8, by omega, by omega⟩
  rw [ndF_at _ _ _ hy]
  unfold putF
  by_cases hi : i = p
  · subst hi
    rw [if_pos (by simp [evL]; omega)]
    have : y = 0 ∨ y = 1 ∨ y = 2 ∨ y = 3 ∨ y = 4 ∨ y = 5 ∨ y = 6 ∨ y = 7 := by omega
    rcases this with rfl | rfl | rfl | rfl | rfl | rfl | rfl | rfl <;> simp [evL, Ar.set, updE, upd, ndC]
  · rw [if_neg (by simp [evL]; omega), ndF_at _ _ _ hy]
    simp [Ar.set, updE, upd, hi]
theorem QW.setNode {W : World} {base qb g c n : Nat} {A : Ar} {f r s m k : Int} (h : QW W base qb g c n A f r s m k) (p : Nat) (e : Ev) (l x : Nat) : QW (W.setCells g (p * 8) (evL e ++ [.int .i64 (l : Int), .int .i64 (x : Int)])) base qb g c n (A.set p e l x) f r s m k :=
  ⟨h.box.far fun k e => by cases e; exact setCells_other g _ _ _ _ fun e => h.ne e.symm, (Own.put h.row (p * 8) _).congr fun j _ => ndF_set A p e l x j, h.ne⟩
theorem Ch.sets (S : Nat → Prop) (W : World) (b o : Nat) (vs : List Value) (h : S b) : Ch S W (W.setCells b o vs) := by
  have hb : Below 0 W (W.setCells b o vs) := setCells_below vs o W (Below.refl _ _) (Nat.zero_le _)
  exact ⟨hb.os, hb.tape, hb.output, hb.size, fun k _ hs => setCells_other b vs o W k fun e => hs (e ▸ h)⟩
set_option maxRecDepth 100000 in
set_option maxHeartbeats 4000000 in
theorem leave_any (base qb g c n : Nat) (A : Ar) (f : Nat) (r : Int) (s : Nat) (m k : Int) (p : Nat) (W : World) (h : QW W base qb g c n A f r s m k) (hp : p < n) (hn : n ≤ 8193) (hs : 0 < s ∧ s ≤ 8192) :
    Calls Try.prog 37 #[.pointer (some ⟨qb, 0, none⟩), .int .i64 (p : Int)] W fun e W' => e = .returned (evV (A.E p)) ∧ QW W' base qb g c n (A.set p ev0 f 0) p r ((s - 1 : Nat) : Int) m k ∧ Ch (S2 qb g) W W' := by
  obtain ⟨W1, hW1⟩ : ∃ W1, (W.alloc (.cells #[.int .u64 0, .int .i64 0, .int .u64 0, .int .i64 0, .int .i64 0, .int .i64 0] 27)).alloc (.cells #[.int .u64 (A.E p).t, .int .i64 (A.E p).s, .int .u64 (A.E p).q, .int .i64 (A.E p).d, .int .i64 (A.E p).k, .int .i64 (A.E p).v] 27) = W1 := ⟨_, rfl⟩
  have hb1 : Below W.heap.size W W1 := by rw [← hW1]; exact ((Below.refl _ W).alloc (Nat.le_refl _) _).alloc (by simp) _
  have hr1 : W1.heap[W.heap.size]? = some (.cells #[.int .u64 0, .int .i64 0, .int .u64 0, .int .i64 0, .int .i64 0, .int .i64 0] 27 (0, 0)) := by rw [← hW1, Below.heap_alloc _ _ _ (by simp)]; exact World.alloc_heap_new W _
  have he1 : W1.heap[W.heap.size + 1]? = some (.cells #[.int .u64 (A.E p).t, .int .i64 (A.E p).s, .int .u64 (A.E p).q, .int .i64 (A.E p).d, .int .i64 (A.E p).k, .int .i64 (A.E p).v] 27 (0, 0)) := by
    rw [← hW1]
    have := World.alloc_heap_new (W.alloc (.cells #[.int .u64 0, .int .i64 0, .int .u64 0, .int .i64 0, .int .i64 0, .int .i64 0] 27)) (.cells #[.int .u64 (A.E p).t, .int .i64 (A.E p).s, .int .u64 (A.E p).q, .int .i64 (A.E p).d, .int .i64 (A.E p).k, .int .i64 (A.E p).v] 27)
    rwa [World.size_alloc] at this
  have HW : Hid ((W.alloc (.cells #[.int .u64 0, .int .i64 0, .int .u64 0, .int .i64 0, .int .i64 0, .int .i64 0] 27)).alloc (.cells #[.int .u64 (A.E p).t, .int .i64 (A.E p).s, .int .u64 (A.E p).q, .int .i64 (A.E p).d, .int .i64 (A.E p).k, .int .i64 (A.E p).v] 27) = W1) := hW1
  clear hW1
  have i0 : (0 : Int) ≤ (p : Int) := by omega
  have i1 : (p : Int) < (n : Int) := by omega
  obtain ⟨q0, q1, q2, q3, q4, q5⟩ := h.cells
  have x0 : W.cell? ⟨g, p * 8, none⟩ = some (.int .u64 (A.E p).t) := h.nd hp 0 (by decide)
  have x1 : W.cell? ⟨g, p * 8 + 1, none⟩ = some (.int .i64 (A.E p).s) := h.nd hp 1 (by decide)
  have x2 : W.cell? ⟨g, p * 8 + 2, none⟩ = some (.int .u64 (A.E p).q) := h.nd hp 2 (by decide)
  have x3 : W.cell? ⟨g, p * 8 + 3, none⟩ = some (.int .i64 (A.E p).d) := h.nd hp 3 (by decide)
  have x4 : W.cell? ⟨g, p * 8 + 4, none⟩ = some (.int .i64 (A.E p).k) := h.nd hp 4 (by decide)
  have x5 : W.cell? ⟨g, p * 8 + 5, none⟩ = some (.int .i64 (A.E p).v) := h.nd hp 5 (by decide)
  have hlt := h.lt
  have l1 : qb < W.heap.size := hlt.1.1
  have l2 : g < W.heap.size := hlt.2.1
  go_enter Try.func37, Try.ntmps37
  go_wp2_with fail
  rw [HW.out]
  have hQ1 := h.later hb1
  clear q0 q1 q2 q3 q4 q5 x0 x1 x2 x3 x4 x5
  obtain ⟨q0, q1, q2, q3, q4, q5⟩ := hQ1.cells
  have hne := hQ1.ne
  have hne' : qb ≠ g := fun e => hne e.symm
  refine wp_region_held_drew (S := fun W9 => W9.heap[qb]? = W1.heap[qb]?) (by kernel_rfl) rfl (fun hHeld => ?_)
  refine wpAnyH_take (i := 0) (v := ?hv0) rfl (by kernel_rfl) (by kernel_rfl) (by kernel_rfl) (fun _ _ _ h => h) (Or.inl ⟨by rfl, ?hy0⟩) (by assumption) ?hr0
  case hy0 => ((intro W9 hSw; have q0' := (World.cell?_of_block (a := ⟨qb, 0, none⟩) hSw).trans q0; have q1' := (World.cell?_of_block (a := ⟨qb, 1, none⟩) hSw).trans q1; go_simp); try with_reducible rfl)
  simp only [List.getElem_toArray, List.getElem_cons_zero, List.getElem_cons_succ, Act.put, List.setIfInBounds_toArray, List.set_cons_zero, List.set_cons_succ]
  refine wpAnyH_take (i := 1) (v := ?hv1) rfl (by kernel_rfl) (by kernel_rfl) (by kernel_rfl) (fun _ _ _ h => h) (Or.inl ⟨by rfl, ?hy1⟩) (by assumption) ?hr1
  case hy1 => ((intro W9 hSw; have q0' := (World.cell?_of_block (a := ⟨qb, 0, none⟩) hSw).trans q0; have q1' := (World.cell?_of_block (a := ⟨qb, 1, none⟩) hSw).trans q1; go_simp); try with_reducible rfl)
  simp only [List.getElem_toArray, List.getElem_cons_zero, List.getElem_cons_succ, Act.put, List.setIfInBounds_toArray, List.set_cons_zero, List.set_cons_succ]
  refine wpAnyH_take (i := 2) (v := ?hv2) rfl (by kernel_rfl) (by kernel_rfl) (by kernel_rfl) (fun _ _ _ h => h) (Or.inl ⟨by rfl, ?hy2⟩) (by assumption) ?hr2
  case hy2 => ((intro W9 hSw; have q0' := (World.cell?_of_block (a := ⟨qb, 0, none⟩) hSw).trans q0; have q1' := (World.cell?_of_block (a := ⟨qb, 1, none⟩) hSw).trans q1; go_simp); try with_reducible rfl)
  simp only [List.getElem_toArray, List.getElem_cons_zero, List.getElem_cons_succ, Act.put, List.setIfInBounds_toArray, List.set_cons_zero, List.set_cons_succ]
  refine wpAnyH_take (i := 3) (v := ?hv3) rfl (by kernel_rfl) (by kernel_rfl) (by kernel_rfl) (fun _ _ _ h => h) (Or.inl ⟨by rfl, ?hy3⟩) (by assumption) ?hr3
  case hy3 => ((intro W9 hSw; have q0' := (World.cell?_of_block (a := ⟨qb, 0, none⟩) hSw).trans q0; have q1' := (World.cell?_of_block (a := ⟨qb, 1, none⟩) hSw).trans q1; go_simp); try with_reducible rfl)
  simp only [List.getElem_toArray, List.getElem_cons_zero, List.getElem_cons_succ, Act.put, List.setIfInBounds_toArray, List.set_cons_zero, List.set_cons_succ]
  refine wpAnyH_take (i := 4) (v := ?hv4) rfl (by kernel_rfl) (by kernel_rfl) (by kernel_rfl) (fun _ _ _ h => h) (Or.inl ⟨by rfl, ?hy4⟩) (by assumption) ?hr4
  case hy4 => ((intro W9 hSw; have q0' := (World.cell?_of_block (a := ⟨qb, 0, none⟩) hSw).trans q0; have q1' := (World.cell?_of_block (a := ⟨qb, 1, none⟩) hSw).trans q1; go_simp); try with_reducible rfl)
  simp only [List.getElem_toArray, List.getElem_cons_zero, List.getElem_cons_succ, Act.put, List.setIfInBounds_toArray, List.set_cons_zero, List.set_cons_succ]
  refine wpAnyH_take (i := 5) (v := ?hv5) rfl (by kernel_rfl) (by kernel_rfl) (by kernel_rfl) (fun _ _ _ h => h) (Or.inl ⟨by rfl, ?hy5⟩) (by assumption) ?hr5
  case hy5 => ((intro W9 hSw; have q0' := (World.cell?_of_block (a := ⟨qb, 0, none⟩) hSw).trans q0; have q1' := (World.cell?_of_block (a := ⟨qb, 1, none⟩) hSw).trans q1; go_simp); try with_reducible rfl)
  simp only [List.getElem_toArray, List.getElem_cons_zero, List.getElem_cons_succ, Act.put, List.setIfInBounds_toArray, List.set_cons_zero, List.set_cons_succ]
  refine wpAnyH_take (i := 6) (v := ?hv6) rfl (by kernel_rfl) (by kernel_rfl) (by kernel_rfl) (fun _ _ _ h => h) (Or.inl ⟨by rfl, ?hy6⟩) (by assumption) ?hr6
  case hy6 => ((intro W9 hSw; have q0' := (World.cell?_of_block (a := ⟨qb, 0, none⟩) hSw).trans q0; have q1' := (World.cell?_of_block (a := ⟨qb, 1, none⟩) hSw).trans q1; go_simp); try with_reducible rfl)
  simp only [List.getElem_toArray, List.getElem_cons_zero, List.getElem_cons_succ, Act.put, List.setIfInBounds_toArray, List.set_cons_zero, List.set_cons_succ]
  refine wpAnyH_take (i := 7) (v := ?hv7) rfl (by kernel_rfl) (by kernel_rfl) (by kernel_rfl) (fun _ _ _ h => h) (Or.inl ⟨by rfl, ?hy7⟩) (by assumption) ?hr7
  case hy7 => ((intro W9 hSw; have q0' := (World.cell?_of_block (a := ⟨qb, 0, none⟩) hSw).trans q0; have q1' := (World.cell?_of_block (a := ⟨qb, 1, none⟩) hSw).trans q1; go_simp); try with_reducible rfl)
  simp only [List.getElem_toArray, List.getElem_cons_zero, List.getElem_cons_succ, Act.put, List.setIfInBounds_toArray, List.set_cons_zero, List.set_cons_succ]
  refine wpAnyH_take (i := 8) (v := ?hv8) rfl (by kernel_rfl) (by kernel_rfl) (by kernel_rfl) (fun _ _ _ h => h) (Or.inl ⟨by rfl, ?hy8⟩) (by assumption) ?hr8
  case hy8 => ((intro W9 hSw; have q0' := (World.cell?_of_block (a := ⟨qb, 0, none⟩) hSw).trans q0; have q1' := (World.cell?_of_block (a := ⟨qb, 1, none⟩) hSw).trans q1; go_simp); try with_reducible rfl)
  simp only [List.getElem_toArray, List.getElem_cons_zero, List.getElem_cons_succ, Act.put, List.setIfInBounds_toArray, List.set_cons_zero, List.set_cons_succ]
  refine wpAnyH_take (i := 9) (v := ?hv9) rfl (by kernel_rfl) (by kernel_rfl) (by kernel_rfl) (fun _ _ _ h => h) (Or.inl ⟨by rfl, ?hy9⟩) (by assumption) ?hr9
  case hy9 => ((intro W9 hSw; have q0' := (World.cell?_of_block (a := ⟨qb, 0, none⟩) hSw).trans q0; have q1' := (World.cell?_of_block (a := ⟨qb, 1, none⟩) hSw).trans q1; go_simp); try with_reducible rfl)
  simp only [List.getElem_toArray, List.getElem_cons_zero, List.getElem_cons_succ, Act.put, List.setIfInBounds_toArray, List.set_cons_zero, List.set_cons_succ]
  refine wpAnyH_take (i := 10) (v := ?hv10) rfl (by kernel_rfl) (by kernel_rfl) (by kernel_rfl) (fun _ _ _ h => h) (Or.inl ⟨by rfl, ?hy10⟩) (by assumption) ?hr10
  case hy10 => ((intro W9 hSw; have q0' := (World.cell?_of_block (a := ⟨qb, 0, none⟩) hSw).trans q0; have q1' := (World.cell?_of_block (a := ⟨qb, 1, none⟩) hSw).trans q1; go_simp); try with_reducible rfl)
  simp only [List.getElem_toArray, List.getElem_cons_zero, List.getElem_cons_succ, Act.put, List.setIfInBounds_toArray, List.set_cons_zero, List.set_cons_succ]
  refine wpAnyH_take (i := 11) (v := ?hv11) rfl (by kernel_rfl) (by kernel_rfl) (by kernel_rfl) (fun _ _ _ h => h) (Or.inl ⟨by rfl, ?hy11⟩) (by assumption) ?hr11
  case hy11 => ((intro W9 hSw; have q0' := (World.cell?_of_block (a := ⟨qb, 0, none⟩) hSw).trans q0; have q1' := (World.cell?_of_block (a := ⟨qb, 1, none⟩) hSw).trans q1; go_simp); try with_reducible rfl)
  simp only [List.getElem_toArray, List.getElem_cons_zero, List.getElem_cons_succ, Act.put, List.setIfInBounds_toArray, List.set_cons_zero, List.set_cons_succ]
  refine wpAnyH_ready (rs := [12]) (by kernel_rfl) (by simp) (AllReadyH.cons rfl (fun KK hK => ?_) AllReadyH.nil)
  dsimp -proj only [List.getElem_toArray, List.getElem_cons_zero, List.getElem_cons_succ]
  have hQd := hQ1.later (below_drewNq _ W1 1)
  refine step_store_mid rfl 77 _ _ rfl g (p * 8) _ rfl rfl (by exact hQd.row.there (o := p * 8) (n := 8) (by omega)) (by kernel_rfl) (by kernel_rfl) ?_
  refine hK.out _ _ (setCells_other g _ _ _ _ hne') (fun hHeld => ?_)
  clear hK KK
  simp only [List.getElem_toArray, List.getElem_cons_zero, List.getElem_cons_succ, Act.put, List.setIfInBounds_toArray, List.set_cons_zero, List.set_cons_succ]
  refine wpAnyH_done (by kernel_rfl) ?_ _
  have hQ2 := hQd.setNode p ev0 f 0
  have hc2 : Ch (S2 qb g) W1 ((W1.drewN 1).setCells g (p * 8) (evL ev0 ++ [.int .i64 (f : Int), .int .i64 0])) := (Ch.drew _ _ 1).trans (Ch.sets _ _ _ _ _ (.inr rfl))
  generalize hw2 : (World.setCells _ g (p * 8) _) = w2
  have hQ2' : QW w2 base qb g c n (A.set p ev0 f 0) f r s m k := by rw [← hw2]; exact hQ2
  have hC2 : Ch (S2 qb g) W1 w2 := by rw [← hw2]; exact hc2
  clear hw2 hQ2 hc2 hQd q0 q1 q2 q3 q4 q5
  obtain ⟨q0, q1, q2, q3, q4, q5⟩ := hQ2'.cells
  have qf1 := own_frozen hQ2'.box 1
  have hQ3 := hQ2'.setFree p
  obtain ⟨u0, u1, u2, u3, u4, u5⟩ := hQ3.cells
  have uf3 := own_frozen hQ3.box 3
  have hQ4 := hQ3.setSize ((s - 1 : Nat) : Int)
  have es : IntKind.i64.wrap ((s : Int) - 1) = ((s - 1 : Nat) : Int) := by rw [IntKind.wrap_i64]; omega
  have hl1 := lt_of_block he1
  have hC4 : Ch (S2 qb g) W1 ((w2.setCell ⟨qb, 1, none⟩ (.int .i64 (p : Int))).setCell ⟨qb, 3, none⟩ (.int .i64 ((s - 1 : Nat) : Int))) := (hC2.trans (Ch.set _ _ _ _ _ (.inl rfl))).trans (Ch.set _ _ _ _ _ (.inl rfl))
  have he4 := (hC4.block _ hl1 (by rintro (e | e) <;> omega)).trans he1
  have hr4 := (hC4.block _ (by omega) (by rintro (e | e) <;> omega)).trans hr1
  obtain ⟨v0, v1, v2, v3, v4, v5⟩ := q6c he4
  obtain ⟨r0, r1, r2, r3, r4, r5⟩ := q6c hr4
  have rf := frz hr4
  have rf0 := rf 0
  have rf1 := rf 1
  have rf2 := rf 2
  have rf3 := rf 3
  have rf4 := rf 4
  have rf5 := rf 5
  clear rf
  go_wp2
  have hl0 := hr1
  generalize hWF : (World.setCell (World.setCell (World.setCell (World.setCell (World.setCell (World.setCell _ _ _) _ _) _ _) _ _) _ _) ⟨W.heap.size, 5, none⟩ _) = wF
  obtain ⟨p1, p2, p3⟩ := put6 hr4 _ _ _ _ _ _ wF hWF
  obtain ⟨d0, d1, d2, d3, d4, d5⟩ := q6c p1
  refine bodyPost_ret (v := evV (A.E p)) (by simp [results, Try.results37, go_sem, d0, d1, d2, d3, d4, d5, evV]; try rfl) rfl ?_
  refine ⟨rfl, ⟨hQ4.box.far fun j e => (by cases e; exact p2 qb (by omega)), hQ4.row.far fun j e => (by cases e; exact p2 g (by omega)), hQ4.ne⟩, ?_⟩
  have hcF : Ch (S2 qb g) W _ := (Ch.below hb1).trans hC4
  have hbF := p3 0 _ (Below.refl 0 _) (Nat.zero_le _)
  exact ⟨hbF.os.trans hcF.os, hbF.tape.trans hcF.tape, hbF.output.trans hcF.output, Nat.le_trans hcF.size hbF.size, fun j hj hs => (p2 j (by omega)).trans (hcF.block j hj hs)⟩
end Go.Proofs.Ytlojkcodndjfbaa
