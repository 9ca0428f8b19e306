import Derived.Test.YtmekcccmnkgodaaGreatDoorFGI1
import Derived.Test.YtmekcccmnkgodaaGreatDoorFGPI
namespace Go.Proofs.YtmekcccmnkgodaaGreatDoor
open Go.ChangeShapes Go.WideShapes Go.ChangeAt Go.RowKit
set_option linter.unusedVariables false
set_option linter.unusedSimpArgs false
theorem nf_at {md : List Nd} {ks : List Value} {k : Nat} {d : Nd} {v : Value} (hd : md[k]? = some d) (hv : ks[k]? = some v) (r : Nat) (hr : r < 7) : NF md ks (k * 7 + r) = (ndC d v).getD r undef := by
  unfold NF
  have h1 : (k * 7 + r) / 7 = k := by omega
  have h2 : (k * 7 + r) % 7 = r := by omega
  rw [h1, h2, List.getD_eq_getElem?_getD (l := md), hd, List.getD_eq_getElem?_getD (l := ks), hv]
  rfl
/-- a node's seven cells -/
theorem own_node {W : World} {base g c : Nat} {md : List Nd} {ks : List Value} (h : Own W base 44 7 (.slice (some ⟨g, 0, none⟩) md.length c) md.length (NF md ks)) {k : Nat} {d : Nd} {v : Value} (hd : md[k]? = some d) (hv : ks[k]? = some v) :
    W.cell? ⟨g, k * 7, none⟩ = some (.int .i64 d.kind) ∧ W.cell? ⟨g, k * 7 + 1, none⟩ = some (.string ⟨d.name.toArray⟩) ∧ W.cell? ⟨g, k * 7 + 2, none⟩ = some (.int .u64 (d.num : Int)) ∧ W.cell? ⟨g, k * 7 + 3, none⟩ = some (.int .i64 d.op) ∧ W.cell? ⟨g, k * 7 + 4, none⟩ = some v ∧ W.cell? ⟨g, k * 7 + 5, none⟩ = some (.int .i64 d.line) ∧ W.cell? ⟨g, k * 7 + 6, none⟩ = some (.int .i64 d.col) := by
  have hk : k < md.length := (List.getElem?_eq_some_iff.1 hd).1
  have c : ∀ r, r < 7 → W.cell? ⟨g, k * 7 + r, none⟩ = some ((ndC d v).getD r undef) := fun r hr => by
    rw [h.cell (j := k * 7 + r) (by omega), nf_at hd hv r hr]
  exact ⟨c 0 (by omega), c 1 (by omega), c 2 (by omega), c 3 (by omega), c 4 (by omega), c 5 (by omega), c 6 (by omega)⟩
/-- append where there is room -/
theorem step_appR {P : Program} {ops : Array Oper} {o : Oper} {a : Act} {w : World} {K : Act → World → Prop} {Q : Exit → Act → World → Prop} {E : Prop}
    (hg : o.guard = none) (s x : Operand) (t : TypeId) (hop : o.op = Op.call { callee := Callee.builtin Builtin.append, args := #[s, x], argTypes := #[t, t] })
    (e : TypeId) (i : TypeInfo) (size : Nat) (hsize : i.size = size) (ht : P.underlying t = some (.slice e)) (hi : P.info? e = some i)
    (g sLen sCap : Nat) (cur : Array Value) (hgb : w.heap[g]? = some (.cells cur e (0, 0))) (hs : a.eval s = .slice (some ⟨g, 0, none⟩) sLen sCap)
    (ad : Addr) (m c : Nat) (news : List Value) (hx : a.eval x = .slice (some ad) m c) (hl : news.length = m * size) (hnews : ∀ j u, news[j]? = some u → w.cell? (ad.add j) = some u) (h1 : ∀ u ∈ news, u.oneCell' = true)
    (hroom : sLen + m ≤ sCap) (hfit : sLen * size + news.length ≤ cur.size)
    (hK : ∀ w3, w3 = w.setRow g (cur.toList.take (sLen * size) ++ news ++ cur.toList.drop (sLen * size + news.length)).toArray → K (a.put o.dst (.slice (some ⟨g, 0, none⟩) (sLen + m) sCap)) w3) :
    if Region.wanted o (yielded ops a.tmps) = true then Oper.wp P o a w K Q else E := by
  subst hsize
  have hw : Region.wanted o (yielded ops a.tmps) = true := by simp [Region.wanted, hg]
  rw [if_pos hw]
  have hr := run_append_room (P := P) w t o.type e i ht hi g sLen sCap cur hgb ad m c news hl hnews h1 hroom hfit
  unfold Oper.wp execOp
  simp only [hop, resolve, invoke, builtin, Sem.run_bind, Sem.run_pure, Result.andThen_ok, List.map_toArray, List.map_cons, List.map_nil, hs, hx, hr]
  exact hK _ rfl
set_option maxRecDepth 100000 in
theorem step_cl {fn : FuncId} (hfn : ∀ (vs : Array Value) (W : World), (callFunc fn vs).run Tryz.prog W = .ok (.enter fn vs) W) {ops : Array Oper} {o : Oper} {a : Act} {w : World} {K : Act → World → Prop} {Q : Exit → Act → World → Prop} {E : Prop} (hg : o.guard = none) (x : Operand) (args : Array Operand) (tys : Array TypeId) (hop : o.op = Op.call { callee := Callee.value x, args := args, argTypes := tys }) (caps : Array Value) (hx : a.eval x = .func (.func fn) #[] caps) (vs : Array Value) (hv : args.map a.eval = vs) (post : Ending → World → Prop) (hc : Calls Tryz.prog fn (vs ++ caps) w post) (hr : ∀ e w', post e w' → (match e, w' with | .returned v, w'' => K (a.put o.dst v) w'' | .panicked c, w'' => Q (.panic c) a w'' | .outgrown, _ => LetsOut Q)) :
    if Region.wanted o (yielded ops a.tmps) = true then Oper.wp Tryz.prog o a w K Q else E := by
  have hw : Region.wanted o (yielded ops a.tmps) = true := by simp [Region.wanted, hg]
  rw [if_pos hw]
  unfold Oper.wp
  have he : (execOp a.eval o).run Tryz.prog w = .ok (.enter fn (vs ++ caps)) w := by
    simp [execOp, hop, resolve, invoke, hfn]
    rw [hv, hx]
    simp [Deferred.ofValue, hfn, Result.andThen]
  rw [he, Oper.upon_enter]
  exact hc.mono hr
/-! ### the nodes while they are laid -/
structure LyI (md : List Nd) (ks : List Value) (base nb mb lb g cap gm cm : Nat) (w : World) (T : List Nd) (vs : List Value) : Prop where
  box : w.heap[nb]? = some (.cells #[.slice (some ⟨g, 0, none⟩) T.length cap] 22 (0, 0))
  row : Own w base 44 7 (.slice (some ⟨g, 0, none⟩) T.length cap) T.length (NF T vs)
  len : vs.length = T.length
  mbx : w.heap[mb]? = some (.cells #[.slice (some ⟨gm, 0, none⟩) md.length cm] 22 (0, 0))
  mrow : Own w base 44 7 (.slice (some ⟨gm, 0, none⟩) md.length cm) md.length (NF md ks)
  lay : w.heap[lb]? = some (.cells #[.func (.func 37) #[] #[.pointer (some ⟨nb, 0, none⟩), .pointer (some ⟨mb, 0, none⟩), .pointer (some ⟨lb, 0, none⟩)]] 96 (0, 0))
structure LK (md : List Nd) (ks : List Value) (base nb mb g cap gm : Nat) : Prop where
  ne1 : mb ≠ nb
  ne2 : gm ≠ g
  nbB : base ≤ nb
  gB : base ≤ g
  len : ks.length = md.length
  m2 : md.length ≤ 20000
  c2 : cap ≤ 20000
  apt : ∀ (i j : Nat) (v u : Value) (b : Nat), i < j → ks[i]? = some v → ks[j]? = some u → v.ownBlock = some b → u.ownBlock = some b → False
/-- the rows of kids from lo up to hi are as they were made -/
def Kd (md : List Nd) (ks : List Value) (base : Nat) (w : World) (lo hi : Nat) : Prop := ∀ (i : Nat) (d : Nd) (v : Value), lo ≤ i → i < hi → md[i]? = some d → ks[i]? = some v → Own w base 3 1 v d.kids.length (kF d.kids)
/-- what may have changed while the nodes from lo up to hi were laid -/
structure FR (ks : List Value) (base nb g lo hi : Nat) (w w' : World) : Prop where
  b : Below base w w'
  oth : ∀ b, b < w.heap.size → b ≠ nb → b ≠ g → (∀ i v, lo ≤ i → i < hi → ks[i]? = some v → v.ownBlock = some b → False) → w'.heap[b]? = w.heap[b]?
theorem FR.refl (ks : List Value) (base nb g lo hi : Nat) (w : World) : FR ks base nb g lo hi w w := ⟨Below.refl _ _, fun _ _ _ _ _ => rfl⟩
theorem FR.trans {ks : List Value} {base nb g lo hi : Nat} {a b c : World} (h : FR ks base nb g lo hi a b) (k : FR ks base nb g lo hi b c) : FR ks base nb g lo hi a c :=
  ⟨h.b.trans k.b, fun x hx h1 h2 h3 => (k.oth x (Nat.lt_of_lt_of_le hx h.b.size) h1 h2 h3).trans (h.oth x hx h1 h2 h3)⟩
theorem FR.wide {ks : List Value} {base nb g lo hi lo' hi' : Nat} {a b : World} (h : FR ks base nb g lo hi a b) (h1 : lo' ≤ lo) (h2 : hi ≤ hi') : FR ks base nb g lo' hi' a b :=
  ⟨h.b, fun x hx k1 k2 k3 => h.oth x hx k1 k2 fun i v i1 i2 => k3 i v (by omega) (by omega)⟩
theorem FR.of_below {ks : List Value} {base nb g lo hi : Nat} {w w' : World} (h : Below w.heap.size w w') (hb : base ≤ w.heap.size) : FR ks base nb g lo hi w w' := ⟨h.mono hb, fun b hb _ _ _ => h.block b hb⟩
/-- rows of kids outside stay -/
theorem Kd.step {md : List Nd} {ks : List Value} {base nb mb g cap gm : Nat} (hk : LK md ks base nb mb g cap gm) {w w' : World} {lo hi l1 h1 : Nat} {cs : Array Value} (h : Kd md ks base w l1 h1) (hf : FR ks base nb g lo hi w w') (ho : hi ≤ l1 ∨ h1 ≤ lo) (hn : w.heap[nb]? = some (.cells cs 22 (0, 0))) {cg : Array Value} (hg : w.heap[g]? = some (.cells cg 44 (0, 0))) : Kd md ks base w' l1 h1 := by
  intro i d v h2 h3 hd hv
  have hO := h i d v h2 h3 hd hv
  refine hO.far fun b hb => ?_
  refine hf.oth b (own_ltG hO hb).1 (own_ne hO hn (by decide) b hb) (own_ne hO hg (by decide) b hb) fun j u j1 j2 hu hub => ?_
  rcases Nat.lt_trichotomy i j with e | e | e
  · exact hk.apt i j v u b e hv hu hb hub
  · omega
  · exact hk.apt j i u v b e hu hv hub hb
theorem LyI.keep {md : List Nd} {ks : List Value} {base nb mb lb g cap gm cm : Nat} {w w' : World} {T : List Nd} {vs : List Value} (h : LyI md ks base nb mb lb g cap gm cm w T vs) (hb : ∀ b, b < w.heap.size → (∃ cs t, w.heap[b]? = some (.cells cs t (0, 0)) ∧ t ≠ 3) → w'.heap[b]? = w.heap[b]?) : LyI md ks base nb mb lb g cap gm cm w' T vs := by
  obtain ⟨c1, r1, _⟩ := h.row.block
  obtain ⟨c2, r2, _⟩ := h.mrow.block
  have lt : ∀ {b : Nat} {o : Obj}, w.heap[b]? = some o → b < w.heap.size := fun e => (Array.getElem?_eq_some_iff.1 e).1
  refine ⟨(hb nb (lt h.box) ⟨_, _, h.box, by decide⟩).trans h.box, h.row.far fun b e => ?_, h.len, (hb mb (lt h.mbx) ⟨_, _, h.mbx, by decide⟩).trans h.mbx, h.mrow.far fun b e => ?_, (hb lb (lt h.lay) ⟨_, _, h.lay, by decide⟩).trans h.lay⟩
  · obtain rfl : g = b := by simpa [Value.ownBlock] using e
    exact hb g (lt r1) ⟨_, _, r1, by decide⟩
  · obtain rfl : gm = b := by simpa [Value.ownBlock] using e
    exact hb gm (lt r2) ⟨_, _, r2, by decide⟩
theorem LyI.below {md : List Nd} {ks : List Value} {base nb mb lb g cap gm cm : Nat} {w w' : World} {T : List Nd} {vs : List Value} (h : LyI md ks base nb mb lb g cap gm cm w T vs) (hb : Below w.heap.size w w') : LyI md ks base nb mb lb g cap gm cm w' T vs := h.keep fun b hl _ => hb.block b hl
end Go.Proofs.YtmekcccmnkgodaaGreatDoor
namespace Go.Proofs.YtmekcccmnkgodaaGreatDoor
open Go.ChangeShapes Go.WideShapes Go.ChangeAt Go.RowKit
set_option linter.unusedVariables false
set_option linter.unusedSimpArgs false
/-- one node more is laid -/
theorem LyI.add {md : List Nd} {ks : List Value} {base nb mb lb g cap gm cm : Nat} {w w2 : World} {T : List Nd} {vs : List Value} (hk : LK md ks base nb mb g cap gm) (h : LyI md ks base nb mb lb g cap gm cm w T vs) (hB : Below w.heap.size w w2) (hbs : base ≤ w.heap.size) (hc : T.length + 1 ≤ cap) {cur : Array Value} (hg : w.heap[g]? = some (.cells cur 44 (0, 0))) (d : Nd) (v : Value) (lo hi : Nat) :
    LyI md ks base nb mb lb g cap gm cm ((w2.setRow g (cur.toList.take (T.length * 7) ++ ndC d v ++ cur.toList.drop (T.length * 7 + (ndC d v).length)).toArray).setCell ⟨nb, 0, none⟩ (.slice (some ⟨g, 0, none⟩) (T.length + 1) cap)) (T ++ [d]) (vs ++ [v]) ∧
    FR ks base nb g lo hi w ((w2.setRow g (cur.toList.take (T.length * 7) ++ ndC d v ++ cur.toList.drop (T.length * 7 + (ndC d v).length)).toArray).setCell ⟨nb, 0, none⟩ (.slice (some ⟨g, 0, none⟩) (T.length + 1) cap)) := by
  obtain ⟨cur', e1, e2, e3, e4, e5, e6⟩ := h.row.block
  rw [hg] at e1
  injection e1 with e1
  injection e1 with e1 _ _
  subst e1
  have lt : ∀ {b : Nat} {o : Obj}, w.heap[b]? = some o → b < w.heap.size := fun e => (Array.getElem?_eq_some_iff.1 e).1
  have ng : nb ≠ g := fun e => by
    have := h.box
    rw [e, hg] at this
    injection this with this
    injection this with _ this _
    exact absurd this (by decide)
  have l7 : (ndC d v).length = 7 := rfl
  generalize hA : (cur.toList.take (T.length * 7) ++ ndC d v ++ cur.toList.drop (T.length * 7 + (ndC d v).length)).toArray = A
  have g2 : w2.heap[g]? = some (.cells cur 44 (0, 0)) := (hB.block g (lt hg)).trans hg
  have g3 := setRow_heap w2 g cur A 44 (0, 0) g2
  have hoth : ∀ b, b < w.heap.size → b ≠ nb → b ≠ g → ((w2.setRow g A).setCell ⟨nb, 0, none⟩ (.slice (some ⟨g, 0, none⟩) (T.length + 1) cap)).heap[b]? = w.heap[b]? := fun b hb h1 h2 => by
    rw [Below.heap_setCell _ ⟨nb, 0, none⟩ _ b h1, setRow_other w2 g b A h2]
    exact hB.block b hb
  have g4 : ((w2.setRow g A).setCell ⟨nb, 0, none⟩ (.slice (some ⟨g, 0, none⟩) (T.length + 1) cap)).heap[g]? = some (.cells A 44 (0, 0)) := by
    rw [Below.heap_setCell _ ⟨nb, 0, none⟩ _ g (fun e => ng e.symm)]
    exact g3
  have n3 : (w2.setRow g A).heap[nb]? = some (.cells #[.slice (some ⟨g, 0, none⟩) T.length cap] 22 (0, 0)) := by
    rw [setRow_other w2 g nb A ng]
    exact (hB.block nb (lt h.box)).trans h.box
  have hsz : A.size = cap * 7 := by
    rw [← hA]
    simp only [List.size_toArray, List.length_append, List.length_take, List.length_drop, Array.length_toList, l7]
    omega
  have hA2 : ∀ j, j < (T.length + 1) * 7 → A[j]? = some (NF (T ++ [d]) (vs ++ [v]) j) := fun j hj => by
    rw [← nf_snoc T vs d v h.len j hj, ← hA]
    have ht : cur.toList.take (T.length * 7) = cellsF (NF T vs) (T.length * 7) := by
      apply List.ext_getElem?
      intro i
      rw [List.getElem?_take]
      by_cases hi : i < T.length * 7
      · rw [if_pos hi, cellsF_at _ hi, Array.getElem?_toList]
        exact e6 i hi
      · rw [if_neg hi, List.getElem?_eq_none (by rw [cellsF_len]; omega)]
    rw [ht, List.getElem?_toArray, List.getElem?_append_left (by simp only [List.length_append, cellsF_len, l7]; omega), List.getD_eq_getElem?_getD]
    have hl : j < (cellsF (NF T vs) (T.length * 7) ++ ndC d v).length := by simp only [List.length_append, cellsF_len, l7]; omega
    rw [List.getElem?_eq_getElem hl]
    rfl
  have el : (T ++ [d]).length = T.length + 1 := by simp
  obtain ⟨c2, r2, _⟩ := h.mrow.block
  have nl : lb ≠ nb ∧ lb ≠ g := ⟨fun e => by
    have := h.lay
    rw [e, h.box] at this
    injection this with this
    injection this with _ this _
    exact absurd this (by decide), fun e => by
    have := h.lay
    rw [e, hg] at this
    injection this with this
    injection this with _ this _
    exact absurd this (by decide)⟩
  have nm : mb ≠ g := fun e => by
    have := h.mbx
    rw [e, hg] at this
    injection this with this
    injection this with _ this _
    exact absurd this (by decide)
  have ngm : gm ≠ nb := fun e => by
    have := r2
    rw [e, h.box] at this
    injection this with this
    injection this with _ this _
    exact absurd this (by decide)
  refine ⟨⟨?_, ?_, by simp [h.len], (hoth mb (lt h.mbx) hk.ne1 nm).trans h.mbx, h.mrow.far fun b e => ?_, (hoth lb (lt h.lay) nl.1 nl.2).trans h.lay⟩, ⟨?_, fun b hb h1 h2 _ => hoth b hb h1 h2⟩⟩
  · rw [el]
    exact setCell_block _ nb 0 _ n3
  · rw [el]
    exact Own.mk' g4 hsz hc e4 e5 hA2
  · obtain rfl : gm = b := by simpa [Value.ownBlock] using e
    exact hoth gm (lt r2) ngm hk.ne2
  · exact Below.setCell (p := ⟨nb, 0, none⟩) ((hB.mono hbs).trans (below_setRow hk.gB A)) hk.nbB _
def ksv (ks : List Value) (i : Nat) : Value := ks.getD i undef
/-- the rows of kids of laid nodes -/
def Lr (ks : List Value) (base : Nat) (w : World) (t : List Nd) (q : List Nat) : Prop := ∀ (j : Nat) (d : Nd) (x : Nat), t[j]? = some d → q[j]? = some x → Own w base 3 1 (ksv ks x) d.kids.length (kF d.kids)
theorem Lr.nil (ks : List Value) (base : Nat) (w : World) : Lr ks base w [] [] := fun j d x h => by simp at h
theorem Lr.app {ks : List Value} {base : Nat} {w : World} {t t' : List Nd} {q q' : List Nat} (h : Lr ks base w t q) (h' : Lr ks base w t' q') (hl : q.length = t.length) : Lr ks base w (t ++ t') (q ++ q') := fun j d x h1 h2 => by
  by_cases hj : j < t.length
  · rw [List.getElem?_append_left hj] at h1
    rw [List.getElem?_append_left (by omega)] at h2
    exact h j d x h1 h2
  · rw [List.getElem?_append_right (by omega)] at h1
    rw [List.getElem?_append_right (by omega), hl] at h2
    exact h' _ d x h1 h2
theorem Lr.far {ks : List Value} {base : Nat} {w w' : World} {t : List Nd} {q : List Nat} (h : Lr ks base w t q) (hl : q.length = t.length) (hf : ∀ x b, x ∈ q → (ksv ks x).ownBlock = some b → b < w.heap.size → (∀ cs ty, w.heap[b]? = some (.cells cs ty (0, 0)) → ty = 3) → w'.heap[b]? = w.heap[b]?) : Lr ks base w' t q := fun j d x h1 h2 => by
  have hO := h j d x h1 h2
  refine hO.far fun b hb => hf x b (List.mem_of_getElem? h2) hb (own_ltG hO hb).1 fun cs ty hc => ?_
  refine Decidable.byContradiction fun hne => ?_
  exact own_ne hO hc (fun e => hne e.symm) b hb rfl
end Go.Proofs.YtmekcccmnkgodaaGreatDoor
namespace Go.Proofs.YtmekcccmnkgodaaGreatDoor
open Go.ChangeShapes Go.WideShapes Go.ChangeAt Go.RowKit
set_option linter.unusedVariables false
set_option linter.unusedSimpArgs false
theorem LK.at {md : List Nd} {ks : List Value} {base nb mb g cap gm : Nat} (hk : LK md ks base nb mb g cap gm) {x : Nat} (hx : x < md.length) : ks[x]? = some (ksv ks x) := by
  unfold ksv
  have h := hk.len
  rw [List.getD_eq_getElem?_getD, List.getElem?_eq_getElem (by omega)]
  rfl
theorem LK.apt' {md : List Nd} {ks : List Value} {base nb mb g cap gm : Nat} (hk : LK md ks base nb mb g cap gm) {x y : Nat} (hx : x < md.length) (hy : y < md.length) (hne : x ≠ y) {b : Nat} (h1 : (ksv ks x).ownBlock = some b) (h2 : (ksv ks y).ownBlock = some b) : False := by
  rcases Nat.lt_or_gt_of_ne hne with h | h
  · exact hk.apt x y _ _ b h (hk.at hx) (hk.at hy) h1 h2
  · exact hk.apt y x _ _ b h (hk.at hy) (hk.at hx) h2 h1
/-- what laying a node does -/
def LayP (md : List Nd) (ks : List Value) (base nb mb lb g cap gm cm k lo : Nat) (d : Nd) (T : List Nd) (vs : List Value) (w : World) (e : Ending) (w' : World) : Prop :=
  e = .returned (.int .i64 (T.length : Int)) ∧ ∃ n1 t1 q1, Lay md d.kids (T.length + 1) n1 t1 q1 ∧ LyI md ks base nb mb lb g cap gm cm w' (T ++ nk d n1 :: t1) (vs ++ ksv ks k :: q1.map (ksv ks)) ∧ FR ks base nb g lo (k + 1) w w' ∧ Lr ks base w' (nk d n1 :: t1) (k :: q1)
/-- between two rounds -/
structure RdI (md : List Nd) (ks : List Value) (base nb mb lb g cap gm cm : Nat) (w : World) (k lo : Nat) (d : Nd) (n1 : List Nat) (T : List Nd) (vs : List Value) (l1 r ns : List Nat) (t : List Nd) (q : List Nat) (lo1 : Nat) (wr : World) : Prop where
  spl : d.kids = l1 ++ r
  ly : Lay md l1 (T.length + 1) ns t q
  sg : Sg md lo1 k r
  le : lo ≤ lo1
  tl : t.length = lo1 - lo
  rg : ∀ x ∈ q, lo ≤ x ∧ x < lo1
  li : LyI md ks base nb mb lb g cap gm cm wr (T ++ nk d n1 :: t) (vs ++ ksv ks k :: q.map (ksv ks))
  ow : Own wr base 3 1 (ksv ks k) d.kids.length (kF (ns ++ r))
  kd : Kd md ks base wr lo1 k
  fr : FR ks base nb g lo (k + 1) w wr
  lr : Lr ks base wr t q
  sz : base ≤ wr.heap.size
theorem RdI.below {md : List Nd} {ks : List Value} {base nb mb lb g cap gm cm : Nat} {w : World} {k lo : Nat} {d : Nd} {n1 : List Nat} {T : List Nd} {vs : List Value} {l1 r ns : List Nat} {t : List Nd} {q : List Nat} {lo1 : Nat} {wr wr' : World} (h : RdI md ks base nb mb lb g cap gm cm w k lo d n1 T vs l1 r ns t q lo1 wr) (hb : Below wr.heap.size wr wr') : RdI md ks base nb mb lb g cap gm cm w k lo d n1 T vs l1 r ns t q lo1 wr' :=
  ⟨h.spl, h.ly, h.sg, h.le, h.tl, h.rg, h.li.below hb, h.ow.far fun b e => hb.block b (own_ltG h.ow e).1, fun i d' v h1 h2 h3 h4 => (h.kd i d' v h1 h2 h3 h4).far fun b e => hb.block b (own_ltG (h.kd i d' v h1 h2 h3 h4) e).1, h.fr.trans (FR.of_below hb h.sz), h.lr.far h.ly.len.2 fun x b _ _ hl _ => hb.block b hl, Nat.le_trans h.sz hb.size⟩
theorem put_kF (ns r : List Nat) (c x : Nat) : ∀ j, putF (kF (ns ++ c :: r)) ns.length [.int .i64 ((x : Nat) : Int)] j = kF ((ns ++ [x]) ++ r) j := by
  intro j
  unfold putF kF
  by_cases h : ns.length ≤ j ∧ j < ns.length + [Value.int .i64 ((x : Nat) : Int)].length
  · rw [if_pos h]
    simp only [List.length_cons, List.length_nil] at h
    obtain rfl : j = ns.length := by omega
    simp [List.getD_eq_getElem?_getD]
  · rw [if_neg h]
    simp only [List.length_cons, List.length_nil] at h
    by_cases h2 : j < ns.length
    · rw [List.append_assoc, List.getD_eq_getElem?_getD, List.getD_eq_getElem?_getD, List.getElem?_append_left h2, List.getElem?_append_left h2]
    · rw [List.append_assoc, List.getD_eq_getElem?_getD, List.getD_eq_getElem?_getD, List.getElem?_append_right (by omega), List.getElem?_append_right (by omega)]
      obtain ⟨y, hy⟩ : ∃ y, j - ns.length = y + 1 := ⟨j - ns.length - 1, by omega⟩
      rw [hy]
      rfl
theorem int_block {W : World} {B sz m : Nat} {v : Value} {F : Nat → Value} (h : Own W B 3 sz v m F) {b : Nat} (hb : v.ownBlock = some b) : ∃ cur, W.heap[b]? = some (.cells cur 3 (0, 0)) := by
  rcases h.2 with ⟨h1, _⟩ | ⟨g, cap, cur, rfl, _, h5, _⟩
  · rw [h1] at hb; cases hb
  · obtain rfl : g = b := by simpa [Value.ownBlock] using hb
    exact ⟨cur, h5⟩
/-- a round -/
theorem RdI.next {md : List Nd} {ks : List Value} {base nb mb lb g cap gm cm : Nat} (hk : LK md ks base nb mb g cap gm) {w : World} {k lo : Nat} {d : Nd} {n1 : List Nat} {T : List Nd} {vs : List Value} {l1 r ns : List Nat} {t : List Nd} {q : List Nat} {lo1 c : Nat} {wr w1 : World} (h : RdI md ks base nb mb lb g cap gm cm w k lo d n1 T vs l1 (c :: r) ns t q lo1 wr) (hkm : k < md.length) {dc : Nd} (hdc : md[c]? = some dc) (hs1 : Sg md lo1 c dc.kids) (hs2 : Sg md (c + 1) k r) {bv cv : Nat} (hv : ksv ks k = .slice (some ⟨bv, 0, none⟩) d.kids.length cv) {e : Ending} (hc : LayP md ks base nb mb lb g cap gm cm c lo1 dc (T ++ nk d n1 :: t) (vs ++ ksv ks k :: q.map (ksv ks)) wr e w1) :
    ∃ ns' t' q', ns'.length = ns.length + 1 ∧ RdI md ks base nb mb lb g cap gm cm w k lo d n1 T vs (l1 ++ [c]) r ns' t' q' (c + 1) (w1.setCell ⟨bv, ns.length, none⟩ (.int .i64 ((T.length + 1 + t.length : Nat) : Int))) := by
  obtain ⟨-, n2, t2, q2, L2, I2, F2, R2⟩ := hc
  have z1 := hs1.size L2
  have g1 := hs1.le
  have g2 := hs2.le
  have hle := h.le
  have htl := h.tl
  have el : (T ++ nk d n1 :: t).length = T.length + 1 + t.length := by simp only [List.length_append, List.length_cons]; omega
  rw [el] at L2
  have hvb : (ksv ks k).ownBlock = some bv := by rw [hv]; rfl
  obtain ⟨cg, hcg, _⟩ := h.li.row.block
  have hb0 := own_ltG h.ow hvb
  have hvr : w1.heap[bv]? = wr.heap[bv]? := F2.oth bv hb0.1 (own_ne h.ow h.li.box (by decide) bv hvb) (own_ne h.ow hcg (by decide) bv hvb) fun i u h1 h2 hu hub => hk.apt i k u _ bv (by omega) hu (hk.at hkm) hub hvb
  have hO1 : Own w1 base 3 1 (ksv ks k) d.kids.length (kF (ns ++ c :: r)) := h.ow.far fun b hb => by
    obtain rfl : bv = b := by rw [hvb] at hb; injection hb
    exact hvr
  obtain ⟨cb, hcb⟩ := int_block hO1 hvb
  have oth : ∀ b, b ≠ bv → (w1.setCell ⟨bv, ns.length, none⟩ (.int .i64 ((T.length + 1 + t.length : Nat) : Int))).heap[b]? = w1.heap[b]? := fun b hb => Below.heap_setCell w1 ⟨bv, ns.length, none⟩ _ b hb
  have hsz1 : base ≤ w1.heap.size := Nat.le_trans h.sz F2.b.size
  have hbel : Below base w1 (w1.setCell ⟨bv, ns.length, none⟩ (.int .i64 ((T.length + 1 + t.length : Nat) : Int))) := (Below.refl base w1).setCell (p := ⟨bv, ns.length, none⟩) hb0.2 _
  have hK1 : Kd md ks base w1 (c + 1) k := Kd.step hk (fun i d' v' h1 h2 => h.kd i d' v' (by omega) h2) F2 (.inl (Nat.le_refl _)) h.li.box hcg
  refine ⟨ns ++ [T.length + 1 + t.length], t ++ nk dc n2 :: t2, q ++ c :: q2, by simp, ⟨?_, ?_, hs2, by omega, ?_, ?_, ?_, ?_, ?_, ?_, ?_, ?_⟩⟩
  · rw [h.spl]; simp
  · have := h.ly.append (Lay.cons hdc L2 (.nil _))
    simpa using this
  · simp only [List.length_append, List.length_cons]; omega
  · intro x hx
    rcases List.mem_append.1 hx with hx | hx
    · have := h.rg x hx; omega
    · rcases List.mem_cons.1 hx with rfl | hx
      · omega
      · have := z1.2 x hx; omega
  · have I3 : LyI md ks base nb mb lb g cap gm cm w1 (T ++ nk d n1 :: (t ++ nk dc n2 :: t2)) (vs ++ ksv ks k :: (q ++ c :: q2).map (ksv ks)) := by
      have := I2
      simpa using this
    refine I3.keep fun b hb ⟨cs, ty, h1, h2⟩ => oth b ?_
    rintro rfl
    rw [hcb] at h1
    injection h1 with h1
    injection h1 with _ h1 _
    exact h2 h1.symm
  · have h9 : Own (w1.setCells bv ns.length [.int .i64 ((T.length + 1 + t.length : Nat) : Int)]) base 3 1 (.slice (some ⟨bv, 0, none⟩) d.kids.length cv) d.kids.length (putF (kF (ns ++ c :: r)) ns.length [.int .i64 ((T.length + 1 + t.length : Nat) : Int)]) := Own.put (by rw [← hv]; exact hO1) _ _
    rw [hv]
    exact h9.congr fun j _ => put_kF ns r c _ j
  · intro i d' v' h1 h2 h3 h4
    have hO := hK1 i d' v' h1 h2 h3 h4
    refine hO.far fun b hb => oth b ?_
    rintro rfl
    exact hk.apt i k v' _ b h2 h4 (hk.at hkm) hb hvb
  · refine (h.fr.trans (F2.wide hle (by omega))).trans ⟨hbel, fun b hb h1 h2 h3 => oth b ?_⟩
    rintro rfl
    exact h3 k _ (by omega) (by omega) (hk.at hkm) hvb
  · refine Lr.app ((h.lr.far h.ly.len.2 (w' := w1) fun x b hx hb hl hty => ?_).far h.ly.len.2 fun x b hx hb hl hty => oth b ?_) (R2.far (by have := L2.len; simp only [List.length_cons]; omega) fun x b hx hb hl hty => oth b ?_) h.ly.len.2
    · have hr := h.rg x hx
      have hxm : x < md.length := by omega
      refine F2.oth b hl ?_ ?_ fun i u h1 h2 hu hub => hk.apt x i _ u b (by omega) (hk.at hxm) hu hb hub
      · rintro rfl
        exact absurd (hty _ _ h.li.box) (by decide)
      · rintro rfl
        exact absurd (hty _ _ hcg) (by decide)
    · rintro rfl
      have hr := h.rg x hx
      exact hk.apt' (x := x) (y := k) (by omega) hkm (by omega) hb hvb
    · rintro rfl
      have hr : x < k := by
        rcases List.mem_cons.1 hx with rfl | hx
        · omega
        · have := z1.2 x hx; omega
      exact hk.apt' (x := x) (y := k) (by omega) hkm (by omega) hb hvb
  · exact Nat.le_trans hsz1 hbel.size
/-- behind the last round -/
theorem RdI.done {md : List Nd} {ks : List Value} {base nb mb lb g cap gm cm : Nat} {w : World} {k lo : Nat} {d : Nd} {n1 t0 : List Nat} {t1 : List Nd} {T : List Nd} {vs : List Value} {l1 ns : List Nat} {t : List Nd} {q : List Nat} {lo1 : Nat} {wr : World} (h : RdI md ks base nb mb lb g cap gm cm w k lo d n1 T vs l1 [] ns t q lo1 wr) (hL : Lay md d.kids (T.length + 1) n1 t1 t0) : LayP md ks base nb mb lb g cap gm cm k lo d T vs w (.returned (.int .i64 (T.length : Int))) wr := by
  have e : d.kids = l1 := by rw [h.spl]; simp
  have h1 := h.ly
  rw [← e] at h1
  obtain ⟨rfl, rfl, rfl⟩ := hL.one h1
  refine ⟨rfl, ns, t, q, h1, h.li, h.fr, ?_⟩
  have h2 : Lr ks base wr [nk d ns] [k] := fun j d' x h3 h4 => by
    cases j with
    | zero =>
      injection h3 with h3
      injection h4 with h4
      subst h3 h4
      have := h.ow
      rw [List.append_nil, ← h1.len.1] at this
      exact this
    | succ j => simp at h3
  exact Lr.app h2 h.lr rfl
end Go.Proofs.YtmekcccmnkgodaaGreatDoor
