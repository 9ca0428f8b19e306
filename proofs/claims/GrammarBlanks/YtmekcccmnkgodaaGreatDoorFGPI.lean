import Derived.Test.YtmekcccmnkgodaaGreatDoorFGP9
import Derived.Test.YtmekcccmnkgodaaGreatDoorFGPL
import Derived.ArgAppend
import Derived.Deep.AppendLies
import Derived.Deep.Upon
namespace Go.Proofs.YtmekcccmnkgodaaGreatDoor
open Go.ChangeShapes Go.WideShapes Go.ChangeAt Go.RowKit
set_option linter.unusedVariables false
set_option linter.unusedSimpArgs false
theorem app_anyG {P : Program} (w : World) (base : Nat) (t ty e : TypeId) (i : TypeInfo) (z : Value) (size bytes : Nat) (ht : P.underlying t = some (.slice e)) (hi : P.info? e = some i) (hz : i.zero = some z)
    (hsize : i.size = size) (hby : i.bytes = bytes) (hzs : z.cells.size = size) (hsz : 0 < size) (v : Value) (n : Nat) (xs : List Value) (hown : w.ownsRow base e size v n xs)
    (p : Option Addr) (m c : Nat) (news : List Value) (hl : news.length = m * size) (hnews : m = 0 ∨ ∃ ad, p = some ad ∧ ∀ j u, news[j]? = some u → w.cell? (ad.add j) = some u) (h1 : ∀ u ∈ news, u.oneCell' = true)
    (h63 : n + m ≤ maxLen) (hbytes : (n + m) * bytes ≤ 140737488355328) (hbase : base ≤ w.heap.size) :
    ∃ v' w', (Builtin.append_ #[t, t] ty #[v, .slice p m c]).run P w = .ok v' w' ∧ w'.ownsRow base e size v' (n + m) (xs ++ news) ∧ w.grownBy w' v.ownBlock ∧ (v'.ownBlock = v.ownBlock ∨ v'.ownBlock = some w.heap.size) := by
  by_cases h0 : m = 0
  · subst h0
    obtain rfl : news = [] := List.length_eq_zero_iff.1 (by simpa using hl)
    obtain ⟨vp, vc, e9, _⟩ := own_form' (own_of_rowT hown)
    subst e9
    have hle : n ≤ vc := by
      rcases hown.2 with ⟨h2, h3⟩ | ⟨g, cap, cur, h2, _, _, h3, _⟩
      · omega
      · injection h2 with e1 e2 e3
        omega
    refine ⟨.slice vp n vc, w, ?_, by simpa using hown, ⟨rfl, rfl, rfl, Nat.le_refl _, fun _ _ _ => rfl⟩, .inl rfl⟩
    refine run_append_nothing w t t ty e i ht hi vp n vc hle (.slice p 0 c) ?_
    cases p with
    | none => exact Src.ofNil w ht c
    | some a => exact Src.ofSlice w ht a 0 c [] (by simp) (fun j u h => by simp at h) (fun u h => by cases h)
  · rcases hnews with h | ⟨ad, rfl, hc⟩
    · exact absurd h h0
    obtain ⟨v', w', hr, h2, h3, h4, h5⟩ := run_append_own_at (P := P) w base t ty e i z size bytes ht hi hz hsize hby hzs hsz v n xs hown ad m c news hl hc h1 h63 hbytes hbase
    exact ⟨v', w', hr, h2, h3, h5⟩
theorem wpList_appG {P : Program} {w : World} {ops : Array Oper} {rest : List Oper} {o : Oper} {a : Act} {Q : Exit → Act → World → Prop} (hgd : o.guard = none) (s x : Operand) (t : TypeId)
    (ho : o.op = .call { callee := .builtin .append, args := #[s, x], argTypes := #[t, t] }) (base : Nat) (e : TypeId) (i : TypeInfo) (z : Value) (size bytes : Nat) (ht : P.underlying t = some (.slice e)) (hi : P.info? e = some i) (hz : i.zero = some z)
    (hsize : i.size = size) (hby : i.bytes = bytes) (hzs : z.cells.size = size) (hsz : 0 < size) (v : Value) (n : Nat) (xs : List Value) (hs : a.eval s = v) (hown : w.ownsRow base e size v n xs)
    (p : Option Addr) (m c : Nat) (news : List Value) (hx : a.eval x = .slice p m c) (hl : news.length = m * size) (hnews : m = 0 ∨ ∃ ad, p = some ad ∧ ∀ j u, news[j]? = some u → w.cell? (ad.add j) = some u) (h1 : ∀ u ∈ news, u.oneCell' = true)
    (h63 : n + m ≤ maxLen) (hbytes : (n + m) * bytes ≤ 140737488355328) (hbase : base ≤ w.heap.size)
    (h : ∀ v' w', w'.ownsRow base e size v' (n + m) (xs ++ news) → w.grownBy w' v.ownBlock → (v'.ownBlock = v.ownBlock ∨ v'.ownBlock = some w.heap.size) → wpList P ops Q rest (a.put o.dst v') w') :
    wpList P ops Q (o :: rest) a w := by
  obtain ⟨v', w', hr, h2, h3, h5⟩ := app_anyG w base t o.type e i z size bytes ht hi hz hsize hby hzs hsz v n xs hown p m c news hl hnews h1 h63 hbytes hbase
  refine wpList_plain hgd fun K hK => ?_
  unfold Oper.wp
  simp [execOp, ho, resolve, invoke, builtin, hs, hx, hr, Result.andThen]
  exact hK _ _ (h _ _ h2 h3 h5)
/-! ### a key more in a rising list -/
theorem infoIn : (Tryz.prog.info? 3).map (fun i => (i.zero, i.size, i.bytes)) = some (some (.int .i64 0), 1, 8) := by kernel_rfl
theorem kF_app (l m : List Nat) : cellsF (kF l) (l.length * 1) ++ cellsF (kF m) (m.length * 1) = cellsF (kF (l ++ m)) ((l.length + m.length) * 1) := by
  rw [cellsF_append, Nat.add_mul]
  refine cellsF_congr fun j hj => ?_
  unfold kF
  by_cases h : j < l.length * 1
  · rw [if_pos h, List.getD_eq_getElem?_getD, List.getD_eq_getElem?_getD, List.getElem?_append_left (by omega)]
  · rw [if_neg h, List.getD_eq_getElem?_getD, List.getD_eq_getElem?_getD, List.getElem?_append_right (by omega)]
    simp
/-- a row of places of one's own is written: of the parser nothing -/
theorem PW.app {W W' : World} {base pb : Nat} {lp : Option Addr} {lc n : Nat} {X : Nat → Tk} {s : St} {ks : List Value} (h : PW W base pb lp lc n X s ks) {B m : Nat} {v : Value} {F : Nat → Value} (hv : Own W B 3 1 v m F) (hB : base ≤ B) (hf : Fresh ks v) (hg : W.grownBy W' v.ownBlock) : PW W' base pb lp lc n X s ks := by
  have keep : ∀ k, k < W.heap.size → (∀ g, v.ownBlock = some g → k ≠ g) → W'.heap[k]? = W.heap[k]? := fun k hk hne => hg.block k hk (fun e => hne k e.symm rfl)
  obtain ⟨mv, h1, h2⟩ := h.blk
  have other : ∀ {t : TypeId} {sz q : Nat} {u : Value} {H : Nat → Value}, Own W base t sz u q H → t ≠ 3 → ∀ k, u.ownBlock = some k → W'.heap[k]? = W.heap[k]? := fun {t sz q u H} hO ht k hk => keep k (own_ltG hO hk).1 fun g hg2 e => by
    subst e
    rcases hv.2 with ⟨h9, _⟩ | ⟨g', cap, cur, rfl, _, h5, _⟩
    · rw [h9] at hg2; cases hg2
    · have : g' = k := by simpa [Value.ownBlock] using hg2
      subst this
      exact own_ne hO h5 ht g' hk rfl
  refine ⟨⟨mv, ?_, h2.far (other h2 (by decide))⟩, ?_, h.len, fun i d u hd hu => ?_, h.apt, h.pl, h.nx, h.dp, Nat.le_trans h.sz hg.size⟩
  · exact (keep pb (Array.getElem?_eq_some_iff.1 h1).1 fun g hg2 e => own_ne hv h1 (by decide) g hg2 e.symm).trans h1
  · rcases h.tx with h9 | ⟨b, o, e, hl, hc⟩
    · exact .inl h9
    · refine .inr ⟨b, o, e, hl, fun i r hi hr => (World.cell?_of_block (a := ⟨b, o + i * 5 + r, none⟩) (keep b (Nat.lt_of_lt_of_le hl h.sz) fun g hg2 e => ?_)).trans (hc i r hi hr)⟩
      have := (own_ltG hv hg2).2
      omega
  · refine (h.kid i d u hd hu).far fun k hk => keep k (own_ltG (h.kid i d u hd hu) hk).1 fun g hg2 e => ?_
    subst e
    exact hf i u k hu hk hg2
theorem Now.app {X : Nat → Tk} {n : Nat} {w : World} {base pb : Nat} {lp : Option Addr} {lc : Nat} {ks0 : List Value} {W : World} {S : St} {ks : List Value} {W' : World} (h : Now X n w base pb lp lc ks0 W S ks) {m : Nat} {v : Value} {F : Nat → Value} (hv : Own W w.heap.size 3 1 v m F) (hf : Fresh ks v) (hg : W.grownBy W' v.ownBlock) : Now X n w base pb lp lc ks0 W' S ks := by
  have hB : ∀ k, k < w.heap.size → W'.heap[k]? = W.heap[k]? := fun k hk => hg.block k (Nat.lt_of_lt_of_le hk h.k.size) fun e => by have := (own_ltG hv e.symm).2; omega
  refine ⟨⟨h.s.p.app hv h.z hf hg, fun k hk => ?_, h.s.b⟩, ⟨⟨hg.os.trans h.k.b.os, hg.tape.trans h.k.b.tape, hg.output.trans h.k.b.output, Nat.le_trans h.k.size hg.size, fun k hk => (hB k (Nat.lt_of_lt_of_le hk h.z)).trans (h.k.b.block k hk)⟩, fun k cs ty fz hk h1 h2 => ?_⟩, h.g, h.z⟩
  · exact (World.cell?_of_block (a := ⟨1, k, none⟩) (hB _ (Nat.lt_of_lt_of_le h.s.b h.z))).trans (h.s.g k hk)
  · exact (hB k (Array.getElem?_eq_some_iff.1 hk).1).trans (h.k.oth k cs ty fz hk h1 h2)
set_option maxRecDepth 100000 in
/-- places behind places -/
theorem wpList_kids {X : Nat → Tk} {n : Nat} {w : World} {base pb : Nat} {lp : Option Addr} {lc : Nat} {ks0 : List Value} {W : World} {S : St} {ks : List Value} {ops : Array Oper} {rest : List Oper} {o : Oper} {a : Act} {Q : Exit → Act → World → Prop} (hgd : o.guard = none) (sl x : Operand) (ho : o.op = .call { callee := .builtin .append, args := #[sl, x], argTypes := #[42, 42] }) (h : Now X n w base pb lp lc ks0 W S ks) (l : List Nat) (ll : Nat) (hL : ll = l.length) (p : Option Addr) (c : Nat) (hs : a.eval sl = .slice p ll c) (hown : Own W w.heap.size 3 1 (.slice p ll c) l.length (kF l)) (hf : Fresh ks (.slice p ll c)) (l2 : List Nat) (l3 : Nat) (hL2 : l3 = l2.length) (p2 : Option Addr) (c2 : Nat) (hx : a.eval x = .slice p2 l3 c2) (h2 : l2.length = 0 ∨ ∃ ad, p2 = some ad ∧ ∀ j u, (cellsF (kF l2) (l2.length * 1))[j]? = some u → W.cell? (ad.add j) = some u) (hlen : l.length + l2.length ≤ 100000)
    (hK : ∀ q c' w', Own w' w.heap.size 3 1 (.slice q (ll + l3) c') (l ++ l2).length (kF (l ++ l2)) → Fresh ks (.slice q (ll + l3) c') → Now X n w base pb lp lc ks0 w' S ks → (∀ (b : Nat) (cs : Array Value) (fz : Nat × Nat), W.heap[b]? = some (.cells cs 40 fz) → w'.heap[b]? = some (.cells cs 40 fz)) → wpList Tryz.prog ops Q rest (a.put o.dst (.slice q (ll + l3) c')) w') : wpList Tryz.prog ops Q (o :: rest) a W := by
  subst hL hL2
  obtain ⟨i0, hi0, hz0, hz1, hz2⟩ := info_parts infoIn
  refine wpList_appG hgd sl x 42 ho w.heap.size 3 i0 _ 1 8 Tryz.underlying42 hi0 hz0 hz1 hz2 rfl (by decide) (.slice p l.length c) l.length (cellsF (kF l) (l.length * 1)) hs hown p2 l2.length c2 (cellsF (kF l2) (l2.length * 1)) hx (by rw [cellsF_len]) h2 (fun u hu => by
    obtain ⟨j, hj⟩ := List.getElem?_of_mem hu
    have hjl := (List.getElem?_eq_some_iff.1 hj).1
    rw [cellsF_len] at hjl
    rw [cellsF_at _ hjl] at hj
    injection hj with hj
    rw [← hj]
    rfl) (by unfold maxLen; omega) (by omega) h.k.size ?_
  intro v' w' ho' hg' hat
  rw [kF_app] at ho'
  have hO : Own w' w.heap.size 3 1 v' (l.length + l2.length) (kF (l ++ l2)) := ho'
  obtain ⟨q, c', e, _⟩ := own_form' hO
  subst e
  have hO9 : Own w' w.heap.size 3 1 (.slice q (l.length + l2.length) c') (l ++ l2).length (kF (l ++ l2)) := by rw [show (l ++ l2).length = l.length + l2.length from by simp]; exact hO
  refine hK q c' w' hO9 ?_ (h.app hown hf hg') fun b cs fz hb => (hg'.block b (Array.getElem?_eq_some_iff.1 hb).1 fun e => own_ne hown hb (by decide) b e.symm rfl).trans hb
  intro i u b hu hub hvb
  rcases hat with e | e
  · exact hf i u b hu hub (e.symm.trans hvb)
  · have h1 := h.s.p.old i u b hu hub
    rw [e] at hvb
    injection hvb with hvb
    omega
set_option maxRecDepth 100000 in
/-- a place behind places -/
theorem wpList_kid {X : Nat → Tk} {n : Nat} {w : World} {base pb : Nat} {lp : Option Addr} {lc : Nat} {ks0 : List Value} {W : World} {S : St} {ks : List Value} {ops : Array Oper} {rest : List Oper} {o : Oper} {a : Act} {Q : Exit → Act → World → Prop} (hgd : o.guard = none) (sl x : Operand) (ho : o.op = .call { callee := .builtin .append, args := #[sl, x], argTypes := #[42, 42] }) (h : Now X n w base pb lp lc ks0 W S ks) (l : List Nat) (ll : Nat) (hL : ll = l.length) (p : Option Addr) (c : Nat) (hs : a.eval sl = .slice p ll c) (hown : Own W w.heap.size 3 1 (.slice p ll c) l.length (kF l)) (hf : Fresh ks (.slice p ll c)) (y : Nat) (hx : a.eval x = .slice (some ⟨W.heap.size, 0, none⟩) 1 1) (hlen : l.length ≤ 90000)
    (hK : ∀ q c' w', Own w' w.heap.size 3 1 (.slice q (ll + 1) c') (l ++ [y]).length (kF (l ++ [y])) → Fresh ks (.slice q (ll + 1) c') → Now X n w base pb lp lc ks0 w' S ks → (∀ (b : Nat) (cs : Array Value) (fz : Nat × Nat), W.heap[b]? = some (.cells cs 40 fz) → w'.heap[b]? = some (.cells cs 40 fz)) → wpList Tryz.prog ops Q rest (a.put o.dst (.slice q (ll + 1) c')) w') : wpList Tryz.prog ops Q (o :: rest) a (W.alloc (.cells #[.int .i64 (y : Int)] 3)) := by
  have hb : Below W.heap.size W (W.alloc (.cells #[.int .i64 (y : Int)] 3)) := (Below.refl _ W).alloc (Nat.le_refl _) _
  refine wpList_kids hgd sl x ho (h.below hb) l ll hL p c hs (own_more' hown hb) hf [y] 1 rfl (some ⟨W.heap.size, 0, none⟩) 1 hx (.inr ⟨_, rfl, fun j u hj => ?_⟩) (by simp; omega) fun q c' w' h1 h2 h3 h4 => hK q c' w' h1 h2 h3 fun b cs fz hbb => h4 b cs fz ((hb.block b (Array.getElem?_eq_some_iff.1 hbb).1).trans hbb)
  have hj0 := (List.getElem?_eq_some_iff.1 hj).1
  rw [cellsF_len] at hj0
  have hj1 : j = 0 := by simp at hj0; omega
  subst hj1
  rw [cellsF_at _ (by simp)] at hj
  injection hj with hj
  rw [← hj]
  simp [Addr.add, kF]
theorem own_src {W : World} {B : Nat} {l : List Nat} {p : Option Addr} {c : Nat} (h : Own W B 3 1 (.slice p l.length c) l.length (kF l)) : l.length = 0 ∨ ∃ ad, p = some ad ∧ ∀ j u, (cellsF (kF l) (l.length * 1))[j]? = some u → W.cell? (ad.add j) = some u := by
  rcases h.form with ⟨_, h2⟩ | ⟨g, c', h1, _⟩
  · exact .inl h2
  · injection h1 with h1 _ h3
    subst h1 h3
    refine .inr ⟨_, rfl, fun j u hj => ?_⟩
    have hjl := (List.getElem?_eq_some_iff.1 hj).1
    rw [cellsF_len] at hjl
    rw [cellsF_at _ hjl] at hj
    injection hj with hj
    rw [← hj, addr_add0, Nat.zero_add]
    exact h.cell hjl
/-- how far the parser is, as the world says it -/
def nxW (pb : Nat) (W : World) : Nat := (intOf ((W.cell? ⟨pb, 1, none⟩).getD undef)).toNat
theorem Now.nx {X : Nat → Tk} {n : Nat} {w : World} {base pb : Nat} {lp : Option Addr} {lc : Nat} {ks0 : List Value} {W : World} {S : St} {ks : List Value} (h : Now X n w base pb lp lc ks0 W S ks) : nxW pb W = S.nx := by
  obtain ⟨mv, hb, _⟩ := h.s.p.blk
  obtain ⟨_, c1, _, _⟩ := cell_box4 hb
  unfold nxW
  rw [c1]
  simp [intOf]
theorem own_nil0 (W : World) (B : Nat) : Own W B 3 1 (.slice none 0 0) ([] : List Nat).length (kF []) := World.ownsRow_nil _ _ _ _
theorem fresh_nil (ks : List Value) : Fresh ks (.slice none 0 0) := fun _ _ _ _ _ h => by cases h
theorem fr2p {X : Nat → Tk} {n f : Nat} {m : Mt} {s s' : St} {v : List Nat} (hs : m.sc = false) (hp : m.pg = true) (h : P X n f m s = .ok s' v) : s.nx < s'.nx ∧ (s.nx ≤ n → s'.nx ≤ n) ∧ s'.dp = s.dp ∧ s.md.length ≤ s'.md.length ∧ s'.md.length + s.nx ≤ s.md.length + s'.nx + m.cr := by
  obtain ⟨h1, h2, h3, h4, h6, h5⟩ := fr X n f m s s' v h
  exact ⟨h6 hp, h2, h3, h4, h5 hs⟩
/-- what holds ahead of each round of a loop that gathers places -/
structure LpI (X : Nat → Tk) (n : Nat) (w : World) (base pb : Nat) (lp : Option Addr) (lc : Nat) (ks0 : List Value) (f : Nat) (R : Pr (List Nat)) (rest : St → List Nat → Pr (List Nat)) (mk : List Nat → Mt) (B : World → Prop) (d0 : Nat) (g : Nat) (l : List Nat) (S : St) (K : List Value) (p : Option Addr) (c : Nat) (wr : World) : Prop where
  f : g ≤ f
  r : (P X n g (mk l) S).bind rest = R
  n : Now X n w base pb lp lc ks0 wr S K
  o : Own wr w.heap.size 3 1 (.slice p l.length c) l.length (kF l)
  h : Fresh K (.slice p l.length c)
  b : B wr
  m : S.md.length ≤ S.nx
  d : S.dp = d0
  l : l.length ≤ S.nx
theorem call_binS {X : Nat → Tk} {n : Nat} {w : World} {base pb : Nat} {lp : Option Addr} {lc : Nat} {ks0 : List Value} {W : World} {s : St} {ks : List Value} {f : Nat} (hc : CT X n f) (st : Nat) (h : Now X n w base pb lp lc ks0 W s ks) (hm : s.md.length + 0 ≤ s.nx) (hp : 1 ≤ st + 1 ∧ st + 1 ≤ 10) (hne : P X n f (.bin (st + 1)) s ≠ .out) : Calls Tryz.prog 100 #[.pointer (some ⟨pb, 0, none⟩), .int .i64 ((st : Int) + 1)] W fun e w' => (∃ er, P X n f (.bin (st + 1)) s = .bad er ∧ PanP base w er e w') ∨ (∃ s' v ks', P X n f (.bin (st + 1)) s = .ok s' v ∧ e = .returned (.int .i64 (hd v : Int)) ∧ Now X n w base pb lp lc ks0 w' s' ks' ∧ KG base W w' ∧ Gw W ks ks') := call_bin hc (st + 1) h hm hp hne
theorem call_addS {X : Nat → Tk} {n : Nat} {w : World} {base pb : Nat} {lp : Option Addr} {lc : Nat} {ks0 : List Value} {W : World} {s : St} {ks : List Value} (h : Now X n w base pb lp lc ks0 W s ks) (kids : List Nat) (kv : Value) (hk : Own W w.heap.size 3 1 kv kids.length (kF kids)) (hf : Fresh ks kv) (hm : s.md.length ≤ 20000) : Calls Tryz.prog 36 #[.pointer (some ⟨pb, 0, none⟩), .agg #[.int .i64 0, .string ⟨#[]⟩, .int .u64 0, .int .i64 1, .int .i64 1], .agg #[.int .i64 1, .string ⟨#[]⟩, .int .u64 0, .int .i64 0, kv, .int .i64 0, .int .i64 0]] W fun e w' => e = .returned (.int .i64 (s.md.length : Int)) ∧ ∃ ks', Now X n w base pb lp lc ks0 w' ⟨s.nx, s.dp, s.md ++ [⟨1, [], 0, 0, kids, 1, 1⟩]⟩ ks' ∧ KG base W w' := call_add h ⟨0, [], 0, 1, 1⟩ 1 [] 0 0 rfl 0 kids kv hk hf hm
/-- what holds ahead of each round of a row of operators -/
structure LpB (X : Nat → Tk) (n : Nat) (w : World) (base pb : Nat) (lp : Option Addr) (lc : Nat) (ks0 : List Value) (f : Nat) (R : Pr (List Nat)) (st d0 : Nat) (g left : Nat) (S : St) (K : List Value) (wr : World) : Prop where
  f : g ≤ f
  r : P X n g (.binL st left) S = R
  n : Now X n w base pb lp lc ks0 wr S K
  m : S.md.length ≤ S.nx
end Go.Proofs.YtmekcccmnkgodaaGreatDoor
