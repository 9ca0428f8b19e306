import Derived.Test.YtagchghhpggnlaaGreatJQ0
import Derived.Test.YtagchghhpggnlaaGreatJSV2
import Derived.Laws.CopyOwn
import Derived.Maps.AppendAt
namespace Go.Proofs.YtagchghhpggnlaaGreat
open Go.ChangeShapes Go.WideShapes Go.ChangeAt Go.RowKit
set_option linter.unusedVariables false
set_option linter.unusedSimpArgs false

theorem sinf {i? : Option TypeInfo} {z : Value} {s b : Nat} (h : i?.map (fun i => (i.zero, i.size, i.bytes)) = some (some z, s, b)) : ∃ i, i? = some i ∧ i.zero = some z ∧ i.size = s ∧ i.bytes = b := by
  cases i? with
  | none => cases h
  | some i =>
    simp at h
    exact ⟨i, rfl, h.1, h.2.1, h.2.2⟩
theorem infoPG : (Tryz.prog.info? 93).map (fun i => (i.zero, i.size, i.bytes)) = some (some (.agg #[.int .i64 0, .int .i64 0, .slice none 0 0, .slice none 0 0]), 4, 64) := by kernel_rfl
theorem infoPT : (Tryz.prog.info? 87).map (fun i => (i.zero, i.size, i.bytes)) = some (some (.agg #[.int .i64 0, .slice none 0 0]), 2, 32) := by kernel_rfl
theorem infoST : (Tryz.prog.info? 72).map (fun i => (i.zero, i.size, i.bytes)) = some (some (.agg #[.int .u64 0, .int .i64 0, .int .i64 0, .int .i64 0]), 4, 32) := by kernel_rfl
theorem infoW8 : (Tryz.prog.info? 2).map (fun i => (i.zero, i.size, i.bytes)) = some (some (.int .i64 0), 1, 8) := by kernel_rfl
/-- all blocks but these stay -/
structure Kb (S : Nat → Prop) (W W' : World) : Prop where
  size : W.heap.size ≤ W'.heap.size
  block : ∀ k, k < W.heap.size → ¬ S k → W'.heap[k]? = W.heap[k]?
theorem Kb.trans {S : Nat → Prop} {a b c : World} (h : Kb S a b) (h' : Kb S b c) : Kb S a c := ⟨Nat.le_trans h.size h'.size, fun k hk hs => (h'.block k (Nat.lt_of_lt_of_le hk h.size) hs).trans (h.block k hk hs)⟩
theorem Kb.below {S : Nat → Prop} {W W' : World} (h : Below W.heap.size W W') : Kb S W W' := ⟨h.size, fun k hk _ => h.block k hk⟩
theorem Kb.set {S : Nat → Prop} (W : World) (b k : Nat) (v : Value) (h : S b) : Kb S W (W.setCell ⟨b, k, none⟩ v) := ⟨by simp [World.setCell], fun j _ hs => Below.heap_setCell _ _ _ _ fun e => hs (by show S j; rw [show j = b from e]; exact h)⟩
theorem Kb.grown {W W' : World} {r : Option Nat} (h : W.grownBy W' r) : Kb (fun k => some k = r) W W' := ⟨h.size, fun k hk hs => h.block k hk hs⟩
theorem cell_kb {S : Nat → Prop} {W W' : World} {a : Addr} (h : Kb S W W') (hlt : a.block < W.heap.size) (hs : ¬ S a.block) : W'.cell? a = W.cell? a := World.cell?_of_block (h.block _ hlt hs)
theorem KAt.kb {S : Nat → Prop} {W W' : World} {p : Option Addr} {n : Nat} {K : Nat → Int} (h : KAt W p n K) (hk : Kb S W W') (hs : ∀ g o, p = some ⟨g, o, none⟩ → ¬ S g) : KAt W' p n K := by
  rcases h with h | ⟨g, o, rfl, hl, hc⟩
  · exact .inl h
  · exact .inr ⟨g, o, rfl, Nat.lt_of_lt_of_le hl hk.size, fun j hj => (cell_kb (a := ⟨g, o + j, none⟩) hk hl (hs g o rfl)).trans (hc j hj)⟩
theorem IAt.kb {S : Nat → Prop} {W W' : World} {p : Option Addr} {n : Nat} {op a b : Nat → Int} (h : IAt W p n op a b) (hk : Kb S W W') (hs : ∀ g o, p = some ⟨g, o, none⟩ → ¬ S g) : IAt W' p n op a b := by
  rcases h with h | ⟨g, o, rfl, hl, hc⟩
  · exact .inl h
  · exact .inr ⟨g, o, rfl, Nat.lt_of_lt_of_le hl hk.size, fun j hj => ⟨(cell_kb (a := ⟨g, o + j * 3, none⟩) hk hl (hs g o rfl)).trans (hc j hj).1, (cell_kb (a := ⟨g, o + j * 3 + 1, none⟩) hk hl (hs g o rfl)).trans (hc j hj).2.1, (cell_kb (a := ⟨g, o + j * 3 + 2, none⟩) hk hl (hs g o rfl)).trans (hc j hj).2.2⟩⟩
theorem PAt.kb {S : Nat → Prop} {W W' : World} {P : Pg} {v : PgV} (h : PAt W P v) (hk : Kb S W W') (h1 : ∀ g o, v.cp = some ⟨g, o, none⟩ → ¬ S g) (h2 : ∀ g o, v.ep = some ⟨g, o, none⟩ → ¬ S g) : PAt W' P v := ⟨h.1.kb hk h1, h.2.kb hk h2⟩
/-- a list of the call's own, that lies aside of a row -/
def EA (W : World) (r : Value) (b : Nat) (p : Option Addr) : Prop := ∀ g o, p = some ⟨g, o, none⟩ → b ≤ g ∧ g < W.heap.size ∧ some g ≠ r.ownBlock
theorem EA.step {W W1 W9 : World} {r v' : Value} {b : Nat} {p : Option Addr} (h : EA W r b p) (h1 : W.heap.size ≤ W1.heap.size) (h2 : W1.heap.size ≤ W9.heap.size) (hv : v'.ownBlock = r.ownBlock ∨ v'.ownBlock = some W1.heap.size) : EA W9 v' b p := fun g o e => by
  obtain ⟨a1, a2, a3⟩ := h g o e
  refine ⟨a1, by omega, ?_⟩
  rcases hv with hv | hv
  · rw [hv]
    exact a3
  · rw [hv]
    intro e9
    injection e9 with e9
    omega
theorem EA.fresh {W W1 W9 : World} {r v' : Value} {b : Nat} {p : Option Addr} (h : ∀ g o, p = some ⟨g, o, none⟩ → W.heap.size ≤ g ∧ g < W1.heap.size) (hb : b ≤ W.heap.size) (hr : ∀ k, r.ownBlock = some k → k < W.heap.size) (h2 : W1.heap.size ≤ W9.heap.size) (hv : v'.ownBlock = r.ownBlock ∨ v'.ownBlock = some W1.heap.size) : EA W9 v' b p := fun g o e => by
  obtain ⟨a1, a2⟩ := h g o e
  refine ⟨by omega, by omega, ?_⟩
  intro e9
  rcases hv with hv | hv
  · rw [hv] at e9
    have := hr g e9.symm
    omega
  · rw [hv] at e9
    injection e9 with e9
    omega
theorem step_ap {P : Program} {ops : Array Oper} {o : Oper} {a : Act} {w : World} {K : Act → World → Prop} {Q : Exit → Act → World → Prop} {E : Prop}
    (hg : o.guard = none) (s x : Operand) (t : TypeId) (hop : o.op = Op.call { callee := Callee.builtin Builtin.append, args := #[s, x], argTypes := #[t, t] })
    (base : Nat) (e : TypeId) (i : TypeInfo) (z : Value) (size bytes : Nat) (ht : P.underlying t = some (.slice e)) (hi : P.info? e = some i) (hz : i.zero = some z)
    (hsize : i.size = size) (hby : i.bytes = bytes) (hzs : z.cells.size = size) (hsz : 0 < size)
    (v : Value) (n : Nat) (xs : List Value) (hs : a.eval s = v) (hown : w.ownsRow base e size v n xs)
    (ad : Addr) (m c : Nat) (news : List Value) (hx : a.eval x = .slice (some ad) m c) (hl : news.length = m * size) (hnews : ∀ j u, news[j]? = some u → w.cell? (ad.add j) = some u) (h1 : ∀ u ∈ news, u.oneCell' = true)
    (h63 : n + m ≤ maxLen) (hbytes : (n + m) * bytes ≤ 140737488355328) (hbase : base ≤ w.heap.size)
    (hK : ∀ v' w', w'.ownsRow base e size v' (n + m) (xs ++ news) → w.grownBy w' v.ownBlock → (v'.ownBlock = v.ownBlock ∨ v'.ownBlock = some w.heap.size) → K (a.put o.dst v') w') :
    if Region.wanted o (yielded ops a.tmps) = true then Oper.wp P o a w K Q else E := by
  have hw : Region.wanted o (yielded ops a.tmps) = true := by simp [Region.wanted, hg]
  rw [if_pos hw]
  obtain ⟨v', w', hr, h2, h3, h4, h5⟩ := run_append_own_at (P := P) w base t o.type e i z size bytes ht hi hz hsize hby hzs hsz v n xs hown ad m c news hl hnews h1 h63 hbytes hbase
  unfold Oper.wp execOp
  simp only [hop, resolve, invoke, builtin, Sem.run_bind, Sem.run_pure, Result.andThen_ok, List.map_toArray, List.map_cons, List.map_nil, hs, hx, hr]
  exact hK _ _ h2 h3 h5
/-- the cells of n programs -/
def pgL (P : Pg) (u : PgV) : List Value := [.int .i64 P.words, .int .i64 P.locals, .slice u.cp P.n u.cc, .slice u.ep P.m u.ec]
def pgF (P : Nat → Pg) (V : Nat → PgV) (x : Nat) : Value := (pgL (P (x / 4)) (V (x / 4))).getD (x % 4) undef
theorem pg_app (P : Nat → Pg) (V : Nat → PgV) (i : Nat) (u : PgV) : cellsF (pgF P V) (i * 4) ++ pgL (P i) u = cellsF (pgF P (fun j => if j = i then u else V j)) ((i + 1) * 4) := by
  have e : pgL (P i) u = cellsF (fun r => (pgL (P i) u).getD r undef) 4 := rfl
  rw [e, cellsF_append, show (i + 1) * 4 = i * 4 + 4 by omega]
  refine cellsF_congr fun j hj => ?_
  by_cases h : j < i * 4
  · rw [if_pos h]
    unfold pgF
    dsimp only
    rw [if_neg (by omega)]
  · rw [if_neg h]
    unfold pgF
    dsimp only
    rw [show j / 4 = i by omega, if_pos rfl, show j % 4 = j - i * 4 by omega]
def ptL (x : Int) (u : Option Addr) (n c : Nat) : List Value := [.int .i64 x, .slice u n c]
def ptF (pr : Nat → Int) (nw : Nat → Nat) (wp : Nat → Option Addr) (wc : Nat → Nat) (x : Nat) : Value := (ptL (pr (x / 2)) (wp (x / 2)) (nw (x / 2)) (wc (x / 2))).getD (x % 2) undef
theorem pt_app (pr : Nat → Int) (nw : Nat → Nat) (wp : Nat → Option Addr) (wc : Nat → Nat) (i : Nat) (u : Option Addr) (c : Nat) : cellsF (ptF pr nw wp wc) (i * 2) ++ ptL (pr i) u (nw i) c = cellsF (ptF pr nw (fun j => if j = i then u else wp j) (fun j => if j = i then c else wc j)) ((i + 1) * 2) := by
  have e : ptL (pr i) u (nw i) c = cellsF (fun r => (ptL (pr i) u (nw i) c).getD r undef) 2 := rfl
  rw [e, cellsF_append, show (i + 1) * 2 = i * 2 + 2 by omega]
  refine cellsF_congr fun j hj => ?_
  by_cases h : j < i * 2
  · rw [if_pos h]
    unfold ptF
    dsimp only
    rw [if_neg (by omega), if_neg (by omega)]
  · rw [if_neg h]
    unfold ptF
    dsimp only
    rw [show j / 2 = i by omega, if_pos rfl, if_pos rfl, show j % 2 = j - i * 2 by omega]
def stL (S : St) : List Value := [.int .u64 S.t, .int .i64 S.d, .int .i64 S.k, .int .i64 S.v]
def stF (S : Nat → St) (x : Nat) : Value := (stL (S (x / 4))).getD (x % 4) undef
theorem stF_one (S : Nat → St) (x : Nat) : (stF S x).oneCell' = true := by
  unfold stF stL
  have : x % 4 = 0 ∨ x % 4 = 1 ∨ x % 4 = 2 ∨ x % 4 = 3 := by omega
  rcases this with h | h | h | h <;> rw [h] <;> rfl
theorem StAt.cellsAt {W : World} {g o n : Nat} {S : Nat → St} (hc : ∀ j, j < n → W.cell? ⟨g, o + j * 4, none⟩ = some (.int .u64 (S j).t) ∧ W.cell? ⟨g, o + j * 4 + 1, none⟩ = some (.int .i64 (S j).d) ∧ W.cell? ⟨g, o + j * 4 + 2, none⟩ = some (.int .i64 (S j).k) ∧ W.cell? ⟨g, o + j * 4 + 3, none⟩ = some (.int .i64 (S j).v)) : ∀ x, x < n * 4 → W.cell? ⟨g, o + x, none⟩ = some (stF S x) := fun x hx => by
  obtain ⟨i, r, hr, rfl⟩ : ∃ i r, r < 4 ∧ x = i * 4 + r := ⟨x / 4, x % 4, by omega, by omega⟩
  obtain ⟨c0, c1, c2, c3⟩ := hc i (by omega)
  unfold stF stL
  rw [show (i * 4 + r) / 4 = i by omega, show (i * 4 + r) % 4 = r by omega, ← Nat.add_assoc]
  have : r = 0 ∨ r = 1 ∨ r = 2 ∨ r = 3 := by omega
  rcases this with rfl | rfl | rfl | rfl
  · exact c0
  · exact c1
  · exact c2
  · exact c3
theorem own_ps {W : World} {base n : Nat} {v : Value} {P : Nat → Pg} {V : Nat → PgV} (h : Own W base 93 4 v n (pgF P V)) (hp : ∀ j, j < n → PAt W (P j) (V j)) : ∃ q c, v = .slice q n c ∧ PsAt W q n P V := by
  rcases h.form with ⟨h1, h2⟩ | ⟨g, c, h1, h2, h3⟩
  · exact ⟨none, 0, by rw [h1, h2], .inl h2⟩
  · subst h1
    refine ⟨_, c, rfl, .inr ⟨g, 0, rfl, h3, fun j hj => ?_, hp⟩⟩
    have key : ∀ r, r < 4 → W.cell? ⟨g, 0 + j * 4 + r, none⟩ = some ((pgL (P j) (V j)).getD r undef) := fun r hr => by
      rw [Nat.zero_add, h.cell (j := j * 4 + r) (by omega)]
      unfold pgF
      rw [show (j * 4 + r) / 4 = j by omega, show (j * 4 + r) % 4 = r by omega]
    exact ⟨key 0 (by decide), key 1 (by decide), key 2 (by decide), key 3 (by decide)⟩
theorem own_ts {W : World} {base n : Nat} {v : Value} {pr : Nat → Int} {nw : Nat → Nat} {K : Nat → Nat → Int} {wp : Nat → Option Addr} {wc : Nat → Nat} (h : Own W base 87 2 v n (ptF pr nw wp wc)) (hp : ∀ j, j < n → KAt W (wp j) (nw j) (K j)) : ∃ q c, v = .slice q n c ∧ TsAt W q n pr nw K wp wc := by
  rcases h.form with ⟨h1, h2⟩ | ⟨g, c, h1, h2, h3⟩
  · exact ⟨none, 0, by rw [h1, h2], .inl h2⟩
  · subst h1
    refine ⟨_, c, rfl, .inr ⟨g, 0, rfl, h3, fun j hj => ?_, hp⟩⟩
    have key : ∀ r, r < 2 → W.cell? ⟨g, 0 + j * 2 + r, none⟩ = some ((ptL (pr j) (wp j) (nw j) (wc j)).getD r undef) := fun r hr => by
      rw [Nat.zero_add, h.cell (j := j * 2 + r) (by omega)]
      unfold ptF
      rw [show (j * 2 + r) / 2 = j by omega, show (j * 2 + r) % 2 = r by omega]
    exact ⟨key 0 (by decide), key 1 (by decide)⟩
theorem own_st {W : World} {base g c n : Nat} {S : Nat → St} (h : Own W base 72 4 (.slice (some ⟨g, 0, none⟩) n c) n (stF S)) : StAt W (some ⟨g, 0, none⟩) n S := by
  obtain ⟨cur, h1, _⟩ := h.block
  refine .inr ⟨g, 0, rfl, (Array.getElem?_eq_some_iff.1 h1).1, fun j hj => ?_⟩
  have key : ∀ r, r < 4 → W.cell? ⟨g, 0 + j * 4 + r, none⟩ = some ((stL (S j)).getD r undef) := fun r hr => by
    rw [Nat.zero_add, h.cell (j := j * 4 + r) (by omega)]
    unfold stF
    rw [show (j * 4 + r) / 4 = j by omega, show (j * 4 + r) % 4 = r by omega]
  exact ⟨key 0 (by decide), key 1 (by decide), key 2 (by decide), key 3 (by decide)⟩
set_option maxRecDepth 100000 in
set_option maxHeartbeats 1000000 in
theorem sameWords_any (p q : Option Addr) (n m c d : Nat) (K L : Nat → Int) (hn : n ≤ 17592186044416) (w : World) (hp : KAt w p n K) (hq : KAt w q m L) :
    Calls Tryz.prog 39 #[.slice p n c, .slice q m d] w fun e w' => e = .returned (.bool (decide (n = m) && sameF n K L)) ∧ Below w.heap.size w w' := by
  by_cases hnm : n = m
  · subst hnm
    rw [decide_eq_true rfl, Bool.true_and]
    have fy : Hid ((∀ j, j < n → K j = L j) → sameF n K L = true) := sameF_yes
    have fn : ∀ j, Hid (j < n → K j ≠ L j → sameF n K L = false) := fun j => sameF_no
    generalize sameF n K L = res at fy fn ⊢
    go_enter Tryz.func39, Tryz.ntmps39
    go_wp2
    go_loopw [13] (fun v wr => ∃ i : Nat, v = .int .i64 i ∧ i ≤ n ∧ Hid (∀ j, j < i → K j = L j) ∧ Below w.heap.size w wr) (fun v _ => n - (intOf v).toNat)
    case atStart => exact ⟨0, rfl, Nat.zero_le _, (fun j hj => by omega : ∀ j, j < 0 → K j = L j), Below.refl _ _⟩
    case round =>
      obtain ⟨i, rfl, hi, hsm, hbel⟩ := hrel
      by_cases hlt : i < n
      · obtain h0 | ⟨b, o, rfl, hl, hc⟩ := hp
        · omega
        obtain h0 | ⟨b', o', rfl, hl', hc'⟩ := hq
        · omega
        have x0 := (cell_below (a := ⟨b, o + i, none⟩) hbel hl).trans (hc i hlt)
        have y0 := (cell_below (a := ⟨b', o' + i, none⟩) hbel hl').trans (hc' i hlt)
        have dl : decide ((i : Int) < n) = true := decide_eq_true (by omega)
        have hm := meas hlt
        have hni := fn i
        clear hc hc' hl hl' fn
        by_cases he : K i = L i
        · have hsm' : Hid (∀ j, j < i + 1 → K j = L j) := by
            show ∀ j, j < i + 1 → K j = L j
            intro j hj
            by_cases h : j < i
            · exact hsm.out j h
            · obtain rfl : j = i := by omega
              exact he
          rw [he] at x0
          clear he hsm hni
          generalize L i = z at x0 y0
          go_wp2
          go_quiet (fail)
          go_wp2
          exact ⟨⟨i + 1, rfl, hlt, hsm', hbel.trans (below_drewNq _ _ _)⟩, hm⟩
        · have hres : res = false := hni.out hlt he
          subst hres
          have de : (K i == L i) = false := by simpa using he
          clear he hsm hni fy
          generalize K i = z1 at x0 de
          generalize L i = z2 at y0 de
          go_wp2
          go_quiet (fail)
          go_wp2
          go_ret
          exact ⟨rfl, hbel.trans (below_drewNq _ _ _)⟩
      · have dl : decide ((i : Int) < n) = false := decide_eq_false (by omega)
        obtain rfl : i = n := by omega
        have hres : res = true := fy.out hsm.out
        subst hres
        clear fy fn hp hq
        go_wp2
        go_ret
        exact ⟨rfl, hbel⟩
  · have d0 : ((n : Int) == m) = false := by simp; omega
    rw [decide_eq_false hnm, Bool.false_and]
    clear hp hq
    go_enter Tryz.func39, Tryz.ntmps39
    go_wp2
    go_ret
    exact ⟨rfl, Below.refl _ _⟩
set_option maxRecDepth 100000 in
set_option maxHeartbeats 1000000 in
theorem copyWords_any (sl : Option Addr) (L cap : Nat) (K : Nat → Int) (w : World) (hL : L ≤ 17592186044416) (h : KAt w sl L K) :
    Calls Tryz.prog 45 #[.slice sl L cap] w fun r w' => r = .returned (.slice (some ⟨w.heap.size, 0, none⟩) L L) ∧ w'.heap[w.heap.size]? = some (.cells (intsL K L).toArray 2 (0, 0)) ∧ Below w.heap.size w w' ∧ w.heap.size < w'.heap.size := by
  obtain ⟨i5, hi5, ha5, hb5, hc5⟩ := info_parts infoW8
  have hsz : (Tryz.prog.info? 2).map (·.size) = some 1 := by simp [hi5, hb5]
  go_enter Tryz.func45, Tryz.ntmps45
  go_wp2_with (at_make; refine wpList_make_full _ rfl (.tmp 5) (.tmp 5) 44 rfl w.heap.size 2 i5 (.int .i64 0) 1 Tryz.underlying44 hi5 ha5 hb5 .i64 .i64 L L L rfl rfl rfl rfl ?c1 ?c2 ?c3 ?_)
  case c1 => rw [hc5]; omega
  case c2 => unfold maxLen; omega
  case c3 => exact Nat.le_refl _
  intro w1 hown hgrow
  obtain ⟨cur, hcur, hcs⟩ : ∃ cur : List Value, w1.heap[w.heap.size]? = some (.cells cur.toArray 2 (0, 0)) ∧ cur.length = L := by
    obtain ⟨_, hx | ⟨g', cap', cur, hv, _, hh, _, _, hs, _⟩⟩ := hown
    · simp at hx
    · simp at hv
      obtain ⟨rfl, rfl⟩ := hv
      exact ⟨cur.toList, by simpa using hh, by simpa using hs⟩
  have hb1 : Below w.heap.size w w1 := (Below.refl _ _).grown hgrow (Nat.le_refl _) (by simp)
  have hlt1 : w.heap.size < w1.heap.size := lt_of_block hcur
  have hB1 := h.below hb1
  have HC : Hid (w1.heap[w.heap.size]? = some (.cells cur.toArray 2 (0, 0))) := hcur
  clear hown hgrow hcur
  go_wp2_with (refine wpList_copy_splice rfl (.tmp 7) (.tmp 8) 44 44 rfl 2 Tryz.underlying44 hsz (some ⟨w.heap.size, 0, none⟩) sl L L L cap rfl rfl w.heap.size 0 cur 2 HC.out (intsL K L) ?d1 ?d2 ?d3 (intsL_one K L) w.heap.size w hb1 (Nat.le_refl _) ?_)
  case d1 => rw [intsL_len]; simp
  case d2 =>
    intro hp
    rw [intsL_len] at hp
    obtain hx | ⟨b, off, rfl, hlt, hc⟩ := hB1
    · omega
    · refine ⟨⟨b, off, none⟩, rfl, fun j v hj => ?_⟩
      have hjl : j < L := by
        rcases Nat.lt_or_ge j L with z | z
        · exact z
        · rw [List.getElem?_eq_none (by rw [intsL_len]; exact z)] at hj; simp at hj
      rw [intsL_get hjl] at hj
      rw [addr_add, hc j hjl]
      exact hj
  case d3 => rw [intsL_len]; omega
  intro w2 hh2 hb2
  have hfull : splice cur 0 (intsL K L) = intsL K L := by
    simp [splice, intsL_len]
    omega
  have H2 : Hid (w2.heap[w.heap.size]? = some (.cells (intsL K L).toArray 2 (0, 0))) := by rw [← hfull]; exact hh2
  clear hh2 HC
  go_wp2
  go_ret
  exact ⟨rfl, H2.out, hb2, lt_of_block H2.out⟩
/-! ### events -/
end Go.Proofs.YtagchghhpggnlaaGreat
namespace Go.Proofs.YtagchghhpggnlaaGreat
open Go.ChangeShapes Go.WideShapes Go.ChangeAt Go.RowKit
set_option linter.unusedVariables false
set_option linter.unusedSimpArgs false

/-- a plan whose lists fit into memory -/
structure RoomyL (p : Pl) : Prop where
  np : p.np * 64 ≤ 140737488351232
  pg : ∀ j, j < p.np → roomyP (p.P j)
  nq : p.nq * 32 ≤ 140737488351232
  nw : ∀ j, j < p.nq → p.nw j ≤ 17592186044416
  ns : p.ns * 32 ≤ 140737488351232
/-- the lists of a plan lie in memory from b on -/
def PlNew (b : Nat) (p : Pl) (u : PlV) : Prop := (∀ g o, u.pp = some ⟨g, o, none⟩ → 0 < p.np → b ≤ g) ∧ (∀ j, j < p.np → (∀ g o, (u.V j).cp = some ⟨g, o, none⟩ → b ≤ g) ∧ ∀ g o, (u.V j).ep = some ⟨g, o, none⟩ → b ≤ g) ∧ (∀ g o, u.tp = some ⟨g, o, none⟩ → 0 < p.nq → b ≤ g) ∧ (∀ j, j < p.nq → ∀ g o, u.wp j = some ⟨g, o, none⟩ → b ≤ g) ∧ ∀ g o, u.sp = some ⟨g, o, none⟩ → b ≤ g
theorem put9 {W : World} {b : Nat} {a0 a1 a2 a3 a4 a5 a6 a7 a8 : Value} {t : TypeId} (h : W.heap[b]? = some (.cells #[a0, a1, a2, a3, a4, a5, a6, a7, a8] t (0, 0))) (c0 c1 c2 c3 c4 c5 c6 c7 c8 : Value) (W' : World) (e : ((((((((W.setCell ⟨b, 0, none⟩ c0).setCell ⟨b, 1, none⟩ c1).setCell ⟨b, 2, none⟩ c2).setCell ⟨b, 3, none⟩ c3).setCell ⟨b, 4, none⟩ c4).setCell ⟨b, 5, none⟩ c5).setCell ⟨b, 6, none⟩ c6).setCell ⟨b, 7, none⟩ c7).setCell ⟨b, 8, none⟩ c8 = W') :
    W'.heap[b]? = some (.cells #[c0, c1, c2, c3, c4, c5, c6, c7, c8] t (0, 0)) ∧ (∀ k, k ≠ b → W'.heap[k]? = W.heap[k]?) ∧ (∀ B w0, Below B w0 W → B ≤ b → Below B w0 W') ∧ W'.heap.size = W.heap.size := by
  subst e
  have h0 : (W.setCell ⟨b, 0, none⟩ c0).heap[b]? = some (.cells #[c0, a1, a2, a3, a4, a5, a6, a7, a8] t (0, 0)) := by rw [setCell_block _ _ _ _ h]; rfl
  have h1 : ((W.setCell ⟨b, 0, none⟩ c0).setCell ⟨b, 1, none⟩ c1).heap[b]? = some (.cells #[c0, c1, a2, a3, a4, a5, a6, a7, a8] t (0, 0)) := by rw [setCell_block _ _ _ _ h0]; rfl
  have h2 : (((W.setCell ⟨b, 0, none⟩ c0).setCell ⟨b, 1, none⟩ c1).setCell ⟨b, 2, none⟩ c2).heap[b]? = some (.cells #[c0, c1, c2, a3, a4, a5, a6, a7, a8] t (0, 0)) := by rw [setCell_block _ _ _ _ h1]; rfl
  have h3 : ((((W.setCell ⟨b, 0, none⟩ c0).setCell ⟨b, 1, none⟩ c1).setCell ⟨b, 2, none⟩ c2).setCell ⟨b, 3, none⟩ c3).heap[b]? = some (.cells #[c0, c1, c2, c3, a4, a5, a6, a7, a8] t (0, 0)) := by rw [setCell_block _ _ _ _ h2]; rfl
  have h4 : (((((W.setCell ⟨b, 0, none⟩ c0).setCell ⟨b, 1, none⟩ c1).setCell ⟨b, 2, none⟩ c2).setCell ⟨b, 3, none⟩ c3).setCell ⟨b, 4, none⟩ c4).heap[b]? = some (.cells #[c0, c1, c2, c3, c4, a5, a6, a7, a8] t (0, 0)) := by rw [setCell_block _ _ _ _ h3]; rfl
  have h5 : ((((((W.setCell ⟨b, 0, none⟩ c0).setCell ⟨b, 1, none⟩ c1).setCell ⟨b, 2, none⟩ c2).setCell ⟨b, 3, none⟩ c3).setCell ⟨b, 4, none⟩ c4).setCell ⟨b, 5, none⟩ c5).heap[b]? = some (.cells #[c0, c1, c2, c3, c4, c5, a6, a7, a8] t (0, 0)) := by rw [setCell_block _ _ _ _ h4]; rfl
  have h6 : (((((((W.setCell ⟨b, 0, none⟩ c0).setCell ⟨b, 1, none⟩ c1).setCell ⟨b, 2, none⟩ c2).setCell ⟨b, 3, none⟩ c3).setCell ⟨b, 4, none⟩ c4).setCell ⟨b, 5, none⟩ c5).setCell ⟨b, 6, none⟩ c6).heap[b]? = some (.cells #[c0, c1, c2, c3, c4, c5, c6, a7, a8] t (0, 0)) := by rw [setCell_block _ _ _ _ h5]; rfl
  have h7 : ((((((((W.setCell ⟨b, 0, none⟩ c0).setCell ⟨b, 1, none⟩ c1).setCell ⟨b, 2, none⟩ c2).setCell ⟨b, 3, none⟩ c3).setCell ⟨b, 4, none⟩ c4).setCell ⟨b, 5, none⟩ c5).setCell ⟨b, 6, none⟩ c6).setCell ⟨b, 7, none⟩ c7).heap[b]? = some (.cells #[c0, c1, c2, c3, c4, c5, c6, c7, a8] t (0, 0)) := by rw [setCell_block _ _ _ _ h6]; rfl
  have h8 : (((((((((W.setCell ⟨b, 0, none⟩ c0).setCell ⟨b, 1, none⟩ c1).setCell ⟨b, 2, none⟩ c2).setCell ⟨b, 3, none⟩ c3).setCell ⟨b, 4, none⟩ c4).setCell ⟨b, 5, none⟩ c5).setCell ⟨b, 6, none⟩ c6).setCell ⟨b, 7, none⟩ c7).setCell ⟨b, 8, none⟩ c8).heap[b]? = some (.cells #[c0, c1, c2, c3, c4, c5, c6, c7, c8] t (0, 0)) := by rw [setCell_block _ _ _ _ h7]; rfl
  refine ⟨h8, fun k hk => ?_, fun B w0 hb hB => ?_, by simp [World.setCell]⟩
  · rw [Below.heap_setCell _ _ _ _ hk, Below.heap_setCell _ _ _ _ hk, Below.heap_setCell _ _ _ _ hk, Below.heap_setCell _ _ _ _ hk, Below.heap_setCell _ _ _ _ hk, Below.heap_setCell _ _ _ _ hk, Below.heap_setCell _ _ _ _ hk, Below.heap_setCell _ _ _ _ hk, Below.heap_setCell _ _ _ _ hk]
  · exact ((((((((hb.setCell (p := ⟨b, 0, none⟩) hB _).setCell (p := ⟨b, 1, none⟩) hB _).setCell (p := ⟨b, 2, none⟩) hB _).setCell (p := ⟨b, 3, none⟩) hB _).setCell (p := ⟨b, 4, none⟩) hB _).setCell (p := ⟨b, 5, none⟩) hB _).setCell (p := ⟨b, 6, none⟩) hB _).setCell (p := ⟨b, 7, none⟩) hB _).setCell (p := ⟨b, 8, none⟩) hB _
theorem PsAt.kb {S : Nat → Prop} {W W' : World} {p : Option Addr} {n : Nat} {P : Nat → Pg} {V : Nat → PgV} (h : PsAt W p n P V) (hk : Kb S W W') (h0 : ∀ g o, p = some ⟨g, o, none⟩ → 0 < n → ¬ S g) (h1 : ∀ j, j < n → (∀ g o, (V j).cp = some ⟨g, o, none⟩ → ¬ S g) ∧ ∀ g o, (V j).ep = some ⟨g, o, none⟩ → ¬ S g) : PsAt W' p n P V := by
  by_cases hn : n = 0
  · exact .inl hn
  rcases h with h | ⟨g, o, rfl, hl, hc, hp⟩
  · exact .inl h
  · have hs := h0 g o rfl (by omega)
    exact .inr ⟨g, o, rfl, Nat.lt_of_lt_of_le hl hk.size, fun j hj => ⟨(cell_kb (a := ⟨g, o + j * 4, none⟩) hk hl hs).trans (hc j hj).1, (cell_kb (a := ⟨g, o + j * 4 + 1, none⟩) hk hl hs).trans (hc j hj).2.1, (cell_kb (a := ⟨g, o + j * 4 + 2, none⟩) hk hl hs).trans (hc j hj).2.2.1, (cell_kb (a := ⟨g, o + j * 4 + 3, none⟩) hk hl hs).trans (hc j hj).2.2.2⟩, fun j hj => (hp j hj).kb hk (h1 j hj).1 (h1 j hj).2⟩
theorem TsAt.kb {S : Nat → Prop} {W W' : World} {p : Option Addr} {n : Nat} {pr : Nat → Int} {nw : Nat → Nat} {K : Nat → Nat → Int} {wp : Nat → Option Addr} {wc : Nat → Nat} (h : TsAt W p n pr nw K wp wc) (hk : Kb S W W') (h0 : ∀ g o, p = some ⟨g, o, none⟩ → 0 < n → ¬ S g) (h1 : ∀ j, j < n → ∀ g o, wp j = some ⟨g, o, none⟩ → ¬ S g) : TsAt W' p n pr nw K wp wc := by
  by_cases hn : n = 0
  · exact .inl hn
  rcases h with h | ⟨g, o, rfl, hl, hc, hp⟩
  · exact .inl h
  · have hs := h0 g o rfl (by omega)
    exact .inr ⟨g, o, rfl, Nat.lt_of_lt_of_le hl hk.size, fun j hj => ⟨(cell_kb (a := ⟨g, o + j * 2, none⟩) hk hl hs).trans (hc j hj).1, (cell_kb (a := ⟨g, o + j * 2 + 1, none⟩) hk hl hs).trans (hc j hj).2⟩, fun j hj => (hp j hj).kb hk (h1 j hj)⟩
theorem StAt.kb {S : Nat → Prop} {W W' : World} {g o n : Nat} {F : Nat → St} (h : StAt W (some ⟨g, o, none⟩) n F) (hk : Kb S W W') (hs : ¬ S g) : StAt W' (some ⟨g, o, none⟩) n F := by
  rcases h with h | ⟨g', o', e, hl, hc⟩
  · exact .inl h
  · injection e with e
    injection e with e1 e2 e3
    subst e1 e2
    exact .inr ⟨g, o, rfl, Nat.lt_of_lt_of_le hl hk.size, fun j hj => ⟨(cell_kb (a := ⟨g, o + j * 4, none⟩) hk hl hs).trans (hc j hj).1, (cell_kb (a := ⟨g, o + j * 4 + 1, none⟩) hk hl hs).trans (hc j hj).2.1, (cell_kb (a := ⟨g, o + j * 4 + 2, none⟩) hk hl hs).trans (hc j hj).2.2.1, (cell_kb (a := ⟨g, o + j * 4 + 3, none⟩) hk hl hs).trans (hc j hj).2.2.2⟩⟩
theorem kat_w {W : World} {g n : Nat} {K : Nat → Int} (h : W.heap[g]? = some (.cells (intsL K n).toArray 2 (0, 0))) : KAt W (some ⟨g, 0, none⟩) n K := by
  refine .inr ⟨g, 0, rfl, (Array.getElem?_eq_some_iff.1 h).1, fun j hj => ?_⟩
  unfold World.cell?
  rw [h]
  have := intsL_get (K := K) hj
  simpa using this
theorem frz9 {W : World} {b : Nat} {cur : Array Value} {t : TypeId} (h : W.heap[b]? = some (.cells cur t (0, 0))) : ∀ k, W.frozen? ⟨b, k, none⟩ = false := fun k => by simp [World.frozen?, h]
set_option maxRecDepth 100000 in
set_option maxHeartbeats 8000000 in
theorem copyPlan_new (p : Pl) (v : PlV) (w : World) (h : PlAt w p v) (hr : RoomyL p) : Calls Tryz.prog 33 #[.agg #[.int .i64 p.ki, .slice v.pp p.np v.pc, .slice v.tp p.nq v.tc, .slice v.sp p.ns v.sc, .int .u64 p.sd, .int .u64 p.lk, .int .u64 p.en, .int .i64 p.bu, .int .i64 p.fu]] w fun e w' => ∃ u : PlV, e = .returned (.agg #[.int .i64 p.ki, .slice u.pp p.np u.pc, .slice u.tp p.nq u.tc, .slice u.sp p.ns u.sc, .int .u64 p.sd, .int .u64 p.lk, .int .u64 p.en, .int .i64 p.bu, .int .i64 p.fu]) ∧ PlAt w' p u ∧ PlNew w.heap.size p u ∧ Below w.heap.size w w' := by
  obtain ⟨iP, hP1, hP2, hP3, hP4⟩ := sinf infoPG
  obtain ⟨iT, hT1, hT2, hT3, hT4⟩ := sinf infoPT
  obtain ⟨iS, hS1, hS2, hS3, hS4⟩ := sinf infoST
  have hszS : (Tryz.prog.info? 72).map (·.size) = some 4 := by simp [hS1, hS3]
  obtain ⟨wb, hwb⟩ : ∃ wb, (w.alloc (.cells #[.int .i64 p.ki, .slice v.pp p.np v.pc, .slice v.tp p.nq v.tc, .slice v.sp p.ns v.sc, .int .u64 p.sd, .int .u64 p.lk, .int .u64 p.en, .int .i64 p.bu, .int .i64 p.fu] 27)).alloc (.cells #[.int .i64 0, .slice none 0 0, .slice none 0 0, .slice none 0 0, .int .u64 0, .int .u64 0, .int .u64 0, .int .i64 0, .int .i64 0] 27) = wb := ⟨_, rfl⟩
  have hb0 : Below w.heap.size w wb := by rw [← hwb]; exact ((Below.refl _ w).alloc (Nat.le_refl _) _).alloc (by simp) _
  have hbox : wb.heap[w.heap.size]? = some (.cells #[.int .i64 p.ki, .slice v.pp p.np v.pc, .slice v.tp p.nq v.tc, .slice v.sp p.ns v.sc, .int .u64 p.sd, .int .u64 p.lk, .int .u64 p.en, .int .i64 p.bu, .int .i64 p.fu] 27 (0, 0)) := by
    rw [← hwb, Below.heap_alloc _ _ _ (by simp)]
    exact World.alloc_heap_new w _
  have hres : wb.heap[w.heap.size + 1]? = some (.cells #[.int .i64 0, .slice none 0 0, .slice none 0 0, .slice none 0 0, .int .u64 0, .int .u64 0, .int .u64 0, .int .i64 0, .int .i64 0] 27 (0, 0)) := by
    rw [← hwb]
    have := World.alloc_heap_new (w.alloc (.cells #[.int .i64 p.ki, .slice v.pp p.np v.pc, .slice v.tp p.nq v.tc, .slice v.sp p.ns v.sc, .int .u64 p.sd, .int .u64 p.lk, .int .u64 p.en, .int .i64 p.bu, .int .i64 p.fu] 27)) (.cells #[.int .i64 0, .slice none 0 0, .slice none 0 0, .slice none 0 0, .int .u64 0, .int .u64 0, .int .u64 0, .int .i64 0, .int .i64 0] 27)
    rwa [World.size_alloc] at this
  have hsz : wb.heap.size = w.heap.size + 2 := by rw [← hwb]; simp
  have HW : Hid ((w.alloc (.cells #[.int .i64 p.ki, .slice v.pp p.np v.pc, .slice v.tp p.nq v.tc, .slice v.sp p.ns v.sc, .int .u64 p.sd, .int .u64 p.lk, .int .u64 p.en, .int .i64 p.bu, .int .i64 p.fu] 27)).alloc (.cells #[.int .i64 0, .slice none 0 0, .slice none 0 0, .slice none 0 0, .int .u64 0, .int .u64 0, .int .u64 0, .int .i64 0, .int .i64 0] 27) = wb) := hwb
  have HP : Hid (PlAt wb p v) := h.below hb0
  have H0 : Hid (PlAt w p v) := h
  have HR : Hid (RoomyL p) := hr
  clear h hr
  obtain ⟨⟨c0, c1, c2, c3⟩, c4, c5, c6, c7, c8⟩ := cells9 hbox
  rw [← hwb] at c0 c1 c2 c3 c4 c5 c6 c7 c8
  clear hwb
  go_enter Tryz.func33, Tryz.ntmps33
  go_wp2_with fail
  rw [HW.out]
  clear c0 c1 c2 c3 c4 c5 c6 c7 c8
  go_loopw [3, 13] (fun r x wr => ∃ (i : Nat) (V : Nat → PgV), x = .int .i64 (i : Int) ∧ i ≤ p.np ∧ Own wr wb.heap.size 93 4 r i (pgF p.P V) ∧ (∀ j, j < i → PAt wr (p.P j) (V j) ∧ EA wr r wb.heap.size (V j).cp ∧ EA wr r wb.heap.size (V j).ep) ∧ Below wb.heap.size wb wr) (fun _ x _ => p.np - (intOf x).toNat)
  case atStart => exact ⟨0, v.V, rfl, Nat.zero_le _, World.ownsRow_nil _ _ _ _, fun j hj => absurd hj (Nat.not_lt_zero _), Below.refl _ _⟩
  case round =>
    obtain ⟨i, V, rfl, hi, ho, hall, hbr⟩ := hrel
    have hboxr := (hbr.block _ (by omega)).trans hbox
    have hresr := (hbr.block _ (by omega)).trans hres
    by_cases hlt : i < p.np
    case pos =>
      have dlt : decide ((i : Int) < (p.np : Int)) = true := by simp; omega
      have i0 : (0 : Int) ≤ (i : Int) := by omega
      have i1 : (i : Int) < (p.np : Int) := by omega
      have hnp := HR.out.np
      have ei : IntKind.i64.wrap ((i : Int) + 1) = (i : Int) + 1 := by rw [IntKind.wrap_i64]; omega
      have hm := meas hlt
      obtain hz | ⟨g, o, hpp, hl, hc, hpa⟩ := HP.out.ps.below hbr
      · omega
      obtain ⟨x0, x1, x2, x3⟩ := hc i hlt
      have p1 : i + 1 ≤ maxLen := by unfold maxLen; omega
      have p2 : (i + 1) * 64 ≤ 140737488355328 := by omega
      have hba : Below wr.heap.size wr (wr.alloc (.cells #[.int .i64 (p.P i).words, .int .i64 (p.P i).locals, .slice (v.V i).cp (p.P i).n (v.V i).cc, .slice (v.V i).ep (p.P i).m (v.V i).ec] 93)) := (Below.refl _ wr).alloc (Nat.le_refl _) _
      have HC := copyProgram_new (p.P i) (v.V i) _ ((hpa i hlt).below hba) (HR.out.pg i hlt)
      have HA : Hid (Own wr wb.heap.size 93 4 u3 i (pgF p.P V) ∧ (∀ j, j < i → PAt wr (p.P j) (V j) ∧ EA wr u3 wb.heap.size (V j).cp ∧ EA wr u3 wb.heap.size (V j).ep) ∧ Below wb.heap.size wb wr ∧ Below wr.heap.size wr (wr.alloc (.cells #[.int .i64 (p.P i).words, .int .i64 (p.P i).locals, .slice (v.V i).cp (p.P i).n (v.V i).cc, .slice (v.V i).ep (p.P i).m (v.V i).ec] 93))) := ⟨ho, hall, hbr, hba⟩
      rw [hpp]
      clear hc hpa ho hall hbr hba hboxr hresr hl hpp
      go_wp2_with (first | (go_at_call 64; (with_reducible refine HC.mono ?_); rintro e w3 ⟨u, rfl, hu, hb3, hn1, hn2⟩; have H3 : Hid ((w3.alloc (.cells (pgL (p.P i) u).toArray 93)).ownsRow wb.heap.size 93 4 u3 i (cellsF (pgF p.P V) (i * 4)) ∧ (∀ j y, (pgL (p.P i) u)[j]? = some y → (w3.alloc (.cells (pgL (p.P i) u).toArray 93)).cell? ((⟨w3.heap.size, 0, none⟩ : Addr).add j) = some y) ∧ Below wb.heap.size wb (w3.alloc (.cells (pgL (p.P i) u).toArray 93)) ∧ Below wr.heap.size wr (w3.alloc (.cells (pgL (p.P i) u).toArray 93)) ∧ PAt (w3.alloc (.cells (pgL (p.P i) u).toArray 93)) (p.P i) u ∧ (∀ g o, u.cp = some ⟨g, o, none⟩ → wr.heap.size ≤ g ∧ g < (w3.alloc (.cells (pgL (p.P i) u).toArray 93)).heap.size) ∧ (∀ g o, u.ep = some ⟨g, o, none⟩ → wr.heap.size ≤ g ∧ g < (w3.alloc (.cells (pgL (p.P i) u).toArray 93)).heap.size)) := (by
          have h1 : Below wr.heap.size wr w3 := HA.out.2.2.2.trans (hb3.mono HA.out.2.2.2.size)
          have h2 : Below wb.heap.size wb w3 := HA.out.2.2.1.trans (h1.mono HA.out.2.2.1.size)
          have h3 : Below w3.heap.size w3 (w3.alloc (.cells (pgL (p.P i) u).toArray 93)) := (Below.refl _ w3).alloc (Nat.le_refl _) _
          have h4 := HA.out.2.2.2.size
          have h5 := h3.size
          refine ⟨World.ownsRow.alloc (srow_later HA.out.1 h1) _, scells_new w3 (pgL (p.P i) u) _, h2.trans (h3.mono h2.size), h1.trans (h3.mono h1.size), hu.below h3, fun g o e => ⟨by have := hn1 g o e; omega, by have := hn1 g o e; omega⟩, fun g o e => ⟨by have := hn2 g o e; omega, by have := hn2 g o e; omega⟩⟩)) | (at_builtin; refine wpList_append_own_at _ rfl _ _ 22 rfl wb.heap.size 93 iP _ 4 64 Tryz.underlying22 hP1 hP2 hP3 hP4 rfl (by decide) _ _ _ rfl H3.out.1 ⟨w3.heap.size, 0, none⟩ 1 1 (pgL (p.P i) u) rfl rfl H3.out.2.1 (by simp [pgL, Value.oneCell']) p1 p2 H3.out.2.2.1.size ?_; intro v' w9 hown9 hgrow9 _ hnb9))
      have hb9 : Below wb.heap.size wb w9 := H3.out.2.2.1.grown hgrow9 H3.out.2.2.1.size (fun r' e => (srow_lt H3.out.1 r' e).1)
      have hkb := Kb.grown hgrow9
      refine ⟨⟨i + 1, fun j => if j = i then u else V j, rfl, hlt, ?_, fun j hj => ?_, hb9⟩, hm⟩
      · unfold Own
        rw [← pg_app]
        exact hown9
      · obtain ⟨q1, q2, q3, q4, q5, q6, q7⟩ := H3.out
        have hlt9 := fun k hk => (srow_lt HA.out.1 k hk).2
        have hz1 := q4.size
        have hz2 := HA.out.2.2.1.size
        dsimp only
        by_cases e : j = i
        · rw [if_pos e, e]
          have e1 : EA w9 v' wb.heap.size u.cp := EA.fresh (W := wr) (r := u3) q6 hz2 hlt9 hkb.size hnb9
          have e2 : EA w9 v' wb.heap.size u.ep := EA.fresh (W := wr) (r := u3) q7 hz2 hlt9 hkb.size hnb9
          refine ⟨q5.kb hkb (fun g o e9 h9 => ?_) (fun g o e9 h9 => ?_), e1, e2⟩
          · have a1 := q6 g o e9
            have a2 := hlt9 g h9.symm
            omega
          · have a1 := q7 g o e9
            have a2 := hlt9 g h9.symm
            omega
        · rw [if_neg e]
          obtain ⟨a1, a2, a3⟩ := HA.out.2.1 j (by omega)
          exact ⟨(a1.below q4).kb hkb (fun g o e9 h9 => (a2 g o e9).2.2 h9) (fun g o e9 h9 => (a3 g o e9).2.2 h9), a2.step hz1 hkb.size hnb9, a3.step hz1 hkb.size hnb9⟩
    have dlt : decide ((i : Int) < (p.np : Int)) = false := by simp; omega
    obtain rfl : i = p.np := by omega
    obtain ⟨pq, pqc, hpq, hps⟩ := own_ps ho (fun j hj => (hall j hj).1)
    subst hpq
    have HPS : Hid (PsAt wr pq p.np p.P V ∧ (∀ g o, pq = some ⟨g, o, none⟩ → 0 < p.np → wb.heap.size ≤ g) ∧ ∀ j, j < p.np → EA wr (.slice pq p.np pqc) wb.heap.size (V j).cp ∧ EA wr (.slice pq p.np pqc) wb.heap.size (V j).ep) := by
      refine ⟨hps, fun g o e hp => ?_, fun j hj => (hall j hj).2⟩
      rcases Own.form ho with ⟨_, h2⟩ | ⟨g', c', h1, h2, h3⟩
      · omega
      · injection h1 with h4 h5 h6
        rw [h4] at e
        injection e with e
        injection e with e1 e2 e3
        omega
    obtain ⟨w5, hw5⟩ : ∃ w5, wr.setCell ⟨w.heap.size, 1, none⟩ (.slice pq p.np pqc) = w5 := ⟨_, rfl⟩
    have hbox5 : w5.heap[w.heap.size]? = some (.cells #[.int .i64 p.ki, .slice pq p.np pqc, .slice v.tp p.nq v.tc, .slice v.sp p.ns v.sc, .int .u64 p.sd, .int .u64 p.lk, .int .u64 p.en, .int .i64 p.bu, .int .i64 p.fu] 27 (0, 0)) := by rw [← hw5, setCell_block _ _ _ _ hboxr]; rfl
    have hres5 : w5.heap[w.heap.size + 1]? = some (.cells #[.int .i64 0, .slice none 0 0, .slice none 0 0, .slice none 0 0, .int .u64 0, .int .u64 0, .int .u64 0, .int .i64 0, .int .i64 0] 27 (0, 0)) := by
      rw [← hw5, Below.heap_setCell _ _ _ _ (by show w.heap.size + 1 ≠ w.heap.size; omega)]
      exact hresr
    have hk5 : Kb (fun k => k = w.heap.size ∨ k = w.heap.size + 1) wr w5 := by rw [← hw5]; exact Kb.set wr _ _ _ (.inl rfl)
    have hb5 : Below w.heap.size w w5 := by
      rw [← hw5]
      exact (hb0.trans (hbr.mono hb0.size)).setCell (p := ⟨w.heap.size, 1, none⟩) (Nat.le_refl _) _
    have hsz5 : wb.heap.size ≤ w5.heap.size := Nat.le_trans hbr.size hk5.size
    have rf1 := frz9 hboxr 1
    obtain ⟨⟨c0, c1, c2, c3⟩, c4, c5, c6, c7, c8⟩ := cells9 hboxr
    obtain ⟨⟨d0, d1, d2, d3⟩, d4, d5, d6, d7, d8⟩ := cells9 hbox5
    have HP1 : Hid (wr.frozen? ⟨w.heap.size, 1, none⟩ = false) := rf1
    go_upto_region 9 with fail
    try rw [hw5]
    clear c0 c1 c2 c3 c4 c5 c6 c7 c8 rf1 HP1 ho hall hps hboxr hresr
    go_wp2_with fail
    clear d0 d1 d2 d3 d4 d5 d6 d7 d8
    have HW5 : Hid (wr.setCell ⟨w.heap.size, 1, none⟩ (.slice pq p.np pqc) = w5) := hw5
    have HBR : Hid (Below wb.heap.size wb wr) := hbr
    clear hw5 hbr
    obtain ⟨wx, hwx⟩ : ∃ wx, wr = wx := ⟨_, rfl⟩
    rw [hwx] at HPS hk5 HW5 HBR
    go_loopw [6, 28] (fun r x wr => ∃ (i : Nat) (wp : Nat → Option Addr) (wc : Nat → Nat), x = .int .i64 (i : Int) ∧ i ≤ p.nq ∧ Own wr w5.heap.size 87 2 r i (ptF p.pr p.nw wp wc) ∧ (∀ j, j < i → KAt wr (wp j) (p.nw j) (p.K j) ∧ EA wr r w5.heap.size (wp j)) ∧ Below w5.heap.size w5 wr) (fun _ x _ => p.nq - (intOf x).toNat)
    case atStart => exact ⟨0, v.wp, v.wc, rfl, Nat.zero_le _, World.ownsRow_nil _ _ _ _, fun j hj => absurd hj (Nat.not_lt_zero _), Below.refl _ _⟩
    case round =>
      obtain ⟨i, wp, wc, rfl, hi, ho, hall, hbr⟩ := hrel
      have hboxr := (hbr.block _ (by omega)).trans hbox5
      have hresr := (hbr.block _ (by omega)).trans hres5
      by_cases hlt : i < p.nq
      case pos =>
        have dlt : decide ((i : Int) < (p.nq : Int)) = true := by simp; omega
        have i0 : (0 : Int) ≤ (i : Int) := by omega
        have i1 : (i : Int) < (p.nq : Int) := by omega
        have hnq := HR.out.nq
        have ei : IntKind.i64.wrap ((i : Int) + 1) = (i : Int) + 1 := by rw [IntKind.wrap_i64]; omega
        have hm := meas hlt
        obtain hz | ⟨g, o, hpp, hl, hc, hpa⟩ := (H0.out.below (hb5.trans (hbr.mono hb5.size))).ts
        · omega
        obtain ⟨y0, y1⟩ := hc i hlt
        have p1 : i + 1 ≤ maxLen := by unfold maxLen; omega
        have p2 : (i + 1) * 32 ≤ 140737488355328 := by omega
        have hba : Below wr.heap.size wr (wr.alloc (.cells #[.int .i64 (p.pr i), .slice (v.wp i) (p.nw i) (v.wc i)] 87)).drew := ((Below.refl _ wr).alloc (Nat.le_refl _) _).drew
        have hpb : (wr.alloc (.cells #[.int .i64 (p.pr i), .slice (v.wp i) (p.nw i) (v.wc i)] 87)).drew.heap[wr.heap.size]? = some (.cells #[.int .i64 (p.pr i), .slice (v.wp i) (p.nw i) (v.wc i)] 87 (0, 0)) := World.alloc_heap_new wr _
        have hsb : (wr.alloc (.cells #[.int .i64 (p.pr i), .slice (v.wp i) (p.nw i) (v.wc i)] 87)).drew.heap.size = wr.heap.size + 1 := World.size_alloc wr _
        have HC := copyWords_any (v.wp i) (p.nw i) (v.wc i) (p.K i) (wr.alloc (.cells #[.int .i64 (p.pr i), .slice (v.wp i) (p.nw i) (v.wc i)] 87)).drew (HR.out.nw i hlt) ((hpa i hlt).below hba)
        obtain ⟨b3, hb3⟩ : ∃ b3, (wr.alloc (.cells #[.int .i64 (p.pr i), .slice (v.wp i) (p.nw i) (v.wc i)] 87)).drew.heap.size = b3 := ⟨_, rfl⟩
        rw [hb3] at HC
        have HA : Hid (Own wr w5.heap.size 87 2 u6 i (ptF p.pr p.nw wp wc) ∧ (∀ j, j < i → KAt wr (wp j) (p.nw j) (p.K j) ∧ EA wr u6 w5.heap.size (wp j)) ∧ Below w5.heap.size w5 wr ∧ Below wr.heap.size wr (wr.alloc (.cells #[.int .i64 (p.pr i), .slice (v.wp i) (p.nw i) (v.wc i)] 87)).drew ∧ (wr.alloc (.cells #[.int .i64 (p.pr i), .slice (v.wp i) (p.nw i) (v.wc i)] 87)).drew.heap[wr.heap.size]? = some (.cells #[.int .i64 (p.pr i), .slice (v.wp i) (p.nw i) (v.wc i)] 87 (0, 0)) ∧ (wr.alloc (.cells #[.int .i64 (p.pr i), .slice (v.wp i) (p.nw i) (v.wc i)] 87)).drew.heap.size = b3 ∧ b3 = wr.heap.size + 1) := ⟨ho, hall, hbr, hba, hpb, hb3, by omega⟩
        rw [hpp]
        clear hc hpa ho hall hbr hba hboxr hresr hl hpp hpb hsb hb3
        go_upto_region 12 with fail
        go_region_held3 (fun w' => w'.cell? ⟨wr.heap.size, 0, none⟩ = some (.int .i64 (p.pr i)) ∧ w'.cell? ⟨wr.heap.size, 1, none⟩ = some (.slice (v.wp i) (p.nw i) (v.wc i))) (first | exact KP | go_keep) (first | (go_at_call 45; (with_reducible refine HC.mono ?_); rintro e w3 ⟨rfl, hrow3, hb3', hlt3⟩; have hpb3 : w3.heap[wr.heap.size]? = some (.cells #[.int .i64 (p.pr i), .slice (v.wp i) (p.nw i) (v.wc i)] 87 (0, 0)) := (hb3'.block _ (by have := HA.out.2.2.2.2.2; omega)).trans HA.out.2.2.2.2.1; have KP : w3.cell? ⟨wr.heap.size, 0, none⟩ = some (.int .i64 (p.pr i)) ∧ w3.cell? ⟨wr.heap.size, 1, none⟩ = some (.slice (v.wp i) (p.nw i) (v.wc i)) := ⟨by simp [World.cell?, hpb3], by simp [World.cell?, hpb3]⟩; have H3 : Hid ((w3.alloc (.cells (ptL (p.pr i) (some ⟨b3, 0, none⟩) (p.nw i) (p.nw i)).toArray 87)).ownsRow w5.heap.size 87 2 u6 i (cellsF (ptF p.pr p.nw wp wc) (i * 2)) ∧ (∀ j y, (ptL (p.pr i) (some ⟨b3, 0, none⟩) (p.nw i) (p.nw i))[j]? = some y → (w3.alloc (.cells (ptL (p.pr i) (some ⟨b3, 0, none⟩) (p.nw i) (p.nw i)).toArray 87)).cell? ((⟨w3.heap.size, 0, none⟩ : Addr).add j) = some y) ∧ Below w5.heap.size w5 (w3.alloc (.cells (ptL (p.pr i) (some ⟨b3, 0, none⟩) (p.nw i) (p.nw i)).toArray 87)) ∧ Below wr.heap.size wr (w3.alloc (.cells (ptL (p.pr i) (some ⟨b3, 0, none⟩) (p.nw i) (p.nw i)).toArray 87)) ∧ KAt (w3.alloc (.cells (ptL (p.pr i) (some ⟨b3, 0, none⟩) (p.nw i) (p.nw i)).toArray 87)) (some ⟨b3, 0, none⟩) (p.nw i) (p.K i) ∧ wr.heap.size ≤ b3 ∧ b3 < (w3.alloc (.cells (ptL (p.pr i) (some ⟨b3, 0, none⟩) (p.nw i) (p.nw i)).toArray 87)).heap.size ∧ (w3.alloc (.cells (ptL (p.pr i) (some ⟨b3, 0, none⟩) (p.nw i) (p.nw i)).toArray 87)).heap[wr.heap.size]? = some (.cells #[.int .i64 (p.pr i), .slice (v.wp i) (p.nw i) (v.wc i)] 87 (0, 0))) := (by
          have hba := HA.out.2.2.2.1
          have h1 : Below wr.heap.size wr w3 := hba.trans (hb3'.mono (by have := HA.out.2.2.2.2.2; omega))
          have h2 : Below w5.heap.size w5 w3 := HA.out.2.2.1.trans (h1.mono HA.out.2.2.1.size)
          have h3 : Below w3.heap.size w3 (w3.alloc (.cells (ptL (p.pr i) (some ⟨b3, 0, none⟩) (p.nw i) (p.nw i)).toArray 87)) := (Below.refl _ w3).alloc (Nat.le_refl _) _
          have h4 := h3.size
          have h5 := HA.out.2.2.2.2.2
          exact ⟨World.ownsRow.alloc (srow_later HA.out.1 h1) _, scells_new w3 (ptL (p.pr i) (some ⟨b3, 0, none⟩) (p.nw i) (p.nw i)) _, h2.trans (h3.mono h2.size), h1.trans (h3.mono h1.size), KAt.below (W := w3) (kat_w hrow3) h3, by omega, by omega, (h3.block _ (by omega)).trans hpb3⟩); clear hrow3 hb3' hpb3) | (refine step_ap rfl (.tmp 32) (.tmp 39) 23 rfl w5.heap.size 87 iT _ 2 32 Tryz.underlying23 hT1 hT2 hT3 hT4 rfl (by decide) u6 i (cellsF (ptF p.pr p.nw wp wc) (i * 2)) (by simp [Act.eval]) H3.out.1 ⟨w3.heap.size, 0, none⟩ 1 1 (ptL (p.pr i) (some ⟨b3, 0, none⟩) (p.nw i) (p.nw i)) (by simp [Act.eval]) rfl H3.out.2.1 (by simp [ptL, Value.oneCell']) p1 p2 H3.out.2.2.1.size ?_; intro v' w9 hown9 hgrow9 hnb9; have hpb9 : w9.heap[wr.heap.size]? = some (.cells #[.int .i64 (p.pr i), .slice (v.wp i) (p.nw i) (v.wc i)] 87 (0, 0)) := (hgrow9.block wr.heap.size (Array.getElem?_eq_some_iff.1 H3.out.2.2.2.2.2.2.2).1 (fun e => absurd (srow_lt HA.out.1 _ e.symm).2 (Nat.lt_irrefl _))).trans H3.out.2.2.2.2.2.2.2; clear KP; have KP : w9.cell? ⟨wr.heap.size, 0, none⟩ = some (.int .i64 (p.pr i)) ∧ w9.cell? ⟨wr.heap.size, 1, none⟩ = some (.slice (v.wp i) (p.nw i) (v.wc i)) := ⟨by simp [World.cell?, hpb9], by simp [World.cell?, hpb9]⟩; have H9 : Hid (w9.ownsRow w5.heap.size 87 2 v' (i + 1) (cellsF (ptF p.pr p.nw wp wc) (i * 2) ++ ptL (p.pr i) (some ⟨b3, 0, none⟩) (p.nw i) (p.nw i)) ∧ (w3.alloc (.cells (ptL (p.pr i) (some ⟨b3, 0, none⟩) (p.nw i) (p.nw i)).toArray 87)).grownBy w9 u6.ownBlock ∧ (v'.ownBlock = u6.ownBlock ∨ v'.ownBlock = some (w3.alloc (.cells (ptL (p.pr i) (some ⟨b3, 0, none⟩) (p.nw i) (p.nw i)).toArray 87)).heap.size)) := ⟨hown9, hgrow9, hnb9⟩; clear hown9 hgrow9 hnb9 hpb9))
        all_goals (try go_wp2_with fail)
        all_goals (
          obtain ⟨hown9, hgrow9, hnb9⟩ := H9.out
          have hb9 : Below w5.heap.size w5 w9 := H3.out.2.2.1.grown hgrow9 H3.out.2.2.1.size (fun r' e => (srow_lt H3.out.1 r' e).1)
          have hkb := Kb.grown hgrow9
          refine ⟨⟨i + 1, (fun j => if j = i then some ⟨b3, 0, none⟩ else wp j), (fun j => if j = i then p.nw i else wc j), rfl, hlt, ?_, fun j hj => ?_, hb9⟩, hm⟩
          · unfold Own
            rw [← pt_app]
            exact hown9
          · obtain ⟨q1, q2, q3, q4, q5, q6, q7, _⟩ := H3.out
            have hlt9 := fun k hk => (srow_lt HA.out.1 k hk).2
            have hz1 := q4.size
            have hz2 := HA.out.2.2.1.size
            dsimp only
            by_cases e : j = i
            · rw [if_pos e, e]
              have fr : ∀ g o, (some ⟨b3, 0, none⟩ : Option Addr) = some ⟨g, o, none⟩ → wr.heap.size ≤ g ∧ g < (w3.alloc (.cells (ptL (p.pr i) (some ⟨b3, 0, none⟩) (p.nw i) (p.nw i)).toArray 87)).heap.size := fun g o e9 => by
                injection e9 with e9
                injection e9 with e1 e2 e3
                omega
              refine ⟨q5.kb hkb (fun g o e9 h9 => ?_), EA.fresh (W := wr) (r := u6) fr hz2 hlt9 hkb.size hnb9⟩
              have a1 := fr g o e9
              have a2 := hlt9 g h9.symm
              omega
            · rw [if_neg e]
              obtain ⟨a1, a2⟩ := HA.out.2.1 j (by omega)
              exact ⟨(a1.below q4).kb hkb (fun g o e9 h9 => (a2 g o e9).2.2 h9), a2.step hz1 hkb.size hnb9⟩)
      have dlt : decide ((i : Int) < (p.nq : Int)) = false := by simp; omega
      obtain rfl : i = p.nq := by omega
      obtain ⟨tq, tqc, htq, hts⟩ := own_ts ho (fun j hj => (hall j hj).1)
      subst htq
      have HTS : Hid (TsAt wr tq p.nq p.pr p.nw p.K wp wc ∧ (∀ g o, tq = some ⟨g, o, none⟩ → 0 < p.nq → w5.heap.size ≤ g) ∧ ∀ j, j < p.nq → EA wr (.slice tq p.nq tqc) w5.heap.size (wp j)) := by
        refine ⟨hts, fun g o e hp => ?_, fun j hj => (hall j hj).2⟩
        rcases Own.form ho with ⟨_, h2⟩ | ⟨g', c', h1, h2, h3⟩
        · omega
        · injection h1 with h4 h5 h6
          rw [h4] at e
          injection e with e
          injection e with e1 e2 e3
          omega
      obtain ⟨w6, hw6⟩ : ∃ w6, wr.setCell ⟨w.heap.size, 2, none⟩ (.slice tq p.nq tqc) = w6 := ⟨_, rfl⟩
      have hbox6 : w6.heap[w.heap.size]? = some (.cells #[.int .i64 p.ki, .slice pq p.np pqc, .slice tq p.nq tqc, .slice v.sp p.ns v.sc, .int .u64 p.sd, .int .u64 p.lk, .int .u64 p.en, .int .i64 p.bu, .int .i64 p.fu] 27 (0, 0)) := by rw [← hw6, setCell_block _ _ _ _ hboxr]; rfl
      have hres6 : w6.heap[w.heap.size + 1]? = some (.cells #[.int .i64 0, .slice none 0 0, .slice none 0 0, .slice none 0 0, .int .u64 0, .int .u64 0, .int .u64 0, .int .i64 0, .int .i64 0] 27 (0, 0)) := by
        rw [← hw6, Below.heap_setCell _ _ _ _ (by show w.heap.size + 1 ≠ w.heap.size; omega)]
        exact hresr
      have hk6 : Kb (fun k => k = w.heap.size ∨ k = w.heap.size + 1) wr w6 := by rw [← hw6]; exact Kb.set wr _ _ _ (.inl rfl)
      have hb6 : Below w.heap.size w w6 := by
        rw [← hw6]
        exact (hb5.trans (hbr.mono hb5.size)).setCell (p := ⟨w.heap.size, 2, none⟩) (Nat.le_refl _) _
      have hsz6 : w5.heap.size ≤ w6.heap.size := Nat.le_trans hbr.size hk6.size
      have rf2 := frz9 hboxr 2
      obtain ⟨⟨c0, c1, c2, c3⟩, c4, c5, c6, c7, c8⟩ := cells9 hboxr
      obtain ⟨⟨d0, d1, d2, d3⟩, d4, d5, d6, d7, d8⟩ := cells9 hbox6
      have HKX : Hid (Kb (fun k => k = w.heap.size ∨ k = w.heap.size + 1) wx w6) := (hk5.trans (Kb.below hbr)).trans hk6
      have HK6 : Hid (Kb (fun k => k = w.heap.size ∨ k = w.heap.size + 1) wr w6) := hk6
      have HS6 : Hid (StAt w6 v.sp p.ns p.S) := (H0.out.below hb6).st
      clear ho hall hts hk6
      go_upto_region 15 with fail
      try rw [hw6]
      clear c0 c1 c2 c3 c4 c5 c6 c7 c8 rf2 hboxr hresr hbr
      have hns := HR.out.ns
      go_wp2_with (at_make; refine wpList_make_full _ rfl (.tmp 46) (.tmp 46) 24 rfl w6.heap.size 72 iS _ 4 Tryz.underlying24 hS1 hS2 hS3 .i64 .i64 p.ns p.ns p.ns rfl rfl rfl rfl ?c1 ?c2 ?c3 ?_)
      case c1 => rw [hS4]; omega
      case c2 => unfold maxLen; omega
      case c3 => exact Nat.le_refl _
      intro w7 hown hgrow
      have hb7 : Below w6.heap.size w6 w7 := (Below.refl _ _).grown hgrow (Nat.le_refl _) (by simp)
      have hO7 := own_of hown
      have hsrc : p.ns = 0 ∨ ∃ ad, v.sp = some ad ∧ ∀ j, j < p.ns * 4 → w7.cell? (ad.add j) = some (stF p.S j) := by
        rcases HS6.out.below hb7 with h9 | ⟨g, o, e9, hl, hc⟩
        · exact .inl h9
        · exact .inr ⟨_, e9, fun j hj => by rw [addr_add0]; exact StAt.cellsAt hc j hj⟩
      have HO7 : Hid (Own w7 w6.heap.size 72 4 (.slice (some ⟨w6.heap.size, 0, none⟩) p.ns p.ns) p.ns _) := hO7
      have HSRC : Hid (p.ns = 0 ∨ ∃ ad, v.sp = some ad ∧ ∀ j, j < p.ns * 4 → w7.cell? (ad.add j) = some (stF p.S j)) := hsrc
      have hbx7 := (hb7.block _ (by omega)).trans hbox6
      clear d0 d1 d2 d3 d4 d5 d6 d7 d8
      obtain ⟨⟨d0, d1, d2, d3⟩, d4, d5, d6, d7, d8⟩ := cells9 hbx7
      clear hown hgrow hO7 hsrc hbx7
      go_upto_region 17 with (refine wpList_copy_head rfl (.tmp 48) (.tmp 50) 24 24 rfl 72 4 Tryz.underlying24 hszS w6.heap.size w6.heap.size p.ns p.ns p.ns v.sc v.sp rfl rfl (Nat.le_refl _) _ (stF p.S) HO7.out (fun j _ => stF_one p.S j) HSRC.out w6.heap.size w6 hb7 (Nat.le_refl _) ?_; intro w8 h8 hb8; have hbx8 := (hb8.block _ (by omega)).trans hbox6; have hrs8 := (hb8.block _ (by omega)).trans hres6)
      have hO8 : Own w8 w6.heap.size 72 4 (.slice (some ⟨w6.heap.size, 0, none⟩) p.ns p.ns) p.ns (stF p.S) := h8.out.congr fun j hj => by rw [if_pos hj]
      have HST : Hid (StAt w8 (some ⟨w6.heap.size, 0, none⟩) p.ns p.S) := own_st hO8
      clear h8 hO8 HO7 HSRC d0 d1 d2 d3 d4 d5 d6 d7 d8
      obtain ⟨⟨d0, d1, d2, d3⟩, d4, d5, d6, d7, d8⟩ := cells9 hbx8
      have rf3 := frz9 hbx8 3
      obtain ⟨w9, hw9⟩ : ∃ w9, w8.setCell ⟨w.heap.size, 3, none⟩ (.slice (some ⟨w6.heap.size, 0, none⟩) p.ns p.ns) = w9 := ⟨_, rfl⟩
      have hbx9 : w9.heap[w.heap.size]? = some (.cells #[.int .i64 p.ki, .slice pq p.np pqc, .slice tq p.nq tqc, .slice (some ⟨w6.heap.size, 0, none⟩) p.ns p.ns, .int .u64 p.sd, .int .u64 p.lk, .int .u64 p.en, .int .i64 p.bu, .int .i64 p.fu] 27 (0, 0)) := by rw [← hw9, setCell_block _ _ _ _ hbx8]; rfl
      have hrs9 : w9.heap[w.heap.size + 1]? = some (.cells #[.int .i64 0, .slice none 0 0, .slice none 0 0, .slice none 0 0, .int .u64 0, .int .u64 0, .int .u64 0, .int .i64 0, .int .i64 0] 27 (0, 0)) := by
        rw [← hw9, Below.heap_setCell _ _ _ _ (by show w.heap.size + 1 ≠ w.heap.size; omega)]
        exact hrs8
      have hk9 : Kb (fun k => k = w.heap.size ∨ k = w.heap.size + 1) w8 w9 := by rw [← hw9]; exact Kb.set w8 _ _ _ (.inl rfl)
      have hb9 : Below w.heap.size w w9 := by
        rw [← hw9]
        exact (hb6.trans (hb8.mono hb6.size)).setCell (p := ⟨w.heap.size, 3, none⟩) (Nat.le_refl _) _
      have HK69 : Hid (Kb (fun k => k = w.heap.size ∨ k = w.heap.size + 1) w6 w9 ∧ Kb (fun k => k = w.heap.size ∨ k = w.heap.size + 1) w8 w9 ∧ Below w.heap.size w w9) := ⟨(Kb.below hb8).trans hk9, hk9, hb9⟩
      go_upto_region 18 with fail
      try rw [hw9]
      clear d0 d1 d2 d3 d4 d5 d6 d7 d8 rf3 hbx8 hrs8 hb8 hk9 hb9
      obtain ⟨⟨d0, d1, d2, d3⟩, d4, d5, d6, d7, d8⟩ := cells9 hbx9
      obtain ⟨⟨z0, z1, z2, z3⟩, z4, z5, z6, z7, z8⟩ := cells9 hrs9
      have zf := frz9 hrs9
      have zf0 := zf 0; have zf1 := zf 1; have zf2 := zf 2; have zf3 := zf 3; have zf4 := zf 4; have zf5 := zf 5; have zf6 := zf 6; have zf7 := zf 7; have zf8 := zf 8
      have HRS : Hid (w9.heap[w.heap.size + 1]? = some (.cells #[.int .i64 0, .slice none 0 0, .slice none 0 0, .slice none 0 0, .int .u64 0, .int .u64 0, .int .u64 0, .int .i64 0, .int .i64 0] 27 (0, 0))) := hrs9
      clear zf hw9 hw6 hbx9 hrs9
      go_wp2_with fail
      generalize hWF : (World.setCell (World.setCell (World.setCell (World.setCell (World.setCell (World.setCell (World.setCell (World.setCell (World.setCell w9 _ _) _ _) _ _) _ _) _ _) _ _) _ _) _ _) _ _) = wF
      obtain ⟨q1, q2, q3, q4⟩ := put9 HRS.out _ _ _ _ _ _ _ _ _ wF hWF
      obtain ⟨⟨e0, e1, e2, e3⟩, e4, e5, e6, e7, e8⟩ := cells9 q1
      refine bodyPost_ret (v := .agg #[.int .i64 p.ki, .slice pq p.np pqc, .slice tq p.nq tqc, .slice (some ⟨w6.heap.size, 0, none⟩) p.ns p.ns, .int .u64 p.sd, .int .u64 p.lk, .int .u64 p.en, .int .i64 p.bu, .int .i64 p.fu]) (by simp [results, Tryz.results33, go_sem, e0, e1, e2, e3, e4, e5, e6, e7, e8]; try rfl) rfl ?_
      have hk9F : Kb (fun k => k = w.heap.size ∨ k = w.heap.size + 1) w9 wF := ⟨by omega, fun k _ hs => q2 k fun e => hs (.inr e)⟩
      have hkxF := (HKX.out.trans HK69.out.1).trans hk9F
      have hkrF := (HK6.out.trans HK69.out.1).trans hk9F
      have hk8F := HK69.out.2.1.trans hk9F
      refine ⟨⟨pq, pqc, V, tq, tqc, wp, wc, some ⟨w6.heap.size, 0, none⟩, p.ns⟩, rfl, ⟨HPS.out.1.kb hkxF (fun g o e hp => ?_) (fun j hj => ⟨fun g o e => ?_, fun g o e => ?_⟩), HTS.out.1.kb hkrF (fun g o e hp => ?_) (fun j hj g o e => ?_), HST.out.kb hk8F ?_⟩, ⟨fun g o e hp => ?_, fun j hj => ⟨fun g o e => ?_, fun g o e => ?_⟩, fun g o e hp => ?_, fun j hj g o e => ?_, fun g o e => ?_⟩, q3 _ _ HK69.out.2.2 (by omega)⟩
      · have := HPS.out.2.1 g o e hp
        rintro (h9 | h9) <;> omega
      · have := ((HPS.out.2.2 j hj).1 g o e).1
        rintro (h9 | h9) <;> omega
      · have := ((HPS.out.2.2 j hj).2 g o e).1
        rintro (h9 | h9) <;> omega
      · have := HTS.out.2.1 g o e hp
        rintro (h9 | h9) <;> omega
      · have := (HTS.out.2.2 j hj g o e).1
        rintro (h9 | h9) <;> omega
      · rintro (h9 | h9) <;> omega
      · have := HPS.out.2.1 g o e hp
        omega
      · have := ((HPS.out.2.2 j hj).1 g o e).1
        omega
      · have := ((HPS.out.2.2 j hj).2 g o e).1
        omega
      · have := HTS.out.2.1 g o e hp
        omega
      · have := (HTS.out.2.2 j hj g o e).1
        omega
      · injection e with e
        injection e with e1 e2 e3
        omega
theorem copyPlan_any (p : Pl) (v : PlV) (w : World) (h : PlAt w p v) (hr : RoomyL p) : Calls Tryz.prog 33 #[.agg #[.int .i64 p.ki, .slice v.pp p.np v.pc, .slice v.tp p.nq v.tc, .slice v.sp p.ns v.sc, .int .u64 p.sd, .int .u64 p.lk, .int .u64 p.en, .int .i64 p.bu, .int .i64 p.fu]] w fun e w' => ∃ u : PlV, e = .returned (.agg #[.int .i64 p.ki, .slice u.pp p.np u.pc, .slice u.tp p.nq u.tc, .slice u.sp p.ns u.sc, .int .u64 p.sd, .int .u64 p.lk, .int .u64 p.en, .int .i64 p.bu, .int .i64 p.fu]) ∧ PlAt w' p u ∧ Below w.heap.size w w' := by
  refine (copyPlan_new p v w h hr).mono ?_
  rintro e w' ⟨u, h1, h2, _, h3⟩
  exact ⟨u, h1, h2, h3⟩
theorem PlAt.kbn {S : Nat → Prop} {W W' : World} {p : Pl} {u : PlV} {b : Nat} (h : PlAt W p u) (hn : PlNew b p u) (hk : Kb S W W') (hs : ∀ k, b ≤ k → ¬ S k) : PlAt W' p u := by
  obtain ⟨n1, n2, n3, n4, n5⟩ := hn
  refine ⟨h.ps.kb hk (fun g o e h0 => hs g (n1 g o e h0)) (fun j hj => ⟨fun g o e => hs g ((n2 j hj).1 g o e), fun g o e => hs g ((n2 j hj).2 g o e)⟩), h.ts.kb hk (fun g o e h0 => hs g (n3 g o e h0)) (fun j hj g o e => hs g (n4 j hj g o e)), ?_⟩
  rcases h.st with h0 | ⟨g, o, e, hl, hc⟩
  · exact .inl h0
  · have h9 : StAt W (some ⟨g, o, none⟩) p.ns p.S := .inr ⟨g, o, rfl, hl, hc⟩
    rw [e]
    exact h9.kb hk (hs g (n5 g o e))
end Go.Proofs.YtagchghhpggnlaaGreat
