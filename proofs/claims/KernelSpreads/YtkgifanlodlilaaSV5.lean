import Derived.Test.YtkgifanlodlilaaW0
import Derived.Test.YtkgifanlodlilaaSV2
import Derived.Laws.CopyOwn
import Derived.Maps.AppendAt
namespace Go.Proofs.Ytkgifanlodlilaa
open Go.ChangeShapes Go.WideShapes Go.ChangeAt Go.RowKit
set_option linter.unusedVariables false
set_option linter.unusedSimpArgs false

theorem sinf {i? : Option TypeInfo} {z : Value} {s b : Nat} (h : i?.map (fun i => (i.zero, i.size, i.bytes)) = some (some z, s, b)) : ∃ i, i? = some i ∧ i.zero = some z ∧ i.size = s ∧ i.bytes = b := by
  cases i? with
  | none => cases h
  | some i =>
    simp at h
    exact ⟨i, rfl, h.1, h.2.1, h.2.2⟩
theorem infoPG : (Try.prog.info? 51).map (fun i => (i.zero, i.size, i.bytes)) = some (some (.agg #[.int .i64 0, .int .i64 0, .slice none 0 0, .slice none 0 0]), 4, 64) := by kernel_rfl
theorem infoPT : (Try.prog.info? 54).map (fun i => (i.zero, i.size, i.bytes)) = some (some (.agg #[.int .i64 0, .slice none 0 0]), 2, 32) := by kernel_rfl
theorem infoST : (Try.prog.info? 36).map (fun i => (i.zero, i.size, i.bytes)) = some (some (.agg #[.int .u64 0, .int .i64 0, .int .i64 0, .int .i64 0]), 4, 32) := by kernel_rfl
theorem infoW8 : (Try.prog.info? 2).map (fun i => (i.zero, i.size, i.bytes)) = some (some (.int .i64 0), 1, 8) := by kernel_rfl
/-- all blocks but these stay -/
structure Kb (S : Nat → Prop) (W W' : World) : Prop where
  size : W.heap.size ≤ W'.heap.size
  block : ∀ k, k < W.heap.size → ¬ S k → W'.heap[k]? = W.heap[k]?
theorem Kb.trans {S : Nat → Prop} {a b c : World} (h : Kb S a b) (h' : Kb S b c) : Kb S a c := ⟨Nat.le_trans h.size h'.size, fun k hk hs => (h'.block k (Nat.lt_of_lt_of_le hk h.size) hs).trans (h.block k hk hs)⟩
theorem Kb.below {S : Nat → Prop} {W W' : World} (h : Below W.heap.size W W') : Kb S W W' := ⟨h.size, fun k hk _ => h.block k hk⟩
theorem Kb.set {S : Nat → Prop} (W : World) (b k : Nat) (v : Value) (h : S b) : Kb S W (W.setCell ⟨b, k, none⟩ v) := ⟨by simp [World.setCell], fun j _ hs => Below.heap_setCell _ _ _ _ fun e => hs (by show S j; rw [show j = b from e]; exact h)⟩
theorem Kb.grown {W W' : World} {r : Option Nat} (h : W.grownBy W' r) : Kb (fun k => some k = r) W W' := ⟨h.size, fun k hk hs => h.block k hk hs⟩
theorem cell_kb {S : Nat → Prop} {W W' : World} {a : Addr} (h : Kb S W W') (hlt : a.block < W.heap.size) (hs : ¬ S a.block) : W'.cell? a = W.cell? a := World.cell?_of_block (h.block _ hlt hs)
theorem KAt.kb {S : Nat → Prop} {W W' : World} {p : Option Addr} {n : Nat} {K : Nat → Int} (h : KAt W p n K) (hk : Kb S W W') (hs : ∀ g o, p = some ⟨g, o, none⟩ → ¬ S g) : KAt W' p n K := by
  rcases h with h | ⟨g, o, rfl, hl, hc⟩
  · exact .inl h
  · exact .inr ⟨g, o, rfl, Nat.lt_of_lt_of_le hl hk.size, fun j hj => (cell_kb (a := ⟨g, o + j, none⟩) hk hl (hs g o rfl)).trans (hc j hj)⟩
theorem IAt.kb {S : Nat → Prop} {W W' : World} {p : Option Addr} {n : Nat} {op a b : Nat → Int} (h : IAt W p n op a b) (hk : Kb S W W') (hs : ∀ g o, p = some ⟨g, o, none⟩ → ¬ S g) : IAt W' p n op a b := by
  rcases h with h | ⟨g, o, rfl, hl, hc⟩
  · exact .inl h
  · exact .inr ⟨g, o, rfl, Nat.lt_of_lt_of_le hl hk.size, fun j hj => ⟨(cell_kb (a := ⟨g, o + j * 3, none⟩) hk hl (hs g o rfl)).trans (hc j hj).1, (cell_kb (a := ⟨g, o + j * 3 + 1, none⟩) hk hl (hs g o rfl)).trans (hc j hj).2.1, (cell_kb (a := ⟨g, o + j * 3 + 2, none⟩) hk hl (hs g o rfl)).trans (hc j hj).2.2⟩⟩
theorem PAt.kb {S : Nat → Prop} {W W' : World} {P : Pg} {v : PgV} (h : PAt W P v) (hk : Kb S W W') (h1 : ∀ g o, v.cp = some ⟨g, o, none⟩ → ¬ S g) (h2 : ∀ g o, v.ep = some ⟨g, o, none⟩ → ¬ S g) : PAt W' P v := ⟨h.1.kb hk h1, h.2.kb hk h2⟩
/-- a list of the call's own, that lies aside of a row -/
def EA (W : World) (r : Value) (b : Nat) (p : Option Addr) : Prop := ∀ g o, p = some ⟨g, o, none⟩ → b ≤ g ∧ g < W.heap.size ∧ some g ≠ r.ownBlock
theorem EA.step {W W1 W9 : World} {r v' : Value} {b : Nat} {p : Option Addr} (h : EA W r b p) (h1 : W.heap.size ≤ W1.heap.size) (h2 : W1.heap.size ≤ W9.heap.size) (hv : v'.ownBlock = r.ownBlock ∨ v'.ownBlock = some W1.heap.size) : EA W9 v' b p := fun g o e => by
  obtain ⟨a1, a2, a3⟩ := h g o e
  refine ⟨a1, by omega, ?_⟩
  rcases hv with hv | hv
  · rw [hv]
    exact a3
  · rw [hv]
    intro e9
    injection e9 with e9
    omega
theorem EA.fresh {W W1 W9 : World} {r v' : Value} {b : Nat} {p : Option Addr} (h : ∀ g o, p = some ⟨g, o, none⟩ → W.heap.size ≤ g ∧ g < W1.heap.size) (hb : b ≤ W.heap.size) (hr : ∀ k, r.ownBlock = some k → k < W.heap.size) (h2 : W1.heap.size ≤ W9.heap.size) (hv : v'.ownBlock = r.ownBlock ∨ v'.ownBlock = some W1.heap.size) : EA W9 v' b p := fun g o e => by
  obtain ⟨a1, a2⟩ := h g o e
  refine ⟨by omega, by omega, ?_⟩
  intro e9
  rcases hv with hv | hv
  · rw [hv] at e9
    have := hr g e9.symm
    omega
  · rw [hv] at e9
    injection e9 with e9
    omega
theorem step_ap {P : Program} {ops : Array Oper} {o : Oper} {a : Act} {w : World} {K : Act → World → Prop} {Q : Exit → Act → World → Prop} {E : Prop}
    (hg : o.guard = none) (s x : Operand) (t : TypeId) (hop : o.op = Op.call { callee := Callee.builtin Builtin.append, args := #[s, x], argTypes := #[t, t] })
    (base : Nat) (e : TypeId) (i : TypeInfo) (z : Value) (size bytes : Nat) (ht : P.underlying t = some (.slice e)) (hi : P.info? e = some i) (hz : i.zero = some z)
    (hsize : i.size = size) (hby : i.bytes = bytes) (hzs : z.cells.size = size) (hsz : 0 < size)
    (v : Value) (n : Nat) (xs : List Value) (hs : a.eval s = v) (hown : w.ownsRow base e size v n xs)
    (ad : Addr) (m c : Nat) (news : List Value) (hx : a.eval x = .slice (some ad) m c) (hl : news.length = m * size) (hnews : ∀ j u, news[j]? = some u → w.cell? (ad.add j) = some u) (h1 : ∀ u ∈ news, u.oneCell' = true)
    (h63 : n + m ≤ maxLen) (hbytes : (n + m) * bytes ≤ 140737488355328) (hbase : base ≤ w.heap.size)
    (hK : ∀ v' w', w'.ownsRow base e size v' (n + m) (xs ++ news) → w.grownBy w' v.ownBlock → (v'.ownBlock = v.ownBlock ∨ v'.ownBlock = some w.heap.size) → K (a.put o.dst v') w') :
    if Region.wanted o (yielded ops a.tmps) = true then Oper.wp P o a w K Q else E := by
  have hw : Region.wanted o (yielded ops a.tmps) = true := by simp [Region.wanted, hg]
  rw [if_pos hw]
  obtain ⟨v', w', hr, h2, h3, h4, h5⟩ := run_append_own_at (P := P) w base t o.type e i z size bytes ht hi hz hsize hby hzs hsz v n xs hown ad m c news hl hnews h1 h63 hbytes hbase
  unfold Oper.wp execOp
  simp only [hop, resolve, invoke, builtin, Sem.run_bind, Sem.run_pure, Result.andThen_ok, List.map_toArray, List.map_cons, List.map_nil, hs, hx, hr]
  exact hK _ _ h2 h3 h5
/-- the cells of n programs -/
def pgL (P : Pg) (u : PgV) : List Value := [.int .i64 P.words, .int .i64 P.locals, .slice u.cp P.n u.cc, .slice u.ep P.m u.ec]
def pgF (P : Nat → Pg) (V : Nat → PgV) (x : Nat) : Value := (pgL (P (x / 4)) (V (x / 4))).getD (x % 4) undef
theorem pg_app (P : Nat → Pg) (V : Nat → PgV) (i : Nat) (u : PgV) : cellsF (pgF P V) (i * 4) ++ pgL (P i) u = cellsF (pgF P (fun j => if j = i then u else V j)) ((i + 1) * 4) := by
  have e : pgL (P i) u = cellsF (fun r => (pgL (P i) u).getD r undef) 4 := rfl
  rw [e, cellsF_append, show (i + 1) * 4 = i * 4 + 4 by omega]
  refine cellsF_congr fun j hj => ?_
  by_cases h : j < i * 4
  · rw [if_pos h]
    unfold pgF
    dsimp only
    rw [if_neg (by omega)]
  · rw [if_neg h]
    unfold pgF
    dsimp only
    rw [show j / 4 = i by omega, if_pos rfl, show j % 4 = j - i * 4 by omega]
def ptL (x : Int) (u : Option Addr) (n c : Nat) : List Value := [.int .i64 x, .slice u n c]
def ptF (pr : Nat → Int) (nw : Nat → Nat) (wp : Nat → Option Addr) (wc : Nat → Nat) (x : Nat) : Value := (ptL (pr (x / 2)) (wp (x / 2)) (nw (x / 2)) (wc (x / 2))).getD (x % 2) undef
theorem pt_app (pr : Nat → Int) (nw : Nat → Nat) (wp : Nat → Option Addr) (wc : Nat → Nat) (i : Nat) (u : Option Addr) (c : Nat) : cellsF (ptF pr nw wp wc) (i * 2) ++ ptL (pr i) u (nw i) c = cellsF (ptF pr nw (fun j => if j = i then u else wp j) (fun j => if j = i then c else wc j)) ((i + 1) * 2) := by
  have e : ptL (pr i) u (nw i) c = cellsF (fun r => (ptL (pr i) u (nw i) c).getD r undef) 2 := rfl
  rw [e, cellsF_append, show (i + 1) * 2 = i * 2 + 2 by omega]
  refine cellsF_congr fun j hj => ?_
  by_cases h : j < i * 2
  · rw [if_pos h]
    unfold ptF
    dsimp only
    rw [if_neg (by omega), if_neg (by omega)]
  · rw [if_neg h]
    unfold ptF
    dsimp only
    rw [show j / 2 = i by omega, if_pos rfl, if_pos rfl, show j % 2 = j - i * 2 by omega]
def stL (S : St) : List Value := [.int .u64 S.t, .int .i64 S.d, .int .i64 S.k, .int .i64 S.v]
def stF (S : Nat → St) (x : Nat) : Value := (stL (S (x / 4))).getD (x % 4) undef
theorem stF_one (S : Nat → St) (x : Nat) : (stF S x).oneCell' = true := by
  unfold stF stL
  have : x % 4 = 0 ∨ x % 4 = 1 ∨ x % 4 = 2 ∨ x % 4 = 3 := by omega
  rcases this with h | h | h | h <;> rw [h] <;> rfl
theorem StAt.cellsAt {W : World} {g o n : Nat} {S : Nat → St} (hc : ∀ j, j < n → W.cell? ⟨g, o + j * 4, none⟩ = some (.int .u64 (S j).t) ∧ W.cell? ⟨g, o + j * 4 + 1, none⟩ = some (.int .i64 (S j).d) ∧ W.cell? ⟨g, o + j * 4 + 2, none⟩ = some (.int .i64 (S j).k) ∧ W.cell? ⟨g, o + j * 4 + 3, none⟩ = some (.int .i64 (S j).v)) : ∀ x, x < n * 4 → W.cell? ⟨g, o + x, none⟩ = some (stF S x) := fun x hx => by
  obtain ⟨i, r, hr, rfl⟩ : ∃ i r, r < 4 ∧ x = i * 4 + r := ⟨x / 4, x % 4, by omega, by omega⟩
  obtain ⟨c0, c1, c2, c3⟩ := hc i (by omega)
  unfold stF stL
  rw [show (i * 4 + r) / 4 = i by omega, show (i * 4 + r) % 4 = r by omega, ← Nat.add_assoc]
  have : r = 0 ∨ r = 1 ∨ r = 2 ∨ r = 3 := by omega
  rcases this with rfl | rfl | rfl | rfl
  · exact c0
  · exact c1
  · exact c2
  · exact c3
theorem own_ps {W : World} {base n : Nat} {v : Value} {P : Nat → Pg} {V : Nat → PgV} (h : Own W base 51 4 v n (pgF P V)) (hp : ∀ j, j < n → PAt W (P j) (V j)) : ∃ q c, v = .slice q n c ∧ PsAt W q n P V := by
  rcases h.form with ⟨h1, h2⟩ | ⟨g, c, h1, h2, h3⟩
  · exact ⟨none, 0, by rw [h1, h2], .inl h2⟩
  · subst h1
    refine ⟨_, c, rfl, .inr ⟨g, 0, rfl, h3, fun j hj => ?_, hp⟩⟩
    have key : ∀ r, r < 4 → W.cell? ⟨g, 0 + j * 4 + r, none⟩ = some ((pgL (P j) (V j)).getD r undef) := fun r hr => by
      rw [Nat.zero_add, h.cell (j := j * 4 + r) (by omega)]
      unfold pgF
      rw [show (j * 4 + r) / 4 = j by omega, show (j * 4 + r) % 4 = r by omega]
    exact ⟨key 0 (by decide), key 1 (by decide), key 2 (by decide), key 3 (by decide)⟩
theorem own_ts {W : World} {base n : Nat} {v : Value} {pr : Nat → Int} {nw : Nat → Nat} {K : Nat → Nat → Int} {wp : Nat → Option Addr} {wc : Nat → Nat} (h : Own W base 54 2 v n (ptF pr nw wp wc)) (hp : ∀ j, j < n → KAt W (wp j) (nw j) (K j)) : ∃ q c, v = .slice q n c ∧ TsAt W q n pr nw K wp wc := by
  rcases h.form with ⟨h1, h2⟩ | ⟨g, c, h1, h2, h3⟩
  · exact ⟨none, 0, by rw [h1, h2], .inl h2⟩
  · subst h1
    refine ⟨_, c, rfl, .inr ⟨g, 0, rfl, h3, fun j hj => ?_, hp⟩⟩
    have key : ∀ r, r < 2 → W.cell? ⟨g, 0 + j * 2 + r, none⟩ = some ((ptL (pr j) (wp j) (nw j) (wc j)).getD r undef) := fun r hr => by
      rw [Nat.zero_add, h.cell (j := j * 2 + r) (by omega)]
      unfold ptF
      rw [show (j * 2 + r) / 2 = j by omega, show (j * 2 + r) % 2 = r by omega]
    exact ⟨key 0 (by decide), key 1 (by decide)⟩
theorem own_st {W : World} {base g c n : Nat} {S : Nat → St} (h : Own W base 36 4 (.slice (some ⟨g, 0, none⟩) n c) n (stF S)) : StAt W (some ⟨g, 0, none⟩) n S := by
  obtain ⟨cur, h1, _⟩ := h.block
  refine .inr ⟨g, 0, rfl, (Array.getElem?_eq_some_iff.1 h1).1, fun j hj => ?_⟩
  have key : ∀ r, r < 4 → W.cell? ⟨g, 0 + j * 4 + r, none⟩ = some ((stL (S j)).getD r undef) := fun r hr => by
    rw [Nat.zero_add, h.cell (j := j * 4 + r) (by omega)]
    unfold stF
    rw [show (j * 4 + r) / 4 = j by omega, show (j * 4 + r) % 4 = r by omega]
  exact ⟨key 0 (by decide), key 1 (by decide), key 2 (by decide), key 3 (by decide)⟩
set_option maxRecDepth 100000 in
set_option maxHeartbeats 1000000 in
theorem sameWords_any (p q : Option Addr) (n m c d : Nat) (K L : Nat → Int) (hn : n ≤ 17592186044416) (w : World) (hp : KAt w p n K) (hq : KAt w q m L) :
    Calls Try.prog 31 #[.slice p n c, .slice q m d] w fun e w' => e = .returned (.bool (decide (n = m) && sameF n K L)) ∧ Below w.heap.size w w' := by
  by_cases hnm : n = m
  · subst hnm
    rw [decide_eq_true rfl, Bool.true_and]
    have fy : Hid ((∀ j, j < n → K j = L j) → sameF n K L = true) := sameF_yes
    have fn : ∀ j, Hid (j < n → K j ≠ L j → sameF n K L = false) := fun j => sameF_no
    generalize sameF n K L = res at fy fn ⊢
    go_enter Try.func31, Try.ntmps31
    go_wp2
    go_loopw [13] (fun v wr => ∃ i : Nat, v = .int .i64 i ∧ i ≤ n ∧ Hid (∀ j, j < i → K j = L j) ∧ Below w.heap.size w wr) (fun v _ => n - (intOf v).toNat)
    case atStart => exact ⟨0, rfl, Nat.zero_le _, (fun j hj => by omega : ∀ j, j < 0 → K j = L j), Below.refl _ _⟩
    case round =>
      obtain ⟨i, rfl, hi, hsm, hbel⟩ := hrel
      by_cases hlt : i < n
      · obtain h0 | ⟨b, o, rfl, hl, hc⟩ := hp
        · omega
        obtain h0 | ⟨b', o', rfl, hl', hc'⟩ := hq
        · omega
        have x0 := (cell_below (a := ⟨b, o + i, none⟩) hbel hl).trans (hc i hlt)
        have y0 := (cell_below (a := ⟨b', o' + i, none⟩) hbel hl').trans (hc' i hlt)
        have dl : decide ((i : Int) < n) = true := decide_eq_true (by omega)
        have hm := meas hlt
        have hni := fn i
        clear hc hc' hl hl' fn
        by_cases he : K i = L i
        · have hsm' : Hid (∀ j, j < i + 1 → K j = L j) := by
            show ∀ j, j < i + 1 → K j = L j
            intro j hj
            by_cases h : j < i
            · exact hsm.out j h
            · obtain rfl : j = i := by omega
              exact he
          rw [he] at x0
          clear he hsm hni
          generalize L i = z at x0 y0
          go_wp2
          go_quiet (fail)
          go_wp2
          exact ⟨⟨i + 1, rfl, hlt, hsm', hbel.trans (below_drewNq _ _ _)⟩, hm⟩
        · have hres : res = false := hni.out hlt he
          subst hres
          have de : (K i == L i) = false := by simpa using he
          clear he hsm hni fy
          generalize K i = z1 at x0 de
          generalize L i = z2 at y0 de
          go_wp2
          go_quiet (fail)
          go_wp2
          go_ret
          exact ⟨rfl, hbel.trans (below_drewNq _ _ _)⟩
      · have dl : decide ((i : Int) < n) = false := decide_eq_false (by omega)
        obtain rfl : i = n := by omega
        have hres : res = true := fy.out hsm.out
        subst hres
        clear fy fn hp hq
        go_wp2
        go_ret
        exact ⟨rfl, hbel⟩
  · have d0 : ((n : Int) == m) = false := by simp; omega
    rw [decide_eq_false hnm, Bool.false_and]
    clear hp hq
    go_enter Try.func31, Try.ntmps31
    go_wp2
    go_ret
    exact ⟨rfl, Below.refl _ _⟩
set_option maxRecDepth 100000 in
set_option maxHeartbeats 1000000 in
theorem copyWords_any (sl : Option Addr) (L cap : Nat) (K : Nat → Int) (w : World) (hL : L ≤ 17592186044416) (h : KAt w sl L K) :
    Calls Try.prog 17 #[.slice sl L cap] w fun r w' => r = .returned (.slice (some ⟨w.heap.size, 0, none⟩) L L) ∧ w'.heap[w.heap.size]? = some (.cells (intsL K L).toArray 2 (0, 0)) ∧ Below w.heap.size w w' ∧ w.heap.size < w'.heap.size := by
  obtain ⟨i5, hi5, ha5, hb5, hc5⟩ := info_parts infoW8
  have hsz : (Try.prog.info? 2).map (·.size) = some 1 := by simp [hi5, hb5]
  go_enter Try.func17, Try.ntmps17
  go_wp2_with (at_make; refine wpList_make_full _ rfl (.tmp 5) (.tmp 5) 52 rfl w.heap.size 2 i5 (.int .i64 0) 1 Try.underlying52 hi5 ha5 hb5 .i64 .i64 L L L rfl rfl rfl rfl ?c1 ?c2 ?c3 ?_)
  case c1 => rw [hc5]; omega
  case c2 => unfold maxLen; omega
  case c3 => exact Nat.le_refl _
  intro w1 hown hgrow
  obtain ⟨cur, hcur, hcs⟩ : ∃ cur : List Value, w1.heap[w.heap.size]? = some (.cells cur.toArray 2 (0, 0)) ∧ cur.length = L := by
    obtain ⟨_, hx | ⟨g', cap', cur, hv, _, hh, _, _, hs, _⟩⟩ := hown
    · simp at hx
    · simp at hv
      obtain ⟨rfl, rfl⟩ := hv
      exact ⟨cur.toList, by simpa using hh, by simpa using hs⟩
  have hb1 : Below w.heap.size w w1 := (Below.refl _ _).grown hgrow (Nat.le_refl _) (by simp)
  have hlt1 : w.heap.size < w1.heap.size := lt_of_block hcur
  have hB1 := h.below hb1
  have HC : Hid (w1.heap[w.heap.size]? = some (.cells cur.toArray 2 (0, 0))) := hcur
  clear hown hgrow hcur
  go_wp2_with (refine wpList_copy_splice rfl (.tmp 7) (.tmp 8) 52 52 rfl 2 Try.underlying52 hsz (some ⟨w.heap.size, 0, none⟩) sl L L L cap rfl rfl w.heap.size 0 cur 2 HC.out (intsL K L) ?d1 ?d2 ?d3 (intsL_one K L) w.heap.size w hb1 (Nat.le_refl _) ?_)
  case d1 => rw [intsL_len]; simp
  case d2 =>
    intro hp
    rw [intsL_len] at hp
    obtain hx | ⟨b, off, rfl, hlt, hc⟩ := hB1
    · omega
    · refine ⟨⟨b, off, none⟩, rfl, fun j v hj => ?_⟩
      have hjl : j < L := by
        rcases Nat.lt_or_ge j L with z | z
        · exact z
        · rw [List.getElem?_eq_none (by rw [intsL_len]; exact z)] at hj; simp at hj
      rw [intsL_get hjl] at hj
      rw [addr_add, hc j hjl]
      exact hj
  case d3 => rw [intsL_len]; omega
  intro w2 hh2 hb2
  have hfull : splice cur 0 (intsL K L) = intsL K L := by
    simp [splice, intsL_len]
    omega
  have H2 : Hid (w2.heap[w.heap.size]? = some (.cells (intsL K L).toArray 2 (0, 0))) := by rw [← hfull]; exact hh2
  clear hh2 HC
  go_wp2
  go_ret
  exact ⟨rfl, H2.out, hb2, lt_of_block H2.out⟩
/-! ### events -/
end Go.Proofs.Ytkgifanlodlilaa
