import Derived.Test.YtijkokckdbhkcaaDoorKC
import Derived.Test.YtijkokckdbhkcaaDoorG1
import Derived.Deep.RegionHeld3
import Derived.Deep.RegionLaw
import Derived.Deep.Cut
import Derived.Deep.DeepCutAuto
import Derived.Deep.CutBlock
import Derived.Deep.CutRange
import Derived.Handy
namespace Go.Proofs.YtijkokckdbhkcaaDoor
open Go.ChangeShapes Go.WideShapes Go.ChangeAt Go.RowKit
set_option linter.unusedVariables false
set_option linter.unusedSimpArgs false

theorem sinf {i? : Option TypeInfo} {z : Value} {s b : Nat} (h : i?.map (fun i => (i.zero, i.size, i.bytes)) = some (some z, s, b)) : ∃ i, i? = some i ∧ i.zero = some z ∧ i.size = s ∧ i.bytes = b := by
  cases i? with
  | none => cases h
  | some i =>
    simp at h
    exact ⟨i, rfl, h.1, h.2.1, h.2.2⟩
theorem infoW8 : (Tryd.prog.info? 2).map (fun i => (i.zero, i.size, i.bytes)) = some (some (.int .i64 0), 1, 8) := by kernel_rfl
/-- all blocks but these stay -/
structure Kb (S : Nat → Prop) (W W' : World) : Prop where
  size : W.heap.size ≤ W'.heap.size
  block : ∀ k, k < W.heap.size → ¬ S k → W'.heap[k]? = W.heap[k]?
theorem Kb.trans {S : Nat → Prop} {a b c : World} (h : Kb S a b) (h' : Kb S b c) : Kb S a c := ⟨Nat.le_trans h.size h'.size, fun k hk hs => (h'.block k (Nat.lt_of_lt_of_le hk h.size) hs).trans (h.block k hk hs)⟩
theorem Kb.below {S : Nat → Prop} {W W' : World} (h : Below W.heap.size W W') : Kb S W W' := ⟨h.size, fun k hk _ => h.block k hk⟩
theorem Kb.set {S : Nat → Prop} (W : World) (b k : Nat) (v : Value) (h : S b) : Kb S W (W.setCell ⟨b, k, none⟩ v) := ⟨by simp [World.setCell], fun j _ hs => Below.heap_setCell _ _ _ _ fun e => hs (by show S j; rw [show j = b from e]; exact h)⟩
theorem Kb.grown {W W' : World} {r : Option Nat} (h : W.grownBy W' r) : Kb (fun k => some k = r) W W' := ⟨h.size, fun k hk hs => h.block k hk hs⟩
theorem cell_kb {S : Nat → Prop} {W W' : World} {a : Addr} (h : Kb S W W') (hlt : a.block < W.heap.size) (hs : ¬ S a.block) : W'.cell? a = W.cell? a := World.cell?_of_block (h.block _ hlt hs)
theorem KAt.kb {S : Nat → Prop} {W W' : World} {p : Option Addr} {n : Nat} {K : Nat → Int} (h : KAt W p n K) (hk : Kb S W W') (hs : ∀ g o, p = some ⟨g, o, none⟩ → ¬ S g) : KAt W' p n K := by
  rcases h with h | ⟨g, o, rfl, hl, hc⟩
  · exact .inl h
  · exact .inr ⟨g, o, rfl, Nat.lt_of_lt_of_le hl hk.size, fun j hj => (cell_kb (a := ⟨g, o + j, none⟩) hk hl (hs g o rfl)).trans (hc j hj)⟩
/-- a list of the call's own, that lies aside of a row -/
def EA (W : World) (r : Value) (b : Nat) (p : Option Addr) : Prop := ∀ g o, p = some ⟨g, o, none⟩ → b ≤ g ∧ g < W.heap.size ∧ some g ≠ r.ownBlock
theorem EA.step {W W1 W9 : World} {r v' : Value} {b : Nat} {p : Option Addr} (h : EA W r b p) (h1 : W.heap.size ≤ W1.heap.size) (h2 : W1.heap.size ≤ W9.heap.size) (hv : v'.ownBlock = r.ownBlock ∨ v'.ownBlock = some W1.heap.size) : EA W9 v' b p := fun g o e => by
  obtain ⟨a1, a2, a3⟩ := h g o e
  refine ⟨a1, by omega, ?_⟩
  rcases hv with hv | hv
  · rw [hv]
    exact a3
  · rw [hv]
    intro e9
    injection e9 with e9
    omega
theorem EA.fresh {W W1 W9 : World} {r v' : Value} {b : Nat} {p : Option Addr} (h : ∀ g o, p = some ⟨g, o, none⟩ → W.heap.size ≤ g ∧ g < W1.heap.size) (hb : b ≤ W.heap.size) (hr : ∀ k, r.ownBlock = some k → k < W.heap.size) (h2 : W1.heap.size ≤ W9.heap.size) (hv : v'.ownBlock = r.ownBlock ∨ v'.ownBlock = some W1.heap.size) : EA W9 v' b p := fun g o e => by
  obtain ⟨a1, a2⟩ := h g o e
  refine ⟨by omega, by omega, ?_⟩
  intro e9
  rcases hv with hv | hv
  · rw [hv] at e9
    have := hr g e9.symm
    omega
  · rw [hv] at e9
    injection e9 with e9
    omega
theorem step_ap {P : Program} {ops : Array Oper} {o : Oper} {a : Act} {w : World} {K : Act → World → Prop} {Q : Exit → Act → World → Prop} {E : Prop}
    (hg : o.guard = none) (s x : Operand) (t : TypeId) (hop : o.op = Op.call { callee := Callee.builtin Builtin.append, args := #[s, x], argTypes := #[t, t] })
    (base : Nat) (e : TypeId) (i : TypeInfo) (z : Value) (size bytes : Nat) (ht : P.underlying t = some (.slice e)) (hi : P.info? e = some i) (hz : i.zero = some z)
    (hsize : i.size = size) (hby : i.bytes = bytes) (hzs : z.cells.size = size) (hsz : 0 < size)
    (v : Value) (n : Nat) (xs : List Value) (hs : a.eval s = v) (hown : w.ownsRow base e size v n xs)
    (ad : Addr) (m c : Nat) (news : List Value) (hx : a.eval x = .slice (some ad) m c) (hl : news.length = m * size) (hnews : ∀ j u, news[j]? = some u → w.cell? (ad.add j) = some u) (h1 : ∀ u ∈ news, u.oneCell' = true)
    (h63 : n + m ≤ maxLen) (hbytes : (n + m) * bytes ≤ 140737488355328) (hbase : base ≤ w.heap.size)
    (hK : ∀ v' w', w'.ownsRow base e size v' (n + m) (xs ++ news) → w.grownBy w' v.ownBlock → (v'.ownBlock = v.ownBlock ∨ v'.ownBlock = some w.heap.size) → K (a.put o.dst v') w') :
    if Region.wanted o (yielded ops a.tmps) = true then Oper.wp P o a w K Q else E := by
  have hw : Region.wanted o (yielded ops a.tmps) = true := by simp [Region.wanted, hg]
  rw [if_pos hw]
  obtain ⟨v', w', hr, h2, h3, h4, h5⟩ := run_append_own_at (P := P) w base t o.type e i z size bytes ht hi hz hsize hby hzs hsz v n xs hown ad m c news hl hnews h1 h63 hbytes hbase
  unfold Oper.wp execOp
  simp only [hop, resolve, invoke, builtin, Sem.run_bind, Sem.run_pure, Result.andThen_ok, List.map_toArray, List.map_cons, List.map_nil, hs, hx, hr]
  exact hK _ _ h2 h3 h5
theorem own_of {W : World} {base : Nat} {t : TypeId} {s m : Nat} {v : Value} {xs : List Value} (h : W.ownsRow base t s v m xs) : Own W base t s v m (fun j => xs.getD j undef) := by
  unfold Own
  have h2 := cellsF_of xs
  rw [h.1] at h2
  rw [← h2]
  exact h
def setS {β : Type} (c : Nat → β) (i : Nat) (e : β) : Nat → β := fun j => if j = i then e else c j
set_option maxRecDepth 100000 in
set_option maxHeartbeats 1000000 in
theorem copyWords_any (sl : Option Addr) (L cap : Nat) (K : Nat → Int) (w : World) (hL : L ≤ 17592186044416) (h : KAt w sl L K) :
    Calls Tryd.prog 30 #[.slice sl L cap] w fun r w' => r = .returned (.slice (some ⟨w.heap.size, 0, none⟩) L L) ∧ w'.heap[w.heap.size]? = some (.cells (intsL K L).toArray 2 (0, 0)) ∧ Below w.heap.size w w' ∧ w.heap.size < w'.heap.size := by
  obtain ⟨i5, hi5, ha5, hb5, hc5⟩ := info_parts infoW8
  have hsz : (Tryd.prog.info? 2).map (·.size) = some 1 := by simp [hi5, hb5]
  go_enter Tryd.func30, Tryd.ntmps30
  go_wp2_with (at_make; refine wpList_make_full _ rfl (.tmp 5) (.tmp 5) 36 rfl w.heap.size 2 i5 (.int .i64 0) 1 Tryd.underlying36 hi5 ha5 hb5 .i64 .i64 L L L rfl rfl rfl rfl ?c1 ?c2 ?c3 ?_)
  case c1 => rw [hc5]; omega
  case c2 => unfold maxLen; omega
  case c3 => exact Nat.le_refl _
  intro w1 hown hgrow
  obtain ⟨cur, hcur, hcs⟩ : ∃ cur : List Value, w1.heap[w.heap.size]? = some (.cells cur.toArray 2 (0, 0)) ∧ cur.length = L := by
    obtain ⟨_, hx | ⟨g', cap', cur, hv, _, hh, _, _, hs, _⟩⟩ := hown
    · simp at hx
    · simp at hv
      obtain ⟨rfl, rfl⟩ := hv
      exact ⟨cur.toList, by simpa using hh, by simpa using hs⟩
  have hb1 : Below w.heap.size w w1 := (Below.refl _ _).grown hgrow (Nat.le_refl _) (by simp)
  have hlt1 : w.heap.size < w1.heap.size := lt_of_block hcur
  have hB1 := h.below hb1
  have HC : Hid (w1.heap[w.heap.size]? = some (.cells cur.toArray 2 (0, 0))) := hcur
  clear hown hgrow hcur
  go_wp2_with (refine wpList_copy_splice rfl (.tmp 7) (.tmp 8) 36 36 rfl 2 Tryd.underlying36 hsz (some ⟨w.heap.size, 0, none⟩) sl L L L cap rfl rfl w.heap.size 0 cur 2 HC.out (intsL K L) ?d1 ?d2 ?d3 (intsL_one K L) w.heap.size w hb1 (Nat.le_refl _) ?_)
  case d1 => rw [intsL_len]; simp
  case d2 =>
    intro hp
    rw [intsL_len] at hp
    obtain hx | ⟨b, off, rfl, hlt, hc⟩ := hB1
    · omega
    · refine ⟨⟨b, off, none⟩, rfl, fun j v hj => ?_⟩
      have hjl : j < L := by
        rcases Nat.lt_or_ge j L with z | z
        · exact z
        · rw [List.getElem?_eq_none (by rw [intsL_len]; exact z)] at hj; simp at hj
      rw [intsL_get hjl] at hj
      rw [addr_add, hc j hjl]
      exact hj
  case d3 => rw [intsL_len]; omega
  intro w2 hh2 hb2
  have hfull : splice cur 0 (intsL K L) = intsL K L := by
    simp [splice, intsL_len]
    omega
  have H2 : Hid (w2.heap[w.heap.size]? = some (.cells (intsL K L).toArray 2 (0, 0))) := by rw [← hfull]; exact hh2
  clear hh2 HC
  go_wp2
  go_ret
  exact ⟨rfl, H2.out, hb2, lt_of_block H2.out⟩
theorem cells3p {W : World} {b : Nat} {c0 c1 c2 : Value} {t : TypeId} (h : W.heap[b]? = some (.cells #[c0, c1, c2] t (0, 0))) : W.cell? ⟨b, 0, none⟩ = some c0 ∧ W.cell? ⟨b, 1, none⟩ = some c1 ∧ W.cell? ⟨b, 2, none⟩ = some c2 := by
  refine ⟨?_, ?_, ?_⟩
  all_goals (unfold World.cell?; rw [h]; rfl)
theorem Kb.mono {S S' : Nat → Prop} {W W' : World} (h : Kb S W W') (hs : ∀ k, S k → S' k) : Kb S' W W' := ⟨h.size, fun k hk h9 => h.block k hk fun e => h9 (hs k e)⟩
theorem put3 {W : World} {b : Nat} {a0 a1 a2 : Value} {t : TypeId} (h : W.heap[b]? = some (.cells #[a0, a1, a2] t (0, 0))) (c0 c1 c2 : Value) (W' : World) (e : ((W.setCell ⟨b, 0, none⟩ c0).setCell ⟨b, 1, none⟩ c1).setCell ⟨b, 2, none⟩ c2 = W') : W'.heap[b]? = some (.cells #[c0, c1, c2] t (0, 0)) ∧ (∀ k, k ≠ b → W'.heap[k]? = W.heap[k]?) ∧ (∀ B w0, Below B w0 W → B ≤ b → Below B w0 W') ∧ W'.heap.size = W.heap.size := by
  subst e
  have h0 : (W.setCell ⟨b, 0, none⟩ c0).heap[b]? = some (.cells #[c0, a1, a2] t (0, 0)) := by rw [setCell_block _ _ _ _ h]; rfl
  have h1 : ((W.setCell ⟨b, 0, none⟩ c0).setCell ⟨b, 1, none⟩ c1).heap[b]? = some (.cells #[c0, c1, a2] t (0, 0)) := by rw [setCell_block _ _ _ _ h0]; rfl
  refine ⟨by rw [setCell_block _ _ _ _ h1]; rfl, fun k hk => ?_, fun B w0 hb hB => ?_, by simp [World.setCell]⟩
  · rw [Below.heap_setCell _ _ _ _ hk, Below.heap_setCell _ _ _ _ hk, Below.heap_setCell _ _ _ _ hk]
  · exact ((hb.setCell (p := ⟨b, 0, none⟩) hB _).setCell (p := ⟨b, 1, none⟩) hB _).setCell (p := ⟨b, 2, none⟩) hB _
theorem sinfo {i? : Option TypeInfo} {z : Value} {s b : Nat} (h : i?.map (fun i => (i.zero, i.size, i.bytes)) = some (some z, s, b)) : ∃ i, i? = some i ∧ i.zero = some z ∧ i.size = s ∧ i.bytes = b := sinf h
theorem infoSE : (Tryd.prog.info? 41).map (fun i => (i.zero, i.size, i.bytes)) = some (some (.agg #[.int .u64 0, .int .i64 0, .int .u64 0, .int .i64 0, .int .i64 0, .int .i64 0]), 6, 48) := by kernel_rfl
theorem infoSA : (Tryd.prog.info? 38).map (fun i => (i.zero, i.size, i.bytes)) = some (some (.agg #[.slice none 0 0, .int .u64 0, .int .u64 0]), 3, 40) := by kernel_rfl
theorem kat_w {W : World} {g n : Nat} {K : Nat → Int} (h : W.heap[g]? = some (.cells (intsL K n).toArray 2 (0, 0))) : KAt W (some ⟨g, 0, none⟩) n K := by
  refine .inr ⟨g, 0, rfl, lt_of_block h, fun j hj => ?_⟩
  unfold World.cell?
  rw [h]
  have := intsL_get (K := K) hj
  simpa using this
/-- n elements of s cells, F, lie somewhere -/
def CIn (W : World) (p : Option Addr) (n s : Nat) (F : Nat → Value) : Prop := n = 0 ∨ ∃ b o, p = some ⟨b, o, none⟩ ∧ b < W.heap.size ∧ ∀ j, j < n * s → W.cell? ⟨b, o + j, none⟩ = some (F j)
theorem CIn.below {W W' : World} {p : Option Addr} {n s : Nat} {F : Nat → Value} (h : CIn W p n s F) (hb : Below W.heap.size W W') : CIn W' p n s F := by
  rcases h with h | ⟨b, o, h1, h2, h3⟩
  · exact .inl h
  · exact .inr ⟨b, o, h1, Nat.lt_of_lt_of_le h2 hb.size, fun j hj => (cell_below (a := ⟨b, o + j, none⟩) hb h2).trans (h3 j hj)⟩
structure Sa where
  p : Option Addr
  n : Nat
  c : Nat
  d : Int
  s : Int
def saL (a : Sa) : List Value := [.slice a.p a.n a.c, .int .u64 a.d, .int .u64 a.s]
def SsAt (W : World) (p : Option Addr) (n : Nat) (A : Nat → Sa) (K : Nat → Nat → Int) : Prop := n = 0 ∨ ∃ g o, p = some ⟨g, o, none⟩ ∧ g < W.heap.size ∧ (∀ j, j < n → W.cell? ⟨g, o + j * 3, none⟩ = some (.slice (A j).p (A j).n (A j).c) ∧ W.cell? ⟨g, o + j * 3 + 1, none⟩ = some (.int .u64 (A j).d) ∧ W.cell? ⟨g, o + j * 3 + 2, none⟩ = some (.int .u64 (A j).s)) ∧ ∀ j, j < n → KAt W (A j).p (A j).n (K j)
theorem SsAt.below {W W' : World} {p : Option Addr} {n : Nat} {A : Nat → Sa} {K : Nat → Nat → Int} (h : SsAt W p n A K) (hb : Below W.heap.size W W') : SsAt W' p n A K := by
  rcases h with h | ⟨g, o, rfl, hl, hc, hp⟩
  · exact .inl h
  · exact .inr ⟨g, o, rfl, Nat.lt_of_lt_of_le hl hb.size, fun j hj => ⟨(cell_below (a := ⟨g, o + j * 3, none⟩) hb hl).trans (hc j hj).1, (cell_below (a := ⟨g, o + j * 3 + 1, none⟩) hb hl).trans (hc j hj).2.1, (cell_below (a := ⟨g, o + j * 3 + 2, none⟩) hb hl).trans (hc j hj).2.2⟩, fun j hj => (hp j hj).below hb⟩
def saF (A : Nat → Sa) (x : Nat) : Value := (saL (A (x / 3))).getD (x % 3) undef
theorem saF_at (A : Nat → Sa) (i r : Nat) (h : r < 3) : saF A (i * 3 + r) = (saL (A i)).getD r undef := by
  unfold saF
  rw [show (i * 3 + r) / 3 = i by omega, show (i * 3 + r) % 3 = r by omega]
def ARow (W : World) (base g n cap : Nat) (A : Nat → Sa) : Prop := Own W base 38 3 (.slice (some ⟨g, 0, none⟩) n cap) n (saF A)
theorem ARow.cells {W : World} {base g n cap : Nat} {A : Nat → Sa} (h : ARow W base g n cap A) {i : Nat} (hi : i < n) : W.cell? ⟨g, i * 3, none⟩ = some (.slice (A i).p (A i).n (A i).c) ∧ W.cell? ⟨g, i * 3 + 1, none⟩ = some (.int .u64 (A i).d) ∧ W.cell? ⟨g, i * 3 + 2, none⟩ = some (.int .u64 (A i).s) := by
  have hh : ∀ r, r < 3 → W.cell? ⟨g, i * 3 + r, none⟩ = some ((saL (A i)).getD r undef) := fun r hr => by rw [Own.cell h (j := i * 3 + r) (by omega), saF_at _ _ _ hr]
  exact ⟨hh 0 (by decide), hh 1 (by decide), hh 2 (by decide)⟩
theorem own_ss {W : World} {base n : Nat} {v : Value} {A : Nat → Sa} {K : Nat → Nat → Int} (h : Own W base 38 3 v n (saF A)) (hp : ∀ j, j < n → KAt W (A j).p (A j).n (K j)) : ∃ q c, v = .slice q n c ∧ SsAt W q n A K := by
  rcases h.form with ⟨h1, h2⟩ | ⟨g, c, h1, h2, h3⟩
  · exact ⟨none, 0, by rw [h1, h2], .inl h2⟩
  · subst h1
    refine ⟨_, c, rfl, .inr ⟨g, 0, rfl, h3, fun j hj => ?_, hp⟩⟩
    rw [Nat.zero_add]
    exact ARow.cells h hj
theorem sa_app1 (A : Nat → Sa) (i : Nat) (a : Sa) : cellsF (saF A) (i * 3) ++ saL a = cellsF (saF (setS A i a)) ((i + 1) * 3) := by
  have e : saL a = cellsF (fun r => (saL a).getD r undef) 3 := rfl
  rw [e, cellsF_append, show (i + 1) * 3 = i * 3 + 3 by omega]
  refine cellsF_congr fun j hj => ?_
  by_cases h : j < i * 3
  · rw [if_pos h]
    unfold saF setS
    rw [if_neg (by omega)]
  · rw [if_neg h]
    unfold saF setS
    rw [show j / 3 = i by omega, if_pos rfl, show j % 3 = j - i * 3 by omega]
/-- the same states, wherever their words lie -/
def SaEq (n : Nat) (A C : Nat → Sa) : Prop := ∀ j, j < n → (C j).n = (A j).n ∧ (C j).d = (A j).d ∧ (C j).s = (A j).s
/-- states in a row of the call's own, their words aside -/
structure StRow (W : World) (b : Nat) (v : Value) (n : Nat) (A : Nat → Sa) (K : Nat → Nat → Int) : Prop where
  row : Own W b 38 3 v n (saF A)
  wds : ∀ j, j < n → KAt W (A j).p (A j).n (K j) ∧ EA W v b (A j).p
theorem StRow.ss {W : World} {b : Nat} {q : Option Addr} {n c : Nat} {A : Nat → Sa} {K : Nat → Nat → Int} (h : StRow W b (.slice q n c) n A K) : SsAt W q n A K := by
  obtain ⟨q', c', e, hs⟩ := own_ss h.row (fun j hj => (h.wds j hj).1)
  injection e with e1 e2 e3
  subst e1
  exact hs
structure Se where
  t : Int
  s : Int
  q : Int
  d : Int
  k : Int
  v : Int
def seL (e : Se) : List Value := [.int .u64 e.t, .int .i64 e.s, .int .u64 e.q, .int .i64 e.d, .int .i64 e.k, .int .i64 e.v]
def seC (e : Se) (r : Nat) : Value := (seL e).getD r undef
def seF (c : Nat → Se) (j : Nat) : Value := seC (c (j / 6)) (j % 6)
theorem seF_at (c : Nat → Se) (i r : Nat) (h : r < 6) : seF c (i * 6 + r) = seC (c i) r := by
  unfold seF
  rw [show (i * 6 + r) / 6 = i by omega, show (i * 6 + r) % 6 = r by omega]
theorem seF_one (X : Nat → Se) (j : Nat) : (seF X j).oneCell' = true := by
  unfold seF seC seL
  have hr := Nat.mod_lt j (show 0 < 6 by decide)
  generalize j % 6 = r at hr ⊢
  match r, hr with
  | 0, _ => rfl
  | 1, _ => rfl
  | 2, _ => rfl
  | 3, _ => rfl
  | 4, _ => rfl
  | 5, _ => rfl
def SIn (W : World) (p : Option Addr) (m : Nat) (X : Nat → Se) : Prop := CIn W p m 6 (seF X)
theorem SIn.below {W W' : World} {p : Option Addr} {m : Nat} {X : Nat → Se} (h : SIn W p m X) (hb : Below W.heap.size W W') : SIn W' p m X := by
  rcases h with h | ⟨b, o, h1, h2, h3⟩
  · exact .inl h
  · exact .inr ⟨b, o, h1, Nat.lt_of_lt_of_le h2 hb.size, fun j hj => (cell_below (a := ⟨b, o + j, none⟩) hb h2).trans (h3 j hj)⟩
theorem SIn.at {W : World} {p : Option Addr} {m : Nat} {X : Nat → Se} (h : SIn W p m X) {i : Nat} (hi : i < m) : ∃ b o, p = some ⟨b, o, none⟩ ∧ b < W.heap.size ∧ W.cell? ⟨b, o + i * 6, none⟩ = some (.int .u64 (X i).t) ∧ W.cell? ⟨b, o + i * 6 + 1, none⟩ = some (.int .i64 (X i).s) ∧ W.cell? ⟨b, o + i * 6 + 2, none⟩ = some (.int .u64 (X i).q) ∧ W.cell? ⟨b, o + i * 6 + 3, none⟩ = some (.int .i64 (X i).d) ∧ W.cell? ⟨b, o + i * 6 + 4, none⟩ = some (.int .i64 (X i).k) ∧ W.cell? ⟨b, o + i * 6 + 5, none⟩ = some (.int .i64 (X i).v) := by
  rcases h with h | ⟨b, o, h1, h2, h3⟩
  · omega
  · have key : ∀ r, r < 6 → W.cell? ⟨b, o + i * 6 + r, none⟩ = some (seC (X i) r) := fun r hr => by
      have := h3 (i * 6 + r) (by omega)
      rw [seF_at _ _ _ hr] at this
      rw [Nat.add_assoc]
      exact this
    exact ⟨b, o, h1, h2, key 0 (by decide), key 1 (by decide), key 2 (by decide), key 3 (by decide), key 4 (by decide), key 5 (by decide)⟩
theorem SIn.congr {W : World} {p : Option Addr} {m : Nat} {X Y : Nat → Se} (h : SIn W p m X) (he : ∀ j, j < m → X j = Y j) : SIn W p m Y := by
  rcases h with h | ⟨b, o, h1, h2, h3⟩
  · exact .inl h
  · exact .inr ⟨b, o, h1, h2, fun j hj => by rw [h3 j hj]; unfold seF; rw [he (j / 6) (by omega)]⟩
theorem own_sin0 {W : World} {base n c : Nat} {p : Option Addr} {X : Nat → Se} (h : Own W base 41 6 (.slice p n c) n (seF X)) : SIn W p n X := by
  rcases h.form with ⟨h1, h2⟩ | ⟨g, c', h1, h2, h3⟩
  · exact .inl h2
  · injection h1 with e1 e2 e3
    subst e1
    subst e3
    refine .inr ⟨g, 0, rfl, h3, fun j hj => ?_⟩
    rw [Nat.zero_add]
    exact h.cell (j := j) hj
set_option maxRecDepth 100000 in
set_option maxHeartbeats 2000000 in
theorem copyEvents_any (p : Option Addr) (n cp : Nat) (X : Nat → Se) (hn : n ≤ 2932031007402) (w : World) (hsrc : SIn w p n X) : Calls Tryd.prog 12 #[.slice p n cp] w fun e w' => ∃ g, e = .returned (.slice (some ⟨g, 0, none⟩) n n) ∧ Own w' w.heap.size 41 6 (.slice (some ⟨g, 0, none⟩) n n) n (seF X) ∧ Below w.heap.size w w' := by
  obtain ⟨i6, hi6, ha6, hb6, hc6⟩ := sinfo infoSE
  have hsz : (Tryd.prog.info? 41).map (·.size) = some 6 := by simp [hi6, hb6]
  have HS : Hid (SIn w p n X) := hsrc
  clear hsrc
  go_enter Tryd.func12, Tryd.ntmps12
  go_wp2_with (at_make; refine wpList_make_full _ rfl (.tmp 5) (.tmp 5) 27 rfl w.heap.size 41 i6 _ 6 Tryd.underlying27 hi6 ha6 hb6 .i64 .i64 n n n rfl rfl rfl rfl ?c1 ?c2 ?c3 ?_)
  case c1 => rw [hc6]; omega
  case c2 => unfold maxLen; omega
  case c3 => exact Nat.le_refl _
  intro w1 hown hgrow
  have hb1 : Below w.heap.size w w1 := (Below.refl _ _).grown hgrow (Nat.le_refl _) (by simp)
  have hO := own_of hown
  have hs2 : n = 0 ∨ ∃ ad, p = some ad ∧ ∀ j, j < n * 6 → w1.cell? (ad.add j) = some (seF X j) := by
    rcases HS.out with h | ⟨b, o, hp, hb, hc⟩
    · exact .inl h
    · exact .inr ⟨_, hp, fun j hj => by rw [addr_add0]; exact (cell_below (a := ⟨b, o + j, none⟩) hb1 hb).trans (hc j hj)⟩
  have HB1 : Hid (Below w.heap.size w w1) := hb1
  clear hown hgrow hb1
  go_wp2_with (refine wpList_copy_head rfl (.tmp 7) (.tmp 8) 27 27 rfl 41 6 Tryd.underlying27 hsz w.heap.size w.heap.size n n n cp p rfl rfl (Nat.le_refl _) _ (seF X) hO (fun j _ => seF_one X j) hs2 w.heap.size w HB1.out (Nat.le_refl _) ?_; intro w2 hO2 hB2)
  have hO3 : Own w2 w.heap.size 41 6 (.slice (some ⟨w.heap.size, 0, none⟩) n n) n (seF X) := hO2.out.congr fun j hj => by rw [if_pos hj]
  go_ret
  exact ⟨_, rfl, hO3, hB2⟩
set_option maxRecDepth 100000 in
set_option maxHeartbeats 2000000 in
theorem copyState_any (p : Option Addr) (n c : Nat) (K : Nat → Int) (d s : Int) (hn : n ≤ 17592186044416) (w : World) (h : KAt w p n K) : Calls Tryd.prog 22 #[.agg #[.slice p n c, .int .u64 d, .int .u64 s]] w fun e w' => ∃ q cc, e = .returned (.agg #[.slice q n cc, .int .u64 d, .int .u64 s]) ∧ KAt w' q n K ∧ (∀ g o, q = some ⟨g, o, none⟩ → w.heap.size ≤ g ∧ g < w'.heap.size) ∧ Below w.heap.size w w' := by
  obtain ⟨wb, hwb⟩ : ∃ wb, (w.alloc (.cells #[.slice p n c, .int .u64 d, .int .u64 s] 38)).alloc (.cells #[.slice none 0 0, .int .u64 0, .int .u64 0] 38) = wb := ⟨_, rfl⟩
  have hb0 : Below w.heap.size w wb := by rw [← hwb]; exact ((Below.refl _ w).alloc (Nat.le_refl _) _).alloc (by simp) _
  have hbox : wb.heap[w.heap.size]? = some (.cells #[.slice p n c, .int .u64 d, .int .u64 s] 38 (0, 0)) := by
    rw [← hwb, Below.heap_alloc _ _ _ (by simp)]
    exact World.alloc_heap_new w _
  have hres : wb.heap[w.heap.size + 1]? = some (.cells #[.slice none 0 0, .int .u64 0, .int .u64 0] 38 (0, 0)) := by
    rw [← hwb]
    have := World.alloc_heap_new (w.alloc (.cells #[.slice p n c, .int .u64 d, .int .u64 s] 38)) (.cells #[.slice none 0 0, .int .u64 0, .int .u64 0] 38)
    rwa [World.size_alloc] at this
  have HSZ : Hid (wb.heap.size = w.heap.size + 2) := by show wb.heap.size = w.heap.size + 2; rw [← hwb]; simp
  have HW : Hid ((w.alloc (.cells #[.slice p n c, .int .u64 d, .int .u64 s] 38)).alloc (.cells #[.slice none 0 0, .int .u64 0, .int .u64 0] 38) = wb) := hwb
  have HC := copyWords_any p n c K wb hn (h.below hb0)
  have HB : Hid (Below w.heap.size w wb ∧ wb.heap[w.heap.size]? = some (.cells #[.slice p n c, .int .u64 d, .int .u64 s] 38 (0, 0)) ∧ wb.heap[w.heap.size + 1]? = some (.cells #[.slice none 0 0, .int .u64 0, .int .u64 0] 38 (0, 0))) := ⟨hb0, hbox, hres⟩
  obtain ⟨c0, c1, c2⟩ := cells3p hbox
  rw [← hwb] at c0 c1 c2
  obtain ⟨gw, hgw⟩ : ∃ gw, wb.heap.size = gw := ⟨_, rfl⟩
  rw [hgw] at HC
  have HGW : Hid (wb.heap.size = gw) := hgw
  clear hwb h hb0 hbox hres hgw
  go_enter Tryd.func22, Tryd.ntmps22
  go_upto_region 2 with (go_at_call 30; rw [HW.out]; (with_reducible refine HC.mono ?_); rintro e w1 ⟨rfl, hr1, hb1, hl1⟩; have hb1 : Below wb.heap.size wb w1 := (by rw [HGW.out]; exact hb1); have hx1 := (hb1.block _ (lt_of_block HB.out.2.1)).trans HB.out.2.1; have hy1 := (hb1.block _ (lt_of_block HB.out.2.2)).trans HB.out.2.2; have H1 : Hid (KAt w1 (some ⟨gw, 0, none⟩) n K ∧ Below wb.heap.size wb w1 ∧ gw < w1.heap.size ∧ w1.heap[w.heap.size]? = some (.cells #[.slice p n c, .int .u64 d, .int .u64 s] 38 (0, 0)) ∧ w1.heap[w.heap.size + 1]? = some (.cells #[.slice none 0 0, .int .u64 0, .int .u64 0] 38 (0, 0))) := ⟨kat_w hr1, hb1, hl1, hx1, hy1⟩; clear c0 c1 c2; obtain ⟨c0, c1, c2⟩ := cells3p hx1; have z0 := frz hx1 0; clear hr1 hb1 hl1 hx1 hy1)
  obtain ⟨w2, hw2⟩ : ∃ w2, w1.setCell ⟨w.heap.size, 0, none⟩ (.slice (some ⟨gw, 0, none⟩) n n) = w2 := ⟨_, rfl⟩
  rw [hw2]
  have hbx2 : w2.heap[w.heap.size]? = some (.cells #[.slice (some ⟨gw, 0, none⟩) n n, .int .u64 d, .int .u64 s] 38 (0, 0)) := by rw [← hw2, setCell_block _ _ _ _ H1.out.2.2.2.1]; rfl
  have hrs2 : w2.heap[w.heap.size + 1]? = some (.cells #[.slice none 0 0, .int .u64 0, .int .u64 0] 38 (0, 0)) := by
    rw [← hw2, Below.heap_setCell _ _ _ _ (by show w.heap.size + 1 ≠ w.heap.size; omega)]
    exact H1.out.2.2.2.2
  have HK2 : Hid (Kb (fun k => k = w.heap.size) w1 w2 ∧ w2.heap[w.heap.size + 1]? = some (.cells #[.slice none 0 0, .int .u64 0, .int .u64 0] 38 (0, 0)) ∧ Below w.heap.size w w2) := by
    refine ⟨by rw [← hw2]; exact Kb.set w1 _ _ _ rfl, hrs2, ?_⟩
    rw [← hw2]
    exact (HB.out.1.trans (H1.out.2.1.mono HB.out.1.size)).setCell (p := ⟨w.heap.size, 0, none⟩) (Nat.le_refl _) _
  clear c0 c1 c2 z0 hw2
  obtain ⟨c0, c1, c2⟩ := cells3p hbx2
  obtain ⟨d0, d1, d2⟩ := cells3p hrs2
  have z0 := frz hrs2 0
  have z1 := frz hrs2 1
  have z2 := frz hrs2 2
  clear hbx2 hrs2
  go_wp2_with fail
  generalize hWF : (World.setCell (World.setCell (World.setCell w2 _ _) _ _) _ _) = wF
  obtain ⟨q1, q2, q3, q4⟩ := put3 HK2.out.2.1 _ _ _ wF hWF
  obtain ⟨e0, e1, e2⟩ := cells3p q1
  refine bodyPost_ret (v := .agg #[.slice (some ⟨gw, 0, none⟩) n n, .int .u64 d, .int .u64 s]) (by simp [results, Tryd.results22, go_sem, e0, e1, e2]; try rfl) rfl ?_
  have hz := HSZ.out
  have hg := HGW.out
  have hs2 := HK2.out.1.size
  have kbF : Kb (fun k => k = w.heap.size ∨ k = w.heap.size + 1) w1 wF := (HK2.out.1.mono fun k e => .inl e).trans ⟨by omega, fun k _ hs => q2 k fun e => hs (.inr e)⟩
  refine ⟨_, _, rfl, H1.out.1.kb kbF (fun g o e h9 => ?_), fun g o e => ?_, q3 _ _ HK2.out.2.2 (Nat.le_succ _)⟩
  · injection e with e
    injection e with e1 e2 e3
    rcases h9 with h9 | h9 <;> omega
  · injection e with e
    injection e with e1 e2 e3
    have := H1.out.2.2.1
    omega
set_option maxRecDepth 100000 in
set_option maxHeartbeats 4000000 in
theorem copyStates_any (p : Option Addr) (n c : Nat) (A : Nat → Sa) (K : Nat → Nat → Int) (hn : n * 40 ≤ 140737488355328) (hw : ∀ j, j < n → (A j).n ≤ 17592186044416) (w : World) (h : SsAt w p n A K) :
    Calls Tryd.prog 11 #[.slice p n c] w fun e w' => ∃ (q : Option Addr) (cc : Nat) (C : Nat → Sa), e = .returned (.slice q n cc) ∧ StRow w' w.heap.size (.slice q n cc) n C K ∧ SaEq n A C ∧ Below w.heap.size w w' := by
  obtain ⟨iA, hA1, hA2, hA3, hA4⟩ := sinfo infoSA
  have HS : Hid (SsAt w p n A K ∧ ∀ j, j < n → (A j).n ≤ 17592186044416) := ⟨h, hw⟩
  clear h hw
  go_enter Tryd.func11, Tryd.ntmps11
  go_wp2_with fail
  go_loopw [3, 8] (fun r x wr => ∃ (i : Nat) (C : Nat → Sa), x = .int .i64 (i : Int) ∧ i ≤ n ∧ StRow wr w.heap.size r i C K ∧ SaEq i A C ∧ Below w.heap.size w wr) (fun _ x _ => n - (intOf x).toNat)
  case atStart => exact ⟨0, A, rfl, Nat.zero_le _, ⟨World.ownsRow_nil _ _ _ _, fun j hj => absurd hj (Nat.not_lt_zero _)⟩, fun j hj => absurd hj (Nat.not_lt_zero _), Below.refl _ _⟩
  case round =>
    obtain ⟨i, C, rfl, hi, hst, hse, hb⟩ := hrel
    by_cases hlt : i < n
    case pos =>
      have dlt : decide ((i : Int) < (n : Int)) = true := by simp; omega
      have i0 : (0 : Int) ≤ (i : Int) := by omega
      have i1 : (i : Int) < (n : Int) := by omega
      have ei : IntKind.i64.wrap ((i : Int) + 1) = (i : Int) + 1 := by rw [IntKind.wrap_i64]; omega
      have hme := meas hlt
      obtain hz | ⟨g, o, hp, hl, hc, hkw⟩ := HS.out.1.below hb
      · omega
      obtain ⟨x0, x1, x2⟩ := hc i hlt
      have hbx : Below wr.heap.size wr (wr.alloc (.cells #[.slice (A i).p (A i).n (A i).c, .int .u64 (A i).d, .int .u64 (A i).s] 38)) := (Below.refl _ wr).alloc (Nat.le_refl _) _
      have HC := copyState_any (A i).p (A i).n (A i).c (K i) (A i).d (A i).s (HS.out.2 i hlt) _ ((hkw i hlt).below hbx)
      have p1 : i + 1 ≤ maxLen := by unfold maxLen; omega
      have p2 : (i + 1) * 40 ≤ 140737488355328 := by omega
      have HA : Hid (StRow wr w.heap.size u3 i C K ∧ SaEq i A C ∧ Below w.heap.size w wr ∧ Below wr.heap.size wr (wr.alloc (.cells #[.slice (A i).p (A i).n (A i).c, .int .u64 (A i).d, .int .u64 (A i).s] 38))) := ⟨hst, hse, hb, hbx⟩
      rw [hp]
      clear hc hkw hbx hst hse hb hl hp
      go_wp2_with (first | (go_at_call 22; (with_reducible refine HC.mono ?_); rintro e w3 ⟨q3, c3, rfl, hq3, hqn3, hb3⟩; have hbr : Below wr.heap.size wr w3 := HA.out.2.2.2.trans (hb3.mono HA.out.2.2.2.size); have H3 : Hid ((w3.alloc (.cells (saL ⟨q3, (A i).n, c3, (A i).d, (A i).s⟩).toArray 38)).ownsRow w.heap.size 38 3 u3 i (cellsF (saF C) (i * 3)) ∧ (∀ j y, (saL ⟨q3, (A i).n, c3, (A i).d, (A i).s⟩)[j]? = some y → (w3.alloc (.cells (saL ⟨q3, (A i).n, c3, (A i).d, (A i).s⟩).toArray 38)).cell? ((⟨w3.heap.size, 0, none⟩ : Addr).add j) = some y) ∧ Below w.heap.size w (w3.alloc (.cells (saL ⟨q3, (A i).n, c3, (A i).d, (A i).s⟩).toArray 38)) ∧ Below wr.heap.size wr (w3.alloc (.cells (saL ⟨q3, (A i).n, c3, (A i).d, (A i).s⟩).toArray 38)) ∧ KAt (w3.alloc (.cells (saL ⟨q3, (A i).n, c3, (A i).d, (A i).s⟩).toArray 38)) q3 (A i).n (K i) ∧ (∀ g o, q3 = some ⟨g, o, none⟩ → wr.heap.size ≤ g ∧ g < (w3.alloc (.cells (saL ⟨q3, (A i).n, c3, (A i).d, (A i).s⟩).toArray 38)).heap.size)) := (by
          have h3 : Below w3.heap.size w3 (w3.alloc (.cells (saL ⟨q3, (A i).n, c3, (A i).d, (A i).s⟩).toArray 38)) := (Below.refl _ w3).alloc (Nat.le_refl _) _
          have h4 := h3.size
          have h5 : Below w.heap.size w w3 := HA.out.2.2.1.trans (hbr.mono HA.out.2.2.1.size)
          have h6 := World.size_alloc wr (.cells #[.slice (A i).p (A i).n (A i).c, .int .u64 (A i).d, .int .u64 (A i).s] 38)
          exact ⟨World.ownsRow.alloc (srow_later HA.out.1.row hbr) _, scells_new w3 (saL ⟨q3, (A i).n, c3, (A i).d, (A i).s⟩) _, h5.trans (h3.mono h5.size), hbr.trans (h3.mono hbr.size), hq3.below h3, fun g o e => ⟨by have := (hqn3 g o e).1; omega, by have := (hqn3 g o e).2; omega⟩⟩); clear hq3 hqn3 hb3 hbr) | (at_builtin; refine wpList_append_own_at _ rfl _ _ 26 rfl w.heap.size 38 iA _ 3 40 Tryd.underlying26 hA1 hA2 hA3 hA4 rfl (by decide) _ _ _ rfl H3.out.1 ⟨w3.heap.size, 0, none⟩ 1 1 (saL ⟨q3, (A i).n, c3, (A i).d, (A i).s⟩) rfl rfl H3.out.2.1 (by simp [saL, Value.oneCell']) p1 p2 H3.out.2.2.1.size ?_; intro v' w9 hown9 hgrow9 _ hnb9))
      obtain ⟨a1, a2, a3, a4⟩ := HA.out
      obtain ⟨b1, b2, b3, b4, b5, b6⟩ := H3.out
      have hb9 : Below w.heap.size w w9 := b3.grown hgrow9 b3.size (fun r' e => (srow_lt b1 r' e).1)
      have hkb := Kb.grown hgrow9
      have hlt9 := fun k hk => (srow_lt a1.row k hk).2
      refine ⟨⟨i + 1, setS C i ⟨q3, (A i).n, c3, (A i).d, (A i).s⟩, rfl, hlt, ⟨?_, fun j hj => ?_⟩, fun j hj => ?_, hb9⟩, hme⟩
      · unfold Own
        rw [← sa_app1]
        exact hown9
      · unfold setS
        by_cases e : j = i
        · rw [if_pos e, e]
          refine ⟨b5.kb hkb (fun g o e9 h9 => ?_), EA.fresh (W := wr) (r := u3) b6 a3.size hlt9 hkb.size hnb9⟩
          have l1 := b6 g o e9
          have l2 := hlt9 g h9.symm
          omega
        · rw [if_neg e]
          obtain ⟨l1, l2⟩ := a1.wds j (by omega)
          exact ⟨(l1.below b4).kb hkb (fun g o e9 h9 => (l2 g o e9).2.2 h9), l2.step b4.size hkb.size hnb9⟩
      · unfold setS
        by_cases e : j = i
        · rw [if_pos e, e]
          exact ⟨rfl, rfl, rfl⟩
        · rw [if_neg e]
          exact a2 j (by omega)
    have dlt : decide ((i : Int) < (n : Int)) = false := by simp; omega
    obtain rfl : i = n := by omega
    obtain ⟨q, cc, rfl⟩ := own_slice hst.row
    have HF : Hid (StRow wr w.heap.size (.slice q i cc) i C K ∧ SaEq i A C ∧ Below w.heap.size w wr) := ⟨hst, hse, hb⟩
    clear hst hse hb
    go_wp2_with fail
    go_ret
    exact ⟨q, cc, C, rfl, HF.out⟩
theorem kboxed2 (w : World) (c d : Array Value) (t u : TypeId) : ∃ wb, (w.alloc (.cells c t)).alloc (.cells d u) = wb ∧ Below w.heap.size w wb ∧ wb.heap[w.heap.size]? = some (.cells c t (0, 0)) ∧ wb.heap[w.heap.size + 1]? = some (.cells d u (0, 0)) ∧ wb.heap.size = w.heap.size + 2 := by
  refine ⟨_, rfl, ((Below.refl _ w).alloc (Nat.le_refl _) _).alloc (by simp) _, ?_, ?_, by simp⟩
  · rw [Below.heap_alloc _ _ _ (by simp)]
    exact World.alloc_heap_new w _
  · have := World.alloc_heap_new (w.alloc (.cells c t)) (.cells d u)
    rwa [World.size_alloc] at this
theorem cells8k {W9 : World} {b : Nat} {c0 c1 c2 c3 c4 c5 c6 c7 : Value} {t : TypeId} (h : W9.heap[b]? = some (.cells #[c0, c1, c2, c3, c4, c5, c6, c7] t (0, 0))) : W9.cell? ⟨b, 0, none⟩ = some c0 ∧ W9.cell? ⟨b, 1, none⟩ = some c1 ∧ W9.cell? ⟨b, 2, none⟩ = some c2 ∧ W9.cell? ⟨b, 3, none⟩ = some c3 ∧ W9.cell? ⟨b, 4, none⟩ = some c4 ∧ W9.cell? ⟨b, 5, none⟩ = some c5 ∧ W9.cell? ⟨b, 6, none⟩ = some c6 ∧ W9.cell? ⟨b, 7, none⟩ = some c7 := by
  refine ⟨?_, ?_, ?_, ?_, ?_, ?_, ?_, ?_⟩
  all_goals (unfold World.cell?; rw [h]; rfl)
theorem put8 {W : World} {b : Nat} {a0 a1 a2 a3 a4 a5 a6 a7 : Value} {t : TypeId} (h : W.heap[b]? = some (.cells #[a0, a1, a2, a3, a4, a5, a6, a7] t (0, 0))) (c0 c1 c2 c3 c4 c5 c6 c7 : Value) (W' : World) (e : ((((((((W.setCell ⟨b, 0, none⟩ c0).setCell ⟨b, 1, none⟩ c1).setCell ⟨b, 2, none⟩ c2).setCell ⟨b, 3, none⟩ c3).setCell ⟨b, 4, none⟩ c4).setCell ⟨b, 5, none⟩ c5).setCell ⟨b, 6, none⟩ c6).setCell ⟨b, 7, none⟩ c7) = W') : W'.heap[b]? = some (.cells #[c0, c1, c2, c3, c4, c5, c6, c7] t (0, 0)) ∧ (∀ B w0, Below B w0 W → B ≤ b → Below B w0 W') ∧ Kb (fun k => k = b) W W' := by
  subst e
  have h1 : (W.setCell ⟨b, 0, none⟩ c0).heap[b]? = some (.cells #[c0, a1, a2, a3, a4, a5, a6, a7] t (0, 0)) := by rw [setCell_block _ _ _ _ h]; rfl
  have h2 : ((W.setCell ⟨b, 0, none⟩ c0).setCell ⟨b, 1, none⟩ c1).heap[b]? = some (.cells #[c0, c1, a2, a3, a4, a5, a6, a7] t (0, 0)) := by rw [setCell_block _ _ _ _ h1]; rfl
  have h3 : (((W.setCell ⟨b, 0, none⟩ c0).setCell ⟨b, 1, none⟩ c1).setCell ⟨b, 2, none⟩ c2).heap[b]? = some (.cells #[c0, c1, c2, a3, a4, a5, a6, a7] t (0, 0)) := by rw [setCell_block _ _ _ _ h2]; rfl
  have h4 : ((((W.setCell ⟨b, 0, none⟩ c0).setCell ⟨b, 1, none⟩ c1).setCell ⟨b, 2, none⟩ c2).setCell ⟨b, 3, none⟩ c3).heap[b]? = some (.cells #[c0, c1, c2, c3, a4, a5, a6, a7] t (0, 0)) := by rw [setCell_block _ _ _ _ h3]; rfl
  have h5 : (((((W.setCell ⟨b, 0, none⟩ c0).setCell ⟨b, 1, none⟩ c1).setCell ⟨b, 2, none⟩ c2).setCell ⟨b, 3, none⟩ c3).setCell ⟨b, 4, none⟩ c4).heap[b]? = some (.cells #[c0, c1, c2, c3, c4, a5, a6, a7] t (0, 0)) := by rw [setCell_block _ _ _ _ h4]; rfl
  have h6 : ((((((W.setCell ⟨b, 0, none⟩ c0).setCell ⟨b, 1, none⟩ c1).setCell ⟨b, 2, none⟩ c2).setCell ⟨b, 3, none⟩ c3).setCell ⟨b, 4, none⟩ c4).setCell ⟨b, 5, none⟩ c5).heap[b]? = some (.cells #[c0, c1, c2, c3, c4, c5, a6, a7] t (0, 0)) := by rw [setCell_block _ _ _ _ h5]; rfl
  have h7 : (((((((W.setCell ⟨b, 0, none⟩ c0).setCell ⟨b, 1, none⟩ c1).setCell ⟨b, 2, none⟩ c2).setCell ⟨b, 3, none⟩ c3).setCell ⟨b, 4, none⟩ c4).setCell ⟨b, 5, none⟩ c5).setCell ⟨b, 6, none⟩ c6).heap[b]? = some (.cells #[c0, c1, c2, c3, c4, c5, c6, a7] t (0, 0)) := by rw [setCell_block _ _ _ _ h6]; rfl
  refine ⟨by rw [setCell_block _ _ _ _ h7]; rfl, fun B w0 hb hB => ?_, (((((((Kb.set (S := fun k => k = b) W b 0 c0 rfl).trans (Kb.set _ b 1 c1 rfl)).trans (Kb.set _ b 2 c2 rfl)).trans (Kb.set _ b 3 c3 rfl)).trans (Kb.set _ b 4 c4 rfl)).trans (Kb.set _ b 5 c5 rfl)).trans (Kb.set _ b 6 c6 rfl)).trans (Kb.set _ b 7 c7 rfl)⟩
  exact ((((((((hb.setCell (p := ⟨b, 0, none⟩) hB _).setCell (p := ⟨b, 1, none⟩) hB _).setCell (p := ⟨b, 2, none⟩) hB _).setCell (p := ⟨b, 3, none⟩) hB _).setCell (p := ⟨b, 4, none⟩) hB _).setCell (p := ⟨b, 5, none⟩) hB _).setCell (p := ⟨b, 6, none⟩) hB _).setCell (p := ⟨b, 7, none⟩) hB _)
set_option maxRecDepth 100000 in
set_option maxHeartbeats 4000000 in
theorem copyResult_any (k c a0 a1 a2 m : Int) (q x : Option Addr) (n cq nx cx : Nat) (A : Nat → Sa) (K : Nat → Nat → Int) (X : Nat → Se) (hn : n * 40 ≤ 140737488355328) (hw : ∀ j, j < n → (A j).n ≤ 17592186044416) (hx : nx ≤ 2932031007402) (w : World) (h : SsAt w q n A K) (h' : SIn w x nx X) :
    Calls Tryd.prog 5 #[.agg #[.int .i64 k, .int .i64 c, .int .u64 a0, .int .i64 a1, .int .u64 a2, .int .i64 m, .slice q n cq, .slice x nx cx]] w fun e w' => ∃ (q' : Option Addr) (cq' : Nat) (C : Nat → Sa) (x' : Option Addr) (cx' : Nat), e = .returned (.agg #[.int .i64 k, .int .i64 c, .int .u64 a0, .int .i64 a1, .int .u64 a2, .int .i64 m, .slice q' n cq', .slice x' nx cx']) ∧ SsAt w' q' n C K ∧ SaEq n A C ∧ SIn w' x' nx X ∧ Below w.heap.size w w' := by
  obtain ⟨wb, hwb, hb0, hbox, hbx2, hsz⟩ := kboxed2 w #[.int .i64 k, .int .i64 c, .int .u64 a0, .int .i64 a1, .int .u64 a2, .int .i64 m, .slice q n cq, .slice x nx cx] #[.int .i64 0, .int .i64 0, .int .u64 0, .int .i64 0, .int .u64 0, .int .i64 0, .slice none 0 0, .slice none 0 0] 29 29
  have HW : Hid ((w.alloc (.cells #[.int .i64 k, .int .i64 c, .int .u64 a0, .int .i64 a1, .int .u64 a2, .int .i64 m, .slice q n cq, .slice x nx cx] 29)).alloc (.cells #[.int .i64 0, .int .i64 0, .int .u64 0, .int .i64 0, .int .u64 0, .int .i64 0, .slice none 0 0, .slice none 0 0] 29) = wb) := hwb
  have HSZ : Hid (wb.heap.size = w.heap.size + 2) := hsz
  have HC1 := copyStates_any q n cq A K hn hw wb (h.below hb0)
  have hl1 := lt_of_block hbox
  have hl2 := lt_of_block hbx2
  obtain ⟨c0, c1, c2, c3, c4, c5, c6, c7⟩ := cells8k hbox
  rw [← hwb] at c0 c1 c2 c3 c4 c5 c6 c7
  have h'' := h'
  clear hwb h h' hsz
  go_enter Tryd.func5, Tryd.ntmps5
  go_upto_region 2 with (go_at_call 11; rw [HW.out]; (with_reducible refine HC1.mono ?_); rintro e w1 ⟨q1, cq1, C, rfl, hst1, hse1, hb1⟩; have HST : Hid (StRow w1 wb.heap.size (.slice q1 n cq1) n C K ∧ SaEq n A C) := ⟨hst1, hse1⟩; clear hst1 hse1; have hx1 := (hb1.block _ hl1).trans hbox; have hy1 := (hb1.block _ hl2).trans hbx2; have H1 : Hid (Below wb.heap.size wb w1 ∧ w1.heap[w.heap.size]? = some (.cells #[.int .i64 k, .int .i64 c, .int .u64 a0, .int .i64 a1, .int .u64 a2, .int .i64 m, .slice q n cq, .slice x nx cx] 29 (0, 0)) ∧ w1.heap[w.heap.size + 1]? = some (.cells #[.int .i64 0, .int .i64 0, .int .u64 0, .int .i64 0, .int .u64 0, .int .i64 0, .slice none 0 0, .slice none 0 0] 29 (0, 0))) := ⟨hb1, hx1, hy1⟩; clear c0 c1 c2 c3 c4 c5 c6 c7; obtain ⟨c0, c1, c2, c3, c4, c5, c6, c7⟩ := cells8k hx1; have z0 := frz hx1 6; clear hb1 hx1 hy1)
  obtain ⟨w2, hw2⟩ : ∃ w2, w1.setCell ⟨w.heap.size, 6, none⟩ (.slice q1 n cq1) = w2 := ⟨_, rfl⟩
  rw [hw2]
  have hbx3 : w2.heap[w.heap.size]? = some (.cells #[.int .i64 k, .int .i64 c, .int .u64 a0, .int .i64 a1, .int .u64 a2, .int .i64 m, .slice q1 n cq1, .slice x nx cx] 29 (0, 0)) := by rw [← hw2, setCell_block _ _ _ _ H1.out.2.1]; rfl
  have hrs2 : w2.heap[w.heap.size + 1]? = some (.cells #[.int .i64 0, .int .i64 0, .int .u64 0, .int .i64 0, .int .u64 0, .int .i64 0, .slice none 0 0, .slice none 0 0] 29 (0, 0)) := by
    rw [← hw2, Below.heap_setCell _ _ _ _ (by show w.heap.size + 1 ≠ w.heap.size; omega)]
    exact H1.out.2.2
  have hbw2 : Below w.heap.size w w2 := by
    rw [← hw2]
    exact (hb0.trans (H1.out.1.mono hb0.size)).setCell (p := ⟨w.heap.size, 6, none⟩) (Nat.le_refl _) _
  have HE := copyEvents_any x nx cx X hx w2 (by
    rcases h'' with h | ⟨b, o, h1, h2, h3⟩
    · exact .inl h
    · refine .inr ⟨b, o, h1, by have := hbw2.size; omega, fun j hj => ?_⟩
      exact (World.cell?_of_block (a := ⟨b, o + j, none⟩) (hbw2.block b h2)).trans (h3 j hj))
  have HSS : Hid (StRow w2 wb.heap.size (.slice q1 n cq1) n C K ∧ w.heap.size + 2 ≤ wb.heap.size) := by
    refine ⟨⟨HST.out.1.row.far fun k hk => ?_, fun j hj => ⟨(HST.out.1.wds j hj).1.kb (Kb.set (S := fun k => k = w.heap.size) w1 _ 6 (.slice q1 n cq1) rfl |> fun h => by rw [hw2] at h; exact h) fun g o e h9 => ?_, fun g o e => ?_⟩⟩, Nat.le_of_eq HSZ.out.symm⟩
    · have := (Own.lt HST.out.1.row k hk).1
      have hz := HSZ.out
      rw [← hw2, Below.heap_setCell _ _ _ _ (by show k ≠ w.heap.size; omega)]
    · have := ((HST.out.1.wds j hj).2 g o e).1
      have hz := HSZ.out
      omega
    · obtain ⟨a1, a2, a3⟩ := (HST.out.1.wds j hj).2 g o e
      exact ⟨a1, by rw [← hw2]; simpa [World.setCell] using a2, a3⟩
  have HB2 : Hid (Below w.heap.size w w2 ∧ w2.heap[w.heap.size]? = some (.cells #[.int .i64 k, .int .i64 c, .int .u64 a0, .int .i64 a1, .int .u64 a2, .int .i64 m, .slice q1 n cq1, .slice x nx cx] 29 (0, 0)) ∧ w2.heap[w.heap.size + 1]? = some (.cells #[.int .i64 0, .int .i64 0, .int .u64 0, .int .i64 0, .int .u64 0, .int .i64 0, .slice none 0 0, .slice none 0 0] 29 (0, 0))) := ⟨hbw2, hbx3, hrs2⟩
  clear c0 c1 c2 c3 c4 c5 c6 c7 z0 hw2
  obtain ⟨c0, c1, c2, c3, c4, c5, c6, c7⟩ := cells8k hbx3
  have hm1 := lt_of_block hbx3
  have hm2 := lt_of_block hrs2
  clear hbx3 hrs2 hbw2 hbox hbx2
  go_upto_region 3 with (go_at_call 12; (with_reducible refine HE.mono ?_); rintro e w3 ⟨g3, rfl, hev3, hb3⟩; have HEV : Hid (Own w3 w2.heap.size 41 6 (.slice (some ⟨g3, 0, none⟩) nx nx) nx (seF X) ∧ Below w2.heap.size w2 w3) := ⟨hev3, hb3⟩; clear hev3; have hx3 := (hb3.block _ hm1).trans HB2.out.2.1; have hy3 := (hb3.block _ hm2).trans HB2.out.2.2; have H3 : Hid (Below w.heap.size w w3 ∧ w3.heap[w.heap.size]? = some (.cells #[.int .i64 k, .int .i64 c, .int .u64 a0, .int .i64 a1, .int .u64 a2, .int .i64 m, .slice q1 n cq1, .slice x nx cx] 29 (0, 0)) ∧ w3.heap[w.heap.size + 1]? = some (.cells #[.int .i64 0, .int .i64 0, .int .u64 0, .int .i64 0, .int .u64 0, .int .i64 0, .slice none 0 0, .slice none 0 0] 29 (0, 0))) := ⟨HB2.out.1.trans (hb3.mono HB2.out.1.size), hx3, hy3⟩; clear c0 c1 c2 c3 c4 c5 c6 c7; obtain ⟨c0, c1, c2, c3, c4, c5, c6, c7⟩ := cells8k hx3; have z0 := frz hx3 7; clear hb3 hx3 hy3)
  obtain ⟨w4, hw4⟩ : ∃ w4, w3.setCell ⟨w.heap.size, 7, none⟩ (.slice (some ⟨g3, 0, none⟩) nx nx) = w4 := ⟨_, rfl⟩
  rw [hw4]
  have hbx4 : w4.heap[w.heap.size]? = some (.cells #[.int .i64 k, .int .i64 c, .int .u64 a0, .int .i64 a1, .int .u64 a2, .int .i64 m, .slice q1 n cq1, .slice (some ⟨g3, 0, none⟩) nx nx] 29 (0, 0)) := by rw [← hw4, setCell_block _ _ _ _ H3.out.2.1]; rfl
  have hrs4 : w4.heap[w.heap.size + 1]? = some (.cells #[.int .i64 0, .int .i64 0, .int .u64 0, .int .i64 0, .int .u64 0, .int .i64 0, .slice none 0 0, .slice none 0 0] 29 (0, 0)) := by
    rw [← hw4, Below.heap_setCell _ _ _ _ (by show w.heap.size + 1 ≠ w.heap.size; omega)]
    exact H3.out.2.2
  have HB4 : Hid (Below w.heap.size w w4 ∧ w4.heap[w.heap.size + 1]? = some (.cells #[.int .i64 0, .int .i64 0, .int .u64 0, .int .i64 0, .int .u64 0, .int .i64 0, .slice none 0 0, .slice none 0 0] 29 (0, 0))) := by
    refine ⟨?_, hrs4⟩
    rw [← hw4]
    exact H3.out.1.setCell (p := ⟨w.heap.size, 7, none⟩) (Nat.le_refl _) _
  have HK4 : Hid (Kb (fun k => k = w.heap.size) w3 w4) := by rw [← hw4]; exact Kb.set w3 _ _ _ rfl
  clear c0 c1 c2 c3 c4 c5 c6 c7 z0 hw4
  obtain ⟨c0, c1, c2, c3, c4, c5, c6, c7⟩ := cells8k hbx4
  obtain ⟨r0, r1, r2, r3, r4, r5, r6, r7⟩ := cells8k hrs4
  have z0 := frz hrs4 0
  have z1 := frz hrs4 1
  have z2 := frz hrs4 2
  have z3 := frz hrs4 3
  have z4 := frz hrs4 4
  have z5 := frz hrs4 5
  have z6 := frz hrs4 6
  have z7 := frz hrs4 7
  clear hbx4 hrs4
  go_wp2_with fail
  generalize hWF : (World.setCell (World.setCell (World.setCell (World.setCell (World.setCell (World.setCell (World.setCell (World.setCell w4 _ _) _ _) _ _) _ _) _ _) _ _) _ _) _ _) = wF
  obtain ⟨q1', q3, q4⟩ := put8 HB4.out.2 _ _ _ _ _ _ _ _ wF hWF
  obtain ⟨e0, e1, e2, e3, e4, e5, e6, e7⟩ := cells8k q1'
  refine bodyPost_ret (v := .agg #[.int .i64 k, .int .i64 c, .int .u64 a0, .int .i64 a1, .int .u64 a2, .int .i64 m, .slice q1 n cq1, .slice (some ⟨g3, 0, none⟩) nx nx]) (by simp [results, Tryd.results5, go_sem, e0, e1, e2, e3, e4, e5, e6, e7]; try rfl) rfl ?_
  have kF : Kb (fun k => k = w.heap.size ∨ k = w.heap.size + 1) w3 wF := (HK4.out.mono fun k e => .inl e).trans (q4.mono fun k e => .inr e)
  have hs := HSS.out
  have s3 : StRow w3 wb.heap.size (.slice q1 n cq1) n C K := ⟨hs.1.row.later HEV.out.2, fun j hj => ⟨(hs.1.wds j hj).1.below HEV.out.2, fun g o e => ⟨((hs.1.wds j hj).2 g o e).1, Nat.lt_of_lt_of_le ((hs.1.wds j hj).2 g o e).2.1 HEV.out.2.size, ((hs.1.wds j hj).2 g o e).2.2⟩⟩⟩
  have sF : StRow wF wb.heap.size (.slice q1 n cq1) n C K := by
    refine ⟨s3.row.far fun k hk => ?_, fun j hj => ⟨(s3.wds j hj).1.kb kF fun g o e h9 => ?_, fun g o e => ⟨((s3.wds j hj).2 g o e).1, Nat.lt_of_lt_of_le ((s3.wds j hj).2 g o e).2.1 kF.size, ((s3.wds j hj).2 g o e).2.2⟩⟩⟩
    · have := Own.lt s3.row k hk
      exact kF.block k this.2 fun h9 => by have := hs.2; omega
    · have := ((s3.wds j hj).2 g o e).1
      have := hs.2
      omega
  have h2 : w.heap.size + 2 ≤ w2.heap.size := by
    have := lt_of_block HB2.out.2.2
    omega
  have eF : SIn wF (some ⟨g3, 0, none⟩) nx X := own_sin0 (HEV.out.1.far fun k hk => kF.block k (Own.lt HEV.out.1 k hk).2 fun h9 => by
    have := (Own.lt HEV.out.1 k hk).1
    omega)
  exact ⟨q1, cq1, C, some ⟨g3, 0, none⟩, nx, rfl, sF.ss, HST.out.2, eF, q3 _ _ HB4.out.1 (Nat.le_succ _)⟩
end Go.Proofs.YtijkokckdbhkcaaDoor
