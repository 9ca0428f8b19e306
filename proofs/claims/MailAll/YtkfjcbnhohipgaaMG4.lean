import Derived.Test.YtkfjcbnhohipgaaMG3
import Derived.BigQuiet
import Derived.Deep.RegionLaw
import Derived.Deep.RegionHeld3
import Derived.Deep.Cut
import Derived.Deep.DeepCutAuto
import Derived.Deep.CutBlock
import Derived.Deep.CutRange
import Derived.Deep.AppendLies
import Derived.Handy
import Derived.Lib.RabinKarpLaws
import Derived.ArgAppend
import Derived.Deep.Upon
namespace Go.Proofs.Ytkfjcbnhohipgaa
open Go.ChangeShapes Go.WideShapes Go.ChangeAt Go.RowKit
set_option linter.unusedVariables false
set_option linter.unusedSimpArgs false


theorem grown_refl (w : World) (r : Option Nat) : w.grownBy w r := ⟨rfl, rfl, rfl, Nat.le_refl _, fun _ _ _ => rfl⟩
theorem app_any {P : Program} (w : World) (base : Nat) (t ty e : TypeId) (i : TypeInfo) (z : Value) (size bytes : Nat) (ht : P.underlying t = some (.slice e)) (hi : P.info? e = some i) (hz : i.zero = some z)
    (hsize : i.size = size) (hby : i.bytes = bytes) (hzs : z.cells.size = size) (hsz : 0 < size) (v : Value) (n : Nat) (xs : List Value) (hown : w.ownsRow base e size v n xs)
    (p : Option Addr) (m c : Nat) (news : List Value) (hl : news.length = m * size) (hnews : m = 0 ∨ ∃ ad, p = some ad ∧ ∀ j u, news[j]? = some u → w.cell? (ad.add j) = some u) (h1 : ∀ u ∈ news, u.oneCell' = true)
    (h63 : n + m ≤ maxLen) (hbytes : (n + m) * bytes ≤ 140737488355328) (hbase : base ≤ w.heap.size) :
    ∃ v' w', (Builtin.append_ #[t, t] ty #[v, .slice p m c]).run P w = .ok v' w' ∧ w'.ownsRow base e size v' (n + m) (xs ++ news) ∧ w.grownBy w' v.ownBlock ∧ (v'.ownBlock = v.ownBlock ∨ v'.ownBlock = some w.heap.size) := by
  by_cases h0 : m = 0
  · subst h0
    obtain rfl : news = [] := List.length_eq_zero_iff.1 (by simpa using hl)
    obtain ⟨vp, vc, rfl⟩ := own_slice (own_of_row hown)
    have hle : n ≤ vc := by
      rcases hown.2 with ⟨h2, h3⟩ | ⟨g, cap, cur, h2, _, _, h3, _⟩
      · omega
      · injection h2 with e1 e2 e3
        omega
    refine ⟨.slice vp n vc, w, ?_, by simpa using hown, grown_refl _ _, .inl rfl⟩
    refine run_append_nothing w t t ty e i ht hi vp n vc hle (.slice p 0 c) ?_
    cases p with
    | none => exact Src.ofNil w ht c
    | some a => exact Src.ofSlice w ht a 0 c [] (by simp) (fun j u h => by simp at h) (fun u h => by cases h)
  · rcases hnews with h | ⟨ad, rfl, hc⟩
    · exact absurd h h0
    obtain ⟨v', w', hr, h2, h3, h4, h5⟩ := run_append_own_at (P := P) w base t ty e i z size bytes ht hi hz hsize hby hzs hsz v n xs hown ad m c news hl hc h1 h63 hbytes hbase
    exact ⟨v', w', hr, h2, h3, h5⟩
theorem wpList_app {P : Program} {w : World} {ops : Array Oper} {rest : List Oper} {o : Oper} {a : Act} {Q : Exit → Act → World → Prop} (hgd : o.guard = none) (s x : Operand) (t : TypeId)
    (ho : o.op = .call { callee := .builtin .append, args := #[s, x], argTypes := #[t, t] }) (base : Nat) (e : TypeId) (i : TypeInfo) (z : Value) (size bytes : Nat) (ht : P.underlying t = some (.slice e)) (hi : P.info? e = some i) (hz : i.zero = some z)
    (hsize : i.size = size) (hby : i.bytes = bytes) (hzs : z.cells.size = size) (hsz : 0 < size) (v : Value) (n : Nat) (xs : List Value) (hs : a.eval s = v) (hown : w.ownsRow base e size v n xs)
    (p : Option Addr) (m c : Nat) (news : List Value) (hx : a.eval x = .slice p m c) (hl : news.length = m * size) (hnews : m = 0 ∨ ∃ ad, p = some ad ∧ ∀ j u, news[j]? = some u → w.cell? (ad.add j) = some u) (h1 : ∀ u ∈ news, u.oneCell' = true)
    (h63 : n + m ≤ maxLen) (hbytes : (n + m) * bytes ≤ 140737488355328) (hbase : base ≤ w.heap.size)
    (h : ∀ v' w', w'.ownsRow base e size v' (n + m) (xs ++ news) → w.grownBy w' v.ownBlock → (v'.ownBlock = v.ownBlock ∨ v'.ownBlock = some w.heap.size) → wpList P ops Q rest (a.put o.dst v') w') :
    wpList P ops Q (o :: rest) a w := by
  obtain ⟨v', w', hr, h2, h3, h5⟩ := app_any w base t o.type e i z size bytes ht hi hz hsize hby hzs hsz v n xs hown p m c news hl hnews h1 h63 hbytes hbase
  refine wpList_plain hgd fun K hK => ?_
  unfold Oper.wp
  simp [execOp, ho, resolve, invoke, builtin, hs, hx, hr, Result.andThen]
  exact hK _ _ (h _ _ h2 h3 h5)

theorem infoSS : (Try.prog.info? 37).map (fun i => (i.zero, i.size, i.bytes)) = some (some (.slice none 0 0), 1, 24) := by kernel_rfl
/-- the shelf's box and its four rows, as they lie -/
structure SX (Fo : Nat → Option Obj) (W : World) (base sb : Nat) (V : Nat → Value) (n : Nat → Nat) (F : Nat → Nat → Value) (m : Nat) : Prop where
  p : W.heap[sb]? = some (.cells #[V 0, V 1, V 2, V 3] 65 (0, 0))
  o : ∀ i, i < 4 → Own W base 37 1 (V i) (n i) (F i) ∧ n i ≤ m
  ap : ∀ i j, i < 4 → j < 4 → i ≠ j → ∀ k, (V i).ownBlock = some k → (V j).ownBlock ≠ some k
  hbs : base ≤ sb
  fr : ∀ k o, Fo k = some o → W.heap[k]? = some o ∧ k ≠ sb ∧ ∀ i, i < 4 → (V i).ownBlock ≠ some k
variable {W W' w w' : World} {Fo : Nat → Option Obj} {base sb : Nat} {V : Nat → Value} {n : Nat → Nat} {F : Nat → Nat → Value} {m : Nat}
theorem SX.later (h : SX Fo W base sb V n F m) (hb : Below W.heap.size W W') : SX Fo W' base sb V n F m := ⟨(hb.block _ (lt_of_block h.p)).trans h.p, fun i hi => ⟨(h.o i hi).1.later hb, (h.o i hi).2⟩, h.ap, h.hbs, fun k o hk => ⟨(hb.block _ (lt_of_block (h.fr k o hk).1)).trans (h.fr k o hk).1, (h.fr k o hk).2⟩⟩
theorem SX.cells (h : SX Fo W base sb V n F m) : W.cell? ⟨sb, 0, none⟩ = some (V 0) ∧ W.cell? ⟨sb, 1, none⟩ = some (V 1) ∧ W.cell? ⟨sb, 2, none⟩ = some (V 2) ∧ W.cell? ⟨sb, 3, none⟩ = some (V 3) := by
  have h := h.p
  refine ⟨?_, ?_, ?_, ?_⟩
  all_goals (unfold World.cell?; rw [h]; rfl)
def setV (V : Nat → Value) (i : Nat) (v : Value) : Nat → Value := fun j => if j = i then v else V j
def st1 {α : Type} (f : Nat → α) (i : Nat) (x : α) : Nat → α := fun j => if j = i then x else f j
theorem st1_at {α : Type} (f : Nat → α) (i : Nat) (x : α) : st1 f i x i = x := if_pos rfl
theorem st1_ne {α : Type} (f : Nat → α) {i j : Nat} (x : α) (h : j ≠ i) : st1 f i x j = f j := if_neg h
def apF (F : Nat → Value) (n : Nat) (xs : List Value) (j : Nat) : Value := (cellsF F (n * 1) ++ xs).getD j undef
theorem apF_lt (F : Nat → Value) {n j : Nat} (xs : List Value) (h : j < n) : apF F n xs j = F j := by
  unfold apF
  rw [List.getD_eq_getElem?_getD, List.getElem?_append_left (by rw [cellsF_len]; omega), cellsF_at F (by omega)]
  rfl
theorem apF_at (F : Nat → Value) (n r : Nat) (xs : List Value) : apF F n xs (n + r) = xs.getD r undef := by
  unfold apF
  rw [List.getD_eq_getElem?_getD, List.getElem?_append_right (by rw [cellsF_len]; omega), cellsF_len, show n + r - n * 1 = r by omega, List.getD_eq_getElem?_getD]
theorem SX.set (h : SX Fo W base sb V n F m) (i : Nat) (hi : i < 4) (hg : W.grownBy W' (V i).ownBlock) (v' : Value) (n' : Nat) (F' : Nat → Value) (hown : Own W' base 37 1 v' n' F') (hn : n' ≤ m + 2) (hat : ∀ k, v'.ownBlock = some k → (V i).ownBlock = some k ∨ W.heap.size ≤ k) : SX Fo (W'.setCell ⟨sb, i, none⟩ v') base sb (setV V i v') (st1 n i n') (st1 F i F') (m + 2) := by
  obtain ⟨hoi, _⟩ := h.o i hi
  have kq : W'.heap[sb]? = some (.cells #[V 0, V 1, V 2, V 3] 65 (0, 0)) := (hg.block _ (lt_of_block h.p) fun e2 => hoi.apart h.p (by decide) sb e2.symm rfl).trans h.p
  have hset : ∀ j, j ≠ sb → (W'.setCell ⟨sb, i, none⟩ v').heap[j]? = W'.heap[j]? := fun j hj => Below.heap_setCell _ _ _ _ hj
  refine ⟨?_, fun j hj => ?_, fun a b ha hb hab k h1 h2 => ?_, h.hbs, fun k o hk => ?_⟩
  · show (W'.heap.modify sb _)[sb]? = _
    rw [Array.getElem?_modify, if_pos rfl, kq]
    rcases (by omega : i = 0 ∨ i = 1 ∨ i = 2 ∨ i = 3) with rfl | rfl | rfl | rfl <;> rfl
  · unfold setV
    by_cases e : j = i
    · subst e
      rw [if_pos rfl, st1_at, st1_at]
      exact ⟨hown.far fun k hk => hset k (hown.apart kq (by decide) k hk), hn⟩
    · rw [if_neg e, st1_ne _ _ e, st1_ne _ _ e]
      obtain ⟨hoj, hnj⟩ := h.o j hj
      have h3 := hoj.keptBy hg fun k hk e2 => h.ap j i hj hi e k hk e2
      exact ⟨h3.far fun k hk => hset k (h3.apart kq (by decide) k hk), Nat.le_add_right_of_le hnj⟩
  · unfold setV at h1 h2
    have old : ∀ c, c < 4 → ∀ k, (V c).ownBlock = some k → k < W.heap.size := fun c hc k hk => ((h.o c hc).1.lt k hk).2
    by_cases e1 : a = i
    · rw [if_pos e1] at h1
      rw [if_neg (by omega)] at h2
      rcases hat k h1 with h3 | h3
      · exact h.ap i b hi hb (by omega) k h3 h2
      · have := old b hb k h2; omega
    · rw [if_neg e1] at h1
      by_cases e2 : b = i
      · rw [if_pos e2] at h2
        rcases hat k h2 with h3 | h3
        · exact h.ap a i ha hi e1 k h1 h3
        · have := old a ha k h1; omega
      · rw [if_neg e2] at h2
        exact h.ap a b ha hb hab k h1 h2
  · obtain ⟨f1, f2, f3⟩ := h.fr k o hk
    refine ⟨(hset k f2).trans ((hg.block _ (lt_of_block f1) fun e2 => f3 i hi e2.symm).trans f1), f2, fun j hj => ?_⟩
    unfold setV
    by_cases e : j = i
    · rw [if_pos e]
      intro e2
      rcases hat k e2 with h3 | h3
      · exact f3 i hi h3
      · have := lt_of_block f1; omega
    · rw [if_neg e]; exact f3 j hj
/-- a row that is none of the shelf's is written -/
theorem SX.grown {b : Option Nat} (h : SX Fo W base sb V n F m) (hg : W.grownBy W' b) (hne : ∀ k, b = some k → sb ≠ k ∧ (∀ i, i < 4 → (V i).ownBlock ≠ some k) ∧ ∀ o, Fo k ≠ some o) : SX Fo W' base sb V n F m := by
  have key : ∀ k, k < W.heap.size → (∀ j, b = some j → k ≠ j) → W'.heap[k]? = W.heap[k]? := fun k h1 h2 => hg.block k h1 (fun e => h2 k e.symm rfl)
  refine ⟨(key sb (lt_of_block h.p) fun j hj => (hne j hj).1).trans h.p, fun i hi => ?_, h.ap, h.hbs, fun k o hk' => ⟨(key k (lt_of_block (h.fr k o hk').1) fun j hj e => (hne j hj).2.2 o (by rw [← e]; exact hk')).trans (h.fr k o hk').1, (h.fr k o hk').2⟩⟩
  obtain ⟨h1, h2⟩ := h.o i hi
  exact ⟨h1.far fun k hk' => key k (h1.lt k hk').2 fun j hj e => (hne j hj).2.1 i hi (by rw [hk', e]), h2⟩
/-- one row of the shelf has grown, and is laid down -/
theorem SX.app (h : SX Fo w base sb V n F m) (hb : base ≤ w.heap.size) (i : Nat) (hi : i < 4) (v' : Value) (n' : Nat) (F' : Nat → Value) (hown : Own w' base 37 1 v' n' F') (hn : n' ≤ m + 2) (hg : w.grownBy w' (V i).ownBlock) (hat : ∀ k, v'.ownBlock = some k → (V i).ownBlock = some k ∨ w.heap.size ≤ k) : w'.cell? ⟨sb, i, none⟩ = some (V i) ∧ w'.frozen? ⟨sb, i, none⟩ = false ∧ SX Fo (w'.setCell ⟨sb, i, none⟩ v') base sb (setV V i v') (st1 n i n') (st1 F i F') (m + 2) ∧ Below base w (w'.setCell ⟨sb, i, none⟩ v') ∧ (∀ {B' mm : Nat} {u : Value} {F' : Nat → Value}, Own w B' 31 2 u mm F' → Own (w'.setCell ⟨sb, i, none⟩ v') B' 31 2 u mm F') := by
  obtain ⟨hoi, _⟩ := h.o i hi
  have kq : w'.heap[sb]? = some (.cells #[V 0, V 1, V 2, V 3] 65 (0, 0)) := (hg.block _ (lt_of_block h.p) fun e2 => hoi.apart h.p (by decide) sb e2.symm rfl).trans h.p
  refine ⟨?_, frz kq _, h.set i hi hg v' n' F' hown hn hat, Below.setCell (p := ⟨sb, i, none⟩) ((Below.refl base w).grown hg hb fun k hk => (hoi.lt k hk).1) h.hbs _, fun {B' mm u F'} hu => ?_⟩
  · unfold World.cell?
    rw [kq]
    rcases (by omega : i = 0 ∨ i = 1 ∨ i = 2 ∨ i = 3) with rfl | rfl | rfl | rfl <;> rfl
  · have hu6 := hu.keptBy hg fun j hj e => hu.clash hoi (by decide) hj e
    exact hu6.far fun j hj => Below.heap_setCell _ _ _ _ (hu6.apart kq (by decide) j hj)
/-- a row behind a row of rows -/
theorem app_row {ops : Array Oper} {rest : List Oper} {o : Oper} {a : Act} {Q : Exit → Act → World → Prop} (hgd : o.guard = none) (sl x : Operand) (ho : o.op = .call { callee := .builtin .append, args := #[sl, x], argTypes := #[63, 63] }) (h : SX Fo w base sb V n F m) (hb : base ≤ w.heap.size) (i : Nat) (hi : i < 4) (hm : m ≤ 1000000) (q : Option Addr) (S c : Nat) (hs : a.eval sl = V i) (hx : a.eval x = .slice (some ⟨w.heap.size, 0, none⟩) 1 1)
    (hh : ∀ q' n' c' w', w'.cell? ⟨sb, i, none⟩ = some (V i) ∧ w'.frozen? ⟨sb, i, none⟩ = false ∧ SX Fo (w'.setCell ⟨sb, i, none⟩ (.slice q' n' c')) base sb (setV V i (.slice q' n' c')) (st1 n i (n i + 1)) (st1 F i (apF (F i) (n i) [.slice q S c])) (m + 2) ∧ Below base w (w'.setCell ⟨sb, i, none⟩ (.slice q' n' c')) ∧ (∀ {B' mm : Nat} {u : Value} {F' : Nat → Value}, Own w B' 31 2 u mm F' → Own (w'.setCell ⟨sb, i, none⟩ (.slice q' n' c')) B' 31 2 u mm F') → wpList Try.prog ops Q rest (a.put o.dst (.slice q' n' c')) w') : wpList Try.prog ops Q (o :: rest) a (w.alloc (.cells #[.slice q S c] 37)) := by
  obtain ⟨iS, hS1, hS2, hS3, hS4⟩ := binfo infoSS
  obtain ⟨ho', hn⟩ := h.o i hi
  refine app_one 37 63 iS _ 1 24 Try.underlying63 hS1 hS2 hS3 hS4 rfl (by decide) hgd sl x ho base (V i) (n i) (F i) (apF (F i) (n i) [.slice q S c]) hs ho' [.slice q S c] hx rfl (by simp [Value.oneCell']) (by omega) (by decide) hb (fun j _ => rfl) ?_
  intro g cap w' k1 k2 k3 k4
  refine hh _ _ _ w' (h.app hb i hi _ _ _ k1 (by omega) k2 fun k hk => ?_)
  simp [Value.ownBlock] at hk
  subst hk
  exact k3
theorem own_setT {W : World} {B g n c : Nat} {k : Nat → Int × Int} (h : Own W B 31 2 (.slice (some ⟨g, 0, none⟩) n c) n (thF k)) (i : Nat) (a b : Int) : Own ((W.setCell ⟨g, i * 2, none⟩ (.int .i64 a)).setCell ⟨g, i * 2 + 1, none⟩ (.int .i64 b)) B 31 2 (.slice (some ⟨g, 0, none⟩) n c) n (thF fun j => if j = i then (a, b) else k j) := by
  refine Own.congr (h.put (i * 2) [.int .i64 a, .int .i64 b]) fun j hj => ?_
  unfold putF thF
  simp only [List.length_cons, List.length_nil]
  by_cases x : i * 2 ≤ j ∧ j < i * 2 + 2
  · rw [if_pos x, show j / 2 = i by omega, if_pos rfl]
    rcases (by omega : j = i * 2 ∨ j = i * 2 + 1) with rfl | rfl
    · rw [if_pos (by omega), show i * 2 - i * 2 = 0 by omega]; rfl
    · rw [if_neg (by omega), show i * 2 + 1 - i * 2 = 1 by omega]; rfl
  · rw [if_neg x]
    simp only [if_neg (show ¬ j / 2 = i by omega)]
/-- a thing of a row that is none of the shelf's is written -/
theorem SX.put (h : SX Fo w base sb V n F m) (g i : Nat) (a b : Int) {B nn c : Nat} {k : Nat → Int × Int} (ho : Own w B 31 2 (.slice (some ⟨g, 0, none⟩) nn c) nn (thF k)) (hF : ∀ o, Fo g ≠ some o) : SX Fo ((w.setCell ⟨g, i * 2, none⟩ (.int .i64 a)).setCell ⟨g, i * 2 + 1, none⟩ (.int .i64 b)) base sb V n F m :=
  h.grown (W' := w.setCells g (i * 2) [.int .i64 a, .int .i64 b]) (grown_sets w g (i * 2) _) fun k hk => by
    injection hk with hk
    subst hk
    refine ⟨fun e => ?_, fun j hj e => ?_, hF⟩
    · exact ho.apart h.p (by decide) g rfl e.symm
    · exact (h.o j hj).1.clash ho (by decide) e rfl
set_option maxRecDepth 100000 in
/-- a call of grown, as a step of a region that draws -/
theorem step_grown {ops : Array Oper} {o : Oper} {a : Act} {w : World} {K : Act → World → Prop} {Q : Exit → Act → World → Prop} {E : Prop} (hg : o.guard = none) (x y : Nat) (hop : o.op = Op.call { callee := Callee.value (Operand.func 59), args := #[.tmp x, .tmp y], argTypes := #[37, 3] }) (vx vy : Value) (hx : a.eval (.tmp x) = vx) (hy : a.eval (.tmp y) = vy) (post : Ending → World → Prop) (hc : Calls Try.prog 59 #[vx, vy] w post) (hr : ∀ e w', post e w' → ∃ v, e = .returned v ∧ K (a.put o.dst v) w') :
    if Region.wanted o (yielded ops a.tmps) = true then Oper.wp Try.prog o a w K Q else E := by
  have hw : Region.wanted o (yielded ops a.tmps) = true := by simp [Region.wanted, hg]
  rw [if_pos hw]
  unfold Oper.wp
  have he : (execOp a.eval o).run Try.prog w = .ok (.enter 59 #[vx, vy]) w := by
    simp [execOp, hop, resolve, invoke, Act.eval]
    go_simp
    simp [Act.eval] at hx hy
    exact ⟨hx, hy⟩
  rw [he, Oper.upon_enter]
  refine hc.mono fun e w' h => ?_
  obtain ⟨v, rfl, h2⟩ := hr e w' h
  exact h2
/-- two rows behind a row of rows, inside a region that draws -/
theorem two_rows {w5 : World} (h : SX Fo w5 base sb V n F m) (hb : base ≤ w5.heap.size) (i : Nat) (hi : i < 4) (hm : m ≤ 1000000) (a b : Value) (ha : a.oneCell' = true) (hb' : b.oneCell' = true) : n i ≤ m ∧ (w5.alloc (.cells #[a, b] 37)).ownsRow base 37 1 (V i) (n i) (cellsF (F i) (n i * 1)) ∧ ∀ v' w6, w6.ownsRow base 37 1 v' (n i + 2) (cellsF (F i) (n i * 1) ++ [a, b]) → (w5.alloc (.cells #[a, b] 37)).grownBy w6 (V i).ownBlock → (v'.ownBlock = (V i).ownBlock ∨ v'.ownBlock = some (w5.alloc (.cells #[a, b] 37)).heap.size) → (∃ q c, v' = .slice q (n i + 2) c) ∧ w6.cell? ⟨sb, i, none⟩ = some (V i) ∧ w6.frozen? ⟨sb, i, none⟩ = false ∧ SX Fo (w6.setCell ⟨sb, i, none⟩ v') base sb (setV V i v') (st1 n i (n i + 2)) (st1 F i (apF (F i) (n i) [a, b])) (m + 2) ∧ Below base w5 (w6.setCell ⟨sb, i, none⟩ v') ∧ (∀ {B' n' : Nat} {u : Value} {F' : Nat → Value}, Own w5 B' 31 2 u n' F' → Own (w6.setCell ⟨sb, i, none⟩ v') B' 31 2 u n' F') := by
  have ha5 : Below w5.heap.size w5 (w5.alloc (.cells #[a, b] 37)) := (Below.refl _ w5).alloc (Nat.le_refl _) _
  have h5 := h.later ha5
  obtain ⟨ho, hn⟩ := h5.o i hi
  refine ⟨hn, ho, fun v' w6 k1 k2 k3 => ?_⟩
  have k1' := own_of_row k1
  have hap := h5.app (Nat.le_trans hb ha5.size) i hi v' (n i + 2) (apF (F i) (n i) [a, b]) k1' (by omega) k2 (fun k hk => by
    rcases k3 with k3 | k3
    · rw [k3] at hk; exact .inl hk
    · rw [k3] at hk; injection hk with hk; exact .inr (by omega))
  refine ⟨?_, hap.1, hap.2.1, hap.2.2.1, (ha5.mono hb).trans hap.2.2.2.1, fun {B' n' u F'} hu => hap.2.2.2.2 (hu.later ha5)⟩
  rcases k1'.form with ⟨_, h8⟩ | ⟨g6, c6, h8, _⟩
  · omega
  · exact ⟨_, _, h8⟩
theorem cellsF_th_one (k : Nat → Int × Int) (n : Nat) : ∀ u ∈ cellsF (thF k) n, u.oneCell' = true := fun u hu => by
  obtain ⟨j, hj⟩ := List.mem_iff_getElem?.1 hu
  have hlt : j < n := by
    rcases Nat.lt_or_ge j n with h | h
    · exact h
    · rw [List.getElem?_eq_none (by rw [cellsF_len]; exact h)] at hj; cases hj
  rw [cellsF_at _ hlt] at hj
  injection hj with hj
  rw [← hj]
  exact thF_one _ _
/-- what take leaves, where the list is kept as it is -/
def TE (W' : World) (base : Nat) (l want : Value) (S : Nat) (n n' : Nat → Nat) (F F' : Nat → Nat → Value) : Prop := (n' 0 = n 0 ∧ n' 1 = n 1 ∧ F' 0 = F 0 ∧ F' 1 = F 1) ∧ (n' 2 = n 2 + 1 ∧ n' 3 = n 3 + 1 ∧ F' 2 = apF (F 2) (n 2) [l] ∧ F' 3 = apF (F 3) (n 3) [want]) ∧ ∃ k, Own W' base 31 2 l S (thF k) ∧ Own W' base 31 2 want S (thF k)
/-- and where it is written full and grown -/
def TO (W W' : World) (base : Nat) (l want : Value) (S : Nat) (n n' : Nat → Nat) (F F' : Nat → Nat → Value) : Prop := (n' 2 = n 2 ∧ n' 3 = n 3 ∧ F' 2 = F 2 ∧ F' 3 = F 3) ∧ ∃ gl gw, (n' 0 = n 0 + 2 ∧ n' 1 = n 1 + 2 ∧ F' 0 = apF (F 0) (n 0) [l, gl] ∧ F' 1 = apF (F 1) (n 1) [want, gw]) ∧ (∀ b, gl.ownBlock = some b → l.ownBlock = some b ∨ W.heap.size ≤ b) ∧ (∀ b, gw.ownBlock = some b → W.heap.size ≤ b) ∧ ∃ k k2, Own W' base 31 2 l S (thF k) ∧ Own W' base 31 2 want S (thF k) ∧ Own W' base 31 2 gl (S + 64) (thF k2) ∧ Own W' base 31 2 gw (S + 64) (thF k2)
set_option maxRecDepth 100000 in
set_option maxHeartbeats 8000000 in
theorem take_x (st : Nat) {Fo : Nat → Option Obj} {base sb : Nat} {V : Nat → Value} {n : Nat → Nat} {F : Nat → Nat → Value} {m : Nat} (hst : st ≤ 100000) (hm : m ≤ 100000) (l : Value) (S : Nat) (k : Nat → Int × Int) (W : World) (h : SX Fo W base sb V n F m) (hbase : base ≤ W.heap.size) (ho : Own W base 31 2 l S (thF k)) (hS : S ≤ 65536) (hF : ∀ j, l.ownBlock = some j → ∀ o, Fo j ≠ some o) :
    Calls Try.prog 47 #[.pointer (some ⟨sb, 0, none⟩), l, .int .i64 (st : Int)] W fun e W' => e = .returned (.tuple #[]) ∧ Below base W W' ∧ ∃ want V' n' F', SX Fo W' base sb V' n' F' (m + 4) ∧ (∀ i, 4 ≤ i → V' i = V i) ∧ (∀ b, want.ownBlock = some b → W.heap.size ≤ b) ∧ (TE W' base l want S n n' F F' ∨ TO W W' base l want S n n' F F') := by
  obtain ⟨iT, hT1, hT2, hT3, hT4⟩ := binfo infoTH
  obtain ⟨q, c, rfl⟩ : ∃ q c, l = .slice q S c := by
    rcases ho.form with ⟨h1, h2⟩ | ⟨g, c, h1, _⟩
    · exact ⟨none, 0, by rw [h1, h2]⟩
    · exact ⟨_, _, h1⟩
  have hn0 : Own W W.heap.size 31 2 (.slice none 0 0) 0 (thF k) := ⟨rfl, .inl ⟨rfl, rfl⟩⟩
  have hnews : S = 0 ∨ ∃ ad, q = some ad ∧ ∀ j u, (cellsF (thF k) (S * 2))[j]? = some u → W.cell? (ad.add j) = some u := by
    rcases ho.form with ⟨h1, h2⟩ | ⟨g, c', h1, _⟩
    · exact .inl h2
    · injection h1 with h1 _ h1c
      subst h1 h1c
      refine .inr ⟨_, rfl, fun j u hj => ?_⟩
      have hlt : j < S * 2 := by
        rcases Nat.lt_or_ge j (S * 2) with h | h
        · exact h
        · rw [List.getElem?_eq_none (by rw [cellsF_len]; exact h)] at hj; cases hj
      rw [cellsF_at _ hlt] at hj
      injection hj with hj
      rw [addr_add0, Nat.zero_add, ho.cell hlt, hj]
  have HH := mhid (And.intro h (And.intro hbase (And.intro ho (And.intro hF (And.intro hn0 hnews)))))
  have HS := mhid (And.intro hS (And.intro hm hst))
  have hpar := par_bits (st : Int) (by omega)
  obtain ⟨pp, hpp⟩ : ∃ pp, par (st : Int) = pp := ⟨_, rfl⟩
  have hple := par_le (st : Int)
  rw [hpp] at hpar hple
  clear h hbase ho hF hn0 hnews hS hm hst hpp
  go_enter Try.func47, Try.ntmps47
  go_upto_region 2 with (at_builtin; refine wpList_app rfl _ _ 37 rfl W.heap.size 31 iT _ 2 16 Try.underlying37 hT1 hT2 hT3 hT4 rfl (by decide) (.slice none 0 0) 0 [] rfl ⟨rfl, .inl ⟨rfl, rfl⟩⟩ q S c (cellsF (thF k) (S * 2)) rfl (by rw [cellsF_len]) HH.out.2.2.2.2.2 (cellsF_th_one _ _) (by have h8 := HS.out.1; unfold maxLen; omega) (by have h8 := HS.out.1; omega) (Nat.le_refl _) ?_; intro wv w1 ow gw aw)
  have OW : Own w1 W.heap.size 31 2 wv S (thF k) := by
    have h8 := ow
    rw [Nat.zero_add, List.nil_append] at h8
    exact h8
  have B1 : Below W.heap.size W w1 := ⟨gw.1, gw.2, gw.3, gw.4, fun j hj => gw.5 j hj (by simp [Value.ownBlock])⟩
  obtain ⟨qw, cw, rfl⟩ : ∃ qw cw, wv = .slice qw S cw := by
    rcases OW.form with ⟨h1, h2⟩ | ⟨g, c, h1, _⟩
    · exact ⟨none, 0, by rw [h1, h2]⟩
    · exact ⟨_, _, h1⟩
  have HW := mhid (And.intro OW B1)
  have h1 := HH.out.1.later B1
  have hb1 : base ≤ w1.heap.size := Nat.le_trans HH.out.2.1 B1.size
  have H1 := mhid (And.intro h1 hb1)
  obtain ⟨c0, c1, c2, c3⟩ := h1.cells
  clear OW B1 ow gw aw h1 hb1
  rcases (by omega : pp = 0 ∨ pp = 1) with rfl | rfl
  · go_upto_region 4 with (at_builtin; refine app_row rfl _ _ rfl H1.out.1 H1.out.2 2 (by decide) (by have h8 := HS.out.2.1; omega) q S c rfl rfl ?_; rintro q9 n9 c9 w9 ⟨x0, x1, x2, x3, x4⟩; have X9 := mhid (And.intro x2 (And.intro x3 (And.intro (x4 (HH.out.2.2.1.later HW.out.2)) (x4 HW.out.1)))); clear x2 x3 x4)
    clear c0 c1 c2 c3 x0 x1
    obtain ⟨w8, hw8⟩ : ∃ w8, w9.setCell ⟨sb, 2, none⟩ (.slice q9 n9 c9) = w8 := ⟨_, rfl⟩
    rw [hw8] at X9 ⊢
    have hb8 : base ≤ w8.heap.size := Nat.le_trans H1.out.2 X9.out.2.1.size
    have HB8 := mhid hb8
    obtain ⟨c0, c1, c2, c3⟩ := X9.out.1.cells
    clear hb8 hw8
    go_wp2_with (at_builtin; refine app_row rfl _ _ rfl X9.out.1 HB8.out 3 (by decide) (by have h8 := HS.out.2.1; omega) qw S cw rfl rfl ?_; rintro q7 n7 c7 w7 ⟨x0, x1, x2, x3, x4⟩; have X7 := mhid (And.intro x2 (And.intro x3 (And.intro (x4 X9.out.2.2.1) (x4 X9.out.2.2.2)))); clear x2 x3 x4)
    refine bodyPost_ret (v := .tuple #[]) (by simp [results, Try.results47, go_sem]) rfl ?_
    refine ⟨rfl, ((HW.out.2.mono HH.out.2.1).trans X9.out.2.1).trans X7.out.2.1, .slice qw S cw, _, _, _, X7.out.1, fun i hi => ?_, fun b hb => (HW.out.1.lt b hb).1, .inl ⟨⟨rfl, rfl, rfl, rfl⟩, ⟨rfl, rfl, rfl, rfl⟩, k, X7.out.2.2.1, X7.out.2.2.2.lower HH.out.2.1⟩⟩
    unfold setV
    rw [if_neg (by omega), if_neg (by omega)]
  · obtain ⟨w1', hw1'⟩ : ∃ w1', w1 = w1' := ⟨_, rfl⟩
    have nst : IntKind.i64.wrap (-(st : Int)) = -(st : Int) := by have h8 := HS.out.2.2; rw [IntKind.wrap_i64]; omega
    have HW1 := mhid hw1'
    clear c0 c1 c2 c3 hw1'
    go_wp2_with fail
    go_loopw [7] (fun y wr => ∃ (i : Nat) (kl : Nat → Int × Int), y = .int .i64 (i : Int) ∧ i ≤ S ∧ Own wr base 31 2 (.slice q S c) S (thF kl) ∧ Own wr W.heap.size 31 2 (.slice qw S cw) S (thF kl) ∧ SX Fo wr base sb V n F m ∧ Below base W wr) (fun y _ => S - (intOf y).toNat)
    case atStart => exact ⟨0, k, rfl, Nat.zero_le _, HH.out.2.2.1.later HW.out.2, HW.out.1, H1.out.1, HW.out.2.mono HH.out.2.1⟩
    case round =>
      obtain ⟨i, kl, rfl, hi, hol, how, hsh, hbr⟩ := hrel
      have HR := mhid (And.intro hol (And.intro how (And.intro hsh hbr)))
      by_cases hlt : i < S
      · have dl : decide ((i : Int) < (S : Int)) = true := by simp; omega
        have dln : decide (i < S) = true := by simp; omega
        have hme := meas hlt
        have hS6 := HS.out.1
        have ek : IntKind.i64.wrap ((i : Int) + 1) = (i : Int) + 1 := by rw [IntKind.wrap_i64]; omega
        have k0 : (0 : Int) ≤ (i : Int) := by omega
        have k1 : (i : Int) < (S : Int) := by omega
        rcases hol.form with ⟨h1, h2⟩ | ⟨g, c', h1, _⟩
        · omega
        injection h1 with h1 _ h1c
        subst h1 h1c
        rcases how.form with ⟨h1, h2⟩ | ⟨gw, c', h1, _⟩
        · omega
        injection h1 with h1 _ h1c
        subst h1 h1c
        have hgW := (HH.out.2.2.1.lt g rfl).2
        have hgg : g ≠ gw := by have h8 := (how.lt gw rfl).1; omega
        have hgg' : gw ≠ g := Ne.symm hgg
        have y0 := hol.cell (j := i * 2) (by omega)
        have y1 := hol.cell (j := i * 2 + 1) (by omega)
        have z0 := how.cell (j := i * 2) (by omega)
        have z1 := how.cell (j := i * 2 + 1) (by omega)
        have fg : ∀ j, wr.frozen? ⟨g, j, none⟩ = false := fun j => by obtain ⟨cr, hcr, _⟩ := hol.block; exact frz hcr _
        have fw : ∀ j, wr.frozen? ⟨gw, j, none⟩ = false := fun j => by obtain ⟨cr, hcr, _⟩ := how.block; exact frz hcr _
        have hFg := HH.out.2.2.2.1 g rfl
        have hFw : ∀ o, Fo gw ≠ some o := fun o ho => by have h8 := lt_of_block (HH.out.1.fr gw o ho).1; have h9 := (how.lt gw rfl).1; omega
        have s1 := hsh.put g i (-(st : Int)) (i : Int) hol hFg
        have o1 := own_setT hol i (-(st : Int)) (i : Int)
        have how1 : Own ((wr.setCell ⟨g, i * 2, none⟩ (.int .i64 (-(st : Int)))).setCell ⟨g, i * 2 + 1, none⟩ (.int .i64 (i : Int))) W.heap.size 31 2 (.slice (some ⟨gw, 0, none⟩) S cw) S (thF kl) := how.far fun j hj => by
          simp [Value.ownBlock] at hj
          subst hj
          exact (Below.heap_setCell _ _ _ _ hgg').trans (Below.heap_setCell _ _ _ _ hgg')
        have s2 := s1.put gw i (-(st : Int)) (i : Int) how1 hFw
        have o2 := own_setT how1 i (-(st : Int)) (i : Int)
        have o3 := Own.far o1 (W' := ((((wr.setCell ⟨g, i * 2, none⟩ (.int .i64 (-(st : Int)))).setCell ⟨g, i * 2 + 1, none⟩ (.int .i64 (i : Int))).setCell ⟨gw, i * 2, none⟩ (.int .i64 (-(st : Int)))).setCell ⟨gw, i * 2 + 1, none⟩ (.int .i64 (i : Int)))) fun j hj => by
          simp [Value.ownBlock] at hj
          subst hj
          exact (Below.heap_setCell _ _ _ _ hgg).trans (Below.heap_setCell _ _ _ _ hgg)
        have hbb : Below base W ((((wr.setCell ⟨g, i * 2, none⟩ (.int .i64 (-(st : Int)))).setCell ⟨g, i * 2 + 1, none⟩ (.int .i64 (i : Int))).setCell ⟨gw, i * 2, none⟩ (.int .i64 (-(st : Int)))).setCell ⟨gw, i * 2 + 1, none⟩ (.int .i64 (i : Int))) := (((hbr.setCell (p := ⟨g, i * 2, none⟩) (hol.lt g rfl).1 _).setCell (p := ⟨g, i * 2 + 1, none⟩) (hol.lt g rfl).1 _).setCell (p := ⟨gw, i * 2, none⟩) (Nat.le_trans HH.out.2.1 (how.lt gw rfl).1) _).setCell (p := ⟨gw, i * 2 + 1, none⟩) (Nat.le_trans HH.out.2.1 (how.lt gw rfl).1) _
        have FIN := mhid (And.intro o3 (And.intro o2 (And.intro s2 hbb)))
        have HLT := mhid hlt
        obtain ⟨yv0, hy0⟩ : ∃ x, thF kl (i * 2) = x := ⟨_, rfl⟩
        obtain ⟨yv1, hy1⟩ : ∃ x, thF kl (i * 2 + 1) = x := ⟨_, rfl⟩
        obtain ⟨zv0, hz0⟩ : ∃ x, thF kl (i * 2) = x := ⟨_, rfl⟩
        obtain ⟨zv1, hz1⟩ : ∃ x, thF kl (i * 2 + 1) = x := ⟨_, rfl⟩
        rw [hy0] at y0
        rw [hy1] at y1
        rw [hz0] at z0
        rw [hz1] at z1
        clear s1 s2 o1 o2 o3 how1 hbb hol how hsh hbr hlt hi hFg hFw hgW hS6 hy0 hy1 hz0 hz1
        go_wp2_with fail
        exact ⟨⟨i + 1, _, rfl, HLT.out, FIN.out.1, FIN.out.2.1, FIN.out.2.2.1, FIN.out.2.2.2⟩, hme⟩
      · have dl : decide ((i : Int) < (S : Int)) = false := by simp; omega
        have dln : decide (i < S) = false := by simp; omega
        obtain rfl : S = i := by omega
        obtain ⟨iS, hS1, hS2, hS3, hS4⟩ := binfo infoSS
        obtain ⟨c0, c1, c2, c3⟩ := hsh.cells
        have hbw : base ≤ wr.heap.size := Nat.le_trans HH.out.2.1 hbr.size
        have hbl : ∀ j, (Value.slice q S c).ownBlock = some j → j < W.heap.size := fun j hj => (HH.out.2.2.1.lt j hj).2
        have HG1 : Hid (∀ w', Below wr.heap.size wr w' → Calls Try.prog 59 #[.slice q S c, .int .i64 (-(st : Int))] w' fun e w5 => ∃ q5 c5, e = .returned (.slice q5 (S + 64) c5) ∧ SX Fo w5 base sb V n F m ∧ Own w5 W.heap.size 31 2 (.slice qw S cw) S (thF kl) ∧ base ≤ w5.heap.size ∧ Below base W w5 ∧ Own w5 base 31 2 (.slice q S c) S (thF kl) ∧ Own w5 base 31 2 (.slice q5 (S + 64) c5) (S + 64) (thF (gk kl S (-(st : Int)))) ∧ (∀ b, (Value.slice q5 (S + 64) c5).ownBlock = some b → (Value.slice q S c).ownBlock = some b ∨ W.heap.size ≤ b) ∧ (∀ b, (Value.slice q5 (S + 64) c5).ownBlock = some b → (Value.slice qw S cw).ownBlock ≠ some b) ∧ (∀ b, (Value.slice qw S cw).ownBlock = some b → b < w5.heap.size)) := fun w' hw' => (grownC (-(st : Int)) base (.slice q S c) S kl w' (hol.later hw') (by have h8 := HS.out.1; omega) (Nat.le_trans hbw hw'.size)).mono fun e w5 ⟨v', h1, h2, h3, h4, h5⟩ => by
          obtain ⟨q5, c5, rfl⟩ : ∃ q5 c5, v' = .slice q5 (S + 64) c5 := by
            rcases h2.form with ⟨_, h8⟩ | ⟨g6, c6, h8, _⟩
            · omega
            · exact ⟨_, _, h8⟩
          have hol' := hol.later hw'
          have how5 := (how.later hw').keptBy h3 (fun j hj e => by
            have h8 := (how.lt j hj).1
            have h9 := hbl j e
            omega)
          have hwW : W.heap.size ≤ w'.heap.size := Nat.le_trans hbr.size hw'.size
          refine ⟨q5, c5, h1, (hsh.later hw').grown h3 (fun j hj => ⟨fun e => hol'.apart (hsh.later hw').p (by decide) j hj e.symm, fun a ha e => ((hsh.later hw').o a ha).1.clash hol' (by decide) e hj, HH.out.2.2.2.1 j hj⟩), how5, Nat.le_trans (Nat.le_trans hbw hw'.size) h3.4, (hbr.trans (hw'.mono hbw)).trans ((Below.refl base w').grown h3 (Nat.le_trans hbw hw'.size) fun j hj => (hol.lt j hj).1), h5, h2, fun b hb => ?_, fun b hb hq => ?_, fun b hb => (how5.lt b hb).2⟩
          · rcases h4 b hb with h8 | h8
            · exact .inl h8
            · exact .inr (Nat.le_trans hwW h8)
          · have h8 := (how.later hw').lt b hq
            rcases h4 b hb with h9 | h9
            · have h7 := hbl b h9
              have h6 := (how.lt b hq).1
              omega
            · omega
        have HM := mhid HS.out.2.1
        clear hol how hsh hbr hlt hi hbw hbl
        go_upto_region 10 with fail
        go_region_law (first | (refine step_grown rfl 60 62 rfl (.slice q S c) (.int .i64 (-(st : Int))) (by simp [Act.eval, Act.put]) (by simp [Act.eval, Act.put]) _ (HG1.out _ (drewB _)) ?_; rintro e9 w5 ⟨q5, c5, rfl, s5, o5, b5, w5b, p5, g5, a5, d5, z5⟩; refine ⟨_, rfl, ?_⟩; have S5 := mhid (And.intro s5 (And.intro o5 (And.intro b5 (And.intro w5b (And.intro p5 (And.intro g5 (And.intro a5 (And.intro d5 z5)))))))); obtain ⟨hn0, hO, hAF⟩ := two_rows s5 b5 0 (by decide) (by have h8 := HM.out; omega) (.slice q S c) (.slice q5 (S + 64) c5) rfl rfl; obtain ⟨x0, x1, x2, x3⟩ := s5.cells; have lsb := lt_of_block s5.p; have T5 := mhid (And.intro hn0 (And.intro hO hAF)); clear s5 o5 b5 w5b hn0 hO hAF p5 g5 a5 d5 z5) | (refine step_app9 rfl (.tmp 58) (.tmp 64) 63 rfl base 37 iS _ 1 24 Try.underlying63 hS1 hS2 hS3 hS4 rfl (by decide) (V 0) (n 0) _ (by simp [Act.eval, Act.put]) T5.out.2.1 ⟨w5.heap.size, 0, none⟩ 2 2 [.slice q S c, .slice q5 (S + 64) c5] (by simp [Act.eval, Act.put]) rfl (cells_new9 w5 [.slice q S c, .slice q5 (S + 64) c5] 37) (by simp [Value.oneCell']) (by have h8 := T5.out.1; have h9 := HM.out; unfold maxLen; omega) (by have h8 := T5.out.1; have h9 := HM.out; omega) (by rw [World.size_alloc]; exact Nat.le_succ_of_le S5.out.2.2.1) ?_; intro v6 w6 hown' hgrow hat; obtain ⟨⟨q6, c6, rfl⟩, n0', nf', m6, b6, k6⟩ := T5.out.2.2 v6 w6 hown' hgrow hat; have HF6 := mhid (And.intro m6 (And.intro b6 (And.intro (k6 S5.out.2.1) (And.intro (k6 S5.out.2.2.2.2.1) (k6 S5.out.2.2.2.2.2.1))))); clear m6 b6 k6 hown' hgrow hat))
        all_goals (
          clear c0 c1 c2 c3
          clear x0 x1 x2 x3 n0' nf' lsb
          obtain ⟨w8, hw8⟩ : ∃ w8, w6.setCell ⟨sb, 0, none⟩ (.slice q6 (n 0 + 2) c6) = w8 := ⟨_, rfl⟩
          rw [hw8] at HF6 ⊢
          have hs8 := HF6.out.1
          have how8 := HF6.out.2.2.1
          have hl8 := HF6.out.2.2.2.1
          have hg8 := HF6.out.2.2.2.2
          have hb8 : base ≤ w8.heap.size := Nat.le_trans S5.out.2.2.1 HF6.out.2.1.size
          have hbW8 : Below base W w8 := S5.out.2.2.2.1.trans HF6.out.2.1
          obtain ⟨c0, c1, c2, c3⟩ := hs8.cells
          have hS8 : (∀ b, (Value.slice qw S cw).ownBlock = some b → W.heap.size ≤ b ∧ (Value.slice q S c).ownBlock ≠ some b ∧ (Value.slice q5 (S + 64) c5).ownBlock ≠ some b) := fun b hb => ⟨(how8.lt b hb).1, fun e => by have h1 := (HH.out.2.2.1.lt b e).2; have h2 := (how8.lt b hb).1; omega, fun e => S5.out.2.2.2.2.2.2.2.1 b e hb⟩
          have HG2 : Hid (∀ w', Below w8.heap.size w8 w' → Calls Try.prog 59 #[.slice qw S cw, .int .i64 (-(st : Int))] w' fun e w5 => ∃ q9 c9, e = .returned (.slice q9 (S + 64) c9) ∧ SX Fo w5 base sb (setV V 0 (.slice q6 (n 0 + 2) c6)) (st1 n 0 (n 0 + 2)) (st1 F 0 (apF (F 0) (n 0) [.slice q S c, .slice q5 (S + 64) c5])) (m + 2) ∧ base ≤ w5.heap.size ∧ Below base W w5 ∧ Own w5 base 31 2 (.slice q S c) S (thF kl) ∧ Own w5 base 31 2 (.slice qw S cw) S (thF kl) ∧ Own w5 base 31 2 (.slice q5 (S + 64) c5) (S + 64) (thF (gk kl S (-(st : Int)))) ∧ Own w5 base 31 2 (.slice q9 (S + 64) c9) (S + 64) (thF (gk kl S (-(st : Int)))) ∧ (∀ b, (Value.slice q9 (S + 64) c9).ownBlock = some b → W.heap.size ≤ b)) := fun w' hw' => (grownC (-(st : Int)) W.heap.size (.slice qw S cw) S kl w' (how8.later hw') (by have h8 := HS.out.1; omega) (Nat.le_trans hbW8.size hw'.size)).mono fun e w5 ⟨v', h1, h2, h3, h4, h5⟩ => by
            obtain ⟨q9, c9, rfl⟩ : ∃ q5 c5, v' = .slice q5 (S + 64) c5 := by
              rcases h2.form with ⟨_, h8⟩ | ⟨g6, c6, h8, _⟩
              · omega
              · exact ⟨_, _, h8⟩
            have how' := how8.later hw'
            have hs' := hs8.later hw'
            refine ⟨q9, c9, h1, hs'.grown h3 (fun j hj => ⟨fun e => how'.apart hs'.p (by decide) j hj e.symm, fun a ha e => (hs'.o a ha).1.clash how' (by decide) e hj, fun o hFo => ?_⟩), Nat.le_trans (Nat.le_trans hb8 hw'.size) h3.4, (hbW8.trans (hw'.mono hb8)).trans ((Below.refl base w').grown h3 (Nat.le_trans hb8 hw'.size) fun j hj => Nat.le_trans HH.out.2.1 (how8.lt j hj).1), (hl8.later hw').keptBy h3 (fun j hj e => (hS8 j e).2.1 hj), h5.lower HH.out.2.1, (hg8.later hw').keptBy h3 (fun j hj e => (hS8 j e).2.2 hj), h2.lower HH.out.2.1, fun b hb => ?_⟩
            · have h8 := (how8.lt j hj).1
              have h9 := lt_of_block (HH.out.1.fr j o hFo).1
              omega
            · rcases h4 b hb with h8 | h8
              · exact (how8.lt b h8).1
              · exact Nat.le_trans (Nat.le_trans hbW8.size hw'.size) h8
          have HM9 : Hid (m + 2 ≤ 1000000) := by have h8 := HM.out; show m + 2 ≤ 1000000; omega
          clear hs8 how8 hb8 hbW8 hw8 hl8 hg8 hS8
          go_upto_region 11 with fail
          go_region_law (first | (refine step_grown rfl 74 76 rfl (.slice qw S cw) (.int .i64 (-(st : Int))) (by simp [Act.eval, Act.put]) (by simp [Act.eval, Act.put]) _ (HG2.out _ (drewB _)) ?_; rintro e9 w4 ⟨q4, c4, rfl, s4, b4, w4b, t1, t2, t3, t4, t5⟩; refine ⟨_, rfl, ?_⟩; have S4 := mhid (And.intro s4 (And.intro b4 (And.intro w4b (And.intro t1 (And.intro t2 (And.intro t3 (And.intro t4 t5))))))); obtain ⟨hn4, hO4, hAF4⟩ := two_rows s4 b4 1 (by decide) HM9.out (.slice qw S cw) (.slice q4 (S + 64) c4) rfl rfl; obtain ⟨x0, x1, x2, x3⟩ := s4.cells; have lsb := lt_of_block s4.p; have T4 := mhid (And.intro hn4 (And.intro hO4 hAF4)); clear s4 b4 w4b hn4 hO4 hAF4 t1 t2 t3 t4 t5) | (refine step_app9 rfl (.tmp 72) (.tmp 78) 63 rfl base 37 iS _ 1 24 Try.underlying63 hS1 hS2 hS3 hS4 rfl (by decide) (setV V 0 (.slice q6 (n 0 + 2) c6) 1) (st1 n 0 (n 0 + 2) 1) _ (by simp [Act.eval, Act.put]) T4.out.2.1 ⟨w4.heap.size, 0, none⟩ 2 2 [.slice qw S cw, .slice q4 (S + 64) c4] (by simp [Act.eval, Act.put]) rfl (cells_new9 w4 [.slice qw S cw, .slice q4 (S + 64) c4] 37) (by simp [Value.oneCell']) (by have h8 := T4.out.1; have h9 := HM9.out; unfold maxLen; omega) (by have h8 := T4.out.1; have h9 := HM9.out; omega) (by rw [World.size_alloc]; exact Nat.le_succ_of_le S4.out.2.1) ?_; intro v3 w3 hown' hgrow hat; obtain ⟨⟨q3, c3', rfl⟩, n3', nf3', m3, b3, k3⟩ := T4.out.2.2 v3 w3 hown' hgrow hat; have HF3 := mhid (And.intro m3 (And.intro b3 (And.intro (k3 S4.out.2.2.2.1) (And.intro (k3 S4.out.2.2.2.2.1) (And.intro (k3 S4.out.2.2.2.2.2.1) (k3 S4.out.2.2.2.2.2.2.1)))))); clear m3 b3 k3 hown' hgrow hat))
          all_goals (
            go_wp2_with fail
            go_end0
            refine ⟨rfl, S4.out.2.2.1.trans HF3.out.2.1, .slice qw S cw, _, _, _, HF3.out.1, fun i hi => ?_, fun b hb => ?_, .inr ⟨⟨rfl, rfl, rfl, rfl⟩, .slice q5 (S + 64) c5, .slice q4 (S + 64) c4, ⟨rfl, rfl, rfl, rfl⟩, S5.out.2.2.2.2.2.2.1, S4.out.2.2.2.2.2.2.2, kl, _, HF3.out.2.2.1, HF3.out.2.2.2.1, HF3.out.2.2.2.2.1, HF3.out.2.2.2.2.2⟩⟩
            · unfold setV
              rw [if_neg (by omega), if_neg (by omega)]
            · exact (HW.out.1.lt b hb).1))
end Go.Proofs.Ytkfjcbnhohipgaa
