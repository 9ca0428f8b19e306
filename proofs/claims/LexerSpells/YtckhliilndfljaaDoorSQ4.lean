import Derived.Test.YtckhliilndfljaaDoorSQ3
import Derived.Test.YtckhliilndfljaaDoorSB0
import Derived.Deep.RegionLaw
import Derived.Deep.Cut
import Derived.Handy
namespace Go.Proofs.YtckhliilndfljaaDoor
open Go.ChangeShapes Go.WideShapes Go.ChangeAt Go.RowKit
set_option linter.unusedVariables false
set_option linter.unusedSimpArgs false
theorem mhid {p : Prop} (h : p) : Hid p := h
theorem drewT (w : World) : Below w.heap.size w w.drew := ⟨rfl, rfl, rfl, Nat.le_refl _, fun _ _ => rfl⟩
theorem step_appT {P : Program} {ops : Array Oper} {o : Oper} {a : Act} {w : World} {K : Act → World → Prop} {Q : Exit → Act → World → Prop} {E : Prop}
    (hg : o.guard = none) (s x : Operand) (t : TypeId) (hop : o.op = Op.call { callee := Callee.builtin Builtin.append, args := #[s, x], argTypes := #[t, t] })
    (base : Nat) (e : TypeId) (i : TypeInfo) (z : Value) (size bytes : Nat) (ht : P.underlying t = some (.slice e)) (hi : P.info? e = some i) (hz : i.zero = some z)
    (hsize : i.size = size) (hby : i.bytes = bytes) (hzs : z.cells.size = size) (hsz : 0 < size)
    (v : Value) (n : Nat) (xs : List Value) (hs : a.eval s = v) (hown : w.ownsRow base e size v n xs)
    (ad : Addr) (m c : Nat) (news : List Value) (hx : a.eval x = .slice (some ad) m c) (hl : news.length = m * size) (hnews : ∀ j u, news[j]? = some u → w.cell? (ad.add j) = some u) (h1 : ∀ u ∈ news, u.oneCell' = true)
    (h63 : n + m ≤ maxLen) (hbytes : (n + m) * bytes ≤ 140737488355328) (hbase : base ≤ w.heap.size)
    (hK : ∀ v' w', w'.ownsRow base e size v' (n + m) (xs ++ news) → w.grownBy w' v.ownBlock → K (a.put o.dst v') w') :
    if Region.wanted o (yielded ops a.tmps) = true then Oper.wp P o a w K Q else E := by
  have hw : Region.wanted o (yielded ops a.tmps) = true := by simp [Region.wanted, hg]
  rw [if_pos hw]
  obtain ⟨v', w', hr, h2, h3, h4, h5⟩ := run_append_own_at (P := P) w base t o.type e i z size bytes ht hi hz hsize hby hzs hsz v n xs hown ad m c news hl hnews h1 h63 hbytes hbase
  unfold Oper.wp execOp
  simp only [hop, resolve, invoke, builtin, Sem.run_bind, Sem.run_pure, Result.andThen_ok, List.map_toArray, List.map_cons, List.map_nil, hs, hx, hr]
  exact hK _ _ h2 h3
set_option maxRecDepth 100000 in
/-- a call of CopyTokens, as a step of a region that draws -/
theorem step_copyT {ops : Array Oper} {o : Oper} {a : Act} {w : World} {K : Act → World → Prop} {Q : Exit → Act → World → Prop} {E : Prop} (hg : o.guard = none) (x : Nat) (hop : o.op = Op.call { callee := Callee.value (Operand.func 8), args := #[.tmp x], argTypes := #[24] }) (vx : Value) (hx : a.eval (.tmp x) = vx) (post : Ending → World → Prop) (hc : Calls Tryd.prog 8 #[vx] w post) (hr : ∀ e w', post e w' → ∃ v, e = .returned v ∧ K (a.put o.dst v) w') :
    if Region.wanted o (yielded ops a.tmps) = true then Oper.wp Tryd.prog o a w K Q else E := by
  have hw : Region.wanted o (yielded ops a.tmps) = true := by simp [Region.wanted, hg]
  rw [if_pos hw]
  unfold Oper.wp
  have he : (execOp a.eval o).run Tryd.prog w = .ok (.enter 8 #[vx]) w := by
    simp [execOp, hop, resolve, invoke, Act.eval]
    go_simp
    simp [Act.eval] at hx
    exact hx
  rw [he, Oper.upon_enter]
  refine hc.mono fun e w' h => ?_
  obtain ⟨v, rfl, h2⟩ := hr e w' h
  exact h2
theorem own_alloc {W : World} {base : Nat} {t : TypeId} {sz m : Nat} {v : Value} {F : Nat → Value} (h : Own W base t sz v m F) (o : Obj) : Own (W.alloc o) base t sz v m F := own_more' h ((Below.refl _ W).alloc (Nat.le_refl _) _)
theorem five_kept {W W' : World} {c0 c1 c2 c3 c4 : Value} {t : TypeId} (hb : Below (W.alloc (.cells #[c0, c1, c2, c3, c4] t)).heap.size (W.alloc (.cells #[c0, c1, c2, c3, c4] t)) W') : ∀ j u, [c0, c1, c2, c3, c4][j]? = some u → W'.cell? ((⟨W.heap.size, 0, none⟩ : Addr).add j) = some u := fun j u hj => by
  have h1 := cell_five_new W c0 c1 c2 c3 c4 t j u hj
  rw [addr_add0] at h1 ⊢
  exact (World.cell?_of_block (a := ⟨W.heap.size, 0 + j, none⟩) (hb.block W.heap.size (by simp))).trans h1
theorem app_post {w w' w0 : World} {B n g : Nat} {F : Nat → Value} {v' : Value} {nw : List Value} (ho : Own w B 34 5 (.slice (some ⟨g, 0, none⟩) n n) n F) (hg : w.grownBy w' (Value.slice (some ⟨g, 0, none⟩) n n).ownBlock) (hb : Below B w0 w) (hB : B ≤ w.heap.size) (ho' : w'.ownsRow B 34 5 v' (n + 1) (cellsF F (n * 5) ++ nw)) : ∃ q c, v' = .slice (some ⟨q, 0, none⟩) (n + 1) c ∧ n + 1 ≤ c ∧ Own w' B 34 5 (.slice (some ⟨q, 0, none⟩) (n + 1) c) (n + 1) (fun j => (cellsF F (n * 5) ++ nw).getD j undef) ∧ Below B w0 w' := by
  have hbb : Below B w0 w' := hb.grown hg hB fun r e => by
    rcases ho.2 with ⟨h1, _⟩ | ⟨g', cap, cur, h1, h2, _⟩
    · cases h1
    · injection h1 with h1 _ _
      injection h1 with h1
      injection h1 with h1 _ _
      have : g = r := by simpa [Value.ownBlock] using e
      omega
  have hO := own_of_rowT ho'
  rcases ho'.2 with ⟨_, h2⟩ | ⟨q, c, cur, rfl, _, _, hc, _⟩
  · omega
  · exact ⟨q, c, rfl, hc, hO, hbb⟩
theorem app_cells {W : World} {B q c n : Nat} {F : Nat → Value} {X : Nat → Tk} {a0 a1 a2 a3 a4 : Value} (h : Own W B 34 5 (.slice (some ⟨q, 0, none⟩) (n + 1) c) (n + 1) (fun j => (cellsF F (n * 5) ++ [a0, a1, a2, a3, a4]).getD j undef)) (hF : ∀ i r, i < n → r < 5 → F (i * 5 + r) = (tkCells (X i)).getD r undef) :
    TX W (some ⟨q, 0, none⟩) n X ∧ W.cell? ⟨q, n * 5, none⟩ = some a0 ∧ W.cell? ⟨q, n * 5 + 1, none⟩ = some a1 ∧ W.cell? ⟨q, n * 5 + 2, none⟩ = some a2 ∧ W.cell? ⟨q, n * 5 + 3, none⟩ = some a3 ∧ W.cell? ⟨q, n * 5 + 4, none⟩ = some a4 := by
  have hl : (cellsF F (n * 5)).length = n * 5 := by simp [cellsF]
  have e : ∀ r, r < 5 → (cellsF F (n * 5) ++ [a0, a1, a2, a3, a4]).getD (n * 5 + r) undef = [a0, a1, a2, a3, a4].getD r undef := fun r hr => by
    rw [List.getD_eq_getElem?_getD, List.getElem?_append_right (by omega), hl, Nat.add_sub_cancel_left, ← List.getD_eq_getElem?_getD]
  have hc : ∀ r, r < 5 → W.cell? ⟨q, n * 5 + r, none⟩ = some ([a0, a1, a2, a3, a4].getD r undef) := fun r hr => by
    rw [← e r hr]
    exact h.cell (by omega)
  refine ⟨own_tx h (by omega) fun i r hi hr => ?_, hc 0 (by omega), hc 1 (by omega), hc 2 (by omega), hc 3 (by omega), hc 4 (by omega)⟩
  rw [← hF i r hi hr]
  show (cellsF F (n * 5) ++ [a0, a1, a2, a3, a4]).getD (i * 5 + r) undef = _
  rw [List.getD_eq_getElem?_getD, List.getElem?_append_left (by omega)]
  unfold cellsF
  rw [List.getElem?_map, List.getElem?_range (by omega)]
  rfl
/-- the mark -/
def mkT : List Value := [.int .i64 777, .string ⟨#[]⟩, .int .u64 0, .int .i64 7, .int .i64 0]
theorem spell_more {X : Nat → Tk} {n : Nat} (h : 16384 < n) : spell X n = ([], 34) := by unfold spell; rw [if_pos h]
set_option maxRecDepth 100000 in
theorem spell_big (p : Option Addr) (n cp : Nat) (h : 16384 < n) (X : Nat → Tk) (w : World) : Calls Tryd.prog 10 #[.slice p n cp] w fun e w' => e = .returned (.tuple #[.string ⟨(spell X n).1.toArray⟩, .int .i64 (spell X n).2]) ∧ Below w.heap.size w w' := by
  rw [spell_more h]
  go_enter Tryd.func10, Tryd.ntmps10
  have d1 : decide ((16384 : Int) < (n : Int)) = true := decide_eq_true (by omega)
  have d1' : decide (16384 < n) = true := decide_eq_true h
  clear h
  go_wp2
  go_ret2
  exact ⟨by first | rfl | simp, Below.refl _ _⟩
set_option maxRecDepth 100000 in
theorem rspell_big (p : Option Addr) (n cp : Nat) (h : 16384 < n) (X : Nat → Tk) (w : World) : Calls Tryd.prog 11 #[.slice p n cp] w fun e w' => e = .returned (.tuple #[.string ⟨(spell X n).1.toArray⟩, .int .i64 (spell X n).2]) ∧ Below w.heap.size w w' := by
  rw [spell_more h]
  go_enter Tryd.func11, Tryd.ntmps11
  have d1 : decide ((16384 : Int) < (n : Int)) = true := decide_eq_true (by omega)
  have d1' : decide (16384 < n) = true := decide_eq_true h
  clear h
  go_wp2
  go_ret2
  exact ⟨by first | rfl | simp, Below.refl _ _⟩
theorem mark_new (w : World) (t : TypeId) : ∀ r, r < 5 → (w.alloc (.cells mkT.toArray t)).cell? ⟨w.heap.size, r, none⟩ = some (mkT.getD r undef) := by
  intro r hr
  unfold World.cell?
  rw [World.alloc_heap_new]
  rcases (by omega : r = 0 ∨ r = 1 ∨ r = 2 ∨ r = 3 ∨ r = 4) with rfl | rfl | rfl | rfl | rfl <;> rfl
set_option maxRecDepth 100000 in
set_option maxHeartbeats 4000000 in
theorem spells_law (p : Option Addr) (n cp : Nat) (X : Nat → Tk) (hn : n ≤ 2932031007317) (hr : ∀ i, i < n → TkR (X i)) (w : World) (g : Gr w) (hin : TX w p n X) : Calls Tryd.prog 5 #[.slice p n cp] w fun e w' => e = .returned (.bool true) ∧ Below w.heap.size w w' := by
  obtain ⟨F, hF1, hF2, hF3⟩ := tx_sh hin
  obtain ⟨i0, hi0, hz0, hz1, hz2⟩ := info_parts infoTk
  obtain ⟨RS, hRS⟩ : ∃ RS, spell X n = RS := ⟨_, rfl⟩
  have HSP : Hid (∀ W q c, Below w.heap.size w W → TX W q n X → Calls Tryd.prog 10 #[.slice q n c] W fun e w' => e = .returned (.tuple #[.string ⟨RS.1.toArray⟩, .int .i64 RS.2]) ∧ Below W.heap.size W w') := fun W q c hW h => by
    rw [← hRS]
    by_cases hb : 16384 < n
    · exact spell_big q n c hb X W
    · exact spell_any q n c X (by omega) hr W (g.keep hW) h
  have HRF : Hid (∀ W c, Below w.heap.size w W → Calls Tryd.prog 11 #[.slice p n c] W fun e w' => e = .returned (.tuple #[.string ⟨RS.1.toArray⟩, .int .i64 RS.2]) ∧ Below W.heap.size W w') := fun W c hW => by
    rw [← hRS]
    by_cases hb : 16384 < n
    · exact rspell_big p n c hb X W
    · exact rspell_any p n c X (by omega) hr W (hin.below hW)
  have HCT : Hid (∀ W, Below w.heap.size w W → Calls Tryd.prog 8 #[.slice p n cp] W fun e w' => ∃ g, e = .returned (.slice (some ⟨g, 0, none⟩) n n) ∧ Own w' W.heap.size 34 5 (.slice (some ⟨g, 0, none⟩) n n) n F ∧ Below W.heap.size W w') := fun W hW => copyTokens_any p n cp F (by omega) W (by
    rcases hF1 with h | ⟨b, o, e, h1, h2⟩
    · exact .inl h
    · exact .inr ⟨b, o, e, Nat.lt_of_lt_of_le h1 hW.size, fun j hj => (World.cell?_of_block (a := ⟨b, o + j, none⟩) (hW.block b h1)).trans (h2 j hj)⟩) hF2
  have HSM : Hid (∀ W q c d, Below w.heap.size w W → TX W q n X → Calls Tryd.prog 9 #[.slice q n c, .slice p n d] W fun e w' => e = .returned (.bool true) ∧ Below W.heap.size W w') := fun W q c d hW h => sameTX q p n c d X (by omega) W h (hin.below hW)
  have HF : Hid (∀ i r, i < n → r < 5 → F (i * 5 + r) = (tkCells (X i)).getD r undef) := hF3
  clear hF1 hF2 hF3 hin g hr hRS
  go_enter Tryd.func5, Tryd.ntmps5
  go_upto_region 2 with fail
  obtain ⟨w1, hw1⟩ : ∃ w1, w.alloc (.cells #[.int .i64 777, .string ⟨#[]⟩, .int .u64 0, .int .i64 7, .int .i64 0] 34) = w1 := ⟨_, rfl⟩
  have hb1 : Below w.heap.size w w1 := by rw [← hw1]; exact (Below.refl _ w).alloc (Nat.le_refl _) _
  have hbx : w1.heap[w.heap.size]? = some (.cells #[.int .i64 777, .string ⟨#[]⟩, .int .u64 0, .int .i64 7, .int .i64 0] 34 (0, 0)) := by rw [← hw1]; exact World.alloc_heap_new w _
  have hlt : w.heap.size < w1.heap.size := by rw [← hw1]; simp
  have HB1 : Hid (Below w.heap.size w w1) := hb1
  have HX : Hid (∀ W, Below w1.heap.size w1 W → W.cell? ⟨w.heap.size, 0, none⟩ = some (.int .i64 777) ∧ W.cell? ⟨w.heap.size, 1, none⟩ = some (.string ⟨#[]⟩) ∧ W.cell? ⟨w.heap.size, 2, none⟩ = some (.int .u64 0) ∧ W.cell? ⟨w.heap.size, 3, none⟩ = some (.int .i64 7) ∧ W.cell? ⟨w.heap.size, 4, none⟩ = some (.int .i64 0)) := fun W hW => by
    have h9 := (hW.block _ hlt).trans hbx
    unfold World.cell?
    simp [h9]
  obtain ⟨m0, m1, m2, m3, m4⟩ := HX.out w1.drew (drewT _)
  rw [hw1]
  have HCT1 : Hid (∀ W, Below w1.heap.size w1 W → Calls Tryd.prog 8 #[.slice p n cp] W fun e w' => ∃ g, e = .returned (.slice (some ⟨g, 0, none⟩) n n) ∧ Own w' w1.heap.size 34 5 (.slice (some ⟨g, 0, none⟩) n n) n F ∧ Below W.heap.size W w' ∧ Below w1.heap.size w1 w') := fun W hW => (HCT.out W (hb1.trans (hW.mono hb1.size))).mono fun e w' ⟨g, he, ho, hb⟩ => ⟨g, he, own_low ho hW.size, hb, hW.trans (hb.mono hW.size)⟩
  have hx1 : n + 1 ≤ maxLen := by unfold maxLen; omega
  have hx2 : (n + 1) * 48 ≤ 140737488355328 := by omega
  clear hw1 hb1 hbx HCT
  go_region_law (first
    | (refine step_copyT rfl 11 rfl (.slice p n cp) (by simp [Act.eval, Act.put]) _ (HCT1.out _ (by first | exact drewT _ | exact (drewT _).alloc (Nat.le_refl _) _)) ?_; rintro e9 w2 ⟨g2, rfl, o2, b2, c2⟩; refine ⟨_, rfl, ?_⟩; obtain ⟨x0, x1, x2, x3, x4⟩ := HX.out _ c2; have H2 := mhid (And.intro o2 (And.intro b2 c2)); clear o2 b2 c2)
    | (refine step_appT rfl (.tmp 12) (.tmp 14) 24 rfl w1.heap.size 34 i0 _ 5 48 Tryd.underlying24 hi0 hz0 hz1 hz2 rfl (by decide) (.slice (some ⟨g2, 0, none⟩) n n) n (cellsF F (n * 5)) (by simp [Act.eval, Act.put]) (own_alloc H2.out.1 _) ⟨w2.heap.size, 0, none⟩ 1 1 mkT (by simp [Act.eval, Act.put]) rfl (cell_five_new w2 _ _ _ _ _ _) (by simp [mkT, Value.oneCell']) hx1 hx2 (by rw [World.size_alloc]; exact Nat.le_succ_of_le H2.out.2.2.size) ?_; intro v3 w3 ho3 hg3; obtain ⟨q3, c3, rfl, hc3, hO3, hB3⟩ := app_post (own_alloc H2.out.1 _) hg3 (H2.out.2.2.alloc H2.out.2.2.size _) (by rw [World.size_alloc]; exact Nat.le_succ_of_le H2.out.2.2.size) ho3; have HF3 := mhid (And.intro hO3 hB3); clear ho3 hg3 hO3 hB3 H2 x0 x1 x2 x3 x4)
    | (refine step_appT rfl (.tmp 12) (.tmp 14) 24 rfl w1.heap.size 34 i0 _ 5 48 Tryd.underlying24 hi0 hz0 hz1 hz2 rfl (by decide) (.slice (some ⟨g2, 0, none⟩) n n) n (cellsF F (n * 5)) (by simp [Act.eval, Act.put]) H2.out.1 ⟨w1.heap.size, 0, none⟩ 1 1 mkT (by simp [Act.eval, Act.put]) rfl (five_kept (W := w1.drew) H2.out.2.1) (by simp [mkT, Value.oneCell']) hx1 hx2 H2.out.2.2.size ?_; intro v3 w3 ho3 hg3; obtain ⟨q3, c3, rfl, hc3, hO3, hB3⟩ := app_post H2.out.1 hg3 H2.out.2.2 H2.out.2.2.size ho3; have HF3 := mhid (And.intro hO3 hB3); clear ho3 hg3 hO3 hB3 H2 x0 x1 x2 x3 x4))
  all_goals
    have HALL : Hid (∀ W, Below w3.heap.size w3 W → Below w.heap.size w W ∧ TX W (some ⟨q3, 0, none⟩) n X ∧ ((W.cell? ⟨q3, n * 5, none⟩ = some (.int .i64 777) ∧ W.cell? ⟨q3, n * 5 + 1, none⟩ = some (.string ⟨#[]⟩)) ∧ (W.cell? ⟨q3, n * 5 + 2, none⟩ = some (.int .u64 0) ∧ W.cell? ⟨q3, n * 5 + 3, none⟩ = some (.int .i64 7)) ∧ (W.cell? ⟨q3, n * 5 + 4, none⟩ = some (.int .i64 0) ∧ W.cell? ⟨w.heap.size, 0, none⟩ = some (.int .i64 777)) ∧ (W.cell? ⟨w.heap.size, 1, none⟩ = some (.string ⟨#[]⟩) ∧ W.cell? ⟨w.heap.size, 2, none⟩ = some (.int .u64 0)) ∧ (W.cell? ⟨w.heap.size, 3, none⟩ = some (.int .i64 7) ∧ W.cell? ⟨w.heap.size, 4, none⟩ = some (.int .i64 0)))) := fun W hW => by
      have hO := own_more' HF3.out.1 hW
      obtain ⟨t0, t1, t2, t3, t4, t5⟩ := app_cells (a0 := .int .i64 777) (a1 := .string ⟨#[]⟩) (a2 := .int .u64 0) (a3 := .int .i64 7) (a4 := .int .i64 0) hO HF.out
      have hb9 := HF3.out.2.trans (hW.mono HF3.out.2.size)
      obtain ⟨y0, y1, y2, y3, y4⟩ := HX.out W hb9
      exact ⟨HB1.out.trans (hb9.mono HB1.out.size), t0, ⟨t1, t2⟩, ⟨t3, t4⟩, ⟨t5, y0⟩, ⟨y1, y2⟩, y3, y4⟩
    have z1 : (0 : Int) ≤ (n : Int) := by omega
    have z2 : (n : Int) ≤ (c3 : Int) := by omega
    have z3 : ¬ (c3 = 0) := by omega
    have z4 : ¬ ((c3 : Int) = 0) := by omega
    have z5 : (n : Int) < ((n + 1 : Nat) : Int) := by omega
    have z6 : n ≤ c3 := by omega
    have z7 : n < n + 1 := by omega
    have z8 : (n : Int) < (n : Int) + 1 := by omega
    clear HF3 HX HB1 m0 m1 m2 m3 m4 HCT1 hlt hc3
    go_upto_region 6 with (first
      | (go_at_call 10; (with_reducible refine (HSP.out w3 _ _ (HALL.out _ (Below.refl _ _)).1 (HALL.out _ (Below.refl _ _)).2.1).mono ?_); rintro e w4 ⟨rfl, hb4⟩)
      | (go_at_call 11; (with_reducible refine (HRF.out w4 _ (HALL.out _ hb4).1).mono ?_); rintro e w5 ⟨rfl, hb5⟩))
    have hb35 := hb4.trans (hb5.mono hb4.size)
    have HB35 : Hid (Below w3.heap.size w3 w5) := hb35
    have hS : (w5.drew.cell? ⟨q3, n * 5, none⟩ = some (.int .i64 777) ∧ w5.drew.cell? ⟨q3, n * 5 + 1, none⟩ = some (.string ⟨#[]⟩)) ∧ (w5.drew.cell? ⟨q3, n * 5 + 2, none⟩ = some (.int .u64 0) ∧ w5.drew.cell? ⟨q3, n * 5 + 3, none⟩ = some (.int .i64 7)) ∧ (w5.drew.cell? ⟨q3, n * 5 + 4, none⟩ = some (.int .i64 0) ∧ w5.drew.cell? ⟨w.heap.size, 0, none⟩ = some (.int .i64 777)) ∧ (w5.drew.cell? ⟨w.heap.size, 1, none⟩ = some (.string ⟨#[]⟩) ∧ w5.drew.cell? ⟨w.heap.size, 2, none⟩ = some (.int .u64 0)) ∧ (w5.drew.cell? ⟨w.heap.size, 3, none⟩ = some (.int .i64 7) ∧ w5.drew.cell? ⟨w.heap.size, 4, none⟩ = some (.int .i64 0)) := (HALL.out _ hb35.drew).2.2
    clear hb4 hb5 hb35
    have HC6 : Hid (Calls Tryd.prog 9 #[.slice (some ⟨q3, 0, none⟩) n c3, .slice p n cp] w5.drew fun e w6 => e = .returned (.bool true) ∧ Below w.heap.size w w6 ∧ ((fun W => (W.cell? ⟨q3, n * 5, none⟩ = some (.int .i64 777) ∧ W.cell? ⟨q3, n * 5 + 1, none⟩ = some (.string ⟨#[]⟩)) ∧ (W.cell? ⟨q3, n * 5 + 2, none⟩ = some (.int .u64 0) ∧ W.cell? ⟨q3, n * 5 + 3, none⟩ = some (.int .i64 7)) ∧ (W.cell? ⟨q3, n * 5 + 4, none⟩ = some (.int .i64 0) ∧ W.cell? ⟨w.heap.size, 0, none⟩ = some (.int .i64 777)) ∧ (W.cell? ⟨w.heap.size, 1, none⟩ = some (.string ⟨#[]⟩) ∧ W.cell? ⟨w.heap.size, 2, none⟩ = some (.int .u64 0)) ∧ (W.cell? ⟨w.heap.size, 3, none⟩ = some (.int .i64 7) ∧ W.cell? ⟨w.heap.size, 4, none⟩ = some (.int .i64 0))) w6)) := (HSM.out w5.drew _ _ _ (HALL.out _ HB35.out.drew).1 (HALL.out _ HB35.out.drew).2.1).mono fun e w6 ⟨he, hb6⟩ => ⟨he, (HALL.out _ (HB35.out.drew.trans (hb6.mono HB35.out.drew.size))).1, (HALL.out _ (HB35.out.drew.trans (hb6.mono HB35.out.drew.size))).2.2⟩
    go_region_held3 (fun W => (W.cell? ⟨q3, n * 5, none⟩ = some (.int .i64 777) ∧ W.cell? ⟨q3, n * 5 + 1, none⟩ = some (.string ⟨#[]⟩)) ∧ (W.cell? ⟨q3, n * 5 + 2, none⟩ = some (.int .u64 0) ∧ W.cell? ⟨q3, n * 5 + 3, none⟩ = some (.int .i64 7)) ∧ (W.cell? ⟨q3, n * 5 + 4, none⟩ = some (.int .i64 0) ∧ W.cell? ⟨w.heap.size, 0, none⟩ = some (.int .i64 777)) ∧ (W.cell? ⟨w.heap.size, 1, none⟩ = some (.string ⟨#[]⟩) ∧ W.cell? ⟨w.heap.size, 2, none⟩ = some (.int .u64 0)) ∧ (W.cell? ⟨w.heap.size, 3, none⟩ = some (.int .i64 7) ∧ W.cell? ⟨w.heap.size, 4, none⟩ = some (.int .i64 0))) (first | exact hS | exact s6 | go_keep) (first | (go_at_call 9; (with_reducible refine (HC6.out).mono ?_); rintro e6 w6 ⟨rfl, hb6, s6⟩))
  all_goals
    go_wp2
    go_ret
    exact ⟨rfl, hb6⟩
end Go.Proofs.YtckhliilndfljaaDoor
