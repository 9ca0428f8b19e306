import Derived.Test.YtkfjcbnhohipgaaQ0
import Derived.Deep.RegionLaw
import Derived.Deep.Cut
namespace Go.Proofs.Ytkfjcbnhohipgaa
open Go.ChangeShapes Go.WideShapes Go.ChangeAt Go.RowKit
set_option linter.unusedVariables false
set_option linter.unusedSimpArgs false

theorem binfo {i? : Option TypeInfo} {z : Value} {s b : Nat} (h : i?.map (fun i => (i.zero, i.size, i.bytes)) = some (some z, s, b)) : ∃ i, i? = some i ∧ i.zero = some z ∧ i.size = s ∧ i.bytes = b := by
  cases i? with
  | none => cases h
  | some i =>
    simp at h
    exact ⟨i, rfl, h.1, h.2.1, h.2.2⟩
theorem infoWK : (Try.prog.info? 81).map (fun i => (i.zero, i.size, i.bytes)) = some (some (.agg #[.int .i64 0, .int .i64 0]), 2, 16) := by kernel_rfl
theorem infoBS : (Try.prog.info? 72).map (fun i => (i.zero, i.size, i.bytes)) = some (some (.slice none 0 0), 1, 24) := by kernel_rfl
theorem infoBX : (Try.prog.info? 78).map (fun i => (i.zero, i.size, i.bytes)) = some (some (.agg #[.slice none 0 0, .slice none 0 0]), 2, 48) := by kernel_rfl
theorem infoTH : (Try.prog.info? 31).map (fun i => (i.zero, i.size, i.bytes)) = some (some (.agg #[.int .i64 0, .int .i64 0]), 2, 16) := by kernel_rfl
theorem infoIN : (Try.prog.info? 3).map (fun i => (i.zero, i.size, i.bytes)) = some (some (.int .i64 0), 1, 8) := by kernel_rfl
theorem made1 (z : Value) (hz : z.cells = #[z]) (n j : Nat) (hj : j < n * 1) : (madeCells z.cells (n * 1)).toList.getD j undef = z := by
  rw [Nat.mul_one] at hj
  unfold madeCells
  rw [hz]
  simp [hj, Nat.mod_one]
theorem made2 (z : Value) (n j : Nat) (hj : j < n * 2) : (madeCells (Value.agg #[z, z]).cells (n * 2)).toList.getD j undef = z := by
  have h6 : (Value.agg #[z, z]).cells.size = 2 := rfl
  have hm : j % 2 = 0 ∨ j % 2 = 1 := by omega
  unfold madeCells
  simp [hj, h6]
  rcases hm with h | h <;> rw [h] <;> rfl
/-- make of n elements, as an equation -/
theorem run_make_eq {P : Program} (t e : TypeId) (i : TypeInfo) (z : Value) (size : Nat) (ht : P.underlying t = some (.slice e)) (hi : P.info? e = some i) (hz : i.zero = some z) (hsize : i.size = size)
    (n : Nat) (hbytes : i.bytes * n ≤ 281474976710656) (h63 : n ≤ 9223372036854775807) (w : World) :
    (Instr.makeSlice t (.int .i64 (n : Int)) (.int .i64 (n : Int))).run P w = .ok (.slice (some ⟨w.heap.size, 0, none⟩) n n) (w.alloc (.cells (madeCells z.cells (n * size)) e)) := by
  have hb' : (i.bytes : Int) * (n : Int) ≤ 281474976710656 := by
    have h : ((i.bytes * n : Nat) : Int) ≤ 281474976710656 := by omega
    rwa [Int.natCast_mul] at h
  have hr := run_make (P := P) w t e i z ht hi hz .i64 .i64 n n (by omega) (Int.le_refl _) hb' (by omega)
  simp only [Int.toNat_natCast, hsize] at hr
  exact hr
def zA (z : Value) (n s : Nat) : Array Value := madeCells z.cells (n * s)
/-- a new row -/
theorem own_new (w : World) (e : TypeId) (z : Value) (n s : Nat) (hn : n ≤ maxLen) : Own (w.alloc (.cells (zA z n s) e)) w.heap.size e s (.slice (some ⟨w.heap.size, 0, none⟩) n n) n (fun j => (madeCells z.cells (n * s)).toList.getD j undef) := own_of_row (World.ownsRow_lit w _ n (Nat.le_refl _) hn (size_madeCells _ _))
theorem step_app9 {P : Program} {ops : Array Oper} {o : Oper} {a : Act} {w : World} {K : Act → World → Prop} {Q : Exit → Act → World → Prop} {E : Prop}
    (hg : o.guard = none) (s x : Operand) (t : TypeId) (hop : o.op = Op.call { callee := Callee.builtin Builtin.append, args := #[s, x], argTypes := #[t, t] })
    (base : Nat) (e : TypeId) (i : TypeInfo) (z : Value) (size bytes : Nat) (ht : P.underlying t = some (.slice e)) (hi : P.info? e = some i) (hz : i.zero = some z)
    (hsize : i.size = size) (hby : i.bytes = bytes) (hzs : z.cells.size = size) (hsz : 0 < size)
    (v : Value) (n : Nat) (xs : List Value) (hs : a.eval s = v) (hown : w.ownsRow base e size v n xs)
    (ad : Addr) (m c : Nat) (news : List Value) (hx : a.eval x = .slice (some ad) m c) (hl : news.length = m * size) (hnews : ∀ j u, news[j]? = some u → w.cell? (ad.add j) = some u) (h1 : ∀ u ∈ news, u.oneCell' = true)
    (h63 : n + m ≤ maxLen) (hbytes : (n + m) * bytes ≤ 140737488355328) (hbase : base ≤ w.heap.size)
    (hK : ∀ v' w', w'.ownsRow base e size v' (n + m) (xs ++ news) → w.grownBy w' v.ownBlock → (v'.ownBlock = v.ownBlock ∨ v'.ownBlock = some w.heap.size) → K (a.put o.dst v') w') :
    if Region.wanted o (yielded ops a.tmps) = true then Oper.wp P o a w K Q else E := by
  have hw : Region.wanted o (yielded ops a.tmps) = true := by simp [Region.wanted, hg]
  rw [if_pos hw]
  obtain ⟨v', w', hr, h2, h3, h4, h5⟩ := run_append_own_at (P := P) w base t o.type e i z size bytes ht hi hz hsize hby hzs hsz v n xs hown ad m c news hl hnews h1 h63 hbytes hbase
  unfold Oper.wp execOp
  simp only [hop, resolve, invoke, builtin, Sem.run_bind, Sem.run_pure, Result.andThen_ok, List.map_toArray, List.map_cons, List.map_nil, hs, hx, hr]
  exact hK _ _ h2 h3 h5
theorem cells_new9 (w : World) (cs : List Value) (t : TypeId) : ∀ j u, cs[j]? = some u → (w.alloc (.cells cs.toArray t)).cell? ((⟨w.heap.size, 0, none⟩ : Addr).add j) = some u := by
  intro j u hj
  rw [addr_add0, Nat.zero_add]
  unfold World.cell?
  rw [World.alloc_heap_new]
  simpa using hj
/-- a post's cells -/
def PAt9 (W : World) (hb wb bb n : Nat) (room : Int) (cmp : Value) : Prop := W.heap[hb]? = some (.cells #[.int .i64 room, cmp, .slice (some ⟨wb, 0, none⟩) n n, .slice (some ⟨bb, 0, none⟩) n n] 71 (0, 0))
theorem PAt9.cells {W : World} {hb wb bb n : Nat} {room : Int} {cmp : Value} (h : PAt9 W hb wb bb n room cmp) : W.cell? ⟨hb, 0, none⟩ = some (.int .i64 room) ∧ W.cell? ⟨hb, 1, none⟩ = some cmp ∧ W.cell? ⟨hb, 2, none⟩ = some (.slice (some ⟨wb, 0, none⟩) n n) ∧ W.cell? ⟨hb, 3, none⟩ = some (.slice (some ⟨bb, 0, none⟩) n n) := by
  unfold PAt9 at h
  refine ⟨?_, ?_, ?_, ?_⟩
  all_goals (unfold World.cell?; rw [h]; rfl)
/-- a post whose first k rows of boxes are made -/
structure NP (W : World) (base hb wb bb n : Nat) (room : Int) (cmp : Value) (R : Nat → Nat) (k : Nat) : Prop where
  p : PAt9 W hb wb bb n room cmp
  w : Own W base 81 2 (.slice (some ⟨wb, 0, none⟩) n n) n (fun _ => .int .i64 0)
  b : Own W base 72 1 (.slice (some ⟨bb, 0, none⟩) n n) n (fun i => if i < k then .slice (some ⟨R i, 0, none⟩) n n else .slice none 0 0)
  r : ∀ i, i < k → Own W base 78 2 (.slice (some ⟨R i, 0, none⟩) n n) n (fun _ => .slice none 0 0)
  ap : ∀ i j, i < k → j < k → R i = R j → i = j
  hbs : base ≤ hb
theorem NP.new {w1 : World} {B hb wb bb n : Nat} {room : Int} {cmp : Value} (hp : PAt9 w1 hb wb bb n room cmp) (hw : Own w1 B 81 2 (.slice (some ⟨wb, 0, none⟩) n n) n (fun j => (madeCells (Value.agg #[.int .i64 0, .int .i64 0]).cells (n * 2)).toList.getD j undef)) (hb' : Own w1 B 72 1 (.slice (some ⟨bb, 0, none⟩) n n) n (fun j => (madeCells (Value.slice none 0 0).cells (n * 1)).toList.getD j undef)) (hh : B ≤ hb) : NP w1 B hb wb bb n room cmp (fun _ => 0) 0 :=
  ⟨hp, hw.congr fun j hj => made2 _ n j hj, hb'.congr fun j hj => by rw [made1 _ rfl n j hj]; simp, fun i hi => absurd hi (Nat.not_lt_zero _), fun i j hi => absurd hi (Nat.not_lt_zero _), hh⟩
theorem drewB (w : World) : Below w.heap.size w w.drew := ⟨rfl, rfl, rfl, Nat.le_refl _, fun _ _ => rfl⟩
theorem new1 (W : World) (B n : Nat) (room : Int) (cmp : Value) (hB : B = W.heap.size) (hn : n ≤ maxLen) : NP (((W.alloc (.cells (zA (.agg #[.int .i64 0, .int .i64 0]) n 2) 81)).alloc (.cells (zA (.slice none 0 0) n 1) 72)).alloc (.cells #[.int .i64 room, cmp, .slice (some ⟨W.heap.size, 0, none⟩) n n, .slice (some ⟨W.heap.size + 1, 0, none⟩) n n] 71)).drew B (W.heap.size + 1 + 1) W.heap.size (W.heap.size + 1) n room cmp (fun _ => 0) 0 ∧ Below B W (((W.alloc (.cells (zA (.agg #[.int .i64 0, .int .i64 0]) n 2) 81)).alloc (.cells (zA (.slice none 0 0) n 1) 72)).alloc (.cells #[.int .i64 room, cmp, .slice (some ⟨W.heap.size, 0, none⟩) n n, .slice (some ⟨W.heap.size + 1, 0, none⟩) n n] 71)).drew := by
  subst hB
  have o1 := own_new W 81 (.agg #[.int .i64 0, .int .i64 0]) n 2 hn
  have s1 : (W.alloc (.cells (zA (.agg #[.int .i64 0, .int .i64 0]) n 2) 81)).heap.size = W.heap.size + 1 := World.size_alloc _ _
  have b1 : Below W.heap.size W (W.alloc (.cells (zA (.agg #[.int .i64 0, .int .i64 0]) n 2) 81)) := (Below.refl _ W).alloc (Nat.le_refl _) _
  generalize (W.alloc (.cells (zA (.agg #[.int .i64 0, .int .i64 0]) n 2) 81)) = w1 at o1 s1 b1 ⊢
  have o2 := own_new w1 72 (.slice none 0 0) n 1 hn
  have b2 : Below w1.heap.size w1 (w1.alloc (.cells (zA (.slice none 0 0) n 1) 72)) := (Below.refl _ w1).alloc (Nat.le_refl _) _
  have s2 : (w1.alloc (.cells (zA (.slice none 0 0) n 1) 72)).heap.size = w1.heap.size + 1 := World.size_alloc _ _
  generalize (w1.alloc (.cells (zA (.slice none 0 0) n 1) 72)) = w2 at o2 s2 b2 ⊢
  rw [s1] at o2 s2
  have b3 : Below w2.heap.size w2 (w2.alloc (.cells #[.int .i64 room, cmp, .slice (some ⟨W.heap.size, 0, none⟩) n n, .slice (some ⟨W.heap.size + 1, 0, none⟩) n n] 71)).drew := ((Below.refl _ w2).alloc (Nat.le_refl _) _).trans ⟨rfl, rfl, rfl, Nat.le_refl _, fun _ _ => rfl⟩
  refine ⟨NP.new ?_ ((o1.later b2).later b3) ((o2.later b3).lower (by omega)) (by omega), (b1.trans (b2.mono (by omega))).trans (b3.mono (by omega))⟩
  show (w2.alloc _).heap[W.heap.size + 1 + 1]? = _
  rw [← s2]
  exact World.alloc_heap_new w2 _
theorem new2 (W : World) (B n : Nat) (room : Int) (cmp : Value) (hB : B = W.heap.size) (hn : n ≤ maxLen) : NP (((W.alloc (.cells (zA (.slice none 0 0) n 1) 72)).alloc (.cells (zA (.agg #[.int .i64 0, .int .i64 0]) n 2) 81)).alloc (.cells #[.int .i64 room, cmp, .slice (some ⟨W.heap.size + 1, 0, none⟩) n n, .slice (some ⟨W.heap.size, 0, none⟩) n n] 71)).drew B (W.heap.size + 1 + 1) (W.heap.size + 1) W.heap.size n room cmp (fun _ => 0) 0 ∧ Below B W (((W.alloc (.cells (zA (.slice none 0 0) n 1) 72)).alloc (.cells (zA (.agg #[.int .i64 0, .int .i64 0]) n 2) 81)).alloc (.cells #[.int .i64 room, cmp, .slice (some ⟨W.heap.size + 1, 0, none⟩) n n, .slice (some ⟨W.heap.size, 0, none⟩) n n] 71)).drew := by
  subst hB
  have o1 := own_new W 72 (.slice none 0 0) n 1 hn
  have s1 : (W.alloc (.cells (zA (.slice none 0 0) n 1) 72)).heap.size = W.heap.size + 1 := World.size_alloc _ _
  have b1 : Below W.heap.size W (W.alloc (.cells (zA (.slice none 0 0) n 1) 72)) := (Below.refl _ W).alloc (Nat.le_refl _) _
  generalize (W.alloc (.cells (zA (.slice none 0 0) n 1) 72)) = w1 at o1 s1 b1 ⊢
  have o2 := own_new w1 81 (.agg #[.int .i64 0, .int .i64 0]) n 2 hn
  have b2 : Below w1.heap.size w1 (w1.alloc (.cells (zA (.agg #[.int .i64 0, .int .i64 0]) n 2) 81)) := (Below.refl _ w1).alloc (Nat.le_refl _) _
  have s2 : (w1.alloc (.cells (zA (.agg #[.int .i64 0, .int .i64 0]) n 2) 81)).heap.size = w1.heap.size + 1 := World.size_alloc _ _
  generalize (w1.alloc (.cells (zA (.agg #[.int .i64 0, .int .i64 0]) n 2) 81)) = w2 at o2 s2 b2 ⊢
  rw [s1] at o2 s2
  have b3 : Below w2.heap.size w2 (w2.alloc (.cells #[.int .i64 room, cmp, .slice (some ⟨W.heap.size + 1, 0, none⟩) n n, .slice (some ⟨W.heap.size, 0, none⟩) n n] 71)).drew := ((Below.refl _ w2).alloc (Nat.le_refl _) _).trans ⟨rfl, rfl, rfl, Nat.le_refl _, fun _ _ => rfl⟩
  refine ⟨NP.new ?_ ((o2.later b3).lower (by omega)) ((o1.later b2).later b3) (by omega), (b1.trans (b2.mono (by omega))).trans (b3.mono (by omega))⟩
  show (w2.alloc _).heap[W.heap.size + 1 + 1]? = _
  rw [← s2]
  exact World.alloc_heap_new w2 _
theorem typ_ne {W : World} {a b : Nat} {c1 c2 : Array Value} {t1 t2 : TypeId} {f1 f2 : Nat × Nat} (h1 : W.heap[a]? = some (.cells c1 t1 f1)) (h2 : W.heap[b]? = some (.cells c2 t2 f2)) (h : t1 ≠ t2) : a ≠ b := by
  rintro rfl
  rw [h1] at h2
  injection h2 with h2
  injection h2 with _ h2
  exact h h2
theorem NP.step {wr W : World} {B hb wb bb n : Nat} {room : Int} {cmp : Value} {R : Nat → Nat} {k : Nat} (h : NP wr B hb wb bb n room cmp R k) (hk : k < n) (hn : n ≤ maxLen) (hbr : Below B W wr) : NP ((wr.setCell ⟨bb, k, none⟩ (.slice (some ⟨wr.heap.size, 0, none⟩) n n)).alloc (.cells (zA (.agg #[.slice none 0 0, .slice none 0 0]) n 2) 78)).drew B hb wb bb n room cmp (fun i => if i = k then wr.heap.size else R i) (k + 1) ∧ Below B W ((wr.setCell ⟨bb, k, none⟩ (.slice (some ⟨wr.heap.size, 0, none⟩) n n)).alloc (.cells (zA (.agg #[.slice none 0 0, .slice none 0 0]) n 2) 78)).drew := by
  obtain ⟨cb, hcb, _, _, _, hbb, _⟩ := h.b.block
  obtain ⟨cw, hcw, _⟩ := h.w.block
  have hbw : B ≤ wr.heap.size := by have := lt_of_block hcb; omega
  have n1 : hb ≠ bb := typ_ne h.p hcb (by decide)
  have n2 : wb ≠ bb := typ_ne hcw hcb (by decide)
  have hset : ∀ j, j ≠ bb → (wr.setCell ⟨bb, k, none⟩ (.slice (some ⟨wr.heap.size, 0, none⟩) n n)).heap[j]? = wr.heap[j]? := fun j hj => Below.heap_setCell _ _ _ _ hj
  have hsz : (wr.setCell ⟨bb, k, none⟩ (.slice (some ⟨wr.heap.size, 0, none⟩) n n)).heap.size = wr.heap.size := by simp [World.setCell]
  have hput := h.b.put k [.slice (some ⟨wr.heap.size, 0, none⟩) n n]
  have hbS : Below B W (wr.setCell ⟨bb, k, none⟩ (.slice (some ⟨wr.heap.size, 0, none⟩) n n)) := hbr.setCell (p := ⟨bb, k, none⟩) hbb _
  have hput' : Own (wr.setCell ⟨bb, k, none⟩ (.slice (some ⟨wr.heap.size, 0, none⟩) n n)) B 72 1 (.slice (some ⟨bb, 0, none⟩) n n) n (fun i => if i < k + 1 then .slice (some ⟨if i = k then wr.heap.size else R i, 0, none⟩) n n else .slice none 0 0) := hput.congr fun j hj => by
    unfold putF
    by_cases e : j = k
    · subst e
      simp
    · rw [if_neg (by simp; omega), if_neg e]
      show (if j < k then _ else _) = _
      by_cases e2 : j < k
      · rw [if_pos e2, if_pos (by omega)]
      · rw [if_neg e2, if_neg (by omega)]
  have hrs : ∀ i, i < k → Own (wr.setCell ⟨bb, k, none⟩ (.slice (some ⟨wr.heap.size, 0, none⟩) n n)) B 78 2 (.slice (some ⟨R i, 0, none⟩) n n) n (fun _ => .slice none 0 0) := fun i hi => (h.r i hi).far fun j hj => hset j (by
    injection hj with hj
    subst hj
    obtain ⟨cr, hcr, _⟩ := (h.r i hi).block
    exact typ_ne hcr hcb (by decide))
  have hws := h.w.far (W' := wr.setCell ⟨bb, k, none⟩ (.slice (some ⟨wr.heap.size, 0, none⟩) n n)) fun j hj => hset j (by injection hj with hj; subst hj; exact n2)
  have hps : PAt9 (wr.setCell ⟨bb, k, none⟩ (.slice (some ⟨wr.heap.size, 0, none⟩) n n)) hb wb bb n room cmp := (hset hb n1).trans h.p
  have hRl : ∀ i, i < k → R i < wr.heap.size := fun i hi => (Own.lt (h.r i hi) (R i) rfl).2
  rw [← hsz] at hRl hbw
  generalize hw2 : wr.setCell ⟨bb, k, none⟩ (.slice (some ⟨wr.heap.size, 0, none⟩) n n) = w2 at hput' hrs hws hps hbS hsz hRl hbw ⊢
  rw [← hsz] at hput' ⊢
  have o2 := own_new w2 78 (.agg #[.slice none 0 0, .slice none 0 0]) n 2 hn
  have b2 : Below w2.heap.size w2 (w2.alloc (.cells (zA (.agg #[.slice none 0 0, .slice none 0 0]) n 2) 78)) := (Below.refl _ w2).alloc (Nat.le_refl _) _
  generalize (w2.alloc (.cells (zA (.agg #[.slice none 0 0, .slice none 0 0]) n 2) 78)) = w3 at o2 b2 ⊢
  have b3 : Below w2.heap.size w2 w3.drew := b2.trans ⟨rfl, rfl, rfl, Nat.le_refl _, fun _ _ => rfl⟩
  refine ⟨⟨(b3.block _ (lt_of_block hps)).trans hps, hws.later b3, hput'.later b3, fun i hi => ?_, fun i j hi hj he => ?_, h.hbs⟩, hbS.trans (b3.mono hbw)⟩
  · by_cases e : i = k
    · rw [if_pos e]
      exact ((o2.congr fun j hj => made2 _ n j hj).lower hbw).later (drewB w3)
    · rw [if_neg e]
      exact (hrs i (by omega)).later b3
  · by_cases e : i = k
    · by_cases e2 : j = k
      · omega
      · rw [if_pos e, if_neg e2] at he
        have := hRl j (by omega)
        omega
    · by_cases e2 : j = k
      · rw [if_neg e, if_pos e2] at he
        have := hRl i (by omega)
        omega
      · rw [if_neg e, if_neg e2] at he
        exact h.ap i j (by omega) (by omega) he
set_option maxRecDepth 100000 in
set_option maxHeartbeats 4000000 in
theorem mb_new (n : Nat) (room : Int) (h1 : 1 ≤ n) (h2 : n ≤ 64) (h3 : 1 ≤ room) (h4 : room ≤ 1024) (W : World) :
    Calls Try.prog 13 #[.int .i64 (n : Int), .int .i64 room, .nilFunc] W fun e w' => ∃ hb wb bb cmp R, e = .returned (.tuple #[.pointer (some ⟨hb, 0, none⟩), .int .i64 0]) ∧ NP w' W.heap.size hb wb bb n room cmp R n ∧ Below W.heap.size W w' := by
  have d1 : decide ((n : Int) < 1) = false := by simp; omega
  have d2 : decide (64 < (n : Int)) = false := by simp; omega
  have d3 : decide (room < 1) = false := by simp; omega
  have d4 : decide (1024 < room) = false := by simp; omega
  obtain ⟨iW, hW1, hW2, hW3, hW4⟩ := binfo infoWK
  obtain ⟨iS, hS1, hS2, hS3, hS4⟩ := binfo infoBS
  obtain ⟨iX, hX1, hX2, hX3, hX4⟩ := binfo infoBX
  have en : ∀ w : World, (binOp .eql 32 Value.nilFunc Value.nilFunc).run Try.prog w = .ok (.bool true) w := fun w => rfl
  have rW : ∀ w : World, (Instr.makeSlice 68 (.int .i64 (n : Int)) (.int .i64 (n : Int))).run Try.prog w = .ok (.slice (some ⟨w.heap.size, 0, none⟩) n n) (w.alloc (.cells (zA (.agg #[.int .i64 0, .int .i64 0]) n 2) 81)) := run_make_eq _ _ iW _ 2 Try.underlying68 hW1 hW2 hW3 n (by rw [hW4]; omega) (by omega)
  have rS : ∀ w : World, (Instr.makeSlice 69 (.int .i64 (n : Int)) (.int .i64 (n : Int))).run Try.prog w = .ok (.slice (some ⟨w.heap.size, 0, none⟩) n n) (w.alloc (.cells (zA (.slice none 0 0) n 1) 72)) := run_make_eq _ _ iS _ 1 Try.underlying69 hS1 hS2 hS3 n (by rw [hS4]; omega) (by omega)
  have rX : ∀ w : World, (Instr.makeSlice 72 (.int .i64 (n : Int)) (.int .i64 (n : Int))).run Try.prog w = .ok (.slice (some ⟨w.heap.size, 0, none⟩) n n) (w.alloc (.cells (zA (.agg #[.slice none 0 0, .slice none 0 0]) n 2) 78)) := run_make_eq _ _ iX _ 2 Try.underlying72 hX1 hX2 hX3 n (by rw [hX4]; omega) (by omega)
  obtain ⟨B, hB⟩ : ∃ B, B = W.heap.size := ⟨_, rfl⟩
  have hBW : Below B W W := Below.refl _ _
  have HB : Hid (B = W.heap.size) := hB
  rw [← hB]
  clear hB
  go_enter Try.func13, Try.ntmps13
  go_upto_region 7 with fail
  go_region
  · have hN := new1 W B n room (.func (.func 29) #[] #[]) HB.out (by unfold maxLen; omega)
    have hBl := hN.2
    replace hN := hN.1
    generalize (World.drew _) = w1 at hN hBl ⊢
    generalize W.heap.size + 1 + 1 = hb at hN ⊢
    generalize W.heap.size + 1 = bb at hN ⊢
    generalize W.heap.size = wb at hN ⊢
    obtain ⟨c0, c1, c2, c3⟩ := hN.p.cells
    have HN : Hid (NP w1 B hb wb bb n room (.func (.func 29) #[] #[]) (fun _ => 0) 0) := hN
    clear hN
    go_wp2
    go_loopw [37] (fun x wr => ∃ (k : Nat) (R : Nat → Nat), x = .int .i64 (k : Int) ∧ k ≤ n ∧ NP wr B hb wb bb n room (.func (.func 29) #[] #[]) R k ∧ Below B W wr) (fun x _ => n - (intOf x).toNat)
    case atStart => exact ⟨0, fun _ => 0, rfl, Nat.zero_le _, HN.out, hBl⟩
    case round =>
      obtain ⟨k, R, rfl, hk, hr, hbr⟩ := hrel
      clear c0 c1 c2 c3 HN
      by_cases hlt : k < n
      · have dl : decide ((k : Int) < (n : Int)) = true := by simp; omega
        have hm := meas hlt
        have i0 : (0 : Int) ≤ (k : Int) := by omega
        have i1 : (k : Int) < (n : Int) := by omega
        obtain ⟨c0, c1, c2, c3⟩ := hr.p.cells
        have hlb := lt_of_block hr.p
        obtain ⟨cur, hcu, hcs, _⟩ := hr.b.block
        have y0 : wr.cell? ⟨bb, k, none⟩ = some (.slice none 0 0) := by have := hr.b.cell (j := k) (by omega); rw [if_neg (by omega)] at this; exact this
        have yf := frz hcu k
        have hbl := lt_of_block hcu
        have ek : IntKind.i64.wrap ((k : Int) + 1) = (k : Int) + 1 := by rw [IntKind.wrap_i64]; omega
        have HR : Hid (NP wr B hb wb bb n room (.func (.func 29) #[] #[]) R k) := hr
        clear hr hcu hcs
        go_wp2
        go_region
        go_wp2
        exact ⟨⟨k + 1, fun i => if i = k then wr.heap.size else R i, rfl, hlt, (HR.out.step hlt (by unfold maxLen; omega) hbr).1, (HR.out.step hlt (by unfold maxLen; omega) hbr).2⟩, hm⟩
      · have dl : decide ((k : Int) < (n : Int)) = false := by simp; omega
        obtain rfl : k = n := by omega
        go_wp2
        refine bodyPost_ret (v := .tuple #[.pointer (some ⟨hb, 0, none⟩), .int .i64 0]) (by simp [results, Try.results13, go_sem]) rfl ?_
        exact ⟨_, _, _, _, _, rfl, hr, hbr⟩
  · have hN := new2 W B n room (.func (.func 29) #[] #[]) HB.out (by unfold maxLen; omega)
    have hBl := hN.2
    replace hN := hN.1
    generalize (World.drew _) = w1 at hN hBl ⊢
    generalize W.heap.size + 1 + 1 = hb at hN ⊢
    generalize W.heap.size + 1 = wb at hN ⊢
    generalize W.heap.size = bb at hN ⊢
    obtain ⟨c0, c1, c2, c3⟩ := hN.p.cells
    have HN : Hid (NP w1 B hb wb bb n room (.func (.func 29) #[] #[]) (fun _ => 0) 0) := hN
    clear hN
    go_wp2
    go_loopw [37] (fun x wr => ∃ (k : Nat) (R : Nat → Nat), x = .int .i64 (k : Int) ∧ k ≤ n ∧ NP wr B hb wb bb n room (.func (.func 29) #[] #[]) R k ∧ Below B W wr) (fun x _ => n - (intOf x).toNat)
    case atStart => exact ⟨0, fun _ => 0, rfl, Nat.zero_le _, HN.out, hBl⟩
    case round =>
      obtain ⟨k, R, rfl, hk, hr, hbr⟩ := hrel
      clear c0 c1 c2 c3 HN
      by_cases hlt : k < n
      · have dl : decide ((k : Int) < (n : Int)) = true := by simp; omega
        have hm := meas hlt
        have i0 : (0 : Int) ≤ (k : Int) := by omega
        have i1 : (k : Int) < (n : Int) := by omega
        obtain ⟨c0, c1, c2, c3⟩ := hr.p.cells
        have hlb := lt_of_block hr.p
        obtain ⟨cur, hcu, hcs, _⟩ := hr.b.block
        have y0 : wr.cell? ⟨bb, k, none⟩ = some (.slice none 0 0) := by have := hr.b.cell (j := k) (by omega); rw [if_neg (by omega)] at this; exact this
        have yf := frz hcu k
        have hbl := lt_of_block hcu
        have ek : IntKind.i64.wrap ((k : Int) + 1) = (k : Int) + 1 := by rw [IntKind.wrap_i64]; omega
        have HR : Hid (NP wr B hb wb bb n room (.func (.func 29) #[] #[]) R k) := hr
        clear hr hcu hcs
        go_wp2
        go_region
        go_wp2
        exact ⟨⟨k + 1, fun i => if i = k then wr.heap.size else R i, rfl, hlt, (HR.out.step hlt (by unfold maxLen; omega) hbr).1, (HR.out.step hlt (by unfold maxLen; omega) hbr).2⟩, hm⟩
      · have dl : decide ((k : Int) < (n : Int)) = false := by simp; omega
        obtain rfl : k = n := by omega
        go_wp2
        refine bodyPost_ret (v := .tuple #[.pointer (some ⟨hb, 0, none⟩), .int .i64 0]) (by simp [results, Try.results13, go_sem]) rfl ?_
        exact ⟨_, _, _, _, _, rfl, hr, hbr⟩
end Go.Proofs.Ytkfjcbnhohipgaa
