import Derived.Test.YtfgkmijaimfkjaaQ0
import Derived.Deep.RegionLaw
import Derived.Deep.Cut
import Derived.Handy
namespace Go.Proofs.Ytfgkmijaimfkjaa
open Go.ChangeShapes Go.WideShapes Go.ChangeAt Go.RowKit
set_option linter.unusedVariables false
set_option linter.unusedSimpArgs false

theorem binfo {i? : Option TypeInfo} {z : Value} {s b : Nat} (h : i?.map (fun i => (i.zero, i.size, i.bytes)) = some (some z, s, b)) : ∃ i, i? = some i ∧ i.zero = some z ∧ i.size = s ∧ i.bytes = b := by
  cases i? with
  | none => cases h
  | some i =>
    simp at h
    exact ⟨i, rfl, h.1, h.2.1, h.2.2⟩
theorem made1 (z : Value) (hz : z.cells = #[z]) (n j : Nat) (hj : j < n * 1) : (madeCells z.cells (n * 1)).toList.getD j undef = z := by
  rw [Nat.mul_one] at hj
  unfold madeCells
  rw [hz]
  simp [hj, Nat.mod_one]
theorem made2 (z : Value) (n j : Nat) (hj : j < n * 2) : (madeCells (Value.agg #[z, z]).cells (n * 2)).toList.getD j undef = z := by
  have h6 : (Value.agg #[z, z]).cells.size = 2 := rfl
  have hm : j % 2 = 0 ∨ j % 2 = 1 := by omega
  unfold madeCells
  simp [hj, h6]
  rcases hm with h | h <;> rw [h] <;> rfl
/-- make of n elements, as an equation -/
theorem run_make_eq {P : Program} (t e : TypeId) (i : TypeInfo) (z : Value) (size : Nat) (ht : P.underlying t = some (.slice e)) (hi : P.info? e = some i) (hz : i.zero = some z) (hsize : i.size = size)
    (n : Nat) (hbytes : i.bytes * n ≤ 281474976710656) (h63 : n ≤ 9223372036854775807) (w : World) :
    (Instr.makeSlice t (.int .i64 (n : Int)) (.int .i64 (n : Int))).run P w = .ok (.slice (some ⟨w.heap.size, 0, none⟩) n n) (w.alloc (.cells (madeCells z.cells (n * size)) e)) := by
  have hb' : (i.bytes : Int) * (n : Int) ≤ 281474976710656 := by
    have h : ((i.bytes * n : Nat) : Int) ≤ 281474976710656 := by omega
    rwa [Int.natCast_mul] at h
  have hr := run_make (P := P) w t e i z ht hi hz .i64 .i64 n n (by omega) (Int.le_refl _) hb' (by omega)
  simp only [Int.toNat_natCast, hsize] at hr
  exact hr
def zA (z : Value) (n s : Nat) : Array Value := madeCells z.cells (n * s)
/-- a new row -/
theorem own_new (w : World) (e : TypeId) (z : Value) (n s : Nat) (hn : n ≤ maxLen) : Own (w.alloc (.cells (zA z n s) e)) w.heap.size e s (.slice (some ⟨w.heap.size, 0, none⟩) n n) n (fun j => (madeCells z.cells (n * s)).toList.getD j undef) := own_of_row (World.ownsRow_lit w _ n (Nat.le_refl _) hn (size_madeCells _ _))
theorem step_app9 {P : Program} {ops : Array Oper} {o : Oper} {a : Act} {w : World} {K : Act → World → Prop} {Q : Exit → Act → World → Prop} {E : Prop}
    (hg : o.guard = none) (s x : Operand) (t : TypeId) (hop : o.op = Op.call { callee := Callee.builtin Builtin.append, args := #[s, x], argTypes := #[t, t] })
    (base : Nat) (e : TypeId) (i : TypeInfo) (z : Value) (size bytes : Nat) (ht : P.underlying t = some (.slice e)) (hi : P.info? e = some i) (hz : i.zero = some z)
    (hsize : i.size = size) (hby : i.bytes = bytes) (hzs : z.cells.size = size) (hsz : 0 < size)
    (v : Value) (n : Nat) (xs : List Value) (hs : a.eval s = v) (hown : w.ownsRow base e size v n xs)
    (ad : Addr) (m c : Nat) (news : List Value) (hx : a.eval x = .slice (some ad) m c) (hl : news.length = m * size) (hnews : ∀ j u, news[j]? = some u → w.cell? (ad.add j) = some u) (h1 : ∀ u ∈ news, u.oneCell' = true)
    (h63 : n + m ≤ maxLen) (hbytes : (n + m) * bytes ≤ 140737488355328) (hbase : base ≤ w.heap.size)
    (hK : ∀ v' w', w'.ownsRow base e size v' (n + m) (xs ++ news) → w.grownBy w' v.ownBlock → (v'.ownBlock = v.ownBlock ∨ v'.ownBlock = some w.heap.size) → K (a.put o.dst v') w') :
    if Region.wanted o (yielded ops a.tmps) = true then Oper.wp P o a w K Q else E := by
  have hw : Region.wanted o (yielded ops a.tmps) = true := by simp [Region.wanted, hg]
  rw [if_pos hw]
  obtain ⟨v', w', hr, h2, h3, h4, h5⟩ := run_append_own_at (P := P) w base t o.type e i z size bytes ht hi hz hsize hby hzs hsz v n xs hown ad m c news hl hnews h1 h63 hbytes hbase
  unfold Oper.wp execOp
  simp only [hop, resolve, invoke, builtin, Sem.run_bind, Sem.run_pure, Result.andThen_ok, List.map_toArray, List.map_cons, List.map_nil, hs, hx, hr]
  exact hK _ _ h2 h3 h5
theorem cells_new9 (w : World) (cs : List Value) (t : TypeId) : ∀ j u, cs[j]? = some u → (w.alloc (.cells cs.toArray t)).cell? ((⟨w.heap.size, 0, none⟩ : Addr).add j) = some u := by
  intro j u hj
  rw [addr_add0, Nat.zero_add]
  unfold World.cell?
  rw [World.alloc_heap_new]
  simpa using hj
theorem drewB (w : World) : Below w.heap.size w w.drew := ⟨rfl, rfl, rfl, Nat.le_refl _, fun _ _ => rfl⟩
theorem typ_ne {W : World} {a b : Nat} {c1 c2 : Array Value} {t1 t2 : TypeId} {f1 f2 : Nat × Nat} (h1 : W.heap[a]? = some (.cells c1 t1 f1)) (h2 : W.heap[b]? = some (.cells c2 t2 f2)) (h : t1 ≠ t2) : a ≠ b := by
  rintro rfl
  rw [h1] at h2
  injection h2 with h2
  injection h2 with _ h2
  exact h h2
/-- all blocks but these stay -/
structure Ch (S : Nat → Prop) (W W' : World) : Prop where
  os : W'.os = W.os
  tape : W'.tape = W.tape
  output : W'.output = W.output
  size : W.heap.size ≤ W'.heap.size
  block : ∀ k, k < W.heap.size → ¬ S k → W'.heap[k]? = W.heap[k]?
theorem Ch.refl (S : Nat → Prop) (W : World) : Ch S W W := ⟨rfl, rfl, rfl, Nat.le_refl _, fun _ _ _ => rfl⟩
theorem Ch.trans {S : Nat → Prop} {a b c : World} (h : Ch S a b) (h' : Ch S b c) : Ch S a c := ⟨h'.os.trans h.os, h'.tape.trans h.tape, h'.output.trans h.output, Nat.le_trans h.size h'.size, fun k hk hs => (h'.block k (Nat.lt_of_lt_of_le hk h.size) hs).trans (h.block k hk hs)⟩
theorem Ch.mono {S S' : Nat → Prop} {a b : World} (h : Ch S a b) (hs : ∀ k, S k → S' k) : Ch S' a b := ⟨h.os, h.tape, h.output, h.size, fun k hk h' => h.block k hk fun e => h' (hs k e)⟩
theorem Ch.set (S : Nat → Prop) (W : World) (b k : Nat) (v : Value) (h : S b) : Ch S W (W.setCell ⟨b, k, none⟩ v) := ⟨rfl, rfl, rfl, by simp [World.setCell], fun j _ hs => Below.heap_setCell _ _ _ _ fun e => hs (by show S j; rw [show j = b from e]; exact h)⟩
theorem Ch.below {S : Nat → Prop} {W W' : World} (h : Below W.heap.size W W') : Ch S W W' := ⟨h.os, h.tape, h.output, h.size, fun k hk _ => h.block k hk⟩
theorem Ch.drew (S : Nat → Prop) (W : World) (n : Nat) : Ch S W (W.drewN n) := Ch.below (below_drewNq _ _ _)
theorem Ch.toBelow {S : Nat → Prop} {W W' : World} {B : Nat} (h : Ch S W W') (hB : B ≤ W.heap.size) (hs : ∀ k, S k → B ≤ k) : Below B W W' := ⟨h.os, h.tape, h.output, h.size, fun k hk => h.block k (by omega) fun e => by have := hs k e; omega⟩
theorem own_frozen {W : World} {base : Nat} {t : TypeId} {s b m c : Nat} {F : Nat → Value} (h : Own W base t s (.slice (some ⟨b, 0, none⟩) m c) m F) (k : Nat) : W.frozen? ⟨b, k, none⟩ = false := by
  obtain ⟨cur, h1, _⟩ := Own.block h
  simp [World.frozen?, h1]
/-- one cell of a row written -/
theorem own_put {W : World} {base : Nat} {t : TypeId} {s b m c : Nat} {F G : Nat → Value} (h : Own W base t s (.slice (some ⟨b, 0, none⟩) m c) m F) (k : Nat) (v : Value) (hv : G k = v) (he : ∀ j, j < m * s → j ≠ k → F j = G j) : Own (W.setCell ⟨b, k, none⟩ v) base t s (.slice (some ⟨b, 0, none⟩) m c) m G := by
  refine Own.congr (Own.put h k [v]) fun j hj => ?_
  unfold putF
  by_cases e : j = k
  · subst e
    rw [if_pos (by simp)]
    simp [hv]
  · rw [if_neg (by simp; omega)]
    exact he j hj e
theorem own_other {W : World} {base : Nat} {t : TypeId} {s b m c : Nat} {F : Nat → Value} (h : Own W base t s (.slice (some ⟨b, 0, none⟩) m c) m F) (b' k : Nat) (v : Value) (hne : b ≠ b') : Own (W.setCell ⟨b', k, none⟩ v) base t s (.slice (some ⟨b, 0, none⟩) m c) m F := h.far fun k e => by cases e; exact Below.heap_setCell _ _ _ _ hne
end Go.Proofs.Ytfgkmijaimfkjaa
