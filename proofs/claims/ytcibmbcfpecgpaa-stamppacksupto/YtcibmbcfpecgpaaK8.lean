import Derived.Test.YtcibmbcfpecgpaaK7
namespace Go.Proofs.Ytcibmbcfpecgpaa
open Go.ChangeShapes Go.WideShapes Go.ChangeAt Go.RowKit
set_option linter.unusedVariables false

theorem bcs_at {l : List Nat} {i : Nat} (h : i < l.length) : (bcs l)[i]? = some (.int .u8 ((l[i] : Nat) : Int)) := by simp [bcs, h]
theorem rowB {W : World} {base : Nat} {v : Value} {l : List Nat} (h : W.ownsRow base 5 1 v l.length (bcs l)) : ∃ p c, v = .slice p l.length c ∧ ∀ i (hi : i < l.length), ∃ g, p = some ⟨g, 0, none⟩ ∧ g < W.heap.size ∧ W.cell? ⟨g, i, none⟩ = some (.int .u8 ((l[i] : Nat) : Int)) := by
  rcases h.2 with ⟨h1, h2⟩ | ⟨g, c, cur, h1, hb, hg, _⟩
  · exact ⟨none, 0, by rw [h1, h2], fun i hi => by omega⟩
  · refine ⟨_, _, h1, fun i hi => ⟨g, rfl, (Array.getElem?_eq_some_iff.1 hg).1, ?_⟩⟩
    subst h1
    have := h.cells (g := g) rfl i _ (bcs_at hi)
    rw [addr_add0, Nat.zero_add] at this
    exact this
set_option maxRecDepth 100000 in
set_option maxHeartbeats 2000000 in
theorem sameOwn (l : List Nat) (v1 v2 : Value) (b1 b2 : Nat) (hL : l.length ≤ 1000000000000000) (w : World) (h1 : w.ownsRow b1 5 1 v1 l.length (bcs l)) (h2 : w.ownsRow b2 5 1 v2 l.length (bcs l)) :
    Calls Try.prog 10 #[v1, v2] w fun e w' => e = .returned (.bool true) ∧ Below w.heap.size w w' := by
  obtain ⟨p1, c1, rfl, k1⟩ := rowB h1
  obtain ⟨p2, c2, rfl, k2⟩ := rowB h2
  clear h1 h2
  have HH1 : Hid (∀ i (hi : i < l.length), ∃ g, p1 = some ⟨g, 0, none⟩ ∧ g < w.heap.size ∧ w.cell? ⟨g, i, none⟩ = some (.int .u8 ((l[i] : Nat) : Int))) := k1
  have HH2 : Hid (∀ i (hi : i < l.length), ∃ g, p2 = some ⟨g, 0, none⟩ ∧ g < w.heap.size ∧ w.cell? ⟨g, i, none⟩ = some (.int .u8 ((l[i] : Nat) : Int))) := k2
  clear k1 k2
  obtain ⟨n, hn⟩ : ∃ n, l.length = n := ⟨_, rfl⟩
  rw [hn] at hL
  have HN : Hid (l.length = n) := hn
  rw [hn]
  clear hn
  go_enter Try.func10, Try.ntmps10
  go_wp2
  go_loopw [13] (fun v wr => ∃ i : Nat, v = .int .i64 i ∧ i ≤ n ∧ Below w.heap.size w wr) (fun v _ => n - (intOf v).toNat)
  case atStart => exact ⟨0, rfl, Nat.zero_le _, Below.refl _ _⟩
  case round =>
    obtain ⟨i, rfl, hi, hbel⟩ := hrel
    by_cases hlt : i < n
    · have dl : decide ((i : Int) < n) = true := decide_eq_true (by omega)
      have hm := measB hlt
      have hlt' : i < l.length := by rw [HN.out]; exact hlt
      obtain ⟨g1, rfl, hg1, x0⟩ := HH1.out i hlt'
      obtain ⟨g2, rfl, hg2, y0⟩ := HH2.out i hlt'
      have cb : ∀ {g o : Nat}, g < w.heap.size → wr.cell? ⟨g, o, none⟩ = w.cell? ⟨g, o, none⟩ := fun {g o} h => World.cell?_of_block (a := ⟨g, o, none⟩) (hbel.block g h)
      rw [← cb hg1] at x0
      rw [← cb hg2] at y0
      clear HH1 HH2 cb
      generalize l[i] = e0 at *
      clear hlt'
      go_wp2
      go_quiet (fail)
      go_wp2
      exact ⟨⟨i + 1, rfl, hlt, hbel.trans ⟨rfl, rfl, rfl, Nat.le_refl _, fun _ _ => rfl⟩⟩, hm⟩
    · have dl : decide ((i : Int) < n) = false := decide_eq_false (by omega)
      obtain rfl : i = n := by omega
      clear HH1 HH2
      go_wp2
      go_ret
      exact ⟨rfl, hbel⟩
theorem Own.lower {W : World} {b b' : Nat} {t : TypeId} {s m : Nat} {v : Value} {F : Nat → Value} (h : Own W b t s v m F) (hb : b' ≤ b) : Own W b' t s v m F := by
  refine ⟨h.1, ?_⟩
  rcases h.2 with h | ⟨g, cap, cur, h1, h2, h3⟩
  · exact .inl h
  · exact .inr ⟨g, cap, cur, h1, Nat.le_trans hb h2, h3⟩
/-- one list more, made behind the others -/
theorem Lists.snoc {W W' : World} {base B : Nat} {t : TypeId} {s n : Nat} {V : Nat → Value} {M : Nat → Nat} {F : Nat → Nat → Value} (h : Lists W base t s n V M F) (hb : Below W.heap.size W W') (hbase : base ≤ W.heap.size) {v : Value} {m : Nat} {f : Nat → Value} (hB : W.heap.size ≤ B) (ho : Own W' B t s v m f) : Lists W' base t s (n + 1) (ext V n v) (ext M n m) (ext F n f) := by
  have key : ∀ j, j < n → ∀ g, (V j).ownBlock = some g → v.ownBlock = some g → False := fun j hj g e1 e2 => by
    have := ((h.own j hj).kind e1).2.1
    have := (ho.kind e2).1
    omega
  have nn : ∀ {a b : Option Nat}, (∀ g, a = some g → b = some g → False) → a = none ∨ a ≠ b := fun {a b} h => by
    cases a with
    | none => exact .inl rfl
    | some g => exact .inr fun e => h g rfl e.symm
  refine ⟨fun j hj => ?_, fun i j hi hj hij => ?_⟩
  · by_cases e : j = n
    · subst e
      rw [ext_at, ext_at, ext_at]
      exact ho.lower (Nat.le_trans hbase hB)
    · rw [ext_ne _ _ _ e, ext_ne _ _ _ e, ext_ne _ _ _ e]
      exact (h.own j (by omega)).more hb
  · by_cases e1 : i = n
    · subst e1
      rw [ext_at, ext_ne _ _ _ (fun e => hij e.symm)]
      exact nn fun g e1 e2 => key j (by omega) g e2 e1
    · rw [ext_ne _ _ _ e1]
      by_cases e2 : j = n
      · subst e2
        rw [ext_at]
        exact nn fun g e1 e2 => key i (by omega) g e1 e2
      · rw [ext_ne _ _ _ e2]
        exact h.apart i j (by omega) (by omega) hij
theorem Lists.later {W W' : World} {base : Nat} {t : TypeId} {s n : Nat} {V : Nat → Value} {M : Nat → Nat} {F : Nat → Nat → Value} (h : Lists W base t s n V M F) (hb : Below W.heap.size W W') : Lists W' base t s n V M F :=
  ⟨fun j hj => (h.own j hj).more hb, h.apart⟩
theorem Lists.zero (W : World) (base : Nat) (t : TypeId) (s : Nat) (V : Nat → Value) (M : Nat → Nat) (F : Nat → Nat → Value) : Lists W base t s 0 V M F := ⟨fun j hj => by omega, fun j k hj => by omega⟩
def rowF (l : List Nat) : Nat → Value := fun j => (bcs l).getD j undef
theorem own_row {W : World} {base : Nat} {v : Value} {l : List Nat} (h : W.ownsRow base 5 1 v l.length (bcs l)) : Own W base 5 1 v l.length (rowF l) := own_of_row h
theorem row_own {W : World} {base : Nat} {v : Value} {l : List Nat} (h : Own W base 5 1 v l.length (rowF l)) : W.ownsRow base 5 1 v l.length (bcs l) := by
  have h2 : W.ownsRow base 5 1 v l.length (cellsF (rowF l) (l.length * 1)) := h
  have e : cellsF (rowF l) (l.length * 1) = bcs l := by
    rw [Nat.mul_one, ← bcs_len l]
    exact (cellsF_of (bcs l)).symm
  rw [e] at h2
  exact h2
/-- an event in a box -/
def BoxAt (W : World) (b : Nat) (e : Ev) : Prop := W.cell? ⟨b, 0, none⟩ = some (.int .u64 e.t) ∧ W.cell? ⟨b, 1, none⟩ = some (.int .i64 e.s) ∧ W.cell? ⟨b, 2, none⟩ = some (.int .u64 e.q) ∧ W.cell? ⟨b, 3, none⟩ = some (.int .i64 e.d) ∧ W.cell? ⟨b, 4, none⟩ = some (.int .i64 e.k) ∧ W.cell? ⟨b, 5, none⟩ = some (.int .i64 e.v) ∧ b < W.heap.size
theorem BoxAt.below {w W : World} {b : Nat} {e : Ev} (h : BoxAt w b e) (hb : Below w.heap.size w W) : BoxAt W b e := by
  obtain ⟨h0, h1, h2, h3, h4, h5, h6⟩ := h
  have f : ∀ o, W.cell? ⟨b, o, none⟩ = w.cell? ⟨b, o, none⟩ := fun o => World.cell?_of_block (hb.block b h6)
  unfold BoxAt
  simp only [f]
  exact ⟨h0, h1, h2, h3, h4, h5, Nat.lt_of_lt_of_le h6 hb.size⟩
theorem box_new (w : World) (e : Ev) : BoxAt (w.alloc (.cells #[.int .u64 e.t, .int .i64 e.s, .int .u64 e.q, .int .i64 e.d, .int .i64 e.k, .int .i64 e.v] 26)) w.heap.size e := by
  unfold BoxAt World.cell?
  rw [World.alloc_heap_new, World.size_alloc]
  exact ⟨rfl, rfl, rfl, rfl, rfl, rfl, Nat.lt_succ_self _⟩
theorem evs_one (w : World) (e : Ev) (he : e.In) : EvsAt (w.alloc (.cells #[.int .u64 e.t, .int .i64 e.s, .int .u64 e.q, .int .i64 e.d, .int .i64 e.k, .int .i64 e.v] 26)) (some ⟨w.heap.size, 0, none⟩) [e] := by
  refine ⟨.inr ⟨_, 0, rfl, by rw [World.size_alloc]; exact Nat.lt_succ_self _, fun i hi => ?_⟩, fun x hx => ?_⟩
  · have h0 : i = 0 := by simpa using hi
    subst h0
    have hb := box_new w e
    exact ⟨hb.1, hb.2.1, hb.2.2.1, hb.2.2.2.1, hb.2.2.2.2.1, hb.2.2.2.2.2.1⟩
  · obtain rfl : x = e := by simpa using hx
    exact he
theorem chain' {a b c : World} (h1 : Below a.heap.size a b) (h2 : Below b.heap.size b c) : Below a.heap.size a c := h1.trans (h2.mono h1.size)
def data5 : Ev := ⟨0, 0, 0, 0, 0, 5⟩
theorem data5_in : data5.In := ⟨by decide, by decide, by decide, by decide, by decide, by decide⟩
theorem boxS {w0 W : World} {b : Nat} {e : Ev} (h : BoxAt w0 b e) (hb : Below w0.heap.size w0 W) : W.cell? ⟨b, 0, none⟩ = some (.int .u64 e.t) ∧ W.cell? ⟨b, 1, none⟩ = some (.int .i64 e.s) ∧ W.cell? ⟨b, 2, none⟩ = some (.int .u64 e.q) ∧ W.cell? ⟨b, 3, none⟩ = some (.int .i64 e.d) ∧ W.cell? ⟨b, 4, none⟩ = some (.int .i64 e.k) ∧ W.cell? ⟨b, 5, none⟩ = some (.int .i64 e.v) ∧ Below w0.heap.size w0 W := by
  obtain ⟨h0, h1, h2, h3, h4, h5, h6⟩ := h.below hb
  exact ⟨h0, h1, h2, h3, h4, h5, hb⟩
theorem boxB {w0 W : World} {b : Nat} {e : Ev} (h : W.cell? ⟨b, 0, none⟩ = some (.int .u64 e.t) ∧ W.cell? ⟨b, 1, none⟩ = some (.int .i64 e.s) ∧ W.cell? ⟨b, 2, none⟩ = some (.int .u64 e.q) ∧ W.cell? ⟨b, 3, none⟩ = some (.int .i64 e.d) ∧ W.cell? ⟨b, 4, none⟩ = some (.int .i64 e.k) ∧ W.cell? ⟨b, 5, none⟩ = some (.int .i64 e.v) ∧ Below w0.heap.size w0 W) : Below w0.heap.size w0 W := h.2.2.2.2.2.2
theorem packE (e : Ev) (he : e.In) (W : World) : Calls Try.prog 9 #[.agg #[.int .u64 e.t, .int .i64 e.s, .int .u64 e.q, .int .i64 e.d, .int .i64 e.k, .int .i64 e.v]] W fun r w' => ∃ p c, r = .returned (.slice p e.bytes.length c) ∧ Own w' W.heap.size 5 1 (.slice p e.bytes.length c) e.bytes.length (rowF e.bytes) ∧ Below W.heap.size W w' := by
  refine (pack_any W.heap.size e.t e.q e.s e.d e.k e.v he.t he.q he.s he.d he.k he.v W (Nat.le_refl _)).mono ?_
  rintro r w' ⟨v', rfl, h1, h2, _⟩
  obtain ⟨p, c, rfl, _⟩ := rowB (l := e.bytes) h1
  exact ⟨p, c, rfl, own_row (l := e.bytes) h1, h2⟩
def allB (es : List Ev) : List Nat := enc es.length ++ evsB es
theorem packAllE (es : List Ev) (sl : Option Addr) (n cap : Nat) (hn : es.length = n) (W : World) (h : EvsAt W sl es) (hL : es.length ≤ 1000000000000) : Calls Try.prog 8 #[.slice sl n cap] W fun r w' => ∃ p c, r = .returned (.slice p (allB es).length c) ∧ Own w' W.heap.size 5 1 (.slice p (allB es).length c) (allB es).length (rowF (allB es)) ∧ Below W.heap.size W w' := by
  subst hn
  refine (packAll_any es sl cap W h hL).mono ?_
  rintro r w' ⟨v', rfl, h1, h2⟩
  obtain ⟨p, c, rfl, _⟩ := rowB (l := allB es) h1
  exact ⟨p, c, rfl, own_row (l := allB es) h1, h2⟩
theorem rPackE (e : Ev) (he : e.In) (W : World) : Calls Try.prog 7 #[.agg #[.int .u64 e.t, .int .i64 e.s, .int .u64 e.q, .int .i64 e.d, .int .i64 e.k, .int .i64 e.v]] W fun r w' => ∃ p c, r = .returned (.slice p e.bytes.length c) ∧ Own w' W.heap.size 5 1 (.slice p e.bytes.length c) e.bytes.length (rowF e.bytes) ∧ Below W.heap.size W w' := by
  refine (rPack_any e.t e.q e.s e.d e.k e.v he.t he.q he.s he.d he.k he.v W).mono ?_
  rintro r w' ⟨g, c, rfl, h1, h2⟩
  exact ⟨_, c, rfl, own_row (l := e.bytes) h1, h2⟩
theorem rPackAllE (es : List Ev) (sl : Option Addr) (n cap : Nat) (hn : es.length = n) (W : World) (h : EvsAt W sl es) (hL : es.length ≤ 1000000000000) : Calls Try.prog 6 #[.slice sl n cap] W fun r w' => ∃ p c, r = .returned (.slice p (allB es).length c) ∧ Own w' W.heap.size 5 1 (.slice p (allB es).length c) (allB es).length (rowF (allB es)) ∧ Below W.heap.size W w' := by
  subst hn
  refine (rPackAll_any es sl cap W h hL).mono ?_
  rintro r w' ⟨v', rfl, h1, h2⟩
  obtain ⟨p, c, rfl, _⟩ := rowB (l := allB es) h1
  exact ⟨p, c, rfl, own_row (l := allB es) h1, h2⟩
theorem sameE (l : List Nat) (n : Nat) (hn : l.length = n) (v1 v2 : Value) (b1 b2 : Nat) (hL : n ≤ 1000000000000000) (w : World) (h1 : Own w b1 5 1 v1 n (rowF l)) (h2 : Own w b2 5 1 v2 n (rowF l)) :
    Calls Try.prog 10 #[v1, v2] w fun e w' => e = .returned (.bool true) ∧ Below w.heap.size w w' := by
  subst hn
  exact sameOwn l v1 v2 b1 b2 hL w (row_own h1) (row_own h2)
end Go.Proofs.Ytcibmbcfpecgpaa
