import Derived.Test.YtmekcccmnkgodaaGreatDoorFGP2
import Derived.Test.YtmekcccmnkgodaaGreatDoorFSP5
import Derived.Test.YtmekcccmnkgodaaGreatDoorFLF1
import Derived.Deep.RegionLaw
import Derived.Deep.Cut
import Derived.Handy
namespace Go.Proofs.YtmekcccmnkgodaaGreatDoor
open Go.ChangeShapes Go.WideShapes Go.ChangeAt Go.RowKit
set_option linter.unusedVariables false
set_option linter.unusedSimpArgs false

/-! ### the parser as it lies -/
theorem mhid {p : Prop} (h : p) : Hid p := h
theorem drewG (w : World) : Below w.heap.size w w.drew := ⟨rfl, rfl, rfl, Nat.le_refl _, fun _ _ => rfl⟩
/-- what a method may have changed: below base nothing; above it only the parser and rows of nodes -/
structure KG (base : Nat) (W W' : World) : Prop where
  b : Below base W W'
  oth : ∀ (k : Nat) (cs : Array Value) (ty : TypeId) (fz : Nat × Nat), W.heap[k]? = some (.cells cs ty fz) → ty ≠ 79 → ty ≠ 44 → W'.heap[k]? = W.heap[k]?
theorem KG.refl (base : Nat) (W : World) : KG base W W := ⟨Below.refl _ _, fun _ _ _ _ _ _ _ => rfl⟩
theorem KG.trans {base : Nat} {a b c : World} (h : KG base a b) (k : KG base b c) : KG base a c :=
  ⟨h.b.trans k.b, fun i cs ty fz hi h1 h2 => by
    have e := h.oth i cs ty fz hi h1 h2
    exact (k.oth i cs ty fz (e.trans hi) h1 h2).trans e⟩
theorem KG.of_below {base : Nat} {W W' : World} (h : Below W.heap.size W W') (hb : base ≤ W.heap.size) : KG base W W' :=
  ⟨h.mono hb, fun k cs ty fz hk _ _ => h.block k (Array.getElem?_eq_some_iff.1 hk).1⟩
theorem KG.size {base : Nat} {W W' : World} (h : KG base W W') : W.heap.size ≤ W'.heap.size := h.b.size
theorem KG.ownI {base B s m : Nat} {W W' : World} {t : TypeId} {v : Value} {F : Nat → Value} (h : KG base W W') (ho : Own W B t s v m F) (h1 : t ≠ 79) (h2 : t ≠ 44) : Own W' B t s v m F := by
  refine ⟨ho.1, ?_⟩
  rcases ho.2 with h9 | ⟨g, cap, cur, h3, h4, h5, h6⟩
  · exact .inl h9
  · exact .inr ⟨g, cap, cur, h3, h4, (h.oth g _ _ _ h5 h1 h2).trans h5, h6⟩
theorem KG.box {base b : Nat} {W W' : World} {cs : Array Value} {fz : Nat × Nat} {t : TypeId} (h : KG base W W') (hb : W.heap[b]? = some (.cells cs t fz)) (h1 : t ≠ 79) (h2 : t ≠ 44) : W'.heap[b]? = some (.cells cs t fz) := (h.oth b cs t fz hb h1 h2).trans hb
/-- a node's cells; a list of places -/
def ndC (d : Nd) (v : Value) : List Value := [.int .i64 d.kind, .string ⟨d.name.toArray⟩, .int .u64 (d.num : Int), .int .i64 d.op, v, .int .i64 d.line, .int .i64 d.col]
def nT0 : Nd := ⟨0, [], 0, 0, [], 0, 0⟩
def NF (md : List Nd) (ks : List Value) : Nat → Value := fun j => (ndC (md.getD (j / 7) nT0) (ks.getD (j / 7) undef)).getD (j % 7) undef
def kF (l : List Nat) : Nat → Value := fun i => .int .i64 ((l.getD i 0 : Nat) : Int)
def Fresh (ks : List Value) (v : Value) : Prop := ∀ (i : Nat) (u : Value) (b : Nat), ks[i]? = some u → u.ownBlock = some b → v.ownBlock = some b → False
structure PW (W : World) (base pb : Nat) (lp : Option Addr) (lc n : Nat) (X : Nat → Tk) (s : St) (ks : List Value) : Prop where
  blk : ∃ mv, W.heap[pb]? = some (.cells #[.slice lp n lc, .int .i64 (s.nx : Int), .int .i64 (s.dp : Int), mv] 79 (0, 0)) ∧ Own W base 44 7 mv s.md.length (NF s.md ks)
  tx : n = 0 ∨ ∃ b o, lp = some ⟨b, o, none⟩ ∧ b < base ∧ ∀ i r, i < n → r < 5 → W.cell? ⟨b, o + i * 5 + r, none⟩ = some ((tkCells (X i)).getD r undef)
  len : ks.length = s.md.length
  kid : ∀ (i : Nat) (d : Nd) (v : Value), s.md[i]? = some d → ks[i]? = some v → Own W base 3 1 v d.kids.length (kF d.kids)
  apt : ∀ (i j : Nat) (v u : Value) (b : Nat), i < j → ks[i]? = some v → ks[j]? = some u → v.ownBlock = some b → u.ownBlock = some b → False
  pl : base ≤ pb
  nx : s.nx ≤ n
  dp : s.dp ≤ 48
  sz : base ≤ W.heap.size
/-- the nodes' lists of what a call has made are new -/
structure Gw (W : World) (ks ks' : List Value) : Prop where
  pre : ∃ t, ks' = ks ++ t
  new : ∀ (i : Nat) (v : Value) (b : Nat), ks.length ≤ i → ks'[i]? = some v → v.ownBlock = some b → W.heap.size ≤ b
theorem Gw.refl (W : World) (ks : List Value) : Gw W ks ks := ⟨⟨[], by simp⟩, fun i v b hi h => by rw [List.getElem?_eq_none hi] at h; cases h⟩
theorem Gw.trans {W W' : World} {a b c : List Value} (h : Gw W a b) (k : Gw W' b c) (hs : W.heap.size ≤ W'.heap.size) : Gw W a c := by
  obtain ⟨t, rfl⟩ := h.pre
  obtain ⟨u, rfl⟩ := k.pre
  refine ⟨⟨t ++ u, by simp⟩, fun i v b hi hv hb => ?_⟩
  by_cases hi2 : (a ++ t).length ≤ i
  · exact Nat.le_trans hs (k.new i v b hi2 hv hb)
  · rw [List.getElem?_append_left (by omega)] at hv
    exact h.new i v b hi hv hb
theorem Fresh.step {W : World} {ks ks' : List Value} {v : Value} (h : Fresh ks v) (hg : Gw W ks ks') (hv : ∀ b, v.ownBlock = some b → b < W.heap.size) : Fresh ks' v := by
  intro i u b hu hb hvb
  by_cases hi : ks.length ≤ i
  · have h1 := hg.new i u b hi hu hb
    have h2 := hv b hvb
    omega
  · obtain ⟨t, rfl⟩ := hg.pre
    rw [List.getElem?_append_left (by omega)] at hu
    exact h i u b hu hb hvb
theorem own_ltG {W : World} {B s m : Nat} {t : TypeId} {v : Value} {F : Nat → Value} (h : Own W B t s v m F) {b : Nat} (hb : v.ownBlock = some b) : b < W.heap.size ∧ B ≤ b := by
  rcases h.form with ⟨h1, _⟩ | ⟨g, c, h1, h2, h3⟩
  · rw [h1] at hb; cases hb
  · rw [h1] at hb
    have : g = b := by simpa [Value.ownBlock] using hb
    subst this
    exact ⟨h3, h2⟩
theorem PW.old {W : World} {base pb : Nat} {lp : Option Addr} {lc n : Nat} {X : Nat → Tk} {s : St} {ks : List Value} (h : PW W base pb lp lc n X s ks) : ∀ (i : Nat) (v : Value) (b : Nat), ks[i]? = some v → v.ownBlock = some b → b < W.heap.size := fun i v b hv hb => by
  have hi : i < ks.length := (List.getElem?_eq_some_iff.1 hv).1
  rw [h.len] at hi
  exact (own_ltG (h.kid i _ v (List.getElem?_eq_getElem hi) hv) hb).1
/-- a row that did not lie there is nobody's -/
theorem PW.fresh {W : World} {base pb : Nat} {lp : Option Addr} {lc n : Nat} {X : Nat → Tk} {s : St} {ks : List Value} (h : PW W base pb lp lc n X s ks) {v : Value} (hv : ∀ b, v.ownBlock = some b → W.heap.size ≤ b) : Fresh ks v := fun i u b hu hb hvb => by
  have h1 := h.old i u b hu hb
  have h2 := hv b hvb
  omega
theorem PW.below {W W' : World} {base pb : Nat} {lp : Option Addr} {lc n : Nat} {X : Nat → Tk} {s : St} {ks : List Value} (h : PW W base pb lp lc n X s ks) (hb : Below W.heap.size W W') : PW W' base pb lp lc n X s ks := by
  obtain ⟨mv, h1, h2⟩ := h.blk
  refine ⟨⟨mv, (hb.block pb (Array.getElem?_eq_some_iff.1 h1).1).trans h1, h2.far fun k hk => hb.block k (own_ltG h2 hk).1⟩, ?_, h.len, fun i d v hd hv => (h.kid i d v hd hv).far fun k hk => hb.block k (own_ltG (h.kid i d v hd hv) hk).1, h.apt, h.pl, h.nx, h.dp, Nat.le_trans h.sz hb.size⟩
  rcases h.tx with h9 | ⟨b, o, e, hl, hc⟩
  · exact .inl h9
  · exact .inr ⟨b, o, e, hl, fun i r hi hr => (World.cell?_of_block (a := ⟨b, o + i * 5 + r, none⟩) (hb.block b (Nat.lt_of_lt_of_le hl h.sz))).trans (hc i r hi hr)⟩
/-- a new state of the parser's own numbers -/
theorem PW.put {W W' : World} {base pb : Nat} {lp : Option Addr} {lc n : Nat} {X : Nat → Tk} {s : St} {ks : List Value} (h : PW W base pb lp lc n X s ks) (nx dp : Nat) (hnx : nx ≤ n) (hdp : dp ≤ 48)
    (hp : ∀ mv, W.heap[pb]? = some (.cells #[.slice lp n lc, .int .i64 (s.nx : Int), .int .i64 (s.dp : Int), mv] 79 (0, 0)) → W'.heap[pb]? = some (.cells #[.slice lp n lc, .int .i64 (nx : Int), .int .i64 (dp : Int), mv] 79 (0, 0)))
    (ho : ∀ k, k ≠ pb → k < W.heap.size → W'.heap[k]? = W.heap[k]?) (hs : W.heap.size ≤ W'.heap.size) : PW W' base pb lp lc n X ⟨nx, dp, s.md⟩ ks := by
  obtain ⟨mv, h1, h2⟩ := h.blk
  have np : ∀ {t : TypeId} {sz m : Nat} {v : Value} {F : Nat → Value}, Own W base t sz v m F → t ≠ 79 → ∀ k, v.ownBlock = some k → W'.heap[k]? = W.heap[k]? := fun {t sz m v F} hO ht k hk => by
    refine ho k ?_ (own_ltG hO hk).1
    rintro rfl
    rcases hO.2 with ⟨h9, _⟩ | ⟨g, cap, cur, rfl, _, h5, _⟩
    · rw [h9] at hk; cases hk
    · have : g = k := by simpa [Value.ownBlock] using hk
      subst this
      rw [h1] at h5
      injection h5 with h5
      injection h5 with _ h5 _
      exact ht h5.symm
  refine ⟨⟨mv, hp mv h1, h2.far (np h2 (by decide))⟩, ?_, h.len, fun i d v hd hv => (h.kid i d v hd hv).far (np (h.kid i d v hd hv) (by decide)), h.apt, h.pl, hnx, hdp, Nat.le_trans h.sz hs⟩
  rcases h.tx with h9 | ⟨b, o, e, hl, hc⟩
  · exact .inl h9
  · exact .inr ⟨b, o, e, hl, fun i r hi hr => (World.cell?_of_block (a := ⟨b, o + i * 5 + r, none⟩) (ho b (by have := h.pl; omega) (Nat.lt_of_lt_of_le hl h.sz))).trans (hc i r hi hr)⟩
/-- the parser gives up -/
def PanP (base : Nat) (W : World) (er : Pe) (e : Ending) (w' : World) : Prop := ∃ b, e = .panicked [{ v := .iface 56 (.pointer (some ⟨b, 0, none⟩)), recovered := false }] ∧ base ≤ b ∧ w'.heap[b]? = some (.cells #[.int .i64 er.line, .int .i64 er.col, .iface 51 (.int .i64 er.code)] 59 (0, 0)) ∧ KG base W w'
/-- how a method ends -/
def Ft (base pb : Nat) (lp : Option Addr) (lc n : Nat) (X : Nat → Tk) (W : World) (ks : List Value) (isL : Bool) : Pr (List Nat) → Ending → World → Prop
  | .out, _, _ => False
  | .bad er, e, w' => PanP base W er e w'
  | .ok s' v, e, w' => ∃ r ks', e = .returned r ∧ (if isL = true then (Own w' W.heap.size 3 1 r v.length (kF v) ∧ Fresh ks' r) else r = .int .i64 (hd v : Int)) ∧ PW w' base pb lp lc n X s' ks' ∧ KG base W w' ∧ Gw W ks ks'
/-- how take and enter end -/
def FtT (base pb : Nat) (lp : Option Addr) (lc n : Nat) (X : Nat → Tk) (W : World) (ks : List Value) : Pr Tk → Ending → World → Prop
  | .out, _, _ => False
  | .bad er, e, w' => PanP base W er e w'
  | .ok s' t, e, w' => e = .returned (.agg (tkA t)) ∧ PW w' base pb lp lc n X s' ks ∧ KG base W w'
/-- how leave ends -/
def FtU (base pb : Nat) (lp : Option Addr) (lc n : Nat) (X : Nat → Tk) (W : World) (ks : List Value) : Pr Unit → Ending → World → Prop
  | .out, _, _ => False
  | .bad er, e, w' => PanP base W er e w'
  | .ok s' _, e, w' => e = .returned (.tuple #[]) ∧ PW w' base pb lp lc n X s' ks ∧ KG base W w'
end Go.Proofs.YtmekcccmnkgodaaGreatDoor
