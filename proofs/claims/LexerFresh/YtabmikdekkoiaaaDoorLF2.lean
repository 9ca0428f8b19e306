import Derived.Test.YtabmikdekkoiaaaDoorLF1
namespace Go.Proofs.YtabmikdekkoiaaaDoor
open Go.ChangeShapes Go.WideShapes Go.ChangeAt Go.RowKit
set_option linter.unusedVariables false
set_option linter.unusedSimpArgs false

/-! ### the law's memory: three arrays, ten rows of tokens -/
theorem setCell_blk {W : World} {b o : Nat} {cs : Array Value} {t : TypeId} (v : Value) (h : W.heap[b]? = some (.cells cs t (0, 0))) : (W.setCell ⟨b, o, none⟩ v).heap[b]? = some (.cells (cs.setIfInBounds o v) t (0, 0)) := setCell_block W b o v h
theorem set_oth {w : World} {b k o : Nat} (v : Value) (h : k ≠ b) : (w.setCell ⟨b, o, none⟩ v).heap[k]? = w.heap[k]? := Below.heap_setCell _ _ _ _ fun e => h e
def a5 (f : Nat → Value) : Array Value := #[f 0, f 1, f 2, f 3, f 4]
theorem a5_set (f : Nat → Value) {i : Nat} (hi : i < 5) (v : Value) : (a5 f).setIfInBounds i v = a5 (ext f i v) := by
  unfold a5
  match i, hi with
  | 0, _ => simp [ext]
  | 1, _ => simp [ext]
  | 2, _ => simp [ext]
  | 3, _ => simp [ext]
  | 4, _ => simp [ext]
theorem a5_set5 (f : Nat → Value) {i : Nat} (hi : i < 5) (v : Value) : (a5 fun j => f (5 + j)).setIfInBounds i v = a5 (fun j => ext f (5 + i) v (5 + j)) := by
  rw [a5_set _ hi]
  unfold a5 ext
  match i, hi with
  | 0, _ => simp
  | 1, _ => simp
  | 2, _ => simp
  | 3, _ => simp
  | 4, _ => simp
theorem a5_keep (f : Nat → Value) {i : Nat} (hi : i < 5) (v : Value) : (a5 fun j => ext f i v (5 + j)) = a5 fun j => f (5 + j) := by
  unfold a5 ext
  simp
  refine ⟨?_, ?_, ?_, ?_, ?_⟩ <;> (intro e; omega)
theorem a5_keep5 (f : Nat → Value) (i : Nat) (v : Value) : a5 (ext f (5 + i) v) = a5 f := by
  unfold a5 ext
  simp
  refine ⟨?_, ?_, ?_, ?_, ?_⟩ <;> (intro e; omega)
theorem a5_cell {W : World} {b : Nat} {f : Nat → Value} {t : TypeId} (h : W.heap[b]? = some (.cells (a5 f) t (0, 0))) {i : Nat} (hi : i < 5) : W.cell? ⟨b, i, none⟩ = some (f i) := by
  unfold World.cell?
  rw [h]
  unfold a5
  match i, hi with
  | 0, _ => rfl
  | 1, _ => rfl
  | 2, _ => rfl
  | 3, _ => rfl
  | 4, _ => rfl
theorem a5_frz {W : World} {b : Nat} {f : Nat → Value} {t : TypeId} (h : W.heap[b]? = some (.cells (a5 f) t (0, 0))) (i : Nat) : W.frozen? ⟨b, i, none⟩ = false := by
  simp [World.frozen?, h]
structure Bl where
  (B tb lb ub : Nat)
structure Bl.Ok (D : Bl) (w : World) : Prop where
  a : w.heap.size ≤ D.tb
  b : D.tb < D.lb
  c : D.lb < D.ub
  d : D.ub < D.B
structure FS (D : Bl) (w : World) (fT V : Nat → Value) (M : Nat → Nat) (F : Nat → Nat → Value) (W : World) : Prop where
  ls : Lists W D.B 34 5 10 V M F
  t : W.heap[D.tb]? = some (.cells (a5 fT) 23 (0, 0))
  l : W.heap[D.lb]? = some (.cells (a5 V) 25 (0, 0))
  u : W.heap[D.ub]? = some (.cells (a5 fun j => V (5 + j)) 25 (0, 0))
  be : Below w.heap.size w W
  bs : D.B ≤ W.heap.size
variable {D : Bl} {w W W' : World} {fT V : Nat → Value} {M : Nat → Nat} {F : Nat → Nat → Value}
theorem FS.later (h : FS D w fT V M F W) (hD : D.Ok w) (hb : Below W.heap.size W W') : FS D w fT V M F W' := by
  have := h.bs
  have := hD.b
  have := hD.c
  have := hD.d
  have hs := hb.size
  exact ⟨⟨fun k hk => (h.ls.own k hk).more hb, h.ls.apart⟩, (hb.block _ (by omega)).trans h.t, (hb.block _ (by omega)).trans h.l, (hb.block _ (by omega)).trans h.u, h.be.trans (hb.mono h.be.size), by omega⟩
/-- a new row at the place k -/
theorem lists_new {B : Nat} {t : TypeId} {s n : Nat} (h : Lists W B t s n V M F) (hb : Below W.heap.size W W') {v : Value} {m : Nat} {G : Nat → Value} (ho : Own W' W.heap.size t s v m G) (hB : B ≤ W.heap.size) (k : Nat) : Lists W' B t s n (ext V k v) (ext M k m) (ext F k G) := by
  refine ⟨fun j hj => ?_, fun i j hi hj hij => ?_⟩
  · by_cases e : j = k
    · subst e
      rw [ext_at, ext_at, ext_at]
      exact own_low ho hB
    · rw [ext_ne _ _ _ e, ext_ne _ _ _ e, ext_ne _ _ _ e]
      exact (h.own j hj).more hb
  · have key : ∀ x, x < n → v.ownBlock = none ∨ v.ownBlock ≠ (V x).ownBlock := fun x hx => by
      cases hv : v.ownBlock with
      | none => exact .inl rfl
      | some g =>
        right
        intro e
        have h1 := (ho.kind hv).1
        have h2 := ((h.own x hx).kind e.symm).2.1
        omega
    by_cases e1 : i = k
    · subst e1
      rw [ext_at, ext_ne _ _ _ (fun e => hij e.symm)]
      exact key j hj
    · by_cases e2 : j = k
      · subst e2
        rw [ext_at, ext_ne _ _ _ e1]
        cases hv : (V i).ownBlock with
        | none => exact .inl rfl
        | some g =>
          right
          rcases key i hi with h1 | h1
          · rw [h1]; simp
          · rw [← hv]; exact fun e => h1 e.symm
      · rw [ext_ne _ _ _ e1, ext_ne _ _ _ e2]
        exact h.apart i j hi hj hij
/-- a block of another kind is written -/
theorem lists_far {B : Nat} {t t2 : TypeId} {s n b : Nat} {cs : Array Value} (h : Lists W B t s n V M F) (hb : W.heap[b]? = some (.cells cs t2 (0, 0))) (ht : t ≠ t2) (hk : ∀ k : Nat, k ≠ b → W'.heap[k]? = W.heap[k]?) : Lists W' B t s n V M F :=
  ⟨fun k hk' => (h.own k hk').far fun g hg => hk g fun e => (h.own k hk').other hb ht (by rw [hg, e]), h.apart⟩
theorem below_set {B : Nat} (h : Below B w W) (b o : Nat) (v : Value) (hb : B ≤ b) : Below B w (W.setCell ⟨b, o, none⟩ v) := h.setCell (p := ⟨b, o, none⟩) hb v
theorem FS.fillL (h : FS D w fT V M F W) (hD : D.Ok w) (hb : Below W.heap.size W W') {v : Value} {m : Nat} {G : Nat → Value} (ho : Own W' W.heap.size 34 5 v m G) {i : Nat} (hi : i < 5) : FS D w fT (ext V i v) (ext M i m) (ext F i G) (W'.setCell ⟨D.lb, i, none⟩ v) := by
  have h1 := h.later hD hb
  have oa := hD.a
  have ob := hD.b
  have oc := hD.c
  have od := hD.d
  refine ⟨lists_far (lists_new h.ls hb ho h.bs i) h1.l (by decide) (fun k hk => set_oth v hk), (set_oth v (by omega)).trans h1.t, ?_, ?_, below_set h1.be _ _ _ (by omega), by have := h1.bs; simpa using this⟩
  · rw [setCell_blk v h1.l, a5_set V hi]
  · rw [a5_keep V hi]
    exact (set_oth v (by omega)).trans h1.u
theorem FS.fillU (h : FS D w fT V M F W) (hD : D.Ok w) (hb : Below W.heap.size W W') {v : Value} {m : Nat} {G : Nat → Value} (ho : Own W' W.heap.size 34 5 v m G) {i : Nat} (hi : i < 5) : FS D w fT (ext V (5 + i) v) (ext M (5 + i) m) (ext F (5 + i) G) (W'.setCell ⟨D.ub, i, none⟩ v) := by
  have h1 := h.later hD hb
  have oa := hD.a
  have ob := hD.b
  have oc := hD.c
  have od := hD.d
  refine ⟨lists_far (lists_new h.ls hb ho h.bs (5 + i)) h1.u (by decide) (fun k hk => set_oth v hk), (set_oth v (by omega)).trans h1.t, ?_, ?_, below_set h1.be _ _ _ (by omega), by have := h1.bs; simpa using this⟩
  · rw [a5_keep5]
    exact (set_oth v (by omega)).trans h1.l
  · rw [setCell_blk v h1.u, a5_set5 V hi]
/-- the law's texts and tokens -/
def pick {α : Type} (a b : α) (j : Nat) : α := if j % 2 = 0 then a else b
def Fil (A B : List Tk) (i : Nat) (M : Nat → Nat) (F : Nat → Nat → Value) : Prop := ∀ j, j < i → (M j = (pick A B j).length ∧ F j = TF (pick A B j)) ∧ (M (5 + j) = (pick A B j).length ∧ F (5 + j) = TF (pick A B j))
theorem Fil.next {A B : List Tk} {i : Nat} (h : Fil A B i M F) (hi : i < 5) : Fil A B (i + 1) (ext (ext M i (pick A B i).length) (5 + i) (pick A B i).length) (ext (ext F i (TF (pick A B i))) (5 + i) (TF (pick A B i))) := fun j hj => by
  by_cases e : j = i
  · subst e
    rw [ext_ne _ _ _ (by omega : j ≠ 5 + j), ext_at, ext_ne _ _ _ (by omega : j ≠ 5 + j), ext_at, ext_at, ext_at]
    exact ⟨⟨rfl, rfl⟩, rfl, rfl⟩
  · have := h j (by omega)
    rw [ext_ne _ _ _ (by omega : j ≠ 5 + i), ext_ne _ _ _ e, ext_ne _ _ _ (by omega : j ≠ 5 + i), ext_ne _ _ _ e, ext_ne _ _ _ (by omega : 5 + j ≠ 5 + i), ext_ne _ _ _ (by omega : 5 + j ≠ i), ext_ne _ _ _ (by omega : 5 + j ≠ 5 + i), ext_ne _ _ _ (by omega : 5 + j ≠ i)]
    exact this
/-! ### marks -/
def markT (i x : Nat) : Value := if x % 5 = 0 then .int .i64 (1000 + (i : Int)) else if x % 5 = 1 then .string ⟨#[]⟩ else if x % 5 = 2 then .int .u64 0 else if x % 5 = 3 then .int .i64 ((x / 5 : Nat) : Int) else .int .i64 0
def tailT (i n x : Nat) : Value := if x % 5 = 0 then .int .i64 (2000 + (i : Int)) else if x % 5 = 1 then .string ⟨#[]⟩ else if x % 5 = 2 then .int .u64 0 else if x % 5 = 3 then .int .i64 ((x / 5 - n : Nat) : Int) else .int .i64 0
theorem markT_at (i k : Nat) : markT i (k * 5) = .int .i64 (1000 + (i : Int)) ∧ markT i (k * 5 + 1) = .string ⟨#[]⟩ ∧ markT i (k * 5 + 2) = .int .u64 0 ∧ markT i (k * 5 + 3) = .int .i64 (k : Int) ∧ markT i (k * 5 + 4) = .int .i64 0 := by
  unfold markT
  refine ⟨?_, ?_, ?_, ?_, ?_⟩
  · rw [if_pos (by omega)]
  · rw [if_neg (by omega), if_pos (by omega)]
  · rw [if_neg (by omega), if_neg (by omega), if_pos (by omega)]
  · rw [if_neg (by omega), if_neg (by omega), if_neg (by omega), if_pos (by omega), show (k * 5 + 3) / 5 = k by omega]
  · rw [if_neg (by omega), if_neg (by omega), if_neg (by omega), if_neg (by omega)]
theorem tailT_at (i n k : Nat) : tailT i n (k * 5) = .int .i64 (2000 + (i : Int)) ∧ tailT i n (k * 5 + 1) = .string ⟨#[]⟩ ∧ tailT i n (k * 5 + 2) = .int .u64 0 ∧ tailT i n (k * 5 + 3) = .int .i64 ((k - n : Nat) : Int) ∧ tailT i n (k * 5 + 4) = .int .i64 0 := by
  unfold tailT
  refine ⟨?_, ?_, ?_, ?_, ?_⟩
  · rw [if_pos (by omega)]
  · rw [if_neg (by omega), if_pos (by omega)]
  · rw [if_neg (by omega), if_neg (by omega), if_pos (by omega)]
  · rw [if_neg (by omega), if_neg (by omega), if_neg (by omega), if_pos (by omega), show (k * 5 + 3) / 5 = k by omega]
  · rw [if_neg (by omega), if_neg (by omega), if_neg (by omega), if_neg (by omega)]
def mkL (i k : Nat) : List Value := [.int .i64 (1000 + (i : Int)), .string ⟨#[]⟩, .int .u64 0, .int .i64 (k : Int), .int .i64 0]
end Go.Proofs.YtabmikdekkoiaaaDoor
