import Derived.Test.YtfgkmijaimfkjaaB0
import Derived.Deep.DeepCutAuto
import Derived.Deep.CutBlock
import Derived.Deep.CutRange
import Derived.Deep.RegionHeld3
namespace Go.Proofs.Ytfgkmijaimfkjaa
open Go.ChangeShapes Go.WideShapes Go.ChangeAt Go.RowKit
set_option linter.unusedVariables false
set_option linter.unusedSimpArgs false

/-! ### the reference's net plainly, and as it lies -/
structure Rt where
  up : Nat → Bool
  dn : Nat → Bool
  uv : Nat → Int
  dv : Nat → Int
  td : Nat → List Nat
  tv : Nat → Value
  hs : Nat → Int
  ls : Nat → Int
  th : Nat → Nat
structure RB where
  rb : Nat
  ub : Nat
  db : Nat
  xb : Nat
  yb : Nat
  tb : Nat
  hb : Nat
  lb : Nat
  gb : Nat
def setF {α : Type} (F : Nat → α) (i : Nat) (v : α) : Nat → α := fun j => if j = i then v else F j
theorem setF_at {α : Type} (F : Nat → α) (i : Nat) (v : α) : setF F i v i = v := if_pos rfl
theorem setF_ne {α : Type} (F : Nat → α) {i j : Nat} (v : α) (h : j ≠ i) : setF F i v j = F j := if_neg h
def rvC (x : Int) (r : Nat) : Value :=
  match r with
  | 0 => .int .i64 x
  | 1 => .int .u64 0
  | 2 => .bool false
  | 3 => .bool false
  | 4 => .bool false
  | 5 => .int .u64 0
  | 6 => .int .i64 0
  | 7 => .int .u64 0
  | 8 => .int .i64 0
  | _ => .int .i64 0
def rvF (V : Nat → Int) (j : Nat) : Value := rvC (V (j / 10)) (j % 10)
theorem rvF_at (V : Nat → Int) (i r : Nat) (h : r < 10) : rvF V (i * 10 + r) = rvC (V i) r := by
  unfold rvF
  rw [show (i * 10 + r) / 10 = i by omega, show (i * 10 + r) % 10 = r by omega]
def blF (U : Nat → Bool) (j : Nat) : Value := .bool (U j)
def ntF (G : Nat → Nat) (j : Nat) : Value := .int .i64 (G j : Int)
/-- a list of steps lies there -/
def TL (W : World) (base gb : Nat) (v : Value) (l : List Nat) : Prop :=
  ∃ p c, v = .slice p l.length c ∧ l.length ≤ c ∧ (l ≠ [] → ∃ b o cur, p = some ⟨b, o, none⟩ ∧ base ≤ b ∧ b ≠ gb ∧ W.heap[b]? = some (.cells cur 3 (0, 0)) ∧ ∀ i, i < l.length → cur[o + i]? = some (.int .i64 ((l.getD i 0 : Nat) : Int)))
structure RN (base n kd : Nat) (B : RB) (R : Rt) (W : World) : Prop where
  box : W.heap[B.rb]? = some (.cells #[.int .i64 (n : Int), .int .i64 (kd : Int), .slice (some ⟨B.ub, 0, none⟩) n n, .slice (some ⟨B.db, 0, none⟩) n n, .slice (some ⟨B.xb, 0, none⟩) n n, .slice (some ⟨B.yb, 0, none⟩) n n, .slice (some ⟨B.tb, 0, none⟩) n n, .slice (some ⟨B.hb, 0, none⟩) n n, .slice (some ⟨B.lb, 0, none⟩) n n, .slice (some ⟨B.gb, 0, none⟩) n n] 138 (0, 0))
  up : Own W base 4 1 (.slice (some ⟨B.ub, 0, none⟩) n n) n (blF R.up)
  dn : Own W base 4 1 (.slice (some ⟨B.db, 0, none⟩) n n) n (blF R.dn)
  uv : Own W base 62 10 (.slice (some ⟨B.xb, 0, none⟩) n n) n (rvF R.uv)
  dv : Own W base 62 10 (.slice (some ⟨B.yb, 0, none⟩) n n) n (rvF R.dv)
  td : Own W base 56 1 (.slice (some ⟨B.tb, 0, none⟩) n n) n R.tv
  hs : Own W base 62 10 (.slice (some ⟨B.hb, 0, none⟩) n n) n (rvF R.hs)
  ls : Own W base 62 10 (.slice (some ⟨B.lb, 0, none⟩) n n) n (rvF R.ls)
  th : Own W base 3 1 (.slice (some ⟨B.gb, 0, none⟩) n n) n (ntF R.th)
  tl : ∀ i, i < n → TL W base B.gb (R.tv i) (R.td i)
  n1 : B.ub ≠ B.db
  n2 : B.xb ≠ B.yb ∧ B.xb ≠ B.hb ∧ B.xb ≠ B.lb
  n3 : B.yb ≠ B.hb ∧ B.yb ≠ B.lb ∧ B.hb ≠ B.lb
  bs : base ≤ B.rb
/-- the blocks that a call may write -/
def RS (B : RB) : Nat → Prop := fun k => k = B.ub ∨ k = B.db ∨ k = B.xb ∨ k = B.yb ∨ k = B.tb ∨ k = B.hb ∨ k = B.lb ∨ k = B.gb
variable {base n kd : Nat} {B : RB} {R : Rt} {W W' : World}
theorem TL.keep {gb : Nat} {v : Value} {l : List Nat} (h : TL W base gb v l) (hk : ∀ b cur, W.heap[b]? = some (.cells cur 3 (0, 0)) → base ≤ b → b ≠ gb → W'.heap[b]? = W.heap[b]?) : TL W' base gb v l := by
  obtain ⟨p, c, h1, h2, h3⟩ := h
  refine ⟨p, c, h1, h2, fun hne => ?_⟩
  obtain ⟨b, o, cur, a1, a2, a3, a4, a5⟩ := h3 hne
  exact ⟨b, o, cur, a1, a2, a3, (hk b cur a4 a2 a3).trans a4, a5⟩
theorem RN.lt (h : RN base n kd B R W) : (B.rb < W.heap.size ∧ B.ub < W.heap.size ∧ B.db < W.heap.size ∧ B.xb < W.heap.size) ∧ B.yb < W.heap.size ∧ B.tb < W.heap.size ∧ B.hb < W.heap.size ∧ B.lb < W.heap.size ∧ B.gb < W.heap.size :=
  ⟨⟨lt_of_block h.box, (Own.lt h.up _ rfl).2, (Own.lt h.dn _ rfl).2, (Own.lt h.uv _ rfl).2⟩, (Own.lt h.dv _ rfl).2, (Own.lt h.td _ rfl).2, (Own.lt h.hs _ rfl).2, (Own.lt h.ls _ rfl).2, (Own.lt h.th _ rfl).2⟩
theorem RN.bl (h : RN base n kd B R W) : ∀ k, RS B k → base ≤ k := fun k e => by
  rcases e with rfl | rfl | rfl | rfl | rfl | rfl | rfl | rfl
  · exact (Own.lt h.up _ rfl).1
  · exact (Own.lt h.dn _ rfl).1
  · exact (Own.lt h.uv _ rfl).1
  · exact (Own.lt h.dv _ rfl).1
  · exact (Own.lt h.td _ rfl).1
  · exact (Own.lt h.hs _ rfl).1
  · exact (Own.lt h.ls _ rfl).1
  · exact (Own.lt h.th _ rfl).1
/-- one row of elements of this type, away from others -/
theorem own_typ {t : TypeId} {s g m c : Nat} {F : Nat → Value} (h : Own W base t s (.slice (some ⟨g, 0, none⟩) m c) m F) : ∃ cur, W.heap[g]? = some (.cells cur t (0, 0)) := by
  obtain ⟨cur, h1, _⟩ := Own.block h
  exact ⟨cur, h1⟩
theorem own_ne {t t' : TypeId} {s s' g g' m c m' c' : Nat} {F F' : Nat → Value} (h : Own W base t s (.slice (some ⟨g, 0, none⟩) m c) m F) (h' : Own W base t' s' (.slice (some ⟨g', 0, none⟩) m' c') m' F') (hne : t ≠ t') : g ≠ g' := by
  obtain ⟨_, h1⟩ := own_typ h
  obtain ⟨_, h2⟩ := own_typ h'
  exact typ_ne h1 h2 hne
theorem RN.kept {S : Nat → Prop} (h : RN base n kd B R W) (hc : Ch S W W') (h0 : ¬ S B.rb) (hs : ∀ k, RS B k → ¬ S k) (hl : ∀ b cur, W.heap[b]? = some (.cells cur 3 (0, 0)) → base ≤ b → b ≠ B.gb → ¬ S b) : RN base n kd B R W' :=
  have l := h.lt
  ⟨(hc.block _ l.1.1 h0).trans h.box,
   h.up.far fun k e => by cases e; exact hc.block _ l.1.2.1 (hs _ (by simp [RS])),
   h.dn.far fun k e => by cases e; exact hc.block _ l.1.2.2.1 (hs _ (by simp [RS])),
   h.uv.far fun k e => by cases e; exact hc.block _ l.1.2.2.2 (hs _ (by simp [RS])),
   h.dv.far fun k e => by cases e; exact hc.block _ l.2.1 (hs _ (by simp [RS])),
   h.td.far fun k e => by cases e; exact hc.block _ l.2.2.1 (hs _ (by simp [RS])),
   h.hs.far fun k e => by cases e; exact hc.block _ l.2.2.2.1 (hs _ (by simp [RS])),
   h.ls.far fun k e => by cases e; exact hc.block _ l.2.2.2.2.1 (hs _ (by simp [RS])),
   h.th.far fun k e => by cases e; exact hc.block _ l.2.2.2.2.2 (hs _ (by simp [RS])),
   fun i hi => (h.tl i hi).keep fun b cur hb h1 h2 => hc.block b (lt_of_block hb) (hl b cur hb h1 h2), h.n1, h.n2, h.n3, h.bs⟩
theorem RN.later (h : RN base n kd B R W) (hb : Below W.heap.size W W') : RN base n kd B R W' := h.kept (S := fun _ => False) (Ch.below hb) id (fun _ _ => id) (fun _ _ _ _ _ => id)
theorem RN.cells (h : RN base n kd B R W) : (W.cell? ⟨B.rb, 0, none⟩ = some (.int .i64 (n : Int)) ∧ W.cell? ⟨B.rb, 1, none⟩ = some (.int .i64 (kd : Int)) ∧ W.cell? ⟨B.rb, 2, none⟩ = some (.slice (some ⟨B.ub, 0, none⟩) n n) ∧ W.cell? ⟨B.rb, 3, none⟩ = some (.slice (some ⟨B.db, 0, none⟩) n n)) ∧ (W.cell? ⟨B.rb, 4, none⟩ = some (.slice (some ⟨B.xb, 0, none⟩) n n) ∧ W.cell? ⟨B.rb, 5, none⟩ = some (.slice (some ⟨B.yb, 0, none⟩) n n) ∧ W.cell? ⟨B.rb, 6, none⟩ = some (.slice (some ⟨B.tb, 0, none⟩) n n)) ∧ W.cell? ⟨B.rb, 7, none⟩ = some (.slice (some ⟨B.hb, 0, none⟩) n n) ∧ W.cell? ⟨B.rb, 8, none⟩ = some (.slice (some ⟨B.lb, 0, none⟩) n n) ∧ W.cell? ⟨B.rb, 9, none⟩ = some (.slice (some ⟨B.gb, 0, none⟩) n n) := by
  have := h.box
  refine ⟨⟨?_, ?_, ?_, ?_⟩, ⟨?_, ?_, ?_⟩, ?_, ?_, ?_⟩
  all_goals (unfold World.cell?; rw [this]; rfl)
/-- the ten cells of a value -/
def ten (W : World) (b i : Nat) (x : Int) : Prop := (W.cell? ⟨b, i * 10, none⟩ = some (.int .i64 x) ∧ W.cell? ⟨b, i * 10 + 1, none⟩ = some (.int .u64 0) ∧ W.cell? ⟨b, i * 10 + 2, none⟩ = some (.bool false) ∧ W.cell? ⟨b, i * 10 + 3, none⟩ = some (.bool false) ∧ W.cell? ⟨b, i * 10 + 4, none⟩ = some (.bool false)) ∧ W.cell? ⟨b, i * 10 + 5, none⟩ = some (.int .u64 0) ∧ W.cell? ⟨b, i * 10 + 6, none⟩ = some (.int .i64 0) ∧ W.cell? ⟨b, i * 10 + 7, none⟩ = some (.int .u64 0) ∧ W.cell? ⟨b, i * 10 + 8, none⟩ = some (.int .i64 0) ∧ W.cell? ⟨b, i * 10 + 9, none⟩ = some (.int .i64 0)
theorem own_ten {b i c : Nat} {V : Nat → Int} {t : TypeId} (h : Own W base t 10 (.slice (some ⟨b, 0, none⟩) n c) n (rvF V)) (hi : i < n) : ten W b i (V i) := by
  have hh : ∀ r, r < 10 → W.cell? ⟨b, i * 10 + r, none⟩ = some (rvC (V i) r) := fun r hr => by rw [Own.cell h (j := i * 10 + r) (by omega), rvF_at _ _ _ hr]
  exact ⟨⟨hh 0 (by decide), hh 1 (by decide), hh 2 (by decide), hh 3 (by decide), hh 4 (by decide)⟩, hh 5 (by decide), hh 6 (by decide), hh 7 (by decide), hh 8 (by decide), hh 9 (by decide)⟩
def rvL (x : Int) : List Value := [.int .i64 x, .int .u64 0, .bool false, .bool false, .bool false, .int .u64 0, .int .i64 0, .int .u64 0, .int .i64 0, .int .i64 0]
theorem own_set10 {b i c : Nat} {V : Nat → Int} {t : TypeId} (h : Own W base t 10 (.slice (some ⟨b, 0, none⟩) n c) n (rvF V)) (x : Int) : Own (W.setCells b (i * 10) (rvL x)) base t 10 (.slice (some ⟨b, 0, none⟩) n c) n (rvF (setF V i x)) := by
  refine Own.congr (Own.put h (i * 10) (rvL x)) fun j hj => ?_
  unfold putF
  by_cases e : i * 10 ≤ j ∧ j < i * 10 + (rvL x).length
  · rw [if_pos e]
    have hl : (rvL x).length = 10 := rfl
    obtain ⟨r, rfl⟩ : ∃ r, j = i * 10 + r := ⟨j - i * 10, by omega⟩
    have hr : r < 10 := by omega
    rw [rvF_at _ _ _ hr, setF_at, show i * 10 + r - i * 10 = r by omega]
    have h6 : r = 0 ∨ r = 1 ∨ r = 2 ∨ r = 3 ∨ r = 4 ∨ r = 5 ∨ r = 6 ∨ r = 7 ∨ r = 8 ∨ r = 9 := by omega
    rcases h6 with rfl | rfl | rfl | rfl | rfl | rfl | rfl | rfl | rfl | rfl <;> rfl
  · rw [if_neg e]
    have hl : (rvL x).length = 10 := rfl
    unfold rvF
    rw [setF_ne _ _ (by omega)]
theorem own_set1 {b i c : Nat} {F G : Nat → Value} {t : TypeId} (h : Own W base t 1 (.slice (some ⟨b, 0, none⟩) n c) n F) (v : Value) (hv : G i = v) (he : ∀ j, j ≠ i → F j = G j) : Own (W.setCell ⟨b, i, none⟩ v) base t 1 (.slice (some ⟨b, 0, none⟩) n c) n G := own_put h i v hv fun j _ hne => he j hne
theorem ch_sets (S : Nat → Prop) (W : World) (b o : Nat) (vs : List Value) (h : S b) : Ch S W (W.setCells b o vs) := by
  induction vs generalizing W o with
  | nil => exact Ch.refl _ _
  | cons v vs ih => exact (Ch.set S W b o v h).trans (ih (W.setCell ⟨b, o, none⟩ v) (o + 1))
/-- a net, and what has changed since -/
def RC (W0 : World) (base n kd : Nat) (B : RB) (R : Rt) (W : World) : Prop := RN base n kd B R W ∧ Ch (RS B) W0 W
theorem RC.start (h : RN base n kd B R W) : RC W base n kd B R W := ⟨h, Ch.refl _ _⟩
theorem RC.below {W0 : World} (h : RC W0 base n kd B R W) (hb : Below W.heap.size W W') : RC W0 base n kd B R W' := ⟨h.1.later hb, h.2.trans (Ch.below hb)⟩
theorem RC.drew {W0 : World} (h : RC W0 base n kd B R W) : RC W0 base n kd B R W.drew := h.below (drewB W)
theorem RC.drewN {W0 : World} (h : RC W0 base n kd B R W) (k : Nat) : RC W0 base n kd B R (W.drewN k) := h.below (below_drewNq _ _ _)
theorem RC.alloc {W0 : World} (h : RC W0 base n kd B R W) (o : Obj) : RC W0 base n kd B R (W.alloc o) := h.below ((Below.refl _ W).alloc (Nat.le_refl _) o)
end Go.Proofs.Ytfgkmijaimfkjaa
