import Derived.Test.YtfgkmijaimfkjaaB0
namespace Go.Proofs.Ytfgkmijaimfkjaa
open Go.ChangeShapes Go.WideShapes Go.ChangeAt Go.RowKit
set_option linter.unusedVariables false
set_option linter.unusedSimpArgs false

/-! ### a net plainly -/
def upF {α : Type} (F : Nat → α) (i : Nat) (v : α) : Nat → α := fun j => if j = i then v else F j
theorem upF_at {α : Type} (F : Nat → α) (i : Nat) (v : α) : upF F i v i = v := if_pos rfl
theorem upF_ne {α : Type} (F : Nat → α) {i j : Nat} (v : α) (h : j ≠ i) : upF F i v j = F j := if_neg h
structure Nt where
  pl : Nat → Nat
  rd : Nat → Nat
  hs : Nat → Int
  up : Nat → Bool
  dn : Nat → Bool
  uv : Nat → Int
  dv : Nat → Int
def Nt.new : Nt := ⟨fun _ => 0, fun _ => 0, fun _ => 0, fun _ => false, fun _ => false, fun _ => 0, fun _ => 0⟩
def sns (N : Nt) (w : Nat) : Bool := N.rd w % 2 == 0
def enterN (N : Nt) (w : Nat) (v : Int) : Nt := { N with pl := upF N.pl w 1, hs := upF N.hs w v }
def hearN (J : Int → Int → Int) (N : Nt) (w c : Nat) : Nt := if N.up c = sns N w then { N with hs := upF N.hs w (J (N.hs w) (N.uv c)), pl := upF N.pl w (N.pl w + 1) } else N
def riseN (N : Nt) (w : Nat) : Nt := { N with up := upF N.up w (sns N w), uv := upF N.uv w (N.hs w), pl := upF N.pl w 4, hs := upF N.hs w 0 }
def hearPN (N : Nt) (w : Nat) : Nt := if N.dn ((w - 1) / 2) = sns N w then { N with pl := upF N.pl w 5, hs := upF N.hs w (N.dv ((w - 1) / 2)) } else N
def leaveN (N : Nt) (w : Nat) : Nt := { N with dn := upF N.dn w (sns N w), dv := upF N.dv w (N.hs w), uv := upF N.uv w 0, pl := upF N.pl w 0, rd := upF N.rd w (N.rd w + 1), hs := upF N.hs w 0 }
def stepN (J : Int → Int → Int) (n : Nat) (N : Nt) (w : Nat) : Nt :=
  if N.pl w ≤ 1 ∧ 2 * w + 1 < n then hearN J N w (2 * w + 1)
  else if N.pl w ≤ 2 ∧ 2 * w + 2 < n then hearN J N w (2 * w + 2)
  else if N.pl w ≤ 3 ∧ 0 < w then riseN N w
  else if N.pl w ≤ 4 ∧ 0 < w then hearPN N w
  else leaveN N w
/-! ### and as it lies -/
def wkC (N : Nt) (i r : Nat) : Value :=
  match r with
  | 0 => .int .i64 (N.pl i : Int)
  | 1 => .int .i64 (N.rd i : Int)
  | _ => .int .i64 (N.hs i)
def clC (N : Nt) (i r : Nat) : Value :=
  match r with
  | 0 => .bool (N.up i)
  | 1 => .bool (N.dn i)
  | 2 => .int .i64 (N.uv i)
  | _ => .int .i64 (N.dv i)
def wkF (N : Nt) (x : Nat) : Value := wkC N (x / 3) (x % 3)
def clF (N : Nt) (x : Nat) : Value := clC N (x / 4) (x % 4)
theorem wkF_at (N : Nt) (i r : Nat) (h : r < 3) : wkF N (i * 3 + r) = wkC N i r := by
  unfold wkF
  rw [show (i * 3 + r) / 3 = i by omega, show (i * 3 + r) % 3 = r by omega]
theorem clF_at (N : Nt) (i r : Nat) (h : r < 4) : clF N (i * 4 + r) = clC N i r := by
  unfold clF
  rw [show (i * 4 + r) / 4 = i by omega, show (i * 4 + r) % 4 = r by omega]
structure NW (base hb wb cb n : Nat) (jv : Value) (N : Nt) (W : World) : Prop where
  box : W.heap[hb]? = some (.cells #[jv, .slice (some ⟨wb, 0, none⟩) n n, .slice (some ⟨cb, 0, none⟩) n n] 133 (0, 0))
  row : Own W base 190 3 (.slice (some ⟨wb, 0, none⟩) n n) n (wkF N)
  cel : Own W base 144 4 (.slice (some ⟨cb, 0, none⟩) n n) n (clF N)
  bs : base ≤ hb
def S2 (qb g : Nat) : Nat → Prop := fun k => k = qb ∨ k = g
variable {base hb wb cb n : Nat} {jv : Value} {N : Nt} {W W' W0 : World}
theorem NW.ne (h : NW base hb wb cb n jv N W) : wb ≠ hb ∧ cb ≠ hb ∧ wb ≠ cb := by
  obtain ⟨c1, h1, _⟩ := h.row.block
  obtain ⟨c2, h2, _⟩ := h.cel.block
  exact ⟨typ_ne h1 h.box (by decide), typ_ne h2 h.box (by decide), typ_ne h1 h2 (by decide)⟩
theorem NW.lt (h : NW base hb wb cb n jv N W) : hb < W.heap.size ∧ wb < W.heap.size ∧ cb < W.heap.size := ⟨lt_of_block h.box, (Own.lt h.row wb rfl).2, (Own.lt h.cel cb rfl).2⟩
theorem NW.bl (h : NW base hb wb cb n jv N W) : base ≤ wb ∧ base ≤ cb := ⟨(Own.lt h.row wb rfl).1, (Own.lt h.cel cb rfl).1⟩
theorem NW.keep {S : Nat → Prop} (h : NW base hb wb cb n jv N W) (hc : Ch S W W') (h1 : ¬ S hb) (h2 : ¬ S wb) (h3 : ¬ S cb) : NW base hb wb cb n jv N W' :=
  ⟨(hc.block _ h.lt.1 h1).trans h.box, h.row.far fun k e => by cases e; exact hc.block _ h.lt.2.1 h2, h.cel.far fun k e => by cases e; exact hc.block _ h.lt.2.2 h3, h.bs⟩
theorem NW.later (h : NW base hb wb cb n jv N W) (hb' : Below W.heap.size W W') : NW base hb wb cb n jv N W' := h.keep (Ch.below (S := fun _ => False) hb') id id id
theorem NW.cells (h : NW base hb wb cb n jv N W) : W.cell? ⟨hb, 0, none⟩ = some jv ∧ W.cell? ⟨hb, 1, none⟩ = some (.slice (some ⟨wb, 0, none⟩) n n) ∧ W.cell? ⟨hb, 2, none⟩ = some (.slice (some ⟨cb, 0, none⟩) n n) := by
  have := h.box
  refine ⟨?_, ?_, ?_⟩
  all_goals (unfold World.cell?; rw [this]; rfl)
theorem NW.wk (h : NW base hb wb cb n jv N W) {i : Nat} (hi : i < n) : W.cell? ⟨wb, i * 3, none⟩ = some (.int .i64 (N.pl i : Int)) ∧ W.cell? ⟨wb, i * 3 + 1, none⟩ = some (.int .i64 (N.rd i : Int)) ∧ W.cell? ⟨wb, i * 3 + 2, none⟩ = some (.int .i64 (N.hs i)) := by
  refine ⟨?_, ?_, ?_⟩
  · rw [h.row.cell (j := i * 3) (by omega), show i * 3 = i * 3 + 0 from rfl, wkF_at _ _ _ (by decide)]; rfl
  · rw [h.row.cell (j := i * 3 + 1) (by omega), wkF_at _ _ _ (by decide)]; rfl
  · rw [h.row.cell (j := i * 3 + 2) (by omega), wkF_at _ _ _ (by decide)]; rfl
theorem NW.cl (h : NW base hb wb cb n jv N W) {i : Nat} (hi : i < n) : W.cell? ⟨cb, i * 4, none⟩ = some (.bool (N.up i)) ∧ W.cell? ⟨cb, i * 4 + 1, none⟩ = some (.bool (N.dn i)) ∧ W.cell? ⟨cb, i * 4 + 2, none⟩ = some (.int .i64 (N.uv i)) ∧ W.cell? ⟨cb, i * 4 + 3, none⟩ = some (.int .i64 (N.dv i)) := by
  refine ⟨?_, ?_, ?_, ?_⟩
  · rw [h.cel.cell (j := i * 4) (by omega), show i * 4 = i * 4 + 0 from rfl, clF_at _ _ _ (by decide)]; rfl
  · rw [h.cel.cell (j := i * 4 + 1) (by omega), clF_at _ _ _ (by decide)]; rfl
  · rw [h.cel.cell (j := i * 4 + 2) (by omega), clF_at _ _ _ (by decide)]; rfl
  · rw [h.cel.cell (j := i * 4 + 3) (by omega), clF_at _ _ _ (by decide)]; rfl
theorem NW.fz (h : NW base hb wb cb n jv N W) : (∀ k, W.frozen? ⟨wb, k, none⟩ = false) ∧ ∀ k, W.frozen? ⟨cb, k, none⟩ = false := ⟨own_frozen h.row, own_frozen h.cel⟩
theorem NW.setW (h : NW base hb wb cb n jv N W) (i r : Nat) (v : Value) (N' : Nt) (hr : r < 3) (hv : wkC N' i r = v) (he : ∀ j y, y < 3 → ¬ (j = i ∧ y = r) → wkC N j y = wkC N' j y) (hc : ∀ j y, clC N j y = clC N' j y) : NW base hb wb cb n jv N' (W.setCell ⟨wb, i * 3 + r, none⟩ v) := by
  refine ⟨(Below.heap_setCell _ _ _ _ h.ne.1.symm).trans h.box, own_put h.row _ _ ?_ fun j hj hne => ?_, (own_other h.cel _ _ _ h.ne.2.2.symm).congr fun j hj => hc _ _, h.bs⟩
  · rw [wkF_at _ _ _ hr]; exact hv
  · obtain ⟨x, y, hy, rfl⟩ : ∃ x y, y < 3 ∧ j = x * 3 + y := ⟨j / 3, j % 3, by omega, by omega⟩
    rw [wkF_at _ _ _ hy, wkF_at _ _ _ hy]
    exact he x y hy fun e => hne (by rw [e.1, e.2])
theorem NW.setC (h : NW base hb wb cb n jv N W) (i r : Nat) (v : Value) (N' : Nt) (hr : r < 4) (hv : clC N' i r = v) (he : ∀ j y, y < 4 → ¬ (j = i ∧ y = r) → clC N j y = clC N' j y) (hc : ∀ j y, wkC N j y = wkC N' j y) : NW base hb wb cb n jv N' (W.setCell ⟨cb, i * 4 + r, none⟩ v) := by
  refine ⟨(Below.heap_setCell _ _ _ _ h.ne.2.1.symm).trans h.box, (own_other h.row _ _ _ h.ne.2.2).congr fun j hj => hc _ _, own_put h.cel _ _ ?_ fun j hj hne => ?_, h.bs⟩
  · rw [clF_at _ _ _ hr]; exact hv
  · obtain ⟨x, y, hy, rfl⟩ : ∃ x y, y < 4 ∧ j = x * 4 + y := ⟨j / 4, j % 4, by omega, by omega⟩
    rw [clF_at _ _ _ hy, clF_at _ _ _ hy]
    exact he x y hy fun e => hne (by rw [e.1, e.2])
/-- a net, and what has changed since -/
def NC (W0 : World) (base hb wb cb n : Nat) (jv : Value) (N : Nt) (W : World) : Prop := NW base hb wb cb n jv N W ∧ Ch (S2 wb cb) W0 W
theorem NC.start (h : NW base hb wb cb n jv N W) : NC W base hb wb cb n jv N W := ⟨h, Ch.refl _ _⟩
theorem NC.alloc (h : NC W0 base hb wb cb n jv N W) (o : Obj) : NC W0 base hb wb cb n jv N (W.alloc o) :=
  have hb' : Below W.heap.size W (W.alloc o) := (Below.refl _ W).alloc (Nat.le_refl _) o
  ⟨h.1.later hb', h.2.trans (Ch.below hb')⟩
theorem NC.drew (h : NC W0 base hb wb cb n jv N W) : NC W0 base hb wb cb n jv N W.drew := ⟨h.1.later (drewB W), h.2.trans (Ch.below (drewB W))⟩
theorem NC.drewN (h : NC W0 base hb wb cb n jv N W) (k : Nat) : NC W0 base hb wb cb n jv N (W.drewN k) := ⟨h.1.later (below_drewNq _ _ _), h.2.trans (Ch.drew _ _ _)⟩
theorem NC.wk (h : NC W0 base hb wb cb n jv N W) (i r : Nat) (v : Value) (N' : Nt) (hr : r < 3) (hv : wkC N' i r = v) (he : ∀ j y, y < 3 → ¬ (j = i ∧ y = r) → wkC N j y = wkC N' j y) (hc : ∀ j y, clC N j y = clC N' j y) : NC W0 base hb wb cb n jv N' (W.setCell ⟨wb, i * 3 + r, none⟩ v) := ⟨h.1.setW i r v N' hr hv he hc, h.2.trans (Ch.set _ _ _ _ _ (.inl rfl))⟩
theorem NC.cl (h : NC W0 base hb wb cb n jv N W) (i r : Nat) (v : Value) (N' : Nt) (hr : r < 4) (hv : clC N' i r = v) (he : ∀ j y, y < 4 → ¬ (j = i ∧ y = r) → clC N j y = clC N' j y) (hc : ∀ j y, wkC N j y = wkC N' j y) : NC W0 base hb wb cb n jv N' (W.setCell ⟨cb, i * 4 + r, none⟩ v) := ⟨h.1.setC i r v N' hr hv he hc, h.2.trans (Ch.set _ _ _ _ _ (.inr rfl))⟩
theorem NC.pl (h : NC W0 base hb wb cb n jv N W) (i p : Nat) : NC W0 base hb wb cb n jv { N with pl := upF N.pl i p } (W.setCell ⟨wb, i * 3, none⟩ (.int .i64 (p : Int))) := h.wk i 0 _ _ (by decide) (by simp [wkC, upF]) (fun j y hy hne => by
  have : y = 0 ∨ y = 1 ∨ y = 2 := by omega
  rcases this with rfl | rfl | rfl
  · have : j ≠ i := fun e => hne ⟨e, rfl⟩
    simp [wkC, upF_ne _ _ this]
  · rfl
  · rfl) (fun _ _ => rfl)
theorem NC.rd (h : NC W0 base hb wb cb n jv N W) (i p : Nat) : NC W0 base hb wb cb n jv { N with rd := upF N.rd i p } (W.setCell ⟨wb, i * 3 + 1, none⟩ (.int .i64 (p : Int))) := h.wk i 1 _ _ (by decide) (by simp [wkC, upF]) (fun j y hy hne => by
  have : y = 0 ∨ y = 1 ∨ y = 2 := by omega
  rcases this with rfl | rfl | rfl
  · rfl
  · have : j ≠ i := fun e => hne ⟨e, rfl⟩
    simp [wkC, upF_ne _ _ this]
  · rfl) (fun _ _ => rfl)
theorem NC.hs (h : NC W0 base hb wb cb n jv N W) (i : Nat) (p : Int) : NC W0 base hb wb cb n jv { N with hs := upF N.hs i p } (W.setCell ⟨wb, i * 3 + 2, none⟩ (.int .i64 p)) := h.wk i 2 _ _ (by decide) (by simp [wkC, upF]) (fun j y hy hne => by
  have : y = 0 ∨ y = 1 ∨ y = 2 := by omega
  rcases this with rfl | rfl | rfl
  · rfl
  · rfl
  · have : j ≠ i := fun e => hne ⟨e, rfl⟩
    simp [wkC, upF_ne _ _ this]) (fun _ _ => rfl)
theorem NC.up (h : NC W0 base hb wb cb n jv N W) (i : Nat) (p : Bool) : NC W0 base hb wb cb n jv { N with up := upF N.up i p } (W.setCell ⟨cb, i * 4, none⟩ (.bool p)) := h.cl i 0 _ _ (by decide) (by simp [clC, upF]) (fun j y hy hne => by
  have : y = 0 ∨ y = 1 ∨ y = 2 ∨ y = 3 := by omega
  rcases this with rfl | rfl | rfl | rfl
  · have : j ≠ i := fun e => hne ⟨e, rfl⟩
    simp [clC, upF_ne _ _ this]
  all_goals rfl) (fun _ _ => rfl)
theorem NC.dn (h : NC W0 base hb wb cb n jv N W) (i : Nat) (p : Bool) : NC W0 base hb wb cb n jv { N with dn := upF N.dn i p } (W.setCell ⟨cb, i * 4 + 1, none⟩ (.bool p)) := h.cl i 1 _ _ (by decide) (by simp [clC, upF]) (fun j y hy hne => by
  have : y = 1 ∨ y = 0 ∨ y = 2 ∨ y = 3 := by omega
  rcases this with rfl | rfl | rfl | rfl
  · have : j ≠ i := fun e => hne ⟨e, rfl⟩
    simp [clC, upF_ne _ _ this]
  all_goals rfl) (fun _ _ => rfl)
theorem NC.uv (h : NC W0 base hb wb cb n jv N W) (i : Nat) (p : Int) : NC W0 base hb wb cb n jv { N with uv := upF N.uv i p } (W.setCell ⟨cb, i * 4 + 2, none⟩ (.int .i64 p)) := h.cl i 2 _ _ (by decide) (by simp [clC, upF]) (fun j y hy hne => by
  have : y = 2 ∨ y = 0 ∨ y = 1 ∨ y = 3 := by omega
  rcases this with rfl | rfl | rfl | rfl
  · have : j ≠ i := fun e => hne ⟨e, rfl⟩
    simp [clC, upF_ne _ _ this]
  all_goals rfl) (fun _ _ => rfl)
theorem NC.dv (h : NC W0 base hb wb cb n jv N W) (i : Nat) (p : Int) : NC W0 base hb wb cb n jv { N with dv := upF N.dv i p } (W.setCell ⟨cb, i * 4 + 3, none⟩ (.int .i64 p)) := h.cl i 3 _ _ (by decide) (by simp [clC, upF]) (fun j y hy hne => by
  have : y = 3 ∨ y = 0 ∨ y = 1 ∨ y = 2 := by omega
  rcases this with rfl | rfl | rfl | rfl
  · have : j ≠ i := fun e => hne ⟨e, rfl⟩
    simp [clC, upF_ne _ _ this]
  all_goals rfl) (fun _ _ => rfl)
end Go.Proofs.Ytfgkmijaimfkjaa
