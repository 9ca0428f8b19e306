import Derived.Test.YtfgkmijaimfkjaaC8
namespace Go.Proofs.Ytfgkmijaimfkjaa
open Go.ChangeShapes Go.WideShapes Go.ChangeAt Go.RowKit
set_option linter.unusedVariables false
set_option linter.unusedSimpArgs false

/-! ### a barrier's net as it lies: flags alone -/
def wkZ (N : Nt) (i r : Nat) : Value :=
  match r with
  | 0 => .int .i64 (N.pl i : Int)
  | _ => .int .i64 (N.rd i : Int)
def clZ (N : Nt) (i r : Nat) : Value :=
  match r with
  | 0 => .bool (N.up i)
  | _ => .bool (N.dn i)
def wkFz (N : Nt) (x : Nat) : Value := wkZ N (x / 2) (x % 2)
def clFz (N : Nt) (x : Nat) : Value := clZ N (x / 2) (x % 2)
theorem wkFz_at (N : Nt) (i r : Nat) (h : r < 2) : wkFz N (i * 2 + r) = wkZ N i r := by
  unfold wkFz
  rw [show (i * 2 + r) / 2 = i by omega, show (i * 2 + r) % 2 = r by omega]
theorem clFz_at (N : Nt) (i r : Nat) (h : r < 2) : clFz N (i * 2 + r) = clZ N i r := by
  unfold clFz
  rw [show (i * 2 + r) / 2 = i by omega, show (i * 2 + r) % 2 = r by omega]
structure NZ (base hb wb cb n : Nat) (N : Nt) (W : World) : Prop where
  box : W.heap[hb]? = some (.cells #[.func (.func 96) #[] #[], .slice (some ⟨wb, 0, none⟩) n n, .slice (some ⟨cb, 0, none⟩) n n] 123 (0, 0))
  row : Own W base 128 2 (.slice (some ⟨wb, 0, none⟩) n n) n (wkFz N)
  cel : Own W base 125 2 (.slice (some ⟨cb, 0, none⟩) n n) n (clFz N)
  bs : base ≤ hb
variable {base hb wb cb n : Nat} {N : Nt} {W W' W0 : World}
theorem NZ.ne (h : NZ base hb wb cb n N W) : wb ≠ hb ∧ cb ≠ hb ∧ wb ≠ cb := by
  obtain ⟨c1, h1, _⟩ := h.row.block
  obtain ⟨c2, h2, _⟩ := h.cel.block
  exact ⟨typ_ne h1 h.box (by decide), typ_ne h2 h.box (by decide), typ_ne h1 h2 (by decide)⟩
theorem NZ.lt (h : NZ base hb wb cb n N W) : hb < W.heap.size ∧ wb < W.heap.size ∧ cb < W.heap.size := ⟨lt_of_block h.box, (Own.lt h.row wb rfl).2, (Own.lt h.cel cb rfl).2⟩
theorem NZ.bl (h : NZ base hb wb cb n N W) : base ≤ wb ∧ base ≤ cb := ⟨(Own.lt h.row wb rfl).1, (Own.lt h.cel cb rfl).1⟩
theorem NZ.keep {S : Nat → Prop} (h : NZ base hb wb cb n N W) (hc : Ch S W W') (h1 : ¬ S hb) (h2 : ¬ S wb) (h3 : ¬ S cb) : NZ base hb wb cb n N W' :=
  ⟨(hc.block _ h.lt.1 h1).trans h.box, h.row.far fun k e => by cases e; exact hc.block _ h.lt.2.1 h2, h.cel.far fun k e => by cases e; exact hc.block _ h.lt.2.2 h3, h.bs⟩
theorem NZ.later (h : NZ base hb wb cb n N W) (hb' : Below W.heap.size W W') : NZ base hb wb cb n N W' := h.keep (Ch.below (S := fun _ => False) hb') id id id
theorem NZ.ghost (h : NZ base hb wb cb n N W) (N' : Nt) (h1 : N'.pl = N.pl) (h2 : N'.rd = N.rd) (h3 : N'.up = N.up) (h4 : N'.dn = N.dn) : NZ base hb wb cb n N' W :=
  ⟨h.box, h.row.congr fun j hj => by unfold wkFz wkZ; rw [h1, h2], h.cel.congr fun j hj => by unfold clFz clZ; rw [h3, h4], h.bs⟩
theorem NZ.cells (h : NZ base hb wb cb n N W) : W.cell? ⟨hb, 0, none⟩ = some (.func (.func 96) #[] #[]) ∧ W.cell? ⟨hb, 1, none⟩ = some (.slice (some ⟨wb, 0, none⟩) n n) ∧ W.cell? ⟨hb, 2, none⟩ = some (.slice (some ⟨cb, 0, none⟩) n n) := by
  have := h.box
  refine ⟨?_, ?_, ?_⟩
  all_goals (unfold World.cell?; rw [this]; rfl)
theorem NZ.wk (h : NZ base hb wb cb n N W) {i : Nat} (hi : i < n) : W.cell? ⟨wb, i * 2, none⟩ = some (.int .i64 (N.pl i : Int)) ∧ W.cell? ⟨wb, i * 2 + 1, none⟩ = some (.int .i64 (N.rd i : Int)) := by
  refine ⟨?_, ?_⟩
  · rw [h.row.cell (j := i * 2) (by omega), show i * 2 = i * 2 + 0 from rfl, wkFz_at _ _ _ (by decide)]; rfl
  · rw [h.row.cell (j := i * 2 + 1) (by omega), wkFz_at _ _ _ (by decide)]; rfl
theorem NZ.cl (h : NZ base hb wb cb n N W) {i : Nat} (hi : i < n) : W.cell? ⟨cb, i * 2, none⟩ = some (.bool (N.up i)) ∧ W.cell? ⟨cb, i * 2 + 1, none⟩ = some (.bool (N.dn i)) := by
  refine ⟨?_, ?_⟩
  · rw [h.cel.cell (j := i * 2) (by omega), show i * 2 = i * 2 + 0 from rfl, clFz_at _ _ _ (by decide)]; rfl
  · rw [h.cel.cell (j := i * 2 + 1) (by omega), clFz_at _ _ _ (by decide)]; rfl
theorem NZ.fz (h : NZ base hb wb cb n N W) : (∀ k, W.frozen? ⟨wb, k, none⟩ = false) ∧ ∀ k, W.frozen? ⟨cb, k, none⟩ = false := ⟨own_frozen h.row, own_frozen h.cel⟩
theorem NZ.setW (h : NZ base hb wb cb n N W) (i r : Nat) (v : Value) (N' : Nt) (hr : r < 2) (hv : wkZ N' i r = v) (he : ∀ j y, y < 2 → ¬ (j = i ∧ y = r) → wkZ N j y = wkZ N' j y) (hc : ∀ j y, clZ N j y = clZ N' j y) : NZ base hb wb cb n N' (W.setCell ⟨wb, i * 2 + r, none⟩ v) := by
  refine ⟨(Below.heap_setCell _ _ _ _ h.ne.1.symm).trans h.box, own_put h.row _ _ ?_ fun j hj hne => ?_, (own_other h.cel _ _ _ h.ne.2.2.symm).congr fun j hj => hc _ _, h.bs⟩
  · rw [wkFz_at _ _ _ hr]; exact hv
  · obtain ⟨x, y, hy, rfl⟩ : ∃ x y, y < 2 ∧ j = x * 2 + y := ⟨j / 2, j % 2, by omega, by omega⟩
    rw [wkFz_at _ _ _ hy, wkFz_at _ _ _ hy]
    exact he x y hy fun e => hne (by rw [e.1, e.2])
theorem NZ.setC (h : NZ base hb wb cb n N W) (i r : Nat) (v : Value) (N' : Nt) (hr : r < 2) (hv : clZ N' i r = v) (he : ∀ j y, y < 2 → ¬ (j = i ∧ y = r) → clZ N j y = clZ N' j y) (hc : ∀ j y, wkZ N j y = wkZ N' j y) : NZ base hb wb cb n N' (W.setCell ⟨cb, i * 2 + r, none⟩ v) := by
  refine ⟨(Below.heap_setCell _ _ _ _ h.ne.2.1.symm).trans h.box, (own_other h.row _ _ _ h.ne.2.2).congr fun j hj => hc _ _, own_put h.cel _ _ ?_ fun j hj hne => ?_, h.bs⟩
  · rw [clFz_at _ _ _ hr]; exact hv
  · obtain ⟨x, y, hy, rfl⟩ : ∃ x y, y < 2 ∧ j = x * 2 + y := ⟨j / 2, j % 2, by omega, by omega⟩
    rw [clFz_at _ _ _ hy, clFz_at _ _ _ hy]
    exact he x y hy fun e => hne (by rw [e.1, e.2])
def ZC (W0 : World) (base hb wb cb n : Nat) (N : Nt) (W : World) : Prop := NZ base hb wb cb n N W ∧ Ch (S2 wb cb) W0 W
theorem ZC.start (h : NZ base hb wb cb n N W) : ZC W base hb wb cb n N W := ⟨h, Ch.refl _ _⟩
theorem ZC.alloc (h : ZC W0 base hb wb cb n N W) (o : Obj) : ZC W0 base hb wb cb n N (W.alloc o) :=
  have hb' : Below W.heap.size W (W.alloc o) := (Below.refl _ W).alloc (Nat.le_refl _) o
  ⟨h.1.later hb', h.2.trans (Ch.below hb')⟩
theorem ZC.drew (h : ZC W0 base hb wb cb n N W) : ZC W0 base hb wb cb n N W.drew := ⟨h.1.later (drewB W), h.2.trans (Ch.below (drewB W))⟩
theorem ZC.drewN (h : ZC W0 base hb wb cb n N W) (k : Nat) : ZC W0 base hb wb cb n N (W.drewN k) := ⟨h.1.later (below_drewNq _ _ _), h.2.trans (Ch.drew _ _ _)⟩
theorem ZC.ghost (h : ZC W0 base hb wb cb n N W) (N' : Nt) (h1 : N'.pl = N.pl) (h2 : N'.rd = N.rd) (h3 : N'.up = N.up) (h4 : N'.dn = N.dn) : ZC W0 base hb wb cb n N' W := ⟨h.1.ghost N' h1 h2 h3 h4, h.2⟩
theorem ZC.wk (h : ZC W0 base hb wb cb n N W) (i r : Nat) (v : Value) (N' : Nt) (hr : r < 2) (hv : wkZ N' i r = v) (he : ∀ j y, y < 2 → ¬ (j = i ∧ y = r) → wkZ N j y = wkZ N' j y) (hc : ∀ j y, clZ N j y = clZ N' j y) : ZC W0 base hb wb cb n N' (W.setCell ⟨wb, i * 2 + r, none⟩ v) := ⟨h.1.setW i r v N' hr hv he hc, h.2.trans (Ch.set _ _ _ _ _ (.inl rfl))⟩
theorem ZC.cl (h : ZC W0 base hb wb cb n N W) (i r : Nat) (v : Value) (N' : Nt) (hr : r < 2) (hv : clZ N' i r = v) (he : ∀ j y, y < 2 → ¬ (j = i ∧ y = r) → clZ N j y = clZ N' j y) (hc : ∀ j y, wkZ N j y = wkZ N' j y) : ZC W0 base hb wb cb n N' (W.setCell ⟨cb, i * 2 + r, none⟩ v) := ⟨h.1.setC i r v N' hr hv he hc, h.2.trans (Ch.set _ _ _ _ _ (.inr rfl))⟩
theorem ZC.pl (h : ZC W0 base hb wb cb n N W) (i p : Nat) : ZC W0 base hb wb cb n { N with pl := upF N.pl i p } (W.setCell ⟨wb, i * 2, none⟩ (.int .i64 (p : Int))) := h.wk i 0 _ _ (by decide) (by simp [wkZ, upF]) (fun j y hy hne => by
  have : y = 0 ∨ y = 1 := by omega
  rcases this with rfl | rfl
  · have : j ≠ i := fun e => hne ⟨e, rfl⟩
    simp [wkZ, upF_ne _ _ this]
  · rfl) (fun _ _ => rfl)
theorem ZC.rd (h : ZC W0 base hb wb cb n N W) (i p : Nat) : ZC W0 base hb wb cb n { N with rd := upF N.rd i p } (W.setCell ⟨wb, i * 2 + 1, none⟩ (.int .i64 (p : Int))) := h.wk i 1 _ _ (by decide) (by simp [wkZ, upF]) (fun j y hy hne => by
  have : y = 0 ∨ y = 1 := by omega
  rcases this with rfl | rfl
  · rfl
  · have : j ≠ i := fun e => hne ⟨e, rfl⟩
    simp [wkZ, upF_ne _ _ this]) (fun _ _ => rfl)
theorem ZC.up (h : ZC W0 base hb wb cb n N W) (i : Nat) (p : Bool) : ZC W0 base hb wb cb n { N with up := upF N.up i p } (W.setCell ⟨cb, i * 2, none⟩ (.bool p)) := h.cl i 0 _ _ (by decide) (by simp [clZ, upF]) (fun j y hy hne => by
  have : y = 0 ∨ y = 1 := by omega
  rcases this with rfl | rfl
  · have : j ≠ i := fun e => hne ⟨e, rfl⟩
    simp [clZ, upF_ne _ _ this]
  · rfl) (fun _ _ => rfl)
theorem ZC.dn (h : ZC W0 base hb wb cb n N W) (i : Nat) (p : Bool) : ZC W0 base hb wb cb n { N with dn := upF N.dn i p } (W.setCell ⟨cb, i * 2 + 1, none⟩ (.bool p)) := h.cl i 1 _ _ (by decide) (by simp [clZ, upF]) (fun j y hy hne => by
  have : y = 1 ∨ y = 0 := by omega
  rcases this with rfl | rfl
  · have : j ≠ i := fun e => hne ⟨e, rfl⟩
    simp [clZ, upF_ne _ _ this]
  · rfl) (fun _ _ => rfl)
end Go.Proofs.Ytfgkmijaimfkjaa
