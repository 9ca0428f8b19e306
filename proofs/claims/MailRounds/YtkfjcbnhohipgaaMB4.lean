import Derived.Test.YtkfjcbnhohipgaaMB3
import Derived.BigQuiet
import Derived.Deep.RegionLaw
import Derived.Deep.RegionHeld3
import Derived.Deep.Cut
import Derived.Deep.DeepCutAuto
import Derived.Deep.CutBlock
import Derived.Deep.CutRange
import Derived.Deep.AppendLies
import Derived.Handy
import Derived.Lib.RabinKarpLaws
namespace Go.Proofs.Ytkfjcbnhohipgaa
open Go.ChangeShapes Go.WideShapes Go.ChangeAt Go.RowKit
set_option linter.unusedVariables false
set_option linter.unusedSimpArgs false


theorem zeroTh (w : World) : (zeroValue 31).run Try.prog w = .ok (.agg #[.int .i64 0, .int .i64 0]) w := by
  obtain ⟨iT, hT1, hT2, hT3, hT4⟩ := binfo infoTH
  simp [zeroValue, typeInfo, hT1, hT2]
def zTh (n : Nat) : List Value := (Builtin.zeroCells (Value.agg #[.int .i64 0, .int .i64 0]).cells n).toList
theorem zTh_len (n : Nat) : (zTh n).length = n * 2 := by
  unfold zTh
  rw [Array.length_toList, size_zeroCells]
  rfl
theorem zTh_one (n : Nat) : ∀ v ∈ zTh n, v.oneCell' = true := by
  intro v hv
  unfold zTh at hv
  obtain ⟨j, hj⟩ := List.mem_iff_getElem?.1 hv
  simp [Builtin.zeroCells, Value.cells] at hj
  obtain ⟨i, h1, rfl⟩ := hj
  rcases (by omega : i % 2 = 0 ∨ i % 2 = 1) with h2 | h2
  · simp [h2, Value.oneCell']
  · simp [h2, Value.oneCell']
theorem run_clearTh (w : World) (ty : TypeId) (b n c : Nat) (hn : 0 < n) (hc : ∀ j, j < n * 2 → (w.cell? ⟨b, j, none⟩).isSome = true) (hf : ∀ j, w.frozen? ⟨b, j, none⟩ = false) :
    (Builtin.clear_ #[76] ty #[.slice (some ⟨b, 0, none⟩) n c]).run Try.prog w = .ok (.tuple #[]) (w.setCells b 0 (zTh n)) := by
  have hst := run_storeCells_cells (P := Try.prog) b 0 (zTh n) 0 w (by intro j hj; rw [zTh_len] at hj; simpa using hc j hj) (by intro j hj; simpa using hf j) (zTh_one n)
  simp only [Nat.add_zero] at hst
  unfold zTh at hst ⊢
  obtain ⟨m, rfl⟩ : ∃ m, n = m + 1 := ⟨n - 1, by omega⟩
  simp [Builtin.clear_, run_underlying Try.underlying76, zeroTh, hst]
theorem run_clear0 (w : World) (ty : TypeId) (q : Option Addr) (c : Nat) : (Builtin.clear_ #[76] ty #[.slice q 0 c]).run Try.prog w = .ok (.tuple #[]) w := by
  cases q <;> simp [Builtin.clear_, run_underlying Try.underlying76]
theorem grown_sets (W : World) (g o : Nat) (vs : List Value) : W.grownBy (W.setCells g o vs) (some g) := by
  have hb := setCells_below vs o W (Below.refl g W) (Nat.le_refl g)
  exact ⟨hb.1, hb.2, hb.3, hb.4, fun k _ hk => setCells_other g vs o W k fun e => hk (by rw [e])⟩
/-- all blocks but two stay -/
def KB (W W' : World) (b : Nat) (g : Option Nat) : Prop := W'.heap.size = W.heap.size ∧ ∀ k, k ≠ b → g ≠ some k → W'.heap[k]? = W.heap[k]?
theorem kb_set (W : World) (b o : Nat) (v : Value) (g : Option Nat) : KB W (W.setCell ⟨b, o, none⟩ v) b g := ⟨by simp [World.setCell], fun k hk _ => Below.heap_setCell _ _ _ _ hk⟩
theorem kb_sets (W : World) (b o : Nat) (v : Value) (g : Nat) (vs : List Value) : KB W ((W.setCells g 0 vs).setCell ⟨b, o, none⟩ v) b (some g) := ⟨by rw [show ((W.setCells g 0 vs).setCell ⟨b, o, none⟩ v).heap.size = (W.setCells g 0 vs).heap.size by simp [World.setCell], setCells_size], fun k hk hg => (Below.heap_setCell _ _ _ _ hk).trans (setCells_other g vs 0 W k fun e => hg (by rw [e]))⟩
def emptied (f : Hf) : Hf := ⟨f.q, 0, f.c, f.k⟩
set_option maxRecDepth 100000 in
set_option maxHeartbeats 4000000 in
theorem empty_any (x y e : Nat) {Fo : Nat → Option Obj} {base hb wb bb n : Nat} {room : Int} {cmp : Value} {R : Nat → Nat} {ph fl : Nat → Int} {H : Nat → Nat → Nat → Hf} (hx : x < n) (hy : y < n) (he : e < 2) (W : World) (h : MP Fo W base hb wb bb n room cmp R ph fl H) :
    Calls Try.prog 39 #[.pointer (some ⟨R x, y * 2 + e, none⟩)] W fun r W' => r = .returned (.int .i64 ((H x y e).l : Int)) ∧ MP Fo W' base hb wb bb n room cmp R ph fl (setHf H x y e (emptied (H x y e))) ∧ Below base W W' ∧ KB W W' (R x) (H x y e).v.ownBlock := by
  have hv := h.hv hx hy he
  have ho := h.h x y e hx hy he
  have hs := h.s x y e
  have hlR := (Own.lt (h.r x hx) (R x) rfl)
  have hcR := fun (W' : World) (hg : W.grownBy W' (H x y e).v.ownBlock) => (h.r x hx).keptBy hg fun k hk e2 => (h.r x hx).clash ho (by decide) hk e2
  have hst := fun (W' : World) (hg : W.grownBy W' (H x y e).v.ownBlock) (f : Hf) hown hat hl => h.setH x y e hx hy he hg f hown hat hl
  obtain ⟨f, hf⟩ : ∃ f, H x y e = f := ⟨_, rfl⟩
  rw [hf] at hv ho hs hst hcR ⊢
  clear h hf
  obtain ⟨q, l, c, kk⟩ := f
  simp only [Hf.v, emptied] at hv ho hs hst hcR ⊢
  have hq2 : (q = none ∧ c = 0 ∧ l = 0) ∨ ∃ g, q = some ⟨g, 0, none⟩ := by
    rcases ho.form with ⟨h1, h3⟩ | ⟨g, c', h1, _⟩
    · injection h1 with h1 _ h2; exact .inl ⟨h1, h2, h3⟩
    · injection h1 with h1; exact .inr ⟨g, h1⟩
  rcases hq2 with ⟨rfl, rfl, rfl⟩ | ⟨g, rfl⟩
  · have hg0 : W.grownBy W (Value.slice none 0 0).ownBlock := ⟨rfl, rfl, rfl, Nat.le_refl _, fun _ _ _ => rfl⟩
    have HM := mhid (hst W hg0 ⟨none, 0, 0, kk⟩ ho (.inl rfl) (Nat.zero_le _))
    have HB := mhid ((Below.refl base W).setCell (p := ⟨R x, y * 2 + e, none⟩) hlR.1 (.slice none 0 0))
    have nf : W.frozen? ⟨R x, y * 2 + e, none⟩ = false := by obtain ⟨cr, hcr, _⟩ := (hcR W hg0).block; exact frz hcr _
    have HK := mhid (kb_set W (R x) (y * 2 + e) (.slice none 0 0) (Value.slice none 0 0).ownBlock)
    have kc := fun (w : World) (ty : TypeId) => run_clear0 w ty none 0
    clear hst hcR ho hg0
    go_enter Try.func39, Try.ntmps39
    go_wp2_with fail
    go_ret
    exact ⟨rfl, HM.out, HB.out, HK.out⟩
  · obtain ⟨cur, k1, k2, k3, k4, k5, k6⟩ := ho.block
    rcases Nat.eq_zero_or_pos l with rfl | hl
    · have hg0 : W.grownBy W (Value.slice (some ⟨g, 0, none⟩) 0 c).ownBlock := ⟨rfl, rfl, rfl, Nat.le_refl _, fun _ _ _ => rfl⟩
      have HM := mhid (hst W hg0 ⟨some ⟨g, 0, none⟩, 0, c, kk⟩ ho (.inl rfl) (Nat.zero_le _))
      have HB := mhid ((Below.refl base W).setCell (p := ⟨R x, y * 2 + e, none⟩) hlR.1 (.slice (some ⟨g, 0, none⟩) 0 c))
      have nf : W.frozen? ⟨R x, y * 2 + e, none⟩ = false := by obtain ⟨cr, hcr, _⟩ := (hcR W hg0).block; exact frz hcr _
      have HK := mhid (kb_set W (R x) (y * 2 + e) (.slice (some ⟨g, 0, none⟩) 0 c) (Value.slice (some ⟨g, 0, none⟩) 0 c).ownBlock)
      have kc := fun (w : World) (ty : TypeId) => run_clear0 w ty (some ⟨g, 0, none⟩) c
      clear hst hcR ho hg0 k1 k2 k3 k4 k5 k6
      go_enter Try.func39, Try.ntmps39
      go_wp2_with fail
      go_ret
      exact ⟨rfl, HM.out, HB.out, HK.out⟩
    · have hcl : ∀ j, j < l * 2 → (W.cell? ⟨g, j, none⟩).isSome = true := fun j hj => by rw [ho.cell hj]; rfl
      have kc := fun (ty : TypeId) => run_clearTh W ty g l c hl hcl (fun j => frz k1 j)
      obtain ⟨W1, hW1⟩ : ∃ W1, W.setCells g 0 (zTh l) = W1 := ⟨_, rfl⟩
      have hg1 : W.grownBy W1 (some g) := by rw [← hW1]; exact grown_sets W g 0 _
      have hb1 : Below base W W1 := by rw [← hW1]; exact setCells_below _ _ _ (Below.refl _ _) k5
      have hown : Own W1 base 31 2 (.slice (some ⟨g, 0, none⟩) 0 c) 0 (thF kk) := by
        obtain ⟨cur', z1, z2, _⟩ := setCells_block g (zTh l) 0 W cur k1
        rw [hW1] at z1
        exact Own.mk' z1 (z2.trans k2) (Nat.zero_le _) k4 k5 fun j hj => by omega
      have hrx := hcR W1 hg1
      have HM := mhid (hst W1 hg1 ⟨some ⟨g, 0, none⟩, 0, c, kk⟩ hown (.inl rfl) (Nat.zero_le _))
      have HB := mhid (hb1.setCell (p := ⟨R x, y * 2 + e, none⟩) hlR.1 (.slice (some ⟨g, 0, none⟩) 0 c))
      have nf : W1.frozen? ⟨R x, y * 2 + e, none⟩ = false := by obtain ⟨cr, hcr, _⟩ := hrx.block; exact frz hcr _
      have v1 : W1.cell? ⟨R x, y * 2 + e, none⟩ = some (.slice (some ⟨g, 0, none⟩) l c) := by
        have hne : R x ≠ g := by
          obtain ⟨cr, hcr, _⟩ := hrx.block
          obtain ⟨c3, hc3, _⟩ := hown.block
          exact typ_ne hcr hc3 (by decide)
        refine (World.cell?_of_block (a := ⟨R x, y * 2 + e, none⟩) ?_).trans hv
        rw [← hW1]
        exact setCells_other g _ _ W (R x) hne
      have HK := mhid (kb_sets W (R x) (y * 2 + e) (.slice (some ⟨g, 0, none⟩) 0 c) g (zTh l))
      rw [hW1] at kc HK
      clear hst hcR ho hg1 hb1 hown hrx hcl hW1 k1 k2 k3 k4 k5 k6
      go_enter Try.func39, Try.ntmps39
      go_wp2_with fail
      go_ret
      exact ⟨rfl, HM.out, HB.out, HK.out⟩
end Go.Proofs.Ytkfjcbnhohipgaa
