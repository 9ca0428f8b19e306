import Derived.Test.YtkalhmofjpalkaaC1
import Derived.Deep.RegionLaw
import Derived.Deep.Cut
import Derived.Handy
namespace Go.Proofs.Ytkalhmofjpalkaa
open Go.ChangeShapes Go.WideShapes Go.ChangeAt Go.RowKit
set_option linter.unusedVariables false
set_option linter.unusedSimpArgs false

def lowP (an bn : Bool) (al bl : Int) : Int := match an, bn with
  | true, true => if bl < al then bl else al
  | true, false => al
  | false, true => bl
  | false, false => 0
/-- whose failure counts: the first's (true), or the second's -/
def aheadP (af bf : Bool) (c : Int) : Bool := af && !(bf && decide (c < 0))
def leastV (a b : Vt) : Vt :=
  ⟨lowP a.an b.an a.lo b.lo, a.an || b.an, a.ba || b.ba, a.fa || b.fa,
    if aheadP a.fa b.fa (keyCmp b.t b.s b.q a.t a.s a.q) = true then a.t else if b.fa = true then b.t else 0,
    if aheadP a.fa b.fa (keyCmp b.t b.s b.q a.t a.s a.q) = true then a.s else if b.fa = true then b.s else 0,
    if aheadP a.fa b.fa (keyCmp b.t b.s b.q a.t a.s a.q) = true then a.q else if b.fa = true then b.q else 0,
    if aheadP a.fa b.fa (keyCmp b.t b.s b.q a.t a.s a.q) = true then a.co else if b.fa = true then b.co else 0, wrap64 (a.ct + b.ct)⟩
theorem four {w X w1 : World} {A B C D : Array Value} {T : TypeId} (hX : X = (((w.alloc (.cells A T)).alloc (.cells B T)).alloc (.cells C T)).alloc (.cells D T)) (hb : Below X.heap.size X w1) :
    w1.heap[w.heap.size]? = some (.cells A T (0, 0)) ∧ w1.heap[w.heap.size + 1]? = some (.cells B T (0, 0)) ∧ w1.heap[w.heap.size + 1 + 1]? = some (.cells C T (0, 0)) ∧ w1.heap[w.heap.size + 1 + 1 + 1]? = some (.cells D T (0, 0)) ∧ Below w.heap.size w w1 := by
  have s1 : (w.alloc (.cells A T)).heap.size = w.heap.size + 1 := World.size_alloc _ _
  have b1 : Below w.heap.size w (w.alloc (.cells A T)) := (Below.refl _ w).alloc (Nat.le_refl _) _
  have g1 : (w.alloc (.cells A T)).heap[w.heap.size]? = some (.cells A T (0, 0)) := World.alloc_heap_new w _
  generalize w.alloc (.cells A T) = w2 at hX s1 b1 g1
  have s2 : (w2.alloc (.cells B T)).heap.size = w2.heap.size + 1 := World.size_alloc _ _
  have b2 : Below w2.heap.size w2 (w2.alloc (.cells B T)) := (Below.refl _ w2).alloc (Nat.le_refl _) _
  have g2 : (w2.alloc (.cells B T)).heap[w2.heap.size]? = some (.cells B T (0, 0)) := World.alloc_heap_new w2 _
  generalize w2.alloc (.cells B T) = w3 at hX s2 b2 g2
  have s3 : (w3.alloc (.cells C T)).heap.size = w3.heap.size + 1 := World.size_alloc _ _
  have b3 : Below w3.heap.size w3 (w3.alloc (.cells C T)) := (Below.refl _ w3).alloc (Nat.le_refl _) _
  have g3 : (w3.alloc (.cells C T)).heap[w3.heap.size]? = some (.cells C T (0, 0)) := World.alloc_heap_new w3 _
  generalize w3.alloc (.cells C T) = w4 at hX s3 b3 g3
  have s4 : (w4.alloc (.cells D T)).heap.size = w4.heap.size + 1 := World.size_alloc _ _
  have b4 : Below w4.heap.size w4 (w4.alloc (.cells D T)) := (Below.refl _ w4).alloc (Nat.le_refl _) _
  have g4 : (w4.alloc (.cells D T)).heap[w4.heap.size]? = some (.cells D T (0, 0)) := World.alloc_heap_new w4 _
  rw [← hX] at s4 b4 g4
  rw [s1] at g2 s2
  rw [s2] at g3 s3
  rw [s3] at g4 s4
  refine ⟨?_, ?_, ?_, ?_, ((b1.trans (b2.mono (by omega))).trans (b3.mono (by omega))).trans ((b4.mono (by omega)).trans (hb.mono (by omega)))⟩
  · rw [hb.block _ (by omega), b4.block _ (by omega), b3.block _ (by omega), b2.block _ (by omega)]; exact g1
  · rw [hb.block _ (by omega), b4.block _ (by omega), b3.block _ (by omega)]; exact g2
  · rw [hb.block _ (by omega), b4.block _ (by omega)]; exact g3
  · rw [hb.block _ (by omega)]; exact g4
theorem vcells {W : World} {b : Nat} {v0 v1 v2 v3 v4 v5 v6 v7 v8 : Value} {T : TypeId} (h : W.heap[b]? = some (.cells #[v0, v1, v2, v3, v4, v5, v6, v7, v8] T (0, 0))) :
    W.cell? ⟨b, 0, none⟩ = some v0 ∧ W.cell? ⟨b, 1, none⟩ = some v1 ∧ W.cell? ⟨b, 2, none⟩ = some v2 ∧ W.cell? ⟨b, 3, none⟩ = some v3 ∧ W.cell? ⟨b, 4, none⟩ = some v4 ∧ W.cell? ⟨b, 5, none⟩ = some v5 ∧ W.cell? ⟨b, 6, none⟩ = some v6 ∧ W.cell? ⟨b, 7, none⟩ = some v7 ∧ W.cell? ⟨b, 8, none⟩ = some v8 := by
  refine ⟨?_, ?_, ?_, ?_, ?_, ?_, ?_, ?_, ?_⟩
  all_goals (unfold World.cell?; rw [h]; rfl)
end Go.Proofs.Ytkalhmofjpalkaa
