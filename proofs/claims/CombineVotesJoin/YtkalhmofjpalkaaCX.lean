import Derived.Test.YtkalhmofjpalkaaC2z
import Derived.Test.YtkalhmofjpalkaaC11
import Derived.Test.YtkalhmofjpalkaaCW
import Derived.Test.YtkalhmofjpalkaaB0
import Derived.Deep.DeepCutAuto
namespace Go.Proofs.Ytkalhmofjpalkaa
open Go.ChangeShapes Go.WideShapes Go.ChangeAt Go.RowKit
set_option linter.unusedVariables false
set_option linter.unusedSimpArgs false

def BX (b : Nat) (v : Vt) (W : World) : Prop := W.heap[b]? = some (.cells #[.int .u64 v.lo, .bool v.an, .bool v.ba, .bool v.fa, .int .u64 v.t, .int .i64 v.s, .int .u64 v.q, .int .i64 v.co, .int .i64 v.ct] 27 (0, 0))
theorem BX.later {b : Nat} {v : Vt} {W W' : World} (h : BX b v W) (hb : Below W.heap.size W W') : BX b v W' := (hb.block _ (lt_of_block h)).trans h
theorem BX.cells {b : Nat} {v : Vt} {W : World} (h : BX b v W) : W.cell? ⟨b, 0, none⟩ = some (.int .u64 v.lo) ∧ W.cell? ⟨b, 1, none⟩ = some (.bool v.an) ∧ W.cell? ⟨b, 2, none⟩ = some (.bool v.ba) ∧ W.cell? ⟨b, 3, none⟩ = some (.bool v.fa) ∧ W.cell? ⟨b, 4, none⟩ = some (.int .u64 v.t) ∧ W.cell? ⟨b, 5, none⟩ = some (.int .i64 v.s) ∧ W.cell? ⟨b, 6, none⟩ = some (.int .u64 v.q) ∧ W.cell? ⟨b, 7, none⟩ = some (.int .i64 v.co) ∧ W.cell? ⟨b, 8, none⟩ = some (.int .i64 v.ct) := vcells h
/-- the boxes of the law: three votes, and so far what else was laid -/
structure VH (w : World) (a b c : Vt) (W : World) : Prop where
  a : BX w.heap.size a W
  b : BX (w.heap.size + 1) b W
  c : BX (w.heap.size + 1 + 1) c W
  l : Below w.heap.size w W
theorem VH.later {w W W' : World} {a b c : Vt} (h : VH w a b c W) (hb : Below W.heap.size W W') : VH w a b c W' := ⟨h.a.later hb, h.b.later hb, h.c.later hb, h.l.trans (hb.mono h.l.size)⟩
theorem VH.s1 {w W : World} {a b c : Vt} (h : VH w a b c W) : W.cell? ⟨w.heap.size, 0, none⟩ = some (.int .u64 a.lo) ∧ W.cell? ⟨w.heap.size, 1, none⟩ = some (.bool a.an) ∧ W.cell? ⟨w.heap.size, 2, none⟩ = some (.bool a.ba) ∧ W.cell? ⟨w.heap.size, 3, none⟩ = some (.bool a.fa) ∧ W.cell? ⟨w.heap.size, 4, none⟩ = some (.int .u64 a.t) ∧ W.cell? ⟨w.heap.size, 5, none⟩ = some (.int .i64 a.s) ∧ W.cell? ⟨w.heap.size, 6, none⟩ = some (.int .u64 a.q) ∧ W.cell? ⟨w.heap.size, 7, none⟩ = some (.int .i64 a.co) ∧ W.cell? ⟨w.heap.size, 8, none⟩ = some (.int .i64 a.ct) ∧ W.cell? ⟨w.heap.size + 1, 0, none⟩ = some (.int .u64 b.lo) ∧ W.cell? ⟨w.heap.size + 1, 1, none⟩ = some (.bool b.an) ∧ W.cell? ⟨w.heap.size + 1, 2, none⟩ = some (.bool b.ba) ∧ W.cell? ⟨w.heap.size + 1, 3, none⟩ = some (.bool b.fa) ∧ W.cell? ⟨w.heap.size + 1, 4, none⟩ = some (.int .u64 b.t) ∧ W.cell? ⟨w.heap.size + 1, 5, none⟩ = some (.int .i64 b.s) ∧ W.cell? ⟨w.heap.size + 1, 6, none⟩ = some (.int .u64 b.q) ∧ W.cell? ⟨w.heap.size + 1, 7, none⟩ = some (.int .i64 b.co) ∧ W.cell? ⟨w.heap.size + 1, 8, none⟩ = some (.int .i64 b.ct) ∧ W.cell? ⟨w.heap.size + 1 + 1, 0, none⟩ = some (.int .u64 c.lo) ∧ W.cell? ⟨w.heap.size + 1 + 1, 1, none⟩ = some (.bool c.an) ∧ W.cell? ⟨w.heap.size + 1 + 1, 2, none⟩ = some (.bool c.ba) ∧ W.cell? ⟨w.heap.size + 1 + 1, 3, none⟩ = some (.bool c.fa) ∧ W.cell? ⟨w.heap.size + 1 + 1, 4, none⟩ = some (.int .u64 c.t) ∧ W.cell? ⟨w.heap.size + 1 + 1, 5, none⟩ = some (.int .i64 c.s) ∧ W.cell? ⟨w.heap.size + 1 + 1, 6, none⟩ = some (.int .u64 c.q) ∧ W.cell? ⟨w.heap.size + 1 + 1, 7, none⟩ = some (.int .i64 c.co) ∧ W.cell? ⟨w.heap.size + 1 + 1, 8, none⟩ = some (.int .i64 c.ct) ∧ VH w a b c W := by
  obtain ⟨a0, a1, a2, a3, a4, a5, a6, a7, a8⟩ := h.a.cells
  obtain ⟨b0, b1, b2, b3, b4, b5, b6, b7, b8⟩ := h.b.cells
  obtain ⟨c0, c1, c2, c3, c4, c5, c6, c7, c8⟩ := h.c.cells
  exact ⟨a0, a1, a2, a3, a4, a5, a6, a7, a8, b0, b1, b2, b3, b4, b5, b6, b7, b8, c0, c1, c2, c3, c4, c5, c6, c7, c8, h⟩
theorem VH.s1k {w W w1 : World} {a b c : Vt} (h : W.cell? ⟨w.heap.size, 0, none⟩ = some (.int .u64 a.lo) ∧ W.cell? ⟨w.heap.size, 1, none⟩ = some (.bool a.an) ∧ W.cell? ⟨w.heap.size, 2, none⟩ = some (.bool a.ba) ∧ W.cell? ⟨w.heap.size, 3, none⟩ = some (.bool a.fa) ∧ W.cell? ⟨w.heap.size, 4, none⟩ = some (.int .u64 a.t) ∧ W.cell? ⟨w.heap.size, 5, none⟩ = some (.int .i64 a.s) ∧ W.cell? ⟨w.heap.size, 6, none⟩ = some (.int .u64 a.q) ∧ W.cell? ⟨w.heap.size, 7, none⟩ = some (.int .i64 a.co) ∧ W.cell? ⟨w.heap.size, 8, none⟩ = some (.int .i64 a.ct) ∧ W.cell? ⟨w.heap.size + 1, 0, none⟩ = some (.int .u64 b.lo) ∧ W.cell? ⟨w.heap.size + 1, 1, none⟩ = some (.bool b.an) ∧ W.cell? ⟨w.heap.size + 1, 2, none⟩ = some (.bool b.ba) ∧ W.cell? ⟨w.heap.size + 1, 3, none⟩ = some (.bool b.fa) ∧ W.cell? ⟨w.heap.size + 1, 4, none⟩ = some (.int .u64 b.t) ∧ W.cell? ⟨w.heap.size + 1, 5, none⟩ = some (.int .i64 b.s) ∧ W.cell? ⟨w.heap.size + 1, 6, none⟩ = some (.int .u64 b.q) ∧ W.cell? ⟨w.heap.size + 1, 7, none⟩ = some (.int .i64 b.co) ∧ W.cell? ⟨w.heap.size + 1, 8, none⟩ = some (.int .i64 b.ct) ∧ W.cell? ⟨w.heap.size + 1 + 1, 0, none⟩ = some (.int .u64 c.lo) ∧ W.cell? ⟨w.heap.size + 1 + 1, 1, none⟩ = some (.bool c.an) ∧ W.cell? ⟨w.heap.size + 1 + 1, 2, none⟩ = some (.bool c.ba) ∧ W.cell? ⟨w.heap.size + 1 + 1, 3, none⟩ = some (.bool c.fa) ∧ W.cell? ⟨w.heap.size + 1 + 1, 4, none⟩ = some (.int .u64 c.t) ∧ W.cell? ⟨w.heap.size + 1 + 1, 5, none⟩ = some (.int .i64 c.s) ∧ W.cell? ⟨w.heap.size + 1 + 1, 6, none⟩ = some (.int .u64 c.q) ∧ W.cell? ⟨w.heap.size + 1 + 1, 7, none⟩ = some (.int .i64 c.co) ∧ W.cell? ⟨w.heap.size + 1 + 1, 8, none⟩ = some (.int .i64 c.ct) ∧ VH w a b c W) (hb : Below W.heap.size W w1) : w1.cell? ⟨w.heap.size, 0, none⟩ = some (.int .u64 a.lo) ∧ w1.cell? ⟨w.heap.size, 1, none⟩ = some (.bool a.an) ∧ w1.cell? ⟨w.heap.size, 2, none⟩ = some (.bool a.ba) ∧ w1.cell? ⟨w.heap.size, 3, none⟩ = some (.bool a.fa) ∧ w1.cell? ⟨w.heap.size, 4, none⟩ = some (.int .u64 a.t) ∧ w1.cell? ⟨w.heap.size, 5, none⟩ = some (.int .i64 a.s) ∧ w1.cell? ⟨w.heap.size, 6, none⟩ = some (.int .u64 a.q) ∧ w1.cell? ⟨w.heap.size, 7, none⟩ = some (.int .i64 a.co) ∧ w1.cell? ⟨w.heap.size, 8, none⟩ = some (.int .i64 a.ct) ∧ w1.cell? ⟨w.heap.size + 1, 0, none⟩ = some (.int .u64 b.lo) ∧ w1.cell? ⟨w.heap.size + 1, 1, none⟩ = some (.bool b.an) ∧ w1.cell? ⟨w.heap.size + 1, 2, none⟩ = some (.bool b.ba) ∧ w1.cell? ⟨w.heap.size + 1, 3, none⟩ = some (.bool b.fa) ∧ w1.cell? ⟨w.heap.size + 1, 4, none⟩ = some (.int .u64 b.t) ∧ w1.cell? ⟨w.heap.size + 1, 5, none⟩ = some (.int .i64 b.s) ∧ w1.cell? ⟨w.heap.size + 1, 6, none⟩ = some (.int .u64 b.q) ∧ w1.cell? ⟨w.heap.size + 1, 7, none⟩ = some (.int .i64 b.co) ∧ w1.cell? ⟨w.heap.size + 1, 8, none⟩ = some (.int .i64 b.ct) ∧ w1.cell? ⟨w.heap.size + 1 + 1, 0, none⟩ = some (.int .u64 c.lo) ∧ w1.cell? ⟨w.heap.size + 1 + 1, 1, none⟩ = some (.bool c.an) ∧ w1.cell? ⟨w.heap.size + 1 + 1, 2, none⟩ = some (.bool c.ba) ∧ w1.cell? ⟨w.heap.size + 1 + 1, 3, none⟩ = some (.bool c.fa) ∧ w1.cell? ⟨w.heap.size + 1 + 1, 4, none⟩ = some (.int .u64 c.t) ∧ w1.cell? ⟨w.heap.size + 1 + 1, 5, none⟩ = some (.int .i64 c.s) ∧ w1.cell? ⟨w.heap.size + 1 + 1, 6, none⟩ = some (.int .u64 c.q) ∧ w1.cell? ⟨w.heap.size + 1 + 1, 7, none⟩ = some (.int .i64 c.co) ∧ w1.cell? ⟨w.heap.size + 1 + 1, 8, none⟩ = some (.int .i64 c.ct) ∧ VH w a b c w1 := (h.2.2.2.2.2.2.2.2.2.2.2.2.2.2.2.2.2.2.2.2.2.2.2.2.2.2.2.later hb).s1
theorem VH.start (w : World) (a b c : Vt) : VH w a b c (((w.alloc (.cells #[.int .u64 a.lo, .bool a.an, .bool a.ba, .bool a.fa, .int .u64 a.t, .int .i64 a.s, .int .u64 a.q, .int .i64 a.co, .int .i64 a.ct] 27)).alloc (.cells #[.int .u64 b.lo, .bool b.an, .bool b.ba, .bool b.fa, .int .u64 b.t, .int .i64 b.s, .int .u64 b.q, .int .i64 b.co, .int .i64 b.ct] 27)).alloc (.cells #[.int .u64 c.lo, .bool c.an, .bool c.ba, .bool c.fa, .int .u64 c.t, .int .i64 c.s, .int .u64 c.q, .int .i64 c.co, .int .i64 c.ct] 27)) := by
  have b1 : Below w.heap.size w (((w.alloc (.cells #[.int .u64 a.lo, .bool a.an, .bool a.ba, .bool a.fa, .int .u64 a.t, .int .i64 a.s, .int .u64 a.q, .int .i64 a.co, .int .i64 a.ct] 27)).alloc (.cells #[.int .u64 b.lo, .bool b.an, .bool b.ba, .bool b.fa, .int .u64 b.t, .int .i64 b.s, .int .u64 b.q, .int .i64 b.co, .int .i64 b.ct] 27)).alloc (.cells #[.int .u64 c.lo, .bool c.an, .bool c.ba, .bool c.fa, .int .u64 c.t, .int .i64 c.s, .int .u64 c.q, .int .i64 c.co, .int .i64 c.ct] 27)) := (((Below.refl _ w).alloc (Nat.le_refl _) _).alloc (by simp) _).alloc (by simp; omega) _
  have g1 : BX w.heap.size a (w.alloc (.cells #[.int .u64 a.lo, .bool a.an, .bool a.ba, .bool a.fa, .int .u64 a.t, .int .i64 a.s, .int .u64 a.q, .int .i64 a.co, .int .i64 a.ct] 27)) := World.alloc_heap_new w _
  have g2 := World.alloc_heap_new (w.alloc (.cells #[.int .u64 a.lo, .bool a.an, .bool a.ba, .bool a.fa, .int .u64 a.t, .int .i64 a.s, .int .u64 a.q, .int .i64 a.co, .int .i64 a.ct] 27)) (.cells #[.int .u64 b.lo, .bool b.an, .bool b.ba, .bool b.fa, .int .u64 b.t, .int .i64 b.s, .int .u64 b.q, .int .i64 b.co, .int .i64 b.ct] 27)
  have g3 := World.alloc_heap_new ((w.alloc (.cells #[.int .u64 a.lo, .bool a.an, .bool a.ba, .bool a.fa, .int .u64 a.t, .int .i64 a.s, .int .u64 a.q, .int .i64 a.co, .int .i64 a.ct] 27)).alloc (.cells #[.int .u64 b.lo, .bool b.an, .bool b.ba, .bool b.fa, .int .u64 b.t, .int .i64 b.s, .int .u64 b.q, .int .i64 b.co, .int .i64 b.ct] 27)) (.cells #[.int .u64 c.lo, .bool c.an, .bool c.ba, .bool c.fa, .int .u64 c.t, .int .i64 c.s, .int .u64 c.q, .int .i64 c.co, .int .i64 c.ct] 27)
  rw [World.size_alloc] at g2
  rw [World.size_alloc, World.size_alloc] at g3
  have g2' : BX (w.heap.size + 1) b ((w.alloc (.cells #[.int .u64 a.lo, .bool a.an, .bool a.ba, .bool a.fa, .int .u64 a.t, .int .i64 a.s, .int .u64 a.q, .int .i64 a.co, .int .i64 a.ct] 27)).alloc (.cells #[.int .u64 b.lo, .bool b.an, .bool b.ba, .bool b.fa, .int .u64 b.t, .int .i64 b.s, .int .u64 b.q, .int .i64 b.co, .int .i64 b.ct] 27)) := g2
  exact ⟨(g1.later ((Below.refl _ _).alloc (Nat.le_refl _) _)).later ((Below.refl _ _).alloc (Nat.le_refl _) _), g2'.later ((Below.refl _ _).alloc (Nat.le_refl _) _), g3, b1⟩
def S4p (w : World) (a b c e : Vt) (d : Nat) (W : World) : Prop := VH w a b c W ∧ BX d e W
theorem S4p.s {w W : World} {a b c e : Vt} {d : Nat} (h : S4p w a b c e d W) : W.cell? ⟨w.heap.size, 0, none⟩ = some (.int .u64 a.lo) ∧ W.cell? ⟨w.heap.size, 1, none⟩ = some (.bool a.an) ∧ W.cell? ⟨w.heap.size, 2, none⟩ = some (.bool a.ba) ∧ W.cell? ⟨w.heap.size, 3, none⟩ = some (.bool a.fa) ∧ W.cell? ⟨w.heap.size, 4, none⟩ = some (.int .u64 a.t) ∧ W.cell? ⟨w.heap.size, 5, none⟩ = some (.int .i64 a.s) ∧ W.cell? ⟨w.heap.size, 6, none⟩ = some (.int .u64 a.q) ∧ W.cell? ⟨w.heap.size, 7, none⟩ = some (.int .i64 a.co) ∧ W.cell? ⟨w.heap.size, 8, none⟩ = some (.int .i64 a.ct) ∧ W.cell? ⟨d, 0, none⟩ = some (.int .u64 e.lo) ∧ W.cell? ⟨d, 1, none⟩ = some (.bool e.an) ∧ W.cell? ⟨d, 2, none⟩ = some (.bool e.ba) ∧ W.cell? ⟨d, 3, none⟩ = some (.bool e.fa) ∧ W.cell? ⟨d, 4, none⟩ = some (.int .u64 e.t) ∧ W.cell? ⟨d, 5, none⟩ = some (.int .i64 e.s) ∧ W.cell? ⟨d, 6, none⟩ = some (.int .u64 e.q) ∧ W.cell? ⟨d, 7, none⟩ = some (.int .i64 e.co) ∧ W.cell? ⟨d, 8, none⟩ = some (.int .i64 e.ct) ∧ S4p w a b c e d W := by
  obtain ⟨a0, a1, a2, a3, a4, a5, a6, a7, a8⟩ := h.1.a.cells
  obtain ⟨b0, b1, b2, b3, b4, b5, b6, b7, b8⟩ := h.2.cells
  exact ⟨a0, a1, a2, a3, a4, a5, a6, a7, a8, b0, b1, b2, b3, b4, b5, b6, b7, b8, h⟩
theorem S4p.later {w W w1 : World} {a b c e : Vt} {d : Nat} (h : S4p w a b c e d W) (hb : Below W.heap.size W w1) : S4p w a b c e d w1 := ⟨h.1.later hb, h.2.later hb⟩
theorem S4p.k {w W w1 : World} {a b c e : Vt} {d : Nat} (h : W.cell? ⟨w.heap.size, 0, none⟩ = some (.int .u64 a.lo) ∧ W.cell? ⟨w.heap.size, 1, none⟩ = some (.bool a.an) ∧ W.cell? ⟨w.heap.size, 2, none⟩ = some (.bool a.ba) ∧ W.cell? ⟨w.heap.size, 3, none⟩ = some (.bool a.fa) ∧ W.cell? ⟨w.heap.size, 4, none⟩ = some (.int .u64 a.t) ∧ W.cell? ⟨w.heap.size, 5, none⟩ = some (.int .i64 a.s) ∧ W.cell? ⟨w.heap.size, 6, none⟩ = some (.int .u64 a.q) ∧ W.cell? ⟨w.heap.size, 7, none⟩ = some (.int .i64 a.co) ∧ W.cell? ⟨w.heap.size, 8, none⟩ = some (.int .i64 a.ct) ∧ W.cell? ⟨d, 0, none⟩ = some (.int .u64 e.lo) ∧ W.cell? ⟨d, 1, none⟩ = some (.bool e.an) ∧ W.cell? ⟨d, 2, none⟩ = some (.bool e.ba) ∧ W.cell? ⟨d, 3, none⟩ = some (.bool e.fa) ∧ W.cell? ⟨d, 4, none⟩ = some (.int .u64 e.t) ∧ W.cell? ⟨d, 5, none⟩ = some (.int .i64 e.s) ∧ W.cell? ⟨d, 6, none⟩ = some (.int .u64 e.q) ∧ W.cell? ⟨d, 7, none⟩ = some (.int .i64 e.co) ∧ W.cell? ⟨d, 8, none⟩ = some (.int .i64 e.ct) ∧ S4p w a b c e d W) (hb : Below W.heap.size W w1) : w1.cell? ⟨w.heap.size, 0, none⟩ = some (.int .u64 a.lo) ∧ w1.cell? ⟨w.heap.size, 1, none⟩ = some (.bool a.an) ∧ w1.cell? ⟨w.heap.size, 2, none⟩ = some (.bool a.ba) ∧ w1.cell? ⟨w.heap.size, 3, none⟩ = some (.bool a.fa) ∧ w1.cell? ⟨w.heap.size, 4, none⟩ = some (.int .u64 a.t) ∧ w1.cell? ⟨w.heap.size, 5, none⟩ = some (.int .i64 a.s) ∧ w1.cell? ⟨w.heap.size, 6, none⟩ = some (.int .u64 a.q) ∧ w1.cell? ⟨w.heap.size, 7, none⟩ = some (.int .i64 a.co) ∧ w1.cell? ⟨w.heap.size, 8, none⟩ = some (.int .i64 a.ct) ∧ w1.cell? ⟨d, 0, none⟩ = some (.int .u64 e.lo) ∧ w1.cell? ⟨d, 1, none⟩ = some (.bool e.an) ∧ w1.cell? ⟨d, 2, none⟩ = some (.bool e.ba) ∧ w1.cell? ⟨d, 3, none⟩ = some (.bool e.fa) ∧ w1.cell? ⟨d, 4, none⟩ = some (.int .u64 e.t) ∧ w1.cell? ⟨d, 5, none⟩ = some (.int .i64 e.s) ∧ w1.cell? ⟨d, 6, none⟩ = some (.int .u64 e.q) ∧ w1.cell? ⟨d, 7, none⟩ = some (.int .i64 e.co) ∧ w1.cell? ⟨d, 8, none⟩ = some (.int .i64 e.ct) ∧ S4p w a b c e d w1 := (h.2.2.2.2.2.2.2.2.2.2.2.2.2.2.2.2.2.2.later hb).s
set_option maxRecDepth 100000 in
set_option maxHeartbeats 16000000 in
attribute [-go_sem] run_eql_struct in
theorem join_law (alo att ass aqq aco act blo btt bss bqq bco bct clo ctt css cqq cco cct : Int) (aan aba afa ban bba bfa can cba cfa : Bool) (xa : -9223372036854775808 ≤ act) (xb : act ≤ 9223372036854775807) (w : World) : Calls Try.prog 3 #[vtA ⟨alo, aan, aba, afa, att, ass, aqq, aco, act⟩, vtA ⟨blo, ban, bba, bfa, btt, bss, bqq, bco, bct⟩, vtA ⟨clo, can, cba, cfa, ctt, css, cqq, cco, cct⟩] w fun e w' => e = .returned (.bool true) ∧ Below w.heap.size w w' := by
  have NQ := fun v W => neq_vt_same v W
  have LA := fun (a b : Vt) W => least_any a b W
  have hz : vtA z0 = .agg #[.int .u64 0, .bool false, .bool false, .bool false, .int .u64 0, .int .i64 0, .int .u64 0, .int .i64 0, .int .i64 0] := rfl
  have E0 := fun W => LA ⟨alo, aan, aba, afa, att, ass, aqq, aco, act⟩ z0 W
  have E1 := fun W => LA z0 ⟨alo, aan, aba, afa, att, ass, aqq, aco, act⟩ W
  have E2 := fun W => LA (clnV ⟨alo, aan, aba, afa, att, ass, aqq, aco, act⟩) z0 W
  rw [least_r0 _ xa xb] at E0
  rw [least_l0 _ xa xb] at E1
  rw [least_r0 (clnV ⟨alo, aan, aba, afa, att, ass, aqq, aco, act⟩) xa xb, cln_cln] at E2
  rw [hz] at E0 E1 E2
  obtain ⟨p, hp⟩ : ∃ p, leastV ⟨alo, aan, aba, afa, att, ass, aqq, aco, act⟩ ⟨blo, ban, bba, bfa, btt, bss, bqq, bco, bct⟩ = p := ⟨_, rfl⟩
  obtain ⟨r, hr⟩ : ∃ r, leastV ⟨blo, ban, bba, bfa, btt, bss, bqq, bco, bct⟩ ⟨clo, can, cba, cfa, ctt, css, cqq, cco, cct⟩ = r := ⟨_, rfl⟩
  obtain ⟨t, ht⟩ : ∃ t, leastV p ⟨clo, can, cba, cfa, ctt, css, cqq, cco, cct⟩ = t := ⟨_, rfl⟩
  have ht2 : leastV ⟨alo, aan, aba, afa, att, ass, aqq, aco, act⟩ r = t := by rw [← hr, ← ht, ← hp, least_assoc]
  have LB := fun W => LA ⟨alo, aan, aba, afa, att, ass, aqq, aco, act⟩ ⟨blo, ban, bba, bfa, btt, bss, bqq, bco, bct⟩ W
  have LC := fun W => LA ⟨blo, ban, bba, bfa, btt, bss, bqq, bco, bct⟩ ⟨clo, can, cba, cfa, ctt, css, cqq, cco, cct⟩ W
  have LD := fun W => LA p ⟨clo, can, cba, cfa, ctt, css, cqq, cco, cct⟩ W
  have LF := fun W => LA ⟨alo, aan, aba, afa, att, ass, aqq, aco, act⟩ r W
  rw [hp] at LB
  rw [hr] at LC
  rw [ht] at LD
  rw [ht2] at LF
  have nt := NQ t
  obtain ⟨plo, pan, pba, pfa, ptt, pss, pqq, pco, pct⟩ := p
  have HP : Hid (leastV ⟨alo, aan, aba, afa, att, ass, aqq, aco, act⟩ ⟨blo, ban, bba, bfa, btt, bss, bqq, bco, bct⟩ = ⟨plo, pan, pba, pfa, ptt, pss, pqq, pco, pct⟩) := hp
  obtain ⟨el, et, es, eq, eco, he⟩ : ∃ el et es eq eco, clnV ⟨alo, aan, aba, afa, att, ass, aqq, aco, act⟩ = ⟨el, aan, aba, afa, et, es, eq, eco, act⟩ := ⟨_, _, _, _, _, rfl⟩
  rw [he] at E0 E1 E2
  have ne := NQ ⟨el, aan, aba, afa, et, es, eq, eco, act⟩
  have HE : Hid (clnV ⟨alo, aan, aba, afa, att, ass, aqq, aco, act⟩ = ⟨el, aan, aba, afa, et, es, eq, eco, act⟩) := he
  clear LA NQ hz hp hr ht ht2 he
  unfold vtA at nt ne LB LC LD LF E0 E1 E2 ⊢
  dsimp only at ne LB LC LD LF E0 E1 E2 ⊢
  go_enter Try.func3, Try.ntmps3
  go_wp2_with fail
  have HS : Hid (VH w ⟨alo, aan, aba, afa, att, ass, aqq, aco, act⟩ ⟨blo, ban, bba, bfa, btt, bss, bqq, bco, bct⟩ ⟨clo, can, cba, cfa, ctt, css, cqq, cco, cct⟩ (((w.alloc (.cells #[.int .u64 alo, .bool aan, .bool aba, .bool afa, .int .u64 att, .int .i64 ass, .int .u64 aqq, .int .i64 aco, .int .i64 act] 27)).alloc (.cells #[.int .u64 blo, .bool ban, .bool bba, .bool bfa, .int .u64 btt, .int .i64 bss, .int .u64 bqq, .int .i64 bco, .int .i64 bct] 27)).alloc (.cells #[.int .u64 clo, .bool can, .bool cba, .bool cfa, .int .u64 ctt, .int .i64 css, .int .u64 cqq, .int .i64 cco, .int .i64 cct] 27)).drew) := (VH.start w ⟨alo, aan, aba, afa, att, ass, aqq, aco, act⟩ ⟨blo, ban, bba, bfa, btt, bss, bqq, bco, bct⟩ ⟨clo, can, cba, cfa, ctt, css, cqq, cco, cct⟩).later (drewB _)
  go_region_held3 (fun W => W.cell? ⟨w.heap.size, 0, none⟩ = some (.int .u64 alo) ∧ W.cell? ⟨w.heap.size, 1, none⟩ = some (.bool aan) ∧ W.cell? ⟨w.heap.size, 2, none⟩ = some (.bool aba) ∧ W.cell? ⟨w.heap.size, 3, none⟩ = some (.bool afa) ∧ W.cell? ⟨w.heap.size, 4, none⟩ = some (.int .u64 att) ∧ W.cell? ⟨w.heap.size, 5, none⟩ = some (.int .i64 ass) ∧ W.cell? ⟨w.heap.size, 6, none⟩ = some (.int .u64 aqq) ∧ W.cell? ⟨w.heap.size, 7, none⟩ = some (.int .i64 aco) ∧ W.cell? ⟨w.heap.size, 8, none⟩ = some (.int .i64 act) ∧ W.cell? ⟨w.heap.size + 1, 0, none⟩ = some (.int .u64 blo) ∧ W.cell? ⟨w.heap.size + 1, 1, none⟩ = some (.bool ban) ∧ W.cell? ⟨w.heap.size + 1, 2, none⟩ = some (.bool bba) ∧ W.cell? ⟨w.heap.size + 1, 3, none⟩ = some (.bool bfa) ∧ W.cell? ⟨w.heap.size + 1, 4, none⟩ = some (.int .u64 btt) ∧ W.cell? ⟨w.heap.size + 1, 5, none⟩ = some (.int .i64 bss) ∧ W.cell? ⟨w.heap.size + 1, 6, none⟩ = some (.int .u64 bqq) ∧ W.cell? ⟨w.heap.size + 1, 7, none⟩ = some (.int .i64 bco) ∧ W.cell? ⟨w.heap.size + 1, 8, none⟩ = some (.int .i64 bct) ∧ W.cell? ⟨w.heap.size + 1 + 1, 0, none⟩ = some (.int .u64 clo) ∧ W.cell? ⟨w.heap.size + 1 + 1, 1, none⟩ = some (.bool can) ∧ W.cell? ⟨w.heap.size + 1 + 1, 2, none⟩ = some (.bool cba) ∧ W.cell? ⟨w.heap.size + 1 + 1, 3, none⟩ = some (.bool cfa) ∧ W.cell? ⟨w.heap.size + 1 + 1, 4, none⟩ = some (.int .u64 ctt) ∧ W.cell? ⟨w.heap.size + 1 + 1, 5, none⟩ = some (.int .i64 css) ∧ W.cell? ⟨w.heap.size + 1 + 1, 6, none⟩ = some (.int .u64 cqq) ∧ W.cell? ⟨w.heap.size + 1 + 1, 7, none⟩ = some (.int .i64 cco) ∧ W.cell? ⟨w.heap.size + 1 + 1, 8, none⟩ = some (.int .i64 cct) ∧ VH w ⟨alo, aan, aba, afa, att, ass, aqq, aco, act⟩ ⟨blo, ban, bba, bfa, btt, bss, bqq, bco, bct⟩ ⟨clo, can, cba, cfa, ctt, css, cqq, cco, cct⟩ W) (first | (exact VH.s1 HS.out) | (refine VH.s1k (a := ⟨alo, aan, aba, afa, att, ass, aqq, aco, act⟩) (b := ⟨blo, ban, bba, bfa, btt, bss, bqq, bco, bct⟩) (c := ⟨clo, can, cba, cfa, ctt, css, cqq, cco, cct⟩) ?_ hb; assumption)) ((go_at_call 9; (first | (with_reducible refine (LB _).mono ?_) | (with_reducible refine (LC _).mono ?_) | (with_reducible refine (LD _).mono ?_) | (with_reducible refine (LF _).mono ?_)); rintro e w' ⟨rfl, hb⟩))
  have hV : VH w ⟨alo, aan, aba, afa, att, ass, aqq, aco, act⟩ ⟨blo, ban, bba, bfa, btt, bss, bqq, bco, bct⟩ ⟨clo, can, cba, cfa, ctt, css, cqq, cco, cct⟩ w' := (show w'.cell? ⟨w.heap.size, 0, none⟩ = some (.int .u64 alo) ∧ w'.cell? ⟨w.heap.size, 1, none⟩ = some (.bool aan) ∧ w'.cell? ⟨w.heap.size, 2, none⟩ = some (.bool aba) ∧ w'.cell? ⟨w.heap.size, 3, none⟩ = some (.bool afa) ∧ w'.cell? ⟨w.heap.size, 4, none⟩ = some (.int .u64 att) ∧ w'.cell? ⟨w.heap.size, 5, none⟩ = some (.int .i64 ass) ∧ w'.cell? ⟨w.heap.size, 6, none⟩ = some (.int .u64 aqq) ∧ w'.cell? ⟨w.heap.size, 7, none⟩ = some (.int .i64 aco) ∧ w'.cell? ⟨w.heap.size, 8, none⟩ = some (.int .i64 act) ∧ w'.cell? ⟨w.heap.size + 1, 0, none⟩ = some (.int .u64 blo) ∧ w'.cell? ⟨w.heap.size + 1, 1, none⟩ = some (.bool ban) ∧ w'.cell? ⟨w.heap.size + 1, 2, none⟩ = some (.bool bba) ∧ w'.cell? ⟨w.heap.size + 1, 3, none⟩ = some (.bool bfa) ∧ w'.cell? ⟨w.heap.size + 1, 4, none⟩ = some (.int .u64 btt) ∧ w'.cell? ⟨w.heap.size + 1, 5, none⟩ = some (.int .i64 bss) ∧ w'.cell? ⟨w.heap.size + 1, 6, none⟩ = some (.int .u64 bqq) ∧ w'.cell? ⟨w.heap.size + 1, 7, none⟩ = some (.int .i64 bco) ∧ w'.cell? ⟨w.heap.size + 1, 8, none⟩ = some (.int .i64 bct) ∧ w'.cell? ⟨w.heap.size + 1 + 1, 0, none⟩ = some (.int .u64 clo) ∧ w'.cell? ⟨w.heap.size + 1 + 1, 1, none⟩ = some (.bool can) ∧ w'.cell? ⟨w.heap.size + 1 + 1, 2, none⟩ = some (.bool cba) ∧ w'.cell? ⟨w.heap.size + 1 + 1, 3, none⟩ = some (.bool cfa) ∧ w'.cell? ⟨w.heap.size + 1 + 1, 4, none⟩ = some (.int .u64 ctt) ∧ w'.cell? ⟨w.heap.size + 1 + 1, 5, none⟩ = some (.int .i64 css) ∧ w'.cell? ⟨w.heap.size + 1 + 1, 6, none⟩ = some (.int .u64 cqq) ∧ w'.cell? ⟨w.heap.size + 1 + 1, 7, none⟩ = some (.int .i64 cco) ∧ w'.cell? ⟨w.heap.size + 1 + 1, 8, none⟩ = some (.int .i64 cct) ∧ VH w ⟨alo, aan, aba, afa, att, ass, aqq, aco, act⟩ ⟨blo, ban, bba, bfa, btt, bss, bqq, bco, bct⟩ ⟨clo, can, cba, cfa, ctt, css, cqq, cco, cct⟩ w' from by assumption).2.2.2.2.2.2.2.2.2.2.2.2.2.2.2.2.2.2.2.2.2.2.2.2.2.2.2
  have HV : Hid (VH w ⟨alo, aan, aba, afa, att, ass, aqq, aco, act⟩ ⟨blo, ban, bba, bfa, btt, bss, bqq, bco, bct⟩ ⟨clo, can, cba, cfa, ctt, css, cqq, cco, cct⟩ w') := hV
  obtain ⟨a0, a1, a2, a3, a4, a5, a6, a7, a8⟩ := hV.a.cells
  dsimp only at a0 a1 a2 a3 a4 a5 a6 a7 a8
  clear hV HS LC LD LF nt hb
  go_upto_region 4 with ((go_at_call 9; (with_reducible refine (E0 _).mono ?_); rintro e' w2 ⟨rfl, hb2⟩))
  obtain ⟨d, hd⟩ : ∃ d, w2.heap.size = d := ⟨_, rfl⟩
  obtain ⟨W3, hW3⟩ : ∃ W3, w2.alloc (.cells #[.int .u64 el, .bool aan, .bool aba, .bool afa, .int .u64 et, .int .i64 es, .int .u64 eq, .int .i64 eco, .int .i64 act] 27) = W3 := ⟨_, rfl⟩
  have h4 : S4p w ⟨alo, aan, aba, afa, att, ass, aqq, aco, act⟩ ⟨blo, ban, bba, bfa, btt, bss, bqq, bco, bct⟩ ⟨clo, can, cba, cfa, ctt, css, cqq, cco, cct⟩ ⟨el, aan, aba, afa, et, es, eq, eco, act⟩ d W3 := by
    rw [← hW3, ← hd]
    exact ⟨(HV.out.later hb2).later ((Below.refl _ _).alloc (Nat.le_refl _) _), World.alloc_heap_new w2 _⟩
  rw [hd, hW3]
  clear hd hW3 hb2 HV E0
  have H4d : Hid (S4p w ⟨alo, aan, aba, afa, att, ass, aqq, aco, act⟩ ⟨blo, ban, bba, bfa, btt, bss, bqq, bco, bct⟩ ⟨clo, can, cba, cfa, ctt, css, cqq, cco, cct⟩ ⟨el, aan, aba, afa, et, es, eq, eco, act⟩ d W3.drew) := h4.later (drewB _)
  clear h4 a0 a1 a2 a3 a4 a5 a6 a7 a8
  go_region_held3 (fun W => W.cell? ⟨w.heap.size, 0, none⟩ = some (.int .u64 alo) ∧ W.cell? ⟨w.heap.size, 1, none⟩ = some (.bool aan) ∧ W.cell? ⟨w.heap.size, 2, none⟩ = some (.bool aba) ∧ W.cell? ⟨w.heap.size, 3, none⟩ = some (.bool afa) ∧ W.cell? ⟨w.heap.size, 4, none⟩ = some (.int .u64 att) ∧ W.cell? ⟨w.heap.size, 5, none⟩ = some (.int .i64 ass) ∧ W.cell? ⟨w.heap.size, 6, none⟩ = some (.int .u64 aqq) ∧ W.cell? ⟨w.heap.size, 7, none⟩ = some (.int .i64 aco) ∧ W.cell? ⟨w.heap.size, 8, none⟩ = some (.int .i64 act) ∧ W.cell? ⟨d, 0, none⟩ = some (.int .u64 el) ∧ W.cell? ⟨d, 1, none⟩ = some (.bool aan) ∧ W.cell? ⟨d, 2, none⟩ = some (.bool aba) ∧ W.cell? ⟨d, 3, none⟩ = some (.bool afa) ∧ W.cell? ⟨d, 4, none⟩ = some (.int .u64 et) ∧ W.cell? ⟨d, 5, none⟩ = some (.int .i64 es) ∧ W.cell? ⟨d, 6, none⟩ = some (.int .u64 eq) ∧ W.cell? ⟨d, 7, none⟩ = some (.int .i64 eco) ∧ W.cell? ⟨d, 8, none⟩ = some (.int .i64 act) ∧ S4p w ⟨alo, aan, aba, afa, att, ass, aqq, aco, act⟩ ⟨blo, ban, bba, bfa, btt, bss, bqq, bco, bct⟩ ⟨clo, can, cba, cfa, ctt, css, cqq, cco, cct⟩ ⟨el, aan, aba, afa, et, es, eq, eco, act⟩ d W) (first | (exact H4d.out.s) | (refine S4p.k (a := ⟨alo, aan, aba, afa, att, ass, aqq, aco, act⟩) (e := ⟨el, aan, aba, afa, et, es, eq, eco, act⟩) ?_ hb; assumption)) ((go_at_call 9; (first | (with_reducible refine (E1 _).mono ?_) | (with_reducible refine (E2 _).mono ?_)); rintro e w' ⟨rfl, hb⟩))
  have h5 : S4p w ⟨alo, aan, aba, afa, att, ass, aqq, aco, act⟩ ⟨blo, ban, bba, bfa, btt, bss, bqq, bco, bct⟩ ⟨clo, can, cba, cfa, ctt, css, cqq, cco, cct⟩ ⟨el, aan, aba, afa, et, es, eq, eco, act⟩ d w' := (show w'.cell? ⟨w.heap.size, 0, none⟩ = some (.int .u64 alo) ∧ w'.cell? ⟨w.heap.size, 1, none⟩ = some (.bool aan) ∧ w'.cell? ⟨w.heap.size, 2, none⟩ = some (.bool aba) ∧ w'.cell? ⟨w.heap.size, 3, none⟩ = some (.bool afa) ∧ w'.cell? ⟨w.heap.size, 4, none⟩ = some (.int .u64 att) ∧ w'.cell? ⟨w.heap.size, 5, none⟩ = some (.int .i64 ass) ∧ w'.cell? ⟨w.heap.size, 6, none⟩ = some (.int .u64 aqq) ∧ w'.cell? ⟨w.heap.size, 7, none⟩ = some (.int .i64 aco) ∧ w'.cell? ⟨w.heap.size, 8, none⟩ = some (.int .i64 act) ∧ w'.cell? ⟨d, 0, none⟩ = some (.int .u64 el) ∧ w'.cell? ⟨d, 1, none⟩ = some (.bool aan) ∧ w'.cell? ⟨d, 2, none⟩ = some (.bool aba) ∧ w'.cell? ⟨d, 3, none⟩ = some (.bool afa) ∧ w'.cell? ⟨d, 4, none⟩ = some (.int .u64 et) ∧ w'.cell? ⟨d, 5, none⟩ = some (.int .i64 es) ∧ w'.cell? ⟨d, 6, none⟩ = some (.int .u64 eq) ∧ w'.cell? ⟨d, 7, none⟩ = some (.int .i64 eco) ∧ w'.cell? ⟨d, 8, none⟩ = some (.int .i64 act) ∧ S4p w ⟨alo, aan, aba, afa, att, ass, aqq, aco, act⟩ ⟨blo, ban, bba, bfa, btt, bss, bqq, bco, bct⟩ ⟨clo, can, cba, cfa, ctt, css, cqq, cco, cct⟩ ⟨el, aan, aba, afa, et, es, eq, eco, act⟩ d w' from by assumption).2.2.2.2.2.2.2.2.2.2.2.2.2.2.2.2.2.2
  have H5 : Hid (S4p w ⟨alo, aan, aba, afa, att, ass, aqq, aco, act⟩ ⟨blo, ban, bba, bfa, btt, bss, bqq, bco, bct⟩ ⟨clo, can, cba, cfa, ctt, css, cqq, cco, cct⟩ ⟨el, aan, aba, afa, et, es, eq, eco, act⟩ d w') := h5
  obtain ⟨a0, a1, a2, a3, a4, a5, a6, a7, a8⟩ := h5.1.a.cells
  obtain ⟨d0, d1, d2, d3, d4, d5, d6, d7, d8⟩ := h5.2.cells
  obtain ⟨b0, b1, b2, b3, b4, b5, b6, b7, b8⟩ := h5.1.b.cells
  dsimp only at a0 a1 a2 a3 a4 a5 a6 a7 a8 b0 b1 b2 b3 b4 b5 b6 b7 b8 d0 d1 d2 d3 d4 d5 d6 d7 d8
  clear h5 H4d E1 E2 ne hb
  go_upto_region 6 with fail
  go_cut [99] (fun x wc => x = .bool false ∧ wc = w')
  case first => as_aux_lemma =>
    have h9 := HE.out
    unfold clnV at h9
    injection h9 with h90 h91 h92 h93 h94 h95 h96 h97 h98
    cases aan <;> cases afa
    all_goals (
      simp at h90 h94 h95 h96 h97
      subst h90 h94 h95 h96 h97
      go_wp2_with fail
      go_meet
      exact ⟨rfl, rfl⟩)
  case rest => as_aux_lemma =>
    obtain ⟨rfl, rfl⟩ := hcut
    go_upto_region 9 with ((go_at_call 9; (with_reducible refine (LB _).mono ?_); rintro e' w4 ⟨rfl, hb4⟩))
    obtain ⟨f, hf⟩ : ∃ f, w4.heap.size = f := ⟨_, rfl⟩
    obtain ⟨W5, hW5⟩ : ∃ W5, w4.alloc (.cells #[.int .u64 plo, .bool pan, .bool pba, .bool pfa, .int .u64 ptt, .int .i64 pss, .int .u64 pqq, .int .i64 pco, .int .i64 pct] 27) = W5 := ⟨_, rfl⟩
    have h6 : S4p w ⟨alo, aan, aba, afa, att, ass, aqq, aco, act⟩ ⟨blo, ban, bba, bfa, btt, bss, bqq, bco, bct⟩ ⟨clo, can, cba, cfa, ctt, css, cqq, cco, cct⟩ ⟨plo, pan, pba, pfa, ptt, pss, pqq, pco, pct⟩ f W5 := by
      rw [← hW5, ← hf]
      exact ⟨(H5.out.1.later hb4).later ((Below.refl _ _).alloc (Nat.le_refl _) _), World.alloc_heap_new w4 _⟩
    rw [hf, hW5]
    have H6 : Hid (S4p w ⟨alo, aan, aba, afa, att, ass, aqq, aco, act⟩ ⟨blo, ban, bba, bfa, btt, bss, bqq, bco, bct⟩ ⟨clo, can, cba, cfa, ctt, css, cqq, cco, cct⟩ ⟨plo, pan, pba, pfa, ptt, pss, pqq, pco, pct⟩ f W5) := h6
    clear hf hW5 hb4 H5 LB a0 a1 a2 a3 a4 a5 a6 a7 a8 b0 b1 b2 b3 b4 b5 b6 b7 b8 d0 d1 d2 d3 d4 d5 d6 d7 d8
    obtain ⟨a0, a1, a2, a3, a4, a5, a6, a7, a8⟩ := h6.1.a.cells
    obtain ⟨b0, b1, b2, b3, b4, b5, b6, b7, b8⟩ := h6.1.b.cells
    obtain ⟨d0, d1, d2, d3, d4, d5, d6, d7, d8⟩ := h6.2.cells
    dsimp only at a0 a1 a2 a3 a4 a5 a6 a7 a8 b0 b1 b2 b3 b4 b5 b6 b7 b8 d0 d1 d2 d3 d4 d5 d6 d7 d8
    clear h6
    have hpp := HP.out
    rw [leastV_eq] at hpp
    injection hpp with h90 h91 h92 h93 h94 h95 h96 h97 h98
    dsimp only at h90 h91 h92 h93 h98
    have hkk := least_key HP.out
    dsimp only at hkk
    clear h94 h95 h96 h97
    have H90 : Hid (lowP aan ban alo blo = plo ∧ (aan || ban) = pan) := ⟨h90, h91⟩
    have H93 : Hid ((afa || bfa) = pfa) := h93
    have H92 : Hid ((aba || bba) = pba ∧ wrap64 (act + bct) = pct) := ⟨h92, h98⟩
    clear h90 h91 h92 h93 h98 HP HE
    go_cut [155] (fun x wc => x = .bool false ∧ wc = W5)
    case first => as_aux_lemma =>
      obtain ⟨h90, h91⟩ := H90.out
      cases aan <;> cases ban
      · simp [lowP] at h90 h91
        subst h90 h91
        go_wp2_with fail
        go_meet
        exact ⟨rfl, rfl⟩
      · simp [lowP] at h90 h91
        subst h90 h91
        go_wp2_with fail
        go_meet
        exact ⟨rfl, rfl⟩
      · simp [lowP] at h90 h91
        subst h90 h91
        go_wp2_with fail
        go_meet
        exact ⟨rfl, rfl⟩
      · by_cases hl : blo < alo
        · simp [lowP, hl] at h90 h91
          subst h90 h91
          have q1 : decide (alo < blo) = false := by simp; omega
          have q2 : (blo == alo) = false := by simp; omega
          clear hl
          go_wp2_with fail
          go_meet
          exact ⟨rfl, rfl⟩
        · simp [lowP, hl] at h90 h91
          subst h90 h91
          have q1 : decide (blo < alo) = false := by simp; omega
          clear hl
          go_wp2_with fail
          go_meet
          exact ⟨rfl, rfl⟩
    case rest => as_aux_lemma =>
      obtain ⟨rfl, rfl⟩ := hcut
      clear H90
      go_upto_region 11 with fail
      have C1 := fun W => compare_any ptt pss pqq att ass aqq W
      have C2 := fun W => compare_any ptt pss pqq btt bss bqq W
      obtain ⟨k1, hk1⟩ : ∃ k1, keyCmp ptt pss pqq att ass aqq = k1 := ⟨_, rfl⟩
      obtain ⟨k2, hk2⟩ : ∃ k2, keyCmp ptt pss pqq btt bss bqq = k2 := ⟨_, rfl⟩
      rw [hk1] at C1 hkk
      rw [hk2] at C2 hkk
      have HKK : Hid ((afa = true → decide (0 < k1) = false) ∧ (bfa = true → decide (0 < k2) = false)) := hkk
      clear hk1 hk2 hkk
      go_cut [182] (fun x wx => x = .bool false ∧ S4p w ⟨alo, aan, aba, afa, att, ass, aqq, aco, act⟩ ⟨blo, ban, bba, bfa, btt, bss, bqq, bco, bct⟩ ⟨clo, can, cba, cfa, ctt, css, cqq, cco, cct⟩ ⟨plo, pan, pba, pfa, ptt, pss, pqq, pco, pct⟩ f wx)
      case first => as_aux_lemma =>
        have h93 := H93.out
        cases afa <;> cases bfa
        all_goals (
          simp at h93
          subst h93
          have hkk := HKK.out
          simp only [true_imp_iff, Bool.false_eq_true, false_imp_iff, and_true, true_and] at hkk
          (try obtain ⟨hq1, hq2⟩ := hkk)
          go_wp2_with (go_at_call 10; first | ((with_reducible refine (C1 _).mono ?_); rintro e' w7 ⟨rfl, hb7⟩; have h7 := H6.out.later hb7; obtain ⟨g0, g1, g2, g3, g4, g5, g6, g7, g8⟩ := h7.1.b.cells; obtain ⟨i0, i1, i2, i3, i4, i5, i6, i7, i8⟩ := h7.2.cells; dsimp only at g0 g1 g2 g3 g4 g5 g6 g7 g8 i0 i1 i2 i3 i4 i5 i6 i7 i8; have H7 : Hid (S4p w _ ⟨blo, ban, bba, _, btt, bss, bqq, bco, bct⟩ ⟨clo, can, cba, cfa, ctt, css, cqq, cco, cct⟩ _ f w7) := h7; clear h7 hb7) | ((with_reducible refine (C2 _).mono ?_); rintro e' w8 ⟨rfl, hb8⟩; have h8 := (by first | exact H7.out.later hb8 | exact H6.out.later hb8); have H8 : Hid (_ ∧ True) := ⟨h8, trivial⟩; clear h8 hb8))
          go_meet
          refine ⟨rfl, ?_⟩
          first | exact H8.out.1 | exact H7.out | exact H6.out)
      case rest => as_aux_lemma =>
        obtain ⟨rfl, h10⟩ := hcut
        have H10 : Hid (S4p w ⟨alo, aan, aba, afa, att, ass, aqq, aco, act⟩ ⟨blo, ban, bba, bfa, btt, bss, bqq, bco, bct⟩ ⟨clo, can, cba, cfa, ctt, css, cqq, cco, cct⟩ ⟨plo, pan, pba, pfa, ptt, pss, pqq, pco, pct⟩ f wc) := h10
        clear a0 a1 a2 a3 a4 a5 a6 a7 a8 b0 b1 b2 b3 b4 b5 b6 b7 b8 d0 d1 d2 d3 d4 d5 d6 d7 d8 H6 C1 C2 HKK
        obtain ⟨a0, a1, a2, a3, a4, a5, a6, a7, a8⟩ := h10.1.a.cells
        obtain ⟨b0, b1, b2, b3, b4, b5, b6, b7, b8⟩ := h10.1.b.cells
        obtain ⟨d0, d1, d2, d3, d4, d5, d6, d7, d8⟩ := h10.2.cells
        dsimp only at a0 a1 a2 a3 a4 a5 a6 a7 a8 b0 b1 b2 b3 b4 b5 b6 b7 b8 d0 d1 d2 d3 d4 d5 d6 d7 d8
        clear h10
        obtain ⟨h92, h98⟩ := H92.out
        subst h92 h98
        cases aba
        · simp only [Bool.false_or] at *
          go_wp2_with fail
          go_ret
          exact ⟨by simp, H10.out.1.l⟩
        · simp only [Bool.true_or] at *
          go_wp2_with fail
          go_ret
          exact ⟨by simp, H10.out.1.l⟩
end Go.Proofs.Ytkalhmofjpalkaa
