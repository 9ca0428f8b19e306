import Derived.Test.YtkgifanlodlilaaW0
namespace Go.Proofs.Ytkgifanlodlilaa
open Go.ChangeShapes Go.WideShapes Go.ChangeAt Go.RowKit
set_option linter.unusedVariables false

theorem boxed (w : World) (o : Obj) (wp : World) (h : w.alloc o = wp) : Below w.heap.size w wp ∧ wp.heap[w.heap.size]? = some o ∧ wp.heap.size = w.heap.size + 1 := by
  subst h
  exact ⟨(Below.refl _ w).alloc (Nat.le_refl _) _, World.alloc_heap_new w _, World.size_alloc w _⟩
end Go.Proofs.Ytkgifanlodlilaa
