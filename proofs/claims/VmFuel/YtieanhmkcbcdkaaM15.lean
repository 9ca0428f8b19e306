import Derived.Test.YtieanhmkcbcdkaaA1
import Derived.Deep.MidRow
import Derived.Laws.NewBlocks
namespace Go.Proofs.Ytieanhmkcbcdkaa
open Go.ChangeShapes Go.WideShapes Go.ChangeAt Go.RowKit
set_option linter.unusedVariables false

def pairsL : List Value := [.nilFunc, .nilFunc, .nilFunc, .nilFunc, .nilFunc, .nilFunc, .nilFunc, .nilFunc, .nilFunc, .nilFunc, .nilFunc, .nilFunc, .nilFunc, .func (.func 34) #[] #[], .func (.func 35) #[] #[], .func (.func 36) #[] #[], .func (.func 37) #[] #[], .func (.func 38) #[] #[], .func (.func 39) #[] #[], .func (.func 40) #[] #[], .func (.func 41) #[] #[], .func (.func 42) #[] #[], .func (.func 43) #[] #[], .nilFunc, .nilFunc, .nilFunc, .func (.func 44) #[] #[], .func (.func 46) #[] #[], .func (.func 47) #[] #[], .func (.func 48) #[] #[], .func (.func 49) #[] #[], .func (.func 50) #[] #[], .func (.func 51) #[] #[], .func (.func 52) #[] #[], .nilFunc, .nilFunc, .nilFunc, .nilFunc, .nilFunc, .nilFunc, .nilFunc, .nilFunc]
theorem pairsL_len : pairsL.length = 42 := rfl
theorem pairsL_one : pairsL.toArray.all (·.oneCell') = true := by kernel_rfl
theorem setRow_far (w : World) (g k : Nat) (cs : Array Value) (h : k ≠ g) : (w.setRow g cs).heap[k]? = w.heap[k]? := by
  unfold World.setRow
  simp [Array.getElem?_modify]
  intro e; exact absurd e.symm h
theorem setRow_below {B g : Nat} {w0 w : World} (cs : Array Value) (h : Below B w0 w) (hg : B ≤ g) : Below B w0 (w.setRow g cs) :=
  ⟨h.os, h.tape, h.output, by simp [World.setRow]; exact h.size, fun k hk => (setRow_far w g k cs (by omega)).trans (h.block k hk)⟩
set_option maxRecDepth 100000 in
set_option maxHeartbeats 4000000 in
theorem pairs_any (w : World) : Calls Try.prog 23 #[] w fun e w' => e = .returned (.agg pairsL.toArray) ∧ Below w.heap.size w w' := by
  have hinf : (Try.prog.info? 65).map (·.size) = some pairsL.toArray.size := by kernel_rfl
  go_enter Try.func23, Try.ntmps23
  iterate 68 go_step
  refine wpList_store_row rfl 65 (.tmp 0) (.tmp 19) rfl w.heap.size pairsL.toArray rfl rfl 65 _ (World.alloc_heap_new w _) hinf rfl pairsL_one ?_
  repeat go_step
  have hold := World.alloc_heap_new w (.cells (List.replicate 42 Value.nilFunc).toArray 65)
  refine bodyPost_ret_by (v := .agg pairsL.toArray) (results_cell_row (p := 0) (ty := 65) rfl _ _ w.heap.size 65 _ (0, 0) _ rfl (setRow_heap _ _ _ _ _ _ hold) Try.underlying65 rfl hinf) rfl ?_
  exact ⟨rfl, setRow_below _ ((Below.refl _ w).alloc (Nat.le_refl _) _) (Nat.le_refl _)⟩
end Go.Proofs.Ytieanhmkcbcdkaa
