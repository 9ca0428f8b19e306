import Derived.Test.YtidffddmlaedcaaDoorLOnce
namespace Go.Proofs.YtidffddmlaedcaaDoor
open Go.ChangeShapes Go.WideShapes Go.ChangeAt Go.RowKit
set_option linter.unusedVariables false

set_option maxRecDepth 100000 in
theorem law_eaches (src : Bs) (stop : Int) (hmx : src.length ≤ maxLen) (w : World) (g : Gr w) :
    Calls Tryd.prog 8 #[.string ⟨src.toArray⟩, .int .i64 stop] w fun e w' => e = .returned (.bool true) ∧ Below w.heap.size w w' := by
  have H1 : Hid (Calls Tryd.prog 24 #[.string ⟨src.toArray⟩, .int .i64 stop] w fun e w' => e = .returned (.bool true) ∧ Below w.heap.size w w') := once_any src hmx stop w g
  have H2 : ∀ w', Below w.heap.size w w' → Hid (Calls Tryd.prog 24 #[.string ⟨src.toArray⟩, .int .i64 0] w' fun e w'' => e = .returned (.bool true) ∧ Below w'.heap.size w' w'') := fun w' h => once_any src hmx 0 w' (g.keep h)
  clear g
  go_enter Tryd.func8, Tryd.ntmps8
  go_wp2_with (first | (go_at_call 24; (with_reducible refine (H1.out).mono ?_); rintro e w1 ⟨rfl, b1⟩; clear H1) | (go_at_call 24; (with_reducible refine ((H2 _ b1).out).mono ?_); rintro e w2 ⟨rfl, b2⟩))
  go_ret
  exact ⟨rfl, b1.trans (b2.mono b1.size)⟩
end Go.Proofs.YtidffddmlaedcaaDoor
