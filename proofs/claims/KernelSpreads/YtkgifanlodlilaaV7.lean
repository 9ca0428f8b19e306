import Derived.Test.YtkgifanlodlilaaV6
namespace Go.Proofs.Ytkgifanlodlilaa
open Go.ChangeShapes Go.WideShapes Go.ChangeAt Go.RowKit
set_option linter.unusedVariables false

set_option maxRecDepth 100000 in
theorem verify_any (P : Pg) (v : PgV) (kinds : Int) (w : World) (hI : IAt w v.cp P.n P.op P.a P.b) (hE : KAt w v.ep P.m P.en) :
    Calls Try.prog 32 #[.agg #[.int .i64 P.words, .int .i64 P.locals, .slice v.cp P.n v.cc, .slice v.ep P.m v.ec], .int .i64 kinds] w fun e w' => e = .returned (.int .i64 (dcode P kinds)) ∧ Below w.heap.size w w' := by
  have hb0 : Below w.heap.size w (w.alloc (.cells #[.int .i64 P.words, .int .i64 P.locals, .slice v.cp P.n v.cc, .slice v.ep P.m v.ec] 51)) := (Below.refl _ w).alloc (Nat.le_refl _) _
  have HD := depths_any P v kinds _ (hI.below hb0) (hE.below hb0)
  clear hI hE
  go_enter Try.func32, Try.ntmps32
  go_wp2_with (go_at_call 42; (with_reducible refine HD.mono ?_); rintro e w1 ⟨r, c, rfl, z1, z2⟩)
  go_ret
  exact ⟨by rw [← z2.1]; rfl, hb0.trans (z1.mono hb0.size)⟩
end Go.Proofs.Ytkgifanlodlilaa
