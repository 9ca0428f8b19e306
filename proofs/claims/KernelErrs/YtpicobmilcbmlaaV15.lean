import Derived.Test.YtpicobmilcbmlaaV7
import Derived.Test.YtpicobmilcbmlaaV13
import Derived.Test.YtpicobmilcbmlaaV14
namespace Go.Proofs.Ytpicobmilcbmlaa
open Go.ChangeShapes Go.WideShapes Go.ChangeAt Go.RowKit
set_option linter.unusedVariables false

theorem boxed (w : World) (o : Obj) (wp : World) (h : w.alloc o = wp) : Below w.heap.size w wp ∧ wp.heap[w.heap.size]? = some o ∧ wp.heap.size = w.heap.size + 1 := by
  subst h
  exact ⟨(Below.refl _ w).alloc (Nat.le_refl _) _, World.alloc_heap_new w _, World.size_alloc w _⟩
set_option maxRecDepth 100000 in
theorem rverify_any (P : Pg) (v : PgV) (kinds : Int) (w : World) (h : PAt w P v) :
    Calls Try.prog 36 #[.agg #[.int .i64 P.words, .int .i64 P.locals, .slice v.cp P.n v.cc, .slice v.ep P.m v.ec], .int .i64 kinds] w fun e w' => e = .returned (.int .i64 (dcode P kinds)) ∧ Below w.heap.size w w' := by
  have hb0 : Below w.heap.size w (w.alloc (.cells #[.int .i64 P.words, .int .i64 P.locals, .slice v.cp P.n v.cc, .slice v.ep P.m v.ec] 74)) := (Below.refl _ w).alloc (Nat.le_refl _) _
  have HD := rDepths_any P v kinds _ (h.1.below hb0) (h.2.below hb0)
  clear h
  go_enter Try.func36, Try.ntmps36
  go_wp2_with (go_at_call 39; (with_reducible refine HD.mono ?_); rintro e w1 ⟨r, c, rfl, z1, z2⟩)
  go_ret
  exact ⟨by rw [← z2.1]; rfl, hb0.trans (z1.mono hb0.size)⟩
end Go.Proofs.Ytpicobmilcbmlaa
