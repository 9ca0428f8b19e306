import Derived.Test.YtkfjcbnhohipgaaMB11
import Derived.BigQuiet
import Derived.Deep.RegionLaw
import Derived.Deep.RegionHeld3
import Derived.Deep.Cut
import Derived.Deep.DeepCutAuto
import Derived.Deep.CutBlock
import Derived.Deep.CutRange
import Derived.Deep.AppendLies
import Derived.Handy
import Derived.Lib.RabinKarpLaws
namespace Go.Proofs.Ytkfjcbnhohipgaa
open Go.ChangeShapes Go.WideShapes Go.ChangeAt Go.RowKit
set_option linter.unusedVariables false
set_option linter.unusedSimpArgs false

def kcK (p q : Int × Int) : Int := if p.1 < q.1 then -1 else if q.1 < p.1 then 1 else 0
theorem kcK_lt (p q : Int × Int) : kcK p q < 0 ↔ p.1 < q.1 := by
  unfold kcK
  by_cases h : p.1 < q.1
  · rw [if_pos h]; exact ⟨fun _ => h, fun _ => by decide⟩
  · rw [if_neg h]
    by_cases h2 : q.1 < p.1
    · rw [if_pos h2]; exact ⟨fun h3 => absurd h3 (by decide), fun h3 => absurd h3 h⟩
    · rw [if_neg h2]; exact ⟨fun h3 => absurd h3 (by decide), fun h3 => absurd h3 h⟩
set_option maxRecDepth 100000 in
theorem byK_any (p q : Int × Int) (W : World) : Calls Try.prog 14 #[.agg #[.int .i64 p.1, .int .i64 p.2], .agg #[.int .i64 q.1, .int .i64 q.2]] W fun e w' => e = .returned (.int .i64 (kcK p q)) ∧ Below W.heap.size W w' := by
  obtain ⟨a, b⟩ := p
  obtain ⟨c, d⟩ := q
  have hb : Below W.heap.size W ((W.alloc (.cells #[.int .i64 a, .int .i64 b] 31)).alloc (.cells #[.int .i64 c, .int .i64 d] 31)) := ((Below.refl _ W).alloc (Nat.le_refl _) _).alloc (by rw [World.size_alloc]; omega) _
  unfold kcK
  by_cases h1 : a < c
  · have d1 : decide (a < c) = true := by simpa using h1
    simp only [if_pos h1]
    clear h1
    go_enter Try.func14, Try.ntmps14
    go_wp2
    go_ret
    exact ⟨rfl, hb⟩
  · have d1 : decide (a < c) = false := by simpa using h1
    simp only [if_neg h1]
    by_cases h2 : c < a
    · have d2 : decide (c < a) = true := by simpa using h2
      simp only [if_pos h2]
      clear h1 h2
      go_enter Try.func14, Try.ntmps14
      go_wp2
      go_ret
      exact ⟨rfl, hb⟩
    · have d2 : decide (c < a) = false := by simpa using h2
      simp only [if_neg h2]
      clear h1 h2
      go_enter Try.func14, Try.ntmps14
      go_wp2
      go_ret
      exact ⟨rfl, hb⟩
end Go.Proofs.Ytkfjcbnhohipgaa
