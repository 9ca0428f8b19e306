import Derived.Test.YtoihddhjpbahlaaMC1
import Derived.Test.YtoihddhjpbahlaaST8
import Derived.BigQuiet
import Derived.Deep.RegionLaw
import Derived.Deep.RegionHeld3
import Derived.Deep.Cut
import Derived.Deep.DeepCutAuto
import Derived.Deep.CutBlock
import Derived.Deep.CutRange
import Derived.Deep.AppendLies
import Derived.Handy
import Derived.Lib.RabinKarpLaws
namespace Go.Proofs.Ytoihddhjpbahlaa
open Go.ChangeShapes Go.WideShapes Go.ChangeAt Go.RowKit
set_option linter.unusedVariables false
set_option linter.unusedSimpArgs false

def kcK (p q : Int × Int) : Int := if p.1 < q.1 then -1 else if q.1 < p.1 then 1 else 0
theorem kcK_lt (p q : Int × Int) : kcK p q < 0 ↔ p.1 < q.1 := by
  unfold kcK
  by_cases h : p.1 < q.1
  · rw [if_pos h]; exact ⟨fun _ => h, fun _ => by decide⟩
  · rw [if_neg h]
    by_cases h2 : q.1 < p.1
    · rw [if_pos h2]; exact ⟨fun h3 => absurd h3 (by decide), fun h3 => absurd h3 h⟩
    · rw [if_neg h2]; exact ⟨fun h3 => absurd h3 (by decide), fun h3 => absurd h3 h⟩
theorem klt_eq (p q : Int × Int) : ST.klt kcK p q = decide (p.1 < q.1) := decide_eq_decide.2 (kcK_lt p q)
theorem kcK_ord : SOrd (ST.klt kcK) where
  irr x := by rw [klt_eq]; simp
  tr x y z h1 h2 := by
    rw [klt_eq, decide_eq_true_eq] at h1 h2 ⊢
    omega
  ntr x y z h1 h2 := by
    rw [klt_eq, decide_eq_false_iff_not] at h1 h2 ⊢
    omega
set_option maxRecDepth 100000 in
theorem byK_any (p q : Int × Int) (W : World) : Calls Try.prog 14 #[.agg #[.int .i64 p.1, .int .i64 p.2], .agg #[.int .i64 q.1, .int .i64 q.2]] W fun e w' => e = .returned (.int .i64 (kcK p q)) ∧ Below W.heap.size W w' := by
  obtain ⟨a, b⟩ := p
  obtain ⟨c, d⟩ := q
  have hb : Below W.heap.size W ((W.alloc (.cells #[.int .i64 a, .int .i64 b] 31)).alloc (.cells #[.int .i64 c, .int .i64 d] 31)) := ((Below.refl _ W).alloc (Nat.le_refl _) _).alloc (by rw [World.size_alloc]; omega) _
  unfold kcK
  by_cases h1 : a < c
  · have d1 : decide (a < c) = true := by simpa using h1
    simp only [if_pos h1]
    clear h1
    go_enter Try.func14, Try.ntmps14
    go_wp2
    go_ret
    exact ⟨rfl, hb⟩
  · have d1 : decide (a < c) = false := by simpa using h1
    simp only [if_neg h1]
    by_cases h2 : c < a
    · have d2 : decide (c < a) = true := by simpa using h2
      simp only [if_pos h2]
      clear h1 h2
      go_enter Try.func14, Try.ntmps14
      go_wp2
      go_ret
      exact ⟨rfl, hb⟩
    · have d2 : decide (c < a) = false := by simpa using h2
      simp only [if_neg h2]
      clear h1 h2
      go_enter Try.func14, Try.ntmps14
      go_wp2
      go_ret
      exact ⟨rfl, hb⟩

theorem byK_sorts : Sorts (.func (.func 14) #[] #[]) (ST.klt kcK) (fun _ => False) (fun _ => True) := fun W base g S c hS ho _ _ =>
  (ST.sortS_any (rp := (id : Int × Int → Int × Int)) (kc := kcK) kcK_ord (by omega) W (base := base) (g := g) (n := S) (cap := S) (c := c) ho (fun _ p q w' _ => byK_any p q w')).mono fun r W' ⟨h1, d, h2, h3, h4, h5⟩ => ⟨h1, d, h2, h3, h4, ⟨h5.os, h5.tape, h5.output, h5.size, fun k hk hne _ => h5.block k hk hne⟩, trivial⟩
end Go.Proofs.Ytoihddhjpbahlaa
