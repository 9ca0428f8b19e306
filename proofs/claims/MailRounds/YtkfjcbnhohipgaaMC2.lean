import Derived.Test.YtkfjcbnhohipgaaMCK
import Derived.Test.YtkfjcbnhohipgaaST8
import Derived.BigQuiet
import Derived.Deep.RegionLaw
import Derived.Deep.RegionHeld3
import Derived.Deep.Cut
import Derived.Deep.DeepCutAuto
import Derived.Deep.CutBlock
import Derived.Deep.CutRange
import Derived.Deep.AppendLies
import Derived.Handy
import Derived.Lib.RabinKarpLaws
namespace Go.Proofs.Ytkfjcbnhohipgaa
open Go.ChangeShapes Go.WideShapes Go.ChangeAt Go.RowKit
set_option linter.unusedVariables false
set_option linter.unusedSimpArgs false

theorem klt_eq (p q : Int × Int) : ST.klt kcK p q = decide (p.1 < q.1) := decide_eq_decide.2 (kcK_lt p q)
theorem kcK_ord : SOrd (ST.klt kcK) where
  irr x := by rw [klt_eq]; simp
  tr x y z h1 h2 := by
    rw [klt_eq, decide_eq_true_eq] at h1 h2 ⊢
    omega
  ntr x y z h1 h2 := by
    rw [klt_eq, decide_eq_false_iff_not] at h1 h2 ⊢
    omega

theorem byK_sorts : Sorts (.func (.func 14) #[] #[]) (ST.klt kcK) (fun _ => False) (fun _ => True) := fun W base g S c hS ho _ _ =>
  (ST.sortS_any (rp := (id : Int × Int → Int × Int)) (kc := kcK) kcK_ord (by omega) W (base := base) (g := g) (n := S) (cap := S) (c := c) ho (fun _ p q w' _ => byK_any p q w')).mono fun r W' ⟨h1, d, h2, h3, h4, h5⟩ => ⟨h1, d, h2, h3, h4, ⟨h5.os, h5.tape, h5.output, h5.size, fun k hk hne _ => h5.block k hk hne⟩, trivial⟩
end Go.Proofs.Ytkfjcbnhohipgaa
