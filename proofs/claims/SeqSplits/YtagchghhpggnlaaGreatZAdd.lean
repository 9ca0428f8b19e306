import Derived.Test.YtagchghhpggnlaaGreatRows
import Derived.WalkKit
import Derived.ProofKit
import Derived.OpenShut
import Derived.Below
namespace Go.Proofs.YtagchghhpggnlaaGreat
open Go.ChangeShapes Go.WideShapes Go.ChangeAt Go.RowKit

theorem wrap_over (a b : Int) (h : 0 ≤ a) (h1 : a ≤ 18446744073709551615) (h2 : 0 ≤ b) (h3 : b ≤ 18446744073709551615) (c : ¬ a + b ≤ 18446744073709551615) : IntKind.u64.wrap (a + b) < a := by
  simp only [IntKind.wrap, IntKind.bits, IntKind.signed]
  simp
  omega

def addN (t d : Int) : Int := if t + d ≤ 18446744073709551615 then t + d else 0
def addE (t d : Int) : Int := if t + d ≤ 18446744073709551615 then 0 else 10

theorem add_any (t d : Int) (ht : 0 ≤ t ∧ t ≤ 18446744073709551615) (hd : 0 ≤ d ∧ d ≤ 18446744073709551615) (w : World) :
    Calls Tryz.prog 170 #[.int .u64 t, .int .u64 d] w fun e w' => e = .returned (.tuple #[.int .u64 (addN t d), .int .i64 (addE t d)]) ∧ w' = w := by
  by_cases c : t + d ≤ 18446744073709551615
  · have h1 : addN t d = t + d := by simp [addN, c]
    have h2 : addE t d = 0 := by simp [addE, c]
    rw [h1, h2]
    clear h1 h2
    go_enter Tryz.func170, Tryz.ntmps170
    go_wp2
    go_ret2
    exact ⟨rfl, rfl⟩
  · have h1 : addN t d = 0 := by simp [addN, c]
    have h2 : addE t d = 10 := by simp [addE, c]
    rw [h1, h2]
    clear h1 h2
    have hw := wrap_over t d ht.1 ht.2 hd.1 hd.2 c
    go_enter Tryz.func170, Tryz.ntmps170
    go_wp2
    go_ret2
    exact ⟨rfl, rfl⟩
end Go.Proofs.YtagchghhpggnlaaGreat
