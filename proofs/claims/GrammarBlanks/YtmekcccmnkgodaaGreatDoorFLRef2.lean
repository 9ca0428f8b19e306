import Derived.Test.YtmekcccmnkgodaaGreatDoorFLWord
namespace Go.Proofs.YtmekcccmnkgodaaGreatDoor
open Go.ChangeShapes Go.WideShapes Go.ChangeAt Go.RowKit
set_option linter.unusedVariables false

theorem pN_eq (c : UInt8) : pN c = (pL c || pD c || ((c.toNat : Int) == 95)) := by
  unfold pN inN pL pD
  congr 1
  rw [Bool.eq_iff_iff]
  simp
  omega
def nameL (s : Bs) : Nat := if headIs pL s = true then (s.takeWhile pN).length else 0

theorem wrap_succ {n L : Nat} (hl : L ≤ maxLen) (h : n < L) : wrap64 ((n : Int) + 1) = n + 1 := by
  have h2 : L ≤ 9223372036854775807 := Nat.le_trans hl (by unfold maxLen; omega)
  unfold wrap64
  omega

theorem meas {n L : Nat} (h : n < L) : L - (intOf (.int .i64 ((n : Int) + 1))).toNat < L - (intOf (.int .i64 (n : Int))).toNat := by
  show L - (n + 1) < L - n
  omega

end Go.Proofs.YtmekcccmnkgodaaGreatDoor
namespace Go.Proofs.YtmekcccmnkgodaaGreatDoor
open Go.ChangeShapes Go.WideShapes Go.ChangeAt Go.RowKit
set_option linter.unusedVariables false



end Go.Proofs.YtmekcccmnkgodaaGreatDoor
