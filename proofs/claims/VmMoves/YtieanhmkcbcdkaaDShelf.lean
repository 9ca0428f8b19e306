import Derived.Shelf.Strconv.Itoa0
import Derived.Shelf.Bits.Mul64
import Derived.Shelf.Spec.BitsCarry
import Derived.Ground.NamesProg
import Derived.Ground.Names7Prog
import Derived.Test.YtieanhmkcbcdkaaProg
namespace Go.Proofs
open Go.Shelf
def Ytieanhmkcbcdkaa.laysLen_ren : Go.Shelf.Ren := ⟨fun | 129 => 76 | n => n, fun | 53 => 26 | 3 => 3 | 4 => 4 | 46 => 91 | 5 => 5 | 9 => 9 | n => n, fun | n => n⟩
theorem Ytieanhmkcbcdkaa.laysLen : Go.Proofs.Lays.n129 Try.prog Ytieanhmkcbcdkaa.laysLen_ren := {
  mixed := by kernel_rfl
  f129 := Try.func76.trans (congrArg some (by kernel_rfl))
  t3 := Try.underlying3
  a3 := Try.isAgg3
  z3 := Try.sizeOf3
  v3 := Try.zeroValue3
  t4 := Try.underlying4
  a4 := Try.isAgg4
  z4 := Try.sizeOf4
  v4 := Try.zeroValue4
  t5 := Try.underlying5
  a5 := Try.isAgg5
  z5 := Try.sizeOf5
  v5 := Try.zeroValue5
  t9 := Try.underlying9
  a9 := Try.isAgg9
  z9 := Try.sizeOf9
  v9 := Try.zeroValue9
  t46 := Try.underlying91
  a46 := Try.isAgg91
  z46 := Try.sizeOf91
  v46 := Try.zeroValue91
  t53 := Try.underlying26
  a53 := Try.isAgg26
  z53 := Try.sizeOf26
  v53 := Try.zeroValue26 }
def Ytieanhmkcbcdkaa.laysMul_ren : Go.Shelf.Ren := ⟨fun | 264 => 75 | n => n, fun | 53 => 26 | 46 => 91 | n => n, fun | n => n⟩
theorem Ytieanhmkcbcdkaa.laysMul : Go.Proofs.Lays.n264 Try.prog Ytieanhmkcbcdkaa.laysMul_ren := {
  mixed := by kernel_rfl
  f264 := Try.func75.trans (congrArg some (by kernel_rfl))
  t46 := Try.underlying91
  a46 := Try.isAgg91
  z46 := Try.sizeOf91
  v46 := Try.zeroValue91
  t53 := Try.underlying26
  a53 := Try.isAgg26
  z53 := Try.sizeOf26
  v53 := Try.zeroValue26 }
end Go.Proofs
