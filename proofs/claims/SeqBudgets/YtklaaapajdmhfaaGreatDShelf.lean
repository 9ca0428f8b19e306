import Derived.Shelf.Strconv.Itoa0
import Derived.Shelf.Bits.Mul64
import Derived.Shelf.Spec.BitsCarry
import Derived.Ground.NamesProg
import Derived.Ground.Names7Prog
import Derived.Test.YtklaaapajdmhfaaGreatProg
namespace Go.Proofs
open Go.Shelf
def YtklaaapajdmhfaaGreat.laysLen_ren : Go.Shelf.Ren := ⟨fun | 129 => 132 | n => n, fun | 53 => 25 | 3 => 3 | 4 => 4 | 46 => 130 | 5 => 5 | 9 => 9 | n => n, fun | n => n⟩
theorem YtklaaapajdmhfaaGreat.laysLen : Go.Proofs.Lays.n129 Tryz.prog YtklaaapajdmhfaaGreat.laysLen_ren := {
  mixed := by kernel_rfl
  f129 := Tryz.func132.trans (congrArg some (by kernel_rfl))
  t3 := Tryz.underlying3
  a3 := Tryz.isAgg3
  z3 := Tryz.sizeOf3
  v3 := Tryz.zeroValue3
  t4 := Tryz.underlying4
  a4 := Tryz.isAgg4
  z4 := Tryz.sizeOf4
  v4 := Tryz.zeroValue4
  t5 := Tryz.underlying5
  a5 := Tryz.isAgg5
  z5 := Tryz.sizeOf5
  v5 := Tryz.zeroValue5
  t9 := Tryz.underlying9
  a9 := Tryz.isAgg9
  z9 := Tryz.sizeOf9
  v9 := Tryz.zeroValue9
  t46 := Tryz.underlying130
  a46 := Tryz.isAgg130
  z46 := Tryz.sizeOf130
  v46 := Tryz.zeroValue130
  t53 := Tryz.underlying25
  a53 := Tryz.isAgg25
  z53 := Tryz.sizeOf25
  v53 := Tryz.zeroValue25 }
def YtklaaapajdmhfaaGreat.laysMul_ren : Go.Shelf.Ren := ⟨fun | 264 => 130 | n => n, fun | 53 => 25 | 46 => 130 | n => n, fun | n => n⟩
theorem YtklaaapajdmhfaaGreat.laysMul : Go.Proofs.Lays.n264 Tryz.prog YtklaaapajdmhfaaGreat.laysMul_ren := {
  mixed := by kernel_rfl
  f264 := Tryz.func130.trans (congrArg some (by kernel_rfl))
  t46 := Tryz.underlying130
  a46 := Tryz.isAgg130
  z46 := Tryz.sizeOf130
  v46 := Tryz.zeroValue130
  t53 := Tryz.underlying25
  a53 := Tryz.isAgg25
  z53 := Tryz.sizeOf25
  v53 := Tryz.zeroValue25 }
end Go.Proofs
