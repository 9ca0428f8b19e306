import Derived.Shelf.Strconv.Itoa0
import Derived.Shelf.Bits.Mul64
import Derived.Shelf.Spec.BitsCarry
import Derived.Ground.NamesProg
import Derived.Ground.Names7Prog
import Derived.Test.YtecgecpgmpmkoaaGreatProg
namespace Go.Proofs
open Go.Shelf
def YtecgecpgmpmkoaaGreat.laysLen_ren : Go.Shelf.Ren := ⟨fun | 129 => 228 | n => n, fun | 53 => 25 | 3 => 3 | 4 => 4 | 46 => 98 | 5 => 5 | 9 => 9 | n => n, fun | n => n⟩
theorem YtecgecpgmpmkoaaGreat.laysLen : Go.Proofs.Lays.n129 Tryz.prog YtecgecpgmpmkoaaGreat.laysLen_ren := {
  mixed := by kernel_rfl
  f129 := Tryz.func228.trans (congrArg some (by kernel_rfl))
  t3 := Tryz.underlying3
  a3 := Tryz.isAgg3
  z3 := Tryz.sizeOf3
  v3 := Tryz.zeroValue3
  t4 := Tryz.underlying4
  a4 := Tryz.isAgg4
  z4 := Tryz.sizeOf4
  v4 := Tryz.zeroValue4
  t5 := Tryz.underlying5
  a5 := Tryz.isAgg5
  z5 := Tryz.sizeOf5
  v5 := Tryz.zeroValue5
  t9 := Tryz.underlying9
  a9 := Tryz.isAgg9
  z9 := Tryz.sizeOf9
  v9 := Tryz.zeroValue9
  t46 := Tryz.underlying98
  a46 := Tryz.isAgg98
  z46 := Tryz.sizeOf98
  v46 := Tryz.zeroValue98
  t53 := Tryz.underlying25
  a53 := Tryz.isAgg25
  z53 := Tryz.sizeOf25
  v53 := Tryz.zeroValue25 }
def YtecgecpgmpmkoaaGreat.laysMul_ren : Go.Shelf.Ren := ⟨fun | 264 => 222 | n => n, fun | 53 => 25 | 46 => 98 | n => n, fun | n => n⟩
theorem YtecgecpgmpmkoaaGreat.laysMul : Go.Proofs.Lays.n264 Tryz.prog YtecgecpgmpmkoaaGreat.laysMul_ren := {
  mixed := by kernel_rfl
  f264 := Tryz.func222.trans (congrArg some (by kernel_rfl))
  t46 := Tryz.underlying98
  a46 := Tryz.isAgg98
  z46 := Tryz.sizeOf98
  v46 := Tryz.zeroValue98
  t53 := Tryz.underlying25
  a53 := Tryz.isAgg25
  z53 := Tryz.sizeOf25
  v53 := Tryz.zeroValue25 }
end Go.Proofs
