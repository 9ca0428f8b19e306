import Derived.Shelf.Strconv.Itoa0
import Derived.Shelf.Bits.Mul64
import Derived.Shelf.Spec.BitsCarry
import Derived.Ground.NamesProg
import Derived.Ground.Names7Prog
import Derived.Test.YtllhbggipbefmacProg
namespace Go.Proofs
open Go.Shelf
def Ytllhbggipbefmac.laysLen_ren : Go.Shelf.Ren := ⟨fun | 129 => 34 | n => n, fun | 53 => 22 | 3 => 3 | 4 => 4 | 46 => 53 | 5 => 5 | 9 => 9 | n => n, fun | n => n⟩
theorem Ytllhbggipbefmac.laysLen : Go.Proofs.Lays.n129 Try.prog Ytllhbggipbefmac.laysLen_ren := {
  mixed := by kernel_rfl
  f129 := Try.func34.trans (congrArg some (by kernel_rfl))
  t3 := Try.underlying3
  a3 := Try.isAgg3
  z3 := Try.sizeOf3
  v3 := Try.zeroValue3
  t4 := Try.underlying4
  a4 := Try.isAgg4
  z4 := Try.sizeOf4
  v4 := Try.zeroValue4
  t5 := Try.underlying5
  a5 := Try.isAgg5
  z5 := Try.sizeOf5
  v5 := Try.zeroValue5
  t9 := Try.underlying9
  a9 := Try.isAgg9
  z9 := Try.sizeOf9
  v9 := Try.zeroValue9
  t46 := Try.underlying53
  a46 := Try.isAgg53
  z46 := Try.sizeOf53
  v46 := Try.zeroValue53
  t53 := Try.underlying22
  a53 := Try.isAgg22
  z53 := Try.sizeOf22
  v53 := Try.zeroValue22 }
def Ytllhbggipbefmac.laysMul_ren : Go.Shelf.Ren := ⟨fun | 264 => 29 | n => n, fun | 53 => 22 | 46 => 53 | n => n, fun | n => n⟩
theorem Ytllhbggipbefmac.laysMul : Go.Proofs.Lays.n264 Try.prog Ytllhbggipbefmac.laysMul_ren := {
  mixed := by kernel_rfl
  f264 := Try.func29.trans (congrArg some (by kernel_rfl))
  t46 := Try.underlying53
  a46 := Try.isAgg53
  z46 := Try.sizeOf53
  v46 := Try.zeroValue53
  t53 := Try.underlying22
  a53 := Try.isAgg22
  z53 := Try.sizeOf22
  v53 := Try.zeroValue22 }
def Ytllhbggipbefmac.laysAdd_ren : Go.Shelf.Ren := ⟨fun | 25 => 33 | n => n, fun | 22 => 22 | n => n, fun | n => n⟩
theorem Ytllhbggipbefmac.laysAdd : Go.Proofs.Lays7.n25 Try.prog Ytllhbggipbefmac.laysAdd_ren := {
  mixed := by kernel_rfl
  f25 := Try.func33.trans (congrArg some (by kernel_rfl))
  t22 := Try.underlying22
  a22 := Try.isAgg22
  z22 := Try.sizeOf22
  v22 := Try.zeroValue22
  i22 := by kernel_rfl }
end Go.Proofs
