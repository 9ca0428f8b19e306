import Derived.Shelf.Bits.Mul64
import Derived.Ground.NamesProg
import Derived.Test.YtkgifanlodlilaaProg
namespace Go.Proofs
open Go.Shelf
def Ytkgifanlodlilaa.laysMul_ren : Go.Shelf.Ren := ⟨fun | 264 => 59 | n => n, fun | 53 => 25 | 46 => 84 | n => n, fun | n => n⟩
theorem Ytkgifanlodlilaa.laysMul : Go.Proofs.Lays.n264 Try.prog Ytkgifanlodlilaa.laysMul_ren := {
  mixed := by kernel_rfl
  f264 := Try.func59.trans (congrArg some (by kernel_rfl))
  t46 := Try.underlying84
  a46 := Try.isAgg84
  z46 := Try.sizeOf84
  v46 := Try.zeroValue84
  t53 := Try.underlying25
  a53 := Try.isAgg25
  z53 := Try.sizeOf25
  v53 := Try.zeroValue25 }
end Go.Proofs
