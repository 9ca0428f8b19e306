import Derived.Test.YtbcnlnigenpiiaaDPure
namespace Go.Proofs.Ytbcnlnigenpiiaa
open Go.ChangeShapes Go.WideShapes Go.ChangeAt Go.RowKit

theorem mix_val (x : Int) (h : 0 ≤ x ∧ x ≤ 18446744073709551615) :
    bits .xor .u64 (IntKind.u64.wrap (bits .xor .u64 x (x / 4294967296) * 11400714819323198485)) (IntKind.u64.wrap (bits .xor .u64 x (x / 4294967296) * 11400714819323198485) / 536870912) = U (mx (B x)) := by
  have e1 : x / (4294967296 : Int) = U (B x >>> 32) := shr_B h 32
  have e2 : ∀ b : BitVec 64, U b / (536870912 : Int) = U (b >>> 29) := fun b => shr_U b 29
  simp only [e1, xor_U, wrap_U, B_mul, B_U, e2]
  rfl
theorem nx_val (s : Int) : IntKind.u64.wrap (IntKind.u64.wrap (s * 6364136223846793005) + 1442695040888963407) = U (nx (B s)) := by
  rw [wrap_U, B_add, B_wrap, B_mul]
  rfl
theorem bk_val (s : Int) : IntKind.u64.wrap (IntKind.u64.wrap (s - 1442695040888963407) * 13877824140714322085) = U (bk (B s)) := by
  rw [wrap_U, B_mul, B_wrap, B_sub]
  rfl
theorem sd_val (m k : Int) : IntKind.u64.wrap (m + IntKind.u64.wrap (IntKind.u64.wrap (IntKind.u64.wrap k + 1) * 15074714826142052245)) = U (B m + (B k + 1#64) * 15074714826142052245#64) := by
  rw [wrap_U, B_add, B_wrap, B_mul, B_wrap, B_add, B_wrap]
  rfl

end Go.Proofs.Ytbcnlnigenpiiaa
