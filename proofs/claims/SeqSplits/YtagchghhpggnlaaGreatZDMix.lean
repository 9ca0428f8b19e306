import Derived.Test.YtagchghhpggnlaaGreatRows
import Derived.WalkKit
import Derived.ProofKit
import Derived.OpenShut
import Derived.Below
import Derived.Laws.BitsAllLaws
namespace Go.Proofs.YtagchghhpggnlaaGreat
open Go.ChangeShapes Go.WideShapes Go.ChangeAt Go.RowKit

def B (x : Int) : BitVec 64 := BitVec.ofInt 64 x
def U (b : BitVec 64) : Int := (b.toNat : Int)

theorem U_lo (b : BitVec 64) : 0 ≤ U b := Int.natCast_nonneg _
theorem U_hi (b : BitVec 64) : U b ≤ 18446744073709551615 := by unfold U; have := b.isLt; omega
theorem U_rng (b : BitVec 64) : 0 ≤ U b ∧ U b ≤ 18446744073709551615 := ⟨U_lo b, U_hi b⟩
theorem B_U (b : BitVec 64) : B (U b) = b := by
  apply BitVec.eq_of_toNat_eq
  unfold B U
  rw [BitVec.toNat_ofInt]
  have := b.isLt
  omega
theorem wrap_U (x : Int) : IntKind.u64.wrap x = U (B x) := by
  unfold U B
  rw [BitVec.toNat_ofInt]
  simp only [IntKind.wrap, IntKind.bits, IntKind.signed]
  simp
  omega
theorem U_B {x : Int} (h : 0 ≤ x ∧ x ≤ 18446744073709551615) : U (B x) = x := by
  unfold U B
  rw [BitVec.toNat_ofInt]
  omega
theorem U_inj {a b : BitVec 64} (h : U a = U b) : a = b := by rw [← B_U a, ← B_U b, h]
theorem U_eq {a b : BitVec 64} : U a = U b ↔ a = b := ⟨U_inj, fun h => h ▸ rfl⟩
theorem B_inj {x y : Int} (hx : 0 ≤ x ∧ x ≤ 18446744073709551615) (hy : 0 ≤ y ∧ y ≤ 18446744073709551615) (h : B x = B y) : x = y := by rw [← U_B hx, ← U_B hy, h]
theorem B_wrap (x : Int) : B (IntKind.u64.wrap x) = B x := by rw [wrap_U, B_U]
theorem B_mul (x y : Int) : B (x * y) = B x * B y := by unfold B; exact BitVec.ofInt_mul x y
theorem B_add (x y : Int) : B (x + y) = B x + B y := by unfold B; exact BitVec.ofInt_add x y
theorem B_sub (x y : Int) : B (x - y) = B x - B y := by
  rw [Int.sub_eq_add_neg, B_add, BitVec.sub_eq_add_neg]
  unfold B
  rw [BitVec.ofInt_neg]
theorem xor_U {x y : Int} : bits .xor .u64 x y = U (B x ^^^ B y) := by
  have : bits .xor .u64 x y = IntKind.u64.wrap (U (B x ^^^ B y)) := rfl
  rw [this, wrap_U, B_U]
theorem and_U {x y : Int} : bits .and .u64 x y = U (B x &&& B y) := by
  have : bits .and .u64 x y = IntKind.u64.wrap (U (B x &&& B y)) := rfl
  rw [this, wrap_U, B_U]
theorem or_U {x y : Int} : bits .or .u64 x y = U (B x ||| B y) := by
  have : bits .or .u64 x y = IntKind.u64.wrap (U (B x ||| B y)) := rfl
  rw [this, wrap_U, B_U]
theorem shr_U (b : BitVec 64) (k : Nat) : U b / 2 ^ k = U (b >>> k) := by
  unfold U
  rw [BitVec.toNat_ushiftRight, Nat.shiftRight_eq_div_pow, Int.natCast_ediv, Int.natCast_pow]
  rfl
theorem shr_B {x : Int} (h : 0 ≤ x ∧ x ≤ 18446744073709551615) (k : Nat) : x / 2 ^ k = U (B x >>> k) := by
  rw [← shr_U, U_B h]

def mx (x : BitVec 64) : BitVec 64 :=
  let y := (x ^^^ (x >>> 32)) * 11400714819323198485#64
  y ^^^ (y >>> 29)
def nx (s : BitVec 64) : BitVec 64 := s * 6364136223846793005#64 + 1442695040888963407#64
def bk (s : BitVec 64) : BitVec 64 := (s - 1442695040888963407#64) * 13877824140714322085#64
def sd (m k : BitVec 64) : BitVec 64 := mx (m + (k + 1#64) * 15074714826142052245#64)

def un32 (y : BitVec 64) : BitVec 64 := y ^^^ (y >>> 32)
def un29 (y : BitVec 64) : BitVec 64 := y ^^^ (y >>> 29) ^^^ (y >>> 58)
theorem un32_ok (x : BitVec 64) : un32 (x ^^^ (x >>> 32)) = x := by
  unfold un32
  rw [BitVec.ushiftRight_xor_distrib, ← BitVec.shiftRight_add]
  have h : x >>> (32 + 32) = 0#64 := BitVec.ushiftRight_eq_zero (by decide)
  rw [h, BitVec.xor_zero, BitVec.xor_assoc, BitVec.xor_self, BitVec.xor_zero]
theorem un32_ok' (x : BitVec 64) : un32 x ^^^ (un32 x >>> 32) = x := un32_ok x
theorem un29_ok (x : BitVec 64) : un29 (x ^^^ (x >>> 29)) = x := by
  unfold un29
  rw [BitVec.ushiftRight_xor_distrib, BitVec.ushiftRight_xor_distrib, ← BitVec.shiftRight_add, ← BitVec.shiftRight_add]
  have h : x >>> (29 + 58) = 0#64 := BitVec.ushiftRight_eq_zero (by decide)
  rw [h, BitVec.xor_zero, show 29 + 29 = 58 from rfl]
  generalize x >>> 29 = a
  generalize x >>> 58 = b
  rw [BitVec.xor_assoc x a, ← BitVec.xor_assoc a a, BitVec.xor_self, BitVec.zero_xor, BitVec.xor_assoc, BitVec.xor_self, BitVec.xor_zero]
theorem un29_ok' (x : BitVec 64) : un29 x ^^^ (un29 x >>> 29) = x := by
  unfold un29
  rw [BitVec.ushiftRight_xor_distrib, BitVec.ushiftRight_xor_distrib, ← BitVec.shiftRight_add, ← BitVec.shiftRight_add]
  have h : x >>> (58 + 29) = 0#64 := BitVec.ushiftRight_eq_zero (by decide)
  rw [h, BitVec.xor_zero, show 29 + 29 = 58 from rfl]
  generalize x >>> 29 = a
  generalize x >>> 58 = b
  rw [BitVec.xor_assoc x a b, BitVec.xor_assoc, BitVec.xor_self, BitVec.xor_zero]
theorem mul_ok (x : BitVec 64) : x * 11400714819323198485#64 * 17428512612931826493#64 = x := by
  rw [BitVec.mul_assoc, show 11400714819323198485#64 * 17428512612931826493#64 = 1#64 by decide, BitVec.mul_one]
theorem mul_ok' (x : BitVec 64) : x * 17428512612931826493#64 * 11400714819323198485#64 = x := by
  rw [BitVec.mul_assoc, show 17428512612931826493#64 * 11400714819323198485#64 = 1#64 by decide, BitVec.mul_one]
def umx (y : BitVec 64) : BitVec 64 := un32 (un29 y * 17428512612931826493#64)
theorem umx_mx (x : BitVec 64) : umx (mx x) = x := by
  unfold umx mx
  simp only []
  rw [un29_ok, mul_ok, un32_ok]
theorem mx_umx (x : BitVec 64) : mx (umx x) = x := by
  unfold umx mx
  simp only []
  rw [un32_ok', mul_ok', un29_ok']
theorem mx_inj {x y : BitVec 64} (h : mx x = mx y) : x = y := by rw [← umx_mx x, ← umx_mx y, h]
theorem bk_nx (s : BitVec 64) : bk (nx s) = s := by
  unfold bk nx
  rw [BitVec.add_sub_cancel, BitVec.mul_assoc, show 6364136223846793005#64 * 13877824140714322085#64 = 1#64 by decide, BitVec.mul_one]
theorem nx_bk (s : BitVec 64) : nx (bk s) = s := by
  unfold bk nx
  rw [BitVec.mul_assoc, show 13877824140714322085#64 * 6364136223846793005#64 = 1#64 by decide, BitVec.mul_one, BitVec.sub_add_cancel]
theorem nx_inj {x y : BitVec 64} (h : nx x = nx y) : x = y := by rw [← bk_nx x, ← bk_nx y, h]
theorem nx_ne (s : BitVec 64) : nx s ≠ s := by
  intro h
  have h2 := congrArg BitVec.toNat h
  unfold nx at h2
  rw [BitVec.toNat_add, BitVec.toNat_mul] at h2
  simp only [BitVec.toNat_ofNat] at h2
  omega
theorem sd_inj_k {m j k : BitVec 64} (h : sd m j = sd m k) : j = k := by
  have h1 := mx_inj h
  have h2 : (j + 1#64) * 15074714826142052245#64 = (k + 1#64) * 15074714826142052245#64 := by
    have := congrArg (fun z => z - m) h1
    simpa [BitVec.add_comm m, BitVec.add_sub_cancel] using this
  have h3 := congrArg (fun z => z * 6281218453581128637#64) h2
  simp only [BitVec.mul_assoc, show 15074714826142052245#64 * 6281218453581128637#64 = 1#64 by decide, BitVec.mul_one] at h3
  have := congrArg (fun z => z - 1#64) h3
  simpa [BitVec.add_sub_cancel] using this
theorem sd_inj_m {m n k : BitVec 64} (h : sd m k = sd n k) : m = n := by
  have h1 := mx_inj h
  have := congrArg (fun z => z - (k + 1#64) * 15074714826142052245#64) h1
  simpa [BitVec.add_sub_cancel] using this
end Go.Proofs.YtagchghhpggnlaaGreat
namespace Go.Proofs.YtagchghhpggnlaaGreat
open Go.ChangeShapes Go.WideShapes Go.ChangeAt Go.RowKit

theorem mix_val (x : Int) (h : 0 ≤ x ∧ x ≤ 18446744073709551615) :
    bits .xor .u64 (IntKind.u64.wrap (bits .xor .u64 x (x / 4294967296) * 11400714819323198485)) (IntKind.u64.wrap (bits .xor .u64 x (x / 4294967296) * 11400714819323198485) / 536870912) = U (mx (B x)) := by
  have e1 : x / (4294967296 : Int) = U (B x >>> 32) := shr_B h 32
  have e2 : ∀ b : BitVec 64, U b / (536870912 : Int) = U (b >>> 29) := fun b => shr_U b 29
  simp only [e1, xor_U, wrap_U, B_mul, B_U, e2]
  rfl
theorem nx_val (s : Int) : IntKind.u64.wrap (IntKind.u64.wrap (s * 6364136223846793005) + 1442695040888963407) = U (nx (B s)) := by
  rw [wrap_U, B_add, B_wrap, B_mul]
  rfl
theorem bk_val (s : Int) : IntKind.u64.wrap (IntKind.u64.wrap (s - 1442695040888963407) * 13877824140714322085) = U (bk (B s)) := by
  rw [wrap_U, B_mul, B_wrap, B_sub]
  rfl
theorem sd_val (m k : Int) : IntKind.u64.wrap (m + IntKind.u64.wrap (IntKind.u64.wrap (IntKind.u64.wrap k + 1) * 15074714826142052245)) = U (B m + (B k + 1#64) * 15074714826142052245#64) := by
  rw [wrap_U, B_add, B_wrap, B_mul, B_wrap, B_add, B_wrap]
  rfl

theorem mix_any (x : Int) (h : 0 ≤ x ∧ x ≤ 18446744073709551615) (w : World) :
    Calls Tryz.prog 75 #[.int .u64 x] w fun e w' => e = .returned (.int .u64 (U (mx (B x)))) ∧ w' = w := by
  go_enter Tryz.func75, Tryz.ntmps75
  go_wp2
  rw [mix_val x h]
  go_ret
  exact ⟨rfl, rfl⟩
theorem next_any (s : Int) (w : World) :
    Calls Tryz.prog 189 #[.int .u64 s] w fun e w' => e = .returned (.tuple #[.int .u64 (U (nx (B s))), .int .u64 (U (mx (nx (B s))))]) ∧ w' = w := by
  go_enter Tryz.func189, Tryz.ntmps189
  go_wp2_with fail
  rw [nx_val]
  refine (mix_any _ (U_rng _) _).mono ?_
  rintro e w' ⟨rfl, rfl⟩
  rw [B_U]
  go_wp2
  go_ret2
  exact ⟨rfl, rfl⟩
theorem seed_any (m k : Int) (w : World) :
    Calls Tryz.prog 46 #[.int .u64 m, .int .i64 k] w fun e w' => e = .returned (.int .u64 (U (sd (B m) (B k)))) ∧ w' = w := by
  go_enter Tryz.func46, Tryz.ntmps46
  go_wp2_with fail
  rw [sd_val]
  refine (mix_any _ (U_rng _) _).mono ?_
  rintro e w' ⟨rfl, rfl⟩
  rw [B_U]
  go_wp2
  go_ret
  exact ⟨rfl, rfl⟩
end Go.Proofs.YtagchghhpggnlaaGreat
