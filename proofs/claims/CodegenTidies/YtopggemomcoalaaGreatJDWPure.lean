import Derived.Test.YtopggemomcoalaaGreatRows
import Derived.WalkKit
import Derived.ProofKit
import Derived.OpenShut
import Derived.Below
import Derived.Laws.BitsAllLaws
import Derived.Handy
import Derived.Deep.RegionHeld3
import Derived.WalkLawsBesides
import Derived.ChangeOld
import Derived.Lib.BitFns
import Derived.Lib.Mul64
namespace Go.Proofs.YtopggemomcoalaaGreat
open Go.ChangeShapes Go.WideShapes Go.ChangeAt Go.RowKit

def B (x : Int) : BitVec 64 := BitVec.ofInt 64 x
def U (b : BitVec 64) : Int := (b.toNat : Int)

theorem U_lo (b : BitVec 64) : 0 ≤ U b := Int.natCast_nonneg _
theorem U_hi (b : BitVec 64) : U b ≤ 18446744073709551615 := by unfold U; have := b.isLt; omega
theorem U_rng (b : BitVec 64) : 0 ≤ U b ∧ U b ≤ 18446744073709551615 := ⟨U_lo b, U_hi b⟩
theorem B_U (b : BitVec 64) : B (U b) = b := by
  apply BitVec.eq_of_toNat_eq
  unfold B U
  rw [BitVec.toNat_ofInt]
  have := b.isLt
  omega
theorem wrap_U (x : Int) : IntKind.u64.wrap x = U (B x) := by
  unfold U B
  rw [BitVec.toNat_ofInt]
  simp only [IntKind.wrap, IntKind.bits, IntKind.signed]
  simp
  omega
theorem U_B {x : Int} (h : 0 ≤ x ∧ x ≤ 18446744073709551615) : U (B x) = x := by
  unfold U B
  rw [BitVec.toNat_ofInt]
  omega
theorem U_inj {a b : BitVec 64} (h : U a = U b) : a = b := by rw [← B_U a, ← B_U b, h]
theorem U_eq {a b : BitVec 64} : U a = U b ↔ a = b := ⟨U_inj, fun h => h ▸ rfl⟩
theorem B_inj {x y : Int} (hx : 0 ≤ x ∧ x ≤ 18446744073709551615) (hy : 0 ≤ y ∧ y ≤ 18446744073709551615) (h : B x = B y) : x = y := by rw [← U_B hx, ← U_B hy, h]
theorem B_wrap (x : Int) : B (IntKind.u64.wrap x) = B x := by rw [wrap_U, B_U]
theorem B_mul (x y : Int) : B (x * y) = B x * B y := by unfold B; exact BitVec.ofInt_mul x y
theorem B_add (x y : Int) : B (x + y) = B x + B y := by unfold B; exact BitVec.ofInt_add x y
theorem B_sub (x y : Int) : B (x - y) = B x - B y := by
  rw [Int.sub_eq_add_neg, B_add, BitVec.sub_eq_add_neg]
  unfold B
  rw [BitVec.ofInt_neg]
theorem xor_U {x y : Int} : bits .xor .u64 x y = U (B x ^^^ B y) := by
  have : bits .xor .u64 x y = IntKind.u64.wrap (U (B x ^^^ B y)) := rfl
  rw [this, wrap_U, B_U]
theorem and_U {x y : Int} : bits .and .u64 x y = U (B x &&& B y) := by
  have : bits .and .u64 x y = IntKind.u64.wrap (U (B x &&& B y)) := rfl
  rw [this, wrap_U, B_U]
theorem or_U {x y : Int} : bits .or .u64 x y = U (B x ||| B y) := by
  have : bits .or .u64 x y = IntKind.u64.wrap (U (B x ||| B y)) := rfl
  rw [this, wrap_U, B_U]
theorem shr_U (b : BitVec 64) (k : Nat) : U b / 2 ^ k = U (b >>> k) := by
  unfold U
  rw [BitVec.toNat_ushiftRight, Nat.shiftRight_eq_div_pow, Int.natCast_ediv, Int.natCast_pow]
  rfl
theorem shr_B {x : Int} (h : 0 ≤ x ∧ x ≤ 18446744073709551615) (k : Nat) : x / 2 ^ k = U (B x >>> k) := by
  rw [← shr_U, U_B h]

def mx (x : BitVec 64) : BitVec 64 :=
  let y := (x ^^^ (x >>> 32)) * 11400714819323198485#64
  y ^^^ (y >>> 29)
def nx (s : BitVec 64) : BitVec 64 := s * 6364136223846793005#64 + 1442695040888963407#64
def bk (s : BitVec 64) : BitVec 64 := (s - 1442695040888963407#64) * 13877824140714322085#64
def sd (m k : BitVec 64) : BitVec 64 := mx (m + (k + 1#64) * 15074714826142052245#64)

def un32 (y : BitVec 64) : BitVec 64 := y ^^^ (y >>> 32)
def un29 (y : BitVec 64) : BitVec 64 := y ^^^ (y >>> 29) ^^^ (y >>> 58)
theorem un32_ok (x : BitVec 64) : un32 (x ^^^ (x >>> 32)) = x := by
  unfold un32
  rw [BitVec.ushiftRight_xor_distrib, ← BitVec.shiftRight_add]
  have h : x >>> (32 + 32) = 0#64 := BitVec.ushiftRight_eq_zero (by decide)
  rw [h, BitVec.xor_zero, BitVec.xor_assoc, BitVec.xor_self, BitVec.xor_zero]
theorem un32_ok' (x : BitVec 64) : un32 x ^^^ (un32 x >>> 32) = x := un32_ok x
theorem un29_ok (x : BitVec 64) : un29 (x ^^^ (x >>> 29)) = x := by
  unfold un29
  rw [BitVec.ushiftRight_xor_distrib, BitVec.ushiftRight_xor_distrib, ← BitVec.shiftRight_add, ← BitVec.shiftRight_add]
  have h : x >>> (29 + 58) = 0#64 := BitVec.ushiftRight_eq_zero (by decide)
  rw [h, BitVec.xor_zero, show 29 + 29 = 58 from rfl]
  generalize x >>> 29 = a
  generalize x >>> 58 = b
  rw [BitVec.xor_assoc x a, ← BitVec.xor_assoc a a, BitVec.xor_self, BitVec.zero_xor, BitVec.xor_assoc, BitVec.xor_self, BitVec.xor_zero]
theorem un29_ok' (x : BitVec 64) : un29 x ^^^ (un29 x >>> 29) = x := by
  unfold un29
  rw [BitVec.ushiftRight_xor_distrib, BitVec.ushiftRight_xor_distrib, ← BitVec.shiftRight_add, ← BitVec.shiftRight_add]
  have h : x >>> (58 + 29) = 0#64 := BitVec.ushiftRight_eq_zero (by decide)
  rw [h, BitVec.xor_zero, show 29 + 29 = 58 from rfl]
  generalize x >>> 29 = a
  generalize x >>> 58 = b
  rw [BitVec.xor_assoc x a b, BitVec.xor_assoc, BitVec.xor_self, BitVec.xor_zero]
theorem mul_ok (x : BitVec 64) : x * 11400714819323198485#64 * 17428512612931826493#64 = x := by
  rw [BitVec.mul_assoc, show 11400714819323198485#64 * 17428512612931826493#64 = 1#64 by decide, BitVec.mul_one]
theorem mul_ok' (x : BitVec 64) : x * 17428512612931826493#64 * 11400714819323198485#64 = x := by
  rw [BitVec.mul_assoc, show 17428512612931826493#64 * 11400714819323198485#64 = 1#64 by decide, BitVec.mul_one]
def umx (y : BitVec 64) : BitVec 64 := un32 (un29 y * 17428512612931826493#64)
theorem umx_mx (x : BitVec 64) : umx (mx x) = x := by
  unfold umx mx
  simp only []
  rw [un29_ok, mul_ok, un32_ok]
theorem mx_umx (x : BitVec 64) : mx (umx x) = x := by
  unfold umx mx
  simp only []
  rw [un32_ok', mul_ok', un29_ok']
theorem mx_inj {x y : BitVec 64} (h : mx x = mx y) : x = y := by rw [← umx_mx x, ← umx_mx y, h]
theorem bk_nx (s : BitVec 64) : bk (nx s) = s := by
  unfold bk nx
  rw [BitVec.add_sub_cancel, BitVec.mul_assoc, show 6364136223846793005#64 * 13877824140714322085#64 = 1#64 by decide, BitVec.mul_one]
theorem nx_bk (s : BitVec 64) : nx (bk s) = s := by
  unfold bk nx
  rw [BitVec.mul_assoc, show 13877824140714322085#64 * 6364136223846793005#64 = 1#64 by decide, BitVec.mul_one, BitVec.sub_add_cancel]
theorem nx_inj {x y : BitVec 64} (h : nx x = nx y) : x = y := by rw [← bk_nx x, ← bk_nx y, h]
theorem nx_ne (s : BitVec 64) : nx s ≠ s := by
  intro h
  have h2 := congrArg BitVec.toNat h
  unfold nx at h2
  rw [BitVec.toNat_add, BitVec.toNat_mul] at h2
  simp only [BitVec.toNat_ofNat] at h2
  omega
theorem sd_inj_k {m j k : BitVec 64} (h : sd m j = sd m k) : j = k := by
  have h1 := mx_inj h
  have h2 : (j + 1#64) * 15074714826142052245#64 = (k + 1#64) * 15074714826142052245#64 := by
    have := congrArg (fun z => z - m) h1
    simpa [BitVec.add_comm m, BitVec.add_sub_cancel] using this
  have h3 := congrArg (fun z => z * 6281218453581128637#64) h2
  simp only [BitVec.mul_assoc, show 15074714826142052245#64 * 6281218453581128637#64 = 1#64 by decide, BitVec.mul_one] at h3
  have := congrArg (fun z => z - 1#64) h3
  simpa [BitVec.add_sub_cancel] using this
theorem sd_inj_m {m n k : BitVec 64} (h : sd m k = sd n k) : m = n := by
  have h1 := mx_inj h
  have := congrArg (fun z => z - (k + 1#64) * 15074714826142052245#64) h1
  simpa [BitVec.add_sub_cancel] using this
end Go.Proofs.YtopggemomcoalaaGreat
namespace Go.Proofs.YtopggemomcoalaaGreat
open Go.ChangeShapes Go.WideShapes Go.ChangeAt Go.RowKit

theorem mix_val (x : Int) (h : 0 ≤ x ∧ x ≤ 18446744073709551615) :
    bits .xor .u64 (IntKind.u64.wrap (bits .xor .u64 x (x / 4294967296) * 11400714819323198485)) (IntKind.u64.wrap (bits .xor .u64 x (x / 4294967296) * 11400714819323198485) / 536870912) = U (mx (B x)) := by
  have e1 : x / (4294967296 : Int) = U (B x >>> 32) := shr_B h 32
  have e2 : ∀ b : BitVec 64, U b / (536870912 : Int) = U (b >>> 29) := fun b => shr_U b 29
  simp only [e1, xor_U, wrap_U, B_mul, B_U, e2]
  rfl
theorem nx_val (s : Int) : IntKind.u64.wrap (IntKind.u64.wrap (s * 6364136223846793005) + 1442695040888963407) = U (nx (B s)) := by
  rw [wrap_U, B_add, B_wrap, B_mul]
  rfl
theorem bk_val (s : Int) : IntKind.u64.wrap (IntKind.u64.wrap (s - 1442695040888963407) * 13877824140714322085) = U (bk (B s)) := by
  rw [wrap_U, B_mul, B_wrap, B_sub]
  rfl
theorem sd_val (m k : Int) : IntKind.u64.wrap (m + IntKind.u64.wrap (IntKind.u64.wrap (IntKind.u64.wrap k + 1) * 15074714826142052245)) = U (B m + (B k + 1#64) * 15074714826142052245#64) := by
  rw [wrap_U, B_add, B_wrap, B_mul, B_wrap, B_add, B_wrap]
  rfl

theorem mix_any (x : Int) (h : 0 ≤ x ∧ x ≤ 18446744073709551615) (w : World) :
    Calls Tryz.prog 123 #[.int .u64 x] w fun e w' => e = .returned (.int .u64 (U (mx (B x)))) ∧ w' = w := by
  go_enter Tryz.func123, Tryz.ntmps123
  go_wp2
  rw [mix_val x h]
  go_ret
  exact ⟨rfl, rfl⟩
theorem next_any (s : Int) (w : World) :
    Calls Tryz.prog 118 #[.int .u64 s] w fun e w' => e = .returned (.tuple #[.int .u64 (U (nx (B s))), .int .u64 (U (mx (nx (B s))))]) ∧ w' = w := by
  go_enter Tryz.func118, Tryz.ntmps118
  go_wp2_with fail
  rw [nx_val]
  refine (mix_any _ (U_rng _) _).mono ?_
  rintro e w' ⟨rfl, rfl⟩
  rw [B_U]
  go_wp2
  go_ret2
  exact ⟨rfl, rfl⟩
end Go.Proofs.YtopggemomcoalaaGreat
namespace Go.Proofs.YtopggemomcoalaaGreat
open Go.ChangeShapes Go.WideShapes Go.ChangeAt Go.RowKit

def blw : Nat → BitVec 64 → Int → BitVec 64
  | 0, s, _ => s
  | k + 1, s, w => if U (mx (nx s)) < w then blw k (nx s) w else nx s
theorem blw_stop {k : Nat} {s : BitVec 64} {w : Int} (h : ¬ U (mx (nx s)) < w) : blw (k + 1) s w = nx s := by rw [blw, if_neg h]
theorem blw_more {k : Nat} {s : BitVec 64} {w : Int} (h : U (mx (nx s)) < w) : blw (k + 1) s w = blw k (nx s) w := by rw [blw, if_pos h]

theorem left_val {n : Int} (hn : 0 < n ∧ n ≤ 18446744073709551615) : (IntKind.u64.wrap (18446744073709551615 % n + 1)).tmod n = 18446744073709551616 % n := by
  have h1 := Int.emod_nonneg 18446744073709551615 (b := n) (by omega)
  have h2 := Int.emod_lt_of_pos 18446744073709551615 (b := n) hn.1
  have h3 : IntKind.u64.wrap (18446744073709551615 % n + 1) = 18446744073709551615 % n + 1 := by rw [wrap_U, U_B ⟨by omega, by omega⟩]
  rw [h3, Int.tmod_eq_emod_of_nonneg (by omega), Int.emod_add_emod]
  rfl
theorem uneven_val {n : Int} (hn : 0 < n ∧ n ≤ 18446744073709551615) : (IntKind.u64.wrap (-n)).tmod n = 18446744073709551616 % n := by
  have h3 : IntKind.u64.wrap (-n) = 18446744073709551616 - n := by
    simp only [IntKind.wrap, IntKind.bits, IntKind.signed]
    simp
    omega
  rw [h3, Int.tmod_eq_emod_of_nonneg (by omega), Int.sub_emod_right]

set_option maxRecDepth 100000 in
theorem below_core (s n W : Int) (b : BitVec 64) (hW : W = (IntKind.u64.wrap (-n)).tmod n) (hs : s = U b) (hn : 0 < n ∧ n ≤ 18446744073709551615) (w : World) :
    Calls Tryz.prog 113 #[.int .u64 s, .int .u64 n] w fun e w' => e = .returned (.tuple #[.int .u64 (U (mx (blw 8 b W)) % n), .int .u64 (U (blw 8 b W)), .int .i64 0]) ∧ w' = w := by
  have HS : Hid (s = U b) := hs
  clear hs
  have h0 : (n == 0) = false := by simp; omega
  go_enter Tryz.func113, Tryz.ntmps113
  go_wp2
  rw [← hW]
  clear hW
  go_loop [0, 8, 16] (fun vs vx vi => ∃ (k : Nat) (t : BitVec 64) (x : Int), k ≤ 8 ∧ vs = .int .u64 (U t) ∧ vi = .int .i64 k ∧ vx = .int .u64 x ∧ (0 < k → x = U (mx t)) ∧ blw 8 b W = blw (8 - k) t W) (fun _ _ vi => 8 - (intOf vi).toNat)
  case atStart => exact ⟨0, b, 0, by omega, by rw [HS.out], rfl, rfl, by omega, rfl⟩
  case round =>
    obtain ⟨k, t, x, hk, rfl, rfl, rfl, hx, hbl⟩ := hrel
    have HB : Hid (blw 8 b W = blw (8 - k) t W) := hbl
    have HX : Hid (0 < k → x = U (mx t)) := hx
    clear hbl hx
    have hU := U_rng t
    by_cases hlt : k < 8
    · by_cases hc : U (mx (nx t)) < W
      · go_wp2_with (go_at_call 118; refine (next_any _ _).mono ?_; rintro e w' ⟨rfl, hw⟩; subst w'; rw [B_U])
        go_round
        case rel => exact ⟨k + 1, nx t, _, by omega, rfl, by go_num, rfl, fun _ => rfl, by rw [HB.out, show 8 - k = (8 - (k + 1)) + 1 by omega, blw_more hc]⟩
        case measure => simp [intOf]; omega
      · go_wp2_with (go_at_call 118; refine (next_any _ _).mono ?_; rintro e w' ⟨rfl, hw⟩; subst w'; rw [B_U])
        have hv : blw 8 b W = nx t := by rw [HB.out, show 8 - k = (7 - k) + 1 by omega, blw_stop (by omega)]
        rw [hv, Int.tmod_eq_emod_of_nonneg (U_lo _)]
        go_returns
        exact ⟨rfl, rfl⟩
    · have hk8 : k = 8 := by omega
      have hv : blw 8 b W = t := by rw [HB.out, show 8 - k = 0 by omega]; rfl
      have hx : x = U (mx t) := HX.out (by omega)
      have HV : Hid (blw 8 b W = t) := hv
      subst hx
      clear hv hk8 HB HX
      go_wp2
      rw [HV.out, Int.tmod_eq_emod_of_nonneg (U_lo _)]
      go_returns
      exact ⟨rfl, rfl⟩
set_option maxRecDepth 100000 in
theorem below_any (s n : Int) (hs : 0 ≤ s ∧ s ≤ 18446744073709551615) (hn : 0 < n ∧ n ≤ 18446744073709551615) (w : World) :
    Calls Tryz.prog 113 #[.int .u64 s, .int .u64 n] w fun e w' => e = .returned (.tuple #[.int .u64 (U (mx (blw 8 (B s) (18446744073709551616 % n))) % n), .int .u64 (U (blw 8 (B s) (18446744073709551616 % n))), .int .i64 0]) ∧ w' = w :=
  below_core s n (18446744073709551616 % n) (B s) (uneven_val hn).symm (U_B hs).symm hn w
theorem below_zero (s : Int) (w : World) :
    Calls Tryz.prog 113 #[.int .u64 s, .int .u64 0] w fun e w' => e = .returned (.tuple #[.int .u64 0, .int .u64 s, .int .i64 20]) ∧ w' = w := by
  go_enter Tryz.func113, Tryz.ntmps113
  go_wp2
  go_returns
  exact ⟨rfl, rfl⟩
end Go.Proofs.YtopggemomcoalaaGreat
namespace Go.Proofs.YtopggemomcoalaaGreat
open Go.ChangeShapes Go.WideShapes Go.ChangeAt Go.RowKit

def dg : Nat → Nat → Nat → Nat
  | 0, _, f => f
  | k + 1, m, f => if 170141183460469231731687303715884105728 ≤ m * m then dg k (m * m / 18446744073709551616) (2 * f + 1) else dg k (m * m / 9223372036854775808) (2 * f)

def inM (m : Nat) : Prop := 9223372036854775808 ≤ m ∧ m < 18446744073709551616
theorem sq_lo {m : Nat} (h : inM m) : 85070591730234615865843651857942052864 ≤ m * m := Nat.mul_le_mul h.1 h.1
theorem sq_hi {m : Nat} (h : inM m) : m * m < 340282366920938463463374607431768211456 := Nat.mul_lt_mul_of_lt_of_lt h.2 h.2
theorem inM_one {m : Nat} (h : inM m) (c : 170141183460469231731687303715884105728 ≤ m * m) : inM (m * m / 18446744073709551616) := by
  have h1 := sq_hi h
  unfold inM
  omega
theorem inM_two {m : Nat} (h : inM m) (c : ¬ 170141183460469231731687303715884105728 ≤ m * m) : inM (m * m / 9223372036854775808) := by
  have h1 := sq_lo h
  unfold inM
  omega
theorem dg_one {k m f : Nat} (c : 170141183460469231731687303715884105728 ≤ m * m) : dg (k + 1) m f = dg k (m * m / 18446744073709551616) (2 * f + 1) := by rw [dg, if_pos c]
theorem dg_two {k m f : Nat} (c : ¬ 170141183460469231731687303715884105728 ≤ m * m) : dg (k + 1) m f = dg k (m * m / 9223372036854775808) (2 * f) := by rw [dg, if_neg c]
theorem dg_rng : ∀ k m f, f * 2 ^ k ≤ dg k m f ∧ dg k m f < (f + 1) * 2 ^ k := by
  intro k
  induction k with
  | zero => intro m f; simp [dg]
  | succ k ih =>
    intro m f
    by_cases c : 170141183460469231731687303715884105728 ≤ m * m
    · rw [dg_one c]
      have h := ih (m * m / 18446744073709551616) (2 * f + 1)
      have e1 : f * 2 ^ (k + 1) = 2 * f * 2 ^ k := by rw [Nat.pow_succ, Nat.mul_comm (2 ^ k) 2, ← Nat.mul_assoc, Nat.mul_comm f 2]
      have e2 : (f + 1) * 2 ^ (k + 1) = (2 * f + 1 + 1) * 2 ^ k := by rw [Nat.pow_succ, Nat.mul_comm (2 ^ k) 2, ← Nat.mul_assoc]; congr 1; omega
      have e3 : (2 * f + 1) * 2 ^ k = 2 * f * 2 ^ k + 2 ^ k := by rw [Nat.add_mul, Nat.one_mul]
      have hp := Nat.two_pow_pos k
      rw [e1, e2]
      generalize 2 ^ k = P at *
      omega
    · rw [dg_two c]
      have h := ih (m * m / 9223372036854775808) (2 * f)
      have e1 : f * 2 ^ (k + 1) = 2 * f * 2 ^ k := by rw [Nat.pow_succ, Nat.mul_comm (2 ^ k) 2, ← Nat.mul_assoc, Nat.mul_comm f 2]
      have e2 : (f + 1) * 2 ^ (k + 1) = (2 * f + 1) * 2 ^ k + 2 ^ k := by
        rw [Nat.pow_succ, Nat.mul_comm (2 ^ k) 2, ← Nat.mul_assoc, show (f + 1) * 2 = (2 * f + 1) + 1 by omega, Nat.add_mul (2 * f + 1), Nat.one_mul]
      have hp := Nat.two_pow_pos k
      rw [e1, e2]
      generalize 2 ^ k = P at *
      omega
theorem dg_mono : ∀ k m m' f f', (f < f' ∨ f = f' ∧ m ≤ m') → dg k m f ≤ dg k m' f' := by
  intro k
  induction k with
  | zero => intro m m' f f' h; simp only [dg]; omega
  | succ k ih =>
    intro m m' f f' h
    rcases h with h | ⟨rfl, h⟩
    · have h1 := dg_rng (k + 1) m f
      have h2 := dg_rng (k + 1) m' f'
      have h3 : (f + 1) * 2 ^ (k + 1) ≤ f' * 2 ^ (k + 1) := Nat.mul_le_mul_right _ h
      omega
    · have hm : m * m ≤ m' * m' := Nat.mul_le_mul h h
      by_cases c : 170141183460469231731687303715884105728 ≤ m * m
      · rw [dg_one c, dg_one (by omega)]
        exact ih _ _ _ _ (Or.inr ⟨rfl, Nat.div_le_div_right hm⟩)
      · rw [dg_two c]
        by_cases c' : 170141183460469231731687303715884105728 ≤ m' * m'
        · rw [dg_one c']
          exact ih _ _ _ _ (Or.inl (by omega))
        · rw [dg_two c']
          exact ih _ _ _ _ (Or.inr ⟨rfl, Nat.div_le_div_right hm⟩)

/-- e: the place of the highest bit of x -/
def atBit (x e : Nat) : Prop := 2 ^ e ≤ x ∧ x < 2 ^ (e + 1)
theorem atBit_u {x e e' : Nat} (h : atBit x e) (h' : atBit x e') : e = e' := by
  unfold atBit at *
  rcases Nat.lt_trichotomy e e' with l | l | l
  · have : 2 ^ (e + 1) ≤ 2 ^ e' := Nat.pow_le_pow_right (by omega) l
    omega
  · exact l
  · have : 2 ^ (e' + 1) ≤ 2 ^ e := Nat.pow_le_pow_right (by omega) l
    omega
theorem bitLenAux_at : ∀ f x, 0 < x → x < 2 ^ f → 0 < Lib.bitLenAux f x ∧ Lib.bitLenAux f x ≤ f ∧ atBit x (Lib.bitLenAux f x - 1) := by
  intro f
  induction f with
  | zero => intro x h1 h2; simp at h2; omega
  | succ f ih =>
    intro x h1 h2
    rw [Lib.bitLenAux, if_neg (by omega)]
    by_cases h : x / 2 = 0
    · have : Lib.bitLenAux f (x / 2) = 0 := by
        rw [h]
        cases f <;> simp [Lib.bitLenAux]
      rw [this]
      refine ⟨by omega, by omega, ?_⟩
      unfold atBit
      simp
      omega
    · obtain ⟨i1, i2, i3⟩ := ih (x / 2) (by omega) (by rw [Nat.pow_succ] at h2; omega)
      refine ⟨by omega, by omega, ?_⟩
      unfold atBit at *
      generalize Lib.bitLenAux f (x / 2) = b at *
      obtain ⟨c, rfl⟩ : ∃ c, b = c + 1 := ⟨b - 1, by omega⟩
      rw [show 1 + (c + 1) - 1 = c + 1 by omega, Nat.pow_succ 2 (c + 1)]
      rw [show c + 1 - 1 = c by omega] at i3
      rw [Nat.pow_succ] at *
      omega
theorem bitLen_at {x : Nat} (h0 : 0 < x) (h1 : x < 18446744073709551616) : 0 < Lib.bitLen x ∧ Lib.bitLen x ≤ 64 ∧ atBit x (Lib.bitLen x - 1) := bitLenAux_at 64 x h0 h1

def lg (x : Nat) : Nat := (Lib.bitLen x - 1) * 65536 + dg 16 (x * 2 ^ (64 - Lib.bitLen x)) 0
theorem top_in {x e : Nat} (he : e ≤ 63) (h : atBit x e) : inM (x * 2 ^ (63 - e)) := by
  unfold atBit at h
  unfold inM
  have e1 : 2 ^ e * 2 ^ (63 - e) = 9223372036854775808 := by rw [← Nat.pow_add, show e + (63 - e) = 63 by omega]
  have e2 : 2 ^ (e + 1) * 2 ^ (63 - e) = 18446744073709551616 := by rw [← Nat.pow_add, show e + 1 + (63 - e) = 64 by omega]
  have h1 := Nat.mul_le_mul_right (2 ^ (63 - e)) h.1
  have h2 := Nat.mul_lt_mul_of_pos_right h.2 (Nat.pow_pos (n := 63 - e) (show 0 < 2 by omega))
  omega
theorem lg_eq {x e : Nat} (h1 : x < 18446744073709551616) (h : atBit x e) : lg x = e * 65536 + dg 16 (x * 2 ^ (63 - e)) 0 ∧ e ≤ 63 := by
  have h0 : 0 < x := by have := h.1; have := Nat.pow_pos (n := e) (show 0 < 2 by omega); omega
  obtain ⟨b1, b2, b3⟩ := bitLen_at h0 h1
  have := atBit_u h b3
  unfold lg
  subst this
  rw [show 64 - Lib.bitLen x = 63 - (Lib.bitLen x - 1) by omega]
  exact ⟨rfl, by omega⟩
theorem dg16 (m : Nat) : dg 16 m 0 < 65536 := by have := (dg_rng 16 m 0).2; omega
theorem lg_lt {x : Nat} (h0 : 0 < x) (h1 : x < 18446744073709551616) : lg x < 4194304 := by
  obtain ⟨b1, b2, b3⟩ := bitLen_at h0 h1
  unfold lg
  have := dg16 (x * 2 ^ (64 - Lib.bitLen x))
  omega
theorem lg_mono {x y : Nat} (h0 : 0 < x) (h : x ≤ y) (h1 : y < 18446744073709551616) : lg x ≤ lg y := by
  obtain ⟨b1, b2, b3⟩ := bitLen_at h0 (by omega)
  obtain ⟨c1, c2, c3⟩ := bitLen_at (x := y) (by omega) h1
  unfold lg
  have d1 := dg16 (x * 2 ^ (64 - Lib.bitLen x))
  rcases Nat.lt_trichotomy (Lib.bitLen x) (Lib.bitLen y) with l | l | l
  · omega
  · rw [l]
    have := dg_mono 16 (x * 2 ^ (64 - Lib.bitLen y)) (y * 2 ^ (64 - Lib.bitLen y)) 0 0 (Or.inr ⟨rfl, Nat.mul_le_mul_right _ h⟩)
    omega
  · exfalso
    unfold atBit at *
    have : 2 ^ (Lib.bitLen y - 1 + 1) ≤ 2 ^ (Lib.bitLen x - 1) := Nat.pow_le_pow_right (by omega) (by omega)
    omega

/-- how far below 2^64, by halvings -/
def hv (x : Nat) : Nat := 4194304 - lg (max x 1)
theorem hv_mono {x y : Nat} (h : x ≤ y) (h1 : y < 18446744073709551616) : hv y ≤ hv x := by
  unfold hv
  have := lg_mono (x := max x 1) (y := max y 1) (by omega) (by omega) (by omega)
  omega
theorem hv_le (x : Nat) : hv x ≤ 4194304 := by unfold hv; omega
def wq (x mean : Nat) : Nat := mean * (hv x * 45426)
theorem wq_mono {x y m n : Nat} (h : x ≤ y) (h1 : y < 18446744073709551616) (hm : m ≤ n) : wq y m ≤ wq x n := Nat.mul_le_mul hm (Nat.mul_le_mul_right _ (hv_mono h h1))
end Go.Proofs.YtopggemomcoalaaGreat
