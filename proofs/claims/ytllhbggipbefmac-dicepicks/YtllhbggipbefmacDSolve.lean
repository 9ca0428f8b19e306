import Derived.Test.YtllhbggipbefmacDMix
import Derived.Handy
import Derived.Deep.RegionHeld3
import Derived.WalkLawsBesides
namespace Go.Proofs.Ytllhbggipbefmac
open Go.ChangeShapes Go.WideShapes Go.ChangeAt Go.RowKit

theorem bit_split (v P : Int) (hP : 0 < P) : v % (P * 2) = v % P + P * (v / P % 2) := by
  have h1 := Int.emod_def v (P * 2)
  have h2 := Int.emod_def v P
  have h3 := Int.emod_def (v / P) 2
  have h4 : v / (P * 2) = v / P / 2 := (Int.ediv_ediv_of_nonneg (by omega)).symm
  rw [h1, h2, h3, h4, Int.mul_sub, Int.mul_assoc]
  omega
theorem and1 {a : Int} (h : 0 ≤ a ∧ a ≤ 18446744073709551615) : bits .and .u64 a 1 = a % 2 := by
  rw [u64_and a 1 h.1 (by omega) (by omega) (by omega)]
  show (((a.toNat &&& 1 : Nat)) : Int) = a % 2
  rw [nat_mask1]
  omega
theorem two_pow_pos (i : Nat) : (0 : Int) < 2 ^ i := Int.pow_pos (by omega)
theorem two_pow_lt {i : Nat} (h : i < 64) : (2 : Int) ^ i ≤ 9223372036854775808 := by
  have : (2 : Int) ^ i ≤ 2 ^ 63 := by
    have h2 : (2 : Nat) ^ i ≤ 2 ^ 63 := Nat.pow_le_pow_right (by omega) (by omega)
    have h3 : (((2 : Nat) ^ i : Nat) : Int) ≤ ((2 ^ 63 : Nat) : Int) := by omega
    simpa using h3
  exact this
theorem two_pow_wrap {i : Nat} (h : i < 64) : IntKind.u64.wrap (2 ^ i) = 2 ^ i := by
  have h1 := two_pow_lt h
  have h2 := two_pow_pos i
  rw [wrap_U, U_B ⟨by omega, by omega⟩]
theorem or_pow {x : Int} {i : Nat} (h : i < 64) (h0 : 0 ≤ x) (h1 : x < 2 ^ i) : bits .or .u64 x (IntKind.u64.wrap (2 ^ i)) = x + 2 ^ i := by
  have p1 := two_pow_lt h
  have p2 := two_pow_pos i
  rw [two_pow_wrap h, u64_or x (2 ^ i) h0 (by omega) (by omega) (by omega)]
  have e1 : ((2 : Int) ^ i).toNat = 2 ^ i := by
    have : (2 : Int) ^ i = ((2 ^ i : Nat) : Int) := by simp
    rw [this, Int.toNat_natCast]
  rw [e1, Nat.or_comm, nat_join i _ _ (Nat.mod_self _) (by have : (2 : Int) ^ i = ((2 ^ i : Nat) : Int) := by simp
                                                           omega)]
  have : (2 : Int) ^ i = ((2 ^ i : Nat) : Int) := by simp
  omega
theorem pow_dvd64 {i : Nat} (h : i ≤ 64) : (2 : Int) ^ i ∣ 18446744073709551616 := by
  have : (18446744073709551616 : Int) = 2 ^ i * 2 ^ (64 - i) := by
    rw [← Int.pow_add, show i + (64 - i) = 64 by omega]
    rfl
  rw [this]
  exact Int.dvd_mul_right _ _
theorem wrap_mod {x : Int} {i : Nat} (h : i ≤ 64) : IntKind.u64.wrap x % 2 ^ i = x % 2 ^ i := by
  have : IntKind.u64.wrap x = x % 18446744073709551616 := by simp [IntKind.wrap, IntKind.bits, IntKind.signed]
  rw [this, Int.emod_emod_of_dvd _ (pow_dvd64 h)]
theorem sv_mod {x f d : Int} {i : Nat} (h : i ≤ 64) : IntKind.u64.wrap (IntKind.u64.wrap (x * f) + d) % 2 ^ i = (x * f + d) % 2 ^ i := by
  rw [wrap_mod h, Int.add_emod, wrap_mod h, ← Int.add_emod]
theorem wrap_rng (x : Int) : 0 ≤ IntKind.u64.wrap x ∧ IntKind.u64.wrap x ≤ 18446744073709551615 := by rw [wrap_U]; exact U_rng _
theorem div_rng {v : Int} (h : 0 ≤ v ∧ v ≤ 18446744073709551615) (i : Nat) : 0 ≤ v / 2 ^ i ∧ v / 2 ^ i ≤ 18446744073709551615 := by
  have := two_pow_pos i
  refine ⟨Int.ediv_nonneg h.1 (by omega), ?_⟩
  exact Int.le_trans (Int.ediv_le_self _ h.1) h.2
theorem bitv {v : Int} (h : 0 ≤ v ∧ v ≤ 18446744073709551615) (i : Nat) : bits .and .u64 (v / 2 ^ i) 1 = v / 2 ^ i % 2 := and1 (div_rng h i)
theorem pow_succ2 (i : Nat) : (2 : Int) ^ (i + 1) = 2 ^ i * 2 := Int.pow_succ 2 i

theorem sv_stay {x f d y : Int} {i : Nat} (hi : i < 64) (hy : 0 ≤ y ∧ y ≤ 18446744073709551615) (hinv : (x * f + d) % 2 ^ i = y % 2 ^ i)
    (ht : bits .and .u64 (IntKind.u64.wrap (IntKind.u64.wrap (x * f) + d) / 2 ^ i) 1 = bits .and .u64 (y / 2 ^ i) 1) :
    (x * f + d) % 2 ^ (i + 1) = y % 2 ^ (i + 1) := by
  rw [bitv (wrap_rng _), bitv hy] at ht
  rw [← sv_mod (by omega), pow_succ2, bit_split _ _ (two_pow_pos i), bit_split y _ (two_pow_pos i), ht, sv_mod (by omega), hinv]
theorem sv_flip {x f d y : Int} {i : Nat} (hi : i < 64) (hf : f % 2 = 1) (hy : 0 ≤ y ∧ y ≤ 18446744073709551615) (hinv : (x * f + d) % 2 ^ i = y % 2 ^ i)
    (ht : ¬ bits .and .u64 (IntKind.u64.wrap (IntKind.u64.wrap (x * f) + d) / 2 ^ i) 1 = bits .and .u64 (y / 2 ^ i) 1) :
    ((x + 2 ^ i) * f + d) % 2 ^ (i + 1) = y % 2 ^ (i + 1) := by
  rw [bitv (wrap_rng _), bitv hy] at ht
  have e1 : (x + 2 ^ i) * f + d = (x * f + d) + 2 ^ i + 2 ^ (i + 1) * (f / 2) := by
    have h2 : f = 1 + 2 * (f / 2) := by omega
    have h3 : 2 ^ i * f = 2 ^ i + 2 ^ (i + 1) * (f / 2) := by
      conv => lhs; rw [h2]
      rw [Int.mul_add, Int.mul_one, pow_succ2, Int.mul_assoc]
    rw [Int.add_mul, h3]
    omega
  rw [e1, Int.add_mul_emod_self_left, Int.add_emod, ← sv_mod (i := i + 1) (by omega), ← Int.add_emod]
  have hb := sv_mod (x := x) (f := f) (d := d) (i := i) (by omega)
  have p := two_pow_pos i
  have hv := wrap_rng (IntKind.u64.wrap (x * f) + d)
  generalize IntKind.u64.wrap (IntKind.u64.wrap (x * f) + d) = v at *
  have s1 := bit_split v (2 ^ i) p
  have s2 := bit_split y (2 ^ i) p
  rw [pow_succ2, s2]
  rw [hinv] at hb
  have k1 : v / 2 ^ i % 2 = 0 ∨ v / 2 ^ i % 2 = 1 := by omega
  have k2 : y / 2 ^ i % 2 = 0 ∨ y / 2 ^ i % 2 = 1 := by omega
  have r1 := Int.emod_nonneg y (b := 2 ^ i) (by omega)
  have r2 := Int.emod_lt_of_pos y p
  generalize (2 : Int) ^ i = P at *
  rw [hb] at s1
  rcases k1 with k1 | k1 <;> rcases k2 with k2 | k2
  · omega
  · rw [k1] at s1; rw [k2]
    rw [Int.add_emod, s1, Int.mul_zero, Int.add_zero, Int.emod_eq_of_lt (a := P) (by omega) (by omega), Int.emod_eq_of_lt (by omega) (by omega)]
    omega
  · rw [k1] at s1; rw [k2]
    rw [Int.add_emod, s1, Int.mul_one, Int.emod_eq_of_lt (a := P) (by omega) (by omega), Int.mul_zero]
    have : y % P + P + P = y % P + (P * 2) * 1 := by omega
    rw [this, Int.add_mul_emod_self_left, Int.emod_eq_of_lt (by omega) (by omega)]
    omega
  · omega
theorem B_mod {a b : Int} (h : a % 18446744073709551616 = b % 18446744073709551616) : B a = B b := by
  apply BitVec.eq_of_toNat_eq
  unfold B
  rw [BitVec.toNat_ofInt, BitVec.toNat_ofInt]
  omega

theorem solve_any (f d y : Int) (g : BitVec 64) (hf : f % 2 = 1) (hg : B f * g = 1#64) (hy : 0 ≤ y ∧ y ≤ 18446744073709551615) (w : World) :
    Calls Try.prog 23 #[.int .u64 f, .int .u64 d, .int .u64 y] w fun e w' => e = .returned (.int .u64 (U ((B y - B d) * g))) ∧ Below w.heap.size w w' := by
  go_enter Try.func23, Try.ntmps23
  go_wp2
  go_loopw [7, 8] (fun vx vi wr => ∃ (i : Nat) (x : Int), i ≤ 64 ∧ vx = .int .u64 x ∧ vi = .int .i64 i ∧ 0 ≤ x ∧ x < 2 ^ i ∧ (x * f + d) % 2 ^ i = y % 2 ^ i ∧ Below w.heap.size w wr) (fun _ vi _ => 64 - (intOf vi).toNat)
  case atStart => exact ⟨0, 0, by omega, rfl, rfl, by omega, by decide, by simp, Below.refl _ _⟩
  case round =>
    obtain ⟨i, x, hi, rfl, rfl, hx, hx2, hinv, hb⟩ := hrel
    have hi0 : (0 : Int) ≤ (i : Int) := by omega
    have HI : Hid ((x * f + d) % 2 ^ i = y % 2 ^ i) := hinv
    clear hinv
    by_cases hlt : i < 64
    · by_cases ht : bits .and .u64 (IntKind.u64.wrap (IntKind.u64.wrap (x * f) + d) / 2 ^ i) 1 = bits .and .u64 (y / 2 ^ i) 1
      · have HT : Hid ((bits .and .u64 (IntKind.u64.wrap (IntKind.u64.wrap (x * f) + d) / 2 ^ i) 1) = bits .and .u64 (y / 2 ^ i) 1) := ht
        have ht2 : (bits .and .u64 (IntKind.u64.wrap (IntKind.u64.wrap (x * f) + d) / 2 ^ i) 1 != bits .and .u64 (y / 2 ^ i) 1) = false := by simp [ht]
        clear ht
        go_wp2
        go_region_held3 (fun w' => Below w.heap.size w w') (first | exact hb | exact hb.drew | go_keep) (fail)
        all_goals go_wp2
        go_roundw
        case rel => exact ⟨i + 1, x, by omega, rfl, by go_num, hx, by rw [pow_succ2]; omega, sv_stay hlt hy HI.out HT.out, hb.drew⟩
        case measure => simp [intOf]; omega
      · have HT : Hid (¬ (bits .and .u64 (IntKind.u64.wrap (IntKind.u64.wrap (x * f) + d) / 2 ^ i) 1) = bits .and .u64 (y / 2 ^ i) 1) := ht
        have ht2 : (bits .and .u64 (IntKind.u64.wrap (IntKind.u64.wrap (x * f) + d) / 2 ^ i) 1 != bits .and .u64 (y / 2 ^ i) 1) = true := by simp [ht]
        clear ht
        go_wp2
        go_region_held3 (fun w' => Below w.heap.size w w') (first | exact hb | exact hb.drew | go_keep) (fail)
        all_goals go_wp2
        go_roundw
        case rel => exact ⟨i + 1, x + 2 ^ i, by omega, congrArg _ (or_pow hlt hx hx2), by go_num, by have := two_pow_pos i; omega, by rw [pow_succ2]; omega, sv_flip hlt hf hy HI.out HT.out, hb.drew⟩
        case measure => simp [intOf]; omega
    · obtain rfl : i = 64 := by omega
      go_wp2
      go_ret
      refine ⟨congrArg (fun z => Ending.returned (.int .u64 z)) ?_, hb⟩
      have h1 : B (x * f + d) = B y := B_mod HI.out
      rw [B_add, B_mul] at h1
      have h2 : B x = (B y - B d) * g := by
        rw [← h1, BitVec.add_sub_cancel, BitVec.mul_assoc, hg, BitVec.mul_one]
      rw [← h2, U_B ⟨hx, by have : x < 18446744073709551616 := hx2; omega⟩]
end Go.Proofs.Ytllhbggipbefmac
