import Derived.Test.YtagchghhpggnlaaGreatZDMix
import Derived.Handy
import Derived.Deep.RegionHeld3
import Derived.WalkLawsBesides
import Derived.ChangeOld
namespace Go.Proofs.YtagchghhpggnlaaGreat
open Go.ChangeShapes Go.WideShapes Go.ChangeAt Go.RowKit

def blw : Nat → BitVec 64 → Int → BitVec 64
  | 0, s, _ => s
  | k + 1, s, w => if U (mx (nx s)) < w then blw k (nx s) w else nx s
theorem blw_stop {k : Nat} {s : BitVec 64} {w : Int} (h : ¬ U (mx (nx s)) < w) : blw (k + 1) s w = nx s := by rw [blw, if_neg h]
theorem blw_more {k : Nat} {s : BitVec 64} {w : Int} (h : U (mx (nx s)) < w) : blw (k + 1) s w = blw k (nx s) w := by rw [blw, if_pos h]

theorem left_val {n : Int} (hn : 0 < n ∧ n ≤ 18446744073709551615) : (IntKind.u64.wrap (18446744073709551615 % n + 1)).tmod n = 18446744073709551616 % n := by
  have h1 := Int.emod_nonneg 18446744073709551615 (b := n) (by omega)
  have h2 := Int.emod_lt_of_pos 18446744073709551615 (b := n) hn.1
  have h3 : IntKind.u64.wrap (18446744073709551615 % n + 1) = 18446744073709551615 % n + 1 := by rw [wrap_U, U_B ⟨by omega, by omega⟩]
  rw [h3, Int.tmod_eq_emod_of_nonneg (by omega), Int.emod_add_emod]
  rfl
theorem uneven_val {n : Int} (hn : 0 < n ∧ n ≤ 18446744073709551615) : (IntKind.u64.wrap (-n)).tmod n = 18446744073709551616 % n := by
  have h3 : IntKind.u64.wrap (-n) = 18446744073709551616 - n := by
    simp only [IntKind.wrap, IntKind.bits, IntKind.signed]
    simp
    omega
  rw [h3, Int.tmod_eq_emod_of_nonneg (by omega), Int.sub_emod_right]

set_option maxRecDepth 100000 in
theorem below_core (s n W : Int) (b : BitVec 64) (hW : W = (IntKind.u64.wrap (-n)).tmod n) (hs : s = U b) (hn : 0 < n ∧ n ≤ 18446744073709551615) (w : World) :
    Calls Tryz.prog 168 #[.int .u64 s, .int .u64 n] w fun e w' => e = .returned (.tuple #[.int .u64 (U (mx (blw 8 b W)) % n), .int .u64 (U (blw 8 b W)), .int .i64 0]) ∧ w' = w := by
  have HS : Hid (s = U b) := hs
  clear hs
  have h0 : (n == 0) = false := by simp; omega
  go_enter Tryz.func168, Tryz.ntmps168
  go_wp2
  rw [← hW]
  clear hW
  go_loop [0, 8, 16] (fun vs vx vi => ∃ (k : Nat) (t : BitVec 64) (x : Int), k ≤ 8 ∧ vs = .int .u64 (U t) ∧ vi = .int .i64 k ∧ vx = .int .u64 x ∧ (0 < k → x = U (mx t)) ∧ blw 8 b W = blw (8 - k) t W) (fun _ _ vi => 8 - (intOf vi).toNat)
  case atStart => exact ⟨0, b, 0, by omega, by rw [HS.out], rfl, rfl, by omega, rfl⟩
  case round =>
    obtain ⟨k, t, x, hk, rfl, rfl, rfl, hx, hbl⟩ := hrel
    have HB : Hid (blw 8 b W = blw (8 - k) t W) := hbl
    have HX : Hid (0 < k → x = U (mx t)) := hx
    clear hbl hx
    have hU := U_rng t
    by_cases hlt : k < 8
    · by_cases hc : U (mx (nx t)) < W
      · go_wp2_with (go_at_call 189; refine (next_any _ _).mono ?_; rintro e w' ⟨rfl, hw⟩; subst w'; rw [B_U])
        go_round
        case rel => exact ⟨k + 1, nx t, _, by omega, rfl, by go_num, rfl, fun _ => rfl, by rw [HB.out, show 8 - k = (8 - (k + 1)) + 1 by omega, blw_more hc]⟩
        case measure => simp [intOf]; omega
      · go_wp2_with (go_at_call 189; refine (next_any _ _).mono ?_; rintro e w' ⟨rfl, hw⟩; subst w'; rw [B_U])
        have hv : blw 8 b W = nx t := by rw [HB.out, show 8 - k = (7 - k) + 1 by omega, blw_stop (by omega)]
        rw [hv, Int.tmod_eq_emod_of_nonneg (U_lo _)]
        go_returns
        exact ⟨rfl, rfl⟩
    · have hk8 : k = 8 := by omega
      have hv : blw 8 b W = t := by rw [HB.out, show 8 - k = 0 by omega]; rfl
      have hx : x = U (mx t) := HX.out (by omega)
      have HV : Hid (blw 8 b W = t) := hv
      subst hx
      clear hv hk8 HB HX
      go_wp2
      rw [HV.out, Int.tmod_eq_emod_of_nonneg (U_lo _)]
      go_returns
      exact ⟨rfl, rfl⟩
set_option maxRecDepth 100000 in
theorem below_any (s n : Int) (hs : 0 ≤ s ∧ s ≤ 18446744073709551615) (hn : 0 < n ∧ n ≤ 18446744073709551615) (w : World) :
    Calls Tryz.prog 168 #[.int .u64 s, .int .u64 n] w fun e w' => e = .returned (.tuple #[.int .u64 (U (mx (blw 8 (B s) (18446744073709551616 % n))) % n), .int .u64 (U (blw 8 (B s) (18446744073709551616 % n))), .int .i64 0]) ∧ w' = w :=
  below_core s n (18446744073709551616 % n) (B s) (uneven_val hn).symm (U_B hs).symm hn w
theorem below_zero (s : Int) (w : World) :
    Calls Tryz.prog 168 #[.int .u64 s, .int .u64 0] w fun e w' => e = .returned (.tuple #[.int .u64 0, .int .u64 s, .int .i64 20]) ∧ w' = w := by
  go_enter Tryz.func168, Tryz.ntmps168
  go_wp2
  go_returns
  exact ⟨rfl, rfl⟩
end Go.Proofs.YtagchghhpggnlaaGreat
