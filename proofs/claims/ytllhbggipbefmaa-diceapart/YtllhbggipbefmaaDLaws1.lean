import Derived.Test.YtllhbggipbefmaaDMix
import Derived.ChangeOld
import Derived.Deep.RegionHeld3
import Derived.WalkLawsBesides
namespace Go.Proofs.Ytllhbggipbefmaa
open Go.ChangeShapes Go.WideShapes Go.ChangeAt Go.RowKit

theorem ret_boolD {b : Bool} (h : b = true) : Ending.returned (.bool b) = .returned (.bool true) := by rw [h]
theorem beq_iff_beq {a b c d : Int} (h : a = b ↔ c = d) : ((a == b) == (c == d)) = true := by
  by_cases e : a = b
  · have := h.1 e; simp [e, this]
  · have h2 : ¬ c = d := fun x => e (h.2 x)
    rw [show (a == b) = false by simp [e], show (c == d) = false by simp [h2]]
    rfl

theorem law_apart (s t : Int) (hs : 0 ≤ s ∧ s ≤ 18446744073709551615) (ht : 0 ≤ t ∧ t ≤ 18446744073709551615) (w : World) :
    Calls Try.prog 3 #[.int .u64 s, .int .u64 t] w fun e w' => e = .returned (.bool true) ∧ Below w.heap.size w w' := by
  go_enter Try.func3, Try.ntmps3
  go_wp2_with (go_at_call 7; refine (next_any _ _).mono ?_; rintro e w' ⟨rfl, rfl⟩)
  all_goals
    go_ret
    exact ⟨ret_boolD (beq_iff_beq ⟨fun h => B_inj hs ht (nx_inj (mx_inj (U_inj h))), fun h => by rw [h]⟩), Below.refl _ _⟩

theorem returns_core (s t b x y : Int) (hne : ¬ t = s) (N1 : Hid (∀ w, Calls Try.prog 7 #[.int .u64 s] w fun e w' => e = .returned (.tuple #[.int .u64 t, .int .u64 x]) ∧ w' = w))
    (N2 : Hid (∀ w, Calls Try.prog 7 #[.int .u64 b] w fun e w' => e = .returned (.tuple #[.int .u64 s, .int .u64 y]) ∧ w' = w))
    (B1 : Hid (∀ w, Calls Try.prog 9 #[.int .u64 t] w fun e w' => e = .returned (.int .u64 s) ∧ w' = w))
    (B2 : Hid (∀ w, Calls Try.prog 9 #[.int .u64 s] w fun e w' => e = .returned (.int .u64 b) ∧ w' = w)) (w : World) :
    Calls Try.prog 5 #[.int .u64 s] w fun e w' => e = .returned (.bool true) ∧ Below w.heap.size w w' := by
  go_enter Try.func5, Try.ntmps5
  go_wp2_with (first | (go_at_call 7; (first | (with_reducible refine (N1.out _).mono ?_) | (with_reducible refine (N2.out _).mono ?_)); rintro e w' ⟨rfl, rfl⟩) | (go_at_call 9; (first | (with_reducible refine (B1.out _).mono ?_) | (with_reducible refine (B2.out _).mono ?_)); rintro e w' ⟨rfl, rfl⟩))
  all_goals
    go_ret
    exact ⟨ret_boolD (by first | rfl | simp [hne]), Below.refl _ _⟩
theorem law_returns (s : Int) (hs : 0 ≤ s ∧ s ≤ 18446744073709551615) (w : World) :
    Calls Try.prog 5 #[.int .u64 s] w fun e w' => e = .returned (.bool true) ∧ Below w.heap.size w w' := by
  refine returns_core s (U (nx (B s))) (U (bk (B s))) _ (U (mx (B s))) ?_ (fun w => next_any s w) (fun w => ?_) (fun w => ?_) (fun w => back_any s w) w
  · exact fun h => nx_ne (B s) (U_inj (h.trans (U_B hs).symm))
  · have := next_any (U (bk (B s))) w
    rw [B_U, nx_bk, U_B hs] at this
    exact this
  · have := back_any (U (nx (B s))) w
    rw [B_U, bk_nx, U_B hs] at this
    exact this

theorem rmix_any (x : Int) (h : 0 ≤ x ∧ x ≤ 18446744073709551615) (w : World) :
    Calls Try.prog 12 #[.int .u64 x] w fun e w' => e = .returned (.int .u64 (U (mx (B x)))) ∧ w' = w := by
  go_enter Try.func12, Try.ntmps12
  go_wp2
  rw [mix_val x h]
  go_ret
  exact ⟨rfl, rfl⟩
theorem rseed_any (m k : Int) (w : World) :
    Calls Try.prog 10 #[.int .u64 m, .int .i64 k] w fun e w' => e = .returned (.int .u64 (U (sd (B m) (B k)))) ∧ w' = w := by
  go_enter Try.func10, Try.ntmps10
  go_wp2_with fail
  rw [sd_val]
  refine (rmix_any _ (U_rng _) _).mono ?_
  rintro e w' ⟨rfl, rfl⟩
  rw [B_U]
  go_wp2
  go_ret
  exact ⟨rfl, rfl⟩
theorem law_seeds (m k : Int) (w : World) :
    Calls Try.prog 6 #[.int .u64 m, .int .i64 k] w fun e w' => e = .returned (.bool true) ∧ Below w.heap.size w w' := by
  go_enter Try.func6, Try.ntmps6
  go_wp2_with (first | (go_at_call 8; refine (seed_any _ _ _).mono ?_; rintro e w' ⟨rfl, rfl⟩) | (go_at_call 10; refine (rseed_any _ _ _).mono ?_; rintro e w' ⟨rfl, rfl⟩))
  all_goals
    go_ret
    exact ⟨ret_boolD (by first | rfl | simp), Below.refl _ _⟩

theorem streams_core (m n i k a b c : Int) (h1 : a = b ↔ i = k) (h2 : a = c ↔ m = n)
    (S1 : Hid (∀ w, Calls Try.prog 8 #[.int .u64 m, .int .i64 i] w fun e w' => e = .returned (.int .u64 a) ∧ w' = w))
    (S2 : Hid (∀ w, Calls Try.prog 8 #[.int .u64 m, .int .i64 k] w fun e w' => e = .returned (.int .u64 b) ∧ w' = w))
    (S3 : Hid (∀ w, Calls Try.prog 8 #[.int .u64 n, .int .i64 i] w fun e w' => e = .returned (.int .u64 c) ∧ w' = w)) (w : World) :
    Calls Try.prog 4 #[.int .u64 m, .int .u64 n, .int .i64 i, .int .i64 k] w fun e w' => e = .returned (.bool true) ∧ Below w.heap.size w w' := by
  have H1 : ((a == b) == (i == k)) = true := beq_iff_beq h1
  have H2 : ((a == c) == (m == n)) = true := beq_iff_beq h2
  clear h1 h2
  go_enter Try.func4, Try.ntmps4
  go_wp2_with (first | (go_at_call 8; (first | (with_reducible refine (S1.out _).mono ?_) | (with_reducible refine (S2.out _).mono ?_) | (with_reducible refine (S3.out _).mono ?_)); rintro e w' ⟨rfl, rfl⟩))
  all_goals
    go_ret
    exact ⟨ret_boolD (by first | rfl | exact H2 | simp_all), Below.refl _ _⟩
theorem law_streams (m n i k : Int) (hm : 0 ≤ m ∧ m ≤ 18446744073709551615) (hn : 0 ≤ n ∧ n ≤ 18446744073709551615) (hi : -9223372036854775808 ≤ i ∧ i ≤ 9223372036854775807) (hk : -9223372036854775808 ≤ k ∧ k ≤ 9223372036854775807) (w : World) :
    Calls Try.prog 4 #[.int .u64 m, .int .u64 n, .int .i64 i, .int .i64 k] w fun e w' => e = .returned (.bool true) ∧ Below w.heap.size w w' := by
  refine streams_core m n i k _ _ _ ⟨fun h => ?_, fun h => by rw [h]⟩ ⟨fun h => ?_, fun h => by rw [h]⟩ (fun w => seed_any m i w) (fun w => seed_any m k w) (fun w => seed_any n i w) w
  · have h1 := sd_inj_k (U_inj h)
    have h2 := congrArg BitVec.toNat h1
    unfold B at h2
    rw [BitVec.toNat_ofInt, BitVec.toNat_ofInt] at h2
    omega
  · exact B_inj hm hn (sd_inj_m (U_inj h))
end Go.Proofs.Ytllhbggipbefmaa
