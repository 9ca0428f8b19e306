import Derived.Test.YtllhbggipbefmabDBelow
namespace Go.Proofs.Ytllhbggipbefmab
open Go.ChangeShapes Go.WideShapes Go.ChangeAt Go.RowKit

theorem span_big (s lo hi : Int) (h : hi < lo) (w : World) :
    Calls Try.prog 17 #[.int .u64 s, .int .i64 lo, .int .i64 hi] w fun e w' => e = .returned (.tuple #[.int .i64 0, .int .u64 s, .int .i64 20]) ∧ w' = w := by
  go_enter Try.func17, Try.ntmps17
  go_wp2
  go_returns
  exact ⟨rfl, rfl⟩
theorem rspan_big (s lo hi : Int) (h : hi < lo) (w : World) :
    Calls Try.prog 18 #[.int .u64 s, .int .i64 lo, .int .i64 hi] w fun e w' => e = .returned (.tuple #[.int .i64 0, .int .u64 s, .int .i64 20]) ∧ w' = w := by
  go_enter Try.func18, Try.ntmps18
  go_wp2
  go_returns
  exact ⟨rfl, rfl⟩
def spN (lo hi : Int) : Int := IntKind.u64.wrap (IntKind.u64.wrap (IntKind.u64.wrap hi - IntKind.u64.wrap lo) + 1)
def spV (lo x : Int) : Int := wrap64 (IntKind.u64.wrap (IntKind.u64.wrap lo + x))
theorem spN_rng (lo hi : Int) : 0 ≤ spN lo hi ∧ spN lo hi ≤ 18446744073709551615 := wrap_rng _
theorem span_all (s lo hi : Int) (h : lo ≤ hi) (hN : spN lo hi = 0) (w : World) :
    Calls Try.prog 17 #[.int .u64 s, .int .i64 lo, .int .i64 hi] w fun e w' => e = .returned (.tuple #[.int .i64 (spV lo (U (mx (nx (B s))))), .int .u64 (U (nx (B s))), .int .i64 0]) ∧ w' = w := by
  have hN2 : (IntKind.u64.wrap (IntKind.u64.wrap (IntKind.u64.wrap hi - IntKind.u64.wrap lo) + 1) == 0) = true := by simpa [spN] using hN
  clear hN
  go_enter Try.func17, Try.ntmps17
  go_wp2_with (go_at_call 10; refine (next_any _ _).mono ?_; rintro e w' ⟨rfl, rfl⟩)
  go_returns
  exact ⟨rfl, rfl⟩
theorem span_in (s lo hi x t n : Int) (h : lo ≤ hi) (hN : spN lo hi = n) (hn : ¬ n = 0)
    (H : Hid (∀ w, Calls Try.prog 14 #[.int .u64 s, .int .u64 n] w fun r w' => r = .returned (.tuple #[.int .u64 x, .int .u64 t, .int .i64 0]) ∧ w' = w)) (w : World) :
    Calls Try.prog 17 #[.int .u64 s, .int .i64 lo, .int .i64 hi] w fun e w' => e = .returned (.tuple #[.int .i64 (spV lo x), .int .u64 t, .int .i64 0]) ∧ w' = w := by
  have hN2 : IntKind.u64.wrap (IntKind.u64.wrap (IntKind.u64.wrap hi - IntKind.u64.wrap lo) + 1) = n := hN
  have hn2 : (n == 0) = false := by simp [hn]
  clear hN hn
  go_enter Try.func17, Try.ntmps17
  go_wp2_with (go_at_call 14; with_reducible refine (H.out _).mono ?_; rintro e w' ⟨rfl, rfl⟩)
  go_returns
  exact ⟨rfl, rfl⟩
theorem rspan_all (s lo hi : Int) (h : lo ≤ hi) (hN : spN lo hi = 0) (w : World) :
    Calls Try.prog 18 #[.int .u64 s, .int .i64 lo, .int .i64 hi] w fun e w' => e = .returned (.tuple #[.int .i64 (spV lo (U (mx (nx (B s))))), .int .u64 (U (nx (B s))), .int .i64 0]) ∧ w' = w := by
  have hN2 : (IntKind.u64.wrap (IntKind.u64.wrap (IntKind.u64.wrap hi - IntKind.u64.wrap lo) + 1) == 0) = true := by simpa [spN] using hN
  clear hN
  go_enter Try.func18, Try.ntmps18
  go_wp2_with (go_at_call 11; refine (rnext_any _ _).mono ?_; rintro e w' ⟨rfl, rfl⟩)
  go_returns
  exact ⟨rfl, rfl⟩
theorem rspan_in (s lo hi x t n : Int) (h : lo ≤ hi) (hN : spN lo hi = n) (hn : ¬ n = 0)
    (H : Hid (∀ w, Calls Try.prog 15 #[.int .u64 s, .int .u64 n] w fun r w' => r = .returned (.tuple #[.int .u64 x, .int .u64 t, .int .i64 0]) ∧ w' = w)) (w : World) :
    Calls Try.prog 18 #[.int .u64 s, .int .i64 lo, .int .i64 hi] w fun e w' => e = .returned (.tuple #[.int .i64 (spV lo x), .int .u64 t, .int .i64 0]) ∧ w' = w := by
  have hN2 : IntKind.u64.wrap (IntKind.u64.wrap (IntKind.u64.wrap hi - IntKind.u64.wrap lo) + 1) = n := hN
  have hn2 : (n == 0) = false := by simp [hn]
  clear hN hn
  go_enter Try.func18, Try.ntmps18
  go_wp2_with (go_at_call 15; with_reducible refine (H.out _).mono ?_; rintro e w' ⟨rfl, rfl⟩)
  go_returns
  exact ⟨rfl, rfl⟩

theorem spans_core (s lo hi x t e : Int) (H1 : Hid (∀ w, Calls Try.prog 17 #[.int .u64 s, .int .i64 lo, .int .i64 hi] w fun r w' => r = .returned (.tuple #[.int .i64 x, .int .u64 t, .int .i64 e]) ∧ w' = w))
    (H2 : Hid (∀ w, Calls Try.prog 18 #[.int .u64 s, .int .i64 lo, .int .i64 hi] w fun r w' => r = .returned (.tuple #[.int .i64 x, .int .u64 t, .int .i64 e]) ∧ w' = w)) (w : World) :
    Calls Try.prog 7 #[.int .u64 s, .int .i64 lo, .int .i64 hi] w fun e w' => e = .returned (.bool true) ∧ Below w.heap.size w w' := by
  go_enter Try.func7, Try.ntmps7
  go_wp2_with (first | (go_at_call 17; with_reducible refine (H1.out _).mono ?_; rintro e w' ⟨rfl, rfl⟩) | (go_at_call 18; with_reducible refine (H2.out _).mono ?_; rintro e w' ⟨rfl, rfl⟩))
  all_goals
    go_ret
    exact ⟨ret_boolD (by first | rfl | simp), Below.refl _ _⟩
theorem law_spans (s lo hi : Int) (hs : 0 ≤ s ∧ s ≤ 18446744073709551615) (w : World) :
    Calls Try.prog 7 #[.int .u64 s, .int .i64 lo, .int .i64 hi] w fun e w' => e = .returned (.bool true) ∧ Below w.heap.size w w' := by
  by_cases h : hi < lo
  · exact spans_core s lo hi _ _ _ (fun w => span_big s lo hi h w) (fun w => rspan_big s lo hi h w) w
  · by_cases hN : spN lo hi = 0
    · exact spans_core s lo hi _ _ _ (fun w => span_all s lo hi (by omega) hN w) (fun w => rspan_all s lo hi (by omega) hN w) w
    · have hr := spN_rng lo hi
      exact spans_core s lo hi _ _ _ (fun w => span_in s lo hi _ _ _ (by omega) rfl hN (fun w => below_any s _ hs (by omega) w) w) (fun w => rspan_in s lo hi _ _ _ (by omega) rfl hN (fun w => rbelow_any s _ (by omega) w) w) w
end Go.Proofs.Ytllhbggipbefmab
