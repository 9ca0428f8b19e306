import Derived.Test.YtkalhmofjpalkaaC2
namespace Go.Proofs.Ytkalhmofjpalkaa
open Go.ChangeShapes Go.WideShapes Go.ChangeAt Go.RowKit
set_option linter.unusedVariables false

theorem refCompare_ex (t s q t' s' q' : Int) (w : World) :
    Calls Try.prog 38 #[.agg #[.int .u64 t, .int .i64 s, .int .u64 q], .agg #[.int .u64 t', .int .i64 s', .int .u64 q']] w fun e w' => e = .returned (.int .i64 (keyCmp t s q t' s' q')) ∧ w' = (w.alloc (.cells #[.int .u64 t, .int .i64 s, .int .u64 q] 24)).alloc (.cells #[.int .u64 t', .int .i64 s', .int .u64 q'] 24) := by
  by_cases ht : t = t'
  · subst ht
    by_cases hs : s = s'
    · subst hs
      have hv : keyCmp t s q t s q' = cmpN q q' := by simp [keyCmp, cmp_eq, orN]
      rw [hv]
      clear hv
      by_cases h1 : q < q'
      · rw [cmp_lt h1]
        go_enter Try.func38, Try.ntmps38
        go_wp2
        go_ret
        exact ⟨rfl, rfl⟩
      · by_cases h2 : q' < q
        · rw [cmp_gt h2]
          go_enter Try.func38, Try.ntmps38
          go_wp2
          go_ret
          exact ⟨rfl, rfl⟩
        · obtain rfl : q = q' := by omega
          rw [cmp_eq]
          go_enter Try.func38, Try.ntmps38
          go_wp2
          go_ret
          exact ⟨rfl, rfl⟩
    · have hn : (s != s') = true := by simp [hs]
      have hv : keyCmp t s q t s' q' = cmpN s s' := by
        have : cmpN s s' ≠ 0 := by unfold cmpN; split <;> (try split) <;> omega
        simp [keyCmp, cmp_eq, orN, this]
      rw [hv]
      clear hv
      by_cases h1 : s < s'
      · rw [cmp_lt h1]
        go_enter Try.func38, Try.ntmps38
        go_wp2
        go_ret
        exact ⟨rfl, rfl⟩
      · rw [cmp_gt (by omega : s' < s)]
        go_enter Try.func38, Try.ntmps38
        go_wp2
        go_ret
        exact ⟨rfl, rfl⟩
  · have hn : (t != t') = true := by simp [ht]
    have hv : keyCmp t s q t' s' q' = cmpN t t' := by
      have : cmpN t t' ≠ 0 := by unfold cmpN; split <;> (try split) <;> omega
      simp [keyCmp, orN, this]
    rw [hv]
    clear hv
    by_cases h1 : t < t'
    · rw [cmp_lt h1]
      go_enter Try.func38, Try.ntmps38
      go_wp2
      go_ret
      exact ⟨rfl, rfl⟩
    · rw [cmp_gt (by omega : t' < t)]
      go_enter Try.func38, Try.ntmps38
      go_wp2
      go_ret
      exact ⟨rfl, rfl⟩

end Go.Proofs.Ytkalhmofjpalkaa
