import Derived.Test.YtpeojhhbinfekabAdd
namespace Go.Proofs.Ytpeojhhbinfekab
open Go.ChangeShapes Go.WideShapes Go.ChangeAt Go.RowKit

def bndN (low look en : Int) : Int := if low + look < en then low + look else en

theorem bound_any (t d en : Int) (ht : 0 ≤ t ∧ t ≤ 18446744073709551615) (hd : 0 ≤ d ∧ d ≤ 18446744073709551615) (he : 0 ≤ en ∧ en ≤ 18446744073709551615) (w : World) :
    Calls Try.prog 10 #[.int .u64 t, .int .u64 d, .int .u64 en] w fun e w' => e = .returned (.int .u64 (bndN t d en)) ∧ w' = w := by
  by_cases c : t + d ≤ 18446744073709551615
  · by_cases c2 : t + d < en
    · have h1 : bndN t d en = t + d := by simp [bndN, c2]
      rw [h1]
      clear h1
      go_enter Try.func10, Try.ntmps10
      go_wp2
      go_ret
      exact ⟨rfl, rfl⟩
    · have h1 : bndN t d en = en := by simp [bndN, c2]
      rw [h1]
      clear h1
      by_cases c3 : en < t + d
      · go_enter Try.func10, Try.ntmps10
        go_wp2
        go_ret
        exact ⟨rfl, rfl⟩
      · obtain rfl : en = t + d := by omega
        go_enter Try.func10, Try.ntmps10
        go_wp2
        go_ret
        exact ⟨rfl, rfl⟩
  · have h1 : bndN t d en = en := by simp only [bndN]; rw [if_neg (by omega)]
    rw [h1]
    clear h1
    have hw := wrap_over t d ht.1 ht.2 hd.1 hd.2 c
    go_enter Try.func10, Try.ntmps10
    go_wp2
    go_ret
    exact ⟨rfl, rfl⟩
end Go.Proofs.Ytpeojhhbinfekab
