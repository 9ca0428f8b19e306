import Derived.Test.YtcibmbcfpecgpaaPure
import Derived.Deep.RegionHeld3
import Derived.Deep.DeepCutAuto
import Derived.WalkLawsBesides
namespace Go.Proofs.Ytcibmbcfpecgpaa
open Go.ChangeShapes Go.WideShapes Go.ChangeAt Go.RowKit

/-- what a reading answers: the number and the place behind it, or the error alone -/
def ans (r : Int × Nat × Int) : Int × Nat × Int := if r.2.2 = 0 then r else (0, 0, r.2.2)

theorem ret3 {k1 k2 k3 : IntKind} {a a' b b' c c' : Int} (h1 : a = a') (h2 : b = b') (h3 : c = c') : Ending.returned (.tuple #[.int k1 a, .int k2 b, .int k3 c]) = .returned (.tuple #[.int k1 a', .int k2 b', .int k3 c']) := by rw [h1, h2, h3]

set_option maxHeartbeats 1000000 in
theorem refNum_some (b off L cap a0 : Nat) (B : Nat → Int) (w : World) (hL : L ≤ 1000000000000000) (ha : a0 ≤ L)
    (hB : ∀ i, i < L → w.cell? ⟨b, off + i, none⟩ = some (.int .u8 (B i))) (bB : ∀ i, i < L → 0 ≤ B i ∧ B i ≤ 255) :
    Calls Try.prog 29 #[.slice (some ⟨b, off, none⟩) L cap, .int .i64 a0] w fun r w' => r = .returned (.tuple #[.int .u64 (ans (rdNum B L a0)).1, .int .i64 (ans (rdNum B L a0)).2.1, .int .i64 (ans (rdNum B L a0)).2.2]) ∧ w' = w := by
  go_enter Try.func29, Try.ntmps29
  go_wp2
  go_loop [7, 8, 9] (fun vn vp vk => ∃ (k : Nat) (n : Int), k ≤ 9 ∧ vn = .int .u64 n ∧ vp = .int .u64 (p7 k) ∧ vk = .int .i64 k ∧ a0 + k ≤ L ∧ (0 ≤ n ∧ n < p7 k) ∧ rdNum B L a0 = rdGo B L (10 - k) k (a0 + k) n) (fun _ _ vk => 10 - (intOf vk).toNat)
  case atStart => exact ⟨0, 0, by omega, rfl, rfl, rfl, by omega, ⟨by omega, by decide⟩, rfl⟩
  case round =>
    obtain ⟨k, n, hk, rfl, rfl, rfl, hal, hn, hrd⟩ := hrel
    have HRD : Hid (rdNum B L a0 = rdGo B L (10 - k) k (a0 + k) n) := hrd
    clear hrd
    by_cases hlt : a0 + k < L
    · have cb := hB (a0 + k) hlt
      have bb := bB (a0 + k) hlt
      have hP := Int.mul_nonneg (Int.le_of_lt (p7_pos k)) (show 0 ≤ B (a0 + k) % 128 by omega)
      obtain ⟨P, eP⟩ : ∃ P, p7 k * (B (a0 + k) % 128) = P := ⟨_, rfl⟩
      obtain ⟨c, ec⟩ : ∃ c, B (a0 + k) = c := ⟨_, rfl⟩
      rw [ec] at cb bb eP hP
      rw [eP] at hP
      have i0 : (0 : Int) ≤ (a0 : Int) + (k : Int) := by omega
      have i1 : (a0 : Int) + (k : Int) < (L : Int) := by omega
      have it : ((a0 : Int) + (k : Int)).toNat = a0 + k := by omega
      have EC : Hid (B (a0 + k) = c) := ec
      have HNK : Hid (n < p7 k) := hn.2
      have HN0 : 0 ≤ n := hn.1
      clear hB bB ec hn
      by_cases h9 : 9 ≤ k
      · by_cases h1 : 1 < c
        · have hv : rdNum B L a0 = (0, a0 + k, 12) := by rw [HRD.out, show 10 - k = (9 - k) + 1 by omega]; exact rd_form (by omega) (Or.inl ⟨by omega, by rw [EC.out]; exact h1⟩)
          have HV := (show Hid _ from hv)
          clear hv
          go_wp2
          go_ret3
          rw [HV.out]
          exact ⟨rfl, rfl⟩
        · by_cases h2 : c = 0
          · have hv : rdNum B L a0 = (0, a0 + k, 12) := by rw [HRD.out, show 10 - k = (9 - k) + 1 by omega]; exact rd_form (by omega) (Or.inr ⟨by omega, by rw [EC.out]; exact h2⟩)
            have HV := (show Hid _ from hv)
            clear hv
            go_wp2
            go_ret3
            rw [HV.out]
            exact ⟨rfl, rfl⟩
          · obtain rfl : c = 1 := by omega
            have hp : p7 k = 9223372036854775808 := by rw [show k = 9 by omega]; decide
            have hN : n < 9223372036854775808 := by rw [← hp]; exact HNK.out
            have hv : rdNum B L a0 = (n + 9223372036854775808, a0 + k + 1, 0) := by
              rw [HRD.out, show 10 - k = (9 - k) + 1 by omega, rd_last (by omega) (by rw [EC.out]; omega) (by rw [EC.out]; omega), EC.out, hp]
              rfl
            have HV := (show Hid _ from hv)
            clear hv eP hP
            go_wp2
            go_ret3
            rw [HV.out]
            exact ⟨ret3 rfl (show ((a0 : Int) + 9 + 1) = ((a0 + k + 1 : Nat) : Int) by omega) rfl, rfl⟩
      · by_cases h2 : 0 < k ∧ c = 0
        · have hv : rdNum B L a0 = (0, a0 + k, 12) := by rw [HRD.out, show 10 - k = (9 - k) + 1 by omega]; exact rd_form (by omega) (Or.inr ⟨h2.1, by rw [EC.out]; exact h2.2⟩)
          obtain ⟨h3, h4⟩ := h2
          have HV := (show Hid _ from hv)
          clear hv
          go_wp2
          go_ret3
          rw [HV.out]
          exact ⟨rfl, rfl⟩
        · have hb := acc_u64 (k := k) (n := n) (c := c % 128) (by omega) HN0 HNK.out (by omega) (by omega)
          have hl := acc_lt (k := k) (n := n) (c := c % 128) HN0 HNK.out (by omega)
          rw [eP] at hb hl
          have hp1 := p7_pos k
          have hp2 := p7_le (k := k) (by omega)
          have HL : Hid (n + P < p7 (k + 1)) := hl.2
          have hs : 128 * p7 k = p7 (k + 1) := (p7_succ k).symm
          have hs' : p7 k * 128 = p7 (k + 1) := by rw [← hs]; omega
          have HOK : Hid (¬ ((k = 9 ∧ 1 < B (a0 + k)) ∨ (0 < k ∧ B (a0 + k) = 0))) := by
            rw [EC.out]
            intro h; rcases h with h | h <;> omega
          clear hl hs
          by_cases hk0 : 0 < k
          · have hb0 : (c == 0) = false := by simp; omega
            by_cases h128 : c < 128
            · have hv : rdNum B L a0 = (n + P, a0 + k + 1, 0) := by
                rw [HRD.out, show 10 - k = (9 - k) + 1 by omega, rd_last (by omega) HOK.out (by rw [EC.out]; omega), EC.out, eP]
              have HV := (show Hid _ from hv)
              clear hv h2 hs'
              go_wp2
              go_ret3
              rw [HV.out]
              exact ⟨ret3 rfl (show ((a0 : Int) + k + 1) = ((a0 + k + 1 : Nat) : Int) by omega) rfl, rfl⟩
            · clear h2
              go_wp2
              go_round
              case rel => exact ⟨k + 1, n + P, by omega, rfl, rfl, by go_num, by omega, ⟨by omega, HL.out⟩, by rw [HRD.out, show 10 - k = (9 - k) + 1 by omega, rd_more (by omega) HOK.out (by rw [EC.out]; omega), EC.out, eP, show 10 - (k + 1) = 9 - k by omega]; rfl⟩
              case measure => simp [intOf]; omega
          · by_cases h128 : c < 128
            · have hv : rdNum B L a0 = (n + P, a0 + k + 1, 0) := by
                rw [HRD.out, show 10 - k = (9 - k) + 1 by omega, rd_last (by omega) HOK.out (by rw [EC.out]; omega), EC.out, eP]
              have HV := (show Hid _ from hv)
              clear hv h2 hs'
              go_wp2
              go_ret3
              rw [HV.out]
              exact ⟨ret3 rfl (show ((a0 : Int) + k + 1) = ((a0 + k + 1 : Nat) : Int) by omega) rfl, rfl⟩
            · clear h2
              go_wp2
              go_round
              case rel => exact ⟨k + 1, n + P, by omega, rfl, rfl, by go_num, by omega, ⟨by omega, HL.out⟩, by rw [HRD.out, show 10 - k = (9 - k) + 1 by omega, rd_more (by omega) HOK.out (by rw [EC.out]; omega), EC.out, eP, show 10 - (k + 1) = 9 - k by omega]; rfl⟩
              case measure => simp [intOf]; omega
    · have hv : rdNum B L a0 = (0, a0 + k, 11) := by rw [HRD.out, show 10 - k = (9 - k) + 1 by omega]; exact rd_short (by omega)
      have HV := (show Hid _ from hv)
      clear hv hB bB
      go_wp2
      go_ret3
      rw [HV.out]
      exact ⟨rfl, rfl⟩
end Go.Proofs.Ytcibmbcfpecgpaa
