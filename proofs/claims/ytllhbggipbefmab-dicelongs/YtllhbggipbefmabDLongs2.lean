import Derived.Test.YtllhbggipbefmabDLongs
namespace Go.Proofs.Ytllhbggipbefmab
open Go.ChangeShapes Go.WideShapes Go.ChangeAt Go.RowKit
set_option linter.unusedVariables false

theorem wait_good {s mean : Int} (hm : 0 ≤ mean ∧ mean ≤ 18446744073709551615) (c : wq (xN s) mean.toNat < 79228162514264337593543950336) (w : World) :
    Calls Try.prog 16 #[.int .u64 s, .int .u64 mean] w fun r w' => r = .returned (.tuple #[.int .u64 ((wq (xN s) mean.toNat / 4294967296 : Nat) : Int), .int .u64 (U (nx (B s))), .int .i64 0]) ∧ Below w.heap.size w w' := by
  have h := wait_any s mean hm w
  unfold wV at h
  rw [if_pos c] at h
  exact h
theorem wait_bad {s mean : Int} (hm : 0 ≤ mean ∧ mean ≤ 18446744073709551615) (c : ¬ wq (xN s) mean.toNat < 79228162514264337593543950336) (w : World) :
    Calls Try.prog 16 #[.int .u64 s, .int .u64 mean] w fun r w' => r = .returned (.tuple #[.int .u64 0, .int .u64 s, .int .i64 10]) ∧ Below w.heap.size w w' := by
  have h := wait_any s mean hm w
  unfold wV at h
  rw [if_neg c] at h
  exact h
theorem nx_move {s : Int} (h : 0 ≤ s ∧ s ≤ 18446744073709551615) : ¬ U (nx (B s)) = s := fun e => nx_ne (B s) (U_inj (e.trans (U_B h).symm))
theorem wq_low {x m : Nat} (h : m ≤ 144115188075855872) : wq x m < 79228162514264337593543950336 := by
  have h1 : wq x m ≤ 144115188075855872 * (4194304 * 45426) := Nat.mul_le_mul h (Nat.mul_le_mul_right _ (hv_le x))
  omega

theorem longs_all (s t mean more S T M N : Int) (hS : 0 ≤ S ∧ S ≤ 18446744073709551615) (hT : 0 ≤ T ∧ T ≤ 18446744073709551615) (hM : 0 ≤ M ∧ M ≤ 18446744073709551615) (hN : 0 ≤ N ∧ N ≤ 18446744073709551615)
    (hm : (more < mean ∧ M = more ∧ N = mean) ∨ (mean ≤ more ∧ M = mean ∧ N = more)) (hs : ((xN t : Int) < (xN s : Int) ∧ S = t ∧ T = s) ∨ ((xN s : Int) ≤ (xN t : Int) ∧ S = s ∧ T = t)) (w : World) :
    Calls Try.prog 6 #[.int .u64 s, .int .u64 t, .int .u64 mean, .int .u64 more] w fun e w' => e = .returned (.bool true) ∧ Below w.heap.size w w' := by
  have hMN : M.toNat ≤ N.toNat := by omega
  have hST : xN S ≤ xN T := by rcases hs with ⟨h, rfl, rfl⟩ | ⟨h, rfl, rfl⟩ <;> omega
  have hX : ∀ w : World, Calls Try.prog 10 #[.int .u64 s] w fun e w' => e = .returned (.tuple #[.int .u64 (U (nx (B s))), .int .u64 (xN s : Nat)]) ∧ w' = w := fun w => next_any s w
  have hY : ∀ w : World, Calls Try.prog 10 #[.int .u64 t] w fun e w' => e = .returned (.tuple #[.int .u64 (U (nx (B t))), .int .u64 (xN t : Nat)]) ∧ w' = w := fun w => next_any t w
  have q1 : wq (xN T) M.toNat ≤ wq (xN S) M.toNat := wq_mono hST (xN_lt T) (Nat.le_refl _)
  have q2 : wq (xN S) M.toNat ≤ wq (xN S) N.toNat := wq_mono (Nat.le_refl _) (xN_lt S) hMN
  by_cases g : wq (xN S) N.toNat < 79228162514264337593543950336
  · have e : wq (xN S) M.toNat < 79228162514264337593543950336 := by omega
    have f : wq (xN T) M.toNat < 79228162514264337593543950336 := by omega
    exact longsA s t mean more S T M N _ _ _ _ _ _ _ _ _ _ hm hs (nx_move hS) (nx_move hT) (nx_move hS) (by omega) (by omega) hX hY (wait_good hM e) (wait_good hM f) (wait_good hN g) w
  · by_cases e : wq (xN S) M.toNat < 79228162514264337593543950336
    · have f : wq (xN T) M.toNat < 79228162514264337593543950336 := by omega
      exact longsB s t mean more S T M N _ _ _ _ _ _ _ _ _ hm hs (nx_move hS) (nx_move hT) (by omega) hX hY (wait_good hM e) (wait_good hM f) (wait_bad hN g) w
    · have hbig : 144115188075855872 < M := by
        by_cases h : 144115188075855872 < M
        · exact h
        · exact absurd (wq_low (x := xN S) (m := M.toNat) (by omega)) e
      by_cases f : wq (xN T) M.toNat < 79228162514264337593543950336
      · exact longsC s t mean more S T M N _ _ _ _ _ _ _ _ hm hs (nx_move hT) hbig hX hY (wait_bad hM e) (wait_good hM f) (wait_bad hN g) w
      · exact longsD s t mean more S T M N _ _ _ _ _ _ _ hm hs hbig hX hY (wait_bad hM e) (wait_bad hM f) (wait_bad hN g) w
theorem law_longs (s t mean more : Int) (hs : 0 ≤ s ∧ s ≤ 18446744073709551615) (ht : 0 ≤ t ∧ t ≤ 18446744073709551615) (hm : 0 ≤ mean ∧ mean ≤ 18446744073709551615) (hn : 0 ≤ more ∧ more ≤ 18446744073709551615) (w : World) :
    Calls Try.prog 6 #[.int .u64 s, .int .u64 t, .int .u64 mean, .int .u64 more] w fun e w' => e = .returned (.bool true) ∧ Below w.heap.size w w' := by
  by_cases h1 : more < mean
  · by_cases h2 : (xN t : Int) < (xN s : Int)
    · exact longs_all s t mean more t s more mean ht hs hn hm (Or.inl ⟨h1, rfl, rfl⟩) (Or.inl ⟨h2, rfl, rfl⟩) w
    · exact longs_all s t mean more s t more mean hs ht hn hm (Or.inl ⟨h1, rfl, rfl⟩) (Or.inr ⟨by omega, rfl, rfl⟩) w
  · by_cases h2 : (xN t : Int) < (xN s : Int)
    · exact longs_all s t mean more t s mean more ht hs hm hn (Or.inr ⟨by omega, rfl, rfl⟩) (Or.inl ⟨h2, rfl, rfl⟩) w
    · exact longs_all s t mean more s t mean more hs ht hm hn (Or.inr ⟨by omega, rfl, rfl⟩) (Or.inr ⟨by omega, rfl, rfl⟩) w
end Go.Proofs.Ytllhbggipbefmab
