import Derived.Test.YtcifdlncbekohaaDoorRO1
import Derived.Test.YtcifdlncbekohaaDoorSO9
import Derived.Maps.AppendAt
namespace Go.Proofs.YtcifdlncbekohaaDoor
open Go.ChangeShapes Go.WideShapes Go.ChangeAt Go.RowKit
set_option linter.unusedVariables false
set_option linter.unusedSimpArgs false

theorem SIn.at {W : World} {p : Option Addr} {m : Nat} {X : Nat → Se} (h : SIn W p m X) {i : Nat} (hi : i < m) : ∃ b o, p = some ⟨b, o, none⟩ ∧ b < W.heap.size ∧ W.cell? ⟨b, o + i * 6, none⟩ = some (.int .u64 (X i).t) ∧ W.cell? ⟨b, o + i * 6 + 1, none⟩ = some (.int .i64 (X i).s) ∧ W.cell? ⟨b, o + i * 6 + 2, none⟩ = some (.int .u64 (X i).q) ∧ W.cell? ⟨b, o + i * 6 + 3, none⟩ = some (.int .i64 (X i).d) ∧ W.cell? ⟨b, o + i * 6 + 4, none⟩ = some (.int .i64 (X i).k) ∧ W.cell? ⟨b, o + i * 6 + 5, none⟩ = some (.int .i64 (X i).v) := by
  rcases h with h | ⟨b, o, h1, h2, h3⟩
  · omega
  · have key : ∀ r, r < 6 → W.cell? ⟨b, o + i * 6 + r, none⟩ = some (seC (X i) r) := fun r hr => by
      have := h3 (i * 6 + r) (by omega)
      rw [seF_at _ _ _ hr] at this
      rw [Nat.add_assoc]
      exact this
    exact ⟨b, o, h1, h2, key 0 (by decide), key 1 (by decide), key 2 (by decide), key 3 (by decide), key 4 (by decide), key 5 (by decide)⟩
theorem jm1 {n i j : Nat} (h : i + j < n) : n - (intOf (.int .i64 ((i : Int) + 1))).toNat - (intOf (.int .i64 (j : Int))).toNat < n - (intOf (.int .i64 (i : Int))).toNat - (intOf (.int .i64 (j : Int))).toNat := by
  simp [intOf]
  omega
theorem jm2 {n i j : Nat} (h : i + j < n) : n - (intOf (.int .i64 (i : Int))).toNat - (intOf (.int .i64 ((j : Int) + 1))).toNat < n - (intOf (.int .i64 (i : Int))).toNat - (intOf (.int .i64 (j : Int))).toNat := by
  simp [intOf]
  omega
theorem kc_le (x y : Se) : kc x y ≤ 0 → klt y x = false := by
  intro h
  rw [klt_not]
  have h1 := klt_iff x y
  have h2 : ¬ kc x y < 0 → kc x y = 0 := fun h9 => by omega
  by_cases e : kc x y < 0
  · have : klt x y = true := by unfold klt; simpa using e
    rw [klt_iff] at this
    omega
  · have e0 := h2 e
    unfold kc keyCmp orN at e0
    have a2 := cmpN_z x.t y.t
    have a4 := cmpN_z x.s y.s
    have a6 := cmpN_z x.q y.q
    by_cases b1 : cmpN x.t y.t = 0
    · rw [if_pos b1] at e0
      by_cases b2 : cmpN x.s y.s = 0
      · rw [if_pos b2] at e0
        omega
      · rw [if_neg b2] at e0
        omega
    · rw [if_neg b1] at e0
      omega
theorem kc_gt (x y : Se) (h : ¬ kc x y ≤ 0) : klt y x = true := by
  rw [klt_iff]
  have a1 := cmpN_lt x.t y.t
  have a2 := cmpN_z x.t y.t
  have a3 := cmpN_lt x.s y.s
  have a4 := cmpN_z x.s y.s
  have a5 := cmpN_lt x.q y.q
  have a6 := cmpN_z x.q y.q
  unfold kc keyCmp orN at h
  by_cases b1 : cmpN x.t y.t = 0
  · rw [if_pos b1] at h
    by_cases b2 : cmpN x.s y.s = 0
    · rw [if_pos b2] at h
      omega
    · rw [if_neg b2] at h
      omega
  · rw [if_neg b1] at h
    omega

end Go.Proofs.YtcifdlncbekohaaDoor
