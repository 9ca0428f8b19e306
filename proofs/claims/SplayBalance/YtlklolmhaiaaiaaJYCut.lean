import Derived.Test.YtlklolmhaiaaiaaJY39
namespace Go.Proofs.Ytlklolmhaiaaiaa
open Go.ChangeShapes Go.WideShapes Go.ChangeAt Go.RowKit
set_option linter.unusedVariables false

theorem cutAt {L L1 L2 : List Ev} {u : Int} {k : Nat} (hL : L = L1 ++ L2) (h1 : ∀ x ∈ L1, x.t < u) (h2 : ∀ x ∈ L2, u ≤ x.t) (hk : k ≤ L.length) (hlo : ∀ j, j < k → (lX L j).t < u) (hhi : k < L.length → u ≤ (lX L k).t) : k = L1.length ∧ (∀ i, i < L1.length → lX L i = lX L1 i) ∧ ∀ i, i < L2.length → lX L (L1.length + i) = lX L2 i := by
  have e1 : ∀ i, i < L1.length → lX L i = lX L1 i := fun i hi => by
    have h9 := lX_at (L := L) (i := i) (by rw [hL, List.length_append]; omega)
    rw [hL, List.getElem?_append_left hi, lX_at hi, ← hL] at h9
    exact (Option.some.inj h9).symm
  have e2 : ∀ i, i < L2.length → lX L (L1.length + i) = lX L2 i := fun i hi => by
    have h9 := lX_at (L := L) (i := L1.length + i) (by rw [hL, List.length_append]; omega)
    rw [hL, List.getElem?_append_right (by omega), show L1.length + i - L1.length = i by omega, lX_at hi, ← hL] at h9
    exact (Option.some.inj h9).symm
  have hl : L.length = L1.length + L2.length := by rw [hL, List.length_append]
  refine ⟨?_, e1, e2⟩
  rcases Nat.lt_trichotomy k L1.length with h9 | h9 | h9
  · have a := hhi (by omega)
    rw [e1 k h9] at a
    have := h1 _ (List.mem_of_getElem? (lX_at h9))
    omega
  · exact h9
  · have a := hlo L1.length h9
    have b := e2 0 (by omega)
    rw [Nat.add_zero] at b
    rw [b] at a
    have := h2 _ (List.mem_of_getElem? (lX_at (L := L2) (i := 0) (by omega)))
    omega
end Go.Proofs.Ytlklolmhaiaaiaa
