import Derived.Test.YtmkchlhfcffdkaaPE6
import Derived.BigQuiet
import Derived.Deep.RegionLaw
import Derived.Deep.RegionHeld3
import Derived.Deep.Cut
import Derived.Deep.DeepCutAuto
import Derived.Deep.CutBlock
import Derived.Deep.CutRange
import Derived.Deep.AppendLies
import Derived.Handy
import Derived.Lib.RabinKarpLaws
import Derived.ArgAppend
import Derived.Lib.JoinLaws
namespace Go.Proofs.Ytmkchlhfcffdkaa
open Go.ChangeShapes Go.WideShapes Go.ChangeAt Go.RowKit
set_option linter.unusedVariables false
set_option linter.unusedSimpArgs false

/-- the first k halves of x's phase are empty -/
def dropH (H : Nat → Nat → Nat → Hf) (x e k : Nat) : Nat → Nat → Nat → Hf := fun i j h => if i = x ∧ h = e ∧ j < k then emptied (H i j h) else H i j h
theorem dropH_0 (H : Nat → Nat → Nat → Hf) (x e : Nat) : dropH H x e 0 = H := by
  funext i j h
  simp [dropH]
theorem dropH_succ (H : Nat → Nat → Nat → Hf) (x e k : Nat) : setHf (dropH H x e k) x k e (emptied (dropH H x e k x k e)) = dropH H x e (k + 1) := by
  funext i j h
  by_cases h1 : i = x ∧ j = k ∧ h = e
  · obtain ⟨rfl, rfl, rfl⟩ := h1
    rw [setHf_at]
    simp [dropH]
  · rw [setHf_ne _ _ _ _ _ h1]
    unfold dropH
    by_cases h2 : i = x ∧ h = e ∧ j < k
    · rw [if_pos h2, if_pos ⟨h2.1, h2.2.1, by omega⟩]
    · rw [if_neg h2, if_neg (fun h3 => ?_)]
      by_cases h4 : j = k
      · exact h1 ⟨h3.1, h4, h3.2.1⟩
      · exact h2 ⟨h3.1, h3.2.1, by omega⟩
theorem ptrs_at (f : Nat → Addr) : ∀ k j, j < k → (ptrs f k)[j]? = some (.pointer (some (f j)))
  | 0, j, h => by omega
  | k + 1, j, h => by
    unfold ptrs
    by_cases e : j = k
    · subst e
      rw [List.getElem?_append_right (by rw [ptrs_len]; exact Nat.le_refl _), ptrs_len]
      simp
    · rw [List.getElem?_append_left (by rw [ptrs_len]; omega)]
      exact ptrs_at f k j (by omega)
theorem PR.form {B : Nat} {W : World} {v : Value} {l : List Value} (h : PR B W v l) (hl : 0 < l.length) : ∃ g cap cur, v = .slice (some ⟨g, 0, none⟩) l.length cap ∧ B ≤ g ∧ W.heap[g]? = some (.cells cur 82 (0, 0)) ∧ ∀ j, j < l.length → cur[j]? = l[j]? := by
  rcases h.2 with ⟨_, h0⟩ | ⟨g, cap, cur, rfl, hbg, hg, h3, h4, h5, h6⟩
  · omega
  · refine ⟨g, cap, cur, rfl, hbg, hg, fun j hj => ?_⟩
    rw [← h6, List.getElem?_take, if_pos (by omega)]
    simp
theorem dropH_self (H : Nat → Nat → Nat → Hf) (x e k : Nat) : dropH H x e k x k e = H x k e := by simp [dropH]
end Go.Proofs.Ytmkchlhfcffdkaa
