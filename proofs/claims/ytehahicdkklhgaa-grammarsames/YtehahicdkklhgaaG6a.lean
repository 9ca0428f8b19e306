import Derived.Test.YtehahicdkklhgaaG5
namespace Go.Proofs.Ytehahicdkklhgaa
open Go.ChangeShapes Go.WideShapes Go.ChangeAt Go.RowKit
set_option linter.unusedVariables false

theorem nd_len (x : NdF) : (ndCells x).length = 7 := rfl
theorem nds_succ (C : Nat → NdF) (n : Nat) : ndsCells C (n + 1) = ndsCells C n ++ ndCells (C n) := by
  unfold ndsCells
  rw [List.range_succ, List.flatMap_append]
  simp
theorem nds_len (C : Nat → NdF) : ∀ n, (ndsCells C n).length = n * 7
  | 0 => rfl
  | n + 1 => by rw [nds_succ, List.length_append, nds_len C n, nd_len]; omega
theorem nds_get (C : Nat → NdF) : ∀ (n k j : Nat), k < n → j < 7 → (ndsCells C n)[k * 7 + j]? = (ndCells (C k))[j]?
  | 0, k, j, h, _ => by omega
  | n + 1, k, j, h, hj => by
    rw [nds_succ]
    by_cases hk : k < n
    · rw [List.getElem?_append_left (by rw [nds_len]; omega)]
      exact nds_get C n k j hk hj
    · obtain rfl : k = n := by omega
      rw [List.getElem?_append_right (by rw [nds_len]; omega), nds_len, show k * 7 + j - k * 7 = j by omega]
theorem nds_congr {C D : Nat → NdF} : ∀ n, (∀ k, k < n → C k = D k) → ndsCells C n = ndsCells D n
  | 0, _ => rfl
  | n + 1, h => by rw [nds_succ, nds_succ, nds_congr n (fun k hk => h k (by omega)), h n (by omega)]
theorem nds_set (C : Nat → NdF) (i j : Nat) (v : Value) (y : NdF) (hj : j < 7) (hy : ndCells y = (ndCells (C i)).set j v) : ∀ n, i < n → (ndsCells C n).set (i * 7 + j) v = ndsCells (upd C i y) n
  | 0, h => by omega
  | n + 1, h => by
    rw [nds_succ, nds_succ]
    by_cases hk : i < n
    · rw [List.set_append_left _ _ (by rw [nds_len]; omega), nds_set C i j v y hj hy n hk]
      congr 2
      unfold upd
      rw [if_neg (by omega)]
    · obtain rfl : i = n := by omega
      rw [List.set_append_right _ _ (by rw [nds_len]; omega), nds_len, show i * 7 + j - i * 7 = j by omega, upd_at, hy]
      congr 1
      exact nds_congr i (fun k hk => (upd_lt C i y hk).symm)

/-- a made tree's row -/
theorem ct_row {W : World} {B : Nat} {p : Option Addr} {m c n : Nat} {C : Nat → NdF} (h : CT W B (.slice p m c) n C) (hn : 0 < n) : ∃ g cur, p = some ⟨g, 0, none⟩ ∧ m = n ∧ B ≤ g ∧ W.heap[g]? = some (.cells cur 30 (0, 0)) ∧ n ≤ c ∧ c ≤ maxLen ∧ cur.size = c * 7 ∧ cur.toList.take (n * 7) = ndsCells C n := by
  rcases h.1.2 with ⟨h1, h2⟩ | ⟨g', cap, cur, h1, hb, hh, hcp, hmx, hs, ht⟩
  · omega
  · injection h1 with h1 h2 h3
    subst h1 h2 h3
    exact ⟨g', cur, rfl, rfl, hb, hh, hcp, hmx, hs, ht⟩
theorem ct_cell {W : World} {g : Nat} {cur : Array Value} {t : TypeId} {n : Nat} {C : Nat → NdF} (hh : W.heap[g]? = some (.cells cur t (0, 0))) (ht : cur.toList.take (n * 7) = ndsCells C n) {k j : Nat} (hk : k < n) (hj : j < 7) {u : Value} (hu : (ndCells (C k))[j]? = some u) : W.cell? ⟨g, k * 7 + j, none⟩ = some u := by
  rw [← nds_get C n k j hk hj, ← ht, List.getElem?_take_of_lt (by omega)] at hu
  unfold World.cell?
  rw [hh]
  simpa using hu
theorem ct_nat {W : World} {B : Nat} {p : Option Addr} {m c n : Nat} {C : Nat → NdF} (h : CT W B (.slice p m c) n C) : NAt W p n C := by
  rcases Nat.eq_zero_or_pos n with h0 | h0
  · exact .inl h0
  · obtain ⟨g, cur, rfl, rfl, hB, hh, hc, hx, hs, ht⟩ := ct_row h h0
    refine .inr ⟨g, 0, rfl, (Array.getElem?_eq_some_iff.1 hh).1, fun i hi => ⟨?_, ?_⟩⟩
    · simp only [Nat.zero_add]
      exact ⟨ct_cell (j := 0) hh ht hi (by decide) rfl, ct_cell (j := 1) hh ht hi (by decide) rfl, ct_cell (j := 2) hh ht hi (by decide) rfl, ct_cell (j := 3) hh ht hi (by decide) rfl, ct_cell (j := 4) hh ht hi (by decide) rfl, ct_cell (j := 5) hh ht hi (by decide) rfl, ct_cell (j := 6) hh ht hi (by decide) rfl⟩
    · obtain ⟨g', h1, h2, h3, h4⟩ := h.2 i hi
      refine ⟨?_, h4⟩
      by_cases hz : (C i).kn = 0
      · exact .inl hz
      · refine .inr ⟨g', 0, h1, (Array.getElem?_eq_some_iff.1 h3).1, fun j hj => ?_⟩
        unfold World.cell?
        rw [h3]
        have := intsL_get (K := (C i).K) (L := (C i).kn) hj
        simpa using this
/-- one cell of the row written over -/
theorem ct_set {W : World} {B : Nat} {g m c n : Nat} {C : Nat → NdF} (h : CT W B (.slice (some ⟨g, 0, none⟩) m c) n C) {i j : Nat} (hi : i < n) (hj : j < 7) {v : Value} {y : NdF} (hy : ndCells y = (ndCells (C i)).set j v) (hyk : y.kp = (C i).kp ∧ y.kn = (C i).kn ∧ y.K = (C i).K) : CT (W.setCell ⟨g, i * 7 + j, none⟩ v) B (.slice (some ⟨g, 0, none⟩) m c) n (upd C i y) := by
  obtain ⟨g', cur, h0, rfl, hB, hh, hc, hx, hs, ht⟩ := ct_row h (by omega)
  injection h0 with h0
  injection h0 with h0 _ _
  subst h0
  have hset : (W.setCell ⟨g, i * 7 + j, none⟩ v).heap[g]? = some (.cells (cur.setIfInBounds (i * 7 + j) v) 30 (0, 0)) := by
    obtain ⟨hlt, hk⟩ := Array.getElem?_eq_some_iff.1 hh
    show (W.heap.modify g _)[g]? = _
    rw [Array.getElem?_eq_getElem (by rw [Array.size_modify]; exact hlt), Array.getElem_modify_self, hk]
    rfl
  refine ⟨⟨nds_len _ _, .inr ⟨g, c, _, rfl, hB, hset, hc, hx, by simpa using hs, ?_⟩⟩, fun k hk => ?_⟩
  · rw [← nds_set C i j v y hj hy m hi, ← ht]
    simp [List.take_set]
  · obtain ⟨g', h1, h2, h3, h4⟩ := h.2 k hk
    have hne : g' ≠ g := fun e => kid_not_row h.1 h3 (by rw [e]; rfl)
    have h3' := (Below.heap_setCell W ⟨g, i * 7 + j, none⟩ v g' hne).trans h3
    by_cases hki : k = i
    · subst hki
      rw [upd_at, hyk.1, hyk.2.1, hyk.2.2]
      exact ⟨g', h1, h2, h3', h4⟩
    · rw [show upd C i y k = C k by unfold upd; rw [if_neg hki]]
      exact ⟨g', h1, h2, h3', h4⟩
/-- another row's cell written over -/
theorem ct_other {W : World} {B : Nat} {v : Value} {n : Nat} {C : Nat → NdF} (h : CT W B v n C) {g : Nat} (hg : v.ownBlock ≠ some g) {a : Array Value} (ha : W.heap[g]? = some (.cells a 30 (0, 0))) (o : Nat) (u : Value) : CT (W.setCell ⟨g, o, none⟩ u) B v n C := by
  have hgr : W.grownBy (W.setCell ⟨g, o, none⟩ u) (some g) := ⟨rfl, rfl, rfl, by simp [World.setCell], fun k _ hk => Below.heap_setCell W ⟨g, o, none⟩ u k (fun e => hk (by rw [e]))⟩
  refine ⟨h.1.kept hgr (.inr hg), fun k hk => ?_⟩
  obtain ⟨g', h1, h2, h3, h4⟩ := h.2 k hk
  refine ⟨g', h1, h2, (Below.heap_setCell W ⟨g, o, none⟩ u g' ?_).trans h3, h4⟩
  intro e
  have e' : g' = g := e
  rw [e', ha] at h3
  injection h3 with h3
  injection h3 with _ h3 _
  revert h3
  decide
def zeroN (x : NdF) : NdF := { x with line := 0, col := 0 }
theorem same_zero (x y : NdF) : sameL (zeroN x) (zeroN y) = sameN x y := by
  unfold sameL sameN zeroN
  simp
theorem sameN_copy (x y : NdF) (p q : Option Addr) (a b : Nat) : sameN { x with kp := p, kc := a } { y with kp := q, kc := b } = sameN x y := rfl
theorem allF_congr {n : Nat} {f g : Nat → Bool} (h : ∀ k, k < n → f k = g k) : allF n f = allF n g := by
  unfold allF
  induction n with
  | zero => rfl
  | succ n ih =>
    rw [List.range_succ, List.all_append, List.all_append, ih (fun k hk => h k (by omega))]
    simp [h n (by omega)]
end Go.Proofs.Ytehahicdkklhgaa
