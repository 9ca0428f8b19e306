import Derived.Test.YtmekcccmnkgodaaGreatDoorFSP1
import Derived.Test.YtmekcccmnkgodaaGreatDoorFSP5
import Derived.Test.YtmekcccmnkgodaaGreatDoorFLF1
import Derived.Test.YtmekcccmnkgodaaGreatDoorFLMark
namespace Go.Proofs.YtmekcccmnkgodaaGreatDoor
open Go.ChangeShapes Go.WideShapes Go.ChangeAt Go.RowKit
set_option linter.unusedVariables false
set_option linter.unusedSimpArgs false
/-! ### where a text's tokens stand -/
/-- places only go on -/
theorem scan_after : ∀ (n : Nat) (s : Bs) (l c cnt : Nat), s.length ≤ n → ∀ t ∈ (scan s l c cnt).1, (l : Int) < t.line ∨ (l : Int) = t.line ∧ (c : Int) ≤ t.col := by
  intro n
  induction n with
  | zero =>
    intro s l c cnt hs t ht
    obtain rfl : s = [] := List.eq_nil_of_length_eq_zero (by omega)
    rw [scan_nil] at ht
    cases ht
  | succ n ih =>
    intro s l c cnt hs t ht
    cases s with
    | nil =>
      rw [scan_nil] at ht
      cases ht
    | cons x r =>
      simp only [List.length_cons] at hs
      by_cases h1 : x.toNat = 10
      · rw [scan_nl _ _ _ _ _ h1] at ht
        have := ih r _ _ _ (by omega) t ht
        omega
      · by_cases h2 : x.toNat = 32 ∨ x.toNat = 9 ∨ x.toNat = 13
        · rw [scan_bl _ _ _ _ _ h2] at ht
          have := ih r _ _ _ (by omega) t ht
          omega
        · by_cases h3 : x.toNat = 35
          · rw [scan_cm _ _ _ _ _ h3] at ht
            have := ih _ _ _ _ (by rw [List.length_drop]; omega) t ht
            omega
          · have hst : startT x := ⟨h1, fun e => h2 (.inl e), fun e => h2 (.inr (.inl e)), fun e => h2 (.inr (.inr e)), h3⟩
            cases hr : rd (x :: r) with
            | err e =>
              rw [scan_er _ _ _ _ _ _ hst hr] at ht
              cases ht
            | ok k u v =>
              by_cases hc : cnt = 16384
              · subst hc
                rw [scan_full _ _ _ _ _ _ _ hst hr] at ht
                cases ht
              · rw [scan_ok _ _ _ _ _ _ _ _ hst hr hc] at ht
                rcases List.mem_cons.1 ht with rfl | ht
                · exact .inr ⟨rfl, Int.le_refl _⟩
                · have := ih _ _ _ _ (by rw [List.length_drop]; omega) t ht
                  omega
theorem scan_far : ∀ (n : Nat) (s : Bs) (l c cnt : Nat), s.length ≤ n → 1 ≤ c → ∀ t ∈ (scan s l c cnt).1, t.line ≤ ((l + s.length : Nat) : Int) ∧ t.col ≤ ((c + s.length : Nat) : Int) := by
  intro n
  induction n with
  | zero =>
    intro s l c cnt hs _ t ht
    obtain rfl : s = [] := List.eq_nil_of_length_eq_zero (by omega)
    rw [scan_nil] at ht
    cases ht
  | succ n ih =>
    intro s l c cnt hs hc1 t ht
    cases s with
    | nil =>
      rw [scan_nil] at ht
      cases ht
    | cons x r =>
      simp only [List.length_cons] at hs ⊢
      by_cases h1 : x.toNat = 10
      · rw [scan_nl _ _ _ _ _ h1] at ht
        have := ih r _ _ _ (by omega) (by omega) t ht
        omega
      · by_cases h2 : x.toNat = 32 ∨ x.toNat = 9 ∨ x.toNat = 13
        · rw [scan_bl _ _ _ _ _ h2] at ht
          have := ih r _ _ _ (by omega) (by omega) t ht
          omega
        · by_cases h3 : x.toNat = 35
          · rw [scan_cm _ _ _ _ _ h3] at ht
            have htl : (r.takeWhile pC).length ≤ r.length := by
              have := congrArg List.length (twp_split pC r)
              rw [List.length_append] at this
              omega
            have := ih _ _ _ _ (by rw [List.length_drop]; omega) (by omega) t ht
            rw [List.length_drop] at this
            omega
          · have hst : startT x := ⟨h1, fun e => h2 (.inl e), fun e => h2 (.inr (.inl e)), fun e => h2 (.inr (.inr e)), h3⟩
            cases hr : rd (x :: r) with
            | err e =>
              rw [scan_er _ _ _ _ _ _ hst hr] at ht
              cases ht
            | ok k u v =>
              by_cases hc : cnt = 16384
              · subst hc
                rw [scan_full _ _ _ _ _ _ _ hst hr] at ht
                cases ht
              · rw [scan_ok _ _ _ _ _ _ _ _ hst hr hc] at ht
                rcases List.mem_cons.1 ht with rfl | ht
                · show (l : Int) ≤ _ ∧ (c : Int) ≤ _
                  omega
                · have hlen := rd_len _ _ _ _ _ hr
                  have h1 := (rd_front _ _ _ _ _ hr).2
                  simp only [List.length_cons] at hlen
                  have := ih _ _ _ _ (by rw [List.length_drop]; omega) (by omega) t ht
                  rw [List.length_drop] at this
                  omega
theorem scanT_len {src : Bs} {ts : List Tk} (h : scanT src = (ts, none)) : src.length ≤ 65536 := by
  by_cases h1 : src.length > 65536
  · unfold scanT at h
    rw [if_pos h1] at h
    cases h
  · omega
theorem scan_lo : ∀ (n : Nat) (s : Bs) (l c cnt : Nat), s.length ≤ n → 1 ≤ c → ∀ t ∈ (scan s l c cnt).1, (l : Int) ≤ t.line ∧ 1 ≤ t.col := by
  intro n
  induction n with
  | zero =>
    intro s l c cnt hs _ t ht
    obtain rfl : s = [] := List.eq_nil_of_length_eq_zero (by omega)
    rw [scan_nil] at ht
    cases ht
  | succ n ih =>
    intro s l c cnt hs hc1 t ht
    cases s with
    | nil =>
      rw [scan_nil] at ht
      cases ht
    | cons x r =>
      simp only [List.length_cons] at hs ⊢
      by_cases h1 : x.toNat = 10
      · rw [scan_nl _ _ _ _ _ h1] at ht
        have := ih r _ _ _ (by omega) (by omega) t ht
        omega
      · by_cases h2 : x.toNat = 32 ∨ x.toNat = 9 ∨ x.toNat = 13
        · rw [scan_bl _ _ _ _ _ h2] at ht
          have := ih r _ _ _ (by omega) (by omega) t ht
          omega
        · by_cases h3 : x.toNat = 35
          · rw [scan_cm _ _ _ _ _ h3] at ht
            have htl : (r.takeWhile pC).length ≤ r.length := by
              have := congrArg List.length (twp_split pC r)
              rw [List.length_append] at this
              omega
            have := ih _ _ _ _ (by rw [List.length_drop]; omega) (by omega) t ht
            omega
          · have hst : startT x := ⟨h1, fun e => h2 (.inl e), fun e => h2 (.inr (.inl e)), fun e => h2 (.inr (.inr e)), h3⟩
            cases hr : rd (x :: r) with
            | err e =>
              rw [scan_er _ _ _ _ _ _ hst hr] at ht
              cases ht
            | ok k u v =>
              by_cases hc : cnt = 16384
              · subst hc
                rw [scan_full _ _ _ _ _ _ _ hst hr] at ht
                cases ht
              · rw [scan_ok _ _ _ _ _ _ _ _ hst hr hc] at ht
                rcases List.mem_cons.1 ht with rfl | ht
                · show (l : Int) ≤ (l : Int) ∧ 1 ≤ (c : Int)
                  omega
                · have hlen := rd_len _ _ _ _ _ hr
                  have h1 := (rd_front _ _ _ _ _ hr).2
                  simp only [List.length_cons] at hlen
                  have := ih _ _ _ _ (by rw [List.length_drop]; omega) (by omega) t ht
                  omega
theorem scanT_tkR {src : Bs} {ts : List Tk} (h : scanT src = (ts, none)) : ∀ i, i < ts.length → TkR (ts.getD i nT) := fun i hi => by
  have hl := scanT_len h
  have hs : scan src 1 1 0 = (ts, none) := by
    unfold scanT at h
    rw [if_neg (by omega)] at h
    exact h
  have hm : ts[i] ∈ (scan src 1 1 0).1 := by rw [hs]; exact List.getElem_mem hi
  have e : ts.getD i nT = ts[i] := by rw [List.getD_eq_getElem?_getD, List.getElem?_eq_getElem hi]; rfl
  rw [e]
  have h1 := scan_short _ src 1 1 0 (Nat.le_refl _) _ hm
  have h2 := scan_far _ src 1 1 0 (Nat.le_refl _) (Nat.le_refl _) _ hm
  have h3 := scan_lo _ src 1 1 0 (Nat.le_refl _) (Nat.le_refl _) _ hm
  exact ⟨by unfold maxLen; omega, by omega, by omega⟩
theorem tf_tk (ts : List Tk) : ∀ i r, i < ts.length → r < 5 → TF ts (i * 5 + r) = (tkCells ((fun i => ts.getD i nT) i)).getD r undef := fun i r hi hr => by
  have e : ts.getD i nT = ts[i] := by rw [List.getD_eq_getElem?_getD, List.getElem?_eq_getElem hi]; rfl
  show _ = (tkCells (ts.getD i nT)).getD r undef
  rw [e]
  exact tks_at ts i r _ (List.getElem?_eq_getElem hi) hr
theorem own_txs {W : World} {base : Nat} {p : Option Addr} {c : Nat} {ts : List Tk} (h : Own W base 40 5 (.slice p ts.length c) ts.length (TF ts)) : TX W p ts.length (fun i => ts.getD i nT) := by
  rcases TkIn.of_own h with h1 | ⟨b, o, h1, h2, h3⟩
  · exact .inl h1
  · refine .inr ⟨b, o, h1, h2, fun i r hi hr => ?_⟩
    rw [← tf_tk ts i r hi hr, Nat.add_assoc]
    exact h3 _ (by omega)
/-- no two tokens stand at one place -/
theorem scan_rise : ∀ (n : Nat) (s : Bs) (l c cnt : Nat), s.length ≤ n → (scan s l c cnt).1.Pairwise (fun a b => a.line < b.line ∨ a.line = b.line ∧ a.col < b.col) := by
  intro n
  induction n with
  | zero =>
    intro s l c cnt hs
    obtain rfl : s = [] := List.eq_nil_of_length_eq_zero (by omega)
    rw [scan_nil]
    exact List.Pairwise.nil
  | succ n ih =>
    intro s l c cnt hs
    cases s with
    | nil =>
      rw [scan_nil]
      exact List.Pairwise.nil
    | cons x r =>
      simp only [List.length_cons] at hs
      by_cases h1 : x.toNat = 10
      · rw [scan_nl _ _ _ _ _ h1]
        exact ih r _ _ _ (by omega)
      · by_cases h2 : x.toNat = 32 ∨ x.toNat = 9 ∨ x.toNat = 13
        · rw [scan_bl _ _ _ _ _ h2]
          exact ih r _ _ _ (by omega)
        · by_cases h3 : x.toNat = 35
          · rw [scan_cm _ _ _ _ _ h3]
            exact ih _ _ _ _ (by rw [List.length_drop]; omega)
          · have hst : startT x := ⟨h1, fun e => h2 (.inl e), fun e => h2 (.inr (.inl e)), fun e => h2 (.inr (.inr e)), h3⟩
            cases hr : rd (x :: r) with
            | err e =>
              rw [scan_er _ _ _ _ _ _ hst hr]
              exact List.Pairwise.nil
            | ok k u v =>
              by_cases hc : cnt = 16384
              · subst hc
                rw [scan_full _ _ _ _ _ _ _ hst hr]
                exact List.Pairwise.nil
              · rw [scan_ok _ _ _ _ _ _ _ _ hst hr hc]
                have hu := (rd_front _ _ _ _ _ hr).2
                refine List.Pairwise.cons (fun t ht => ?_) (ih _ _ _ _ (by rw [List.length_drop]; omega))
                have := scan_after _ _ _ _ _ (Nat.le_refl _) t ht
                show (l : Int) < t.line ∨ (l : Int) = t.line ∧ (c : Int) < t.col
                omega
theorem scanT_place {src : Bs} {ts : List Tk} (h : scanT src = (ts, none)) {i j : Nat} (hi : i < ts.length) (hj : j < ts.length) (hl : (ts.getD i nT).line = (ts.getD j nT).line) (hc : (ts.getD i nT).col = (ts.getD j nT).col) : i = j := by
  have hl6 := scanT_len h
  have hs : scan src 1 1 0 = (ts, none) := by
    unfold scanT at h
    rw [if_neg (by omega)] at h
    exact h
  have hp := scan_rise _ src 1 1 0 (Nat.le_refl _)
  rw [hs] at hp
  replace hp : ts.Pairwise (fun a b => a.line < b.line ∨ a.line = b.line ∧ a.col < b.col) := hp
  rw [List.pairwise_iff_getElem] at hp
  have e : ∀ k (hk : k < ts.length), ts.getD k nT = ts[k] := fun k hk => by rw [List.getD_eq_getElem?_getD, List.getElem?_eq_getElem hk]; rfl
  rw [e i hi, e j hj] at hl hc
  rcases Nat.lt_trichotomy i j with q | q | q
  · have := hp i j hi hj q; omega
  · exact q
  · have := hp j i hj hi q; omega
end Go.Proofs.YtmekcccmnkgodaaGreatDoor
