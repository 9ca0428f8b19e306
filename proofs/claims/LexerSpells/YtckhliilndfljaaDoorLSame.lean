import Derived.Test.YtckhliilndfljaaDoorLScan
import Derived.Test.YtckhliilndfljaaDoorLRef
import Derived.BigRegion
namespace Go.Proofs.YtckhliilndfljaaDoor
open Go.ChangeShapes Go.WideShapes Go.ChangeAt Go.RowKit
set_option linter.unusedVariables false

/-- a token's cells in a row -/
theorem row_tok {W : World} {base : Nat} {e : TypeId} {g cap n : Nat} {l : List Tk} (h : W.ownsRow base e 5 (.slice (some ⟨g, 0, none⟩) n cap) l.length (tksCells l)) (i : Nat) (hi : i < l.length) :
    W.cell? ⟨g, i * 5, none⟩ = some (.int .i64 l[i].kind) ∧ W.cell? ⟨g, i * 5 + 1, none⟩ = some (.string ⟨l[i].text.toArray⟩) ∧ W.cell? ⟨g, i * 5 + 2, none⟩ = some (.int .u64 l[i].num) ∧ W.cell? ⟨g, i * 5 + 3, none⟩ = some (.int .i64 l[i].line) ∧ W.cell? ⟨g, i * 5 + 4, none⟩ = some (.int .i64 l[i].col) := by
  have hc : ∀ (l : List Tk) (i : Nat) (hi : i < l.length) (j : Nat), j < 5 → (tksCells l)[i * 5 + j]? = (tkCells l[i])[j]? := by
    intro l
    induction l with
    | nil => intro i hi; simp at hi
    | cons t r ih =>
      intro i hi j hj
      have hl : (tkCells t).length = 5 := rfl
      cases i with
      | zero =>
        show (tkCells t ++ tksCells r)[0 * 5 + j]? = _
        rw [List.getElem?_append_left (by rw [hl]; omega)]
        simp
      | succ i =>
        show (tkCells t ++ tksCells r)[(i + 1) * 5 + j]? = _
        rw [List.getElem?_append_right (by rw [hl]; omega), hl, show (i + 1) * 5 + j - 5 = i * 5 + j by omega]
        exact ih i (by simpa using hi) j hj
  rcases h.2 with ⟨h1, _⟩ | ⟨g', cap', cur, h1, _, hh, hcp, _, hs, ht⟩
  · cases h1
  · injection h1 with h1 h2 h3
    injection h1 with h1
    injection h1 with h1 _ _
    subst h1
    have cell : ∀ j, j < 5 → W.cell? ⟨g, i * 5 + j, none⟩ = (tkCells l[i])[j]? := by
      intro j hj
      rw [← hc l i hi j hj, ← ht, List.getElem?_take_of_lt (by omega)]
      unfold World.cell?
      rw [hh]
      simp
    exact ⟨cell 0 (by decide), cell 1 (by decide), cell 2 (by decide), cell 3 (by decide), cell 4 (by decide)⟩

theorem own_len' {W : World} {base : Nat} {e : TypeId} {size : Nat} {p : Option Addr} {m c : Nat} {k : Nat} {xs : List Value} (h : W.ownsRow base e size (.slice p m c) k xs) : m = k := by
  rcases h.2 with ⟨h1, h2⟩ | ⟨g, cap, cur, h1, _⟩
  · injection h1 with _ h1 _; omega
  · injection h1
theorem own_some {W : World} {base : Nat} {e : TypeId} {size : Nat} {p : Option Addr} {m c : Nat} {k : Nat} {xs : List Value} (h : W.ownsRow base e size (.slice p m c) k xs) (hk : 0 < k) : ∃ g, p = some ⟨g, 0, none⟩ := by
  rcases h.2 with ⟨h1, h2⟩ | ⟨g, cap, cur, h1, _⟩
  · omega
  · injection h1 with h1; exact ⟨g, h1⟩
theorem own_more' {W W' : World} {base : Nat} {e : TypeId} {size : Nat} {v : Value} {k : Nat} {xs : List Value} (h : W.ownsRow base e size v k xs) (hb : Below W.heap.size W W') : W'.ownsRow base e size v k xs := by
  rcases h.2 with ⟨rfl, _⟩ | ⟨g, cap, cur, rfl, _⟩
  · exact h.kept (grown_of_below hb) (.inl rfl)
  · exact h.kept (grown_of_below hb) (.inr (by simp [Value.ownBlock]))

set_option maxRecDepth 100000 in
set_option maxHeartbeats 2000000 in
theorem same_yes (va vb : Value) (ba bb : Nat) (l : List Tk) (hl : l.length ≤ 16384) (w : World) (ha : w.ownsRow ba 34 5 va l.length (tksCells l)) (hb : w.ownsRow bb 34 5 vb l.length (tksCells l)) :
    Calls Tryd.prog 9 #[va, vb] w fun e w' => e = .returned (.bool true) ∧ Below w.heap.size w w' := by
  obtain ⟨pa, ma, ca, rfl⟩ := own_slice ha
  obtain ⟨pb, mb, cb, rfl⟩ := own_slice hb
  have ea := own_len' ha
  have eb := own_len' hb
  subst ma mb
  go_enter Tryd.func9, Tryd.ntmps9
  go_wp2
  go_loopw [13] (fun v wr => ∃ i : Nat, v = .int .i64 i ∧ i ≤ l.length ∧ Below w.heap.size w wr) (fun v _ => l.length - (intOf v).toNat)
  case atStart => exact ⟨0, rfl, Nat.zero_le _, Below.refl _ _⟩
  case round =>
    obtain ⟨i, rfl, hi, hbel⟩ := hrel
    by_cases hlt : i < l.length
    · obtain ⟨ga, rfl⟩ : ∃ ga, pa = some ⟨ga, 0, none⟩ := own_some ha (by omega)
      obtain ⟨gb, rfl⟩ : ∃ gb, pb = some ⟨gb, 0, none⟩ := own_some hb (by omega)
      obtain ⟨a0, a1, a2, a3, a4⟩ := row_tok (own_more' ha hbel) i hlt
      obtain ⟨b0, b1, b2, b3, b4⟩ := row_tok (own_more' hb hbel) i hlt
      have dl : decide ((i : Int) < l.length) = true := decide_eq_true (by omega)
      generalize l[i] = t at *
      clear ha hb
      go_wp2
      go_region
      go_wp2
      exact ⟨⟨i + 1, rfl, hlt, hbel.drew⟩, meas hlt⟩
    · have dl : decide ((i : Int) < l.length) = false := decide_eq_false (by omega)
      clear ha hb
      go_wp2
      go_ret
      exact ⟨rfl, hbel⟩
end Go.Proofs.YtckhliilndfljaaDoor
