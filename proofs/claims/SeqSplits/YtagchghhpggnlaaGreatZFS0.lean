import Derived.Test.YtagchghhpggnlaaGreatZDMix
import Derived.Test.YtagchghhpggnlaaGreatZV5
import Derived.Test.YtagchghhpggnlaaGreatZSO9
import Derived.Laws.NewBlocks
import Derived.Laws.Cover3
namespace Go.Proofs.YtagchghhpggnlaaGreat
open Go.ChangeShapes Go.WideShapes Go.ChangeAt Go.RowKit
set_option linter.unusedVariables false
set_option linter.unusedSimpArgs false

/-! ### words, cloned -/
theorem infoI64 : (Tryz.prog.info? 2).map (fun i => (i.zero, i.size, i.bytes)) = some (some (.int .i64 0), 1, 8) := by kernel_rfl
theorem run_nil_yes (n c : Nat) (W : World) : (binOp .eql 44 (.slice none n c) (.slice none 0 0)).run Tryz.prog W = .ok (.bool true) W := by
  have := run_equal_slice_nil (P := Tryz.prog) W 44 2 none n c Tryz.underlying44
  simp [binOp, this]
theorem run_nil_no (ad : Addr) (n c : Nat) (W : World) : (binOp .eql 44 (.slice (some ad) n c) (.slice none 0 0)).run Tryz.prog W = .ok (.bool false) W := by
  have := run_equal_slice_nil (P := Tryz.prog) W 44 2 (some ad) n c Tryz.underlying44
  simp [binOp, this]
theorem own_nil0 {W : World} {base : Nat} {t : TypeId} {s : Nat} {F : Nat → Value} : Own W base t s (.slice none 0 0) 0 F := ⟨by simp [cellsF], .inl ⟨rfl, rfl⟩⟩
theorem own_new0 (w : World) (t : TypeId) (F : Nat → Value) : Own (w.alloc (.cells #[] t)) w.heap.size t 1 (.slice (some ⟨w.heap.size, 0, none⟩) 0 0) 0 F :=
  Own.mk' (World.alloc_heap_new w _) rfl (Nat.le_refl _) (Nat.zero_le _) (Nat.le_refl _) fun j hj => by omega
theorem own_kat {W : World} {base : Nat} {p : Option Addr} {n c : Nat} {K : Nat → Int} (h : Own W base 2 1 (.slice p n c) n (iv K)) : KAt W p n K := by
  rcases h.form with ⟨h1, h2⟩ | ⟨g, c', h1, h2, h3⟩
  · exact .inl h2
  · injection h1 with e1 e2 e3
    subst e1
    subst e3
    refine .inr ⟨g, 0, rfl, h3, fun j hj => ?_⟩
    rw [Nat.zero_add]
    exact h.cell (j := j) (by omega)
set_option maxRecDepth 100000 in
set_option maxHeartbeats 1000000 in
/-- slices.Clone of words: the same words in new memory (or none) -/
theorem clone_any (p : Option Addr) (n c : Nat) (K : Nat → Int) (w : World) (hn : n ≤ 17592186044416) (h : KAt w p n K) :
    Calls Tryz.prog 82 #[.slice p n c] w fun e w' => ∃ (q : Option Addr) (cc : Nat), e = .returned (.slice q n cc) ∧ KAt w' q n K ∧ (∀ g o, q = some ⟨g, o, none⟩ → w.heap.size ≤ g ∧ g < w'.heap.size) ∧ Below w.heap.size w w' := by
  rcases p with _ | ad
  · have h0 : n = 0 := by
      rcases h with h | ⟨b, o, e, _⟩
      · exact h
      · cases e
    subst h0
    have hq := run_nil_yes 0 c
    go_enter Tryz.func82, Tryz.ntmps82
    go_wp2
    go_ret
    exact ⟨none, 0, rfl, .inl rfl, fun g o e => (by cases e), Below.refl _ _⟩
  · have hq := run_nil_no ad n c
    obtain ⟨i3, hi3, ha3, hb3, hc3⟩ := sinfo infoI64
    have hz3 : (Value.int .i64 0).cells.size = 1 := rfl
    obtain ⟨w1, hw1⟩ : ∃ w1, w.alloc (.cells #[] 2) = w1 := ⟨_, rfl⟩
    have hO := own_new0 w 2 (iv K)
    have hb1 : Below w.heap.size w w1 := by rw [← hw1]; exact (Below.refl _ w).alloc (Nat.le_refl _) _
    rw [hw1] at hO
    have hc : ∀ j u, (intsL K n)[j]? = some u → w1.cell? (ad.add j) = some u := fun j u hu => by
      have hj : j < n := by
        have := (List.getElem?_eq_some_iff.1 hu).1
        rwa [intsL_len] at this
      rw [intsL_get hj] at hu
      cases hu
      rcases h with e0 | ⟨b, o, e, hlt, hcc⟩
      · omega
      · cases e
        rw [addr_add]
        exact (cell_below hb1 hlt).trans (hcc j hj)
    have HW : Hid (w.alloc (.cells #[] 2) = w1) := hw1
    have HO : Hid (w1.ownsRow w.heap.size 2 1 (.slice (some ⟨w.heap.size, 0, none⟩) 0 0) 0 []) := hO
    clear hO hw1
    have hsz := hb1.size
    go_enter Tryz.func82, Tryz.ntmps82
    go_wp2_with (at_builtin; rw [HW.out]; refine wpList_append_own _ rfl (.tmp 5) (.tmp 6) 44 rfl w.heap.size 2 i3 (.int .i64 0) 1 8 Tryz.underlying44 hi3 ha3 hb3 hc3 hz3 (by decide) (.slice (some ⟨w.heap.size, 0, none⟩) 0 0) 0 [] rfl HO.out ad n c (intsL K n) rfl (by rw [intsL_len, Nat.mul_one]) hc (intsL_one K n) (by unfold maxLen; omega) (by omega) hsz ?_; intro v' w2 hown hgrow _)
    go_ret
    have hF : Own w2 w.heap.size 2 1 v' n (iv K) := by
      unfold Own
      have e : cellsF (iv K) (n * 1) = [] ++ intsL K n := by rw [Nat.mul_one]; rfl
      rw [e]
      simpa using hown
    have hB : Below w.heap.size w w2 := hb1.grown hgrow hsz (fun k hk => by simp [Value.ownBlock] at hk; omega)
    rcases hF.form with ⟨e1, e2⟩ | ⟨g, cc, e1, hg1, hg2⟩
    · subst e1 e2
      exact ⟨none, 0, rfl, .inl rfl, fun g o e => (by cases e), hB⟩
    · subst e1
      exact ⟨_, _, rfl, own_kat hF, fun g' o e => (by cases e; exact ⟨hg1, hg2⟩), hB⟩
end Go.Proofs.YtagchghhpggnlaaGreat
