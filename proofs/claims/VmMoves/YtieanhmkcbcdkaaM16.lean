import Derived.Test.YtieanhmkcbcdkaaG1
import Derived.Test.YtieanhmkcbcdkaaV1
import Derived.Laws.NewBlocks
import Derived.Laws.Cover3
namespace Go.Proofs.Ytieanhmkcbcdkaa
open Go.ChangeShapes Go.WideShapes Go.ChangeAt Go.RowKit
set_option linter.unusedVariables false

/-! ### words, copied -/
theorem infoI64 : (Try.prog.info? 2).map (fun i => (i.zero, i.size, i.bytes)) = some (some (.int .i64 0), 1, 8) := by kernel_rfl
theorem run_nil_yes (W : World) : (binOp .eql 31 (.slice none 0 0) (.slice none 0 0)).run Try.prog W = .ok (.bool true) W := by
  have := run_equal_slice_nil (P := Try.prog) W 31 2 none 0 0 Try.underlying31
  simp [binOp, this]
theorem run_nil_no (ad : Addr) (n c : Nat) (W : World) : (binOp .eql 31 (.slice (some ad) n c) (.slice none 0 0)).run Try.prog W = .ok (.bool false) W := by
  have := run_equal_slice_nil (P := Try.prog) W 31 2 (some ad) n c Try.underlying31
  simp [binOp, this]
theorem Own.nil0 {W : World} {base : Nat} {t : TypeId} {s : Nat} {F : Nat → Value} : Own W base t s (.slice none 0 0) 0 F := ⟨by simp [cellsF], .inl ⟨rfl, rfl⟩⟩
theorem Own.lower {W : World} {base base' : Nat} {t : TypeId} {s m : Nat} {v : Value} {F : Nat → Value} (h : Own W base t s v m F) (hb : base' ≤ base) : Own W base' t s v m F := by
  rcases h with ⟨h1, h2 | ⟨g, c, cur, h3, h4, h5⟩⟩
  · exact ⟨h1, .inl h2⟩
  · exact ⟨h1, .inr ⟨g, c, cur, h3, Nat.le_trans hb h4, h5⟩⟩
theorem Own.new0 (w : World) (t : TypeId) (F : Nat → Value) : Own (w.alloc (.cells #[] t)) w.heap.size t 1 (.slice (some ⟨w.heap.size, 0, none⟩) 0 0) 0 F :=
  Own.mk' (World.alloc_heap_new w _) rfl (Nat.le_refl _) (Nat.zero_le _) (Nat.le_refl _) fun j hj => by omega
set_option maxRecDepth 100000 in
set_option maxHeartbeats 1000000 in
theorem clone_any (p : Option Addr) (n c : Nat) (K : Nat → Int) (w : World) (hn : n ≤ 17592186044416) (h : KAt w p n K) (h0 : p = none → n = 0 ∧ c = 0) :
    Calls Try.prog 53 #[.slice p n c] w fun e w' => ∃ (q : Option Addr) (cc : Nat), e = .returned (.slice q n cc) ∧ Own w' w.heap.size 2 1 (.slice q n cc) n (iv K) ∧ Below w.heap.size w w' := by
  rcases p with _ | ad
  · obtain ⟨rfl, rfl⟩ := h0 rfl
    have hq := run_nil_yes
    go_enter Try.func53, Try.ntmps53
    go_wp2
    go_ret
    exact ⟨none, 0, rfl, Own.nil0, Below.refl _ _⟩
  · have hq := run_nil_no ad n c
    obtain ⟨i3, hi3, ha3, hb3, hc3⟩ := info_parts infoI64
    have hz3 : (Value.int .i64 0).cells.size = 1 := rfl
    obtain ⟨w1, hw1⟩ : ∃ w1, w.alloc (.cells #[] 2) = w1 := ⟨_, rfl⟩
    have hO := Own.new0 w 2 (iv K)
    have hb1 : Below w.heap.size w w1 := by rw [← hw1]; exact (Below.refl _ w).alloc (Nat.le_refl _) _
    rw [hw1] at hO
    have hc : ∀ j u, (intsL K n)[j]? = some u → w1.cell? (ad.add j) = some u := fun j u hu => by
      have hj : j < n := by
        have := (List.getElem?_eq_some_iff.1 hu).1
        rwa [intsL_len] at this
      rw [intsL_get hj] at hu
      cases hu
      rcases h with e0 | ⟨b, o, e, hlt, hcc⟩
      · omega
      · cases e
        rw [addr_add]
        exact (cell_below hb1 hlt).trans (hcc j hj)
    have HW : Hid (w.alloc (.cells #[] 2) = w1) := hw1
    have HO : Hid (w1.ownsRow w.heap.size 2 1 (.slice (some ⟨w.heap.size, 0, none⟩) 0 0) 0 []) := hO
    clear hO hw1
    have hsz := hb1.size
    go_enter Try.func53, Try.ntmps53
    go_wp2_with (at_builtin; rw [HW.out]; refine wpList_append_own _ rfl (.tmp 5) (.tmp 6) 31 rfl w.heap.size 2 i3 (.int .i64 0) 1 8 Try.underlying31 hi3 ha3 hb3 hc3 hz3 (by decide) (.slice (some ⟨w.heap.size, 0, none⟩) 0 0) 0 [] rfl HO.out ad n c (intsL K n) rfl (by rw [intsL_len, Nat.mul_one]) hc (intsL_one K n) (by unfold maxLen; omega) (by omega) hsz ?_; intro v' w2 hown hgrow _)
    go_ret
    have hF : Own w2 w.heap.size 2 1 v' n (iv K) := by
      unfold Own
      have e : cellsF (iv K) (n * 1) = [] ++ intsL K n := by rw [Nat.mul_one]; rfl
      rw [e]
      simpa using hown
    have hB : Below w.heap.size w w2 := hb1.grown hgrow hsz (fun k hk => by simp [Value.ownBlock] at hk; omega)
    rcases hF.form with ⟨e1, e2⟩ | ⟨g, cc, e1, _, _⟩
    · subst e1 e2
      exact ⟨none, 0, rfl, hF, hB⟩
    · subst e1
      exact ⟨_, _, rfl, hF, hB⟩
theorem cells3' {W : World} {b : Nat} {c0 c1 c2 : Value} {t : TypeId} (h : W.heap[b]? = some (.cells #[c0, c1, c2] t (0, 0))) : W.cell? ⟨b, 0, none⟩ = some c0 ∧ W.cell? ⟨b, 1, none⟩ = some c1 ∧ W.cell? ⟨b, 2, none⟩ = some c2 := by
  refine ⟨?_, ?_, ?_⟩
  all_goals (unfold World.cell?; rw [h]; rfl)
theorem frz' {W : World} {b : Nat} {cur : Array Value} {t : TypeId} (h : W.heap[b]? = some (.cells cur t (0, 0))) : ∀ k, W.frozen? ⟨b, k, none⟩ = false := fun k => by simp [World.frozen?, h]
set_option maxRecDepth 100000 in
set_option maxHeartbeats 1000000 in
theorem copied_any (p : Option Addr) (n c : Nat) (K : Nat → Int) (d s : Int) (w : World) (hn : n ≤ 17592186044416) (h : KAt w p n K) (h0 : p = none → n = 0 ∧ c = 0) :
    Calls Try.prog 24 #[.agg #[.slice p n c, .int .u64 d, .int .u64 s]] w fun e w' => ∃ (q : Option Addr) (cc : Nat), e = .returned (.agg #[.slice q n cc, .int .u64 d, .int .u64 s]) ∧ Own w' w.heap.size 2 1 (.slice q n cc) n (iv K) ∧ Below w.heap.size w w' := by
  obtain ⟨w1, hw1⟩ : ∃ w1, (w.alloc (.cells #[.slice p n c, .int .u64 d, .int .u64 s] 33)).alloc (.cells #[.slice none 0 0, .int .u64 0, .int .u64 0] 33) = w1 := ⟨_, rfl⟩
  have hb1 : Below w.heap.size w w1 := by rw [← hw1]; exact ((Below.refl _ w).alloc (Nat.le_refl _) _).alloc (by simp) _
  have hbox : w1.heap[w.heap.size]? = some (.cells #[.slice p n c, .int .u64 d, .int .u64 s] 33 (0, 0)) := by
    rw [← hw1, Below.heap_alloc _ _ _ (by simp)]
    exact World.alloc_heap_new w _
  have hres : w1.heap[w.heap.size + 1]? = some (.cells #[.slice none 0 0, .int .u64 0, .int .u64 0] 33 (0, 0)) := by
    rw [← hw1]
    have := World.alloc_heap_new (w.alloc (.cells #[.slice p n c, .int .u64 d, .int .u64 s] 33)) (.cells #[.slice none 0 0, .int .u64 0, .int .u64 0] 33)
    rwa [World.size_alloc] at this
  have hsz : w1.heap.size = w.heap.size + 2 := by rw [← hw1]; simp
  have HC := clone_any p n c K w1 hn (h.below hb1) h0
  obtain ⟨a0, a1, a2⟩ := cells3' hbox
  have HW : Hid ((w.alloc (.cells #[.slice p n c, .int .u64 d, .int .u64 s] 33)).alloc (.cells #[.slice none 0 0, .int .u64 0, .int .u64 0] 33) = w1) := hw1
  clear hw1 h h0
  go_enter Try.func24, Try.ntmps24
  go_wp2_with (go_at_call 53; rw [HW.out]; (with_reducible refine HC.mono ?_); rintro e w2 ⟨q, cc, rfl, hO, hb2⟩; have hbox2 := (hb2.block _ (by omega)).trans hbox; have hres2 := (hb2.block _ (by omega)).trans hres; obtain ⟨b0, b1, b2⟩ := cells3' hbox2; obtain ⟨r0, r1, r2⟩ := cells3' hres2; have bf0 := frz' hbox2 0; have rf0 := frz' hres2 0; have rf1 := frz' hres2 1; have rf2 := frz' hres2 2)
  generalize hWF : (World.setCell (World.setCell (World.setCell (World.setCell _ _ _) _ _) _ _) _ _) = wF
  have hwF : wF = (((w2.setCell ⟨w.heap.size, 0, none⟩ (.slice q n cc)).setCell ⟨w.heap.size + 1, 0, none⟩ (.slice q n cc)).setCell ⟨w.heap.size + 1, 1, none⟩ (.int .u64 d)).setCell ⟨w.heap.size + 1, 2, none⟩ (.int .u64 s) := hWF.symm
  clear hWF
  have hF : wF.heap[w.heap.size + 1]? = some (.cells #[.slice q n cc, .int .u64 d, .int .u64 s] 33 (0, 0)) := by
    have h0 : (w2.setCell ⟨w.heap.size, 0, none⟩ (.slice q n cc)).heap[w.heap.size + 1]? = some (.cells #[.slice none 0 0, .int .u64 0, .int .u64 0] 33 (0, 0)) := (Below.heap_setCell _ _ _ _ (by show w.heap.size + 1 ≠ w.heap.size; omega)).trans hres2
    rw [hwF, setCell_block _ _ _ _ (setCell_block _ _ _ _ (setCell_block _ _ _ _ h0))]
    rfl
  have far : ∀ k, k ≠ w.heap.size → k ≠ w.heap.size + 1 → wF.heap[k]? = w2.heap[k]? := fun k h1 h2 => by
    rw [hwF, Below.heap_setCell _ _ _ _ h2, Below.heap_setCell _ _ _ _ h2, Below.heap_setCell _ _ _ _ h2, Below.heap_setCell _ _ _ _ h1]
  have hbF : Below w.heap.size w wF := by
    rw [hwF]
    exact ((((hb1.trans (hb2.mono (by omega))).setCell (p := ⟨w.heap.size, 0, none⟩) (Nat.le_refl _) _).setCell (p := ⟨w.heap.size + 1, 0, none⟩) (Nat.le_succ _) _).setCell (p := ⟨w.heap.size + 1, 1, none⟩) (Nat.le_succ _) _).setCell (p := ⟨w.heap.size + 1, 2, none⟩) (Nat.le_succ _) _
  obtain ⟨d0, d1, d2⟩ := cells3' hF
  refine bodyPost_ret (v := .agg #[.slice q n cc, .int .u64 d, .int .u64 s]) (by simp [results, Try.results24, go_sem, d0, d1, d2]; try rfl) rfl ?_
  refine ⟨q, cc, rfl, ?_, hbF⟩
  rcases hO.form with ⟨e1, e2⟩ | ⟨g, c', e1, e2, e3⟩
  · cases e1
    exact Own.nil0
  · rw [e1] at hO ⊢
    have hO' := hO.far (W' := wF) fun k hk => far k (by have : k = g := by simpa [Value.ownBlock] using hk.symm
                                                        omega) (by have : k = g := by simpa [Value.ownBlock] using hk.symm
                                                                   omega)
    exact Own.lower hO' (by omega)
end Go.Proofs.Ytieanhmkcbcdkaa
