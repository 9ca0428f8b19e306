import Derived.Test.YtagchghhpggnlaaGreatZFS0
import Derived.Test.YtagchghhpggnlaaGreatZSV6
import Derived.Laws.NewBlocks
import Derived.Laws.Cover3
namespace Go.Proofs.YtagchghhpggnlaaGreat
open Go.ChangeShapes Go.WideShapes Go.ChangeAt Go.RowKit
set_option linter.unusedVariables false
set_option linter.unusedSimpArgs false

/-- n elements of s cells, F, lie somewhere -/
def CIn (W : World) (p : Option Addr) (n s : Nat) (F : Nat → Value) : Prop := n = 0 ∨ ∃ b o, p = some ⟨b, o, none⟩ ∧ b < W.heap.size ∧ ∀ j, j < n * s → W.cell? ⟨b, o + j, none⟩ = some (F j)
theorem CIn.below {W W' : World} {p : Option Addr} {n s : Nat} {F : Nat → Value} (h : CIn W p n s F) (hb : Below W.heap.size W W') : CIn W' p n s F := by
  rcases h with h | ⟨b, o, h1, h2, h3⟩
  · exact .inl h
  · exact .inr ⟨b, o, h1, Nat.lt_of_lt_of_le h2 hb.size, fun j hj => (cell_below (a := ⟨b, o + j, none⟩) hb h2).trans (h3 j hj)⟩
theorem own_news (w : World) (t : TypeId) (s : Nat) (F : Nat → Value) : Own (w.alloc (.cells #[] t)) w.heap.size t s (.slice (some ⟨w.heap.size, 0, none⟩) 0 0) 0 F :=
  Own.mk' (World.alloc_heap_new w _) (by simp) (Nat.le_refl _) (Nat.zero_le _) (Nat.le_refl _) fun j hj => by omega
theorem cloneE_inf : (Tryz.prog.info? 39).map (fun i => (i.zero, i.size, i.bytes)) = some (some (.agg #[.int .u64 0, .int .i64 0, .int .u64 0, .int .i64 0, .int .i64 0, .int .i64 0]), 6, 48) := by kernel_rfl
theorem cloneE_yes (n c : Nat) (W : World) : (binOp .eql 34 (.slice none n c) (.slice none 0 0)).run Tryz.prog W = .ok (.bool true) W := by
  have := run_equal_slice_nil (P := Tryz.prog) W 34 39 none n c Tryz.underlying34
  simp [binOp, this]
theorem cloneE_no (ad : Addr) (n c : Nat) (W : World) : (binOp .eql 34 (.slice (some ad) n c) (.slice none 0 0)).run Tryz.prog W = .ok (.bool false) W := by
  have := run_equal_slice_nil (P := Tryz.prog) W 34 39 (some ad) n c Tryz.underlying34
  simp [binOp, this]
set_option maxRecDepth 100000 in
set_option maxHeartbeats 1000000 in
theorem cloneE_any (p : Option Addr) (n c : Nat) (F : Nat → Value) (w : World) (hn : n * 48 ≤ 140737488355328) (h : CIn w p n 6 F) (h1 : ∀ j, j < n * 6 → (F j).oneCell' = true) :
    Calls Tryz.prog 60 #[.slice p n c] w fun e w' => ∃ (q : Option Addr) (cc : Nat), e = .returned (.slice q n cc) ∧ Own w' w.heap.size 39 6 (.slice q n cc) n F ∧ Below w.heap.size w w' := by
  rcases p with _ | ad
  · have h0 : n = 0 := by
      rcases h with h | ⟨b, o, e, _⟩
      · exact h
      · cases e
    subst h0
    have hq := cloneE_yes 0 c
    go_enter Tryz.func60, Tryz.ntmps60
    go_wp2
    go_ret
    exact ⟨none, 0, rfl, own_nil0, Below.refl _ _⟩
  · have hq := cloneE_no ad n c
    obtain ⟨i3, hi3, ha3, hb3, hc3⟩ := sinfo cloneE_inf
    have hz3 : (.agg #[.int .u64 0, .int .i64 0, .int .u64 0, .int .i64 0, .int .i64 0, .int .i64 0] : Value).cells.size = 6 := rfl
    obtain ⟨w1, hw1⟩ : ∃ w1, w.alloc (.cells #[] 39) = w1 := ⟨_, rfl⟩
    have hO := own_news w 39 6 F
    have hb1 : Below w.heap.size w w1 := by rw [← hw1]; exact (Below.refl _ w).alloc (Nat.le_refl _) _
    rw [hw1] at hO
    have hc : ∀ j u, (cellsF F (n * 6))[j]? = some u → w1.cell? (ad.add j) = some u := fun j u hu => by
      have hj : j < n * 6 := by
        have := (List.getElem?_eq_some_iff.1 hu).1
        rwa [cellsF_len] at this
      rw [cellsF_at _ hj] at hu
      cases hu
      rcases h with e0 | ⟨b, o, e, hlt, hcc⟩
      · omega
      · cases e
        rw [addr_add]
        exact (cell_below hb1 hlt).trans (hcc j hj)
    have hone : ∀ u ∈ cellsF F (n * 6), u.oneCell' = true := fun u hu => by
      unfold cellsF at hu
      obtain ⟨j, hj, rfl⟩ := List.mem_map.1 hu
      exact h1 j (List.mem_range.1 hj)
    have HW : Hid (w.alloc (.cells #[] 39) = w1) := hw1
    have HO : Hid (w1.ownsRow w.heap.size 39 6 (.slice (some ⟨w.heap.size, 0, none⟩) 0 0) 0 []) := by
      have h9 : w1.ownsRow w.heap.size 39 6 (.slice (some ⟨w.heap.size, 0, none⟩) 0 0) 0 (cellsF F (0 * 6)) := hO
      rw [Nat.zero_mul] at h9
      exact h9
    have HC : Hid ((∀ j u, (cellsF F (n * 6))[j]? = some u → w1.cell? (ad.add j) = some u) ∧ ∀ u ∈ cellsF F (n * 6), u.oneCell' = true) := ⟨hc, hone⟩
    clear hO hw1 hc hone h h1
    have hsz := hb1.size
    go_enter Tryz.func60, Tryz.ntmps60
    go_wp2_with (at_builtin; rw [HW.out]; refine wpList_append_own _ rfl (.tmp 5) (.tmp 6) 34 rfl w.heap.size 39 i3 (.agg #[.int .u64 0, .int .i64 0, .int .u64 0, .int .i64 0, .int .i64 0, .int .i64 0]) 6 48 Tryz.underlying34 hi3 ha3 hb3 hc3 hz3 (by decide) (.slice (some ⟨w.heap.size, 0, none⟩) 0 0) 0 [] rfl HO.out ad n c (cellsF F (n * 6)) rfl (cellsF_len _ _) HC.out.1 HC.out.2 (by unfold maxLen; omega) (by omega) hsz ?_; intro v' w2 hown hgrow _)
    go_ret
    have hF : Own w2 w.heap.size 39 6 v' n F := by
      unfold Own
      simpa using hown
    have hB : Below w.heap.size w w2 := hb1.grown hgrow hsz (fun k hk => by simp [Value.ownBlock] at hk; omega)
    obtain ⟨q, cc, rfl⟩ : ∃ q cc, v' = .slice q n cc := by
      rcases hF.form with ⟨e1, e2⟩ | ⟨g, cc, e1, _, _⟩
      · exact ⟨none, 0, by rw [e1, e2]⟩
      · exact ⟨_, _, e1⟩
    exact ⟨q, cc, rfl, hF, hB⟩
theorem cloneS_inf : (Tryz.prog.info? 46).map (fun i => (i.zero, i.size, i.bytes)) = some (some (.agg #[.slice none 0 0, .int .u64 0, .int .u64 0]), 3, 40) := by kernel_rfl
theorem cloneS_yes (n c : Nat) (W : World) : (binOp .eql 33 (.slice none n c) (.slice none 0 0)).run Tryz.prog W = .ok (.bool true) W := by
  have := run_equal_slice_nil (P := Tryz.prog) W 33 46 none n c Tryz.underlying33
  simp [binOp, this]
theorem cloneS_no (ad : Addr) (n c : Nat) (W : World) : (binOp .eql 33 (.slice (some ad) n c) (.slice none 0 0)).run Tryz.prog W = .ok (.bool false) W := by
  have := run_equal_slice_nil (P := Tryz.prog) W 33 46 (some ad) n c Tryz.underlying33
  simp [binOp, this]
set_option maxRecDepth 100000 in
set_option maxHeartbeats 1000000 in
theorem cloneS_any (p : Option Addr) (n c : Nat) (F : Nat → Value) (w : World) (hn : n * 40 ≤ 140737488355328) (h : CIn w p n 3 F) (h1 : ∀ j, j < n * 3 → (F j).oneCell' = true) :
    Calls Tryz.prog 87 #[.slice p n c] w fun e w' => ∃ (q : Option Addr) (cc : Nat), e = .returned (.slice q n cc) ∧ Own w' w.heap.size 46 3 (.slice q n cc) n F ∧ Below w.heap.size w w' := by
  rcases p with _ | ad
  · have h0 : n = 0 := by
      rcases h with h | ⟨b, o, e, _⟩
      · exact h
      · cases e
    subst h0
    have hq := cloneS_yes 0 c
    go_enter Tryz.func87, Tryz.ntmps87
    go_wp2
    go_ret
    exact ⟨none, 0, rfl, own_nil0, Below.refl _ _⟩
  · have hq := cloneS_no ad n c
    obtain ⟨i3, hi3, ha3, hb3, hc3⟩ := sinfo cloneS_inf
    have hz3 : (.agg #[.slice none 0 0, .int .u64 0, .int .u64 0] : Value).cells.size = 3 := rfl
    obtain ⟨w1, hw1⟩ : ∃ w1, w.alloc (.cells #[] 46) = w1 := ⟨_, rfl⟩
    have hO := own_news w 46 3 F
    have hb1 : Below w.heap.size w w1 := by rw [← hw1]; exact (Below.refl _ w).alloc (Nat.le_refl _) _
    rw [hw1] at hO
    have hc : ∀ j u, (cellsF F (n * 3))[j]? = some u → w1.cell? (ad.add j) = some u := fun j u hu => by
      have hj : j < n * 3 := by
        have := (List.getElem?_eq_some_iff.1 hu).1
        rwa [cellsF_len] at this
      rw [cellsF_at _ hj] at hu
      cases hu
      rcases h with e0 | ⟨b, o, e, hlt, hcc⟩
      · omega
      · cases e
        rw [addr_add]
        exact (cell_below hb1 hlt).trans (hcc j hj)
    have hone : ∀ u ∈ cellsF F (n * 3), u.oneCell' = true := fun u hu => by
      unfold cellsF at hu
      obtain ⟨j, hj, rfl⟩ := List.mem_map.1 hu
      exact h1 j (List.mem_range.1 hj)
    have HW : Hid (w.alloc (.cells #[] 46) = w1) := hw1
    have HO : Hid (w1.ownsRow w.heap.size 46 3 (.slice (some ⟨w.heap.size, 0, none⟩) 0 0) 0 []) := by
      have h9 : w1.ownsRow w.heap.size 46 3 (.slice (some ⟨w.heap.size, 0, none⟩) 0 0) 0 (cellsF F (0 * 3)) := hO
      rw [Nat.zero_mul] at h9
      exact h9
    have HC : Hid ((∀ j u, (cellsF F (n * 3))[j]? = some u → w1.cell? (ad.add j) = some u) ∧ ∀ u ∈ cellsF F (n * 3), u.oneCell' = true) := ⟨hc, hone⟩
    clear hO hw1 hc hone h h1
    have hsz := hb1.size
    go_enter Tryz.func87, Tryz.ntmps87
    go_wp2_with (at_builtin; rw [HW.out]; refine wpList_append_own _ rfl (.tmp 5) (.tmp 6) 33 rfl w.heap.size 46 i3 (.agg #[.slice none 0 0, .int .u64 0, .int .u64 0]) 3 40 Tryz.underlying33 hi3 ha3 hb3 hc3 hz3 (by decide) (.slice (some ⟨w.heap.size, 0, none⟩) 0 0) 0 [] rfl HO.out ad n c (cellsF F (n * 3)) rfl (cellsF_len _ _) HC.out.1 HC.out.2 (by unfold maxLen; omega) (by omega) hsz ?_; intro v' w2 hown hgrow _)
    go_ret
    have hF : Own w2 w.heap.size 46 3 v' n F := by
      unfold Own
      simpa using hown
    have hB : Below w.heap.size w w2 := hb1.grown hgrow hsz (fun k hk => by simp [Value.ownBlock] at hk; omega)
    obtain ⟨q, cc, rfl⟩ : ∃ q cc, v' = .slice q n cc := by
      rcases hF.form with ⟨e1, e2⟩ | ⟨g, cc, e1, _, _⟩
      · exact ⟨none, 0, by rw [e1, e2]⟩
      · exact ⟨_, _, e1⟩
    exact ⟨q, cc, rfl, hF, hB⟩
theorem cloneP_inf : (Tryz.prog.info? 93).map (fun i => (i.zero, i.size, i.bytes)) = some (some (.agg #[.int .i64 0, .int .i64 0, .slice none 0 0, .slice none 0 0]), 4, 64) := by kernel_rfl
theorem cloneP_yes (n c : Nat) (W : World) : (binOp .eql 22 (.slice none n c) (.slice none 0 0)).run Tryz.prog W = .ok (.bool true) W := by
  have := run_equal_slice_nil (P := Tryz.prog) W 22 93 none n c Tryz.underlying22
  simp [binOp, this]
theorem cloneP_no (ad : Addr) (n c : Nat) (W : World) : (binOp .eql 22 (.slice (some ad) n c) (.slice none 0 0)).run Tryz.prog W = .ok (.bool false) W := by
  have := run_equal_slice_nil (P := Tryz.prog) W 22 93 (some ad) n c Tryz.underlying22
  simp [binOp, this]
set_option maxRecDepth 100000 in
set_option maxHeartbeats 1000000 in
theorem cloneP_any (p : Option Addr) (n c : Nat) (F : Nat → Value) (w : World) (hn : n * 64 ≤ 140737488355328) (h : CIn w p n 4 F) (h1 : ∀ j, j < n * 4 → (F j).oneCell' = true) :
    Calls Tryz.prog 147 #[.slice p n c] w fun e w' => ∃ (q : Option Addr) (cc : Nat), e = .returned (.slice q n cc) ∧ Own w' w.heap.size 93 4 (.slice q n cc) n F ∧ Below w.heap.size w w' := by
  rcases p with _ | ad
  · have h0 : n = 0 := by
      rcases h with h | ⟨b, o, e, _⟩
      · exact h
      · cases e
    subst h0
    have hq := cloneP_yes 0 c
    go_enter Tryz.func147, Tryz.ntmps147
    go_wp2
    go_ret
    exact ⟨none, 0, rfl, own_nil0, Below.refl _ _⟩
  · have hq := cloneP_no ad n c
    obtain ⟨i3, hi3, ha3, hb3, hc3⟩ := sinfo cloneP_inf
    have hz3 : (.agg #[.int .i64 0, .int .i64 0, .slice none 0 0, .slice none 0 0] : Value).cells.size = 4 := rfl
    obtain ⟨w1, hw1⟩ : ∃ w1, w.alloc (.cells #[] 93) = w1 := ⟨_, rfl⟩
    have hO := own_news w 93 4 F
    have hb1 : Below w.heap.size w w1 := by rw [← hw1]; exact (Below.refl _ w).alloc (Nat.le_refl _) _
    rw [hw1] at hO
    have hc : ∀ j u, (cellsF F (n * 4))[j]? = some u → w1.cell? (ad.add j) = some u := fun j u hu => by
      have hj : j < n * 4 := by
        have := (List.getElem?_eq_some_iff.1 hu).1
        rwa [cellsF_len] at this
      rw [cellsF_at _ hj] at hu
      cases hu
      rcases h with e0 | ⟨b, o, e, hlt, hcc⟩
      · omega
      · cases e
        rw [addr_add]
        exact (cell_below hb1 hlt).trans (hcc j hj)
    have hone : ∀ u ∈ cellsF F (n * 4), u.oneCell' = true := fun u hu => by
      unfold cellsF at hu
      obtain ⟨j, hj, rfl⟩ := List.mem_map.1 hu
      exact h1 j (List.mem_range.1 hj)
    have HW : Hid (w.alloc (.cells #[] 93) = w1) := hw1
    have HO : Hid (w1.ownsRow w.heap.size 93 4 (.slice (some ⟨w.heap.size, 0, none⟩) 0 0) 0 []) := by
      have h9 : w1.ownsRow w.heap.size 93 4 (.slice (some ⟨w.heap.size, 0, none⟩) 0 0) 0 (cellsF F (0 * 4)) := hO
      rw [Nat.zero_mul] at h9
      exact h9
    have HC : Hid ((∀ j u, (cellsF F (n * 4))[j]? = some u → w1.cell? (ad.add j) = some u) ∧ ∀ u ∈ cellsF F (n * 4), u.oneCell' = true) := ⟨hc, hone⟩
    clear hO hw1 hc hone h h1
    have hsz := hb1.size
    go_enter Tryz.func147, Tryz.ntmps147
    go_wp2_with (at_builtin; rw [HW.out]; refine wpList_append_own _ rfl (.tmp 5) (.tmp 6) 22 rfl w.heap.size 93 i3 (.agg #[.int .i64 0, .int .i64 0, .slice none 0 0, .slice none 0 0]) 4 64 Tryz.underlying22 hi3 ha3 hb3 hc3 hz3 (by decide) (.slice (some ⟨w.heap.size, 0, none⟩) 0 0) 0 [] rfl HO.out ad n c (cellsF F (n * 4)) rfl (cellsF_len _ _) HC.out.1 HC.out.2 (by unfold maxLen; omega) (by omega) hsz ?_; intro v' w2 hown hgrow _)
    go_ret
    have hF : Own w2 w.heap.size 93 4 v' n F := by
      unfold Own
      simpa using hown
    have hB : Below w.heap.size w w2 := hb1.grown hgrow hsz (fun k hk => by simp [Value.ownBlock] at hk; omega)
    obtain ⟨q, cc, rfl⟩ : ∃ q cc, v' = .slice q n cc := by
      rcases hF.form with ⟨e1, e2⟩ | ⟨g, cc, e1, _, _⟩
      · exact ⟨none, 0, by rw [e1, e2]⟩
      · exact ⟨_, _, e1⟩
    exact ⟨q, cc, rfl, hF, hB⟩
theorem cloneI_inf : (Tryz.prog.info? 121).map (fun i => (i.zero, i.size, i.bytes)) = some (some (.agg #[.int .i64 0, .int .i64 0, .int .i64 0]), 3, 24) := by kernel_rfl
theorem cloneI_yes (n c : Nat) (W : World) : (binOp .eql 90 (.slice none n c) (.slice none 0 0)).run Tryz.prog W = .ok (.bool true) W := by
  have := run_equal_slice_nil (P := Tryz.prog) W 90 121 none n c Tryz.underlying90
  simp [binOp, this]
theorem cloneI_no (ad : Addr) (n c : Nat) (W : World) : (binOp .eql 90 (.slice (some ad) n c) (.slice none 0 0)).run Tryz.prog W = .ok (.bool false) W := by
  have := run_equal_slice_nil (P := Tryz.prog) W 90 121 (some ad) n c Tryz.underlying90
  simp [binOp, this]
set_option maxRecDepth 100000 in
set_option maxHeartbeats 1000000 in
theorem cloneI_any (p : Option Addr) (n c : Nat) (F : Nat → Value) (w : World) (hn : n * 24 ≤ 140737488355328) (h : CIn w p n 3 F) (h1 : ∀ j, j < n * 3 → (F j).oneCell' = true) :
    Calls Tryz.prog 148 #[.slice p n c] w fun e w' => ∃ (q : Option Addr) (cc : Nat), e = .returned (.slice q n cc) ∧ Own w' w.heap.size 121 3 (.slice q n cc) n F ∧ Below w.heap.size w w' := by
  rcases p with _ | ad
  · have h0 : n = 0 := by
      rcases h with h | ⟨b, o, e, _⟩
      · exact h
      · cases e
    subst h0
    have hq := cloneI_yes 0 c
    go_enter Tryz.func148, Tryz.ntmps148
    go_wp2
    go_ret
    exact ⟨none, 0, rfl, own_nil0, Below.refl _ _⟩
  · have hq := cloneI_no ad n c
    obtain ⟨i3, hi3, ha3, hb3, hc3⟩ := sinfo cloneI_inf
    have hz3 : (.agg #[.int .i64 0, .int .i64 0, .int .i64 0] : Value).cells.size = 3 := rfl
    obtain ⟨w1, hw1⟩ : ∃ w1, w.alloc (.cells #[] 121) = w1 := ⟨_, rfl⟩
    have hO := own_news w 121 3 F
    have hb1 : Below w.heap.size w w1 := by rw [← hw1]; exact (Below.refl _ w).alloc (Nat.le_refl _) _
    rw [hw1] at hO
    have hc : ∀ j u, (cellsF F (n * 3))[j]? = some u → w1.cell? (ad.add j) = some u := fun j u hu => by
      have hj : j < n * 3 := by
        have := (List.getElem?_eq_some_iff.1 hu).1
        rwa [cellsF_len] at this
      rw [cellsF_at _ hj] at hu
      cases hu
      rcases h with e0 | ⟨b, o, e, hlt, hcc⟩
      · omega
      · cases e
        rw [addr_add]
        exact (cell_below hb1 hlt).trans (hcc j hj)
    have hone : ∀ u ∈ cellsF F (n * 3), u.oneCell' = true := fun u hu => by
      unfold cellsF at hu
      obtain ⟨j, hj, rfl⟩ := List.mem_map.1 hu
      exact h1 j (List.mem_range.1 hj)
    have HW : Hid (w.alloc (.cells #[] 121) = w1) := hw1
    have HO : Hid (w1.ownsRow w.heap.size 121 3 (.slice (some ⟨w.heap.size, 0, none⟩) 0 0) 0 []) := by
      have h9 : w1.ownsRow w.heap.size 121 3 (.slice (some ⟨w.heap.size, 0, none⟩) 0 0) 0 (cellsF F (0 * 3)) := hO
      rw [Nat.zero_mul] at h9
      exact h9
    have HC : Hid ((∀ j u, (cellsF F (n * 3))[j]? = some u → w1.cell? (ad.add j) = some u) ∧ ∀ u ∈ cellsF F (n * 3), u.oneCell' = true) := ⟨hc, hone⟩
    clear hO hw1 hc hone h h1
    have hsz := hb1.size
    go_enter Tryz.func148, Tryz.ntmps148
    go_wp2_with (at_builtin; rw [HW.out]; refine wpList_append_own _ rfl (.tmp 5) (.tmp 6) 90 rfl w.heap.size 121 i3 (.agg #[.int .i64 0, .int .i64 0, .int .i64 0]) 3 24 Tryz.underlying90 hi3 ha3 hb3 hc3 hz3 (by decide) (.slice (some ⟨w.heap.size, 0, none⟩) 0 0) 0 [] rfl HO.out ad n c (cellsF F (n * 3)) rfl (cellsF_len _ _) HC.out.1 HC.out.2 (by unfold maxLen; omega) (by omega) hsz ?_; intro v' w2 hown hgrow _)
    go_ret
    have hF : Own w2 w.heap.size 121 3 v' n F := by
      unfold Own
      simpa using hown
    have hB : Below w.heap.size w w2 := hb1.grown hgrow hsz (fun k hk => by simp [Value.ownBlock] at hk; omega)
    obtain ⟨q, cc, rfl⟩ : ∃ q cc, v' = .slice q n cc := by
      rcases hF.form with ⟨e1, e2⟩ | ⟨g, cc, e1, _, _⟩
      · exact ⟨none, 0, by rw [e1, e2]⟩
      · exact ⟨_, _, e1⟩
    exact ⟨q, cc, rfl, hF, hB⟩
theorem cloneN_inf : (Tryz.prog.info? 3).map (fun i => (i.zero, i.size, i.bytes)) = some (some (.int .i64 0), 1, 8) := by kernel_rfl
theorem cloneN_yes (n c : Nat) (W : World) : (binOp .eql 91 (.slice none n c) (.slice none 0 0)).run Tryz.prog W = .ok (.bool true) W := by
  have := run_equal_slice_nil (P := Tryz.prog) W 91 3 none n c Tryz.underlying91
  simp [binOp, this]
theorem cloneN_no (ad : Addr) (n c : Nat) (W : World) : (binOp .eql 91 (.slice (some ad) n c) (.slice none 0 0)).run Tryz.prog W = .ok (.bool false) W := by
  have := run_equal_slice_nil (P := Tryz.prog) W 91 3 (some ad) n c Tryz.underlying91
  simp [binOp, this]
set_option maxRecDepth 100000 in
set_option maxHeartbeats 1000000 in
theorem cloneN_any (p : Option Addr) (n c : Nat) (F : Nat → Value) (w : World) (hn : n * 8 ≤ 140737488355328) (h : CIn w p n 1 F) (h1 : ∀ j, j < n * 1 → (F j).oneCell' = true) :
    Calls Tryz.prog 149 #[.slice p n c] w fun e w' => ∃ (q : Option Addr) (cc : Nat), e = .returned (.slice q n cc) ∧ Own w' w.heap.size 3 1 (.slice q n cc) n F ∧ Below w.heap.size w w' := by
  rcases p with _ | ad
  · have h0 : n = 0 := by
      rcases h with h | ⟨b, o, e, _⟩
      · exact h
      · cases e
    subst h0
    have hq := cloneN_yes 0 c
    go_enter Tryz.func149, Tryz.ntmps149
    go_wp2
    go_ret
    exact ⟨none, 0, rfl, own_nil0, Below.refl _ _⟩
  · have hq := cloneN_no ad n c
    obtain ⟨i3, hi3, ha3, hb3, hc3⟩ := sinfo cloneN_inf
    have hz3 : (.int .i64 0 : Value).cells.size = 1 := rfl
    obtain ⟨w1, hw1⟩ : ∃ w1, w.alloc (.cells #[] 3) = w1 := ⟨_, rfl⟩
    have hO := own_news w 3 1 F
    have hb1 : Below w.heap.size w w1 := by rw [← hw1]; exact (Below.refl _ w).alloc (Nat.le_refl _) _
    rw [hw1] at hO
    have hc : ∀ j u, (cellsF F (n * 1))[j]? = some u → w1.cell? (ad.add j) = some u := fun j u hu => by
      have hj : j < n * 1 := by
        have := (List.getElem?_eq_some_iff.1 hu).1
        rwa [cellsF_len] at this
      rw [cellsF_at _ hj] at hu
      cases hu
      rcases h with e0 | ⟨b, o, e, hlt, hcc⟩
      · omega
      · cases e
        rw [addr_add]
        exact (cell_below hb1 hlt).trans (hcc j hj)
    have hone : ∀ u ∈ cellsF F (n * 1), u.oneCell' = true := fun u hu => by
      unfold cellsF at hu
      obtain ⟨j, hj, rfl⟩ := List.mem_map.1 hu
      exact h1 j (List.mem_range.1 hj)
    have HW : Hid (w.alloc (.cells #[] 3) = w1) := hw1
    have HO : Hid (w1.ownsRow w.heap.size 3 1 (.slice (some ⟨w.heap.size, 0, none⟩) 0 0) 0 []) := by
      have h9 : w1.ownsRow w.heap.size 3 1 (.slice (some ⟨w.heap.size, 0, none⟩) 0 0) 0 (cellsF F (0 * 1)) := hO
      rw [Nat.zero_mul] at h9
      exact h9
    have HC : Hid ((∀ j u, (cellsF F (n * 1))[j]? = some u → w1.cell? (ad.add j) = some u) ∧ ∀ u ∈ cellsF F (n * 1), u.oneCell' = true) := ⟨hc, hone⟩
    clear hO hw1 hc hone h h1
    have hsz := hb1.size
    go_enter Tryz.func149, Tryz.ntmps149
    go_wp2_with (at_builtin; rw [HW.out]; refine wpList_append_own _ rfl (.tmp 5) (.tmp 6) 91 rfl w.heap.size 3 i3 (.int .i64 0) 1 8 Tryz.underlying91 hi3 ha3 hb3 hc3 hz3 (by decide) (.slice (some ⟨w.heap.size, 0, none⟩) 0 0) 0 [] rfl HO.out ad n c (cellsF F (n * 1)) rfl (cellsF_len _ _) HC.out.1 HC.out.2 (by unfold maxLen; omega) (by omega) hsz ?_; intro v' w2 hown hgrow _)
    go_ret
    have hF : Own w2 w.heap.size 3 1 v' n F := by
      unfold Own
      simpa using hown
    have hB : Below w.heap.size w w2 := hb1.grown hgrow hsz (fun k hk => by simp [Value.ownBlock] at hk; omega)
    obtain ⟨q, cc, rfl⟩ : ∃ q cc, v' = .slice q n cc := by
      rcases hF.form with ⟨e1, e2⟩ | ⟨g, cc, e1, _, _⟩
      · exact ⟨none, 0, by rw [e1, e2]⟩
      · exact ⟨_, _, e1⟩
    exact ⟨q, cc, rfl, hF, hB⟩
end Go.Proofs.YtagchghhpggnlaaGreat
