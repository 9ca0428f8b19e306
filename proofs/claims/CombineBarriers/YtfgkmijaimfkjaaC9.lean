import Derived.Test.YtfgkmijaimfkjaaC8
namespace Go.Proofs.Ytfgkmijaimfkjaa
open Go.ChangeShapes Go.WideShapes Go.ChangeAt Go.RowKit
set_option linter.unusedVariables false
set_option linter.unusedSimpArgs false

theorem infoW6 : (Try.prog.info? 190).map (fun i => (i.zero, i.size, i.bytes)) = some (some (.agg #[.int .i64 0, .int .i64 0, .int .i64 0]), 3, 24) := by kernel_rfl
theorem infoC6 : (Try.prog.info? 144).map (fun i => (i.zero, i.size, i.bytes)) = some (some (.agg #[.bool false, .bool false, .int .i64 0, .int .i64 0]), 4, 24) := by kernel_rfl
theorem madeN (cs : Array Value) (n s j : Nat) (hs : cs.size = s) (h0 : 0 < s) (hj : j < n * s) : (madeCells (Value.agg cs).cells (n * s)).toList.getD j undef = cs.getD (j % s) undef := by
  unfold madeCells
  have h6 : (Value.agg cs).cells = cs := rfl
  have : j % s < s := Nat.mod_lt _ h0
  have h7 : j % s < cs.size := by omega
  rw [h6]
  simp [hj, hs]
  rw [getElem!_pos cs (j % s) h7, Array.getElem?_eq_getElem h7]
  rfl
theorem wkNew (n j : Nat) (hj : j < n * 3) : (madeCells (Value.agg #[.int .i64 0, .int .i64 0, .int .i64 0]).cells (n * 3)).toList.getD j undef = wkF Nt.new j := by
  rw [madeN _ n 3 j rfl (by decide) hj]
  unfold wkF
  have h : j % 3 = 0 ∨ j % 3 = 1 ∨ j % 3 = 2 := by omega
  rcases h with h | h | h <;> rw [h] <;> rfl
theorem clNew (n j : Nat) (hj : j < n * 4) : (madeCells (Value.agg #[.bool false, .bool false, .int .i64 0, .int .i64 0]).cells (n * 4)).toList.getD j undef = clF Nt.new j := by
  rw [madeN _ n 4 j rfl (by decide) hj]
  unfold clF
  have h : j % 4 = 0 ∨ j % 4 = 1 ∨ j % 4 = 2 ∨ j % 4 = 3 := by omega
  rcases h with h | h | h | h <;> rw [h] <;> rfl
theorem nnewA (W : World) (n : Nat) (jv : Value) (hn : n ≤ maxLen) : NW W.heap.size (W.heap.size + 1 + 1) W.heap.size (W.heap.size + 1) n jv Nt.new (((W.alloc (.cells (zA (.agg #[.int .i64 0, .int .i64 0, .int .i64 0]) n 3) 190)).alloc (.cells (zA (.agg #[.bool false, .bool false, .int .i64 0, .int .i64 0]) n 4) 144)).alloc (.cells #[jv, .slice (some ⟨W.heap.size, 0, none⟩) n n, .slice (some ⟨W.heap.size + 1, 0, none⟩) n n] 133)).drew ∧ Below W.heap.size W (((W.alloc (.cells (zA (.agg #[.int .i64 0, .int .i64 0, .int .i64 0]) n 3) 190)).alloc (.cells (zA (.agg #[.bool false, .bool false, .int .i64 0, .int .i64 0]) n 4) 144)).alloc (.cells #[jv, .slice (some ⟨W.heap.size, 0, none⟩) n n, .slice (some ⟨W.heap.size + 1, 0, none⟩) n n] 133)).drew := by
  have o1 := own_new W 190 (.agg #[.int .i64 0, .int .i64 0, .int .i64 0]) n 3 hn
  have s1 : (W.alloc (.cells (zA (.agg #[.int .i64 0, .int .i64 0, .int .i64 0]) n 3) 190)).heap.size = W.heap.size + 1 := World.size_alloc _ _
  have b1 : Below W.heap.size W (W.alloc (.cells (zA (.agg #[.int .i64 0, .int .i64 0, .int .i64 0]) n 3) 190)) := (Below.refl _ W).alloc (Nat.le_refl _) _
  generalize (W.alloc (.cells (zA (.agg #[.int .i64 0, .int .i64 0, .int .i64 0]) n 3) 190)) = w1 at o1 s1 b1 ⊢
  have o2 := own_new w1 144 (.agg #[.bool false, .bool false, .int .i64 0, .int .i64 0]) n 4 hn
  have b2 : Below w1.heap.size w1 (w1.alloc (.cells (zA (.agg #[.bool false, .bool false, .int .i64 0, .int .i64 0]) n 4) 144)) := (Below.refl _ w1).alloc (Nat.le_refl _) _
  have s2 : (w1.alloc (.cells (zA (.agg #[.bool false, .bool false, .int .i64 0, .int .i64 0]) n 4) 144)).heap.size = w1.heap.size + 1 := World.size_alloc _ _
  generalize (w1.alloc (.cells (zA (.agg #[.bool false, .bool false, .int .i64 0, .int .i64 0]) n 4) 144)) = w2 at o2 s2 b2 ⊢
  rw [s1] at o2 s2
  have b3 : Below w2.heap.size w2 (w2.alloc (.cells #[jv, .slice (some ⟨W.heap.size, 0, none⟩) n n, .slice (some ⟨W.heap.size + 1, 0, none⟩) n n] 133)).drew := ((Below.refl _ w2).alloc (Nat.le_refl _) _).trans ⟨rfl, rfl, rfl, Nat.le_refl _, fun _ _ => rfl⟩
  refine ⟨⟨?_, ((o1.congr fun j hj => wkNew n j hj).later b2).later b3, ((o2.congr fun j hj => clNew n j hj).later b3).lower (by omega), by omega⟩, (b1.trans (b2.mono (by omega))).trans (b3.mono (by omega))⟩
  show (w2.alloc _).heap[W.heap.size + 1 + 1]? = _
  rw [← s2]
  exact World.alloc_heap_new w2 _
theorem nnewB (W : World) (n : Nat) (jv : Value) (hn : n ≤ maxLen) : NW W.heap.size (W.heap.size + 1 + 1) (W.heap.size + 1) W.heap.size n jv Nt.new (((W.alloc (.cells (zA (.agg #[.bool false, .bool false, .int .i64 0, .int .i64 0]) n 4) 144)).alloc (.cells (zA (.agg #[.int .i64 0, .int .i64 0, .int .i64 0]) n 3) 190)).alloc (.cells #[jv, .slice (some ⟨W.heap.size + 1, 0, none⟩) n n, .slice (some ⟨W.heap.size, 0, none⟩) n n] 133)).drew ∧ Below W.heap.size W (((W.alloc (.cells (zA (.agg #[.bool false, .bool false, .int .i64 0, .int .i64 0]) n 4) 144)).alloc (.cells (zA (.agg #[.int .i64 0, .int .i64 0, .int .i64 0]) n 3) 190)).alloc (.cells #[jv, .slice (some ⟨W.heap.size + 1, 0, none⟩) n n, .slice (some ⟨W.heap.size, 0, none⟩) n n] 133)).drew := by
  have o1 := own_new W 144 (.agg #[.bool false, .bool false, .int .i64 0, .int .i64 0]) n 4 hn
  have s1 : (W.alloc (.cells (zA (.agg #[.bool false, .bool false, .int .i64 0, .int .i64 0]) n 4) 144)).heap.size = W.heap.size + 1 := World.size_alloc _ _
  have b1 : Below W.heap.size W (W.alloc (.cells (zA (.agg #[.bool false, .bool false, .int .i64 0, .int .i64 0]) n 4) 144)) := (Below.refl _ W).alloc (Nat.le_refl _) _
  generalize (W.alloc (.cells (zA (.agg #[.bool false, .bool false, .int .i64 0, .int .i64 0]) n 4) 144)) = w1 at o1 s1 b1 ⊢
  have o2 := own_new w1 190 (.agg #[.int .i64 0, .int .i64 0, .int .i64 0]) n 3 hn
  have b2 : Below w1.heap.size w1 (w1.alloc (.cells (zA (.agg #[.int .i64 0, .int .i64 0, .int .i64 0]) n 3) 190)) := (Below.refl _ w1).alloc (Nat.le_refl _) _
  have s2 : (w1.alloc (.cells (zA (.agg #[.int .i64 0, .int .i64 0, .int .i64 0]) n 3) 190)).heap.size = w1.heap.size + 1 := World.size_alloc _ _
  generalize (w1.alloc (.cells (zA (.agg #[.int .i64 0, .int .i64 0, .int .i64 0]) n 3) 190)) = w2 at o2 s2 b2 ⊢
  rw [s1] at o2 s2
  have b3 : Below w2.heap.size w2 (w2.alloc (.cells #[jv, .slice (some ⟨W.heap.size + 1, 0, none⟩) n n, .slice (some ⟨W.heap.size, 0, none⟩) n n] 133)).drew := ((Below.refl _ w2).alloc (Nat.le_refl _) _).trans ⟨rfl, rfl, rfl, Nat.le_refl _, fun _ _ => rfl⟩
  refine ⟨⟨?_, ((o2.congr fun j hj => wkNew n j hj).later b3).lower (by omega), ((o1.congr fun j hj => clNew n j hj).later b2).later b3, by omega⟩, (b1.trans (b2.mono (by omega))).trans (b3.mono (by omega))⟩
  show (w2.alloc _).heap[W.heap.size + 1 + 1]? = _
  rw [← s2]
  exact World.alloc_heap_new w2 _
set_option maxRecDepth 100000 in
theorem nnew_bad (x : Int) (h : x < 1 ∨ 64 < x) (jv : Value) (W : World) : Calls Try.prog 18 #[.int .i64 x, jv] W fun e W' => e = .returned (.tuple #[.pointer none, .int .i64 100]) ∧ W' = W := by
  by_cases h1 : x < 1
  · have d1 : decide (x < 1) = true := by simpa using h1
    go_enter Try.func18, Try.ntmps18
    go_wp2
    go_returns
    exact ⟨rfl, rfl⟩
  · have d1 : decide (x < 1) = false := by simpa using h1
    have d2 : decide (64 < x) = true := by simp; omega
    go_enter Try.func18, Try.ntmps18
    go_wp2
    go_returns
    exact ⟨rfl, rfl⟩
set_option maxRecDepth 100000 in
set_option maxHeartbeats 4000000 in
theorem nnew_any (n : Nat) (h1 : 1 ≤ n) (h2 : n ≤ 64) (f : Nat) (caps : Array Value) (W : World) : Calls Try.prog 18 #[.int .i64 (n : Int), .func (.func f) #[] caps] W fun e W' => ∃ hb wb cb, e = .returned (.tuple #[.pointer (some ⟨hb, 0, none⟩), .int .i64 0]) ∧ NW W.heap.size hb wb cb n (.func (.func f) #[] caps) Nt.new W' ∧ Below W.heap.size W W' := by
  have d1 : decide ((n : Int) < 1) = false := by simp; omega
  have d2 : decide (64 < (n : Int)) = false := by simp; omega
  obtain ⟨iW, hW1, hW2, hW3, hW4⟩ := binfo infoW6
  obtain ⟨iC, hC1, hC2, hC3, hC4⟩ := binfo infoC6
  have en : ∀ w : World, (binOp .eql 64 (Value.func (.func f) #[] caps) Value.nilFunc).run Try.prog w = .ok (.bool false) w := fun w => rfl
  have rW : ∀ w : World, (Instr.makeSlice 130 (.int .i64 (n : Int)) (.int .i64 (n : Int))).run Try.prog w = .ok (.slice (some ⟨w.heap.size, 0, none⟩) n n) (w.alloc (.cells (zA (.agg #[.int .i64 0, .int .i64 0, .int .i64 0]) n 3) 190)) := run_make_eq _ _ iW _ 3 Try.underlying130 hW1 hW2 hW3 n (by rw [hW4]; omega) (by omega)
  have rC : ∀ w : World, (Instr.makeSlice 131 (.int .i64 (n : Int)) (.int .i64 (n : Int))).run Try.prog w = .ok (.slice (some ⟨w.heap.size, 0, none⟩) n n) (w.alloc (.cells (zA (.agg #[.bool false, .bool false, .int .i64 0, .int .i64 0]) n 4) 144)) := run_make_eq _ _ iC _ 4 Try.underlying131 hC1 hC2 hC3 n (by rw [hC4]; omega) (by omega)
  have hm : n ≤ maxLen := by unfold maxLen; omega
  clear hW1 hW2 hW3 hW4 hC1 hC2 hC3 hC4
  go_enter Try.func18, Try.ntmps18
  go_wp2
  go_region
  · go_wp2
    go_returns
    exact ⟨_, _, _, rfl, nnewA W n _ hm⟩
  · go_wp2
    go_returns
    exact ⟨_, _, _, rfl, nnewB W n _ hm⟩
set_option maxRecDepth 100000 in
set_option maxHeartbeats 4000000 in
theorem nnew_nil (n : Nat) (h1 : 1 ≤ n) (h2 : n ≤ 64) (W : World) : Calls Try.prog 18 #[.int .i64 (n : Int), .nilFunc] W fun e W' => ∃ hb wb cb, e = .returned (.tuple #[.pointer (some ⟨hb, 0, none⟩), .int .i64 0]) ∧ NW W.heap.size hb wb cb n (.func (.func 56) #[] #[]) Nt.new W' ∧ Below W.heap.size W W' := by
  have d1 : decide ((n : Int) < 1) = false := by simp; omega
  have d2 : decide (64 < (n : Int)) = false := by simp; omega
  obtain ⟨iW, hW1, hW2, hW3, hW4⟩ := binfo infoW6
  obtain ⟨iC, hC1, hC2, hC3, hC4⟩ := binfo infoC6
  have en : ∀ w : World, (binOp .eql 64 Value.nilFunc Value.nilFunc).run Try.prog w = .ok (.bool true) w := fun w => rfl
  have rW : ∀ w : World, (Instr.makeSlice 130 (.int .i64 (n : Int)) (.int .i64 (n : Int))).run Try.prog w = .ok (.slice (some ⟨w.heap.size, 0, none⟩) n n) (w.alloc (.cells (zA (.agg #[.int .i64 0, .int .i64 0, .int .i64 0]) n 3) 190)) := run_make_eq _ _ iW _ 3 Try.underlying130 hW1 hW2 hW3 n (by rw [hW4]; omega) (by omega)
  have rC : ∀ w : World, (Instr.makeSlice 131 (.int .i64 (n : Int)) (.int .i64 (n : Int))).run Try.prog w = .ok (.slice (some ⟨w.heap.size, 0, none⟩) n n) (w.alloc (.cells (zA (.agg #[.bool false, .bool false, .int .i64 0, .int .i64 0]) n 4) 144)) := run_make_eq _ _ iC _ 4 Try.underlying131 hC1 hC2 hC3 n (by rw [hC4]; omega) (by omega)
  have hm : n ≤ maxLen := by unfold maxLen; omega
  clear hW1 hW2 hW3 hW4 hC1 hC2 hC3 hC4
  go_enter Try.func18, Try.ntmps18
  go_wp2
  go_region
  · go_wp2
    go_returns
    exact ⟨_, _, _, rfl, nnewA W n _ hm⟩
  · go_wp2
    go_returns
    exact ⟨_, _, _, rfl, nnewB W n _ hm⟩
end Go.Proofs.Ytfgkmijaimfkjaa
