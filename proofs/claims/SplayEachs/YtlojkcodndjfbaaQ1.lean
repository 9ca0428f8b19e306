import Derived.Test.YtlojkcodndjfbaaQ0
namespace Go.Proofs.Ytlojkcodndjfbaa
open Go.ChangeShapes Go.WideShapes Go.ChangeAt Go.RowKit
set_option linter.unusedVariables false

theorem qinfo {i? : Option TypeInfo} {z : Value} {s b : Nat} (h : i?.map (fun i => (i.zero, i.size, i.bytes)) = some (some z, s, b)) : ∃ i, i? = some i ∧ i.zero = some z ∧ i.size = s ∧ i.bytes = b := by
  cases i? with
  | none => cases h
  | some i =>
    simp at h
    exact ⟨i, rfl, h.1, h.2.1, h.2.2⟩
theorem infoND : (Try.prog.info? 77).map (fun i => (i.zero, i.size, i.bytes)) = some (some (.agg #[.int .u64 0, .int .i64 0, .int .u64 0, .int .i64 0, .int .i64 0, .int .i64 0, .int .i64 0, .int .i64 0]), 8, 64) := by kernel_rfl
theorem infoEV : (Try.prog.info? 27).map (fun i => (i.zero, i.size, i.bytes)) = some (some (.agg #[.int .u64 0, .int .i64 0, .int .u64 0, .int .i64 0, .int .i64 0, .int .i64 0]), 6, 48) := by kernel_rfl
def zNd (j : Nat) : Value := if j % 8 = 0 ∨ j % 8 = 2 then .int .u64 0 else .int .i64 0
theorem zND (n j : Nat) (hj : j < n * 8) : (madeCells (Value.agg #[.int .u64 0, .int .i64 0, .int .u64 0, .int .i64 0, .int .i64 0, .int .i64 0, .int .i64 0, .int .i64 0]).cells (n * 8)).toList.getD j undef = zNd j := by
  have h6 : (Value.agg #[.int .u64 0, .int .i64 0, .int .u64 0, .int .i64 0, .int .i64 0, .int .i64 0, .int .i64 0, .int .i64 0]).cells.size = 8 := rfl
  have hm : j % 8 = 0 ∨ j % 8 = 1 ∨ j % 8 = 2 ∨ j % 8 = 3 ∨ j % 8 = 4 ∨ j % 8 = 5 ∨ j % 8 = 6 ∨ j % 8 = 7 := by omega
  unfold madeCells zNd
  simp [hj, h6]
  rcases hm with h | h | h | h | h | h | h | h <;> rw [h] <;> rfl
set_option maxRecDepth 100000 in
set_option maxHeartbeats 4000000 in
theorem q_new (room : Int) (h1 : 1 ≤ room) (h2 : room ≤ 8192) (w : World) :
    Calls Try.prog 11 #[.int .i64 room] w fun e w' => ∃ qb nb, e = .returned (.tuple #[.pointer (some ⟨qb, 0, none⟩), .int .i64 0]) ∧ w'.heap[qb]? = some (.cells #[.slice (some ⟨nb, 0, none⟩) 1 1, .int .i64 0, .int .i64 0, .int .i64 0, .int .i64 room, .int .i64 0] 65 (0, 0)) ∧ Own w' w.heap.size 77 8 (.slice (some ⟨nb, 0, none⟩) 1 1) 1 zNd ∧ qb ≠ nb ∧ w.heap.size ≤ qb ∧ Below w.heap.size w w' := by
  have d1 : decide (room < 1) = false := by simp; omega
  have d2 : decide (8192 < room) = false := by simp; omega
  obtain ⟨i8, hi8, ha8, hb8, hc8⟩ := qinfo infoND
  go_enter Try.func11, Try.ntmps11
  go_wp2_with (at_make; refine wpList_make_full _ rfl (.const (.int .i64 1)) (.const (.int .i64 1)) 63 rfl w.heap.size 77 i8 _ 8 Try.underlying63 hi8 ha8 hb8 .i64 .i64 1 1 1 rfl rfl rfl rfl ?c1 ?c2 ?c3 ?_)
  case c1 => rw [hc8]; omega
  case c2 => unfold maxLen; omega
  case c3 => exact Nat.le_refl _
  intro w1 hown hgrow
  have hb1 : Below w.heap.size w w1 := (Below.refl _ _).grown hgrow (Nat.le_refl _) (by simp)
  have hO : Own w1 w.heap.size 77 8 (.slice (some ⟨w.heap.size, 0, none⟩) 1 1) 1 zNd := (own_of_row hown).congr fun j hj => zND 1 j hj
  have hlt := (Own.lt hO w.heap.size rfl).2
  clear hown hgrow
  go_wp2
  refine bodyPost_ret (v := .tuple #[.pointer (some ⟨w1.heap.size, 0, none⟩), .int .i64 0]) (by simp [results, Try.results11, go_sem]) rfl ?_
  refine ⟨_, _, rfl, World.alloc_heap_new w1 _, hO.later ((Below.refl _ w1).alloc (Nat.le_refl _) _), by omega, by omega, hb1.alloc (by omega) _⟩
set_option maxRecDepth 100000 in
set_option maxHeartbeats 4000000 in
theorem q_newBad (room : Int) (h1 : room < 1 ∨ 8192 < room) (w : World) :
    Calls Try.prog 11 #[.int .i64 room] w fun e w' => e = .returned (.tuple #[.pointer none, .int .i64 84]) ∧ w' = w := by
  by_cases h : room < 1
  · have d1 : decide (room < 1) = true := by simpa using h
    go_enter Try.func11, Try.ntmps11
    go_wp2
    exact bodyPost_ret (v := .tuple #[.pointer none, .int .i64 84]) (by simp [results, Try.results11, go_sem]) rfl ⟨rfl, rfl⟩
  · have d1 : decide (room < 1) = false := by simpa using h
    have d2 : decide (8192 < room) = true := by simp; omega
    go_enter Try.func11, Try.ntmps11
    go_wp2
    exact bodyPost_ret (v := .tuple #[.pointer none, .int .i64 84]) (by simp [results, Try.results11, go_sem]) rfl ⟨rfl, rfl⟩
set_option maxRecDepth 100000 in
set_option maxHeartbeats 4000000 in
/-- a list as an answer: a copy, cut behind its end -/
theorem q_handed (p : Option Addr) (n c : Nat) (G : Nat → Value) (w : World) (hn : n ≤ 8192) (h1 : ∀ j, (G j).oneCell' = true) (hsrc : n = 0 ∨ ∃ b o, p = some ⟨b, o, none⟩ ∧ b < w.heap.size ∧ ∀ j, j < n * 6 → w.cell? ⟨b, o + j, none⟩ = some (G j)) :
    Calls Try.prog 31 #[.slice p n c] w fun e w' => ∃ b, e = .returned (.slice (some ⟨b, 0, none⟩) n n) ∧ Own w' w.heap.size 27 6 (.slice (some ⟨b, 0, none⟩) n n) n G ∧ Below w.heap.size w w' := by
  obtain ⟨i6, hi6, ha6, hb6, hc6⟩ := qinfo infoEV
  have hsz : (Try.prog.info? 27).map (·.size) = some 6 := by simp [hi6, hb6]
  have HS : Hid (n = 0 ∨ ∃ b o, p = some ⟨b, o, none⟩ ∧ b < w.heap.size ∧ ∀ j, j < n * 6 → w.cell? ⟨b, o + j, none⟩ = some (G j)) := hsrc
  clear hsrc
  go_enter Try.func31, Try.ntmps31
  go_wp2_with (at_make; refine wpList_make_full _ rfl (.tmp 5) (.tmp 5) 22 rfl w.heap.size 27 i6 _ 6 Try.underlying22 hi6 ha6 hb6 .i64 .i64 n n n rfl rfl rfl rfl ?c1 ?c2 ?c3 ?_)
  case c1 => rw [hc6]; omega
  case c2 => unfold maxLen; omega
  case c3 => exact Nat.le_refl _
  intro w1 hown hgrow
  have hb1 : Below w.heap.size w w1 := (Below.refl _ _).grown hgrow (Nat.le_refl _) (by simp)
  have hO := own_of_row hown
  have hs2 : n = 0 ∨ ∃ ad, p = some ad ∧ ∀ j, j < n * 6 → w1.cell? (ad.add j) = some (G j) := by
    rcases HS.out with h | ⟨b, o, hp, hb, hc⟩
    · exact .inl h
    · exact .inr ⟨_, hp, fun j hj => by rw [addr_add0]; exact (cell_below (a := ⟨b, o + j, none⟩) hb1 hb).trans (hc j hj)⟩
  have HB1 : Hid (Below w.heap.size w w1) := hb1
  clear hown hgrow hb1
  go_wp2_with (refine wpList_copy_head rfl (.tmp 7) (.tmp 8) 22 22 rfl 27 6 Try.underlying22 hsz w.heap.size w.heap.size n n n c p rfl rfl (Nat.le_refl _) _ G hO (fun j _ => h1 j) hs2 w.heap.size w HB1.out (Nat.le_refl _) ?_; intro w2 hO2 hB2)
  have hO3 : Own w2 w.heap.size 27 6 (.slice (some ⟨w.heap.size, 0, none⟩) n n) n G := hO2.out.congr fun j hj => by rw [if_pos hj]
  go_wp2
  go_ret
  exact ⟨_, rfl, hO3, hB2⟩
end Go.Proofs.Ytlojkcodndjfbaa
