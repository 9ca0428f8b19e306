import Derived.Test.YtkncalocpnkegaaQ1
namespace Go.Proofs.Ytkncalocpnkegaa
open Go.ChangeShapes Go.WideShapes Go.ChangeAt Go.RowKit
set_option linter.unusedVariables false

theorem q6 {W : World} {b : Nat} {c0 c1 c2 c3 c4 c5 : Value} {t : TypeId} (h : W.heap[b]? = some (.cells #[c0, c1, c2, c3, c4, c5] t (0, 0))) : W.cell? ⟨b, 0, none⟩ = some c0 ∧ W.cell? ⟨b, 1, none⟩ = some c1 ∧ W.cell? ⟨b, 2, none⟩ = some c2 ∧ W.cell? ⟨b, 3, none⟩ = some c3 ∧ W.cell? ⟨b, 4, none⟩ = some c4 ∧ W.cell? ⟨b, 5, none⟩ = some c5 := by
  refine ⟨?_, ?_, ?_, ?_, ?_, ?_⟩
  all_goals (unfold World.cell?; rw [h]; rfl)
/-- the six words of a queue lie at qb -/
def QAt (W : World) (qb : Nat) (v : Value) (free root size room work : Int) : Prop := W.heap[qb]? = some (.cells #[v, .int .i64 free, .int .i64 root, .int .i64 size, .int .i64 room, .int .i64 work] 63 (0, 0))
theorem q_size (qb : Nat) (v : Value) (f r s m k : Int) (w : World) (h : QAt w qb v f r s m k) : Calls Try.prog 10 #[.pointer (some ⟨qb, 0, none⟩)] w fun e w' => e = .returned (.int .i64 s) ∧ w' = w := by
  obtain ⟨c0, c1, c2, c3, c4, c5⟩ := q6 h
  go_enter Try.func10, Try.ntmps10
  go_wp2
  go_ret
  exact ⟨rfl, rfl⟩
theorem q_work (qb : Nat) (v : Value) (f r s m k : Int) (w : World) (h : QAt w qb v f r s m k) : Calls Try.prog 12 #[.pointer (some ⟨qb, 0, none⟩)] w fun e w' => e = .returned (.int .i64 k) ∧ w' = w := by
  obtain ⟨c0, c1, c2, c3, c4, c5⟩ := q6 h
  go_enter Try.func12, Try.ntmps12
  go_wp2
  go_ret
  exact ⟨rfl, rfl⟩
theorem q_room (qb : Nat) (v : Value) (f r s m k : Int) (w : World) (h : QAt w qb v f r s m k) (hs : 0 ≤ s ∧ s ≤ m ∧ m ≤ 8192) : Calls Try.prog 11 #[.pointer (some ⟨qb, 0, none⟩)] w fun e w' => e = .returned (.int .i64 (m - s)) ∧ Below w.heap.size w w' := by
  obtain ⟨c0, c1, c2, c3, c4, c5⟩ := q6 h
  have e1 : IntKind.i64.wrap (m - s) = m - s := by rw [IntKind.wrap_i64]; omega
  go_enter Try.func11, Try.ntmps11
  go_wp2
  go_quiet (fail)
  go_wp2
  go_ret
  exact ⟨rfl, below_drewNq _ _ _⟩
set_option maxRecDepth 100000 in
set_option maxHeartbeats 4000000 in
theorem q_walk0 (q f : Value) (w : World) : Calls Try.prog 27 #[q, .int .i64 0, f] w fun e w' => e = .returned (.tuple #[]) ∧ Below w.heap.size w w' := by
  go_enter Try.func27, Try.ntmps27
  go_wp2
  go_loopw [6] (fun x wr => x = .slice none 0 0 ∧ wr.cell? ⟨w.heap.size, 0, none⟩ = some (.int .i64 0) ∧ Below w.heap.size w wr) (fun _ _ => 0)
  case atStart => exact ⟨rfl, by unfold World.cell?; rw [World.alloc_heap_new]; rfl, (Below.refl _ w).alloc (Nat.le_refl _) _⟩
  case round =>
    obtain ⟨rfl, hc, hbr⟩ := hrel
    go_wp2
    go_loopw [6] (fun x wr => x = .slice none 0 0 ∧ wr.cell? ⟨w.heap.size, 0, none⟩ = some (.int .i64 0) ∧ Below w.heap.size w wr) (fun _ _ => 0)
    case atStart => exact ⟨rfl, hc, hbr⟩
    case round =>
      obtain ⟨rfl, hc, hbr⟩ := hrel
      go_wp2
      refine bodyPost_ret (v := .tuple #[]) (by simp [results, Try.results27, go_sem]) rfl ?_
      exact ⟨rfl, hbr⟩
set_option maxRecDepth 100000 in
set_option maxHeartbeats 4000000 in
theorem q_depths0 (qb : Nat) (v : Value) (f s m k : Int) (w : World) (h : QAt w qb v f 0 s m k) : Calls Try.prog 14 #[.pointer (some ⟨qb, 0, none⟩)] w fun e w' => e = .returned (.slice none 0 0) ∧ Below w.heap.size w w' := by
  obtain ⟨w1, hw1⟩ : ∃ w1, (w.alloc (.cells #[.slice none 0 0] 29)) = w1 := ⟨_, rfl⟩
  have hlt := lt_of_block h
  have hb : Below w.heap.size w w1 := by rw [← hw1]; exact (Below.refl _ w).alloc (Nat.le_refl _) _
  have hh : w1.heap[w.heap.size]? = some (.cells #[.slice none 0 0] 29 (0, 0)) := by rw [← hw1]; exact World.alloc_heap_new w _
  have hl1 := lt_of_block hh
  obtain ⟨c0, c1, c2, c3, c4, c5⟩ := q6 ((hb.block _ hlt).trans h)
  rw [← hw1] at c2
  have HW : Hid (w.alloc (.cells #[.slice none 0 0] 29) = w1) := hw1
  clear hw1
  go_enter Try.func14, Try.ntmps14
  go_wp2_with (go_at_call 27; rw [HW.out]; refine (q_walk0 _ _ _).mono ?_; rintro e w2 ⟨rfl, hb2⟩; have hh2 := (hb2.block _ hl1).trans hh; have d0 : w2.cell? ⟨w.heap.size, 0, none⟩ = some (.slice none 0 0) := (by unfold World.cell?; rw [hh2]; rfl))
  go_ret
  exact ⟨rfl, hb.trans (hb2.mono (by omega))⟩
set_option maxRecDepth 100000 in
set_option maxHeartbeats 4000000 in
theorem q_list0 (qb : Nat) (v : Value) (f s m k : Int) (w : World) (h : QAt w qb v f 0 s m k) : Calls Try.prog 13 #[.pointer (some ⟨qb, 0, none⟩)] w fun e w' => (∃ b, e = .returned (.slice b 0 0)) ∧ Below w.heap.size w w' := by
  obtain ⟨w1, hw1⟩ : ∃ w1, (w.alloc (.cells #[.pointer (some ⟨qb, 0, none⟩)] 22)).alloc (.cells #[.slice none 0 0] 27) = w1 := ⟨_, rfl⟩
  have hlt := lt_of_block h
  have hb0 : Below w.heap.size w (w.alloc (.cells #[.pointer (some ⟨qb, 0, none⟩)] 22)) := (Below.refl _ w).alloc (Nat.le_refl _) _
  have hb : Below w.heap.size w w1 := by rw [← hw1]; exact hb0.alloc (by simp) _
  have hh0 : w1.heap[w.heap.size]? = some (.cells #[.pointer (some ⟨qb, 0, none⟩)] 22 (0, 0)) := by rw [← hw1, Below.heap_alloc _ _ _ (by simp)]; exact World.alloc_heap_new w _
  have hh : w1.heap[w.heap.size + 1]? = some (.cells #[.slice none 0 0] 27 (0, 0)) := by
    rw [← hw1]
    have := World.alloc_heap_new (w.alloc (.cells #[.pointer (some ⟨qb, 0, none⟩)] 22)) (.cells #[.slice none 0 0] 27)
    rwa [World.size_alloc] at this
  have hl1 := lt_of_block hh
  have hl0 := lt_of_block hh0
  obtain ⟨c0, c1, c2, c3, c4, c5⟩ := q6 ((hb.block _ hlt).trans h)
  have p0 : w1.cell? ⟨w.heap.size, 0, none⟩ = some (.pointer (some ⟨qb, 0, none⟩)) := by unfold World.cell?; rw [hh0]; rfl
  have HW : Hid ((w.alloc (.cells #[.pointer (some ⟨qb, 0, none⟩)] 22)).alloc (.cells #[.slice none 0 0] 27) = w1) := hw1
  clear hw1
  go_enter Try.func13, Try.ntmps13
  go_wp2_with (fail)
  rw [HW.out]
  go_region_held3 (fun W => W.cell? ⟨w.heap.size, 0, none⟩ = some (.pointer (some ⟨qb, 0, none⟩)) ∧ W.cell? ⟨qb, 2, none⟩ = some (.int .i64 0)) (first | exact KP | go_keep) ((go_at_call 27; refine (q_walk0 _ _ _).mono ?_; rintro e w2 ⟨rfl, hb2⟩; have KP : w2.cell? ⟨w.heap.size, 0, none⟩ = some (.pointer (some ⟨qb, 0, none⟩)) ∧ w2.cell? ⟨qb, 2, none⟩ = some (.int .i64 0) := ⟨(cell_below (W := w1) ((below_drewNq _ w1 1).trans (hb2.mono (Nat.le_refl _))) hl0).trans p0, (cell_below (W := w1) ((below_drewNq _ w1 1).trans (hb2.mono (Nat.le_refl _))) (by show qb < _; omega)).trans c2⟩))
  have hh2 := (hb2.block _ hl1).trans hh
  have d0 : w2.cell? ⟨w.heap.size + 1, 0, none⟩ = some (.slice none 0 0) := by unfold World.cell?; rw [hh2]; rfl
  have HH := q_handed none 0 0 (fun _ => .int .i64 0) w2 (by omega) (fun _ => rfl) (.inl rfl)
  have hb12 : Below w1.heap.size w1 w2 := (below_drewNq _ w1 1).trans (hb2.mono (Nat.le_refl _))
  have hs := hb12.size
  go_wp2_with (go_at_call 29; (with_reducible refine HH.mono ?_); rintro e w3 ⟨b, rfl, hO, hb3⟩)
  go_ret
  exact ⟨⟨_, rfl⟩, (hb.trans (hb12.mono (by omega))).trans (hb3.mono (by omega))⟩
set_option maxRecDepth 100000 in
set_option maxHeartbeats 4000000 in
theorem news_law (room : Int) (w : World) : Calls Try.prog 3 #[.int .i64 room] w fun e w' => e = .returned (.bool true) ∧ Below w.heap.size w w' := by
  by_cases hr : room < 1 ∨ 8192 < room
  · have HN := q_newBad room hr w
    by_cases h1 : room < 1
    · have d1 : decide (room < 1) = true := by simpa using h1
      go_enter Try.func3, Try.ntmps3
      go_wp2_with (go_at_call 9; (with_reducible refine HN.mono ?_); rintro e w1 ⟨rfl, rfl⟩)
      go_ret
      exact ⟨rfl, Below.refl _ _⟩
    · have d1 : decide (room < 1) = false := by simpa using h1
      have d2 : decide (8192 < room) = true := by simp; omega
      go_enter Try.func3, Try.ntmps3
      go_wp2_with (go_at_call 9; (with_reducible refine HN.mono ?_); rintro e w1 ⟨rfl, rfl⟩)
      go_ret
      exact ⟨rfl, Below.refl _ _⟩
  · have HN := q_new room (by omega) (by omega) w
    have d1 : decide (room < 1) = false := by simp; omega
    have d2 : decide (8192 < room) = false := by simp; omega
    have hr2 : room ≤ 8192 := by omega
    have hr1 : 0 ≤ room := by omega
    clear hr
    go_enter Try.func3, Try.ntmps3
    go_wp2_with (first | (go_at_call 9; (with_reducible refine HN.mono ?_); rintro e w1 ⟨qb, nb, rfl, hq, hO, hne, hqs, hb1⟩; have HQ : Hid (QAt w1 qb (.slice (some ⟨nb, 0, none⟩) 1 1) 0 0 0 room 0) := hq; clear hq; have hql := lt_of_block HQ.out) | (go_at_call 10; refine (q_size _ _ _ _ _ _ _ _ HQ.out).mono ?_; rintro e wz ⟨rfl, hz⟩; subst wz) | (go_at_call 11; refine (q_room _ _ _ _ _ _ _ _ HQ.out ⟨by omega, hr1, hr2⟩).mono ?_; rintro e w2 ⟨rfl, hb2⟩; have HQ2 : Hid (QAt w2 qb (.slice (some ⟨nb, 0, none⟩) 1 1) 0 0 0 room 0) := (hb2.block _ hql).trans HQ.out; have e0 : room - 0 = room := (by omega)) | (go_at_call 12; refine (q_work _ _ _ _ _ _ _ _ HQ2.out).mono ?_; rintro e wz ⟨rfl, hz⟩; subst wz) | (go_at_call 13; refine (q_list0 _ _ _ _ _ _ _ HQ2.out).mono ?_; rintro e w3 ⟨⟨b3, rfl⟩, hb3⟩; have HQ3 : Hid (QAt w3 qb (.slice (some ⟨nb, 0, none⟩) 1 1) 0 0 0 room 0) := (hb3.block _ (lt_of_block HQ2.out)).trans HQ2.out) | (go_at_call 14; refine (q_depths0 _ _ _ _ _ _ _ HQ3.out).mono ?_; rintro e w4 ⟨rfl, hb4⟩))
    go_ret
    have s1 := hb1.size
    have s2 := hb2.size
    have s3 := hb3.size
    exact ⟨rfl, ((hb1.trans (hb2.mono s1)).trans (hb3.mono (by omega))).trans (hb4.mono (by omega))⟩
end Go.Proofs.Ytkncalocpnkegaa
