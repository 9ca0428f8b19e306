import Derived.Test.YtkfjcbnhohipgaaB2
namespace Go.Proofs.Ytkfjcbnhohipgaa
open Go.ChangeShapes Go.WideShapes Go.ChangeAt Go.RowKit
set_option linter.unusedVariables false
set_option linter.unusedSimpArgs false

/-- the reference's post, empty -/
structure RP (W : World) (base qb pb fb n : Nat) (room : Int) : Prop where
  p : W.heap[qb]? = some (.cells #[.int .i64 (n : Int), .int .i64 room, .bool false, .slice (some ⟨pb, 0, none⟩) n n, .slice (some ⟨fb, 0, none⟩) n n, .slice none 0 0] 96 (0, 0))
  ph : Own W base 3 1 (.slice (some ⟨pb, 0, none⟩) n n) n (fun _ => .int .i64 0)
  fl : Own W base 3 1 (.slice (some ⟨fb, 0, none⟩) n n) n (fun _ => .int .i64 0)
  hbs : base ≤ qb
theorem RP.cells {W : World} {base qb pb fb n : Nat} {room : Int} (h : RP W base qb pb fb n room) : W.cell? ⟨qb, 0, none⟩ = some (.int .i64 (n : Int)) ∧ W.cell? ⟨qb, 1, none⟩ = some (.int .i64 room) ∧ W.cell? ⟨qb, 2, none⟩ = some (.bool false) ∧ W.cell? ⟨qb, 3, none⟩ = some (.slice (some ⟨pb, 0, none⟩) n n) ∧ W.cell? ⟨qb, 4, none⟩ = some (.slice (some ⟨fb, 0, none⟩) n n) ∧ W.cell? ⟨qb, 5, none⟩ = some (.slice none 0 0) := by
  have h := h.p
  refine ⟨?_, ?_, ?_, ?_, ?_, ?_⟩
  all_goals (unfold World.cell?; rw [h]; rfl)
theorem RP.later {W W' : World} {base qb pb fb n : Nat} {room : Int} (h : RP W base qb pb fb n room) (hb : Below W.heap.size W W') : RP W' base qb pb fb n room := ⟨(hb.block _ (lt_of_block h.p)).trans h.p, h.ph.later hb, h.fl.later hb, h.hbs⟩
theorem rp_new (w : World) (n : Nat) (room : Int) (hn : n ≤ maxLen) (a b : Nat) (hab : a = w.heap.size ∧ b = w.heap.size + 1 ∨ b = w.heap.size ∧ a = w.heap.size + 1) : RP ((((w.alloc (.cells (zA (.int .i64 0) n 1) 3)).alloc (.cells (zA (.int .i64 0) n 1) 3)).alloc (.cells #[.int .i64 (n : Int), .int .i64 room, .bool false, .slice (some ⟨a, 0, none⟩) n n, .slice (some ⟨b, 0, none⟩) n n, .slice none 0 0] 96)).drew) w.heap.size (w.heap.size + 1 + 1) a b n room ∧ Below w.heap.size w ((((w.alloc (.cells (zA (.int .i64 0) n 1) 3)).alloc (.cells (zA (.int .i64 0) n 1) 3)).alloc (.cells #[.int .i64 (n : Int), .int .i64 room, .bool false, .slice (some ⟨a, 0, none⟩) n n, .slice (some ⟨b, 0, none⟩) n n, .slice none 0 0] 96)).drew) := by
  have o1 := own_new w 3 (.int .i64 0) n 1 hn
  have s1 : (w.alloc (.cells (zA (.int .i64 0) n 1) 3)).heap.size = w.heap.size + 1 := World.size_alloc _ _
  have b1 : Below w.heap.size w (w.alloc (.cells (zA (.int .i64 0) n 1) 3)) := (Below.refl _ w).alloc (Nat.le_refl _) _
  generalize (w.alloc (.cells (zA (.int .i64 0) n 1) 3)) = w1 at o1 s1 b1 ⊢
  have o2 := own_new w1 3 (.int .i64 0) n 1 hn
  have b2 : Below w1.heap.size w1 (w1.alloc (.cells (zA (.int .i64 0) n 1) 3)) := (Below.refl _ w1).alloc (Nat.le_refl _) _
  have s2 : (w1.alloc (.cells (zA (.int .i64 0) n 1) 3)).heap.size = w1.heap.size + 1 := World.size_alloc _ _
  generalize (w1.alloc (.cells (zA (.int .i64 0) n 1) 3)) = w2 at o2 s2 b2 ⊢
  rw [s1] at o2 s2
  have b3 : Below w2.heap.size w2 (w2.alloc (.cells #[.int .i64 (n : Int), .int .i64 room, .bool false, .slice (some ⟨a, 0, none⟩) n n, .slice (some ⟨b, 0, none⟩) n n, .slice none 0 0] 96)).drew := ((Below.refl _ w2).alloc (Nat.le_refl _) _).trans ⟨rfl, rfl, rfl, Nat.le_refl _, fun _ _ => rfl⟩
  have p1 := ((o1.later b2).later b3).congr (G := fun _ => .int .i64 0) fun j hj => made1 _ rfl n j hj
  have p2 := ((o2.later b3).lower (base' := w.heap.size) (by omega)).congr (G := fun _ => .int .i64 0) fun j hj => made1 _ rfl n j hj
  have hp : (w2.alloc (.cells #[.int .i64 (n : Int), .int .i64 room, .bool false, .slice (some ⟨a, 0, none⟩) n n, .slice (some ⟨b, 0, none⟩) n n, .slice none 0 0] 96)).heap[w.heap.size + 1 + 1]? = some (.cells #[.int .i64 (n : Int), .int .i64 room, .bool false, .slice (some ⟨a, 0, none⟩) n n, .slice (some ⟨b, 0, none⟩) n n, .slice none 0 0] 96 (0, 0)) := by
    rw [← s2]
    exact World.alloc_heap_new w2 _
  refine ⟨?_, (b1.trans (b2.mono (by omega))).trans (b3.mono (by omega))⟩
  rcases hab with ⟨rfl, rfl⟩ | ⟨rfl, rfl⟩
  · exact ⟨hp, p1, p2, by omega⟩
  · exact ⟨hp, p2, p1, by omega⟩
set_option maxRecDepth 100000 in
set_option maxHeartbeats 4000000 in
theorem ref_new (n : Nat) (room : Int) (h1 : 1 ≤ n) (h2 : n ≤ 64) (h3 : 1 ≤ room) (h4 : room ≤ 1024) (W : World) :
    Calls Try.prog 26 #[.int .i64 (n : Int), .int .i64 room, .bool false] W fun e w' => ∃ qb pb fb, e = .returned (.tuple #[.pointer (some ⟨qb, 0, none⟩), .int .i64 0]) ∧ RP w' W.heap.size qb pb fb n room ∧ Below W.heap.size W w' := by
  have d1 : decide ((n : Int) < 1) = false := by simp; omega
  have d2 : decide (64 < (n : Int)) = false := by simp; omega
  have d3 : decide (room < 1) = false := by simp; omega
  have d4 : decide (1024 < room) = false := by simp; omega
  obtain ⟨iI, hI1, hI2, hI3, hI4⟩ := binfo infoIN
  have rI : ∀ w : World, (Instr.makeSlice 45 (.int .i64 (n : Int)) (.int .i64 (n : Int))).run Try.prog w = .ok (.slice (some ⟨w.heap.size, 0, none⟩) n n) (w.alloc (.cells (zA (.int .i64 0) n 1) 3)) := run_make_eq _ _ iI _ 1 Try.underlying45 hI1 hI2 hI3 n (by rw [hI4]; omega) (by omega)
  have HM : Hid (n ≤ maxLen) := by show n ≤ maxLen; unfold maxLen; omega
  go_enter Try.func26, Try.ntmps26
  go_upto_region 5 with fail
  go_region
  all_goals
    go_wp2
    refine bodyPost_ret (v := .tuple #[.pointer (some ⟨W.heap.size + 1 + 1, 0, none⟩), .int .i64 0]) (by simp [results, Try.results26, go_sem]) rfl ?_
    first | exact ⟨_, _, _, rfl, rp_new W n room HM.out W.heap.size (W.heap.size + 1) (.inl ⟨rfl, rfl⟩)⟩ | exact ⟨_, _, _, rfl, rp_new W n room HM.out (W.heap.size + 1) W.heap.size (.inr ⟨rfl, rfl⟩)⟩
set_option maxRecDepth 100000 in
theorem has_any (x : Int) {base qb pb fb n : Nat} {room : Int} (W : World) (h : RP W base qb pb fb n room) : Calls Try.prog 55 #[.pointer (some ⟨qb, 0, none⟩), .int .i64 x] W fun e W' => e = .returned (.bool (decide (0 ≤ x) && decide (x < (n : Int)))) ∧ W' = W := by
  obtain ⟨c0, c1, c2, c3, c4, c5⟩ := h.cells
  clear h
  by_cases h0 : 0 ≤ x
  · have d0 : decide (0 ≤ x) = true := by simpa using h0
    by_cases h1 : x < (n : Int)
    · have d1 : decide (x < (n : Int)) = true := by simpa using h1
      go_enter Try.func55, Try.ntmps55
      go_wp2
      go_ret
      exact ⟨by simp [h0, h1], rfl⟩
    · have d1 : decide (x < (n : Int)) = false := by simpa using h1
      go_enter Try.func55, Try.ntmps55
      go_wp2
      go_ret
      exact ⟨by simp [h0, h1], rfl⟩
  · have d0 : decide (0 ≤ x) = false := by simpa using h0
    go_enter Try.func55, Try.ntmps55
    go_wp2
    go_ret
    exact ⟨by simp [h0], rfl⟩
theorem has_yes (x : Nat) {base qb pb fb n : Nat} {room : Int} (hx : x < n) (W : World) (h : RP W base qb pb fb n room) : Calls Try.prog 55 #[.pointer (some ⟨qb, 0, none⟩), .int .i64 (x : Int)] W fun e W' => e = .returned (.bool true) ∧ W' = W := (has_any x W h).mono fun e W' hh => ⟨by rw [hh.1]; simp; omega, hh.2⟩
theorem has_no (x : Int) {base qb pb fb n : Nat} {room : Int} (hx : x < 0 ∨ (n : Int) ≤ x) (W : World) (h : RP W base qb pb fb n room) : Calls Try.prog 55 #[.pointer (some ⟨qb, 0, none⟩), .int .i64 x] W fun e W' => e = .returned (.bool false) ∧ W' = W := (has_any x W h).mono fun e W' hh => ⟨by rw [hh.1]; simp; omega, hh.2⟩
set_option maxRecDepth 100000 in
theorem count0 (a b c : Int) {base qb pb fb n : Nat} {room : Int} (W : World) (h : RP W base qb pb fb n room) : Calls Try.prog 56 #[.pointer (some ⟨qb, 0, none⟩), .int .i64 a, .int .i64 b, .int .i64 c] W fun e W' => e = .returned (.int .i64 0) ∧ W' = W := by
  obtain ⟨c0, c1, c2, c3, c4, c5⟩ := h.cells
  clear h
  go_enter Try.func56, Try.ntmps56
  go_wp2
  go_loopw [9, 10] (fun a x wr => a = .int .i64 0 ∧ x = .int .i64 0 ∧ wr = W) (fun _ _ _ => 0)
  case atStart => exact ⟨rfl, rfl, rfl⟩
  case round =>
    obtain ⟨rfl, rfl, rfl⟩ := hrel
    go_wp2
    go_ret
    exact ⟨rfl, rfl⟩
set_option maxRecDepth 100000 in
theorem rwait_yes (x : Nat) {base qb pb fb n : Nat} {room : Int} (hx : x < n) (W : World) (h : RP W base qb pb fb n room) : Calls Try.prog 49 #[.pointer (some ⟨qb, 0, none⟩), .int .i64 (x : Int)] W fun e W' => e = .returned (.tuple #[.int .i64 0, .int .i64 0]) ∧ W' = W := by
  have HK := has_yes x hx W h
  have HC := count0 (-1) x (-1) W h
  clear h hx
  go_enter Try.func49, Try.ntmps49
  go_wp2_with (first | (go_at_call 55; (with_reducible refine HK.mono ?_); rintro e w1 ⟨rfl, h9⟩; subst h9) | (go_at_call 56; (with_reducible refine HC.mono ?_); rintro e w2 ⟨rfl, h8⟩; subst h8))
  exact bodyPost_ret (v := .tuple #[.int .i64 0, .int .i64 0]) (by simp [results, Try.results49, go_sem]) rfl ⟨rfl, rfl⟩
set_option maxRecDepth 100000 in
theorem rwait_no (x : Int) {base qb pb fb n : Nat} {room : Int} (hx : x < 0 ∨ (n : Int) ≤ x) (W : World) (h : RP W base qb pb fb n room) : Calls Try.prog 49 #[.pointer (some ⟨qb, 0, none⟩), .int .i64 x] W fun e W' => e = .returned (.tuple #[.int .i64 0, .int .i64 91]) ∧ W' = W := by
  have HK := has_no x hx W h
  clear h hx
  go_enter Try.func49, Try.ntmps49
  go_wp2_with (go_at_call 55; (with_reducible refine HK.mono ?_); rintro e w1 ⟨rfl, h9⟩; subst h9)
  exact bodyPost_ret (v := .tuple #[.int .i64 0, .int .i64 91]) (by simp [results, Try.results49, go_sem]) rfl ⟨rfl, rfl⟩
set_option maxRecDepth 100000 in
theorem rphase_yes (x : Nat) {base qb pb fb n : Nat} {room : Int} (hx : x < n) (W : World) (h : RP W base qb pb fb n room) : Calls Try.prog 45 #[.pointer (some ⟨qb, 0, none⟩), .int .i64 (x : Int)] W fun e W' => e = .returned (.int .i64 0) ∧ W' = W := by
  have HK := has_yes x hx W h
  obtain ⟨c0, c1, c2, c3, c4, c5⟩ := h.cells
  have y := h.ph.cell (j := x) (by omega)
  have i0 : (0 : Int) ≤ (x : Int) := by omega
  have i1 : (x : Int) < (n : Int) := by omega
  clear h hx
  go_enter Try.func45, Try.ntmps45
  go_wp2_with (go_at_call 55; (with_reducible refine HK.mono ?_); rintro e w1 ⟨rfl, h9⟩; subst h9)
  go_ret
  exact ⟨rfl, rfl⟩
set_option maxRecDepth 100000 in
theorem rphase_no (x : Int) {base qb pb fb n : Nat} {room : Int} (hx : x < 0 ∨ (n : Int) ≤ x) (W : World) (h : RP W base qb pb fb n room) : Calls Try.prog 45 #[.pointer (some ⟨qb, 0, none⟩), .int .i64 x] W fun e W' => e = .returned (.int .i64 (-1)) ∧ W' = W := by
  have HK := has_no x hx W h
  clear h hx
  go_enter Try.func45, Try.ntmps45
  go_wp2_with (go_at_call 55; (with_reducible refine HK.mono ?_); rintro e w1 ⟨rfl, h9⟩; subst h9)
  go_ret
  exact ⟨rfl, rfl⟩
set_option maxRecDepth 100000 in
theorem rerr_yes (x : Nat) {base qb pb fb n : Nat} {room : Int} (hx : x < n) (W : World) (h : RP W base qb pb fb n room) : Calls Try.prog 50 #[.pointer (some ⟨qb, 0, none⟩), .int .i64 (x : Int)] W fun e W' => e = .returned (.int .i64 0) ∧ W' = W := by
  have HK := has_yes x hx W h
  obtain ⟨c0, c1, c2, c3, c4, c5⟩ := h.cells
  have y := h.fl.cell (j := x) (by omega)
  have i0 : (0 : Int) ≤ (x : Int) := by omega
  have i1 : (x : Int) < (n : Int) := by omega
  clear h hx
  go_enter Try.func50, Try.ntmps50
  go_wp2_with (go_at_call 55; (with_reducible refine HK.mono ?_); rintro e w1 ⟨rfl, h9⟩; subst h9)
  go_ret
  exact ⟨rfl, rfl⟩
set_option maxRecDepth 100000 in
theorem rerr_no (x : Int) {base qb pb fb n : Nat} {room : Int} (hx : x < 0 ∨ (n : Int) ≤ x) (W : World) (h : RP W base qb pb fb n room) : Calls Try.prog 50 #[.pointer (some ⟨qb, 0, none⟩), .int .i64 x] W fun e W' => e = .returned (.int .i64 91) ∧ W' = W := by
  have HK := has_no x hx W h
  clear h hx
  go_enter Try.func50, Try.ntmps50
  go_wp2_with (go_at_call 55; (with_reducible refine HK.mono ?_); rintro e w1 ⟨rfl, h9⟩; subst h9)
  go_ret
  exact ⟨rfl, rfl⟩
end Go.Proofs.Ytkfjcbnhohipgaa
