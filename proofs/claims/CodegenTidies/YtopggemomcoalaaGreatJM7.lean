import Derived.Test.YtopggemomcoalaaGreatJM5
namespace Go.Proofs.YtopggemomcoalaaGreat
open Go.ChangeShapes Go.WideShapes Go.ChangeAt Go.RowKit
set_option linter.unusedVariables false

theorem MW.far1 {w0 w w' : World} {base mb nw : Nat} {C : Nat → Value} {M : Mc} (h : MW w0 w base mb nw C M) (e : w' = w.drew) : MW w0 w' base mb nw C M := by rw [e]; exact h.later ⟨rfl, rfl, rfl, Nat.le_refl _, fun _ _ => rfl⟩
theorem cast2 (a b : Nat) : ((a + b : Nat) : Int) = (a : Int) + (b : Int) := by omega
set_option maxRecDepth 100000 in
set_option maxHeartbeats 4000000 in
theorem index_5f (w0 w : World) (base mb nw : Nat) (C : Nat → Value) (M : Mc) (a' b' : Nat) (h : MW w0 w base mb nw C M) (hh : 0 < M.hi) (h64 : M.hi ≤ 64) (hi : topM M < 0 ∨ (b' : Int) ≤ topM M) :
    Calls Tryz.prog 100 #[.pointer (some ⟨mb, 0, none⟩), .agg #[.int .i64 5, .int .i64 (a' : Int), .int .i64 (b' : Int)]] w fun e w' => e = .returned (.int .i64 203) ∧ RS w0 w' base mb nw C M 203 (M) := by
  obtain ⟨wb, hwb⟩ : ∃ wb, w.alloc (.cells #[.int .i64 5, .int .i64 (a' : Int), .int .i64 (b' : Int)] 36) = wb := ⟨_, rfl⟩
  obtain ⟨hbb, hbx, hsz⟩ := inbox w 5 (a' : Int) (b' : Int) wb hwb
  have HB : Hid (w.alloc (.cells #[.int .i64 5, .int .i64 (a' : Int), .int .i64 (b' : Int)] 36) = wb) := hwb
  have hlt := h.box.lt.1
  have hb := h.later hbb
  obtain ⟨b0, b1, b2⟩ := cells3 hbx
  have g0 := b0
  have g2 := b2
  rw [← hwb] at g0 g2
  clear hwb
  have HP1 := popW w0 wb base mb nw C M hb hh h64
  generalize topM M = i at hi HP1
  by_cases i1 : i < 0
  · clear hi
    go_enter Tryz.func100, Tryz.ntmps100
    go_wp2_with (go_at_call 79; rw [HB.out]; (with_reducible refine HP1.mono ?_); rintro e w1 ⟨rfl, o1, m1⟩; have k0 := only_keeps o1 (show w.heap.size ≠ mb by omega) b0; have k1 := only_keeps o1 (show w.heap.size ≠ mb by omega) b1; have k2 := only_keeps o1 (show w.heap.size ≠ mb by omega) b2)
    go_ret
    exact ⟨rfl, fun h => (by cases h), fun _ => ⟨_, m1, rfl⟩⟩
  · have i2 : (b' : Int) ≤ i := by omega
    clear hi
    go_enter Tryz.func100, Tryz.ntmps100
    go_wp2_with (go_at_call 79; rw [HB.out]; (with_reducible refine HP1.mono ?_); rintro e w1 ⟨rfl, o1, m1⟩; have k0 := only_keeps o1 (show w.heap.size ≠ mb by omega) b0; have k1 := only_keeps o1 (show w.heap.size ≠ mb by omega) b1; have k2 := only_keeps o1 (show w.heap.size ≠ mb by omega) b2)
    go_ret
    exact ⟨rfl, fun h => (by cases h), fun _ => ⟨_, m1, rfl⟩⟩
set_option maxRecDepth 100000 in
set_option maxHeartbeats 4000000 in
theorem index_38f (w0 w : World) (base mb nw : Nat) (C : Nat → Value) (M : Mc) (a' b' : Nat) (h : MW w0 w base mb nw C M) (hh : 0 < M.hi) (h64 : M.hi ≤ 64) (hi : topM M < 0 ∨ (b' : Int) ≤ topM M) :
    Calls Tryz.prog 100 #[.pointer (some ⟨mb, 0, none⟩), .agg #[.int .i64 38, .int .i64 (a' : Int), .int .i64 (b' : Int)]] w fun e w' => e = .returned (.int .i64 203) ∧ RS w0 w' base mb nw C M 203 (M) := by
  obtain ⟨wb, hwb⟩ : ∃ wb, w.alloc (.cells #[.int .i64 38, .int .i64 (a' : Int), .int .i64 (b' : Int)] 36) = wb := ⟨_, rfl⟩
  obtain ⟨hbb, hbx, hsz⟩ := inbox w 38 (a' : Int) (b' : Int) wb hwb
  have HB : Hid (w.alloc (.cells #[.int .i64 38, .int .i64 (a' : Int), .int .i64 (b' : Int)] 36) = wb) := hwb
  have hlt := h.box.lt.1
  have hb := h.later hbb
  obtain ⟨b0, b1, b2⟩ := cells3 hbx
  have g0 := b0
  have g2 := b2
  rw [← hwb] at g0 g2
  clear hwb
  have HP1 := popW w0 wb base mb nw C M hb hh h64
  generalize topM M = i at hi HP1
  by_cases i1 : i < 0
  · clear hi
    go_enter Tryz.func100, Tryz.ntmps100
    go_wp2_with (go_at_call 79; rw [HB.out]; (with_reducible refine HP1.mono ?_); rintro e w1 ⟨rfl, o1, m1⟩; have k0 := only_keeps o1 (show w.heap.size ≠ mb by omega) b0; have k1 := only_keeps o1 (show w.heap.size ≠ mb by omega) b1; have k2 := only_keeps o1 (show w.heap.size ≠ mb by omega) b2)
    go_ret
    exact ⟨rfl, fun h => (by cases h), fun _ => ⟨_, m1, rfl⟩⟩
  · have i2 : (b' : Int) ≤ i := by omega
    clear hi
    go_enter Tryz.func100, Tryz.ntmps100
    go_wp2_with (go_at_call 79; rw [HB.out]; (with_reducible refine HP1.mono ?_); rintro e w1 ⟨rfl, o1, m1⟩; have k0 := only_keeps o1 (show w.heap.size ≠ mb by omega) b0; have k1 := only_keeps o1 (show w.heap.size ≠ mb by omega) b1; have k2 := only_keeps o1 (show w.heap.size ≠ mb by omega) b2)
    go_ret
    exact ⟨rfl, fun h => (by cases h), fun _ => ⟨_, m1, rfl⟩⟩
set_option maxRecDepth 100000 in
set_option maxHeartbeats 4000000 in
theorem index_38 (w0 w : World) (base mb nw : Nat) (C : Nat → Value) (M : Mc) (a' b' : Nat) (h : MW w0 w base mb nw C M) (hh : 0 < M.hi) (h64 : M.hi ≤ 64) (k : Nat) (hi : topM M = (k : Int)) (hk : k < b') (hA : a' + b' ≤ 64) :
    Calls Tryz.prog 100 #[.pointer (some ⟨mb, 0, none⟩), .agg #[.int .i64 38, .int .i64 (a' : Int), .int .i64 (b' : Int)]] w fun e w' => e = .returned (.int .i64 0) ∧ RS w0 w' base mb nw C M 0 (pushM (popM M) ((a' : Int) + (k : Int))) := by
  obtain ⟨wb, hwb⟩ : ∃ wb, w.alloc (.cells #[.int .i64 38, .int .i64 (a' : Int), .int .i64 (b' : Int)] 36) = wb := ⟨_, rfl⟩
  obtain ⟨hbb, hbx, hsz⟩ := inbox w 38 (a' : Int) (b' : Int) wb hwb
  have HB : Hid (w.alloc (.cells #[.int .i64 38, .int .i64 (a' : Int), .int .i64 (b' : Int)] 36) = wb) := hwb
  have hlt := h.box.lt.1
  have hb := h.later hbb
  obtain ⟨b0, b1, b2⟩ := cells3 hbx
  have g0 := b0
  have g2 := b2
  rw [← hwb] at g0 g2
  clear hwb
  have HP1 := popW w0 wb base mb nw C M hb hh h64
  have hph : (popM M).hi < 64 := by show M.hi - 1 < 64; omega
  rw [hi] at HP1
  have i1 : ¬ ((k : Int) < 0) := by omega
  have i2 : ¬ ((b' : Int) ≤ (k : Int)) := by omega
  clear hi
  go_enter Tryz.func100, Tryz.ntmps100
  go_wp2_with (first | (go_at_call 79; rw [HB.out]; (with_reducible refine HP1.mono ?_); rintro e w1 ⟨rfl, o1, m1⟩; have k0 := only_keeps o1 (show w.heap.size ≠ mb by omega) b0; have k1 := only_keeps o1 (show w.heap.size ≠ mb by omega) b1; have k2 := only_keeps o1 (show w.heap.size ≠ mb by omega) b2) | (go_at_call 98; (with_reducible refine (pushW w0 _ base mb nw C (popM M) ((a' : Int) + (k : Int)) m1 hph).mono ?_); rintro e w2 ⟨rfl, o2, m2⟩))
  go_ret
  exact ⟨rfl, fun _ => m2, fun h => absurd rfl h⟩
set_option maxRecDepth 100000 in
set_option maxHeartbeats 4000000 in
theorem index_5 (w0 w : World) (base mb nw : Nat) (C : Nat → Value) (M : Mc) (a' b' : Nat) (h : MW w0 w base mb nw C M) (hh : 0 < M.hi) (h64 : M.hi ≤ 64) (k : Nat) (hi : topM M = (k : Int)) (hk : k < b') (hA : a' + b' ≤ nw) (hn : nw ≤ 64) :
    Calls Tryz.prog 100 #[.pointer (some ⟨mb, 0, none⟩), .agg #[.int .i64 5, .int .i64 (a' : Int), .int .i64 (b' : Int)]] w fun e w' => e = .returned (.int .i64 0) ∧ RS w0 w' base mb nw C M 0 (pushM (popM M) (M.wd (a' + k))) := by
  obtain ⟨wb, hwb⟩ : ∃ wb, w.alloc (.cells #[.int .i64 5, .int .i64 (a' : Int), .int .i64 (b' : Int)] 36) = wb := ⟨_, rfl⟩
  obtain ⟨hbb, hbx, hsz⟩ := inbox w 5 (a' : Int) (b' : Int) wb hwb
  have HB : Hid (w.alloc (.cells #[.int .i64 5, .int .i64 (a' : Int), .int .i64 (b' : Int)] 36) = wb) := hwb
  have hlt := h.box.lt.1
  have hb := h.later hbb
  obtain ⟨b0, b1, b2⟩ := cells3 hbx
  have g0 := b0
  have g2 := b2
  rw [← hwb] at g0 g2
  clear hwb
  have HP1 := popW w0 wb base mb nw C M hb hh h64
  have hph : (popM M).hi < 64 := by show M.hi - 1 < 64; omega
  rw [hi] at HP1
  have i1 : ¬ ((k : Int) < 0) := by omega
  have i2 : ¬ ((b' : Int) ≤ (k : Int)) := by omega
  have j0 : (0 : Int) ≤ (a' : Int) + (k : Int) := by omega
  have j1 : (a' : Int) + (k : Int) < (nw : Int) := by omega
  have jt : ((a' : Int) + (k : Int)).toNat = a' + k := by omega
  have jw : IntKind.i64.wrap ((a' : Int) + (k : Int)) = (a' : Int) + (k : Int) := by rw [IntKind.wrap_i64]; omega
  obtain ⟨gw, cw, hwv, hcell, hgl⟩ := hb.word (k := a' + k) (by omega)
  have hcw := congrArg some hwv
  have HBD : ∀ W V, W = V.drew → MW w0 V base mb nw C (popM M) → MW w0 W base mb nw C (popM M) := fun W V e hV => by rw [e]; exact hV.later ⟨rfl, rfl, rfl, Nat.le_refl _, fun _ _ => rfl⟩
  clear hi
  go_enter Tryz.func100, Tryz.ntmps100
  go_wp2_with (go_at_call 79; rw [HB.out]; (with_reducible refine HP1.mono ?_); rintro e w1 ⟨rfl, o1, m1⟩; have k0 := only_keeps o1 (show w.heap.size ≠ mb by omega) b0; have k1 := only_keeps o1 (show w.heap.size ≠ mb by omega) b1; have k2 := only_keeps o1 (show w.heap.size ≠ mb by omega) b2; have c55 : w1.cell? ⟨mb, 55, none⟩ = some (.slice (some ⟨gw, 0, none⟩) nw cw) := (m1.box.cell 55 (by omega)).trans hcw; have cw1 := only_keeps o1 hgl.2 hcell.1)
  go_region_held3 (fun w' => w'.cell? ⟨mb, 55, none⟩ = some (.slice (some ⟨gw, 0, none⟩) nw cw) ∧ w'.cell? ⟨w.heap.size, 1, none⟩ = some (.int .i64 (a' : Int)) ∧ w'.cell? ⟨gw, a' + k, none⟩ = some (.int .i64 (M.wd (a' + k)))) (first | exact KP | go_keep) ((go_at_call 98; (with_reducible refine (pushW w0 _ base mb nw C (popM M) (M.wd (a' + k)) (HBD _ _ rfl m1) hph).mono ?_); rintro e w2 ⟨rfl, o2, m2⟩; have KP : w2.cell? ⟨mb, 55, none⟩ = some (.slice (some ⟨gw, 0, none⟩) nw cw) ∧ w2.cell? ⟨w.heap.size, 1, none⟩ = some (.int .i64 (a' : Int)) ∧ w2.cell? ⟨gw, a' + k, none⟩ = some (.int .i64 (M.wd (a' + k))) := ⟨(m2.box.cell 55 (by omega)).trans hcw, only_keeps o2 (by omega) k1, only_keeps o2 hgl.2 cw1⟩))
  go_wp2
  go_ret
  exact ⟨rfl, fun _ => m2, fun h => absurd rfl h⟩
set_option maxRecDepth 100000 in
set_option maxHeartbeats 4000000 in
theorem index_6f (w0 w : World) (base mb nw : Nat) (C : Nat → Value) (M : Mc) (a' b' : Nat) (h : MW w0 w base mb nw C M) (hh : 2 ≤ M.hi) (h64 : M.hi ≤ 64) (hi : topM (popM M) < 0 ∨ (b' : Int) ≤ topM (popM M)) :
    Calls Tryz.prog 100 #[.pointer (some ⟨mb, 0, none⟩), .agg #[.int .i64 6, .int .i64 (a' : Int), .int .i64 (b' : Int)]] w fun e w' => e = .returned (.int .i64 203) ∧ RS w0 w' base mb nw C M 203 (M) := by
  obtain ⟨wb, hwb⟩ : ∃ wb, w.alloc (.cells #[.int .i64 6, .int .i64 (a' : Int), .int .i64 (b' : Int)] 36) = wb := ⟨_, rfl⟩
  obtain ⟨hbb, hbx, hsz⟩ := inbox w 6 (a' : Int) (b' : Int) wb hwb
  have HB : Hid (w.alloc (.cells #[.int .i64 6, .int .i64 (a' : Int), .int .i64 (b' : Int)] 36) = wb) := hwb
  have hlt := h.box.lt.1
  have hb := h.later hbb
  obtain ⟨b0, b1, b2⟩ := cells3 hbx
  have g0 := b0
  have g2 := b2
  rw [← hwb] at g0 g2
  clear hwb
  have HP1 := popW w0 wb base mb nw C M hb (by omega) h64
  have hph1 : 0 < (popM M).hi := by show 0 < M.hi - 1; omega
  have hph2 : (popM M).hi ≤ 64 := by show M.hi - 1 ≤ 64; omega
  obtain ⟨i, hii⟩ : ∃ i, topM (popM M) = i := ⟨_, rfl⟩
  rw [hii] at hi
  by_cases i1 : i < 0
  · clear hi
    go_enter Tryz.func100, Tryz.ntmps100
    go_wp2_with (first | (go_at_call 79; rw [HB.out]; (with_reducible refine HP1.mono ?_); rintro e w1 ⟨rfl, o1, m1⟩; have k0 := only_keeps o1 (show w.heap.size ≠ mb by omega) b0; have k1 := only_keeps o1 (show w.heap.size ≠ mb by omega) b1; have k2 := only_keeps o1 (show w.heap.size ≠ mb by omega) b2; have HP2 := popW w0 w1 base mb nw C (popM M) m1 hph1 hph2; rw [hii] at HP2; clear HP1) | (go_at_call 79; (with_reducible refine HP2.mono ?_); rintro e w2 ⟨rfl, o2, m2⟩; have q0 := only_keeps o2 (show w.heap.size ≠ mb by omega) k0; have q1 := only_keeps o2 (show w.heap.size ≠ mb by omega) k1; have q2 := only_keeps o2 (show w.heap.size ≠ mb by omega) k2; skip))
    go_ret
    exact ⟨rfl, fun h => (by cases h), fun _ => ⟨_, m2, rfl⟩⟩
  · have i2 : (b' : Int) ≤ i := by omega
    clear hi
    go_enter Tryz.func100, Tryz.ntmps100
    go_wp2_with (first | (go_at_call 79; rw [HB.out]; (with_reducible refine HP1.mono ?_); rintro e w1 ⟨rfl, o1, m1⟩; have k0 := only_keeps o1 (show w.heap.size ≠ mb by omega) b0; have k1 := only_keeps o1 (show w.heap.size ≠ mb by omega) b1; have k2 := only_keeps o1 (show w.heap.size ≠ mb by omega) b2; have HP2 := popW w0 w1 base mb nw C (popM M) m1 hph1 hph2; rw [hii] at HP2; clear HP1) | (go_at_call 79; (with_reducible refine HP2.mono ?_); rintro e w2 ⟨rfl, o2, m2⟩; have q0 := only_keeps o2 (show w.heap.size ≠ mb by omega) k0; have q1 := only_keeps o2 (show w.heap.size ≠ mb by omega) k1; have q2 := only_keeps o2 (show w.heap.size ≠ mb by omega) k2; skip))
    go_ret
    exact ⟨rfl, fun h => (by cases h), fun _ => ⟨_, m2, rfl⟩⟩
set_option maxRecDepth 100000 in
set_option maxHeartbeats 4000000 in
theorem index_6 (w0 w : World) (base mb nw : Nat) (C : Nat → Value) (M : Mc) (a' b' : Nat) (h : MW w0 w base mb nw C M) (hh : 2 ≤ M.hi) (h64 : M.hi ≤ 64) (k : Nat) (hi : topM (popM M) = (k : Int)) (hk : k < b') (hA : a' + b' ≤ nw) (hn : nw ≤ 64) :
    Calls Tryz.prog 100 #[.pointer (some ⟨mb, 0, none⟩), .agg #[.int .i64 6, .int .i64 (a' : Int), .int .i64 (b' : Int)]] w fun e w' => e = .returned (.int .i64 0) ∧ RS w0 w' base mb nw C M 0 ({ popM (popM M) with wd := updI M.wd (a' + k) (topM M) }) := by
  obtain ⟨wb, hwb⟩ : ∃ wb, w.alloc (.cells #[.int .i64 6, .int .i64 (a' : Int), .int .i64 (b' : Int)] 36) = wb := ⟨_, rfl⟩
  obtain ⟨hbb, hbx, hsz⟩ := inbox w 6 (a' : Int) (b' : Int) wb hwb
  have HB : Hid (w.alloc (.cells #[.int .i64 6, .int .i64 (a' : Int), .int .i64 (b' : Int)] 36) = wb) := hwb
  have hlt := h.box.lt.1
  have hb := h.later hbb
  obtain ⟨b0, b1, b2⟩ := cells3 hbx
  have g0 := b0
  have g2 := b2
  rw [← hwb] at g0 g2
  clear hwb
  have HP1 := popW w0 wb base mb nw C M hb (by omega) h64
  have hph1 : 0 < (popM M).hi := by show 0 < M.hi - 1; omega
  have hph2 : (popM M).hi ≤ 64 := by show M.hi - 1 ≤ 64; omega
  have i1 : ¬ ((k : Int) < 0) := by omega
  have i2 : ¬ ((b' : Int) ≤ (k : Int)) := by omega
  have j0 : (0 : Int) ≤ (a' : Int) + (k : Int) := by omega
  have j1 : (a' : Int) + (k : Int) < (nw : Int) := by omega
  have jt : ((a' : Int) + (k : Int)).toNat = a' + k := by omega
  have jw : IntKind.i64.wrap ((a' : Int) + (k : Int)) = (a' : Int) + (k : Int) := by rw [IntKind.wrap_i64]; omega
  obtain ⟨gw, cw, hwv, hcell, hgl⟩ := hb.word (k := a' + k) (by omega)
  have hcw := congrArg some hwv
  have HI : Hid (topM (popM M) = (k : Int)) := hi
  have hgw : gw < w.heap.size := by
    obtain ⟨g2, c2, e2, _, e4, _⟩ := h.word (k := a' + k) (by omega)
    rw [hwv] at e2
    injection e2 with e5 _ _
    injection e5 with e5
    injection e5 with e5 _ _
    omega
  have hkn : a' + k < nw := by omega
  clear hi
  go_enter Tryz.func100, Tryz.ntmps100
  go_wp2_with (first | (go_at_call 79; rw [HB.out]; (with_reducible refine HP1.mono ?_); rintro e w1 ⟨rfl, o1, m1⟩; have k0 := only_keeps o1 (show w.heap.size ≠ mb by omega) b0; have k1 := only_keeps o1 (show w.heap.size ≠ mb by omega) b1; have k2 := only_keeps o1 (show w.heap.size ≠ mb by omega) b2; have HP2 := popW w0 w1 base mb nw C (popM M) m1 hph1 hph2; rw [HI.out] at HP2; clear HP1) | (go_at_call 79; (with_reducible refine HP2.mono ?_); rintro e w2 ⟨rfl, o2, m2⟩; have q0 := only_keeps o2 (show w.heap.size ≠ mb by omega) k0; have q1 := only_keeps o2 (show w.heap.size ≠ mb by omega) k1; have q2 := only_keeps o2 (show w.heap.size ≠ mb by omega) k2; have c55 : w2.cell? ⟨mb, 55, none⟩ = some (.slice (some ⟨gw, 0, none⟩) nw cw) := (m2.box.cell 55 (by omega)).trans hcw; obtain ⟨cw1, cw2⟩ := m2.word' hkn hwv))
  go_region_held3 (fun w' => w'.cell? ⟨mb, 55, none⟩ = some (.slice (some ⟨gw, 0, none⟩) nw cw) ∧ w'.cell? ⟨w.heap.size, 1, none⟩ = some (.int .i64 (a' : Int))) (first | exact ⟨(World.cell?_of_block (Below.heap_setCell _ ⟨gw, a' + k, none⟩ _ mb (fun e => hgl.2 e.symm))).trans c55, (World.cell?_of_block (Below.heap_setCell _ ⟨gw, a' + k, none⟩ _ w.heap.size (by show w.heap.size ≠ gw; omega))).trans q1⟩ | go_keep) (fail)
  go_wp2
  go_ret
  have hfin := m2.setWord hkn hwv (topM M)
  exact ⟨rfl, fun _ => hfin.far1 rfl, fun h => absurd rfl h⟩
end Go.Proofs.YtopggemomcoalaaGreat
namespace Go.Proofs.YtopggemomcoalaaGreat
open Go.ChangeShapes Go.WideShapes Go.ChangeAt Go.RowKit
set_option linter.unusedVariables false

theorem RS.of {w0 w1 : World} {base mb nw : Nat} {C : Nat → Value} {M : Mc} {f : Int} {M' : Mc} (h : RS w0 w1 base mb nw C M f M') : RS w0 w1 base mb nw C M f M' := h
set_option maxRecDepth 100000 in
set_option maxHeartbeats 4000000 in
theorem do_5 (w0 w : World) (base mb nw : Nat) (C : Nat → Value) (M : Mc) (cl : Cl) (code : Value) (hC : CC C cl code) (a b f : Int) (M' : Mc) (h : MW w0 w base mb nw C M) (HX : ∀ W, MW w0 W base mb nw C M → Calls Tryz.prog 100 #[.pointer (some ⟨mb, 0, none⟩), .agg #[.int .i64 5, .int .i64 a, .int .i64 b]] W fun e w' => e = .returned (.int .i64 f) ∧ RS w0 w' base mb nw C M f M') :
    Calls Tryz.prog 80 #[.pointer (some ⟨mb, 0, none⟩), .agg #[.int .i64 5, .int .i64 a, .int .i64 b]] w fun e w' => e = .returned (.int .i64 f) ∧ RS w0 w' base mb nw C M f (M') := by
  obtain ⟨wb, hwb⟩ : ∃ wb, w.alloc (.cells #[.int .i64 5, .int .i64 a, .int .i64 b] 36) = wb := ⟨_, rfl⟩
  obtain ⟨hbb, hbx, hsz⟩ := inbox w 5 a b wb hwb
  have HB : Hid (w.alloc (.cells #[.int .i64 5, .int .i64 a, .int .i64 b] 36) = wb) := hwb
  have hlt := h.box.lt.1
  have hb := h.later hbb
  clear hwb
  go_enter Tryz.func80, Tryz.ntmps80
  go_wp2_with ((go_at_call 100; rw [HB.out]; (with_reducible refine (HX _ hb).mono ?_); rintro e w1 ⟨rfl, r1⟩))
  go_ret
  exact ⟨rfl, r1⟩
set_option maxRecDepth 100000 in
set_option maxHeartbeats 4000000 in
theorem do_6 (w0 w : World) (base mb nw : Nat) (C : Nat → Value) (M : Mc) (cl : Cl) (code : Value) (hC : CC C cl code) (a b f : Int) (M' : Mc) (h : MW w0 w base mb nw C M) (HX : ∀ W, MW w0 W base mb nw C M → Calls Tryz.prog 100 #[.pointer (some ⟨mb, 0, none⟩), .agg #[.int .i64 6, .int .i64 a, .int .i64 b]] W fun e w' => e = .returned (.int .i64 f) ∧ RS w0 w' base mb nw C M f M') :
    Calls Tryz.prog 80 #[.pointer (some ⟨mb, 0, none⟩), .agg #[.int .i64 6, .int .i64 a, .int .i64 b]] w fun e w' => e = .returned (.int .i64 f) ∧ RS w0 w' base mb nw C M f (M') := by
  obtain ⟨wb, hwb⟩ : ∃ wb, w.alloc (.cells #[.int .i64 6, .int .i64 a, .int .i64 b] 36) = wb := ⟨_, rfl⟩
  obtain ⟨hbb, hbx, hsz⟩ := inbox w 6 a b wb hwb
  have HB : Hid (w.alloc (.cells #[.int .i64 6, .int .i64 a, .int .i64 b] 36) = wb) := hwb
  have hlt := h.box.lt.1
  have hb := h.later hbb
  clear hwb
  go_enter Tryz.func80, Tryz.ntmps80
  go_wp2_with ((go_at_call 100; rw [HB.out]; (with_reducible refine (HX _ hb).mono ?_); rintro e w1 ⟨rfl, r1⟩))
  go_ret
  exact ⟨rfl, r1⟩
set_option maxRecDepth 100000 in
set_option maxHeartbeats 4000000 in
theorem do_38 (w0 w : World) (base mb nw : Nat) (C : Nat → Value) (M : Mc) (cl : Cl) (code : Value) (hC : CC C cl code) (a b f : Int) (M' : Mc) (h : MW w0 w base mb nw C M) (HX : ∀ W, MW w0 W base mb nw C M → Calls Tryz.prog 100 #[.pointer (some ⟨mb, 0, none⟩), .agg #[.int .i64 38, .int .i64 a, .int .i64 b]] W fun e w' => e = .returned (.int .i64 f) ∧ RS w0 w' base mb nw C M f M') :
    Calls Tryz.prog 80 #[.pointer (some ⟨mb, 0, none⟩), .agg #[.int .i64 38, .int .i64 a, .int .i64 b]] w fun e w' => e = .returned (.int .i64 f) ∧ RS w0 w' base mb nw C M f (M') := by
  obtain ⟨wb, hwb⟩ : ∃ wb, w.alloc (.cells #[.int .i64 38, .int .i64 a, .int .i64 b] 36) = wb := ⟨_, rfl⟩
  obtain ⟨hbb, hbx, hsz⟩ := inbox w 38 a b wb hwb
  have HB : Hid (w.alloc (.cells #[.int .i64 38, .int .i64 a, .int .i64 b] 36) = wb) := hwb
  have hlt := h.box.lt.1
  have hb := h.later hbb
  clear hwb
  go_enter Tryz.func80, Tryz.ntmps80
  go_wp2_with ((go_at_call 100; rw [HB.out]; (with_reducible refine (HX _ hb).mono ?_); rintro e w1 ⟨rfl, r1⟩))
  go_ret
  exact ⟨rfl, r1⟩
set_option maxRecDepth 100000 in
set_option maxHeartbeats 4000000 in
theorem do_pair (w0 w : World) (base mb nw : Nat) (C : Nat → Value) (M : Mc) (cl : Cl) (code : Value) (hC : CC C cl code) (o a b : Int) (hO : isPair o) (h : MW w0 w base mb nw C M) (hh : 2 ≤ M.hi) (h64 : M.hi ≤ 64) :
    Calls Tryz.prog 80 #[.pointer (some ⟨mb, 0, none⟩), .agg #[.int .i64 o, .int .i64 a, .int .i64 b]] w fun e w' => e = .returned (.int .i64 (pairV o (topM (popM M)) (topM M)).2) ∧ RS w0 w' base mb nw C M (pairV o (topM (popM M)) (topM M)).2 (pushM (popM (popM M)) (pairV o (topM (popM M)) (topM M)).1) := by
  obtain ⟨wb, hwb⟩ : ∃ wb, w.alloc (.cells #[.int .i64 o, .int .i64 a, .int .i64 b] 36) = wb := ⟨_, rfl⟩
  obtain ⟨hbb, hbx, hsz⟩ := inbox w o a b wb hwb
  have HB : Hid (w.alloc (.cells #[.int .i64 o, .int .i64 a, .int .i64 b] 36) = wb) := hwb
  have hlt := h.box.lt.1
  have hb := h.later hbb
  clear hwb
  obtain ⟨b0, b1, b2⟩ := cells3 hbx
  have hr : 0 ≤ o ∧ o < 42 := by unfold isPair at hO; omega
  obtain ⟨ok, hok⟩ : ∃ ok : Nat, o = (ok : Int) := ⟨o.toNat, by omega⟩
  have hpc : C (13 + ok) = .func (.func (pairF o)) #[] #[] := by
    have := hC.pair o hO
    rw [show o.toNat = ok by omega] at this
    exact this
  have cpair := hb.fix (k := 13 + ok) (by omega) hpc
  have i0 : (0 : Int) ≤ (ok : Int) := by omega
  have i1 : (ok : Int) < 42 := by omega
  have hn1 : M.wv.ownBlock ≠ some w.heap.size := by
    rcases h.wr.form with ⟨h1, h2⟩ | ⟨g, c, h1, h2, h3⟩
    · rw [h1]; intro e; cases e
    · rw [h1]; intro e; have : g = w.heap.size := by simpa [Value.ownBlock] using e
      omega
  have hn2 : M.ov.ownBlock ≠ some w.heap.size := by
    rcases h.out.form with ⟨h1, h2⟩ | ⟨g, c, h1, h2, h3⟩
    · rw [h1]; intro e; cases e
    · rw [h1]; intro e; have : g = w.heap.size := by simpa [Value.ownBlock] using e
      omega
  have HBD : ∀ W, W = wb.drew → MW w0 W base mb nw C M := fun W e => by rw [e]; exact hb.later ⟨rfl, rfl, rfl, Nat.le_refl _, fun _ _ => rfl⟩
  have HP := fun W hW => pair_any w0 W base mb nw C M o hO hW hh h64
  have ne : ∀ x : Int, (∀ y, isPair y → y ≠ x) → (o == x) = false := fun x hx => by simpa using hx o hO
  have n1 := ne 1 (fun y hy => by unfold isPair at hy; omega)
  have n2 := ne 2 (fun y hy => by unfold isPair at hy; omega)
  have n3 := ne 3 (fun y hy => by unfold isPair at hy; omega)
  have n4 := ne 4 (fun y hy => by unfold isPair at hy; omega)
  have n7 := ne 7 (fun y hy => by unfold isPair at hy; omega)
  have n8 := ne 8 (fun y hy => by unfold isPair at hy; omega)
  have n9 := ne 9 (fun y hy => by unfold isPair at hy; omega)
  have n10 := ne 10 (fun y hy => by unfold isPair at hy; omega)
  have n11 := ne 11 (fun y hy => by unfold isPair at hy; omega)
  have n12 := ne 12 (fun y hy => by unfold isPair at hy; omega)
  have n23 := ne 23 (fun y hy => by unfold isPair at hy; omega)
  have n24 := ne 24 (fun y hy => by unfold isPair at hy; omega)
  have n25 := ne 25 (fun y hy => by unfold isPair at hy; omega)
  have n34 := ne 34 (fun y hy => by unfold isPair at hy; omega)
  have n5 := ne 5 (fun y hy => by unfold isPair at hy; omega)
  have n6 := ne 6 (fun y hy => by unfold isPair at hy; omega)
  have n38 := ne 38 (fun y hy => by unfold isPair at hy; omega)
  have n37 := ne 37 (fun y hy => by unfold isPair at hy; omega)
  have n41 := ne 41 (fun y hy => by unfold isPair at hy; omega)
  have n39 := ne 39 (fun y hy => by unfold isPair at hy; omega)
  have n40 := ne 40 (fun y hy => by unfold isPair at hy; omega)
  clear ne hO hr
  generalize pairV o (topM (popM M)) (topM M) = pv at HP ⊢
  generalize pairF o = pf at HP cpair hpc
  subst hok
  go_enter Tryz.func80, Tryz.ntmps80
  go_wp2_with fail
  rw [HB.out]
  go_region_held3 (fun w' => w'.cell? ⟨w.heap.size, 0, none⟩ = some (.int .i64 (ok : Int)) ∧ w'.cell? ⟨mb, 13 + ok, none⟩ = some (.func (.func pf) #[] #[])) (first | exact KP | go_keep) ((go_at_call 104; (with_reducible refine (HP _ (HBD _ rfl)).mono ?_); rintro e w1 ⟨rfl, f1, m1⟩; have KP : w1.cell? ⟨w.heap.size, 0, none⟩ = some (.int .i64 (ok : Int)) ∧ w1.cell? ⟨mb, 13 + ok, none⟩ = some (.func (.func pf) #[] #[]) := ⟨(World.cell?_of_block (f1.far w.heap.size (by show w.heap.size < wb.drew.heap.size; show w.heap.size < wb.heap.size; omega) (by omega) hn1 hn2)).trans b0, m1.fix (by omega) hpc⟩))
  go_wp2
  go_ret
  exact ⟨rfl, fun _ => m1, fun _ => ⟨_, m1, rfl⟩⟩
end Go.Proofs.YtopggemomcoalaaGreat
