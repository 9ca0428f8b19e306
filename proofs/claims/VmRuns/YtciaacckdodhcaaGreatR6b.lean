import Derived.Test.YtciaacckdodhcaaGreatR4
import Derived.Test.YtciaacckdodhcaaGreatR3
import Derived.Test.YtciaacckdodhcaaGreatM11
namespace Go.Proofs.YtciaacckdodhcaaGreat
open Go.ChangeShapes Go.WideShapes Go.ChangeAt Go.RowKit
set_option linter.unusedVariables false
set_option linter.unusedSimpArgs false

theorem flip_eq (a : Int) : bits .xor .i64 (-1) a = wrap64 (wrap64 (-a) - 1) := by
  show IntKind.i64.wrap ((BitVec.ofInt 64 (-1) ^^^ BitVec.ofInt 64 a).toNat : Int) = _
  have h1 : BitVec.ofInt 64 (-1) = BitVec.allOnes 64 := by decide
  rw [h1, BitVec.allOnes_xor, BitVec.toNat_not, BitVec.toNat_ofInt, kw_eq]
  unfold wrap64
  omega
set_option maxRecDepth 100000 in
set_option maxHeartbeats 1000000 in
theorem rturn_23 (w0 w : World) (base mb nw nl : Nat) (C : Nat → Value) (M : Mc) (sv lv ov : Value) (at_ : Int) (h : RWs w0 w base mb nw nl C M sv lv ov at_) (h0 : Nat) (hh : M.hi = h0 + 1) (h64 : M.hi ≤ 64) :
    Calls Tryz.prog 67 #[.pointer (some ⟨mb, 0, none⟩), .int .i64 23] w fun e w' => e = .returned (.tuple #[]) ∧ RX w0 w' base mb nw nl C (pushM (popM M) (singleV 23 (topM M))) at_ := by
  have HG := rtake w0 w base mb nw nl C M sv lv ov at_ h h0 hh h64
  generalize topM M = T at *
  have e1 : singleV 23 T = wrap64 (-T) := rfl
  rw [e1]
  clear h hh e1
  go_enter Tryz.func67, Tryz.ntmps67
  go_wp2_with (first | (go_at_call 64; (with_reducible refine HG.mono ?_); rintro e w1 ⟨rfl, sv1, m1, hs1, o1⟩; have HG2 := rgive w0 w1 base mb nw nl C (popM M) sv1 lv ov at_ m1 (wrap64 (-T)) (by show M.hi - 1 < 64; omega)) | (go_at_call 66; (with_reducible refine HG2.mono ?_); rintro e w2 ⟨rfl, sv2, m2, f2⟩))
  go_end0
  exact ⟨rfl, _, _, _, m2⟩
set_option maxRecDepth 100000 in
set_option maxHeartbeats 1000000 in
theorem rturn_25 (w0 w : World) (base mb nw nl : Nat) (C : Nat → Value) (M : Mc) (sv lv ov : Value) (at_ : Int) (h : RWs w0 w base mb nw nl C M sv lv ov at_) (h0 : Nat) (hh : M.hi = h0 + 1) (h64 : M.hi ≤ 64) :
    Calls Tryz.prog 67 #[.pointer (some ⟨mb, 0, none⟩), .int .i64 25] w fun e w' => e = .returned (.tuple #[]) ∧ RX w0 w' base mb nw nl C (pushM (popM M) (singleV 25 (topM M))) at_ := by
  have HG := rtake w0 w base mb nw nl C M sv lv ov at_ h h0 hh h64
  generalize topM M = T at *
  have e1 : singleV 25 T = wrap64 (wrap64 (-T) - 1) := flip_eq T
  rw [e1]
  clear h hh e1
  go_enter Tryz.func67, Tryz.ntmps67
  go_wp2_with (first | (go_at_call 64; (with_reducible refine HG.mono ?_); rintro e w1 ⟨rfl, sv1, m1, hs1, o1⟩; have HG2 := rgive w0 w1 base mb nw nl C (popM M) sv1 lv ov at_ m1 (wrap64 (wrap64 (-T) - 1)) (by show M.hi - 1 < 64; omega)) | (go_at_call 66; (with_reducible refine HG2.mono ?_); rintro e w2 ⟨rfl, sv2, m2, f2⟩))
  go_end0
  exact ⟨rfl, _, _, _, m2⟩
set_option maxRecDepth 100000 in
set_option maxHeartbeats 1000000 in
theorem rturn_24 (w0 w : World) (base mb nw nl : Nat) (C : Nat → Value) (M : Mc) (sv lv ov : Value) (at_ : Int) (h : RWs w0 w base mb nw nl C M sv lv ov at_) (h0 : Nat) (hh : M.hi = h0 + 1) (h64 : M.hi ≤ 64) :
    Calls Tryz.prog 67 #[.pointer (some ⟨mb, 0, none⟩), .int .i64 24] w fun e w' => e = .returned (.tuple #[]) ∧ RX w0 w' base mb nw nl C (pushM (popM M) (singleV 24 (topM M))) at_ := by
  have HG := rtake w0 w base mb nw nl C M sv lv ov at_ h h0 hh h64
  generalize topM M = T at *
  by_cases hT : T = 0
  · have e1 : singleV 24 T = 1 := by unfold singleV; rw [if_neg (by omega), if_neg (by omega), if_pos rfl, if_pos hT]
    have q1 : (T == 0) = true := by simpa using hT
    have q2 : (T != 0) = false := by simpa using hT
    rw [e1]
    clear h hh e1 hT
    go_enter Tryz.func67, Tryz.ntmps67
    go_wp2_with (first | (go_at_call 64; (with_reducible refine HG.mono ?_); rintro e w1 ⟨rfl, sv1, m1, hs1, o1⟩; have HG2 := rgive w0 w1 base mb nw nl C (popM M) sv1 lv ov at_ m1 (1) (by show M.hi - 1 < 64; omega)) | (go_at_call 66; (with_reducible refine HG2.mono ?_); rintro e w2 ⟨rfl, sv2, m2, f2⟩) | (go_at_call 89; (with_reducible refine (rtruth _ _).mono ?_); rintro e w3 ⟨rfl, rfl⟩))
    go_end0
    exact ⟨rfl, _, _, _, m2⟩
  · have e1 : singleV 24 T = 0 := by unfold singleV; rw [if_neg (by omega), if_neg (by omega), if_pos rfl, if_neg hT]
    have q1 : (T == 0) = false := by simpa using hT
    have q2 : (T != 0) = true := by simpa using hT
    rw [e1]
    clear h hh e1 hT
    go_enter Tryz.func67, Tryz.ntmps67
    go_wp2_with (first | (go_at_call 64; (with_reducible refine HG.mono ?_); rintro e w1 ⟨rfl, sv1, m1, hs1, o1⟩; have HG2 := rgive w0 w1 base mb nw nl C (popM M) sv1 lv ov at_ m1 (0) (by show M.hi - 1 < 64; omega)) | (go_at_call 66; (with_reducible refine HG2.mono ?_); rintro e w2 ⟨rfl, sv2, m2, f2⟩) | (go_at_call 89; (with_reducible refine (rtruth _ _).mono ?_); rintro e w3 ⟨rfl, rfl⟩))
    go_end0
    exact ⟨rfl, _, _, _, m2⟩
set_option maxRecDepth 100000 in
set_option maxHeartbeats 1000000 in
theorem rturn_34 (w0 w : World) (base mb nw nl : Nat) (C : Nat → Value) (M : Mc) (sv lv ov : Value) (at_ : Int) (h : RWs w0 w base mb nw nl C M sv lv ov at_) (h0 : Nat) (hh : M.hi = h0 + 1) (h64 : M.hi ≤ 64) :
    Calls Tryz.prog 67 #[.pointer (some ⟨mb, 0, none⟩), .int .i64 34] w fun e w' => e = .returned (.tuple #[]) ∧ RX w0 w' base mb nw nl C (pushM (popM M) (singleV 34 (topM M))) at_ := by
  have HG := rtake w0 w base mb nw nl C M sv lv ov at_ h h0 hh h64
  generalize topM M = T at *
  by_cases hT : T = 0
  · have e1 : singleV 34 T = 0 := by unfold singleV; rw [if_neg (by omega), if_neg (by omega), if_neg (by omega), if_pos hT]
    have q1 : (T == 0) = true := by simpa using hT
    have q2 : (T != 0) = false := by simpa using hT
    rw [e1]
    clear h hh e1 hT
    go_enter Tryz.func67, Tryz.ntmps67
    go_wp2_with (first | (go_at_call 64; (with_reducible refine HG.mono ?_); rintro e w1 ⟨rfl, sv1, m1, hs1, o1⟩; have HG2 := rgive w0 w1 base mb nw nl C (popM M) sv1 lv ov at_ m1 (0) (by show M.hi - 1 < 64; omega)) | (go_at_call 66; (with_reducible refine HG2.mono ?_); rintro e w2 ⟨rfl, sv2, m2, f2⟩) | (go_at_call 89; (with_reducible refine (rtruth _ _).mono ?_); rintro e w3 ⟨rfl, rfl⟩))
    go_end0
    exact ⟨rfl, _, _, _, m2⟩
  · have e1 : singleV 34 T = 1 := by unfold singleV; rw [if_neg (by omega), if_neg (by omega), if_neg (by omega), if_neg hT]
    have q1 : (T == 0) = false := by simpa using hT
    have q2 : (T != 0) = true := by simpa using hT
    rw [e1]
    clear h hh e1 hT
    go_enter Tryz.func67, Tryz.ntmps67
    go_wp2_with (first | (go_at_call 64; (with_reducible refine HG.mono ?_); rintro e w1 ⟨rfl, sv1, m1, hs1, o1⟩; have HG2 := rgive w0 w1 base mb nw nl C (popM M) sv1 lv ov at_ m1 (1) (by show M.hi - 1 < 64; omega)) | (go_at_call 66; (with_reducible refine HG2.mono ?_); rintro e w2 ⟨rfl, sv2, m2, f2⟩) | (go_at_call 89; (with_reducible refine (rtruth _ _).mono ?_); rintro e w3 ⟨rfl, rfl⟩))
    go_end0
    exact ⟨rfl, _, _, _, m2⟩
end Go.Proofs.YtciaacckdodhcaaGreat
namespace Go.Proofs.YtciaacckdodhcaaGreat
open Go.ChangeShapes Go.WideShapes Go.ChangeAt Go.RowKit
set_option linter.unusedVariables false
set_option linter.unusedSimpArgs false

set_option maxRecDepth 100000 in
set_option maxHeartbeats 1000000 in
theorem rrow_5_bad (w0 w : World) (base mb nw nl : Nat) (C : Nat → Value) (M : Mc) (sv lv ov : Value) (at_ : Int) (a : Nat) (b : Int) (h : RWs w0 w base mb nw nl C M sv lv ov at_) (h0 : Nat) (hh : M.hi = h0 + 1) (h64 : M.hi ≤ 64) (hT : topM M < 0 ∨ b ≤ topM M) :
    Calls Tryz.prog 68 #[.pointer (some ⟨mb, 0, none⟩), .agg #[.int .i64 5, .int .i64 (a : Int), .int .i64 b]] w fun e w' => e = .returned (.int .i64 203) ∧ Below base w0 w' := by
  obtain ⟨wb, hwb⟩ : ∃ wb, w.alloc (.cells #[.int .i64 5, .int .i64 (a : Int), .int .i64 b] 70) = wb := ⟨_, rfl⟩
  obtain ⟨hbb, hbx, hsz⟩ := ibox w 5 (a : Int) b wb hwb
  have hb := h.later hbb
  have hmb : mb < w.heap.size := h.box.lt.1
  have hmx : w.heap.size ≠ mb := by omega
  have HWB : Hid (w.alloc (.cells #[.int .i64 5, .int .i64 (a : Int), .int .i64 b] 70) = wb) := hwb
  have HG := rtake w0 wb base mb nw nl C M sv lv ov at_ hb (h0) (by omega) h64
  generalize hT2 : topM M = T at *
  clear hwb h
  by_cases c0 : T < 0
  · have d0 : decide (T < 0) = true := decide_eq_true c0
    clear c0 hT hh h64
    go_enter Tryz.func68, Tryz.ntmps68
    go_wp2_with ((go_at_call 64; (first | (rw [HWB.out]; (with_reducible refine HG.mono ?_); rintro e w1 ⟨rfl, sv1, m1, hs1, o1⟩; clear HG; obtain ⟨b0, b1, b2⟩ := cells3' ((o1.far w.heap.size hmx).trans hbx)))))
    go_ret
    exact ⟨rfl, m1.bel⟩
  · have d0 : decide (T < 0) = false := decide_eq_false c0
    have d1 : decide (b ≤ T) = true := decide_eq_true (by omega)
    clear c0 hT hh h64
    go_enter Tryz.func68, Tryz.ntmps68
    go_wp2_with ((go_at_call 64; (first | (rw [HWB.out]; (with_reducible refine HG.mono ?_); rintro e w1 ⟨rfl, sv1, m1, hs1, o1⟩; clear HG; obtain ⟨b0, b1, b2⟩ := cells3' ((o1.far w.heap.size hmx).trans hbx)))))
    go_ret
    exact ⟨rfl, m1.bel⟩
set_option maxRecDepth 100000 in
set_option maxHeartbeats 1000000 in
theorem rrow_38_bad (w0 w : World) (base mb nw nl : Nat) (C : Nat → Value) (M : Mc) (sv lv ov : Value) (at_ : Int) (a : Nat) (b : Int) (h : RWs w0 w base mb nw nl C M sv lv ov at_) (h0 : Nat) (hh : M.hi = h0 + 1) (h64 : M.hi ≤ 64) (hT : topM M < 0 ∨ b ≤ topM M) :
    Calls Tryz.prog 68 #[.pointer (some ⟨mb, 0, none⟩), .agg #[.int .i64 38, .int .i64 (a : Int), .int .i64 b]] w fun e w' => e = .returned (.int .i64 203) ∧ Below base w0 w' := by
  obtain ⟨wb, hwb⟩ : ∃ wb, w.alloc (.cells #[.int .i64 38, .int .i64 (a : Int), .int .i64 b] 70) = wb := ⟨_, rfl⟩
  obtain ⟨hbb, hbx, hsz⟩ := ibox w 38 (a : Int) b wb hwb
  have hb := h.later hbb
  have hmb : mb < w.heap.size := h.box.lt.1
  have hmx : w.heap.size ≠ mb := by omega
  have HWB : Hid (w.alloc (.cells #[.int .i64 38, .int .i64 (a : Int), .int .i64 b] 70) = wb) := hwb
  have HG := rtake w0 wb base mb nw nl C M sv lv ov at_ hb (h0) (by omega) h64
  generalize hT2 : topM M = T at *
  clear hwb h
  by_cases c0 : T < 0
  · have d0 : decide (T < 0) = true := decide_eq_true c0
    clear c0 hT hh h64
    go_enter Tryz.func68, Tryz.ntmps68
    go_wp2_with ((go_at_call 64; (first | (rw [HWB.out]; (with_reducible refine HG.mono ?_); rintro e w1 ⟨rfl, sv1, m1, hs1, o1⟩; clear HG; obtain ⟨b0, b1, b2⟩ := cells3' ((o1.far w.heap.size hmx).trans hbx)))))
    go_ret
    exact ⟨rfl, m1.bel⟩
  · have d0 : decide (T < 0) = false := decide_eq_false c0
    have d1 : decide (b ≤ T) = true := decide_eq_true (by omega)
    clear c0 hT hh h64
    go_enter Tryz.func68, Tryz.ntmps68
    go_wp2_with ((go_at_call 64; (first | (rw [HWB.out]; (with_reducible refine HG.mono ?_); rintro e w1 ⟨rfl, sv1, m1, hs1, o1⟩; clear HG; obtain ⟨b0, b1, b2⟩ := cells3' ((o1.far w.heap.size hmx).trans hbx)))))
    go_ret
    exact ⟨rfl, m1.bel⟩
set_option maxRecDepth 100000 in
set_option maxHeartbeats 1000000 in
theorem rrow_6_bad (w0 w : World) (base mb nw nl : Nat) (C : Nat → Value) (M : Mc) (sv lv ov : Value) (at_ : Int) (a : Nat) (b : Int) (h : RWs w0 w base mb nw nl C M sv lv ov at_) (h0 : Nat) (hh : M.hi = h0 + 2) (h64 : M.hi ≤ 64) (hT : topM (popM M) < 0 ∨ b ≤ topM (popM M)) :
    Calls Tryz.prog 68 #[.pointer (some ⟨mb, 0, none⟩), .agg #[.int .i64 6, .int .i64 (a : Int), .int .i64 b]] w fun e w' => e = .returned (.int .i64 203) ∧ Below base w0 w' := by
  obtain ⟨wb, hwb⟩ : ∃ wb, w.alloc (.cells #[.int .i64 6, .int .i64 (a : Int), .int .i64 b] 70) = wb := ⟨_, rfl⟩
  obtain ⟨hbb, hbx, hsz⟩ := ibox w 6 (a : Int) b wb hwb
  have hb := h.later hbb
  have hmb : mb < w.heap.size := h.box.lt.1
  have hmx : w.heap.size ≠ mb := by omega
  have HWB : Hid (w.alloc (.cells #[.int .i64 6, .int .i64 (a : Int), .int .i64 b] 70) = wb) := hwb
  have HG := rtake w0 wb base mb nw nl C M sv lv ov at_ hb (h0 + 1) (by omega) h64
  generalize hT1 : topM M = T1 at *
  generalize hT2 : topM (popM M) = T at *
  clear hwb h
  by_cases c0 : T < 0
  · have d0 : decide (T < 0) = true := decide_eq_true c0
    clear c0 hT
    go_enter Tryz.func68, Tryz.ntmps68
    go_wp2_with (first | (go_at_call 64; (first | (rw [HWB.out]; (with_reducible refine HG.mono ?_); rintro e w1 ⟨rfl, sv1, m1, hs1, o1⟩; clear HG; have HG2 := rtake w0 w1 base mb nw nl C (popM M) sv1 lv ov at_ m1 h0 (by show M.hi - 1 = h0 + 1; omega) (by show M.hi - 1 ≤ 64; omega); rw [hT2] at HG2))) | (go_at_call 64; (with_reducible refine HG2.mono ?_); rintro e w2 ⟨rfl, sv2, m2, hs2, o2⟩; obtain ⟨b0, b1, b2⟩ := cells3' ((o2.far w.heap.size hmx).trans ((o1.far w.heap.size hmx).trans hbx))))
    go_ret
    exact ⟨rfl, m2.bel⟩
  · have d0 : decide (T < 0) = false := decide_eq_false c0
    have d1 : decide (b ≤ T) = true := decide_eq_true (by omega)
    clear c0 hT
    go_enter Tryz.func68, Tryz.ntmps68
    go_wp2_with (first | (go_at_call 64; (first | (rw [HWB.out]; (with_reducible refine HG.mono ?_); rintro e w1 ⟨rfl, sv1, m1, hs1, o1⟩; clear HG; have HG2 := rtake w0 w1 base mb nw nl C (popM M) sv1 lv ov at_ m1 h0 (by show M.hi - 1 = h0 + 1; omega) (by show M.hi - 1 ≤ 64; omega); rw [hT2] at HG2))) | (go_at_call 64; (with_reducible refine HG2.mono ?_); rintro e w2 ⟨rfl, sv2, m2, hs2, o2⟩; obtain ⟨b0, b1, b2⟩ := cells3' ((o2.far w.heap.size hmx).trans ((o1.far w.heap.size hmx).trans hbx))))
    go_ret
    exact ⟨rfl, m2.bel⟩
set_option maxRecDepth 100000 in
set_option maxHeartbeats 1000000 in
theorem rrow_38_ok (w0 w : World) (base mb nw nl : Nat) (C : Nat → Value) (M : Mc) (sv lv ov : Value) (at_ : Int) (a : Nat) (b : Int) (h : RWs w0 w base mb nw nl C M sv lv ov at_) (h0 : Nat) (hh : M.hi = h0 + 1) (h64 : M.hi ≤ 64) (k : Nat) (hT : topM M = (k : Int)) (hk : (k : Int) < b) (hak : a + k ≤ 64) :
    Calls Tryz.prog 68 #[.pointer (some ⟨mb, 0, none⟩), .agg #[.int .i64 38, .int .i64 (a : Int), .int .i64 b]] w fun e w' => e = .returned (.int .i64 0) ∧ RX w0 w' base mb nw nl C (pushM (popM M) ((a : Int) + (k : Int))) at_ := by
  obtain ⟨wb, hwb⟩ : ∃ wb, w.alloc (.cells #[.int .i64 38, .int .i64 (a : Int), .int .i64 b] 70) = wb := ⟨_, rfl⟩
  obtain ⟨hbb, hbx, hsz⟩ := ibox w 38 (a : Int) b wb hwb
  have hb := h.later hbb
  have hmb : mb < w.heap.size := h.box.lt.1
  have hmx : w.heap.size ≠ mb := by omega
  have HWB : Hid (w.alloc (.cells #[.int .i64 38, .int .i64 (a : Int), .int .i64 b] 70) = wb) := hwb
  have HG := rtake w0 wb base mb nw nl C M sv lv ov at_ hb h0 hh h64
  rw [hT] at HG
  have d0 : decide ((k : Int) < 0) = false := decide_eq_false (by omega)
  have d1 : decide (b ≤ (k : Int)) = false := decide_eq_false (by omega)
  have hw : wrap64 ((a : Int) + (k : Int)) = (a : Int) + (k : Int) := by unfold wrap64; omega
  clear hwb h hT
  go_enter Tryz.func68, Tryz.ntmps68
  go_wp2_with (first | (go_at_call 64; (first | (rw [HWB.out]; (with_reducible refine HG.mono ?_); rintro e w1 ⟨rfl, sv1, m1, hs1, o1⟩; clear HG; obtain ⟨b0, b1, b2⟩ := cells3' ((o1.far w.heap.size hmx).trans hbx); have HG2 := rgive w0 w1 base mb nw nl C (popM M) sv1 lv ov at_ m1 ((a : Int) + (k : Int)) (by show M.hi - 1 < 64; omega)))) | (go_at_call 66; (with_reducible refine HG2.mono ?_); rintro e w2 ⟨rfl, sv2, m2, f2⟩))
  go_ret
  exact ⟨rfl, _, _, _, m2⟩
end Go.Proofs.YtciaacckdodhcaaGreat
namespace Go.Proofs.YtciaacckdodhcaaGreat
open Go.ChangeShapes Go.WideShapes Go.ChangeAt Go.RowKit
set_option linter.unusedVariables false
set_option linter.unusedSimpArgs false

theorem wk (a k : Nat) (h : a + k < 64) : wrap64 ((a : Int) + (k : Int)) = (a : Int) + (k : Int) ∧ IntKind.i64.wrap ((a : Int) + (k : Int)) = (a : Int) + (k : Int) ∧ ((a : Int) + (k : Int)).toNat = a + k := by
  refine ⟨by unfold wrap64; omega, by rw [IntKind.wrap_i64]; omega, by omega⟩
set_option maxRecDepth 100000 in
set_option maxHeartbeats 2000000 in
theorem rrow_5_ok (w0 w : World) (base mb nw nl : Nat) (C : Nat → Value) (M : Mc) (sv lv ov : Value) (at_ : Int) (a : Nat) (b : Int) (h : RWs w0 w base mb nw nl C M sv lv ov at_) (h0 : Nat) (hh : M.hi = h0 + 1) (h64 : M.hi ≤ 64) (k : Nat) (hT : topM M = (k : Int)) (hk : (k : Int) < b) (hak : a + k < nw) (hn : nw ≤ 64) :
    Calls Tryz.prog 68 #[.pointer (some ⟨mb, 0, none⟩), .agg #[.int .i64 5, .int .i64 (a : Int), .int .i64 b]] w fun e w' => e = .returned (.int .i64 0) ∧ RX w0 w' base mb nw nl C (pushM (popM M) (M.wd (a + k))) at_ := by
  obtain ⟨wb, hwb⟩ : ∃ wb, w.alloc (.cells #[.int .i64 5, .int .i64 (a : Int), .int .i64 b] 70) = wb := ⟨_, rfl⟩
  obtain ⟨hbb, hbx, hsz⟩ := ibox w 5 (a : Int) b wb hwb
  have hb := h.later hbb
  have hmb : mb < w.heap.size := h.box.lt.1
  have hmx : w.heap.size ≠ mb := by omega
  have HWB : Hid (w.alloc (.cells #[.int .i64 5, .int .i64 (a : Int), .int .i64 b] 70) = wb) := hwb
  obtain ⟨gw, cw, hwv, hgb, hgl⟩ : ∃ g cap, M.wv = .slice (some ⟨g, 0, none⟩) nw cap ∧ base ≤ g ∧ g < w.heap.size := by
    rcases h.wr.form with ⟨e1, e2⟩ | hx
    · omega
    · exact hx
  have HWV : Hid (M.wv = .slice (some ⟨gw, 0, none⟩) nw cw) := hwv
  have hne := h.lts 3
  have hgm : gw ≠ mb := fun e => h.ap 1 0 (by omega) (by omega) (by omega) gw (by show M.wv.ownBlock = some gw; rw [hwv]; rfl) (by rw [e]; rfl)
  have hgx : gw ≠ w.heap.size := by omega
  have hsvb : sv.ownBlock ≠ some w.heap.size := fun e => by have := (hne w.heap.size (by omega) e).1; omega
  have i0 : (0 : Int) ≤ (a : Int) + (k : Int) := by omega
  have i1 : (a : Int) + (k : Int) < (nw : Int) := by omega
  have d0 : decide ((k : Int) < 0) = false := decide_eq_false (by omega)
  have d1 : decide (b ≤ (k : Int)) = false := decide_eq_false (by omega)
  have HG := rtake w0 wb base mb nw nl C M sv lv ov at_ hb h0 hh h64
  rw [hT] at HG
  clear hwb h hT hwv hne
  go_enter Tryz.func68, Tryz.ntmps68
  go_wp2_with ((go_at_call 64; (first | (rw [HWB.out]; (with_reducible refine HG.mono ?_); rintro e w1 ⟨rfl, sv1, m1, hs1, o1⟩; clear HG; obtain ⟨b0, b1, b2⟩ := cells3' ((o1.far w.heap.size hmx).trans hbx)))))
  have hbx1 := (o1.far w.heap.size hmx).trans hbx
  have md := m1.later (below_drewNq _ w1 1)
  have HG2 := rgive w0 w1.drew base mb nw nl C (popM M) sv1 lv ov at_ md (M.wd (a + k)) (by show M.hi - 1 < 64; omega)
  have c16 : w1.drew.cell? ⟨mb, 16, none⟩ = some (.slice (some ⟨gw, 0, none⟩) nw cw) := (md.box.cell 16 (by omega)).trans (congrArg some HWV.out)
  have c16b : w1.cell? ⟨mb, 16, none⟩ = some (.slice (some ⟨gw, 0, none⟩) nw cw) := c16
  have hwr := md.wr
  rw [show (popM M).wv = M.wv from rfl, HWV.out] at hwr
  have cw0 : w1.drew.cell? ⟨gw, a + k, none⟩ = some (.int .i64 (M.wd (a + k))) := hwr.cell (by omega)
  have cw1 : w1.cell? ⟨gw, a + k, none⟩ = some (.int .i64 (M.wd (a + k))) := cw0
  have hakm : a + k < nw * 1 := by omega
  have b1d : w1.drew.cell? ⟨w.heap.size, 1, none⟩ = some (.int .i64 (a : Int)) := b1
  have hsz1 : w.heap.size < w1.heap.size := (Array.getElem?_eq_some_iff.1 hbx1).1
  have hsv1 : sv1.ownBlock ≠ some w.heap.size := by rw [hs1]; exact hsvb
  clear hwr
  obtain ⟨hwk, jw, i2⟩ := wk a k (Nat.lt_of_lt_of_le hak hn)
  go_region_held3 (fun W => W.cell? ⟨mb, 16, none⟩ = some (.slice (some ⟨gw, 0, none⟩) nw cw) ∧ W.cell? ⟨w.heap.size, 1, none⟩ = some (.int .i64 (a : Int)) ∧ W.cell? ⟨gw, a + k, none⟩ = some (.int .i64 (M.wd (a + k)))) (first | exact ⟨c16, b1d, cw0⟩ | exact KP | go_keep) ((go_at_call 66; (with_reducible refine HG2.mono ?_); rintro e w2 ⟨rfl, sv2, m2, f2⟩; have KP : w2.cell? ⟨mb, 16, none⟩ = some (.slice (some ⟨gw, 0, none⟩) nw cw) ∧ w2.cell? ⟨w.heap.size, 1, none⟩ = some (.int .i64 (a : Int)) ∧ w2.cell? ⟨gw, a + k, none⟩ = some (.int .i64 (M.wd (a + k))) := ⟨(m2.box.cell 16 (by decide)).trans (congrArg some HWV.out), (World.cell?_of_block (a := ⟨w.heap.size, 1, none⟩) (f2.far w.heap.size hsz1 (by omega) hsv1)).trans b1d, (by have hx := m2.wr; rw [show (pushM (popM M) (M.wd (a + k))).wv = M.wv from rfl, HWV.out] at hx; exact hx.cell hakm)⟩))
  go_wp2
  go_ret
  exact ⟨rfl, _, _, _, m2⟩
set_option maxRecDepth 100000 in
set_option maxHeartbeats 2000000 in
theorem rrow_6_ok (w0 w : World) (base mb nw nl : Nat) (C : Nat → Value) (M : Mc) (sv lv ov : Value) (at_ : Int) (a : Nat) (b : Int) (h : RWs w0 w base mb nw nl C M sv lv ov at_) (h0 : Nat) (hh : M.hi = h0 + 2) (h64 : M.hi ≤ 64) (k : Nat) (hT : topM (popM M) = (k : Int)) (hk : (k : Int) < b) (hak : a + k < nw) (hn : nw ≤ 64) :
    Calls Tryz.prog 68 #[.pointer (some ⟨mb, 0, none⟩), .agg #[.int .i64 6, .int .i64 (a : Int), .int .i64 b]] w fun e w' => e = .returned (.int .i64 0) ∧ RX w0 w' base mb nw nl C { popM (popM M) with wd := updI M.wd (a + k) (topM M) } at_ := by
  obtain ⟨wb, hwb⟩ : ∃ wb, w.alloc (.cells #[.int .i64 6, .int .i64 (a : Int), .int .i64 b] 70) = wb := ⟨_, rfl⟩
  obtain ⟨hbb, hbx, hsz⟩ := ibox w 6 (a : Int) b wb hwb
  have hb := h.later hbb
  have hmb : mb < w.heap.size := h.box.lt.1
  have hmx : w.heap.size ≠ mb := by omega
  have HWB : Hid (w.alloc (.cells #[.int .i64 6, .int .i64 (a : Int), .int .i64 b] 70) = wb) := hwb
  obtain ⟨gw, cw, hwv, hgb, hgl⟩ : ∃ g cap, M.wv = .slice (some ⟨g, 0, none⟩) nw cap ∧ base ≤ g ∧ g < w.heap.size := by
    rcases h.wr.form with ⟨e1, e2⟩ | hx
    · omega
    · exact hx
  have HWV : Hid (M.wv = .slice (some ⟨gw, 0, none⟩) nw cw) := hwv
  have hne := h.lts 3
  have hgm : gw ≠ mb := fun e => h.ap 1 0 (by omega) (by omega) (by omega) gw (by show M.wv.ownBlock = some gw; rw [hwv]; rfl) (by rw [e]; rfl)
  have hgx : gw ≠ w.heap.size := by omega
  have hsvb : sv.ownBlock ≠ some w.heap.size := fun e => by have := (hne w.heap.size (by omega) e).1; omega
  have i0 : (0 : Int) ≤ (a : Int) + (k : Int) := by omega
  have i1 : (a : Int) + (k : Int) < (nw : Int) := by omega
  have d0 : decide ((k : Int) < 0) = false := decide_eq_false (by omega)
  have d1 : decide (b ≤ (k : Int)) = false := decide_eq_false (by omega)
  have HG := rtake w0 wb base mb nw nl C M sv lv ov at_ hb (h0 + 1) (by omega) h64
  generalize hT1 : topM M = T1 at *
  clear hwb h hwv hne
  go_enter Tryz.func68, Tryz.ntmps68
  go_wp2_with (first | (go_at_call 64; (first | (rw [HWB.out]; (with_reducible refine HG.mono ?_); rintro e w1 ⟨rfl, sv1, m1, hs1, o1⟩; clear HG; have HG2 := rtake w0 w1 base mb nw nl C (popM M) sv1 lv ov at_ m1 h0 (by show M.hi - 1 = h0 + 1; omega) (by show M.hi - 1 ≤ 64; omega); rw [hT] at HG2))) | (go_at_call 64; (with_reducible refine HG2.mono ?_); rintro e w2 ⟨rfl, sv2, m2, hs2, o2⟩; obtain ⟨b0, b1, b2⟩ := cells3' ((o2.far w.heap.size hmx).trans ((o1.far w.heap.size hmx).trans hbx))))
  have md := m2.later (below_drewNq _ w2 1)
  have c16 : w2.drew.cell? ⟨mb, 16, none⟩ = some (.slice (some ⟨gw, 0, none⟩) nw cw) := (md.box.cell 16 (by omega)).trans (congrArg some HWV.out)
  have c16b : w2.cell? ⟨mb, 16, none⟩ = some (.slice (some ⟨gw, 0, none⟩) nw cw) := c16
  have hwr := md.wr
  rw [show (popM (popM M)).wv = M.wv from rfl, HWV.out] at hwr
  have cw0 : w2.drew.cell? ⟨gw, a + k, none⟩ = some (.int .i64 (M.wd (a + k))) := hwr.cell (by omega)
  have cw1 : w2.cell? ⟨gw, a + k, none⟩ = some (.int .i64 (M.wd (a + k))) := cw0
  have fw : w2.drew.frozen? ⟨gw, a + k, none⟩ = false := by
    obtain ⟨cur, k1, _⟩ := hwr.block
    exact frz' k1 (a + k)
  have fw1 : w2.frozen? ⟨gw, a + k, none⟩ = false := fw
  have hakm : a + k < nw * 1 := by omega
  have b1d : w2.drew.cell? ⟨w.heap.size, 1, none⟩ = some (.int .i64 (a : Int)) := b1
  obtain ⟨hwk, jw, i2⟩ := wk a k (Nat.lt_of_lt_of_le hak hn)
  go_region_held3 (fun W => W.cell? ⟨mb, 16, none⟩ = some (.slice (some ⟨gw, 0, none⟩) nw cw) ∧ W.cell? ⟨w.heap.size, 1, none⟩ = some (.int .i64 (a : Int))) (first | exact ⟨c16, b1d⟩ | exact ⟨(World.cell?_of_block (Below.heap_setCell _ ⟨gw, a + k, none⟩ _ mb (fun e => hgm e.symm))).trans c16, (World.cell?_of_block (Below.heap_setCell _ ⟨gw, a + k, none⟩ _ w.heap.size (fun e => hgx e.symm))).trans b1d⟩ | go_keep) (fail)
  go_wp2
  go_ret
  refine ⟨rfl, sv2, lv, ov, md.setRow (M' := { popM (popM M) with wd := updI M.wd (a + k) T1 }) 1 gw (a + k) _ (.inl rfl) ?_ rfl rfl rfl rfl rfl rfl rfl ?_ ?_⟩
  · show M.wv.ownBlock = some gw
    rw [HWV.out]; rfl
  · show Own _ base 2 1 M.wv nw _
    rw [HWV.out]
    exact own_set hwr (a + k) T1
  · refine md.lo.keptBy (grown_set _ gw (a + k) _) (fun k' hk' => ?_)
    have := md.ap 1 4 (by decide) (by decide) (by decide) gw (by show M.wv.ownBlock = some gw; rw [HWV.out]; rfl)
    rw [show bks mb (popM (popM M)).wv ov sv2 lv 4 = lv.ownBlock from rfl, hk'] at this
    exact fun e => this e.symm
end Go.Proofs.YtciaacckdodhcaaGreat
