import Derived.Test.YtopggemomcoalaaGreatJV3
import Derived.Test.YtopggemomcoalaaGreatJV5
import Derived.Deep.RegionHeld3
import Derived.BigQuiet
namespace Go.Proofs.YtopggemomcoalaaGreat
open Go.ChangeShapes Go.WideShapes Go.ChangeAt Go.RowKit
set_option linter.unusedVariables false

/-! ### the machine's box -/
structure Mc where
  wv : Value
  wd : Nat → Int
  on : Nat
  oF : Nat → Value
  dice : Int
  sent : Int
  lo : Nat → Int
  st : Nat → Int
  hi : Nat
  ov : Value
  used : Int
/-- its cells: the first 55 are never written -/
def mF (C : Nat → Value) (M : Mc) (k : Nat) : Value :=
  if k < 55 then C k else if k = 55 then M.wv else if k = 56 then .int .u64 M.dice else if k = 57 then .int .u64 M.sent
  else if k < 90 then .int .i64 (M.lo (k - 58)) else if k < 154 then .int .i64 (M.st (k - 90))
  else if k = 154 then .int .i64 M.hi else if k = 155 then M.ov else .int .i64 M.used
def MB (W : World) (base mb : Nat) (C : Nat → Value) (M : Mc) : Prop := Own W base 90 157 (.slice (some ⟨mb, 0, none⟩) 1 1) 1 (mF C M)
theorem MB.cell {W : World} {base mb : Nat} {C : Nat → Value} {M : Mc} (h : MB W base mb C M) (k : Nat) (hk : k < 157) : W.cell? ⟨mb, k, none⟩ = some (mF C M k) := Own.cell h (by omega)
theorem MB.frozen {W : World} {base mb : Nat} {C : Nat → Value} {M : Mc} (h : MB W base mb C M) (k : Nat) : W.frozen? ⟨mb, k, none⟩ = false := by
  obtain ⟨cur, h1, _⟩ := Own.block h
  simp [World.frozen?, h1]
theorem MB.lt {W : World} {base mb : Nat} {C : Nat → Value} {M : Mc} (h : MB W base mb C M) : mb < W.heap.size ∧ base ≤ mb := by
  obtain ⟨cur, h1, _, _, _, h5, _⟩ := Own.block h
  exact ⟨(Array.getElem?_eq_some_iff.1 h1).1, h5⟩
theorem MB.far {W W' : World} {base mb : Nat} {C : Nat → Value} {M : Mc} (h : MB W base mb C M) (hk : W'.heap[mb]? = W.heap[mb]?) : MB W' base mb C M := Own.far h fun k e => by cases e; exact hk
theorem MB.put {W : World} {base mb : Nat} {C : Nat → Value} {M M' : Mc} (h : MB W base mb C M) (k : Nat) (v : Value) (hv : mF C M' k = v) (he : ∀ j, j < 157 → j ≠ k → mF C M j = mF C M' j) : MB (W.setCell ⟨mb, k, none⟩ v) base mb C M' := by
  refine Own.congr (Own.put h k [v]) fun j hj => ?_
  unfold putF
  by_cases e : j = k
  · subst e
    rw [if_pos (by simp)]
    simp [hv]
  · rw [if_neg (by simp; omega)]
    exact he j (by omega) e
theorem mF_fix (C : Nat → Value) (M : Mc) {k : Nat} (h : k < 55) : mF C M k = C k := by unfold mF; rw [if_pos h]
theorem mF_wv (C : Nat → Value) (M : Mc) : mF C M 55 = M.wv := rfl
theorem mF_dice (C : Nat → Value) (M : Mc) : mF C M 56 = .int .u64 M.dice := rfl
theorem mF_sent (C : Nat → Value) (M : Mc) : mF C M 57 = .int .u64 M.sent := rfl
theorem mF_hi (C : Nat → Value) (M : Mc) : mF C M 154 = .int .i64 M.hi := rfl
theorem mF_ov (C : Nat → Value) (M : Mc) : mF C M 155 = M.ov := rfl
theorem mF_used (C : Nat → Value) (M : Mc) : mF C M 156 = .int .i64 M.used := rfl
theorem mF_lo (C : Nat → Value) (M : Mc) {j : Nat} (h : j < 32) : mF C M (58 + j) = .int .i64 (M.lo j) := by
  unfold mF
  rw [if_neg (by omega), if_neg (by omega), if_neg (by omega), if_neg (by omega), if_pos (by omega), show 58 + j - 58 = j by omega]
theorem mF_st (C : Nat → Value) (M : Mc) {j : Nat} (h : j < 64) : mF C M (90 + j) = .int .i64 (M.st j) := by
  unfold mF
  rw [if_neg (by omega), if_neg (by omega), if_neg (by omega), if_neg (by omega), if_neg (by omega), if_pos (by omega), show 90 + j - 90 = j by omega]
theorem MB.setSt {W : World} {base mb : Nat} {C : Nat → Value} {M : Mc} (h : MB W base mb C M) {j : Nat} (hj : j < 64) (x : Int) : MB (W.setCell ⟨mb, 90 + j, none⟩ (.int .i64 x)) base mb C { M with st := updI M.st j x } := by
  refine h.put _ _ (by rw [mF_st _ _ hj]; show Value.int .i64 (updI M.st j x j) = _; rw [updI_at]) fun i hi hne => ?_
  unfold mF
  repeat' split
  all_goals first | rfl | skip
  show Value.int .i64 (M.st (i - 90)) = Value.int .i64 (updI M.st j x (i - 90))
  rw [updI_ne _ _ (by omega)]
theorem MB.setLo {W : World} {base mb : Nat} {C : Nat → Value} {M : Mc} (h : MB W base mb C M) {j : Nat} (hj : j < 32) (x : Int) : MB (W.setCell ⟨mb, 58 + j, none⟩ (.int .i64 x)) base mb C { M with lo := updI M.lo j x } := by
  refine h.put _ _ (by rw [mF_lo _ _ hj]; show Value.int .i64 (updI M.lo j x j) = _; rw [updI_at]) fun i hi hne => ?_
  unfold mF
  repeat' split
  all_goals first | rfl | skip
  show Value.int .i64 (M.lo (i - 58)) = Value.int .i64 (updI M.lo j x (i - 58))
  rw [updI_ne _ _ (by omega)]
theorem MB.setHi {W : World} {base mb : Nat} {C : Nat → Value} {M : Mc} (h : MB W base mb C M) (x : Nat) : MB (W.setCell ⟨mb, 154, none⟩ (.int .i64 x)) base mb C { M with hi := x } := by
  refine h.put _ _ rfl fun i hi hne => ?_
  unfold mF
  repeat' split
  all_goals first | rfl | omega
theorem MB.setUsed {W : World} {base mb : Nat} {C : Nat → Value} {M : Mc} (h : MB W base mb C M) (x : Int) : MB (W.setCell ⟨mb, 156, none⟩ (.int .i64 x)) base mb C { M with used := x } := by
  refine h.put _ _ rfl fun i hi hne => ?_
  unfold mF
  repeat' split
  all_goals first | rfl | omega
theorem MB.setOv {W : World} {base mb : Nat} {C : Nat → Value} {M : Mc} (h : MB W base mb C M) (x : Value) : MB (W.setCell ⟨mb, 155, none⟩ x) base mb C { M with ov := x } := by
  refine h.put _ _ rfl fun i hi hne => ?_
  unfold mF
  repeat' split
  all_goals first | rfl | omega
theorem MB.setDice {W : World} {base mb : Nat} {C : Nat → Value} {M : Mc} (h : MB W base mb C M) (x : Int) : MB (W.setCell ⟨mb, 56, none⟩ (.int .u64 x)) base mb C { M with dice := x } := by
  refine h.put _ _ rfl fun i hi hne => ?_
  unfold mF
  repeat' split
  all_goals first | rfl | omega
theorem MB.setSent {W : World} {base mb : Nat} {C : Nat → Value} {M : Mc} (h : MB W base mb C M) (x : Int) : MB (W.setCell ⟨mb, 57, none⟩ (.int .u64 x)) base mb C { M with sent := x } := by
  refine h.put _ _ rfl fun i hi hne => ?_
  unfold mF
  repeat' split
  all_goals first | rfl | omega

/-- all but the machine's block is as it was -/
structure Only (mb : Nat) (w w' : World) : Prop where
  os : w'.os = w.os
  tape : w'.tape = w.tape
  output : w'.output = w.output
  size : w'.heap.size = w.heap.size
  far : ∀ k, k ≠ mb → w'.heap[k]? = w.heap[k]?
theorem Only.refl (mb : Nat) (w : World) : Only mb w w := ⟨rfl, rfl, rfl, rfl, fun _ _ => rfl⟩
theorem Only.trans {mb : Nat} {a b c : World} (h : Only mb a b) (h' : Only mb b c) : Only mb a c := ⟨h'.os.trans h.os, h'.tape.trans h.tape, h'.output.trans h.output, h'.size.trans h.size, fun k hk => (h'.far k hk).trans (h.far k hk)⟩
theorem Only.set (mb : Nat) (w : World) (k : Nat) (v : Value) : Only mb w (w.setCell ⟨mb, k, none⟩ v) := ⟨rfl, rfl, rfl, by simp [World.setCell], fun j hj => Below.heap_setCell _ _ _ _ hj⟩
theorem Only.drew1 (mb : Nat) (w : World) : Only mb w w.drew := ⟨rfl, rfl, rfl, rfl, fun _ _ => rfl⟩
theorem Only.drewN (mb : Nat) (w : World) (n : Nat) : Only mb w (w.drewN n) := ⟨rfl, rfl, rfl, rfl, fun _ _ => rfl⟩

set_option maxRecDepth 100000 in
theorem push_any (mb base : Nat) (C : Nat → Value) (M : Mc) (x : Int) (w : World) (h : MB w base mb C M) (hh : M.hi < 64) :
    Calls Tryz.prog 98 #[.pointer (some ⟨mb, 0, none⟩), .int .i64 x] w fun e w' => e = .returned (.tuple #[]) ∧ Only mb w w' ∧ MB w' base mb C { M with st := updI M.st M.hi x, hi := M.hi + 1 } := by
  have c1 : w.cell? ⟨mb, 154, none⟩ = some (.int .i64 (M.hi : Int)) := h.cell 154 (by omega)
  have c2 : w.cell? ⟨mb, 90 + M.hi, none⟩ = some (.int .i64 (M.st M.hi)) := (h.cell (90 + M.hi) (by omega)).trans (by rw [mF_st _ _ hh])
  have f2 := h.frozen (90 + M.hi)
  have i0 : (0 : Int) ≤ (M.hi : Int) := by omega
  have i1 : (M.hi : Int) < 64 := by omega
  have hq := h.setSt hh x
  have d1 : (w.setCell ⟨mb, 90 + M.hi, none⟩ (.int .i64 x)).cell? ⟨mb, 154, none⟩ = some (.int .i64 (M.hi : Int)) := hq.cell 154 (by omega)
  have d2 := hq.frozen 154
  go_enter Tryz.func98, Tryz.ntmps98
  go_wp2_with fail
  go_region_held3 (fun w' => w'.cell? ⟨mb, 154, none⟩ = some (.int .i64 (M.hi : Int))) (go_keep) (fail)
  have hd := (hq.far (W' := (w.setCell ⟨mb, 90 + M.hi, none⟩ (.int .i64 x)).drew) rfl)
  have e1 : ((w.setCell ⟨mb, 90 + M.hi, none⟩ (.int .i64 x)).drew).cell? ⟨mb, 154, none⟩ = some (.int .i64 (M.hi : Int)) := hd.cell 154 (by omega)
  have e2 := hd.frozen 154
  have hf := hd.setHi (M.hi + 1)
  clear h hq
  go_wp2
  go_end0
  exact ⟨rfl, ((Only.set mb w (90 + M.hi) (.int .i64 x)).trans (Only.drew1 mb _)).trans (Only.set mb _ 154 _), hf⟩
set_option maxRecDepth 100000 in
theorem pop_any (mb base : Nat) (C : Nat → Value) (M : Mc) (h0 : Nat) (w : World) (h : MB w base mb C M) (hh : M.hi = h0 + 1) (h64 : M.hi ≤ 64) :
    Calls Tryz.prog 79 #[.pointer (some ⟨mb, 0, none⟩)] w fun e w' => e = .returned (.int .i64 (M.st h0)) ∧ Only mb w w' ∧ MB w' base mb C { M with hi := h0 } := by
  have c1 : w.cell? ⟨mb, 154, none⟩ = some (.int .i64 ((h0 : Int) + 1)) := (h.cell 154 (by omega)).trans (by rw [mF_hi, hh]; rfl)
  have f1 := h.frozen 154
  have hq := h.setHi h0
  have d1 : (w.setCell ⟨mb, 154, none⟩ (.int .i64 (h0 : Int))).cell? ⟨mb, 154, none⟩ = some (.int .i64 (h0 : Int)) := hq.cell 154 (by omega)
  have d2 : (w.setCell ⟨mb, 154, none⟩ (.int .i64 (h0 : Int))).cell? ⟨mb, 90 + h0, none⟩ = some (.int .i64 (M.st h0)) := (hq.cell (90 + h0) (by omega)).trans (by rw [mF_st _ _ (by omega)])
  have i0 : (0 : Int) ≤ (h0 : Int) := by omega
  have i1 : (h0 : Int) < 64 := by omega
  have i2 : (h0 : Int) + 1 - 1 = (h0 : Int) := by omega
  have hq' : Hid (MB (w.setCell ⟨mb, 154, none⟩ (.int .i64 (h0 : Int))) base mb C { M with hi := h0 }) := hq
  clear h hq hh
  go_enter Tryz.func79, Tryz.ntmps79
  go_wp2
  go_quiet (fail)
  go_wp2
  go_ret
  exact ⟨rfl, (Only.set mb w _ _).trans (Only.drewN mb _ _), hq'.out.far rfl⟩
end Go.Proofs.YtopggemomcoalaaGreat
namespace Go.Proofs.YtopggemomcoalaaGreat
open Go.ChangeShapes Go.WideShapes Go.ChangeAt Go.RowKit
set_option linter.unusedVariables false

theorem truth_any (b : Bool) (w : World) : Calls Tryz.prog 70 #[.bool b] w fun e w' => e = .returned (.int .i64 (if b then 1 else 0)) ∧ w' = w := by
  go_enter Tryz.func70, Tryz.ntmps70
  rcases b with _ | _
  all_goals
    go_wp2
    go_ret
    exact ⟨rfl, rfl⟩
/-- an instruction with two values -/
def pairV (o a b : Int) : Int × Int :=
  if o = 13 then (wrap64 (a + b), 0) else if o = 14 then (wrap64 (a - b), 0) else if o = 15 then (wrap64 (a * b), 0) else if o = 16 then (if b = 0 then (0, 201) else (wrap64 (a.tdiv b), 0)) else if o = 17 then (if b = 0 then (0, 201) else (a.tmod b, 0)) else if o = 18 then (bits BinOp.and IntKind.i64 a b, 0) else if o = 19 then (bits BinOp.or IntKind.i64 a b, 0) else if o = 20 then (bits BinOp.xor IntKind.i64 a b, 0) else if o = 21 then (if b < 0 then (0, 202) else (IntKind.i64.wrap (a * 2 ^ min b.toNat 64), 0)) else if o = 22 then (if b < 0 then (0, 202) else (a / 2 ^ min b.toNat 64, 0)) else if o = 26 then (if a = b then 1 else 0, 0) else if o = 27 then (if a = b then 0 else 1, 0) else if o = 28 then (if a < b then 1 else 0, 0) else if o = 29 then (if a ≤ b then 1 else 0, 0) else if o = 30 then (if b < a then 1 else 0, 0) else if o = 31 then (if b ≤ a then 1 else 0, 0) else if o = 32 then (if b < a then b else a, 0) else if o = 33 then (if a < b then b else a, 0) else (0, 0)
def pairF (o : Int) : Nat := if o = 13 then 59 else if o = 14 then 60 else if o = 15 then 61 else if o = 16 then 62 else if o = 17 then 63 else if o = 18 then 64 else if o = 19 then 65 else if o = 20 then 66 else if o = 21 then 67 else if o = 22 then 68 else if o = 26 then 69 else if o = 27 then 71 else if o = 28 then 72 else if o = 29 then 73 else if o = 30 then 74 else if o = 31 then 75 else if o = 32 then 76 else if o = 33 then 77 else 0
set_option maxRecDepth 10000 in
theorem pair13_any (a b : Int) (w : World) : Calls Tryz.prog 59 #[.int .i64 a, .int .i64 b] w fun e w' => e = .returned (.tuple #[.int .i64 ((wrap64 (a + b), 0) : Int × Int).1, .int .i64 ((wrap64 (a + b), 0) : Int × Int).2]) ∧ w' = w := by
  go_enter Tryz.func59, Tryz.ntmps59
  go_wp2_with ((go_at_call 70; (with_reducible refine (truth_any _ _).mono ?_); rintro e w1 ⟨rfl, rfl⟩))
  go_ret2
  exact ⟨by first | rfl | (simp; done), rfl⟩
set_option maxRecDepth 10000 in
theorem pair14_any (a b : Int) (w : World) : Calls Tryz.prog 60 #[.int .i64 a, .int .i64 b] w fun e w' => e = .returned (.tuple #[.int .i64 ((wrap64 (a - b), 0) : Int × Int).1, .int .i64 ((wrap64 (a - b), 0) : Int × Int).2]) ∧ w' = w := by
  go_enter Tryz.func60, Tryz.ntmps60
  go_wp2_with ((go_at_call 70; (with_reducible refine (truth_any _ _).mono ?_); rintro e w1 ⟨rfl, rfl⟩))
  go_ret2
  exact ⟨by first | rfl | (simp; done), rfl⟩
set_option maxRecDepth 10000 in
theorem pair15_any (a b : Int) (w : World) : Calls Tryz.prog 61 #[.int .i64 a, .int .i64 b] w fun e w' => e = .returned (.tuple #[.int .i64 ((wrap64 (a * b), 0) : Int × Int).1, .int .i64 ((wrap64 (a * b), 0) : Int × Int).2]) ∧ w' = w := by
  go_enter Tryz.func61, Tryz.ntmps61
  go_wp2_with ((go_at_call 70; (with_reducible refine (truth_any _ _).mono ?_); rintro e w1 ⟨rfl, rfl⟩))
  go_ret2
  exact ⟨by first | rfl | (simp; done), rfl⟩
set_option maxRecDepth 10000 in
theorem pair16_any (a b : Int) (w : World) : Calls Tryz.prog 62 #[.int .i64 a, .int .i64 b] w fun e w' => e = .returned (.tuple #[.int .i64 ((if b = 0 then (0, 201) else (wrap64 (a.tdiv b), 0)) : Int × Int).1, .int .i64 ((if b = 0 then (0, 201) else (wrap64 (a.tdiv b), 0)) : Int × Int).2]) ∧ w' = w := by
  by_cases h : b = 0
  · subst h
    rw [if_pos rfl]
    go_enter Tryz.func62, Tryz.ntmps62
    go_wp2_with ((go_at_call 70; (with_reducible refine (truth_any _ _).mono ?_); rintro e w1 ⟨rfl, rfl⟩))
    go_ret2
    exact ⟨by first | rfl | (simp; done), rfl⟩
  · have h' : (b == 0) = false := by simpa using h
    rw [if_neg h]
    go_enter Tryz.func62, Tryz.ntmps62
    go_wp2_with ((go_at_call 70; (with_reducible refine (truth_any _ _).mono ?_); rintro e w1 ⟨rfl, rfl⟩))
    go_ret2
    exact ⟨by first | rfl | (simp; done), rfl⟩
set_option maxRecDepth 10000 in
theorem pair17_any (a b : Int) (w : World) : Calls Tryz.prog 63 #[.int .i64 a, .int .i64 b] w fun e w' => e = .returned (.tuple #[.int .i64 ((if b = 0 then (0, 201) else (a.tmod b, 0)) : Int × Int).1, .int .i64 ((if b = 0 then (0, 201) else (a.tmod b, 0)) : Int × Int).2]) ∧ w' = w := by
  by_cases h : b = 0
  · subst h
    rw [if_pos rfl]
    go_enter Tryz.func63, Tryz.ntmps63
    go_wp2_with ((go_at_call 70; (with_reducible refine (truth_any _ _).mono ?_); rintro e w1 ⟨rfl, rfl⟩))
    go_ret2
    exact ⟨by first | rfl | (simp; done), rfl⟩
  · have h' : (b == 0) = false := by simpa using h
    rw [if_neg h]
    go_enter Tryz.func63, Tryz.ntmps63
    go_wp2_with ((go_at_call 70; (with_reducible refine (truth_any _ _).mono ?_); rintro e w1 ⟨rfl, rfl⟩))
    go_ret2
    exact ⟨by first | rfl | (simp; done), rfl⟩
set_option maxRecDepth 10000 in
theorem pair18_any (a b : Int) (w : World) : Calls Tryz.prog 64 #[.int .i64 a, .int .i64 b] w fun e w' => e = .returned (.tuple #[.int .i64 ((bits BinOp.and IntKind.i64 a b, 0) : Int × Int).1, .int .i64 ((bits BinOp.and IntKind.i64 a b, 0) : Int × Int).2]) ∧ w' = w := by
  go_enter Tryz.func64, Tryz.ntmps64
  go_wp2_with ((go_at_call 70; (with_reducible refine (truth_any _ _).mono ?_); rintro e w1 ⟨rfl, rfl⟩))
  go_ret2
  exact ⟨by first | rfl | (simp; done), rfl⟩
set_option maxRecDepth 10000 in
theorem pair19_any (a b : Int) (w : World) : Calls Tryz.prog 65 #[.int .i64 a, .int .i64 b] w fun e w' => e = .returned (.tuple #[.int .i64 ((bits BinOp.or IntKind.i64 a b, 0) : Int × Int).1, .int .i64 ((bits BinOp.or IntKind.i64 a b, 0) : Int × Int).2]) ∧ w' = w := by
  go_enter Tryz.func65, Tryz.ntmps65
  go_wp2_with ((go_at_call 70; (with_reducible refine (truth_any _ _).mono ?_); rintro e w1 ⟨rfl, rfl⟩))
  go_ret2
  exact ⟨by first | rfl | (simp; done), rfl⟩
set_option maxRecDepth 10000 in
theorem pair20_any (a b : Int) (w : World) : Calls Tryz.prog 66 #[.int .i64 a, .int .i64 b] w fun e w' => e = .returned (.tuple #[.int .i64 ((bits BinOp.xor IntKind.i64 a b, 0) : Int × Int).1, .int .i64 ((bits BinOp.xor IntKind.i64 a b, 0) : Int × Int).2]) ∧ w' = w := by
  go_enter Tryz.func66, Tryz.ntmps66
  go_wp2_with ((go_at_call 70; (with_reducible refine (truth_any _ _).mono ?_); rintro e w1 ⟨rfl, rfl⟩))
  go_ret2
  exact ⟨by first | rfl | (simp; done), rfl⟩
set_option maxRecDepth 10000 in
theorem pair21_any (a b : Int) (w : World) : Calls Tryz.prog 67 #[.int .i64 a, .int .i64 b] w fun e w' => e = .returned (.tuple #[.int .i64 ((if b < 0 then (0, 202) else (IntKind.i64.wrap (a * 2 ^ min b.toNat 64), 0)) : Int × Int).1, .int .i64 ((if b < 0 then (0, 202) else (IntKind.i64.wrap (a * 2 ^ min b.toNat 64), 0)) : Int × Int).2]) ∧ w' = w := by
  by_cases h : b < 0
  · rw [if_pos h]
    go_enter Tryz.func67, Tryz.ntmps67
    go_wp2_with ((go_at_call 70; (with_reducible refine (truth_any _ _).mono ?_); rintro e w1 ⟨rfl, rfl⟩))
    go_ret2
    exact ⟨by first | rfl | (simp; done), rfl⟩
  · rw [if_neg h]
    go_enter Tryz.func67, Tryz.ntmps67
    go_wp2_with ((go_at_call 70; (with_reducible refine (truth_any _ _).mono ?_); rintro e w1 ⟨rfl, rfl⟩))
    go_ret2
    exact ⟨by first | rfl | (simp; done), rfl⟩
set_option maxRecDepth 10000 in
theorem pair22_any (a b : Int) (w : World) : Calls Tryz.prog 68 #[.int .i64 a, .int .i64 b] w fun e w' => e = .returned (.tuple #[.int .i64 ((if b < 0 then (0, 202) else (a / 2 ^ min b.toNat 64, 0)) : Int × Int).1, .int .i64 ((if b < 0 then (0, 202) else (a / 2 ^ min b.toNat 64, 0)) : Int × Int).2]) ∧ w' = w := by
  by_cases h : b < 0
  · rw [if_pos h]
    go_enter Tryz.func68, Tryz.ntmps68
    go_wp2_with ((go_at_call 70; (with_reducible refine (truth_any _ _).mono ?_); rintro e w1 ⟨rfl, rfl⟩))
    go_ret2
    exact ⟨by first | rfl | (simp; done), rfl⟩
  · rw [if_neg h]
    go_enter Tryz.func68, Tryz.ntmps68
    go_wp2_with ((go_at_call 70; (with_reducible refine (truth_any _ _).mono ?_); rintro e w1 ⟨rfl, rfl⟩))
    go_ret2
    exact ⟨by first | rfl | (simp; done), rfl⟩
set_option maxRecDepth 10000 in
theorem pair26_any (a b : Int) (w : World) : Calls Tryz.prog 69 #[.int .i64 a, .int .i64 b] w fun e w' => e = .returned (.tuple #[.int .i64 ((if a = b then 1 else 0, 0) : Int × Int).1, .int .i64 ((if a = b then 1 else 0, 0) : Int × Int).2]) ∧ w' = w := by
  by_cases h : a = b
  · subst h
    have h' : (a == a) = true := by simp
    rw [if_pos rfl]
    go_enter Tryz.func69, Tryz.ntmps69
    go_wp2_with ((go_at_call 70; (with_reducible refine (truth_any _ _).mono ?_); rintro e w1 ⟨rfl, rfl⟩))
    go_ret2
    exact ⟨by first | rfl | (simp; done), rfl⟩
  · have h' : (a == b) = false := by simpa using h
    rw [if_neg h]
    go_enter Tryz.func69, Tryz.ntmps69
    go_wp2_with ((go_at_call 70; (with_reducible refine (truth_any _ _).mono ?_); rintro e w1 ⟨rfl, rfl⟩))
    go_ret2
    exact ⟨by first | rfl | (simp; done), rfl⟩
set_option maxRecDepth 10000 in
theorem pair27_any (a b : Int) (w : World) : Calls Tryz.prog 71 #[.int .i64 a, .int .i64 b] w fun e w' => e = .returned (.tuple #[.int .i64 ((if a = b then 0 else 1, 0) : Int × Int).1, .int .i64 ((if a = b then 0 else 1, 0) : Int × Int).2]) ∧ w' = w := by
  by_cases h : a = b
  · subst h
    have h' : (a == a) = true := by simp
    rw [if_pos rfl]
    go_enter Tryz.func71, Tryz.ntmps71
    go_wp2_with ((go_at_call 70; (with_reducible refine (truth_any _ _).mono ?_); rintro e w1 ⟨rfl, rfl⟩))
    go_ret2
    exact ⟨by first | rfl | (simp; done), rfl⟩
  · have h' : (a == b) = false := by simpa using h
    rw [if_neg h]
    go_enter Tryz.func71, Tryz.ntmps71
    go_wp2_with ((go_at_call 70; (with_reducible refine (truth_any _ _).mono ?_); rintro e w1 ⟨rfl, rfl⟩))
    go_ret2
    exact ⟨by first | rfl | (simp; done), rfl⟩
set_option maxRecDepth 10000 in
theorem pair28_any (a b : Int) (w : World) : Calls Tryz.prog 72 #[.int .i64 a, .int .i64 b] w fun e w' => e = .returned (.tuple #[.int .i64 ((if a < b then 1 else 0, 0) : Int × Int).1, .int .i64 ((if a < b then 1 else 0, 0) : Int × Int).2]) ∧ w' = w := by
  by_cases h : a < b
  · rw [if_pos h]
    go_enter Tryz.func72, Tryz.ntmps72
    go_wp2_with ((go_at_call 70; (with_reducible refine (truth_any _ _).mono ?_); rintro e w1 ⟨rfl, rfl⟩))
    go_ret2
    exact ⟨by first | rfl | (simp; done), rfl⟩
  · rw [if_neg h]
    go_enter Tryz.func72, Tryz.ntmps72
    go_wp2_with ((go_at_call 70; (with_reducible refine (truth_any _ _).mono ?_); rintro e w1 ⟨rfl, rfl⟩))
    go_ret2
    exact ⟨by first | rfl | (simp; done), rfl⟩
set_option maxRecDepth 10000 in
theorem pair29_any (a b : Int) (w : World) : Calls Tryz.prog 73 #[.int .i64 a, .int .i64 b] w fun e w' => e = .returned (.tuple #[.int .i64 ((if a ≤ b then 1 else 0, 0) : Int × Int).1, .int .i64 ((if a ≤ b then 1 else 0, 0) : Int × Int).2]) ∧ w' = w := by
  by_cases h : a ≤ b
  · rw [if_pos h]
    go_enter Tryz.func73, Tryz.ntmps73
    go_wp2_with ((go_at_call 70; (with_reducible refine (truth_any _ _).mono ?_); rintro e w1 ⟨rfl, rfl⟩))
    go_ret2
    exact ⟨by first | rfl | (simp; done), rfl⟩
  · rw [if_neg h]
    go_enter Tryz.func73, Tryz.ntmps73
    go_wp2_with ((go_at_call 70; (with_reducible refine (truth_any _ _).mono ?_); rintro e w1 ⟨rfl, rfl⟩))
    go_ret2
    exact ⟨by first | rfl | (simp; done), rfl⟩
set_option maxRecDepth 10000 in
theorem pair30_any (a b : Int) (w : World) : Calls Tryz.prog 74 #[.int .i64 a, .int .i64 b] w fun e w' => e = .returned (.tuple #[.int .i64 ((if b < a then 1 else 0, 0) : Int × Int).1, .int .i64 ((if b < a then 1 else 0, 0) : Int × Int).2]) ∧ w' = w := by
  by_cases h : b < a
  · rw [if_pos h]
    go_enter Tryz.func74, Tryz.ntmps74
    go_wp2_with ((go_at_call 70; (with_reducible refine (truth_any _ _).mono ?_); rintro e w1 ⟨rfl, rfl⟩))
    go_ret2
    exact ⟨by first | rfl | (simp; done), rfl⟩
  · rw [if_neg h]
    go_enter Tryz.func74, Tryz.ntmps74
    go_wp2_with ((go_at_call 70; (with_reducible refine (truth_any _ _).mono ?_); rintro e w1 ⟨rfl, rfl⟩))
    go_ret2
    exact ⟨by first | rfl | (simp; done), rfl⟩
set_option maxRecDepth 10000 in
theorem pair31_any (a b : Int) (w : World) : Calls Tryz.prog 75 #[.int .i64 a, .int .i64 b] w fun e w' => e = .returned (.tuple #[.int .i64 ((if b ≤ a then 1 else 0, 0) : Int × Int).1, .int .i64 ((if b ≤ a then 1 else 0, 0) : Int × Int).2]) ∧ w' = w := by
  by_cases h : b ≤ a
  · rw [if_pos h]
    go_enter Tryz.func75, Tryz.ntmps75
    go_wp2_with ((go_at_call 70; (with_reducible refine (truth_any _ _).mono ?_); rintro e w1 ⟨rfl, rfl⟩))
    go_ret2
    exact ⟨by first | rfl | (simp; done), rfl⟩
  · rw [if_neg h]
    go_enter Tryz.func75, Tryz.ntmps75
    go_wp2_with ((go_at_call 70; (with_reducible refine (truth_any _ _).mono ?_); rintro e w1 ⟨rfl, rfl⟩))
    go_ret2
    exact ⟨by first | rfl | (simp; done), rfl⟩
set_option maxRecDepth 10000 in
theorem pair32_any (a b : Int) (w : World) : Calls Tryz.prog 76 #[.int .i64 a, .int .i64 b] w fun e w' => e = .returned (.tuple #[.int .i64 ((if b < a then b else a, 0) : Int × Int).1, .int .i64 ((if b < a then b else a, 0) : Int × Int).2]) ∧ w' = w := by
  by_cases h : b < a
  · rw [if_pos h]
    go_enter Tryz.func76, Tryz.ntmps76
    go_wp2_with ((go_at_call 70; (with_reducible refine (truth_any _ _).mono ?_); rintro e w1 ⟨rfl, rfl⟩))
    go_ret2
    exact ⟨by first | rfl | (simp; done), rfl⟩
  · rw [if_neg h]
    go_enter Tryz.func76, Tryz.ntmps76
    go_wp2_with ((go_at_call 70; (with_reducible refine (truth_any _ _).mono ?_); rintro e w1 ⟨rfl, rfl⟩))
    go_ret2
    exact ⟨by first | rfl | (simp; done), rfl⟩
set_option maxRecDepth 10000 in
theorem pair33_any (a b : Int) (w : World) : Calls Tryz.prog 77 #[.int .i64 a, .int .i64 b] w fun e w' => e = .returned (.tuple #[.int .i64 ((if a < b then b else a, 0) : Int × Int).1, .int .i64 ((if a < b then b else a, 0) : Int × Int).2]) ∧ w' = w := by
  by_cases h : a < b
  · rw [if_pos h]
    go_enter Tryz.func77, Tryz.ntmps77
    go_wp2_with ((go_at_call 70; (with_reducible refine (truth_any _ _).mono ?_); rintro e w1 ⟨rfl, rfl⟩))
    go_ret2
    exact ⟨by first | rfl | (simp; done), rfl⟩
  · rw [if_neg h]
    go_enter Tryz.func77, Tryz.ntmps77
    go_wp2_with ((go_at_call 70; (with_reducible refine (truth_any _ _).mono ?_); rintro e w1 ⟨rfl, rfl⟩))
    go_ret2
    exact ⟨by first | rfl | (simp; done), rfl⟩
end Go.Proofs.YtopggemomcoalaaGreat
namespace Go.Proofs.YtopggemomcoalaaGreat
open Go.ChangeShapes Go.WideShapes Go.ChangeAt Go.RowKit
set_option linter.unusedVariables false

/-- a machine, its words and what it has sent -/
structure MW (w0 W : World) (base mb nw : Nat) (C : Nat → Value) (M : Mc) : Prop where
  box : MB W base mb C M
  wr : Own W base 2 1 M.wv nw (iv M.wd)
  out : Own W base 49 6 M.ov M.on M.oF
  d1 : M.wv.ownBlock ≠ some mb
  d2 : M.ov.ownBlock ≠ some mb
  d3 : ∀ k, M.wv.ownBlock = some k → M.ov.ownBlock ≠ some k
  bel : Below base w0 W
/-- what a step leaves alone -/
structure Fr (mb : Nat) (M : Mc) (w w' : World) : Prop where
  size : w.heap.size ≤ w'.heap.size
  far : ∀ k, k < w.heap.size → k ≠ mb → M.wv.ownBlock ≠ some k → M.ov.ownBlock ≠ some k → w'.heap[k]? = w.heap[k]?
theorem Fr.refl (mb : Nat) (M : Mc) (w : World) : Fr mb M w w := ⟨Nat.le_refl _, fun _ _ _ _ _ => rfl⟩
theorem Fr.of {mb : Nat} {M : Mc} {w w' : World} (h : Only mb w w') : Fr mb M w w' := ⟨by rw [h.size]; exact Nat.le_refl _, fun k _ hk _ _ => h.far k hk⟩
theorem Fr.trans {mb : Nat} {M M' : Mc} {a b c : World} (h : Fr mb M a b) (h' : Fr mb M' b c) (e1 : M'.wv = M.wv) (e2 : M'.ov = M.ov) : Fr mb M a c :=
  ⟨Nat.le_trans h.size h'.size, fun k h1 h2 h3 h4 => (h'.far k (Nat.lt_of_lt_of_le h1 h.size) h2 (by rw [e1]; exact h3) (by rw [e2]; exact h4)).trans (h.far k h1 h2 h3 h4)⟩
theorem only_below {base mb : Nat} {w0 w w' : World} (hb : Below base w0 w) (h : Only mb w w') (hm : base ≤ mb) : Below base w0 w' :=
  ⟨h.os.trans hb.os, h.tape.trans hb.tape, h.output.trans hb.output, by rw [h.size]; exact hb.size, fun k hk => (h.far k (by omega)).trans (hb.block k hk)⟩
theorem MW.only {w0 w w' : World} {base mb nw : Nat} {C : Nat → Value} {M M' : Mc} (h : MW w0 w base mb nw C M) (ho : Only mb w w') (hm : MB w' base mb C M') (e1 : M'.wv = M.wv) (e2 : M'.wd = M.wd) (e3 : M'.ov = M.ov) (e4 : M'.on = M.on) (e5 : M'.oF = M.oF) : MW w0 w' base mb nw C M' := by
  refine ⟨hm, ?_, ?_, by rw [e1]; exact h.d1, by rw [e3]; exact h.d2, by rw [e1, e3]; exact h.d3, only_below h.bel ho hm.lt.2⟩
  · rw [e1, e2]; exact h.wr.far fun k hk => ho.far k (by rintro rfl; exact h.d1 hk)
  · rw [e3, e4, e5]; exact h.out.far fun k hk => ho.far k (by rintro rfl; exact h.d2 hk)
def pushM (M : Mc) (x : Int) : Mc := { M with st := updI M.st M.hi x, hi := M.hi + 1 }
def popM (M : Mc) : Mc := { M with hi := M.hi - 1 }
def topM (M : Mc) : Int := M.st (M.hi - 1)
theorem pushW (w0 w : World) (base mb nw : Nat) (C : Nat → Value) (M : Mc) (x : Int) (h : MW w0 w base mb nw C M) (hh : M.hi < 64) :
    Calls Tryz.prog 98 #[.pointer (some ⟨mb, 0, none⟩), .int .i64 x] w fun e w' => e = .returned (.tuple #[]) ∧ Only mb w w' ∧ MW w0 w' base mb nw C (pushM M x) :=
  (push_any mb base C M x w h.box hh).mono fun e w' ⟨h1, h2, h3⟩ => ⟨h1, h2, h.only h2 h3 rfl rfl rfl rfl rfl⟩
theorem popW (w0 w : World) (base mb nw : Nat) (C : Nat → Value) (M : Mc) (h : MW w0 w base mb nw C M) (hh : 0 < M.hi) (h64 : M.hi ≤ 64) :
    Calls Tryz.prog 79 #[.pointer (some ⟨mb, 0, none⟩)] w fun e w' => e = .returned (.int .i64 (topM M)) ∧ Only mb w w' ∧ MW w0 w' base mb nw C (popM M) :=
  (pop_any mb base C M (M.hi - 1) w h.box (by omega) h64).mono fun e w' ⟨h1, h2, h3⟩ => ⟨h1, h2, h.only h2 h3 rfl rfl rfl rfl rfl⟩
theorem MW.later {w0 w w' : World} {base mb nw : Nat} {C : Nat → Value} {M : Mc} (h : MW w0 w base mb nw C M) (hb : Below w.heap.size w w') : MW w0 w' base mb nw C M := by
  have hbw := h.bel.size
  have own : ∀ {t : TypeId} {s m : Nat} {v : Value} {F : Nat → Value}, Own w base t s v m F → Own w' base t s v m F := fun ho => ho.far fun k hk => by
    rcases ho.form with ⟨h7, _⟩ | ⟨g, c, h7, h8, h9⟩
    · rw [h7] at hk; cases hk
    · rw [h7] at hk; cases hk; exact hb.block _ h9
  exact ⟨own h.box, own h.wr, own h.out, h.d1, h.d2, h.d3, h.bel.trans (hb.mono (by
    have := h.box.lt
    have hb0 := h.bel.size
    omega))⟩
/-! ### two values make one -/
def isPair (o : Int) : Prop := o = 13 ∨ o = 14 ∨ o = 15 ∨ o = 16 ∨ o = 17 ∨ o = 18 ∨ o = 19 ∨ o = 20 ∨ o = 21 ∨ o = 22 ∨ o = 26 ∨ o = 27 ∨ o = 28 ∨ o = 29 ∨ o = 30 ∨ o = 31 ∨ o = 32 ∨ o = 33
theorem pairCalls (o a b : Int) (h : isPair o) (w : World) : Calls Tryz.prog (pairF o) #[.int .i64 a, .int .i64 b] w fun e w' => e = .returned (.tuple #[.int .i64 (pairV o a b).1, .int .i64 (pairV o a b).2]) ∧ w' = w := by
  rcases h with rfl | rfl | rfl | rfl | rfl | rfl | rfl | rfl | rfl | rfl | rfl | rfl | rfl | rfl | rfl | rfl | rfl | rfl
  · exact pair13_any a b w
  · exact pair14_any a b w
  · exact pair15_any a b w
  · exact pair16_any a b w
  · exact pair17_any a b w
  · exact pair18_any a b w
  · exact pair19_any a b w
  · exact pair20_any a b w
  · exact pair21_any a b w
  · exact pair22_any a b w
  · exact pair26_any a b w
  · exact pair27_any a b w
  · exact pair28_any a b w
  · exact pair29_any a b w
  · exact pair30_any a b w
  · exact pair31_any a b w
  · exact pair32_any a b w
  · exact pair33_any a b w
theorem pairEnter (o : Int) (h : isPair o) (args : Array Value) (W : World) : Sem.run Tryz.prog (callFunc (pairF o) args) W = .ok (.enter (pairF o) args) W := by
  rcases h with rfl | rfl | rfl | rfl | rfl | rfl | rfl | rfl | rfl | rfl | rfl | rfl | rfl | rfl | rfl | rfl | rfl | rfl
  all_goals
    simp only [pairF]
    go_simp
set_option maxRecDepth 100000 in
set_option maxHeartbeats 4000000 in
theorem pair_any (w0 w : World) (base mb nw : Nat) (C : Nat → Value) (M : Mc) (o : Int) (ho : isPair o) (h : MW w0 w base mb nw C M) (hh : 2 ≤ M.hi) (h64 : M.hi ≤ 64) :
    Calls Tryz.prog 104 #[.pointer (some ⟨mb, 0, none⟩), .agg #[.func (.func (pairF o)) #[] #[]]] w fun e w' => e = .returned (.int .i64 (pairV o (topM (popM M)) (topM M)).2) ∧ Fr mb M w w' ∧ MW w0 w' base mb nw C (pushM (popM (popM M)) (pairV o (topM (popM M)) (topM M)).1) := by
  obtain ⟨wb, hwb⟩ : ∃ wb, w.alloc (.cells #[.func (.func (pairF o)) #[] #[]] 83) = wb := ⟨_, rfl⟩
  have hbb : Below w.heap.size w wb := by rw [← hwb]; exact (Below.refl _ w).alloc (Nat.le_refl _) _
  have hbox : wb.heap[w.heap.size]? = some (.cells #[.func (.func (pairF o)) #[] #[]] 83 (0, 0)) := by rw [← hwb]; exact World.alloc_heap_new w _
  have hsz : wb.heap.size = w.heap.size + 1 := by rw [← hwb, World.size_alloc]
  have hlt := h.box.lt.1
  have HB : Hid (w.alloc (.cells #[.func (.func (pairF o)) #[] #[]] 83) = wb) := hwb
  have hb := h.later hbb
  have HP1 := popW w0 wb base mb nw C M hb (by omega) h64
  have HV := pairCalls o (topM (popM M)) (topM M) ho
  have HF := pairEnter o ho
  generalize pairV o (topM (popM M)) (topM M) = pv at HV ⊢
  generalize pairF o = f at HV HB hbox hwb HF ⊢
  clear hwb
  go_enter Tryz.func104, Tryz.ntmps104
  go_wp2_with (first | (go_at_call 79; (first | (rw [HB.out]; (with_reducible refine HP1.mono ?_); rintro e w1 ⟨rfl, o1, m1⟩; have HP2 := popW w0 w1 base mb nw C (popM M) m1 (by show 0 < M.hi - 1; omega) (by show M.hi - 1 ≤ 64; omega); clear HP1) | ((with_reducible refine HP2.mono ?_); rintro e w2 ⟨rfl, o2, m2⟩; have hbx2 := (o2.far w.heap.size (by omega)).trans ((o1.far w.heap.size (by omega)).trans hbox); have c0 : w2.cell? ⟨w.heap.size, 0, none⟩ = some (.func (.func f) #[] #[]) := (by unfold World.cell?; rw [hbx2]; rfl); have HPU := pushW w0 w2 base mb nw C (popM (popM M)) pv.1 m2 (by show M.hi - 1 - 1 < 64; omega)))) | (go_at_call 98; (with_reducible refine HPU.mono ?_); rintro e w4 ⟨rfl, o4, m4⟩) | ((with_reducible refine (HV _).mono ?_); rintro e w3 ⟨rfl, rfl⟩))
  go_ret
  have hO := (o1.trans o2).trans o4
  refine ⟨rfl, ⟨?_, fun k h1 h2 h3 h4 => (hO.far k h2).trans (hbb.block k h1)⟩, m4⟩
  rw [hO.size, hsz]
  omega
end Go.Proofs.YtopggemomcoalaaGreat
