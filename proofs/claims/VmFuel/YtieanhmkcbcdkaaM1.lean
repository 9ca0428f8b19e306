import Derived.Test.YtieanhmkcbcdkaaV2
import Derived.Test.YtieanhmkcbcdkaaV5
import Derived.Deep.RegionHeld3
import Derived.BigQuiet
namespace Go.Proofs.Ytieanhmkcbcdkaa
open Go.ChangeShapes Go.WideShapes Go.ChangeAt Go.RowKit
set_option linter.unusedVariables false

/-! ### the machine's box -/
structure Mc where
  wv : Value
  wd : Nat → Int
  on : Nat
  oF : Nat → Value
  dice : Int
  sent : Int
  lo : Nat → Int
  st : Nat → Int
  hi : Nat
  ov : Value
  used : Int
/-- its cells: the first 55 are never written -/
def mF (C : Nat → Value) (M : Mc) (k : Nat) : Value :=
  if k < 55 then C k else if k = 55 then M.wv else if k = 56 then .int .u64 M.dice else if k = 57 then .int .u64 M.sent
  else if k < 90 then .int .i64 (M.lo (k - 58)) else if k < 154 then .int .i64 (M.st (k - 90))
  else if k = 154 then .int .i64 M.hi else if k = 155 then M.ov else .int .i64 M.used
def MB (W : World) (base mb : Nat) (C : Nat → Value) (M : Mc) : Prop := Own W base 70 157 (.slice (some ⟨mb, 0, none⟩) 1 1) 1 (mF C M)
theorem MB.cell {W : World} {base mb : Nat} {C : Nat → Value} {M : Mc} (h : MB W base mb C M) (k : Nat) (hk : k < 157) : W.cell? ⟨mb, k, none⟩ = some (mF C M k) := Own.cell h (by omega)
theorem MB.frozen {W : World} {base mb : Nat} {C : Nat → Value} {M : Mc} (h : MB W base mb C M) (k : Nat) : W.frozen? ⟨mb, k, none⟩ = false := by
  obtain ⟨cur, h1, _⟩ := Own.block h
  simp [World.frozen?, h1]
theorem MB.lt {W : World} {base mb : Nat} {C : Nat → Value} {M : Mc} (h : MB W base mb C M) : mb < W.heap.size ∧ base ≤ mb := by
  obtain ⟨cur, h1, _, _, _, h5, _⟩ := Own.block h
  exact ⟨(Array.getElem?_eq_some_iff.1 h1).1, h5⟩
theorem MB.far {W W' : World} {base mb : Nat} {C : Nat → Value} {M : Mc} (h : MB W base mb C M) (hk : W'.heap[mb]? = W.heap[mb]?) : MB W' base mb C M := Own.far h fun k e => by cases e; exact hk
theorem MB.put {W : World} {base mb : Nat} {C : Nat → Value} {M M' : Mc} (h : MB W base mb C M) (k : Nat) (v : Value) (hv : mF C M' k = v) (he : ∀ j, j < 157 → j ≠ k → mF C M j = mF C M' j) : MB (W.setCell ⟨mb, k, none⟩ v) base mb C M' := by
  refine Own.congr (Own.put h k [v]) fun j hj => ?_
  unfold putF
  by_cases e : j = k
  · subst e
    rw [if_pos (by simp)]
    simp [hv]
  · rw [if_neg (by simp; omega)]
    exact he j (by omega) e
theorem mF_fix (C : Nat → Value) (M : Mc) {k : Nat} (h : k < 55) : mF C M k = C k := by unfold mF; rw [if_pos h]
theorem mF_wv (C : Nat → Value) (M : Mc) : mF C M 55 = M.wv := rfl
theorem mF_dice (C : Nat → Value) (M : Mc) : mF C M 56 = .int .u64 M.dice := rfl
theorem mF_sent (C : Nat → Value) (M : Mc) : mF C M 57 = .int .u64 M.sent := rfl
theorem mF_hi (C : Nat → Value) (M : Mc) : mF C M 154 = .int .i64 M.hi := rfl
theorem mF_ov (C : Nat → Value) (M : Mc) : mF C M 155 = M.ov := rfl
theorem mF_used (C : Nat → Value) (M : Mc) : mF C M 156 = .int .i64 M.used := rfl
theorem mF_lo (C : Nat → Value) (M : Mc) {j : Nat} (h : j < 32) : mF C M (58 + j) = .int .i64 (M.lo j) := by
  unfold mF
  rw [if_neg (by omega), if_neg (by omega), if_neg (by omega), if_neg (by omega), if_pos (by omega), show 58 + j - 58 = j by omega]
theorem mF_st (C : Nat → Value) (M : Mc) {j : Nat} (h : j < 64) : mF C M (90 + j) = .int .i64 (M.st j) := by
  unfold mF
  rw [if_neg (by omega), if_neg (by omega), if_neg (by omega), if_neg (by omega), if_neg (by omega), if_pos (by omega), show 90 + j - 90 = j by omega]
theorem MB.setSt {W : World} {base mb : Nat} {C : Nat → Value} {M : Mc} (h : MB W base mb C M) {j : Nat} (hj : j < 64) (x : Int) : MB (W.setCell ⟨mb, 90 + j, none⟩ (.int .i64 x)) base mb C { M with st := updI M.st j x } := by
  refine h.put _ _ (by rw [mF_st _ _ hj]; show Value.int .i64 (updI M.st j x j) = _; rw [updI_at]) fun i hi hne => ?_
  unfold mF
  repeat' split
  all_goals first | rfl | skip
  show Value.int .i64 (M.st (i - 90)) = Value.int .i64 (updI M.st j x (i - 90))
  rw [updI_ne _ _ (by omega)]
theorem MB.setLo {W : World} {base mb : Nat} {C : Nat → Value} {M : Mc} (h : MB W base mb C M) {j : Nat} (hj : j < 32) (x : Int) : MB (W.setCell ⟨mb, 58 + j, none⟩ (.int .i64 x)) base mb C { M with lo := updI M.lo j x } := by
  refine h.put _ _ (by rw [mF_lo _ _ hj]; show Value.int .i64 (updI M.lo j x j) = _; rw [updI_at]) fun i hi hne => ?_
  unfold mF
  repeat' split
  all_goals first | rfl | skip
  show Value.int .i64 (M.lo (i - 58)) = Value.int .i64 (updI M.lo j x (i - 58))
  rw [updI_ne _ _ (by omega)]
theorem MB.setHi {W : World} {base mb : Nat} {C : Nat → Value} {M : Mc} (h : MB W base mb C M) (x : Nat) : MB (W.setCell ⟨mb, 154, none⟩ (.int .i64 x)) base mb C { M with hi := x } := by
  refine h.put _ _ rfl fun i hi hne => ?_
  unfold mF
  repeat' split
  all_goals first | rfl | omega
theorem MB.setUsed {W : World} {base mb : Nat} {C : Nat → Value} {M : Mc} (h : MB W base mb C M) (x : Int) : MB (W.setCell ⟨mb, 156, none⟩ (.int .i64 x)) base mb C { M with used := x } := by
  refine h.put _ _ rfl fun i hi hne => ?_
  unfold mF
  repeat' split
  all_goals first | rfl | omega
theorem MB.setOv {W : World} {base mb : Nat} {C : Nat → Value} {M : Mc} (h : MB W base mb C M) (x : Value) : MB (W.setCell ⟨mb, 155, none⟩ x) base mb C { M with ov := x } := by
  refine h.put _ _ rfl fun i hi hne => ?_
  unfold mF
  repeat' split
  all_goals first | rfl | omega
theorem MB.setDice {W : World} {base mb : Nat} {C : Nat → Value} {M : Mc} (h : MB W base mb C M) (x : Int) : MB (W.setCell ⟨mb, 56, none⟩ (.int .u64 x)) base mb C { M with dice := x } := by
  refine h.put _ _ rfl fun i hi hne => ?_
  unfold mF
  repeat' split
  all_goals first | rfl | omega
theorem MB.setSent {W : World} {base mb : Nat} {C : Nat → Value} {M : Mc} (h : MB W base mb C M) (x : Int) : MB (W.setCell ⟨mb, 57, none⟩ (.int .u64 x)) base mb C { M with sent := x } := by
  refine h.put _ _ rfl fun i hi hne => ?_
  unfold mF
  repeat' split
  all_goals first | rfl | omega

/-- all but the machine's block is as it was -/
structure Only (mb : Nat) (w w' : World) : Prop where
  os : w'.os = w.os
  tape : w'.tape = w.tape
  output : w'.output = w.output
  size : w'.heap.size = w.heap.size
  far : ∀ k, k ≠ mb → w'.heap[k]? = w.heap[k]?
theorem Only.refl (mb : Nat) (w : World) : Only mb w w := ⟨rfl, rfl, rfl, rfl, fun _ _ => rfl⟩
theorem Only.trans {mb : Nat} {a b c : World} (h : Only mb a b) (h' : Only mb b c) : Only mb a c := ⟨h'.os.trans h.os, h'.tape.trans h.tape, h'.output.trans h.output, h'.size.trans h.size, fun k hk => (h'.far k hk).trans (h.far k hk)⟩
theorem Only.set (mb : Nat) (w : World) (k : Nat) (v : Value) : Only mb w (w.setCell ⟨mb, k, none⟩ v) := ⟨rfl, rfl, rfl, by simp [World.setCell], fun j hj => Below.heap_setCell _ _ _ _ hj⟩
theorem Only.drew1 (mb : Nat) (w : World) : Only mb w w.drew := ⟨rfl, rfl, rfl, rfl, fun _ _ => rfl⟩
theorem Only.drewN (mb : Nat) (w : World) (n : Nat) : Only mb w (w.drewN n) := ⟨rfl, rfl, rfl, rfl, fun _ _ => rfl⟩

set_option maxRecDepth 100000 in
theorem push_any (mb base : Nat) (C : Nat → Value) (M : Mc) (x : Int) (w : World) (h : MB w base mb C M) (hh : M.hi < 64) :
    Calls Try.prog 62 #[.pointer (some ⟨mb, 0, none⟩), .int .i64 x] w fun e w' => e = .returned (.tuple #[]) ∧ Only mb w w' ∧ MB w' base mb C { M with st := updI M.st M.hi x, hi := M.hi + 1 } := by
  have c1 : w.cell? ⟨mb, 154, none⟩ = some (.int .i64 (M.hi : Int)) := h.cell 154 (by omega)
  have c2 : w.cell? ⟨mb, 90 + M.hi, none⟩ = some (.int .i64 (M.st M.hi)) := (h.cell (90 + M.hi) (by omega)).trans (by rw [mF_st _ _ hh])
  have f2 := h.frozen (90 + M.hi)
  have i0 : (0 : Int) ≤ (M.hi : Int) := by omega
  have i1 : (M.hi : Int) < 64 := by omega
  have hq := h.setSt hh x
  have d1 : (w.setCell ⟨mb, 90 + M.hi, none⟩ (.int .i64 x)).cell? ⟨mb, 154, none⟩ = some (.int .i64 (M.hi : Int)) := hq.cell 154 (by omega)
  have d2 := hq.frozen 154
  go_enter Try.func62, Try.ntmps62
  go_wp2_with fail
  go_region_held3 (fun w' => w'.cell? ⟨mb, 154, none⟩ = some (.int .i64 (M.hi : Int))) (go_keep) (fail)
  have hd := (hq.far (W' := (w.setCell ⟨mb, 90 + M.hi, none⟩ (.int .i64 x)).drew) rfl)
  have e1 : ((w.setCell ⟨mb, 90 + M.hi, none⟩ (.int .i64 x)).drew).cell? ⟨mb, 154, none⟩ = some (.int .i64 (M.hi : Int)) := hd.cell 154 (by omega)
  have e2 := hd.frozen 154
  have hf := hd.setHi (M.hi + 1)
  clear h hq
  go_wp2
  go_end0
  exact ⟨rfl, ((Only.set mb w (90 + M.hi) (.int .i64 x)).trans (Only.drew1 mb _)).trans (Only.set mb _ 154 _), hf⟩
set_option maxRecDepth 100000 in
theorem pop_any (mb base : Nat) (C : Nat → Value) (M : Mc) (h0 : Nat) (w : World) (h : MB w base mb C M) (hh : M.hi = h0 + 1) (h64 : M.hi ≤ 64) :
    Calls Try.prog 54 #[.pointer (some ⟨mb, 0, none⟩)] w fun e w' => e = .returned (.int .i64 (M.st h0)) ∧ Only mb w w' ∧ MB w' base mb C { M with hi := h0 } := by
  have c1 : w.cell? ⟨mb, 154, none⟩ = some (.int .i64 ((h0 : Int) + 1)) := (h.cell 154 (by omega)).trans (by rw [mF_hi, hh]; rfl)
  have f1 := h.frozen 154
  have hq := h.setHi h0
  have d1 : (w.setCell ⟨mb, 154, none⟩ (.int .i64 (h0 : Int))).cell? ⟨mb, 154, none⟩ = some (.int .i64 (h0 : Int)) := hq.cell 154 (by omega)
  have d2 : (w.setCell ⟨mb, 154, none⟩ (.int .i64 (h0 : Int))).cell? ⟨mb, 90 + h0, none⟩ = some (.int .i64 (M.st h0)) := (hq.cell (90 + h0) (by omega)).trans (by rw [mF_st _ _ (by omega)])
  have i0 : (0 : Int) ≤ (h0 : Int) := by omega
  have i1 : (h0 : Int) < 64 := by omega
  have i2 : (h0 : Int) + 1 - 1 = (h0 : Int) := by omega
  have hq' : Hid (MB (w.setCell ⟨mb, 154, none⟩ (.int .i64 (h0 : Int))) base mb C { M with hi := h0 }) := hq
  clear h hq hh
  go_enter Try.func54, Try.ntmps54
  go_wp2
  go_quiet (fail)
  go_wp2
  go_ret
  exact ⟨rfl, (Only.set mb w _ _).trans (Only.drewN mb _ _), hq'.out.far rfl⟩
end Go.Proofs.Ytieanhmkcbcdkaa
