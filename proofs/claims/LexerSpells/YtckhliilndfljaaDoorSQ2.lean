import Derived.Test.YtckhliilndfljaaDoorSQ1
namespace Go.Proofs.YtckhliilndfljaaDoor
open Go.ChangeShapes Go.WideShapes Go.ChangeAt Go.RowKit
set_option linter.unusedVariables false
set_option linter.unusedSimpArgs false
theorem cat2 (a b : Bs) : (⟨a.toArray⟩ ++ ⟨b.toArray⟩ : ByteArray) = ⟨(a ++ b).toArray⟩ := by
  apply ByteArray.ext
  simp [ByteArray.data_append]
set_option maxRecDepth 100000 in
set_option maxHeartbeats 2000000 in
theorem rfollows_any (a b : Tk) (ha : alB a = true) (hb : alB b = true) (hac : 1 ≤ a.col ∧ a.col ≤ 9223372036854775807) (hbc : 1 ≤ b.col ∧ b.col ≤ 9223372036854775807) (w : World) : Calls Tryd.prog 16 #[.agg (tkA a), .agg (tkA b)] w fun e w' => e = .returned (.bool (flwB a b)) ∧ Below w.heap.size w w' := by
  have hla := (al_text ha).2
  have hlb := (al_text hb).2
  obtain ⟨w1, hw1⟩ : ∃ w1, (w.alloc (.cells (tkA a) 34)).alloc (.cells (tkA b) 34) = w1 := ⟨_, rfl⟩
  obtain ⟨hb1, hbx, hby, _⟩ := boxes2 w _ _ w1 hw1
  obtain ⟨y, hy⟩ : ∃ y, a.text ++ b.text = y := ⟨_, rfl⟩
  have HM : Hid (Calls Tryd.prog 15 #[.string ⟨y.toArray⟩, .bool true, .agg (tkA a), .agg (tkA b)] w1 fun e w' => e = .returned (.bool (twoB a b)) ∧ Below w1.heap.size w1 w') := reads_two a b y hy.symm (by rw [← hy, List.length_append]; unfold maxLen; omega) w1
  have HB : Hid (Below w.heap.size w w1) := hb1
  obtain ⟨tc, htc⟩ : ∃ tc, twoB a b = tc := ⟨_, rfl⟩
  rw [htc] at HM
  have hfl : flwB a b = if a.line = b.line then (decide (b.col - (a.text.length : Int) > a.col) || (decide (b.col - (a.text.length : Int) = a.col) && tc)) else decide (a.line < b.line) := by unfold flwB; rw [tch_two a b ha hb, htc]
  rw [hfl]
  have hcat := cat2 a.text b.text
  rw [hy] at hcat
  clear hfl htc hb1 ha hb hy
  obtain ⟨ak, at', an, al, ac⟩ := a
  obtain ⟨bk, bt, bn, bl, bc⟩ := b
  unfold tkA at *
  simp only at *
  obtain ⟨p0, p1, p2, p3, p4⟩ := cells5 hbx
  obtain ⟨q0, q1, q2, q3, q4⟩ := cells5 hby
  have haz : (⟨at'.toArray⟩ : ByteArray).size = at'.length := by simp [ByteArray.size]
  have hbz : (⟨bt.toArray⟩ : ByteArray).size = bt.length := by simp [ByteArray.size]
  obtain ⟨la, hlae⟩ : ∃ la, at'.length = la := ⟨_, rfl⟩
  obtain ⟨lb, hlbe⟩ : ∃ lb, bt.length = lb := ⟨_, rfl⟩
  rw [hlae] at haz hla ⊢
  rw [hlbe] at hbz hlb
  have hcc : ¬ 9223372036854775807 < la + lb := by omega
  clear hbx hby
  go_enter Tryd.func16, Tryd.ntmps16
  by_cases h1 : al = bl
  · have d1 : (bl == al) = true := by simp; exact h1.symm
    have d1' : (bl != al) = false := by simp; exact h1.symm
    rw [if_pos h1]
    clear h1
    by_cases hov : ac + (la : Int) ≤ 9223372036854775807
    · obtain ⟨bh, hbh⟩ : ∃ bh, ac + (la : Int) = bh := ⟨_, rfl⟩
      have es : IntKind.i64.wrap (ac + (la : Int)) = bh := by rw [IntKind.wrap_i64]; omega
      have d2 : decide (bh < ac) = false := decide_eq_false (by omega)
      by_cases h3 : bc = bh
      · have d3 : (bc == bh) = true := by simp; exact h3
        have d3' : (bc != bh) = false := by simp; exact h3
        have e1 : decide (bc - (la : Int) > ac) = false := decide_eq_false (by omega)
        have e2 : decide (bc - (la : Int) = ac) = true := decide_eq_true (by omega)
        rw [e1, e2, Bool.false_or, Bool.true_and]
        clear h3 hov hbh e1 e2
        go_wp2_with (go_at_call 15; (with_reducible refine (HM.out).mono ?_); rintro e w2 ⟨rfl, hb2⟩)
        go_ret
        exact ⟨by simp, HB.out.trans (hb2.mono HB.out.size)⟩
      · have d3 : (bc == bh) = false := by simp; exact h3
        have d3' : (bc != bh) = true := by simp; exact h3
        have e2 : decide (bc - (la : Int) = ac) = false := decide_eq_false (by omega)
        have e1 : decide (bc - (la : Int) > ac) = decide (bh < bc) := by
          by_cases h9 : bh < bc
          · rw [decide_eq_true h9, decide_eq_true (by omega)]
          · rw [decide_eq_false h9, decide_eq_false (by omega)]
        rw [e1, e2, Bool.false_and, Bool.or_false]
        clear h3 hov hbh e1 e2
        go_wp2
        go_ret
        exact ⟨by simp, HB.out⟩
    · obtain ⟨bh, hbh⟩ : ∃ bh, ac + (la : Int) - 18446744073709551616 = bh := ⟨_, rfl⟩
      have es : IntKind.i64.wrap (ac + (la : Int)) = bh := by rw [IntKind.wrap_i64]; omega
      have d2 : decide (bh < ac) = true := decide_eq_true (by omega)
      have e1 : decide (bc - (la : Int) > ac) = false := decide_eq_false (by omega)
      have e2 : decide (bc - (la : Int) = ac) = false := decide_eq_false (by omega)
      rw [e1, e2, Bool.false_or, Bool.false_and]
      clear hov hbh e1 e2
      go_wp2
      go_ret
      exact ⟨by simp, HB.out⟩
  · have d1 : (bl == al) = false := by simp; exact fun e => h1 e.symm
    have d1' : (bl != al) = true := by simp; exact fun e => h1 e.symm
    rw [if_neg h1]
    clear h1
    go_wp2
    go_ret
    exact ⟨by simp, HB.out⟩
end Go.Proofs.YtckhliilndfljaaDoor
