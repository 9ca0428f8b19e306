import Derived.Test.YtfgkmijaimfkjaaX10
namespace Go.Proofs.Ytfgkmijaimfkjaa
open Go.ChangeShapes Go.WideShapes Go.ChangeAt Go.RowKit
set_option linter.unusedVariables false
set_option linter.unusedSimpArgs false

theorem own_fl {W : World} {base g n c : Nat} {U D : Nat → Bool} (h : Own W base 35 2 (.slice (some ⟨g, 0, none⟩) n c) n (flC U D)) {k : Nat} (hk : k < n) : W.cell? ⟨g, k * 2, none⟩ = some (.bool (U k)) ∧ W.cell? ⟨g, k * 2 + 1, none⟩ = some (.bool (D k)) := by
  refine ⟨?_, ?_⟩
  · have := Own.cell h (j := k * 2) (by omega)
    rw [this]
    unfold flC
    rw [if_pos (by omega), show k * 2 / 2 = k by omega]
  · have := Own.cell h (j := k * 2 + 1) (by omega)
    rw [this]
    unfold flC
    rw [if_neg (by omega), show (k * 2 + 1) / 2 = k by omega]
set_option maxRecDepth 100000 in
set_option maxHeartbeats 1000000 in
theorem sameC2 {b1 b2 g1 g2 n c1 c2 : Nat} {U D : Nat → Bool} (hn : n ≤ 64) (W : World) (h1 : Own W b1 35 2 (.slice (some ⟨g1, 0, none⟩) n c1) n (flC U D)) (h2 : Own W b2 35 2 (.slice (some ⟨g2, 0, none⟩) n c2) n (flC U D)) : Calls Try.prog 10 #[.slice (some ⟨g1, 0, none⟩) n c1, .slice (some ⟨g2, 0, none⟩) n c2] W fun e W' => e = .returned (.bool true) ∧ Below W.heap.size W W' := by
  have HH : Hid (Own W b1 35 2 (.slice (some ⟨g1, 0, none⟩) n c1) n (flC U D) ∧ Own W b2 35 2 (.slice (some ⟨g2, 0, none⟩) n c2) n (flC U D)) := ⟨h1, h2⟩
  clear h1 h2
  go_enter Try.func10, Try.ntmps10
  go_wp2_with fail
  go_loopw [13] (fun x wr => ∃ k : Nat, x = .int .i64 (k : Int) ∧ k ≤ n ∧ Below W.heap.size W wr) (fun x _ => n - (intOf x).toNat)
  case atStart => exact ⟨0, rfl, Nat.zero_le _, Below.refl _ _⟩
  case round =>
    obtain ⟨k, rfl, hk, hbr⟩ := hrel
    by_cases hlt : k < n
    · have dl : decide ((k : Int) < (n : Int)) = true := by simp; omega
      have hm := meas hlt
      have i0 : (0 : Int) ≤ (k : Int) := by omega
      have i1 : (k : Int) < (n : Int) := by omega
      have ek : IntKind.i64.wrap ((k : Int) + 1) = (k : Int) + 1 := by rw [IntKind.wrap_i64]; omega
      obtain ⟨a0, a1⟩ := own_fl (HH.out.1.later hbr) hlt
      obtain ⟨a2, a3⟩ := own_fl (HH.out.2.later hbr) hlt
      generalize U k = u at *
      generalize D k = d at *
      go_wp2_with fail
      go_quiet (fail)
      go_wp2_with fail
      exact ⟨⟨k + 1, rfl, hlt, hbr.trans ((below_drewNq _ _ _).mono hbr.size)⟩, hm⟩
    · have dl : decide ((k : Int) < (n : Int)) = false := by simp; omega
      obtain rfl : k = n := by omega
      go_wp2_with fail
      go_ret
      exact ⟨rfl, hbr⟩
theorem fl_put {W : World} {base g n c k : Nat} {U D U' D' : Nat → Bool} (h : Own W base 35 2 (.slice (some ⟨g, 0, none⟩) n c) n (flC U D)) (hU : ∀ i, i ≠ k → U' i = U i) (hD : ∀ i, i ≠ k → D' i = D i) : Own ((W.setCell ⟨g, k * 2, none⟩ (.bool (U' k))).setCell ⟨g, k * 2 + 1, none⟩ (.bool (D' k))) base 35 2 (.slice (some ⟨g, 0, none⟩) n c) n (flC U' D') := by
  have h1 : Own (W.setCell ⟨g, k * 2, none⟩ (.bool (U' k))) base 35 2 (.slice (some ⟨g, 0, none⟩) n c) n (flC U' (fun i => if i = k then D i else D' i)) := own_put h (k * 2) _ (by simp [flC]) fun j hj hne => by
    unfold flC
    by_cases e : j % 2 = 0
    · rw [if_pos e, if_pos e, hU _ (by omega)]
    · rw [if_neg e, if_neg e]
      dsimp only
      by_cases e2 : j / 2 = k
      · rw [if_pos e2]
      · rw [if_neg e2, hD _ e2]
  refine own_put h1 (k * 2 + 1) _ ?_ fun j hj hne => ?_
  · unfold flC
    rw [if_neg (by omega), show (k * 2 + 1) / 2 = k by omega]
  · unfold flC
    by_cases e : j % 2 = 0
    · rw [if_pos e, if_pos e]
    · rw [if_neg e, if_neg e]
      dsimp only
      rw [if_neg (by omega)]
theorem zeros_cl : ∀ u ∈ (Builtin.zeroCells (Value.agg #[.bool false, .bool false]).cells 64).toList, u.oneCell' = true := by
  intro u hu
  have h : (Builtin.zeroCells (Value.agg #[.bool false, .bool false]).cells 64).toList.all (fun u => u.oneCell') = true := by kernel_rfl
  exact List.all_eq_true.1 h u hu
set_option maxRecDepth 100000 in
set_option maxHeartbeats 2000000 in
theorem taken_any {b1 b2 g1 g2 n c1 c2 : Nat} {U D : Nat → Bool} (hn1 : 1 ≤ n) (hn : n ≤ 64) (W : World) (h1 : Own W b1 35 2 (.slice (some ⟨g1, 0, none⟩) n c1) n (flC U D)) (h2 : Own W b2 35 2 (.slice (some ⟨g2, 0, none⟩) n c2) n (flC U D)) (hb1 : b1 ≤ W.heap.size) : Calls Try.prog 32 #[.slice (some ⟨g1, 0, none⟩) n c1, .slice (some ⟨g2, 0, none⟩) n c2] W fun e W' => e = .returned (.bool true) ∧ Below b1 W W' := by
  have HS := sameC2 hn W h1 h2
  obtain ⟨iC, hC1, hC2, hC3, hC4⟩ := binfo infoCL
  have HH : Hid (Own W b1 35 2 (.slice (some ⟨g1, 0, none⟩) n c1) n (flC U D)) := h1
  have HB : Hid (b1 ≤ W.heap.size) := hb1
  clear h1 h2 hb1
  go_enter Try.func32, Try.ntmps32
  go_wp2_with (go_at_call 10; (with_reducible refine HS.mono ?_); rintro e w1 ⟨rfl, hb⟩; have HB1 : Hid (Below W.heap.size W w1) := hb; clear hb)
  go_loopw [12] (fun x wr => ∃ k : Nat, x = .int .i64 (k : Int) ∧ k ≤ n ∧ Below b1 W wr ∧ Own wr b1 35 2 (.slice (some ⟨g1, 0, none⟩) n c1) n (flC (fun i => if i < k then !(U i) else U i) (fun i => if i < k then !(D i) else D i))) (fun x _ => n - (intOf x).toNat)
  case atStart => exact ⟨0, rfl, Nat.zero_le _, HB1.out.mono HB.out, (HH.out.later HB1.out).congr fun j _ => by simp [flC]⟩
  case round =>
    obtain ⟨k, rfl, hk, hbr, ho⟩ := hrel
    clear HB1 HS
    by_cases hlt : k < n
    · have dl : decide ((k : Int) < (n : Int)) = true := by simp; omega
      have hm := meas hlt
      have i0 : (0 : Int) ≤ (k : Int) := by omega
      have i1 : (k : Int) < (n : Int) := by omega
      have ek : IntKind.i64.wrap ((k : Int) + 1) = (k : Int) + 1 := by rw [IntKind.wrap_i64]; omega
      obtain ⟨a0, a1⟩ := own_fl ho hlt
      simp only [Nat.lt_irrefl, if_false] at a0 a1
      have fg := own_frozen ho
      have HO : Hid (Own wr b1 35 2 (.slice (some ⟨g1, 0, none⟩) n c1) n (flC (fun i => if i < k then !(U i) else U i) (fun i => if i < k then !(D i) else D i))) := ho
      have HBR : Hid (Below b1 W wr) := hbr
      have hgl := Own.lt ho g1 rfl
      clear ho hbr
      go_upto_region 6 with fail
      go_region
      all_goals (
        go_wp2_with fail
        have hput := fl_put (k := k) (U' := fun i => if i < k + 1 then !(U i) else U i) (D' := fun i => if i < k + 1 then !(D i) else D i) HO.out (fun i hi => by by_cases e : i < k <;> simp [e] <;> omega) (fun i hi => by by_cases e : i < k <;> simp [e] <;> omega)
        simp only [Nat.lt_succ_self, if_true] at hput
        refine ⟨⟨k + 1, rfl, hlt, ((HBR.out.setCell (p := ⟨g1, k * 2, none⟩) hgl.1 _).setCell (p := ⟨g1, k * 2 + 1, none⟩) hgl.1 _).drew, hput.later (drewB _)⟩, hm⟩)
    · have dl : decide ((k : Int) < (n : Int)) = false := by simp; omega
      obtain rfl : k = n := by omega
      obtain ⟨v', w2, hr, hown, hg, hat, hold⟩ := run_append_own_zeros (P := Try.prog) wr b1 27 3 27 35 iC (.agg #[.bool false, .bool false]) .i64 .i64 2 2 Try.underlying27 Try.underlying3 hC1 hC2 hC3 hC4 rfl (by decide) (.slice (some ⟨g1, 0, none⟩) k c1) k _ ho 64 (by decide) zeros_cl (by unfold maxLen; omega) (by omega) (Nat.le_trans HB.out hbr.size)
      have hb2 : Below b1 W w2 := hbr.grown hg (Nat.le_trans HB.out hbr.size) (fun r e => (Own.lt ho r e).1)
      have ho2 : Own w2 b1 35 2 v' (k + 64) _ := own_of_row hown
      obtain ⟨gg, cc, rfl, hgg, hgl⟩ : ∃ gg cc, v' = .slice (some ⟨gg, 0, none⟩) (k + 64) cc ∧ b1 ≤ gg ∧ gg < w2.heap.size := by
        rcases Own.form ho2 with ⟨_, h2⟩ | ⟨g, c, h2, h3, h4⟩
        · omega
        · exact ⟨g, c, h2, h3, h4⟩
      have y0 := Own.cell ho2 (j := (k + 63) * 2) (by omega)
      have yf := own_frozen ho2
      have e1 : IntKind.i64.wrap (((k + 64 : Nat) : Int) - 1) = ((k + 63 : Nat) : Int) := by rw [IntKind.wrap_i64]; omega
      have j0 : (0 : Int) ≤ ((k + 63 : Nat) : Int) := by omega
      have j1 : ((k + 63 : Nat) : Int) < ((k + 64 : Nat) : Int) := by omega
      generalize (List.getD _ ((k + 63) * 2) undef) = yv at y0
      obtain ⟨kk, hkk⟩ : ∃ kk, k + 63 = kk := ⟨_, rfl⟩
      have HB2 : Hid (Below b1 W w2) := hb2
      clear hb2 hown hg hat hold ho2 ho hbr
      rw [hkk] at e1 j0 j1 y0
      obtain ⟨mm, hmm⟩ : ∃ mm, k + 64 = mm := ⟨_, rfl⟩
      rw [hmm] at hr e1 j1
      have hr' : (Builtin.append_ #[27, 3] 27 #[.slice (some ⟨g1, 0, none⟩) k c1, .int .i64 64]).run Try.prog wr = .ok (.slice (some ⟨gg, 0, none⟩) mm cc) w2 := hr
      clear hkk hmm hr
      have HR : Hid (_ = _) := hr'
      clear hr'
      go_wp2_with (at_builtin; refine Lib.wpList_append_run _ rfl _ _ 27 3 rfl _ _ rfl rfl _ _ HR.out ?_)
      go_ret
      exact ⟨rfl, HB2.out.setCell (p := ⟨gg, kk * 2, none⟩) hgg _⟩
end Go.Proofs.Ytfgkmijaimfkjaa
