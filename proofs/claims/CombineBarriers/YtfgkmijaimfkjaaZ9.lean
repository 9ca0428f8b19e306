import Derived.Test.YtfgkmijaimfkjaaZ8
namespace Go.Proofs.Ytfgkmijaimfkjaa
open Go.ChangeShapes Go.WideShapes Go.ChangeAt Go.RowKit
set_option linter.unusedVariables false
set_option linter.unusedSimpArgs false
variable {base hb wb cb n : Nat} {N : Nt}

set_option maxRecDepth 100000 in
set_option maxHeartbeats 2000000 in
theorem zStep_any (J : Int → Int → Int) (x : Int) (hn : n ≤ 64) (hp5 : ∀ w, w < n → N.pl w ≤ 5) (hr : ∀ w, w < n → N.rd w < 1000000000000000000) (W : World) (h : NZ base hb wb cb n N W) : Calls Try.prog 14 #[.pointer (some ⟨hb, 0, none⟩), .int .i64 x] W fun e W' => e = .returned (.tuple #[.bool (stpB J n N x), .int .i64 (stpE n N x)]) ∧ ZC W base hb wb cb n (stpN J n N x) W' := by
  have HK := zknows_any x W h
  have HI := zinside_any x W h
  by_cases hx : inN n x = true
  · obtain ⟨w, hw, rfl⟩ := inN_get hx
    unfold stpE stpN stpB
    rw [hx] at HK HI ⊢
    simp only [Int.toNat_natCast, if_true, Bool.true_and, true_and] at HI ⊢
    by_cases hp : N.pl w = 0
    · have hp' : (N.pl w != 0) = false := by simp [hp]
      rw [hp'] at HI
      simp only [hp, ne_eq, not_true_eq_false, if_false, if_true]
      go_enter Try.func14, Try.ntmps14
      go_wp2_with (first | (go_at_call 54; (with_reducible refine HK.mono ?_); rintro e w1 ⟨rfl, h9⟩; subst h9) | (go_at_call 17; (with_reducible refine HI.mono ?_); rintro e w2 ⟨rfl, h9⟩; subst h9))
      go_returns
      exact ⟨rfl, ZC.start h⟩
    · have hp' : (N.pl w != 0) = true := by simp [hp]
      rw [hp'] at HI
      simp only [hp, ne_eq, not_false_eq_true, if_false, if_true]
      have HS := zstep_any J w hw hn (by omega) (hp5 w hw) (hr w hw) W h
      clear hp' hp
      go_enter Try.func14, Try.ntmps14
      go_wp2_with (first | (go_at_call 54; (with_reducible refine HK.mono ?_); rintro e w1 ⟨rfl, h9⟩; subst h9) | (go_at_call 17; first | ((with_reducible refine HI2.mono ?_); rintro e w4 ⟨rfl, h9⟩; subst h9) | ((with_reducible refine HI.mono ?_); rintro e w2 ⟨rfl, h9⟩; subst h9)) | (go_at_call 55; (with_reducible refine HS.mono ?_); rintro e w3 ⟨rfl, hz⟩; have HI2 := zinside_any (w : Int) w3 hz.1; rw [hx] at HI2; simp only [Int.toNat_natCast, Bool.true_and] at HI2; have HZ : Hid (_ ∧ True) := ⟨hz, trivial⟩; clear hz))
      go_returns
      refine ⟨?_, HZ.out.1⟩
      have : ∀ k : Nat, (!(k != 0)) = (k == 0) := fun k => by cases k <;> rfl
      rw [← this]
      rfl
  · rw [Bool.not_eq_true] at hx
    unfold stpE stpN stpB
    rw [hx] at HK ⊢
    simp only [Bool.false_eq_true, if_false, false_and]
    go_enter Try.func14, Try.ntmps14
    go_wp2_with (go_at_call 54; (with_reducible refine HK.mono ?_); rintro e w1 ⟨rfl, h9⟩; subst h9)
    go_returns
    exact ⟨rfl, ZC.start h⟩
set_option maxRecDepth 100000 in
set_option maxHeartbeats 2000000 in
theorem zcells_any (hn : n ≤ 64) (W : World) (h : NZ base hb wb cb n N W) : Calls Try.prog 11 #[.pointer (some ⟨hb, 0, none⟩)] W fun e W' => ∃ g, e = .returned (.slice (some ⟨g, 0, none⟩) n n) ∧ CList W' W.heap.size g n N.up N.dn ∧ Below W.heap.size W W' := by
  obtain ⟨c0, c1, c2⟩ := h.cells
  obtain ⟨iC, hC1, hC2, hC3, hC4⟩ := binfo infoCL
  have rC : ∀ w : World, (Instr.makeSlice 27 (.int .i64 (n : Int)) (.int .i64 (n : Int))).run Try.prog w = .ok (.slice (some ⟨w.heap.size, 0, none⟩) n n) (w.alloc (.cells (zA (.agg #[.bool false, .bool false]) n 2) 35)) := run_make_eq _ _ iC _ 2 Try.underlying27 hC1 hC2 hC3 n (by rw [hC4]; omega) (by omega)
  have o1 := own_new W 35 (.agg #[.bool false, .bool false]) n 2 (by unfold maxLen; omega)
  have b1 : Below W.heap.size W (W.alloc (.cells (zA (.agg #[.bool false, .bool false]) n 2) 35)) := (Below.refl _ W).alloc (Nat.le_refl _) _
  have h1 := h.later b1
  obtain ⟨W1, hW1⟩ : ∃ W1, W.alloc (.cells (zA (.agg #[.bool false, .bool false]) n 2) 35) = W1 := ⟨_, rfl⟩
  rw [hW1] at o1 b1 h1
  have HW1 : Hid (W.alloc (.cells (zA (.agg #[.bool false, .bool false]) n 2) 35) = W1) := hW1
  clear hW1 hC1 hC2 hC3 hC4
  obtain ⟨g, hg⟩ : ∃ g, W.heap.size = g := ⟨_, rfl⟩
  rw [hg] at o1 b1 ⊢
  have HG : Hid (W.heap.size = g) := hg
  have o2 : CList W1 g g n (fun _ => false) (fun _ => false) := o1.congr fun j hj => by
    rw [made2 _ _ _ hj]
    unfold flC
    split <;> rfl
  clear o1 hg
  have HO : Hid (CList W1 g g n (fun _ => false) (fun _ => false)) := o2
  have HN1 : Hid (NZ base hb wb cb n N W1) := h1
  clear o2 h1
  go_enter Try.func11, Try.ntmps11
  go_wp2_with fail
  rw [HW1.out, HG.out]
  go_loopw [13] (fun x wr => ∃ k : Nat, x = .int .i64 (k : Int) ∧ k ≤ n ∧ CList wr g g n (fun i => if i < k then N.up i else false) (fun i => if i < k then N.dn i else false) ∧ NZ base hb wb cb n N wr ∧ Below g W wr) (fun x _ => n - (intOf x).toNat)
  case atStart => exact ⟨0, rfl, Nat.zero_le _, HO.out.congr fun j _ => rfl, HN1.out, b1⟩
  case round =>
    obtain ⟨k, rfl, hk, hl, hN, hbr⟩ := hrel
    by_cases hlt : k < n
    · have dl : decide ((k : Int) < (n : Int)) = true := by simp; omega
      have hm := meas hlt
      have i0 : (0 : Int) ≤ (k : Int) := by omega
      have i1 : (k : Int) < (n : Int) := by omega
      obtain ⟨d0, d1, d2⟩ := hN.cells
      obtain ⟨e0, e1⟩ := hN.cl hlt
      obtain ⟨cur, hcu, hcs, _, _, hgb, _⟩ := Own.block hl
      have y0 := Own.cell hl (j := k * 2) (by omega)
      have y1 := Own.cell hl (j := k * 2 + 1) (by omega)
      have yf := frz hcu
      have hbl := lt_of_block hcu
      have ek : IntKind.i64.wrap ((k : Int) + 1) = (k : Int) + 1 := by rw [IntKind.wrap_i64]; omega
      obtain ⟨l0, l1, l2⟩ := hN.lt
      have HR : Hid (CList wr g g n (fun i => if i < k then N.up i else false) (fun i => if i < k then N.dn i else false)) := hl
      have HNR : Hid (NZ base hb wb cb n N wr) := hN
      have n0 : hb ≠ g := typ_ne hN.box hcu (by decide)
      obtain ⟨cw, hcw, _⟩ := hN.row.block
      obtain ⟨cc, hcc, _⟩ := hN.cel.block
      have n1 : wb ≠ g := typ_ne hcw hcu (by decide)
      have n2 : cb ≠ g := typ_ne hcc hcu (by decide)
      clear hl hN hcu hcs hcw hcc
      go_wp2_with fail
      have hc : Ch (fun b => b = g) wr ((wr.setCell ⟨g, k * 2, none⟩ (.bool (N.up k))).setCell ⟨g, k * 2 + 1, none⟩ (.bool (N.dn k))) := (Ch.set (fun b => b = g) _ _ _ _ rfl).trans (Ch.set (fun b => b = g) _ _ _ _ rfl)
      refine ⟨⟨k + 1, rfl, hlt, ?_, HNR.out.keep hc n0 n1 n2, (hbr.setCell (p := ⟨g, k * 2, none⟩) hgb _).setCell (p := ⟨g, k * 2 + 1, none⟩) hgb _⟩, hm⟩
      have := CList.put (k := k) (U' := fun i => if i < k + 1 then N.up i else false) (D' := fun i => if i < k + 1 then N.dn i else false) HR.out (fun i hi => by by_cases e : i < k <;> simp [e] <;> omega) (fun i hi => by by_cases e : i < k <;> simp [e] <;> omega)
      simpa using this
    · have dl : decide ((k : Int) < (n : Int)) = false := by simp; omega
      obtain rfl : k = n := by omega
      go_wp2_with fail
      go_ret
      exact ⟨g, rfl, hl.congr fun j hj => by
        have e : j / 2 < k := by omega
        simp [flC, e], hbr⟩
end Go.Proofs.Ytfgkmijaimfkjaa
