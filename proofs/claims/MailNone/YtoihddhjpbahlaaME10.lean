import Derived.Test.YtoihddhjpbahlaaME9b
import Derived.Test.YtoihddhjpbahlaaSL8
import Derived.BigQuiet
import Derived.Deep.RegionLaw
import Derived.Deep.RegionHeld3
import Derived.Deep.Cut
import Derived.Deep.DeepCutAuto
import Derived.Deep.CutBlock
import Derived.Deep.CutRange
import Derived.Deep.AppendLies
import Derived.Handy
import Derived.Lib.RabinKarpLaws
namespace Go.Proofs.Ytoihddhjpbahlaa
open Go.ChangeShapes Go.WideShapes Go.ChangeAt Go.RowKit
set_option linter.unusedVariables false
set_option linter.unusedSimpArgs false


set_option maxRecDepth 100000 in
theorem level_any (p q : Int × Int) (W : World) : Calls Try.prog 29 #[.agg #[.int .i64 p.1, .int .i64 p.2], .agg #[.int .i64 q.1, .int .i64 q.2]] W fun e w' => e = .returned (.int .i64 0) ∧ Below W.heap.size W w' := by
  obtain ⟨a, b⟩ := p
  obtain ⟨c, d⟩ := q
  have h0 := Below.refl W.heap.size W
  go_enter Try.func29, Try.ntmps29
  go_wp2
  go_ret
  first | exact ⟨rfl, h0⟩ | exact ⟨rfl, (h0.alloc (Nat.le_refl _) _).alloc (by rw [World.size_alloc]; omega) _⟩
theorem level_sorts : Sorts (.func (.func 29) #[] #[]) (SL.klt (fun _ _ : Int × Int => (0 : Int))) (fun _ => False) (fun _ => True) := fun W base g S c hS ho _ _ =>
  (SL.sortS_any (rp := (id : Int × Int → Int × Int)) (kc := fun _ _ => 0) ⟨fun x => by simp [SL.klt], fun x y z h1 => by simp [SL.klt] at h1, fun x y z _ _ => by simp [SL.klt]⟩ (by omega) W (base := base) (g := g) (n := S) (cap := S) (c := c) ho (fun _ p q w' _ => level_any p q w')).mono fun r W' ⟨h1, d, h2, h3, h4, h5⟩ => ⟨h1, d, h2, h3, h4, ⟨h5.os, h5.tape, h5.output, h5.size, fun k hk hne _ => h5.block k hk hne⟩, trivial⟩
set_option maxRecDepth 100000 in
set_option maxHeartbeats 8000000 in
theorem none_bad (w0 w1 r0 r1 : Int) (p : Option Addr) (N c : Nat) (W : World) (h : (w0 < 1 ∨ 64 < w0) ∨ (r0 < 1 ∨ 1024 < r0)) (hN : (N : Int) < 9223372036854775807) :
    Calls Try.prog 6 #[.agg #[.int .i64 w0, .int .i64 w1, .int .i64 r0, .int .i64 r1, .slice p N c]] W fun e W' => e = .returned (.bool true) ∧ Below W.heap.size W W' := by
  obtain ⟨W1, hW1⟩ : ∃ W1, W.alloc (.cells #[.int .i64 w0, .int .i64 w1, .int .i64 r0, .int .i64 r1, .slice p N c] 25) = W1 := ⟨_, rfl⟩
  have hb1 : Below W.heap.size W W1 := by rw [← hW1]; exact (Below.refl _ W).alloc (Nat.le_refl _) _
  have hs1 : ScAt W1 W.heap.size w0 w1 r0 r1 p N c := by rw [← hW1]; exact World.alloc_heap_new W _
  have HNEW := mb_newBadC .nilFunc w0 r0 h W1
  have HRN := ref_newBadX false w0 r0 h W1
  have HB := mhid (And.intro hb1 (lt_of_block hs1))
  have HW1 := mhid hW1
  obtain ⟨SB, hSB⟩ : ∃ SB, W.heap.size = SB := ⟨_, rfl⟩
  rw [hSB] at hs1
  obtain ⟨c0, c1, c2, c3, c4⟩ := hs1.cells
  obtain ⟨z, hz⟩ : ∃ z, nbad w0 r0 = z := ⟨_, rfl⟩
  rw [hz] at HNEW HRN
  have HSB := mhid hSB
  have lsb := lt_of_block hs1
  clear h hb1 hs1 hW1 hz
  go_enter Try.func6, Try.ntmps6
  go_upto_region 1 with fail
  rw [HW1.out]
  clear hSB
  go_upto_region 6 with (first | (go_at_call 13; (with_reducible refine HNEW.mono ?_); rintro e w2 ⟨rfl, h9⟩; subst h9) | (go_at_call 26; (with_reducible refine HRN.mono ?_); rintro e w3 ⟨rfl, h9⟩; subst h9))
  obtain ⟨w4, hw4⟩ : ∃ w4, w3.alloc (.cells #[.slice none 0 0, .slice none 0 0, .slice none 0 0, .slice none 0 0] 65) = w4 := ⟨_, rfl⟩
  rw [hw4]
  have hb4 : Below w3.heap.size w3 w4 := by rw [← hw4]; exact (Below.refl _ w3).alloc (Nat.le_refl _) _
  have c4' : w4.cell? ⟨SB, 4, none⟩ = some (.slice p N c) := (hb4.cell (p := ⟨SB, 4, none⟩) lsb).trans c4
  have HF : Hid (Below W.heap.size W w4) := HB.out.1.trans (hb4.mono HB.out.1.size)
  clear c0 c1 c2 c3 c4 hw4 hb4 HNEW HRN
  go_wp2_with fail
  go_loopw [8] (fun y wr => y = .int .i64 0 ∧ wr = w4) (fun _ _ => 0)
  case atStart => exact ⟨rfl, rfl⟩
  case round =>
    obtain ⟨rfl, h9⟩ := hrel
    subst h9
    by_cases hlt : 0 < N
    · have dl : decide ((0 : Int) < (N : Int)) = true := by simp; omega
      have dln : decide (0 < N) = true := by simpa using hlt
      clear hlt
      go_wp2_with fail
      go_ret
      exact ⟨rfl, HF.out⟩
    · have dl : decide ((0 : Int) < (N : Int)) = false := by simp; omega
      have dln : decide (0 < N) = false := by simpa using hlt
      clear hlt
      go_wp2_with fail
      go_ret
      exact ⟨rfl, HF.out⟩
abbrev lvV : Value := .func (.func 29) #[] #[]
theorem lv_lt (a b : Int × Int) : SL.klt (fun _ _ : Int × Int => (0 : Int)) a b = (false && decide (a.1 < b.1)) := by simp [SL.klt]
set_option maxRecDepth 100000 in
set_option maxHeartbeats 8000000 in
theorem none_law (w0 w1 r0 r1 : Int) (p : Option Addr) (N c : Nat) (X : Nat → OpV) (W : World) (h : OpIn W p N X) (hN : N * 40 ≤ 140737488351232) :
    Calls Try.prog 6 #[.agg #[.int .i64 w0, .int .i64 w1, .int .i64 r0, .int .i64 r1, .slice p N c]] W fun e W' => e = .returned (.bool true) ∧ Below W.heap.size W W' := by
  by_cases hbad : (w0 < 1 ∨ 64 < w0) ∨ (r0 < 1 ∨ 1024 < r0)
  · exact none_bad w0 w1 r0 r1 p N c W hbad (by omega)
  obtain ⟨n, rfl⟩ : ∃ n : Nat, w0 = (n : Int) := ⟨w0.toNat, by omega⟩
  have hn0 : 1 ≤ n := by omega
  have hn : n ≤ 64 := by omega
  have hr : 1 ≤ r0 ∧ r0 ≤ 1024 := by omega
  obtain ⟨W1, hW1⟩ : ∃ W1, W.alloc (.cells #[.int .i64 (n : Int), .int .i64 w1, .int .i64 r0, .int .i64 r1, .slice p N c] 25) = W1 := ⟨_, rfl⟩
  have hb1 : Below W.heap.size W W1 := by rw [← hW1]; exact (Below.refl _ W).alloc (Nat.le_refl _) _
  have hs1 : ScAt W1 W.heap.size n w1 r0 r1 p N c := by rw [← hW1]; exact World.alloc_heap_new W _
  have HNEW := mb_newL n r0 hn0 hn hr.1 hr.2 W1
  have HRN : Hid (∀ w2, Calls Try.prog 26 #[.int .i64 (n : Int), .int .i64 r0, .bool false] w2 fun e w' => ∃ qb pb fb, e = .returned (.tuple #[.pointer (some ⟨qb, 0, none⟩), .int .i64 0]) ∧ RX No w' w2.heap.size qb pb fb n r0 false (fun _ => 0) (fun _ => 0) (.slice none 0 0) [] ∧ Below w2.heap.size w2 w') := fun w2 => ref_newX false n r0 hn0 hn hr.1 hr.2 w2
  obtain ⟨B, hB⟩ : ∃ B, W1.heap.size = B := ⟨_, rfl⟩
  have HLA : Hid (∀ wr, Below B W1 wr → ScAt wr W.heap.size n w1 r0 r1 p N c ∧ OpIn wr p N X) := fun wr hb => ⟨(hb.block _ (by have := lt_of_block hs1; omega)).trans hs1, (h.later hb1).later (by rw [hB]; exact hb)⟩
  rw [hB] at HNEW
  have HR := mhid (And.intro hn (And.intro hr (And.intro hb1 (And.intro hB hN))))
  have HW1 := mhid hW1
  obtain ⟨SB, hSB⟩ : ∃ SB, W.heap.size = SB := ⟨_, rfl⟩
  rw [hSB] at HLA hs1
  obtain ⟨c0, c1, c2, c3, c4⟩ := hs1.cells
  clear h hbad hn0 hn hr hs1 hb1 hW1 hB hN
  go_enter Try.func6, Try.ntmps6
  go_upto_region 1 with fail
  rw [HW1.out]
  clear hSB
  go_upto_region 2 with (go_at_call 13; (with_reducible refine HNEW.mono ?_); rintro e w2 ⟨hb, wb, bb, R, rfl, np, b2⟩; have HNP := mhid (And.intro np.mp b2); clear np b2)
  clear c0 c1 c2 c3 c4 HNEW
  obtain ⟨c0, c1, c2, c3, c4⟩ := (HLA.out w2 HNP.out.2).1.cells
  have HR2 := HRN.out w2
  go_upto_region 6 with (go_at_call 26; (with_reducible refine HR2.mono ?_); rintro e w3 ⟨qb, pb, fb, rfl, hq, b3⟩; have HQ3 := mhid (And.intro hq b3); clear hq b3)
  clear c0 c1 c2 c3 c4 HR2 HRN
  have hB2 : B ≤ w2.heap.size := by have := HNP.out.2.size; have := HR.out.2.2.2.1; omega
  have o4 := o3_new (cmp := lvV) HNP.out.1 HQ3.out.1 hB2 HQ3.out.2
  obtain ⟨w4, hw4⟩ : ∃ w4, w3.alloc (.cells #[.slice none 0 0, .slice none 0 0, .slice none 0 0, .slice none 0 0] 65) = w4 := ⟨_, rfl⟩
  rw [hw4] at o4 ⊢
  have hb4 : Below B W1 w4 := (HNP.out.2.trans (HQ3.out.2.mono hB2)).trans (by rw [← hw4]; exact (Below.refl _ w3).alloc (Nat.le_trans hB2 HQ3.out.2.size) _)
  obtain ⟨sb, hsb⟩ : ∃ sb, w3.heap.size = sb := ⟨_, rfl⟩
  rw [hsb] at o4
  have H4 := mhid (And.intro o4 hb4)
  clear o4 hb4 hw4 hB2
  go_wp2_with fail
  clear hsb
  go_loopw [8] (fun y wr => ∃ (k : Nat) (a : AP), y = .int .i64 (k : Int) ∧ k ≤ N ∧ k ≤ 400 ∧ O3 n r0 lvV false B wr a ∧ RA n r0 a k ∧ a.m ≤ 4 * k ∧ a.hb = hb ∧ a.qb = qb ∧ a.sb = sb ∧ Below B W1 wr) (fun y _ => N - (intOf y).toNat)
  case atStart => exact ⟨0, _, rfl, Nat.zero_le _, Nat.zero_le _, H4.out.1, ra_new (by have := HR.out.2.1; omega), Nat.le_refl _, rfl, rfl, rfl, H4.out.2⟩
  case round =>
    obtain ⟨k, a, rfl, hk, hk4, ho, hra, ham, e1, e2, e3, hbr⟩ := hrel
    obtain ⟨hsc, hop⟩ := HLA.out wr hbr
    obtain ⟨c0, c1, c2, c3, c4⟩ := hsc.cells
    by_cases hlt : k < N ∧ k < 400
    · have dl : decide ((k : Int) < (N : Int)) = true := by simp; omega
      have dln : decide (k < N) = true := by simp; omega
      have dl4 : decide ((k : Int) < 400) = true := by simp; omega
      have dl4n : decide (k < 400) = true := by simp; omega
      have hme := meas hlt.1
      have ek : IntKind.i64.wrap ((k : Int) + 1) = (k : Int) + 1 := by rw [IntKind.wrap_i64]; omega
      have k0 : (0 : Int) ≤ (k : Int) := by omega
      have k1 : (k : Int) < (N : Int) := by omega
      rcases hop with h0 | ⟨ob, off, hp, hob, hcs⟩
      · omega
      obtain ⟨y0, y1, y2, y3, y4⟩ := hcs k hlt.1
      obtain ⟨⟨op, kd, oa, ob2, ok⟩, hX⟩ : ∃ o, X k = o := ⟨_, rfl⟩
      rw [hX] at y0 y1 y2 y3 y4
      simp only at y0 y1 y2 y3 y4
      subst hp
      have HAN := answer_any (X := fun _ => False) (J := fun _ => True) a k HR.out.1 (by omega) (by omega) HR.out.2.1 (fun _ h => h.elim) hra lv_lt level_sorts (fun _ _ _ _ => trivial) op kd oa ob2 ok wr ho trivial
      rw [e1, e2, e3] at HAN
      have HI := mhid (And.intro hlt (And.intro ham (And.intro e1 (And.intro e2 (And.intro e3 hbr)))))
      clear hsc hcs hX ho hra ham e1 e2 e3 hbr hlt hk hk4 hob
      go_wp2_with (go_at_call 27; (with_reducible refine HAN.mono ?_); rintro e9 w9 ⟨rfl, b9, -, -, a', o9, s9, r9⟩; have P9 := mhid (And.intro b9 (And.intro o9 (And.intro s9 r9))); clear b9 o9 s9 r9)
      have s9 := P9.out.2.2.1
      exact ⟨⟨k + 1, a', rfl, HI.out.1.1, HI.out.1.2, P9.out.2.1, P9.out.2.2.2, by have e4 := s9.i4; have e5 := HI.out.2.1; omega, s9.i1.trans HI.out.2.2.1, s9.i2.trans HI.out.2.2.2.1, s9.i3.trans HI.out.2.2.2.2.1, HI.out.2.2.2.2.2.trans (below_of P9.out.1)⟩, hme⟩
    · have HI := mhid hbr
      have stop : (decide ((k : Int) < (N : Int)) = false ∧ decide (k < N) = false) ∨ ((decide ((k : Int) < (N : Int)) = true ∧ decide (k < N) = true) ∧ (decide ((k : Int) < 400) = false ∧ decide (k < 400) = false)) := by
        by_cases h8 : k < N
        · exact .inr ⟨⟨by simp; omega, by simp; omega⟩, by simp; omega, by simp; omega⟩
        · exact .inl ⟨by simp; omega, by simp; omega⟩
      have HFI : Hid (Below W.heap.size W wr) := HR.out.2.2.1.trans (hbr.mono (by have := HR.out.2.2.2.1; have := HR.out.2.2.1.size; omega))
      clear hsc hop ho hra ham e1 e2 e3 hbr hlt hk hk4
      rcases stop with ⟨dl, dln⟩ | ⟨⟨dl, dln⟩, dl4, dl4n⟩
      all_goals (
        go_wp2_with fail
        go_ret
        exact ⟨rfl, HFI.out⟩)
end Go.Proofs.Ytoihddhjpbahlaa
