import Derived.Test.YtkgifanlodlilaaGH6
import Derived.Deep.RegionLaw
import Derived.Deep.RegionHeld3
import Derived.Deep.Cut
import Derived.Deep.DeepCutAuto
import Derived.Deep.CutBlock
import Derived.Deep.CutRange
import Derived.BigQuiet
import Derived.Handy
namespace Go.Proofs.Ytkgifanlodlilaa
open Go.ChangeShapes Go.WideShapes Go.ChangeAt Go.RowKit
set_option linter.unusedVariables false
set_option linter.unusedSimpArgs false


/-- whose a part is, by turns (1), by blocks (2), by programs (else) -/
def owF (p : Pl) (wk : Nat) (way : Int) (i : Nat) : Int := if way = 1 then (i : Int) % (wk : Int) else if way = 2 then (i : Int) * (wk : Int) / (p.nq : Int) else p.pr i % (wk : Int)
theorem ow_next {F : Nat → Int} {i n : Nat} {X : Int} (h : X = F i) : ∀ j, j < n → setF (fun j => if j < i then F j else 0) i X j = (fun j => if j < i + 1 then F j else 0) j := fun j _ => by
  unfold setF
  show (if j = i then X else if j < i then F j else 0) = if j < i + 1 then F j else 0
  by_cases e : j = i
  · subst e; rw [if_pos rfl, if_pos (by omega), h]
  · rw [if_neg e]
    by_cases e2 : j < i
    · rw [if_pos e2, if_pos (by omega)]
    · rw [if_neg e2, if_neg (by omega)]
set_option maxRecDepth 100000 in
set_option maxHeartbeats 4000000 in
theorem owners1_any (p : Pl) (v : PlV) (wk : Nat) (hV : VC p 0) (hw1 : 1 ≤ wk) (hw2 : wk ≤ 64) (w : World) (h : PlAt w p v) : Calls Try.prog 14 #[.agg #[.int .i64 p.ki, .slice v.pp p.np v.pc, .slice v.tp p.nq v.tc, .slice v.sp p.ns v.sc, .int .u64 p.sd, .int .u64 p.lk, .int .u64 p.en, .int .i64 p.bu, .int .i64 p.fu], .int .i64 (wk : Int), .int .i64 1] w fun e w' => ∃ (g : Nat) (f : Nat → Int), e = .returned (.slice (some ⟨g, 0, none⟩) p.nq p.nq) ∧ IRow w' w.heap.size g p.nq p.nq f ∧ f = owF p wk 1 ∧ Below w.heap.size w w' := by
  obtain ⟨wb, hwb⟩ : ∃ wb, w.alloc (.cells #[.int .i64 p.ki, .slice v.pp p.np v.pc, .slice v.tp p.nq v.tc, .slice v.sp p.ns v.sc, .int .u64 p.sd, .int .u64 p.lk, .int .u64 p.en, .int .i64 p.bu, .int .i64 p.fu] 27) = wb := ⟨_, rfl⟩
  obtain ⟨hb0, hbox, hsz⟩ := boxed _ _ _ hwb
  have HW : Hid (w.alloc (.cells #[.int .i64 p.ki, .slice v.pp p.np v.pc, .slice v.tp p.nq v.tc, .slice v.sp p.ns v.sc, .int .u64 p.sd, .int .u64 p.lk, .int .u64 p.en, .int .i64 p.bu, .int .i64 p.fu] 27) = wb) := hwb
  obtain ⟨⟨⟨hns, hgs⟩, hq, hgt⟩, -⟩ := hV.fit6
  obtain ⟨⟨c0, c1, c2, c3⟩, c4, c5, c6, c7, c8⟩ := cells9 hbox
  rw [← hwb] at c0 c1 c2 c3 c4 c5 c6 c7 c8
  obtain ⟨i5, hi5, hz0, hz1, hz2⟩ := info_parts infoInt1
  have hrun := fun W => run_make_row (P := Try.prog) 28 3 i5 (.int .i64 0) Try.underlying28 hi5 hz0 hz1 rfl .i64 .i64 p.nq (by rw [hz2]; omega) (by omega) W
  obtain ⟨g, hg⟩ : ∃ g, w.heap.size + 1 = g := ⟨_, rfl⟩
  obtain ⟨w1, hw1e⟩ : ∃ w1, wb.alloc (.cells (madeCells #[Value.int .i64 0] p.nq) 3) = w1 := ⟨_, rfl⟩
  have r1 := zero_row (W := wb) hq
  rw [hw1e, show wb.heap.size = w.heap.size + 1 from hsz, hg] at r1
  have b1 : Below wb.heap.size wb w1 := by rw [← hw1e]; exact (Below.refl _ wb).alloc (Nat.le_refl _) _
  have HB : Hid (Below w.heap.size w wb ∧ wb.heap[w.heap.size]? = some (.cells #[.int .i64 p.ki, .slice v.pp p.np v.pc, .slice v.tp p.nq v.tc, .slice v.sp p.ns v.sc, .int .u64 p.sd, .int .u64 p.lk, .int .u64 p.en, .int .i64 p.bu, .int .i64 p.fu] 27 (0, 0)) ∧ wb.heap.size = w.heap.size + 1 ∧ TsAt wb v.tp p.nq p.pr p.nw p.K v.wp v.wc ∧ w.heap.size + 1 = g ∧ wb.alloc (.cells (madeCells #[Value.int .i64 0] p.nq) 3) = w1) := ⟨hb0, hbox, hsz, (h.below hb0).ts, hg, hw1e⟩
  have H1 : Hid (IRow w1 g g p.nq p.nq (fun _ => 0) ∧ Below wb.heap.size wb w1) := ⟨r1, b1⟩
  have HGT : Hid (∀ j, j < p.nq → gt1 p j) := hgt
  have hwz : ((wk : Int) == 0) = false := by simp; omega
  clear h hwb hb0 hbox hsz hV hgs hgt hi5 hz0 hz1 hz2 hw1e r1 b1 hg
  go_enter Try.func14, Try.ntmps14
  go_wp2_with fail
  rw [HW.out, HB.out.2.2.2.2.2, HB.out.2.2.2.2.1]
  clear c0 c1 c2 c3 c4 c5 c6 c7 c8 hrun
  go_loopw [23] (fun y wr => ∃ (i : Nat), y = .int .i64 (i : Int) ∧ i ≤ p.nq ∧ IRow wr g g p.nq p.nq (fun j => if j < i then owF p wk 1 j else 0) ∧ Below wb.heap.size wb wr) (fun y _ => p.nq - (intOf y).toNat)
  case atStart => exact ⟨0, rfl, Nat.zero_le _, H1.out.1.congr fun j hj => by rw [if_neg (by omega)], H1.out.2⟩
  case round =>
    obtain ⟨i, rfl, hi, hr, hbr⟩ := hrel
    clear H1
    by_cases hlt : i < p.nq
    · have dlt : decide ((i : Int) < (p.nq : Int)) = true := by simp; omega
      have hm := gmeas hlt
      have ei : IntKind.i64.wrap ((i : Int) + 1) = (i : Int) + 1 := by rw [IntKind.wrap_i64]; omega
      have i0 : (0 : Int) ≤ (i : Int) := by omega
      have i1 : (i : Int) < (p.nq : Int) := by omega
      obtain hz | ⟨gt, ot, hp, hl, hc, -⟩ := HB.out.2.2.2.1.below hbr
      · omega
      obtain ⟨x0, x1⟩ := hc i hlt
      have hgt1 := HGT.out i hlt

      have hbe := (Below.refl _ wr).alloc (Nat.le_refl _) (.cells #[.int .i64 (p.pr i), .slice (v.wp i) (p.nw i) (v.wc i)] 54)
      have y0 := (hr.later hbe).cell hlt
      have fz := (hr.later hbe).fz
      have hgl := hr.lt.2
      have hgne : wr.heap.size ≠ g := by omega
      have hbx := (hbr.block _ (by have := HB.out.2.2.1; omega)).trans HB.out.2.1
      obtain ⟨⟨-, -, k2, -⟩, -⟩ := cells9 hbx
      rw [hp] at k2
      have k2a := (cell_below (a := ⟨w.heap.size, 2, none⟩) hbe (by have h1 := HB.out.2.2.2.2.1; show w.heap.size < wr.heap.size; omega)).trans k2
      have hwne : w.heap.size ≠ wr.heap.size := by have h1 := HB.out.2.2.2.2.1; omega
      rw [hp]
      have HR : Hid (IRow wr g g p.nq p.nq (fun j => if j < i then owF p wk 1 j else 0) ∧ Below wb.heap.size wb wr) := ⟨hr, hbr⟩
      clear hr hbr hc hl hp hbe hbx hgt1
      go_wp2_with fail
      refine ⟨⟨i + 1, rfl, hlt, ((HR.out.1.put i _).congr (ow_next ?_)).later ((Below.refl _ _).alloc (Nat.le_refl _) _), (HR.out.2.setCell (by have h1 := HB.out.2.2.1; have h2 := HB.out.2.2.2.2.1; show wb.heap.size ≤ g; omega) _).alloc (HR.out.2.setCell (by have h1 := HB.out.2.2.1; have h2 := HB.out.2.2.2.2.1; show wb.heap.size ≤ g; omega) _).size _⟩, hm⟩
      unfold owF; rw [if_pos rfl]
    · have dlt : decide ((i : Int) < (p.nq : Int)) = false := by simp; omega
      obtain rfl : i = p.nq := by omega
      have H2 : Hid (IRow wr g g p.nq p.nq (owF p wk 1) ∧ Below wb.heap.size wb wr) := ⟨hr.congr fun j hj => if_pos hj, hbr⟩
      clear hr hbr
      go_wp2_with fail
      go_ret
      exact ⟨g, _, rfl, H2.out.1.lower (by have := HB.out.2.2.2.2.1; omega), rfl, HB.out.1.trans (H2.out.2.mono HB.out.1.size)⟩
set_option maxRecDepth 100000 in
set_option maxHeartbeats 4000000 in
theorem owners2_any (p : Pl) (v : PlV) (wk : Nat) (hV : VC p 0) (hw1 : 1 ≤ wk) (hw2 : wk ≤ 64) (w : World) (h : PlAt w p v) : Calls Try.prog 14 #[.agg #[.int .i64 p.ki, .slice v.pp p.np v.pc, .slice v.tp p.nq v.tc, .slice v.sp p.ns v.sc, .int .u64 p.sd, .int .u64 p.lk, .int .u64 p.en, .int .i64 p.bu, .int .i64 p.fu], .int .i64 (wk : Int), .int .i64 2] w fun e w' => ∃ (g : Nat) (f : Nat → Int), e = .returned (.slice (some ⟨g, 0, none⟩) p.nq p.nq) ∧ IRow w' w.heap.size g p.nq p.nq f ∧ f = owF p wk 2 ∧ Below w.heap.size w w' := by
  obtain ⟨wb, hwb⟩ : ∃ wb, w.alloc (.cells #[.int .i64 p.ki, .slice v.pp p.np v.pc, .slice v.tp p.nq v.tc, .slice v.sp p.ns v.sc, .int .u64 p.sd, .int .u64 p.lk, .int .u64 p.en, .int .i64 p.bu, .int .i64 p.fu] 27) = wb := ⟨_, rfl⟩
  obtain ⟨hb0, hbox, hsz⟩ := boxed _ _ _ hwb
  have HW : Hid (w.alloc (.cells #[.int .i64 p.ki, .slice v.pp p.np v.pc, .slice v.tp p.nq v.tc, .slice v.sp p.ns v.sc, .int .u64 p.sd, .int .u64 p.lk, .int .u64 p.en, .int .i64 p.bu, .int .i64 p.fu] 27) = wb) := hwb
  obtain ⟨⟨⟨hns, hgs⟩, hq, hgt⟩, -⟩ := hV.fit6
  obtain ⟨⟨c0, c1, c2, c3⟩, c4, c5, c6, c7, c8⟩ := cells9 hbox
  rw [← hwb] at c0 c1 c2 c3 c4 c5 c6 c7 c8
  obtain ⟨i5, hi5, hz0, hz1, hz2⟩ := info_parts infoInt1
  have hrun := fun W => run_make_row (P := Try.prog) 28 3 i5 (.int .i64 0) Try.underlying28 hi5 hz0 hz1 rfl .i64 .i64 p.nq (by rw [hz2]; omega) (by omega) W
  obtain ⟨g, hg⟩ : ∃ g, w.heap.size + 1 = g := ⟨_, rfl⟩
  obtain ⟨w1, hw1e⟩ : ∃ w1, wb.alloc (.cells (madeCells #[Value.int .i64 0] p.nq) 3) = w1 := ⟨_, rfl⟩
  have r1 := zero_row (W := wb) hq
  rw [hw1e, show wb.heap.size = w.heap.size + 1 from hsz, hg] at r1
  have b1 : Below wb.heap.size wb w1 := by rw [← hw1e]; exact (Below.refl _ wb).alloc (Nat.le_refl _) _
  have HB : Hid (Below w.heap.size w wb ∧ wb.heap[w.heap.size]? = some (.cells #[.int .i64 p.ki, .slice v.pp p.np v.pc, .slice v.tp p.nq v.tc, .slice v.sp p.ns v.sc, .int .u64 p.sd, .int .u64 p.lk, .int .u64 p.en, .int .i64 p.bu, .int .i64 p.fu] 27 (0, 0)) ∧ wb.heap.size = w.heap.size + 1 ∧ TsAt wb v.tp p.nq p.pr p.nw p.K v.wp v.wc ∧ w.heap.size + 1 = g ∧ wb.alloc (.cells (madeCells #[Value.int .i64 0] p.nq) 3) = w1) := ⟨hb0, hbox, hsz, (h.below hb0).ts, hg, hw1e⟩
  have H1 : Hid (IRow w1 g g p.nq p.nq (fun _ => 0) ∧ Below wb.heap.size wb w1) := ⟨r1, b1⟩
  have HGT : Hid (∀ j, j < p.nq → gt1 p j) := hgt
  have hwz : ((wk : Int) == 0) = false := by simp; omega
  clear h hwb hb0 hbox hsz hV hgs hgt hi5 hz0 hz1 hz2 hw1e r1 b1 hg
  go_enter Try.func14, Try.ntmps14
  go_wp2_with fail
  rw [HW.out, HB.out.2.2.2.2.2, HB.out.2.2.2.2.1]
  clear c0 c1 c2 c3 c4 c5 c6 c7 c8 hrun
  go_loopw [23] (fun y wr => ∃ (i : Nat), y = .int .i64 (i : Int) ∧ i ≤ p.nq ∧ IRow wr g g p.nq p.nq (fun j => if j < i then owF p wk 2 j else 0) ∧ Below wb.heap.size wb wr) (fun y _ => p.nq - (intOf y).toNat)
  case atStart => exact ⟨0, rfl, Nat.zero_le _, H1.out.1.congr fun j hj => by rw [if_neg (by omega)], H1.out.2⟩
  case round =>
    obtain ⟨i, rfl, hi, hr, hbr⟩ := hrel
    clear H1
    by_cases hlt : i < p.nq
    · have dlt : decide ((i : Int) < (p.nq : Int)) = true := by simp; omega
      have hm := gmeas hlt
      have ei : IntKind.i64.wrap ((i : Int) + 1) = (i : Int) + 1 := by rw [IntKind.wrap_i64]; omega
      have i0 : (0 : Int) ≤ (i : Int) := by omega
      have i1 : (i : Int) < (p.nq : Int) := by omega
      obtain hz | ⟨gt, ot, hp, hl, hc, -⟩ := HB.out.2.2.2.1.below hbr
      · omega
      obtain ⟨x0, x1⟩ := hc i hlt
      have hgt1 := HGT.out i hlt
      have hnz : ((p.nq : Int) == 0) = false := by simp; omega
      have hmul : i * wk ≤ 64 * 64 := Nat.mul_le_mul (by omega) hw2
      have hmul2 : (i : Int) * (wk : Int) = ((i * wk : Nat) : Int) := by rw [Int.natCast_mul]
      have em : IntKind.i64.wrap ((i : Int) * (wk : Int)) = (i : Int) * (wk : Int) := by rw [hmul2, IntKind.wrap_i64]; omega
      have hm0 : (0 : Int) ≤ (i : Int) * (wk : Int) := by rw [hmul2]; omega
      have hm4 : (i : Int) * (wk : Int) ≤ 4096 := by rw [hmul2]; omega
      clear hmul hmul2
      have hbe := (Below.refl _ wr).alloc (Nat.le_refl _) (.cells #[.int .i64 (p.pr i), .slice (v.wp i) (p.nw i) (v.wc i)] 54)
      have y0 := (hr.later hbe).cell hlt
      have fz := (hr.later hbe).fz
      have hgl := hr.lt.2
      have hgne : wr.heap.size ≠ g := by omega
      have hbx := (hbr.block _ (by have := HB.out.2.2.1; omega)).trans HB.out.2.1
      obtain ⟨⟨-, -, k2, -⟩, -⟩ := cells9 hbx
      rw [hp] at k2
      have k2a := (cell_below (a := ⟨w.heap.size, 2, none⟩) hbe (by have h1 := HB.out.2.2.2.2.1; show w.heap.size < wr.heap.size; omega)).trans k2
      have hwne : w.heap.size ≠ wr.heap.size := by have h1 := HB.out.2.2.2.2.1; omega
      rw [hp]
      have HR : Hid (IRow wr g g p.nq p.nq (fun j => if j < i then owF p wk 2 j else 0) ∧ Below wb.heap.size wb wr) := ⟨hr, hbr⟩
      clear hr hbr hc hl hp hbe hbx hgt1
      go_wp2_with fail
      refine ⟨⟨i + 1, rfl, hlt, ((HR.out.1.put i _).congr (ow_next ?_)).later ((Below.refl _ _).alloc (Nat.le_refl _) _), (HR.out.2.setCell (by have h1 := HB.out.2.2.1; have h2 := HB.out.2.2.2.2.1; show wb.heap.size ≤ g; omega) _).alloc (HR.out.2.setCell (by have h1 := HB.out.2.2.1; have h2 := HB.out.2.2.2.2.1; show wb.heap.size ≤ g; omega) _).size _⟩, hm⟩
      unfold owF; rw [if_neg (by decide), if_pos rfl]
    · have dlt : decide ((i : Int) < (p.nq : Int)) = false := by simp; omega
      obtain rfl : i = p.nq := by omega
      have H2 : Hid (IRow wr g g p.nq p.nq (owF p wk 2) ∧ Below wb.heap.size wb wr) := ⟨hr.congr fun j hj => if_pos hj, hbr⟩
      clear hr hbr
      go_wp2_with fail
      go_ret
      exact ⟨g, _, rfl, H2.out.1.lower (by have := HB.out.2.2.2.2.1; omega), rfl, HB.out.1.trans (H2.out.2.mono HB.out.1.size)⟩
set_option maxRecDepth 100000 in
set_option maxHeartbeats 4000000 in
theorem owners4_any (p : Pl) (v : PlV) (wk : Nat) (hV : VC p 0) (hw1 : 1 ≤ wk) (hw2 : wk ≤ 64) (w : World) (h : PlAt w p v) : Calls Try.prog 14 #[.agg #[.int .i64 p.ki, .slice v.pp p.np v.pc, .slice v.tp p.nq v.tc, .slice v.sp p.ns v.sc, .int .u64 p.sd, .int .u64 p.lk, .int .u64 p.en, .int .i64 p.bu, .int .i64 p.fu], .int .i64 (wk : Int), .int .i64 4] w fun e w' => ∃ (g : Nat) (f : Nat → Int), e = .returned (.slice (some ⟨g, 0, none⟩) p.nq p.nq) ∧ IRow w' w.heap.size g p.nq p.nq f ∧ f = owF p wk 4 ∧ Below w.heap.size w w' := by
  obtain ⟨wb, hwb⟩ : ∃ wb, w.alloc (.cells #[.int .i64 p.ki, .slice v.pp p.np v.pc, .slice v.tp p.nq v.tc, .slice v.sp p.ns v.sc, .int .u64 p.sd, .int .u64 p.lk, .int .u64 p.en, .int .i64 p.bu, .int .i64 p.fu] 27) = wb := ⟨_, rfl⟩
  obtain ⟨hb0, hbox, hsz⟩ := boxed _ _ _ hwb
  have HW : Hid (w.alloc (.cells #[.int .i64 p.ki, .slice v.pp p.np v.pc, .slice v.tp p.nq v.tc, .slice v.sp p.ns v.sc, .int .u64 p.sd, .int .u64 p.lk, .int .u64 p.en, .int .i64 p.bu, .int .i64 p.fu] 27) = wb) := hwb
  obtain ⟨⟨⟨hns, hgs⟩, hq, hgt⟩, -⟩ := hV.fit6
  obtain ⟨⟨c0, c1, c2, c3⟩, c4, c5, c6, c7, c8⟩ := cells9 hbox
  rw [← hwb] at c0 c1 c2 c3 c4 c5 c6 c7 c8
  obtain ⟨i5, hi5, hz0, hz1, hz2⟩ := info_parts infoInt1
  have hrun := fun W => run_make_row (P := Try.prog) 28 3 i5 (.int .i64 0) Try.underlying28 hi5 hz0 hz1 rfl .i64 .i64 p.nq (by rw [hz2]; omega) (by omega) W
  obtain ⟨g, hg⟩ : ∃ g, w.heap.size + 1 = g := ⟨_, rfl⟩
  obtain ⟨w1, hw1e⟩ : ∃ w1, wb.alloc (.cells (madeCells #[Value.int .i64 0] p.nq) 3) = w1 := ⟨_, rfl⟩
  have r1 := zero_row (W := wb) hq
  rw [hw1e, show wb.heap.size = w.heap.size + 1 from hsz, hg] at r1
  have b1 : Below wb.heap.size wb w1 := by rw [← hw1e]; exact (Below.refl _ wb).alloc (Nat.le_refl _) _
  have HB : Hid (Below w.heap.size w wb ∧ wb.heap[w.heap.size]? = some (.cells #[.int .i64 p.ki, .slice v.pp p.np v.pc, .slice v.tp p.nq v.tc, .slice v.sp p.ns v.sc, .int .u64 p.sd, .int .u64 p.lk, .int .u64 p.en, .int .i64 p.bu, .int .i64 p.fu] 27 (0, 0)) ∧ wb.heap.size = w.heap.size + 1 ∧ TsAt wb v.tp p.nq p.pr p.nw p.K v.wp v.wc ∧ w.heap.size + 1 = g ∧ wb.alloc (.cells (madeCells #[Value.int .i64 0] p.nq) 3) = w1) := ⟨hb0, hbox, hsz, (h.below hb0).ts, hg, hw1e⟩
  have H1 : Hid (IRow w1 g g p.nq p.nq (fun _ => 0) ∧ Below wb.heap.size wb w1) := ⟨r1, b1⟩
  have HGT : Hid (∀ j, j < p.nq → gt1 p j) := hgt
  have hwz : ((wk : Int) == 0) = false := by simp; omega
  clear h hwb hb0 hbox hsz hV hgs hgt hi5 hz0 hz1 hz2 hw1e r1 b1 hg
  go_enter Try.func14, Try.ntmps14
  go_wp2_with fail
  rw [HW.out, HB.out.2.2.2.2.2, HB.out.2.2.2.2.1]
  clear c0 c1 c2 c3 c4 c5 c6 c7 c8 hrun
  go_loopw [23] (fun y wr => ∃ (i : Nat), y = .int .i64 (i : Int) ∧ i ≤ p.nq ∧ IRow wr g g p.nq p.nq (fun j => if j < i then owF p wk 4 j else 0) ∧ Below wb.heap.size wb wr) (fun y _ => p.nq - (intOf y).toNat)
  case atStart => exact ⟨0, rfl, Nat.zero_le _, H1.out.1.congr fun j hj => by rw [if_neg (by omega)], H1.out.2⟩
  case round =>
    obtain ⟨i, rfl, hi, hr, hbr⟩ := hrel
    clear H1
    by_cases hlt : i < p.nq
    · have dlt : decide ((i : Int) < (p.nq : Int)) = true := by simp; omega
      have hm := gmeas hlt
      have ei : IntKind.i64.wrap ((i : Int) + 1) = (i : Int) + 1 := by rw [IntKind.wrap_i64]; omega
      have i0 : (0 : Int) ≤ (i : Int) := by omega
      have i1 : (i : Int) < (p.nq : Int) := by omega
      obtain hz | ⟨gt, ot, hp, hl, hc, -⟩ := HB.out.2.2.2.1.below hbr
      · omega
      obtain ⟨x0, x1⟩ := hc i hlt
      have hgt1 := HGT.out i hlt
      have hp0 : 0 ≤ p.pr i := hgt1.1
      have hbe := (Below.refl _ wr).alloc (Nat.le_refl _) (.cells #[.int .i64 (p.pr i), .slice (v.wp i) (p.nw i) (v.wc i)] 54)
      have y0 := (hr.later hbe).cell hlt
      have fz := (hr.later hbe).fz
      have hgl := hr.lt.2
      have hgne : wr.heap.size ≠ g := by omega
      have hbx := (hbr.block _ (by have := HB.out.2.2.1; omega)).trans HB.out.2.1
      obtain ⟨⟨-, -, k2, -⟩, -⟩ := cells9 hbx
      rw [hp] at k2
      have k2a := (cell_below (a := ⟨w.heap.size, 2, none⟩) hbe (by have h1 := HB.out.2.2.2.2.1; show w.heap.size < wr.heap.size; omega)).trans k2
      have hwne : w.heap.size ≠ wr.heap.size := by have h1 := HB.out.2.2.2.2.1; omega
      rw [hp]
      have HR : Hid (IRow wr g g p.nq p.nq (fun j => if j < i then owF p wk 4 j else 0) ∧ Below wb.heap.size wb wr) := ⟨hr, hbr⟩
      clear hr hbr hc hl hp hbe hbx hgt1
      go_wp2_with fail
      refine ⟨⟨i + 1, rfl, hlt, ((HR.out.1.put i _).congr (ow_next ?_)).later ((Below.refl _ _).alloc (Nat.le_refl _) _), (HR.out.2.setCell (by have h1 := HB.out.2.2.1; have h2 := HB.out.2.2.2.2.1; show wb.heap.size ≤ g; omega) _).alloc (HR.out.2.setCell (by have h1 := HB.out.2.2.1; have h2 := HB.out.2.2.2.2.1; show wb.heap.size ≤ g; omega) _).size _⟩, hm⟩
      unfold owF; rw [if_neg (by decide), if_neg (by decide)]
    · have dlt : decide ((i : Int) < (p.nq : Int)) = false := by simp; omega
      obtain rfl : i = p.nq := by omega
      have H2 : Hid (IRow wr g g p.nq p.nq (owF p wk 4) ∧ Below wb.heap.size wb wr) := ⟨hr.congr fun j hj => if_pos hj, hbr⟩
      clear hr hbr
      go_wp2_with fail
      go_ret
      exact ⟨g, _, rfl, H2.out.1.lower (by have := HB.out.2.2.2.2.1; omega), rfl, HB.out.1.trans (H2.out.2.mono HB.out.1.size)⟩
end Go.Proofs.Ytkgifanlodlilaa
