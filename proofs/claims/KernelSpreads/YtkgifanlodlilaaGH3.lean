import Derived.Test.YtkgifanlodlilaaGH2
import Derived.Test.YtkgifanlodlilaaSV2
import Derived.Deep.RegionLaw
import Derived.Deep.RegionHeld3
import Derived.Deep.Cut
import Derived.Deep.DeepCutAuto
import Derived.Deep.CutBlock
import Derived.Deep.CutRange
import Derived.BigQuiet
import Derived.Handy
namespace Go.Proofs.Ytkgifanlodlilaa
open Go.ChangeShapes Go.WideShapes Go.ChangeAt Go.RowKit
set_option linter.unusedVariables false
set_option linter.unusedSimpArgs false


/-- a part's weight: one and the first starts to it -/
def wtF (S : Nat → St) : Nat → Nat → Int
  | 0, _ => 1
  | k + 1, i => wtF S k i + (if (S k).d = (i : Int) then 1 else 0)
theorem wtF_pos (S : Nat → St) (k i : Nat) : 1 ≤ wtF S k i ∧ wtF S k i ≤ (k : Int) + 1 := by
  induction k with
  | zero => exact ⟨Int.le_refl _, Int.le_refl _⟩
  | succ k ih =>
    unfold wtF
    split <;> omega
theorem wtF_next {S : Nat → St} {k d : Nat} (h : (S k).d = (d : Int)) : setF (wtF S k) d (wtF S k d + 1) = wtF S (k + 1) := by
  funext i
  unfold setF
  show _ = wtF S k i + (if (S k).d = (i : Int) then 1 else 0)
  by_cases e : i = d
  · subst e
    rw [if_pos rfl, if_pos h]
  · rw [if_neg e, if_neg (by omega)]
    omega
theorem cells4s {W : World} {b : Nat} {c0 c1 c2 c3 : Value} {t : TypeId} (h : W.heap[b]? = some (.cells #[c0, c1, c2, c3] t (0, 0))) : W.cell? ⟨b, 1, none⟩ = some c1 := by
  unfold World.cell?; rw [h]; rfl
set_option maxRecDepth 100000 in
set_option maxHeartbeats 2000000 in
theorem weights_any (p : Pl) (v : PlV) (hS : GS p) (hq : p.nq ≤ 64) (w : World) (h : PlAt w p v) : Calls Try.prog 26 #[.agg #[.int .i64 p.ki, .slice v.pp p.np v.pc, .slice v.tp p.nq v.tc, .slice v.sp p.ns v.sc, .int .u64 p.sd, .int .u64 p.lk, .int .u64 p.en, .int .i64 p.bu, .int .i64 p.fu]] w fun e w' => ∃ g, e = .returned (.slice (some ⟨g, 0, none⟩) p.nq p.nq) ∧ IRow w' w.heap.size g p.nq p.nq (wtF p.S p.ns) ∧ Below w.heap.size w w' := by
  obtain ⟨wb, hwb⟩ : ∃ wb, w.alloc (.cells #[.int .i64 p.ki, .slice v.pp p.np v.pc, .slice v.tp p.nq v.tc, .slice v.sp p.ns v.sc, .int .u64 p.sd, .int .u64 p.lk, .int .u64 p.en, .int .i64 p.bu, .int .i64 p.fu] 27) = wb := ⟨_, rfl⟩
  obtain ⟨hb0, hbox, hsz⟩ := boxed _ _ _ hwb
  have HW : Hid (w.alloc (.cells #[.int .i64 p.ki, .slice v.pp p.np v.pc, .slice v.tp p.nq v.tc, .slice v.sp p.ns v.sc, .int .u64 p.sd, .int .u64 p.lk, .int .u64 p.en, .int .i64 p.bu, .int .i64 p.fu] 27) = wb) := hwb
  obtain ⟨wo, hwo⟩ : ∃ wo, wb.alloc (.cells #[.int .i64 1] 3) = wo := ⟨_, rfl⟩
  have HO : Hid (wb.alloc (.cells #[.int .i64 1] 3) = wo) := hwo
  have hb1 : Below w.heap.size w wo := by rw [← hwo]; exact hb0.trans (((Below.refl _ wb).alloc (Nat.le_refl _) _).mono hb0.size)
  have hone : wo.cell? ⟨wb.heap.size, 0, none⟩ = some (.int .i64 1) := by rw [← hwo]; exact cell_row (cur := [.int .i64 1]) (World.alloc_heap_new wb _) rfl
  have hosz : wb.heap.size < wo.heap.size := by rw [← hwo, World.size_alloc]; omega
  have HR := repeat1_any p.nq wb.heap.size 1 hq wo hone hosz
  rw [show wb.heap.size = w.heap.size + 1 from hsz] at HR
  obtain ⟨⟨c0, c1, c2, c3⟩, c4, c5, c6, c7, c8⟩ := cells9 hbox
  have HB : Hid (wb.heap[w.heap.size]? = some (.cells #[.int .i64 p.ki, .slice v.pp p.np v.pc, .slice v.tp p.nq v.tc, .slice v.sp p.ns v.sc, .int .u64 p.sd, .int .u64 p.lk, .int .u64 p.en, .int .i64 p.bu, .int .i64 p.fu] 27 (0, 0)) ∧ Below w.heap.size w wb ∧ wb.heap.size = w.heap.size + 1 ∧ Below w.heap.size w wo) := ⟨hbox, hb0, hsz, hb1⟩
  have HS : Hid (StAt w v.sp p.ns p.S) := h.st
  have HG : Hid (GS p) := hS
  have hns : p.ns ≤ 256 := hS.1
  rw [← hwb] at c0 c1 c2 c3 c4 c5 c6 c7 c8
  clear h hwb hwo hb0 hbox hsz hb1 hone hosz hS
  go_enter Try.func26, Try.ntmps26
  go_wp2_with (go_at_call 37; rw [HW.out, HO.out]; (with_reducible refine HR.mono ?_); rintro e w1 ⟨g, rfl, hr1, hbl1⟩; have hbw : Below w.heap.size w w1 := HB.out.2.2.2.trans (hbl1.mono HB.out.2.2.2.size); have hblk : w1.heap[w.heap.size]? = some (.cells #[.int .i64 p.ki, .slice v.pp p.np v.pc, .slice v.tp p.nq v.tc, .slice v.sp p.ns v.sc, .int .u64 p.sd, .int .u64 p.lk, .int .u64 p.en, .int .i64 p.bu, .int .i64 p.fu] 27 (0, 0)) := (by rw [hbl1.block _ (by have h9 := HO.out; rw [← h9, World.size_alloc]; have := HB.out.2.2.1; omega), ← HO.out, Below.heap_alloc _ _ _ (by have := HB.out.2.2.1; omega)]; exact HB.out.1); obtain ⟨⟨-, -, -, d3⟩, -, -, -, -, -⟩ := cells9 hblk; have H1 : Hid (IRow w1 w.heap.size g p.nq p.nq (wtF p.S 0) ∧ Below w.heap.size w w1) := ⟨hr1.lower HB.out.2.2.2.size, hbw⟩; clear hr1 hbl1 hbw hblk c0 c1 c2 c3 c4 c5 c6 c7 c8)
  clear d3 HR
  go_loopw [14] (fun y wr => ∃ (k : Nat), y = .int .i64 (k : Int) ∧ k ≤ p.ns ∧ IRow wr w.heap.size g p.nq p.nq (wtF p.S k) ∧ Below w.heap.size w wr) (fun y _ => p.ns - (intOf y).toNat)
  case atStart => exact ⟨0, rfl, Nat.zero_le _, H1.out.1, H1.out.2⟩
  case round =>
    obtain ⟨k, rfl, hk, hr, hbr⟩ := hrel
    by_cases hlt : k < p.ns
    · have dlt : decide ((k : Int) < (p.ns : Int)) = true := by simp; omega
      have hm := gmeas hlt
      have ei : IntKind.i64.wrap ((k : Int) + 1) = (k : Int) + 1 := by rw [IntKind.wrap_i64]; omega
      have i0 : (0 : Int) ≤ (k : Int) := by omega
      have i1 : (k : Int) < (p.ns : Int) := by omega
      obtain ⟨⟨q1, q2⟩, -⟩ := HG.out.2 k hlt
      obtain ⟨dn, hdn⟩ := Int.eq_ofNat_of_zero_le q1
      have hdq : dn < p.nq := by omega
      obtain hz | ⟨gs, os, hp, hl, hc⟩ := HS.out.below hbr
      · omega
      obtain ⟨x0, x1, x2, x3⟩ := hc k hlt
      rw [hdn] at x1
      have j0 : (0 : Int) ≤ (dn : Int) := by omega
      have j1 : (dn : Int) < (p.nq : Int) := by omega
      have hbel := (Below.refl _ wr).alloc (Nat.le_refl _) (.cells #[.int .u64 (p.S k).t, .int .i64 (dn : Int), .int .i64 (p.S k).k, .int .i64 (p.S k).v] 36)
      obtain ⟨wa, hwa⟩ : ∃ wa, wr.alloc (.cells #[.int .u64 (p.S k).t, .int .i64 (dn : Int), .int .i64 (p.S k).k, .int .i64 (p.S k).v] 36) = wa := ⟨_, rfl⟩
      rw [hwa] at hbel
      have hra := hr.later hbel
      have y0 := hra.cell hdq
      have fz := hra.fz
      have hw9 := wtF_pos p.S k dn
      obtain ⟨wt, hwt⟩ : ∃ wt, wtF p.S k dn = wt := ⟨_, rfl⟩
      rw [hwt] at y0 hw9
      have e9 : IntKind.i64.wrap (wt + 1) = wt + 1 := by rw [IntKind.wrap_i64]; omega
      have hput := hr.put dn (wt + 1)
      rw [← hwt, wtF_next hdn] at hput
      rw [hwt] at hput
      have HP : Hid (IRow (wr.setCell ⟨g, dn, none⟩ (.int .i64 (wt + 1))) w.heap.size g p.nq p.nq (wtF p.S (k + 1)) ∧ Below w.heap.size w (wr.setCell ⟨g, dn, none⟩ (.int .i64 (wt + 1)))) := ⟨hput, hbr.setCell hr.lt.1 _⟩
      rw [← hwa] at y0 fz
      have hgl := hr.lt.2
      have hgne : wr.heap.size ≠ g := by omega
      rw [hp]
      clear hr hbr hc hl hp hwa hbel hra hput hwt hdn hw9 HS q1 q2
      go_wp2_with fail
      exact ⟨⟨k + 1, rfl, hlt, HP.out.1.later ((Below.refl _ _).alloc (Nat.le_refl _) _), HP.out.2.alloc HP.out.2.size _⟩, hm⟩
    · have dlt : decide ((k : Int) < (p.ns : Int)) = false := by simp; omega
      obtain rfl : k = p.ns := by omega
      have H2 : Hid (IRow wr w.heap.size g p.nq p.nq (wtF p.S p.ns) ∧ Below w.heap.size w wr) := ⟨hr, hbr⟩
      clear hr hbr
      go_wp2_with fail
      go_ret
      exact ⟨_, rfl, H2.out.1, H2.out.2⟩
end Go.Proofs.Ytkgifanlodlilaa
