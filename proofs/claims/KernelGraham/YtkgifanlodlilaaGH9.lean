import Derived.Test.YtkgifanlodlilaaGH8
import Derived.Test.YtkgifanlodlilaaSV6
import Derived.Deep.RegionLaw
import Derived.Deep.RegionHeld3
import Derived.Deep.Cut
import Derived.Deep.DeepCutAuto
import Derived.Deep.CutBlock
import Derived.Deep.CutRange
import Derived.BigQuiet
import Derived.BigRegion
import Derived.Handy
namespace Go.Proofs.Ytkgifanlodlilaa
open Go.ChangeShapes Go.WideShapes Go.ChangeAt Go.RowKit
set_option linter.unusedVariables false
set_option linter.unusedSimpArgs false


theorem one_next (i : Nat) {n : Nat} : ∀ j, j < n → setF (fun j => if j < i then 1 else 0) i 1 j = (fun j => if j < i + 1 then (1 : Int) else 0) j := fun j _ => by
  unfold setF
  show (if j = i then (1 : Int) else if j < i then 1 else 0) = if j < i + 1 then 1 else 0
  by_cases e : j = i
  · subst e; rw [if_pos rfl, if_pos (by omega)]
  · rw [if_neg e]
    by_cases e2 : j < i
    · rw [if_pos e2, if_pos (by omega)]
    · rw [if_neg e2, if_neg (by omega)]
def ldF (f K : Nat → Int) (n : Nat) : Nat → Int := fun l => sm (fun i => if f i = (l : Int) then K i else 0) n
theorem ldF_next {f K : Nat → Int} {n q : Nat} (h : f n = (q : Int)) : setF (ldF f K n) q (ldF f K n q + K n) = ldF f K (n + 1) := by
  funext l
  unfold setF ldF
  show _ = sm (fun i => if f i = (l : Int) then K i else 0) n + (if f n = (l : Int) then K n else 0)
  by_cases e : l = q
  · subst e
    rw [if_pos rfl, if_pos h]
  · rw [if_neg e, if_neg (by omega)]
    omega
theorem sm_le {F : Nat → Int} (a : Int) : ∀ (n : Nat), (∀ i, i < n → F i ≤ a) → sm F n ≤ (n : Int) * a
  | 0, _ => by simp [sm]
  | n + 1, h => by
    have h1 := sm_le a n fun i hi => h i (by omega)
    have h2 := h n (by omega)
    show sm F n + F n ≤ ((n + 1 : Nat) : Int) * a
    rw [Int.natCast_add, Int.add_mul]
    omega
theorem ldF_bound {f K : Nat → Int} (hK : ∀ i, 0 ≤ K i ∧ K i ≤ 1000) {n : Nat} (hn : n ≤ 64) (l : Nat) : 0 ≤ ldF f K n l ∧ ldF f K n l ≤ 64000 := by
  have h1 : 0 ≤ ldF f K n l := sm_nonneg fun i _ => by
    show 0 ≤ if f i = (l : Int) then K i else 0
    have := hK i
    split <;> omega
  have h2 : ldF f K n l ≤ (n : Int) * 1000 := sm_le 1000 n fun i _ => by
    show (if f i = (l : Int) then K i else 0) ≤ 1000
    have := hK i
    split <;> omega
  omega
theorem smK_bound {K : Nat → Int} (hK : ∀ i, 0 ≤ K i ∧ K i ≤ 1000) {n : Nat} (hn : n ≤ 64) : 0 ≤ sm K n ∧ sm K n ≤ 64000 := by
  have h1 : 0 ≤ sm K n := sm_nonneg fun i _ => (hK i).1
  have h2 := sm_le 1000 n fun i _ => (hK i).2
  omega
theorem VC.tot (p : Pl) : ∃ c, VC p c := by
  unfold VC
  by_cases a1 : p.ki < 0 ∨ 32 < p.ki
  · exact ⟨126, .inl ⟨a1, rfl⟩⟩
  by_cases a2 : GP p
  case neg => exact ⟨120, .inr ⟨a1, .inl ⟨a2, rfl⟩⟩⟩
  by_cases a3 : GT p
  case neg => exact ⟨121, .inr ⟨a1, .inr ⟨a2, .inl ⟨a3, rfl⟩⟩⟩⟩
  by_cases a4 : GS p
  case neg => exact ⟨122, .inr ⟨a1, .inr ⟨a2, .inr ⟨a3, .inl ⟨a4, rfl⟩⟩⟩⟩⟩
  by_cases a5 : p.lk = 0
  · exact ⟨123, .inr ⟨a1, .inr ⟨a2, .inr ⟨a3, .inr ⟨a4, .inl ⟨a5, rfl⟩⟩⟩⟩⟩⟩
  by_cases a6 : p.bu < 0 ∨ 4096 < p.bu
  · exact ⟨124, .inr ⟨a1, .inr ⟨a2, .inr ⟨a3, .inr ⟨a4, .inr ⟨a5, .inl ⟨a6, rfl⟩⟩⟩⟩⟩⟩⟩
  by_cases a7 : p.fu < 1 ∨ 4096 < p.fu
  · exact ⟨125, .inr ⟨a1, .inr ⟨a2, .inr ⟨a3, .inr ⟨a4, .inr ⟨a5, .inr ⟨a6, .inl ⟨a7, rfl⟩⟩⟩⟩⟩⟩⟩⟩
  · exact ⟨0, .inr ⟨a1, .inr ⟨a2, .inr ⟨a3, .inr ⟨a4, .inr ⟨a5, .inr ⟨a6, .inr ⟨a7, rfl⟩⟩⟩⟩⟩⟩⟩⟩
/-- the last row of the law -/
theorem graham_end {wk : Nat} {M A H : Int} (hw1 : 1 ≤ wk) (hw2 : wk ≤ 64) (hM : 0 ≤ M ∧ M ≤ 64000) (hA : 0 ≤ A ∧ A ≤ 64000) (hH : 0 ≤ H ∧ H ≤ 1000) (hg : (wk : Int) * M ≤ A + ((wk : Int) - 1) * H) :
    IntKind.i64.wrap ((wk : Int) * M) = (wk : Int) * M ∧ IntKind.i64.wrap ((wk : Int) - 1) = (wk : Int) - 1 ∧ IntKind.i64.wrap (((wk : Int) - 1) * H) = ((wk : Int) - 1) * H ∧ IntKind.i64.wrap (A + ((wk : Int) - 1) * H) = A + ((wk : Int) - 1) * H := by
  have h1 : 0 ≤ (wk : Int) * M := Int.mul_nonneg (by omega) hM.1
  have h2 : (wk : Int) * M ≤ 64 * M := Int.mul_le_mul_of_nonneg_right (by omega) hM.1
  have h3 : 0 ≤ ((wk : Int) - 1) * H := Int.mul_nonneg (by omega) hH.1
  have h4 : ((wk : Int) - 1) * H ≤ 63 * H := Int.mul_le_mul_of_nonneg_right (by omega) hH.1
  refine ⟨?_, ?_, ?_, ?_⟩ <;> rw [IntKind.wrap_i64] <;> omega
set_option maxRecDepth 100000 in
set_option maxHeartbeats 8000000 in
theorem graham_good (p : Pl) (v : PlV) (wk : Nat) (hV : VC p 0) (hw1 : 1 ≤ wk) (hw2 : wk ≤ 64) (w : World) (h : PlAt w p v) : Calls Try.prog 3 #[.agg #[.int .i64 p.ki, .slice v.pp p.np v.pc, .slice v.tp p.nq v.tc, .slice v.sp p.ns v.sc, .int .u64 p.sd, .int .u64 p.lk, .int .u64 p.en, .int .i64 p.bu, .int .i64 p.fu], .int .i64 (wk : Int)] w fun e w' => e = .returned (.bool true) ∧ Below w.heap.size w w' := by
  obtain ⟨wb, hwb⟩ : ∃ wb, w.alloc (.cells #[.int .i64 p.ki, .slice v.pp p.np v.pc, .slice v.tp p.nq v.tc, .slice v.sp p.ns v.sc, .int .u64 p.sd, .int .u64 p.lk, .int .u64 p.en, .int .i64 p.bu, .int .i64 p.fu] 27) = wb := ⟨_, rfl⟩
  obtain ⟨hb0, hbox, hsz⟩ := boxed _ _ _ hwb
  have HW : Hid (w.alloc (.cells #[.int .i64 p.ki, .slice v.pp p.np v.pc, .slice v.tp p.nq v.tc, .slice v.sp p.ns v.sc, .int .u64 p.sd, .int .u64 p.lk, .int .u64 p.en, .int .i64 p.bu, .int .i64 p.fu] 27) = wb) := hwb
  have HS := spread_good p v wk 3 hV hw1 hw2 (by omega) (Dealt p wk) (fun w h => owners3_any p v wk hV hw1 hw2 w h) wb (h.below hb0)
  obtain ⟨⟨⟨hns, hgs⟩, hq, hgt⟩, -⟩ := hV.fit6
  obtain ⟨⟨c0, c1, c2, c3⟩, c4, c5, c6, c7, c8⟩ := cells9 hbox
  rw [← hwb] at c0 c1 c2 c3 c4 c5 c6 c7 c8
  have HB : Hid (Below w.heap.size w wb ∧ wb.heap[w.heap.size]? = some (.cells #[.int .i64 p.ki, .slice v.pp p.np v.pc, .slice v.tp p.nq v.tc, .slice v.sp p.ns v.sc, .int .u64 p.sd, .int .u64 p.lk, .int .u64 p.en, .int .i64 p.bu, .int .i64 p.fu] 27 (0, 0)) ∧ wb.heap.size = w.heap.size + 1 ∧ StAt wb v.sp p.ns p.S) := ⟨hb0, hbox, hsz, (h.below hb0).st⟩
  have HG : Hid (∀ j, j < p.ns → gs1 p j) := hgs
  obtain ⟨i5, hi5, hz0, hz1, hz2⟩ := info_parts infoInt1
  have hrun := fun W => run_make_row (P := Try.prog) 28 3 i5 (.int .i64 0) Try.underlying28 hi5 hz0 hz1 rfl .i64 .i64 p.nq (by rw [hz2]; omega) (by omega) W
  have hrun2 := fun W => run_make_row (P := Try.prog) 28 3 i5 (.int .i64 0) Try.underlying28 hi5 hz0 hz1 rfl .i64 .i64 wk (by rw [hz2]; omega) (by omega) W
  clear h hwb hb0 hbox hsz hV hgs hgt hi5 hz0 hz1 hz2
  go_enter Try.func3, Try.ntmps3
  go_upto_region 2 with (go_at_call 5; rw [HW.out]; (with_reducible refine HS.mono ?_); rintro e w1 ⟨g, f, rfl, h5, h6, h7⟩; have H1 : Hid (IRow w1 wb.heap.size g p.nq p.nq f ∧ Dealt p wk f ∧ Below wb.heap.size wb w1) := ⟨h5, h6, h7⟩; clear h5 h6 h7)
  clear c0 c1 c2 c3 c4 c5 c6 c7 c8 HS
  obtain ⟨w2, hw2e⟩ : ∃ w2, w1.alloc (.cells #[.int .i64 (wk : Int), .slice (some ⟨g, 0, none⟩) p.nq p.nq, .int .i64 8192, .int .i64 1024, .int .i64 4096] 30) = w2 := ⟨_, rfl⟩
  have hb12 : Below w1.heap.size w1 w2 := by rw [← hw2e]; exact (Below.refl _ w1).alloc (Nat.le_refl _) _
  have hb2 : Below wb.heap.size wb w2 := H1.out.2.2.trans (hb12.mono H1.out.2.2.size)
  have hbx : w2.heap[w.heap.size]? = some (.cells #[.int .i64 p.ki, .slice v.pp p.np v.pc, .slice v.tp p.nq v.tc, .slice v.sp p.ns v.sc, .int .u64 p.sd, .int .u64 p.lk, .int .u64 p.en, .int .i64 p.bu, .int .i64 p.fu] 27 (0, 0)) := (hb2.block _ (by have := HB.out.2.2.1; omega)).trans HB.out.2.1
  obtain ⟨lb, hlb⟩ : ∃ lb, w1.heap.size = lb := ⟨_, rfl⟩
  have hly : w2.heap[lb]? = some (.cells #[.int .i64 (wk : Int), .slice (some ⟨g, 0, none⟩) p.nq p.nq, .int .i64 8192, .int .i64 1024, .int .i64 4096] 30 (0, 0)) := by rw [← hw2e, ← hlb]; exact World.alloc_heap_new w1 _
  have hs2 : w2.heap.size = lb + 1 := by rw [← hw2e, World.size_alloc, hlb]
  rw [hw2e, hlb]
  have H2 : Hid (Below w.heap.size w w2 ∧ w2.heap[w.heap.size]? = some (.cells #[.int .i64 p.ki, .slice v.pp p.np v.pc, .slice v.tp p.nq v.tc, .slice v.sp p.ns v.sc, .int .u64 p.sd, .int .u64 p.lk, .int .u64 p.en, .int .i64 p.bu, .int .i64 p.fu] 27 (0, 0)) ∧ w2.heap[lb]? = some (.cells #[.int .i64 (wk : Int), .slice (some ⟨g, 0, none⟩) p.nq p.nq, .int .i64 8192, .int .i64 1024, .int .i64 4096] 30 (0, 0)) ∧ IRow w2 w.heap.size g p.nq p.nq f ∧ StAt w2 v.sp p.ns p.S ∧ w.heap.size < w2.heap.size ∧ w2.heap.size = lb + 1) :=
    ⟨HB.out.1.trans (hb2.mono HB.out.1.size), hbx, hly, (H1.out.1.later hb12).lower HB.out.1.size, HB.out.2.2.2.below hb2, by have := hb2.size; have := HB.out.2.2.1; omega, hs2⟩
  obtain ⟨d, hvy, hf⟩ := H1.out.2.1
  have hKb : ∀ i, 0 ≤ wtF p.S p.ns i ∧ wtF p.S p.ns i ≤ 1000 := fun i => by have := wtF_pos p.S p.ns i; omega
  have HD : Hid (∀ H : Int, 0 ≤ H → (∀ i, i < p.nq → wtF p.S p.ns i ≤ H) → (∀ i, i < p.nq → ∃ q : Nat, q < wk ∧ f i = (q : Int)) ∧ ∀ l : Nat, l < wk → (wk : Int) * ldF f (wtF p.S p.ns) p.nq l ≤ sm (wtF p.S p.ns) p.nq + ((wk : Int) - 1) * H) := fun H hH hKH => dealt_graham hvy hw1 H (fun i hi => ⟨(hKb i).1, hKH i hi⟩) hH hf
  have HKB : Hid (∀ i, 0 ≤ wtF p.S p.ns i ∧ wtF p.S p.ns i ≤ 1000) := hKb
  have HO : Hid (∀ i, i < p.nq → ∃ q : Nat, q < wk ∧ f i = (q : Int)) := (HD.out 1000 (by omega) (fun i _ => (hKb i).2)).1
  clear hw2e hb12 hb2 hbx hly hlb hs2 hvy hf hKb HB H1
  -- what lies in the plan's box and in the layout's, at any later world
  have KB : ∀ W, Below w2.heap.size w2 W → (W.cell? ⟨w.heap.size, 2, none⟩ = some (.slice v.tp p.nq v.tc) ∧ W.cell? ⟨w.heap.size, 3, none⟩ = some (.slice v.sp p.ns v.sc)) ∧ W.cell? ⟨lb, 0, none⟩ = some (.int .i64 (wk : Int)) ∧ W.cell? ⟨lb, 1, none⟩ = some (.slice (some ⟨g, 0, none⟩) p.nq p.nq) := fun W hW => by
    obtain ⟨⟨-, -, c2, c3⟩, -⟩ := cells9 ((hW.block _ H2.out.2.2.2.2.2.1).trans H2.out.2.1)
    obtain ⟨d0, d1, -⟩ := cells5q ((hW.block _ (by have := H2.out.2.2.2.2.2.2; omega)).trans H2.out.2.2.1)
    exact ⟨⟨c2, c3⟩, d0, d1⟩
  have HKK := hid6 KB
  obtain ⟨⟨c2, c3⟩, d0, d1⟩ := KB w2 (Below.refl _ _)
  have en : ((p.nq : Int) != (p.nq : Int)) = false := by simp
  have ew : ((wk : Int) != (wk : Int)) = false := by simp
  clear KB
  go_upto_region 7 with fail
  obtain ⟨gw, hgw⟩ : ∃ gw, w2.heap.size = gw := ⟨_, rfl⟩
  obtain ⟨w3, hw3⟩ : ∃ w3, w2.alloc (.cells (madeCells #[Value.int .i64 0] p.nq) 3) = w3 := ⟨_, rfl⟩
  have r3 := zero_row (W := w2) hq
  rw [hw3, hgw] at r3
  have b3 : Below w2.heap.size w2 w3 := by rw [← hw3]; exact (Below.refl _ w2).alloc (Nat.le_refl _) _
  have s3 : w3.heap.size = gw + 1 := by rw [← hw3, World.size_alloc, hgw]
  rw [hw3, hgw]
  have H3 : Hid (IRow w3 gw gw p.nq p.nq (fun _ => 0) ∧ Below w2.heap.size w2 w3 ∧ w2.heap.size = gw ∧ w3.heap.size = gw + 1) := ⟨r3, b3, hgw, s3⟩
  clear hw3 hgw r3 b3 s3 c2 c3 d0 d1 hrun
  go_wp2_with fail
  go_loopw [54] (fun y wr => ∃ (i : Nat), y = .int .i64 (i : Int) ∧ i ≤ p.nq ∧ IRow wr gw gw p.nq p.nq (fun j => if j < i then 1 else 0) ∧ Below w2.heap.size w2 wr) (fun y _ => p.nq - (intOf y).toNat)
  case atStart => exact ⟨0, rfl, Nat.zero_le _, H3.out.1.congr fun j hj => by rw [if_neg (by omega)], H3.out.2.1⟩
  case round =>
  obtain ⟨i, rfl, hi, hr, hbr⟩ := hrel
  by_cases hlt : i < p.nq
  case pos =>
    have dlt : decide ((i : Int) < (p.nq : Int)) = true := by simp; omega
    have hm := gmeas hlt
    have ei : IntKind.i64.wrap ((i : Int) + 1) = (i : Int) + 1 := by rw [IntKind.wrap_i64]; omega
    have i0 : (0 : Int) ≤ (i : Int) := by omega
    have i1 : (i : Int) < (p.nq : Int) := by omega
    have y0 := hr.cell hlt
    have fz := hr.fz
    have hput := (hr.put i 1).congr (one_next i)
    have HP : Hid (IRow (wr.setCell ⟨gw, i, none⟩ (.int .i64 1)) gw gw p.nq p.nq (fun j => if j < i + 1 then 1 else 0) ∧ Below w2.heap.size w2 (wr.setCell ⟨gw, i, none⟩ (.int .i64 1))) := ⟨hput, hbr.setCell (by have := H3.out.2.2.1; show w2.heap.size ≤ gw; omega) _⟩
    clear hr hbr hput
    go_wp2_with fail
    exact ⟨⟨i + 1, rfl, hlt, HP.out.1, HP.out.2⟩, hm⟩
  case neg =>
  have dlt : decide ((i : Int) < (p.nq : Int)) = false := by simp; omega
  obtain rfl : i = p.nq := by omega
  obtain ⟨⟨c2, c3⟩, d0, d1⟩ := HKK.out wr hbr
  have H4 : Hid (IRow wr gw gw p.nq p.nq (wtF p.S 0) ∧ Below w2.heap.size w2 wr) := ⟨hr.congr fun j hj => if_pos hj, hbr⟩
  clear hr hbr
  go_wp2_with fail
  clear c2 c3 d0 d1
  obtain ⟨wq, hwq⟩ : ∃ wq, wq = wr := ⟨_, rfl⟩
  have hwq2 := hwq.symm
  subst hwq2
  clear hwq
  go_loopw [64] (fun y wr => ∃ (k : Nat), y = .int .i64 (k : Int) ∧ k ≤ p.ns ∧ IRow wr gw gw p.nq p.nq (wtF p.S k) ∧ Below w2.heap.size w2 wr) (fun y _ => p.ns - (intOf y).toNat)
  case atStart => exact ⟨0, rfl, Nat.zero_le _, H4.out.1, H4.out.2⟩
  case round =>
  obtain ⟨k, rfl, hk, hr, hbr⟩ := hrel
  clear H4
  by_cases hlt2 : k < p.ns
  case pos =>
    have dlt2 : decide ((k : Int) < (p.ns : Int)) = true := by simp; omega
    have hm := gmeas hlt2
    have ei : IntKind.i64.wrap ((k : Int) + 1) = (k : Int) + 1 := by rw [IntKind.wrap_i64]; omega
    have i0 : (0 : Int) ≤ (k : Int) := by omega
    have i1 : (k : Int) < (p.ns : Int) := by omega
    obtain ⟨⟨q1, q2⟩, -⟩ := HG.out k hlt2
    obtain ⟨dn, hdn⟩ := Int.eq_ofNat_of_zero_le q1
    have hdq : dn < p.nq := by omega
    obtain hz | ⟨gs, os, hp, hl, hc⟩ := H2.out.2.2.2.2.1.below hbr
    · omega
    obtain ⟨x0, x1, x2, x3⟩ := hc k hlt2
    rw [hdn] at x1
    have j0 : (0 : Int) ≤ (dn : Int) := by omega
    have j1 : (dn : Int) < (p.nq : Int) := by omega
    have y0 := hr.cell hdq
    have fz := hr.fz
    have hw9 := wtF_pos p.S k dn
    obtain ⟨wt, hwt⟩ : ∃ wt, wtF p.S k dn = wt := ⟨_, rfl⟩
    rw [hwt] at y0 hw9
    have e9 : IntKind.i64.wrap (wt + 1) = wt + 1 := by rw [IntKind.wrap_i64]; omega
    have hput := hr.put dn (wt + 1)
    rw [← hwt, wtF_next hdn] at hput
    rw [hwt] at hput
    have HP : Hid (IRow (wr.setCell ⟨gw, dn, none⟩ (.int .i64 (wt + 1))) gw gw p.nq p.nq (wtF p.S (k + 1)) ∧ Below w2.heap.size w2 (wr.setCell ⟨gw, dn, none⟩ (.int .i64 (wt + 1)))) := ⟨hput, hbr.setCell (by have := H3.out.2.2.1; show w2.heap.size ≤ gw; omega) _⟩
    obtain ⟨⟨c2, c3⟩, d0, d1⟩ := HKK.out wr hbr
    rw [hp] at c3
    clear hr hbr hc hl hp hput hwt hdn hw9 q1 q2 x0 x2 x3 c2 d0 d1
    go_wp2_with fail
    exact ⟨⟨k + 1, rfl, hlt2, HP.out.1, HP.out.2⟩, hm⟩
  case neg =>
  have dlt2 : decide ((k : Int) < (p.ns : Int)) = false := by simp; omega
  obtain rfl : k = p.ns := by omega
  have hgz := H3.out
  obtain ⟨gl, hgl⟩ : ∃ gl, wr.heap.size = gl := ⟨_, rfl⟩
  obtain ⟨w4, hw4⟩ : ∃ w4, wr.alloc (.cells (madeCells #[Value.int .i64 0] wk) 3) = w4 := ⟨_, rfl⟩
  have r4 := zero_row (W := wr) hw2
  rw [hw4, hgl] at r4
  have b4 : Below wr.heap.size wr w4 := by rw [← hw4]; exact (Below.refl _ wr).alloc (Nat.le_refl _) _
  obtain ⟨K, hK⟩ : ∃ K, wtF p.S p.ns = K := ⟨_, rfl⟩
  have hrw := hr.later b4
  rw [hK] at hrw
  have hlt9 := hr.lt.2
  have H5 : Hid (IRow w4 gw gw p.nq p.nq K ∧ IRow w4 gl gl wk wk (ldF f K 0) ∧ Below w2.heap.size w2 w4 ∧ gw < gl ∧ w2.heap.size = gw) := ⟨hrw, r4, hbr.trans (b4.mono hbr.size), by omega, hgz.2.2.1⟩
  have HD2 := hid6 HD.out
  have HKB2 := hid6 HKB.out
  rw [hK] at HD2 HKB2
  have HW4 : Hid (wr.alloc (.cells (madeCells #[Value.int .i64 0] wk) 3) = w4 ∧ wr.heap.size = gl) := ⟨hw4, hgl⟩
  clear hr hbr hgz hgl hw4 r4 b4 hrw hlt9 HD HKB hK H3
  go_wp2_with fail
  rw [HW4.out.1, HW4.out.2]
  clear hrun2 HW4
  go_loopw [8, 9, 83] (fun a b y wr => ∃ (i : Nat) (H A : Int), a = .int .i64 A ∧ b = .int .i64 H ∧ y = .int .i64 (i : Int) ∧ i ≤ p.nq ∧ A = sm K i ∧ (0 ≤ H ∧ H ≤ 1000) ∧ (∀ j, j < i → K j ≤ H) ∧ IRow wr gw gw p.nq p.nq K ∧ IRow wr gl gl wk wk (ldF f K i) ∧ Below w2.heap.size w2 wr) (fun _ _ y _ => p.nq - (intOf y).toNat)
  case atStart => exact ⟨0, 0, 0, rfl, rfl, rfl, Nat.zero_le _, rfl, by omega, fun j hj => by omega, H5.out.1, H5.out.2.1, H5.out.2.2.1⟩
  case round =>
  obtain ⟨i, H, A, rfl, rfl, rfl, hi, hA, hH, hall, hrw, hrl, hbr⟩ := hrel
  by_cases hlt3 : i < p.nq
  case pos =>
    have dlt3 : decide ((i : Int) < (p.nq : Int)) = true := by simp; omega
    have hm := gmeas hlt3
    have ei : IntKind.i64.wrap ((i : Int) + 1) = (i : Int) + 1 := by rw [IntKind.wrap_i64]; omega
    have i0 : (0 : Int) ≤ (i : Int) := by omega
    have i1 : (i : Int) < (p.nq : Int) := by omega
    obtain ⟨q, hq1, hq2⟩ := HO.out i hlt3
    have y0 := hrw.cell hlt3
    have o0 := (H2.out.2.2.2.1.later hbr).cell hlt3
    rw [hq2] at o0
    have l0 := hrl.cell hq1
    have fz := hrl.fz
    have hkb := HKB2.out i
    have hlb9 := ldF_bound (f := f) HKB2.out (show i ≤ 64 by omega) q
    have hsb := smK_bound HKB2.out (show i ≤ 64 by omega)
    have hnext := ldF_next (K := K) hq2
    have hsum : sm K (i + 1) = A + K i := by rw [hA]; rfl
    rw [← hA] at hsb
    obtain ⟨ki, hki⟩ : ∃ ki, K i = ki := ⟨_, rfl⟩
    obtain ⟨vl, hvl⟩ : ∃ vl, ldF f K i q = vl := ⟨_, rfl⟩
    rw [hki] at y0 hkb hnext hsum
    rw [hvl] at l0 hlb9 hnext
    have e8 : IntKind.i64.wrap (A + ki) = A + ki := by rw [IntKind.wrap_i64]; omega
    have e9 : IntKind.i64.wrap (vl + ki) = vl + ki := by rw [IntKind.wrap_i64]; omega
    have q0 : (0 : Int) ≤ (q : Int) := by omega
    have q1 : (q : Int) < (wk : Int) := by omega
    have dq : decide ((q : Int) < 0) = false := by simp
    have dq2 : decide ((wk : Int) ≤ (q : Int)) = false := by simp; omega
    have dq3 : decide (wk ≤ q) = false := by simp; omega
    have hput := hrl.put q (vl + ki)
    rw [hnext] at hput
    have hgz := H5.out.2.2.2
    have HP : Hid (IRow (wr.setCell ⟨gl, q, none⟩ (.int .i64 (vl + ki))) gw gw p.nq p.nq K ∧ IRow (wr.setCell ⟨gl, q, none⟩ (.int .i64 (vl + ki))) gl gl wk wk (ldF f K (i + 1)) ∧ Below w2.heap.size w2 (wr.setCell ⟨gl, q, none⟩ (.int .i64 (vl + ki)))) := ⟨hrw.off (by omega), hput, hbr.setCell (by show w2.heap.size ≤ gl; omega) _⟩
    obtain ⟨⟨c2, c3⟩, d0, d1⟩ := HKK.out wr hbr
    have HA : Hid ((∀ j, j < i → K j ≤ H) ∧ K i = ki ∧ sm K (i + 1) = A + ki) := ⟨hall, hki, hsum⟩
    have HHb : Hid ((0 ≤ H ∧ H ≤ 1000) ∧ ki ≤ 1000) := ⟨hH, hkb.2⟩
    clear hrw hrl hbr hall hki hvl hput hnext hsum hgz c2 c3 d0 hq1 hq2 hsb hlb9 hA
    by_cases hmx : H < ki
    · have dm : decide (H < ki) = true := by simp; omega
      clear hH hkb hmx
      go_upto_region 26 with fail
      go_region
      all_goals (
        go_wp2_with fail
        refine ⟨⟨i + 1, ki, A + ki, rfl, by rw [if_pos (of_decide_eq_true dm)], rfl, hlt3, HA.out.2.2.symm, ⟨by have := HHb.out; have := of_decide_eq_true dm; omega, HHb.out.2⟩, fun j hj => ?_, HP.out.1.later (drewG _), HP.out.2.1.later (drewG _), HP.out.2.2.trans ((drewG _).mono HP.out.2.2.size)⟩, hm⟩
        by_cases e : j = i
        · rw [e, HA.out.2.1]; exact Int.le_refl _
        · have := HA.out.1 j (by omega)
          have := of_decide_eq_true dm
          omega)
    · have dm : decide (H < ki) = false := by simp; omega
      clear hH hkb hmx
      go_upto_region 26 with fail
      go_region
      all_goals (
        go_wp2_with fail
        refine ⟨⟨i + 1, H, A + ki, rfl, by rw [if_neg (of_decide_eq_false dm)], rfl, hlt3, HA.out.2.2.symm, HHb.out.1, fun j hj => ?_, HP.out.1.later (drewG _), HP.out.2.1.later (drewG _), HP.out.2.2.trans ((drewG _).mono HP.out.2.2.size)⟩, hm⟩
        by_cases e : j = i
        · rw [e, HA.out.2.1]
          have := of_decide_eq_false dm
          omega
        · exact HA.out.1 j (by omega))
  case neg =>
  have dlt3 : decide ((i : Int) < (p.nq : Int)) = false := by simp; omega
  obtain rfl : i = p.nq := by omega
  have hgr := (HD2.out H hH.1 hall).2
  have hsb := smK_bound HKB2.out hq
  rw [← hA] at hgr hsb
  have H6 : Hid (IRow wr gl gl wk wk (ldF f K p.nq) ∧ Below w2.heap.size w2 wr ∧ ∀ l : Nat, l < wk → (wk : Int) * ldF f K p.nq l ≤ A + ((wk : Int) - 1) * H) := ⟨hrl, hbr, hgr⟩
  have HAb : Hid (0 ≤ A ∧ A ≤ 64000) := hsb
  have HHb : Hid (0 ≤ H ∧ H ≤ 1000) := hH
  have hwz : (wk : Int) * 0 ≤ A + ((wk : Int) - 1) * H := by
    have := Int.mul_nonneg (show (0 : Int) ≤ (wk : Int) - 1 by omega) hH.1
    omega
  have HZ0 := hid6 hwz
  clear hrw hrl hbr hgr hsb hA hH hall H5 hwz
  go_wp2_with fail
  go_loopw [10, 136] (fun a y wr => ∃ (l : Nat) (M : Int), a = .int .i64 M ∧ y = .int .i64 (l : Int) ∧ l ≤ wk ∧ (0 ≤ M ∧ M ≤ 64000) ∧ (wk : Int) * M ≤ A + ((wk : Int) - 1) * H ∧ IRow wr gl gl wk wk (ldF f K p.nq) ∧ Below w2.heap.size w2 wr) (fun _ y _ => wk - (intOf y).toNat)
  case atStart => exact ⟨0, 0, rfl, rfl, Nat.zero_le _, by omega, HZ0.out, H6.out.1, H6.out.2.1⟩
  case round =>
  obtain ⟨l, M, rfl, rfl, hl, hM, hgM, hrl, hbr⟩ := hrel
  by_cases hlt4 : l < wk
  case pos =>
    have dlt4 : decide ((l : Int) < (wk : Int)) = true := by simp; omega
    have hm := gmeas hlt4
    have ei : IntKind.i64.wrap ((l : Int) + 1) = (l : Int) + 1 := by rw [IntKind.wrap_i64]; omega
    have i0 : (0 : Int) ≤ (l : Int) := by omega
    have i1 : (l : Int) < (wk : Int) := by omega
    have l0 := hrl.cell hlt4
    have hgl := H6.out.2.2 l hlt4
    have hlb9 := ldF_bound (f := f) HKB2.out hq l
    obtain ⟨vl, hvl⟩ : ∃ vl, ldF f K p.nq l = vl := ⟨_, rfl⟩
    rw [hvl] at l0 hlb9 hgl
    have HR : Hid (IRow wr gl gl wk wk (ldF f K p.nq) ∧ Below w2.heap.size w2 wr ∧ (wk : Int) * M ≤ A + ((wk : Int) - 1) * H ∧ (wk : Int) * vl ≤ A + ((wk : Int) - 1) * H ∧ (0 ≤ M ∧ M ≤ 64000) ∧ (0 ≤ vl ∧ vl ≤ 64000)) := ⟨hrl, hbr, hgM, hgl, hM, hlb9⟩
    clear hrl hbr hgM hgl hvl
    by_cases hmx : M < vl
    · have dm : decide (M < vl) = true := by simp; omega
      clear hM hlb9 hmx
      go_wp2_with fail
      exact ⟨⟨l + 1, vl, by rw [if_pos (of_decide_eq_true dm)], rfl, hlt4, HR.out.2.2.2.2.2, HR.out.2.2.2.1, HR.out.1, HR.out.2.1⟩, hm⟩
    · have dm : decide (M < vl) = false := by simp; omega
      clear hM hlb9 hmx
      go_wp2_with fail
      exact ⟨⟨l + 1, M, by rw [if_neg (of_decide_eq_false dm)], rfl, hlt4, HR.out.2.2.2.2.1, HR.out.2.2.1, HR.out.1, HR.out.2.1⟩, hm⟩
  case neg =>
  have dlt4 : decide ((l : Int) < (wk : Int)) = false := by simp; omega
  obtain ⟨e1, e2, e3, e4⟩ := graham_end hw1 hw2 hM HAb.out HHb.out hgM
  have hle : decide ((wk : Int) * M ≤ A + ((wk : Int) - 1) * H) = true := decide_eq_true hgM
  have HR : Hid (Below w2.heap.size w2 wr) := hbr
  clear hrl hbr hgM hM
  go_wp2_with fail
  go_ret
  exact ⟨rfl, H2.out.1.trans (HR.out.mono H2.out.1.size)⟩
theorem graham_law (p : Pl) (v : PlV) (wk : Int) (w : World) (h : PlAt w p v) (_ : RoomyL p) : Calls Try.prog 3 #[.agg #[.int .i64 p.ki, .slice v.pp p.np v.pc, .slice v.tp p.nq v.tc, .slice v.sp p.ns v.sc, .int .u64 p.sd, .int .u64 p.lk, .int .u64 p.en, .int .i64 p.bu, .int .i64 p.fu], .int .i64 wk] w fun e w' => e = .returned (.bool true) ∧ Below w.heap.size w w' := by
  obtain ⟨c, hc⟩ := VC.tot p
  by_cases h0 : c = 0
  · subst h0
    by_cases h1 : wk < 1
    · exact graham_lo p v wk hc h1 w h
    · by_cases h2 : 64 < wk
      · exact graham_hi p v wk hc h2 w h
      · obtain ⟨n, rfl⟩ := Int.eq_ofNat_of_zero_le (show 0 ≤ wk by omega)
        exact graham_good p v n hc (by omega) (by omega) w h
  · exact graham_bad p v wk c h0 hc w h
end Go.Proofs.Ytkgifanlodlilaa
