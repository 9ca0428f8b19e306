import Derived.Test.YthbngffonbhakaaDoorVL8
import Derived.BigQuiet
import Derived.Deep.RegionLaw
import Derived.Deep.RegionHeld3
import Derived.Deep.Cut
import Derived.Deep.DeepCutAuto
import Derived.Deep.CutBlock
import Derived.Deep.CutRange
import Derived.Handy
namespace Go.Proofs.YthbngffonbhakaaDoor
open Go.ChangeShapes Go.WideShapes Go.ChangeAt Go.RowKit Go.Sort
set_option linter.unusedVariables false
set_option linter.unusedSimpArgs false


theorem Nms.lt {w : World} (h : Nms w) : 0 < w.heap.size := by
  have hc := h 0 (by decide)
  unfold World.cell? at hc
  cases hh : w.heap[0]? with
  | none => simp [hh] at hc
  | some o => exact (Array.getElem?_eq_some_iff.1 hh).1
set_option maxRecDepth 100000 in
set_option maxHeartbeats 4000000 in
theorem lists_law (P : Pg) (v : PgV) (hab : abP P) (hro : roomyP P) (w : World) (h : PAt w P v) (htab : Lib.TabIs Tryd.prog w "internal/strconv.uint64pow10" .u64 Lib.pow10Tab) (hnm : Nms w) :
    Calls Tryd.prog 3 #[.agg #[.int .i64 P.words, .int .i64 P.locals, .slice v.cp P.n v.cc, .slice v.ep P.m v.ec]] w fun e w' => e = .returned (.bool true) ∧ Below w.heap.size w w' := by
  obtain ⟨L, hL1, hL2⟩ : ∃ L, (wrP P → lsB P = L) ∧ (¬ wrP P → [] = L) := by
    by_cases hx : wrP P
    · exact ⟨lsB P, fun _ => rfl, fun h9 => absurd hx h9⟩
    · exact ⟨[], fun h9 => absurd h9 hx, fun _ => rfl⟩
  have fin : ∀ e : Ending, (wrP P → e = .returned (bst (lsB P))) ∧ (¬ wrP P → e = .returned (bst [])) → e = .returned (.string ⟨L.toArray⟩) := fun e he => by
    by_cases hx : wrP P
    · rw [he.1 hx, hL1 hx]; rfl
    · rw [he.2 hx, hL2 hx]; rfl
  have HTB : Hid (Tb w.heap.size w) := Lib.tabBelow_of_tabIs htab
  have HL : Hid (∀ W, Below w.heap.size w W → ∀ u, PAt W P u → Calls Tryd.prog 5 #[.agg #[.int .i64 P.words, .int .i64 P.locals, .slice u.cp P.n u.cc, .slice u.ep P.m u.ec]] W fun e w' => e = .returned (.string ⟨L.toArray⟩) ∧ Below W.heap.size W w') := fun W hW u hu =>
    (list_any P u hab W hu (Lib.tabBelow_of_tabIs (HTB.out W hW)) (hnm.keep hW) (hnm.keep hW).lt).mono fun e w' he => ⟨fin e ⟨he.1, he.2.1⟩, he.2.2.bel⟩
  have HR : Hid (∀ W, PAt W P v → Calls Tryd.prog 6 #[.agg #[.int .i64 P.words, .int .i64 P.locals, .slice v.cp P.n v.cc, .slice v.ep P.m v.ec]] W fun e w' => e = .returned (.string ⟨L.toArray⟩) ∧ Below W.heap.size W w') := fun W hu =>
    (rlist_any P v hab W hu).mono fun e w' he => ⟨fin e ⟨he.1, he.2.1⟩, he.2.2.bel⟩
  clear fin hL1 hL2 htab hnm hab HTB
  obtain ⟨wb, hwb⟩ : ∃ wb, w.alloc (.cells #[.int .i64 P.words, .int .i64 P.locals, .slice v.cp P.n v.cc, .slice v.ep P.m v.ec] 25) = wb := ⟨_, rfl⟩
  have hb0 : Below w.heap.size w wb := by rw [← hwb]; exact (Below.refl _ w).alloc (Nat.le_refl _) _
  have hbox : wb.heap[w.heap.size]? = some (.cells #[.int .i64 P.words, .int .i64 P.locals, .slice v.cp P.n v.cc, .slice v.ep P.m v.ec] 25 (0, 0)) := by rw [← hwb]; exact World.alloc_heap_new w _
  have HW : Hid (w.alloc (.cells #[.int .i64 P.words, .int .i64 P.locals, .slice v.cp P.n v.cc, .slice v.ep P.m v.ec] 25) = wb) := hwb
  have HCP := copyProgram_any P v wb (h.below hb0) hro
  have hlt : w.heap.size < wb.heap.size := lt_of_block hbox
  have HZ : Hid (∀ W, Below wb.heap.size wb W → (W.cell? ⟨w.heap.size, 0, none⟩ = some (.int .i64 P.words) ∧ W.cell? ⟨w.heap.size, 1, none⟩ = some (.int .i64 P.locals) ∧ W.cell? ⟨w.heap.size, 2, none⟩ = some (.slice v.cp P.n v.cc) ∧ W.cell? ⟨w.heap.size, 3, none⟩ = some (.slice v.ep P.m v.ec)) ∧ PAt W P v ∧ Below w.heap.size w W) := fun W hW =>
    ⟨cells4 ((hW.block _ hlt).trans hbox), (h.below hb0).below hW, hb0.trans (hW.mono hb0.size)⟩
  obtain ⟨⟨c0, c1, c2, c3⟩, -⟩ := HZ.out wb (Below.refl _ _)
  rw [← hwb] at c0 c1 c2 c3
  have HRO : Hid (roomyP P) := hro
  clear h hwb hb0 hbox hlt hro
  go_enter Tryd.func3, Tryd.ntmps3
  go_upto_region 2 with (go_at_call 4; rw [HW.out]; (with_reducible refine HCP.mono ?_); rintro r w1 ⟨u, rfl, hu, h6⟩)
  obtain ⟨wc, hwc⟩ : ∃ wc, w1.alloc (.cells #[.int .i64 P.words, .int .i64 P.locals, .slice u.cp P.n u.cc, .slice u.ep P.m u.ec] 25) = wc := ⟨_, rfl⟩
  rw [hwc]
  have g0 : Below w1.heap.size w1 wc := by rw [← hwc]; exact (Below.refl _ w1).alloc (Nat.le_refl _) _
  have gbx : wc.heap[w1.heap.size]? = some (.cells #[.int .i64 P.words, .int .i64 P.locals, .slice u.cp P.n u.cc, .slice u.ep P.m u.ec] 25 (0, 0)) := by rw [← hwc]; exact World.alloc_heap_new w1 _
  have glt : w1.heap.size < wc.heap.size := lt_of_block gbx
  have HU : Hid (∀ W, Below wc.heap.size wc W → (W.cell? ⟨w1.heap.size, 0, none⟩ = some (.int .i64 P.words) ∧ W.cell? ⟨w1.heap.size, 1, none⟩ = some (.int .i64 P.locals) ∧ W.cell? ⟨w1.heap.size, 2, none⟩ = some (.slice u.cp P.n u.cc) ∧ W.cell? ⟨w1.heap.size, 3, none⟩ = some (.slice u.ep P.m u.ec)) ∧ PAt W P u ∧ Below wb.heap.size wb W) := fun W hW =>
    ⟨cells4 ((hW.block _ glt).trans gbx), (hu.below g0).below hW, h6.trans ((g0.trans (hW.mono g0.size)).mono h6.size)⟩
  clear c0 c1 c2 c3 hwc g0 gbx glt hu h6 HCP HW
  obtain ⟨⟨e0, e1, e2, e3⟩, hu, hb⟩ := HU.out wc (Below.refl _ _)
  obtain ⟨⟨c0, c1, c2, c3⟩, -, hbw⟩ := HZ.out wc hb
  have HC := HL.out wc hbw u hu
  clear hu hb hbw
  go_upto_region 3 with (go_at_call 5; (with_reducible refine HC.mono ?_); rintro r w2 ⟨rfl, b2⟩)
  have H2 := hid b2
  clear e0 e1 e2 e3 c0 c1 c2 c3 HC b2
  obtain ⟨⟨e0, e1, e2, e3⟩, hu, hb⟩ := HU.out w2 H2.out
  obtain ⟨⟨c0, c1, c2, c3⟩, hv, hbw⟩ := HZ.out w2 hb
  have HC := HR.out w2 hv
  have HSM := fun W (hW : Below w2.heap.size w2 W) => sameProgram_yes P u v W (hu.below hW) (hv.below hW) HRO.out
  have H3 : Hid (∀ W, Below w2.heap.size w2 W → Below wc.heap.size wc W) := fun W hW => H2.out.trans (hW.mono H2.out.size)
  have HSMh : Hid (_ ∧ True) := ⟨HSM, trivial⟩
  clear hu hv hb hbw HSM
  go_wp2_with (first | (go_at_call 6; (with_reducible refine HC.mono ?_); rintro r w3 ⟨rfl, b3⟩; obtain ⟨⟨e0, e1, e2, e3⟩, -, hb⟩ := HU.out w3 (H3.out w3 b3); obtain ⟨⟨c0, c1, c2, c3⟩, -, hbw⟩ := HZ.out w3 hb; have B3 := hid (And.intro b3 hbw); clear b3 hb hbw) | (go_at_call 7; (with_reducible refine (HSMh.out.1 _ B3.out.1).mono ?_); rintro r w4 ⟨rfl, b4⟩))
  go_ret
  exact ⟨rfl, B3.out.2.trans (b4.mono B3.out.2.size)⟩
end Go.Proofs.YthbngffonbhakaaDoor
