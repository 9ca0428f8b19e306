import Derived.Test.YtomjnncgogkglaaTPT2a
namespace Go.Proofs.Ytomjnncgogkglaa
open Go.ChangeShapes Go.WideShapes Go.ChangeAt Go.RowKit
set_option linter.unusedVariables false
set_option linter.unusedSimpArgs false

theorem cells6t {W : World} {b : Nat} {c0 c1 c2 c3 c4 c5 : Value} {t : TypeId} (h : W.heap[b]? = some (.cells #[c0, c1, c2, c3, c4, c5] t (0, 0))) : W.cell? ⟨b, 0, none⟩ = some c0 ∧ W.cell? ⟨b, 1, none⟩ = some c1 ∧ W.cell? ⟨b, 2, none⟩ = some c2 ∧ W.cell? ⟨b, 3, none⟩ = some c3 ∧ W.cell? ⟨b, 4, none⟩ = some c4 ∧ W.cell? ⟨b, 5, none⟩ = some c5 := by
  refine ⟨?_, ?_, ?_, ?_, ?_, ?_⟩
  all_goals (unfold World.cell?; rw [h]; rfl)
set_option maxRecDepth 100000 in
set_option maxHeartbeats 8000000 in
theorem rtallies_any (ak ac aa0 aa1 aa2 am : Int) (aq ax : Option Addr) (an acq anx acx : Nat) (X : Nat → Se) (hok : ∀ j, j < anx → SeOk (X j)) (hn : anx ≤ 1000000000000) (w : World) (hX : SIn w ax anx X) :
    Calls Try.prog 23 #[.agg #[.int .i64 ak, .int .i64 ac, .int .u64 aa0, .int .i64 aa1, .int .u64 aa2, .int .i64 am, .slice aq an acq, .slice ax anx acx]] w fun e w' => ∃ (v : Value) (K : List Int), e = .returned v ∧ (∀ x, x ∈ K ↔ pr X x anx = true) ∧ RisI K ∧ K.length ≤ 2 * anx ∧ w'.ownsRow w.heap.size 65 5 v (K.map (fin X anx)).length ((K.map (fin X anx)).flatMap tyL) ∧ Below w.heap.size w w' := by
  obtain ⟨iT, hT1, hT2, hT3, hT4⟩ := sinfo infoTY
  obtain ⟨wb, hwb⟩ : ∃ wb, w.alloc (.cells #[.int .i64 ak, .int .i64 ac, .int .u64 aa0, .int .i64 aa1, .int .u64 aa2, .int .i64 am, .slice aq an acq, .slice ax anx acx] 29) = wb := ⟨_, rfl⟩
  have hb0 : Below w.heap.size w wb := by rw [← hwb]; exact (Below.refl _ w).alloc (Nat.le_refl _) _
  have hbx1 : wb.heap[w.heap.size]? = some (.cells #[.int .i64 ak, .int .i64 ac, .int .u64 aa0, .int .i64 aa1, .int .u64 aa2, .int .i64 am, .slice aq an acq, .slice ax anx acx] 29 (0, 0)) := by rw [← hwb]; exact World.alloc_heap_new w _
  have HW : Hid (w.alloc (.cells #[.int .i64 ak, .int .i64 ac, .int .u64 aa0, .int .i64 aa1, .int .u64 aa2, .int .i64 am, .slice aq an acq, .slice ax anx acx] 29) = wb) := hwb
  have HB : Hid (Below w.heap.size w wb ∧ wb.heap[w.heap.size]? = some (.cells #[.int .i64 ak, .int .i64 ac, .int .u64 aa0, .int .i64 aa1, .int .u64 aa2, .int .i64 am, .slice aq an acq, .slice ax anx acx] 29 (0, 0)) ∧ w.heap.size < wb.heap.size) := ⟨hb0, hbx1, lt_of_block hbx1⟩
  have HX : Hid (SIn w ax anx X) := hX
  obtain ⟨-, -, -, -, -, -, -, c7⟩ := cells8k hbx1
  rw [← hwb] at c7
  clear hwb hX hb0 hbx1 hok
  go_enter Try.func23, Try.ntmps23
  go_wp2
  rw [HW.out]
  clear c7
  go_loopw [3, 18] (fun r x wt => ∃ (i : Nat) (K : List Int), x = .int .i64 i ∧ i ≤ anx ∧ wt.ownsRow wb.heap.size 3 1 r K.length (K.flatMap inL) ∧ RisI K ∧ (∀ x, x ∈ K ↔ pr X x i = true) ∧ K.length ≤ 2 * i ∧ Below wb.heap.size wb wt) (fun _ x _ => anx - (intOf x).toNat)
  case atStart => exact ⟨0, [], rfl, Nat.zero_le _, World.ownsRow_nil _ _ _ _, List.Pairwise.nil, fun x => by simp [pr], Nat.le_refl _, Below.refl _ _⟩
  case round =>
    obtain ⟨i, K, rfl, hi, hrow, hris, hmem, hln, hbt⟩ := hrel
    have HL : Hid (wr.ownsRow wb.heap.size 3 1 u3 K.length (K.flatMap inL) ∧ RisI K ∧ (∀ x, x ∈ K ↔ pr X x i = true) ∧ Below wb.heap.size wb wr) := ⟨hrow, hris, hmem, hbt⟩
    by_cases hlt : i < anx
    case pos =>
      have dl : decide ((i : Int) < (anx : Int)) = true := decide_eq_true (by omega)
      have hme := meas hlt
      have i0 : (0 : Int) ≤ (i : Int) := by omega
      have i1 : (i : Int) < (anx : Int) := by omega
      have ei : IntKind.i64.wrap ((i : Int) + 1) = (i : Int) + 1 := by rw [IntKind.wrap_i64]; omega
      have hbw : Below w.heap.size w wr := HB.out.1.trans (hbt.mono HB.out.1.size)
      obtain ⟨g1, o1, hx1, hg1, x0, x1, x2, x3, x4, x5⟩ := (HX.out.below hbw).at hlt
      rw [hx1]
      have hbE : Below wr.heap.size wr (wr.alloc (.cells #[.int .u64 (X i).t, .int .i64 (X i).s, .int .u64 (X i).q, .int .i64 (X i).d, .int .i64 (X i).k, .int .i64 (X i).v] 67)).drew := ((Below.refl _ wr).alloc (Nat.le_refl _) _).drew
      have HRK := rank_any u3 K (X i).d wb.heap.size (wr.alloc (.cells #[.int .u64 (X i).t, .int .i64 (X i).s, .int .u64 (X i).q, .int .i64 (X i).d, .int .i64 (X i).k, .int .i64 (X i).v] 67)).drew (Nat.le_trans hbt.size hbE.size) (srow_later hrow hbE) hris (by omega)
      have HBE : Hid (Below wb.heap.size wb (wr.alloc (.cells #[.int .u64 (X i).t, .int .i64 (X i).s, .int .u64 (X i).q, .int .i64 (X i).d, .int .i64 (X i).k, .int .i64 (X i).v] 67)).drew) := hbt.trans (hbE.mono hbt.size)
      have hev : (wr.alloc (.cells #[.int .u64 (X i).t, .int .i64 (X i).s, .int .u64 (X i).q, .int .i64 (X i).d, .int .i64 (X i).k, .int .i64 (X i).v] 67)).drew.heap[wr.heap.size]? = some (.cells #[.int .u64 (X i).t, .int .i64 (X i).s, .int .u64 (X i).q, .int .i64 (X i).d, .int .i64 (X i).k, .int .i64 (X i).v] 67 (0, 0)) := World.alloc_heap_new wr _
      have KK : ∀ W : World, W.heap[wr.heap.size]? = some (.cells #[.int .u64 (X i).t, .int .i64 (X i).s, .int .u64 (X i).q, .int .i64 (X i).d, .int .i64 (X i).k, .int .i64 (X i).v] 67 (0, 0)) → (W.cell? ⟨wr.heap.size, 1, none⟩ = some (.int .i64 (X i).s) ∧ W.cell? ⟨wr.heap.size, 3, none⟩ = some (.int .i64 (X i).d)) := fun W h => by
        refine ⟨?_, ?_⟩
        all_goals (unfold World.cell?; rw [h]; rfl)
      have KP0 := KK _ hev
      have HEV : Hid ((wr.alloc (.cells #[.int .u64 (X i).t, .int .i64 (X i).s, .int .u64 (X i).q, .int .i64 (X i).d, .int .i64 (X i).k, .int .i64 (X i).v] 67)).drew.heap[wr.heap.size]? = some (.cells #[.int .u64 (X i).t, .int .i64 (X i).s, .int .u64 (X i).q, .int .i64 (X i).d, .int .i64 (X i).k, .int .i64 (X i).v] 67 (0, 0)) ∧ wr.heap.size < (wr.alloc (.cells #[.int .u64 (X i).t, .int .i64 (X i).s, .int .u64 (X i).q, .int .i64 (X i).d, .int .i64 (X i).k, .int .i64 (X i).v] 67)).drew.heap.size) := ⟨hev, lt_of_block hev⟩
      clear hrow hris hmem hbt hbw hx1 hbE hev
      go_wp2
      go_region_held3 (fun w' => (w'.cell? ⟨wr.heap.size, 1, none⟩ = some (.int .i64 (X i).s) ∧ w'.cell? ⟨wr.heap.size, 3, none⟩ = some (.int .i64 (X i).d))) (first | with_reducible exact KP0 | with_reducible exact KP1 | with_reducible exact KP2 | go_keep) (first | (go_at_call 30; (with_reducible refine HRK.mono ?_); rintro e w8 ⟨v8, M8, rfl, hr8, hs8, hm8, hl8, hb8⟩; have he8 := (hb8.block _ HEV.out.2).trans HEV.out.1; have KP1 := KK w8 he8; have HRK2 := rank_any v8 M8 (X i).s wb.heap.size w8 (Nat.le_trans HBE.out.size hb8.size) hr8 hs8 (by omega); have H8 : Hid ((∀ x, x ∈ M8 ↔ x ∈ K ∨ x = (X i).d) ∧ M8.length ≤ K.length + 1 ∧ Below wb.heap.size wb w8 ∧ w8.heap[wr.heap.size]? = some (.cells #[.int .u64 (X i).t, .int .i64 (X i).s, .int .u64 (X i).q, .int .i64 (X i).d, .int .i64 (X i).k, .int .i64 (X i).v] 67 (0, 0))) := ⟨hm8, hl8, HBE.out.trans (hb8.mono HBE.out.size), he8⟩; clear hr8 hs8 hm8 hl8 hb8 he8) | (go_at_call 30; (with_reducible refine HRK2.mono ?_); rintro e w9 ⟨v9, M9, rfl, hr9, hs9, hm9, hl9, hb9⟩; have KP2 := KK w9 ((hb9.block _ (lt_of_block H8.out.2.2.2)).trans H8.out.2.2.2); have H9 : Hid (w9.ownsRow wb.heap.size 3 1 v9 M9.length (M9.flatMap inL) ∧ RisI M9 ∧ (∀ x, x ∈ M9 ↔ x ∈ M8 ∨ x = (X i).s) ∧ M9.length ≤ M8.length + 1 ∧ Below wb.heap.size wb w9) := ⟨hr9, hs9, hm9, hl9, H8.out.2.2.1.trans (hb9.mono H8.out.2.2.1.size)⟩; clear hr9 hs9 hm9 hl9 hb9))
      all_goals (
        clear KP0 KP1 KP2 HRK HRK2
        go_wp2
        obtain ⟨q1, q2, q3, q4, q5⟩ := H9.out
        obtain ⟨s1, s2, _⟩ := H8.out
        exact ⟨⟨i + 1, M9, rfl, hlt, q1, q2, fun x => by rw [q3, s1]; exact pr_in HL.out.2.2.1, by omega, q5⟩, hme⟩)
    have dl : decide ((i : Int) < (anx : Int)) = false := decide_eq_false (by omega)
    obtain rfl : i = anx := by omega
    obtain ⟨pK, kK, hvK⟩ := own_slice (own_of HL.out.1)
    subst hvK
    clear hrow hris hmem hbt
    go_wp2
    obtain ⟨wK, rfl⟩ : ∃ wK, wK = wr := ⟨_, rfl⟩
    go_loopw [6, 33] (fun r x wt => ∃ j : Nat, x = .int .i64 j ∧ j ≤ K.length ∧ wt.ownsRow wK.heap.size 65 5 r ((K.take j).map (fin X i)).length (((K.take j).map (fin X i)).flatMap tyL) ∧ Below wK.heap.size wK wt) (fun _ x _ => K.length - (intOf x).toNat)
    case atStart => exact ⟨0, rfl, Nat.zero_le _, World.ownsRow_nil _ _ _ _, Below.refl _ _⟩
    case round =>
      obtain ⟨j, rfl, hj, hrow, hbt⟩ := hrel
      have HR : Hid (wr.ownsRow wK.heap.size 65 5 u6 ((K.take j).map (fin X i)).length (((K.take j).map (fin X i)).flatMap tyL) ∧ Below wK.heap.size wK wr) := ⟨hrow, hbt⟩
      by_cases hjl : j < K.length
      case pos =>
        have dj : decide ((j : Int) < (K.length : Int)) = true := decide_eq_true (by omega)
        have hmj := meas hjl
        have j0 : (0 : Int) ≤ (j : Int) := by omega
        have j1 : (j : Int) < (K.length : Int) := by omega
        have ej : IntKind.i64.wrap ((j : Int) + 1) = (j : Int) + 1 := by rw [IntKind.wrap_i64]; omega
        obtain ⟨gK, hpK⟩ : ∃ g, pK = some ⟨g, 0, none⟩ := by
          rcases (own_of HL.out.1).form with ⟨_, h0⟩ | ⟨g, c, h0, _⟩
          · omega
          · injection h0 with h0; exact ⟨g, h0⟩
        subst hpK
        have k0 := rowI_cell (srow_later HL.out.1 hbt) hjl
        obtain ⟨p, hp9⟩ : ∃ p, itA K j = p := ⟨_, rfl⟩
        rw [hp9] at k0
        have HPP : Hid (itA K j = p) := hp9
        obtain ⟨wT, hwT⟩ : ∃ wT, wr.alloc (.cells #[.int .i64 p, .int .i64 0, .int .i64 0, .int .u64 0, .int .u64 0] 65) = wT := ⟨_, rfl⟩
        have hbT : Below wr.heap.size wr wT := by rw [← hwT]; exact (Below.refl _ wr).alloc (Nat.le_refl _) _
        have hTb : wT.heap[wr.heap.size]? = some (.cells #[.int .i64 p, .int .i64 0, .int .i64 0, .int .u64 0, .int .u64 0] 65 (0, 0)) := by rw [← hwT]; exact World.alloc_heap_new wr _
        obtain ⟨gT, hgT⟩ : ∃ gT, wr.heap.size = gT := ⟨_, rfl⟩
        have hbKT : Below wK.heap.size wK wT := hbt.trans (hbT.mono hbt.size)
        have hbw : Below wb.heap.size wb wT := HL.out.2.2.2.trans (hbKT.mono HL.out.2.2.2.size)
        have hb1 := (hbw.block _ HB.out.2.2).trans HB.out.2.1
        obtain ⟨-, -, -, -, -, -, -, c7⟩ := cells8k hb1
        rw [← hwT] at c7
        have HC := happens_any ax i acx X p (by omega) wT (HX.out.below (HB.out.1.trans (hbw.mono HB.out.1.size)))
        have HWT : Hid (wr.alloc (.cells #[.int .i64 p, .int .i64 0, .int .i64 0, .int .u64 0, .int .u64 0] 65) = wT) := hwT
        rw [hgT] at hTb
        have HTT : Hid (wr.heap.size = gT ∧ wT.heap[gT]? = some (.cells #[.int .i64 p, .int .i64 0, .int .i64 0, .int .u64 0, .int .u64 0] 65 (0, 0)) ∧ Below wr.heap.size wr wT ∧ wK.heap.size ≤ gT ∧ gT < wT.heap.size) := ⟨hgT, hTb, hbT, by rw [← hgT]; exact hbt.size, lt_of_block hTb⟩
        clear hrow hbt hp9 hwT hbT hTb hbKT hbw hb1
        go_upto_region 13 with (go_at_call 32; rw [HWT.out]; (with_reducible refine HC.mono ?_); rintro e w1 ⟨vo, rfl, ho1, hb1⟩; have H1 : Hid (w1.ownsRow wT.heap.size 67 6 vo (hp p X i).length ((hp p X i).flatMap seL) ∧ Below wT.heap.size wT w1) := ⟨ho1, hb1⟩; clear ho1 hb1 c7 k0)
        clear hgT
        obtain ⟨po, ko, hvo⟩ := own_slice (own_of H1.out.1)
        subst hvo
        have hT1 := (H1.out.2.block _ HTT.out.2.2.2.2).trans HTT.out.2.1
        obtain ⟨t0, t1, t2, t3, t4⟩ := cells5t hT1
        have z1 := frz hT1 1
        go_wp2
        obtain ⟨w2, hw2⟩ : ∃ w2, w1.setCell ⟨gT, 1, none⟩ (.int .i64 ((hp p X i).length : Int)) = w2 := ⟨_, rfl⟩
        rw [hw2]
        have hT2 : w2.heap[gT]? = some (.cells #[.int .i64 p, .int .i64 (hp p X i).length, .int .i64 0, .int .u64 0, .int .u64 0] 65 (0, 0)) := by rw [← hw2]; exact set5_1 hT1 _
        have hG2 : wT.grownBy w2 (some gT) := by rw [← hw2]; exact gr_trans (gr_of H1.out.2) (gr_set _ _ _ _)
        have hlo := hp_len p X i
        have hOne : (Value.slice po (hp p X i).length ko).ownBlock ≠ some gT := fun e => by have := (srow_lt H1.out.1 gT e).1; have := HTT.out.2.2.2.2; omega
        have hO2 : w2.ownsRow wT.heap.size 67 6 (.slice po (hp p X i).length ko) (hp p X i).length ((hp p X i).flatMap seL) := by rw [← hw2]; exact H1.out.1.kept (gr_set w1 gT 1 (.int .i64 ((hp p X i).length : Int))) (.inr hOne)
        have H2 : Hid (w2.heap[gT]? = some (.cells #[.int .i64 p, .int .i64 (hp p X i).length, .int .i64 0, .int .u64 0, .int .u64 0] 65 (0, 0)) ∧ wT.grownBy w2 (some gT) ∧ w2.ownsRow wT.heap.size 67 6 (.slice po (hp p X i).length ko) (hp p X i).length ((hp p X i).flatMap seL) ∧ (Value.slice po (hp p X i).length ko).ownBlock ≠ some gT) := ⟨hT2, hG2, hO2, hOne⟩
        obtain ⟨wR, rfl⟩ : ∃ wR, wR = wr := ⟨_, rfl⟩
        clear t0 t1 t2 t3 t4 z1 hT1 hw2 hT2 hG2 hO2 hOne
        go_loopw [48] (fun v wt => ∃ m : Nat, v = .int .i64 m ∧ m ≤ (hp p X i).length ∧ wt.heap[gT]? = some (.cells #[.int .i64 p, .int .i64 (hp p X i).length, .int .i64 0, .int .u64 (mmI (hp p X i) m).1, .int .u64 (mmI (hp p X i) m).2] 65 (0, 0)) ∧ w2.grownBy wt (some gT)) (fun v _ => (hp p X i).length - (intOf v).toNat)
        case atStart => exact ⟨0, rfl, Nat.zero_le _, H2.out.1, grown_refl _ _⟩
        case round =>
          obtain ⟨m, rfl, hm, hTb, hGr⟩ := hrel
          have HV : Hid (wr.heap[gT]? = some (.cells #[.int .i64 p, .int .i64 (hp p X i).length, .int .i64 0, .int .u64 (mmI (hp p X i) m).1, .int .u64 (mmI (hp p X i) m).2] 65 (0, 0)) ∧ w2.grownBy wr (some gT)) := ⟨hTb, hGr⟩
          by_cases hml : m < (hp p X i).length
          case pos =>
            have dm : decide ((m : Int) < ((hp p X i).length : Int)) = true := decide_eq_true (by omega)
            have hmem9 := meas hml
            have m0 : (0 : Int) ≤ (m : Int) := by omega
            have m1 : (m : Int) < ((hp p X i).length : Int) := by omega
            have em : IntKind.i64.wrap ((m : Int) + 1) = (m : Int) + 1 := by rw [IntKind.wrap_i64]; omega
            obtain ⟨go, hpo⟩ : ∃ g, po = some ⟨g, 0, none⟩ := by
              rcases (own_of H2.out.2.2.1).form with ⟨_, h0⟩ | ⟨g, c, h0, _⟩
              · omega
              · injection h0 with h0; exact ⟨g, h0⟩
            subst hpo
            obtain ⟨x0, x1, x2, x3, x4, x5⟩ := rowE_cells (H2.out.2.2.1.kept hGr (.inr H2.out.2.2.2)) hml
            have hTa : (wr.alloc (.cells #[.int .u64 (atS (hp p X i) m).t, .int .i64 (atS (hp p X i) m).s, .int .u64 (atS (hp p X i) m).q, .int .i64 (atS (hp p X i) m).d, .int .i64 (atS (hp p X i) m).k, .int .i64 (atS (hp p X i) m).v] 67)).heap[gT]? = some (.cells #[.int .i64 p, .int .i64 (hp p X i).length, .int .i64 0, .int .u64 (mmI (hp p X i) m).1, .int .u64 (mmI (hp p X i) m).2] 65 (0, 0)) := ((Below.refl _ wr).alloc (Nat.le_refl _) _ |>.block _ (lt_of_block hTb)).trans hTb
            have hEa : (wr.alloc (.cells #[.int .u64 (atS (hp p X i) m).t, .int .i64 (atS (hp p X i) m).s, .int .u64 (atS (hp p X i) m).q, .int .i64 (atS (hp p X i) m).d, .int .i64 (atS (hp p X i) m).k, .int .i64 (atS (hp p X i) m).v] 67)).heap[wr.heap.size]? = some (.cells #[.int .u64 (atS (hp p X i) m).t, .int .i64 (atS (hp p X i) m).s, .int .u64 (atS (hp p X i) m).q, .int .i64 (atS (hp p X i) m).d, .int .i64 (atS (hp p X i) m).k, .int .i64 (atS (hp p X i) m).v] 67 (0, 0)) := World.alloc_heap_new wr _
            have HTA : Hid ((wr.alloc (.cells #[.int .u64 (atS (hp p X i) m).t, .int .i64 (atS (hp p X i) m).s, .int .u64 (atS (hp p X i) m).q, .int .i64 (atS (hp p X i) m).d, .int .i64 (atS (hp p X i) m).k, .int .i64 (atS (hp p X i) m).v] 67)).heap[gT]? = some (.cells #[.int .i64 p, .int .i64 (hp p X i).length, .int .i64 0, .int .u64 (mmI (hp p X i) m).1, .int .u64 (mmI (hp p X i) m).2] 65 (0, 0)) ∧ (wr.alloc (.cells #[.int .u64 (atS (hp p X i) m).t, .int .i64 (atS (hp p X i) m).s, .int .u64 (atS (hp p X i) m).q, .int .i64 (atS (hp p X i) m).d, .int .i64 (atS (hp p X i) m).k, .int .i64 (atS (hp p X i) m).v] 67)).heap[wr.heap.size]? = some (.cells #[.int .u64 (atS (hp p X i) m).t, .int .i64 (atS (hp p X i) m).s, .int .u64 (atS (hp p X i) m).q, .int .i64 (atS (hp p X i) m).d, .int .i64 (atS (hp p X i) m).k, .int .i64 (atS (hp p X i) m).v] 67 (0, 0)) ∧ gT < wr.heap.size) := ⟨hTa, hEa, lt_of_block hTb⟩
            obtain ⟨t0, t1, t2, t3, t4⟩ := cells5t hTa
            obtain ⟨y0, y1, y2, y3, y4, y5⟩ := cells6t hEa
            have z3 := frz hTa 3
            have z4 := frz hTa 4
            clear hTb hGr hTa hEa
            by_cases hz : m = 0
            · have dz : ((m : Int) == 0) = true := by simpa using hz
              have hmm : mmI (hp p X i) (m + 1) = ((atS (hp p X i) m).t, (atS (hp p X i) m).t) := by
                show (if _ then _ else _, if _ then _ else _) = _
                rw [if_pos (by omega), if_pos (by omega)]
              have HMM : Hid (mmI (hp p X i) (m + 1) = ((atS (hp p X i) m).t, (atS (hp p X i) m).t)) := hmm
              clear hmm hz
              go_upto_region 19 with fail
              obtain ⟨wS, hwS⟩ : ∃ wS, ((wr.alloc (.cells #[.int .u64 (atS (hp p X i) m).t, .int .i64 (atS (hp p X i) m).s, .int .u64 (atS (hp p X i) m).q, .int .i64 (atS (hp p X i) m).d, .int .i64 (atS (hp p X i) m).k, .int .i64 (atS (hp p X i) m).v] 67)).setCell ⟨gT, 3, none⟩ (.int .u64 (atS (hp p X i) m).t)) = wS := ⟨_, rfl⟩
              rw [hwS]
              have hSb : wS.heap[gT]? = some (.cells #[.int .i64 p, .int .i64 (hp p X i).length, .int .i64 0, .int .u64 (atS (hp p X i) m).t, .int .u64 (mmI (hp p X i) m).2] 65 (0, 0)) := by rw [← hwS]; exact set5_3 HTA.out.1 _
              have hSe : wS.heap[wr.heap.size]? = some (.cells #[.int .u64 (atS (hp p X i) m).t, .int .i64 (atS (hp p X i) m).s, .int .u64 (atS (hp p X i) m).q, .int .i64 (atS (hp p X i) m).d, .int .i64 (atS (hp p X i) m).k, .int .i64 (atS (hp p X i) m).v] 67 (0, 0)) := by rw [← hwS]; exact (Below.heap_setCell _ _ _ _ (by have := HTA.out.2.2; show wr.heap.size ≠ gT; omega)).trans HTA.out.2.1
              have hSg : wr.grownBy wS (some gT) := by rw [← hwS]; exact gr_trans (gr_alloc wr _ _) (gr_set _ _ _ _)
              have HSS : Hid (wS.heap[gT]? = some (.cells #[.int .i64 p, .int .i64 (hp p X i).length, .int .i64 0, .int .u64 (atS (hp p X i) m).t, .int .u64 (mmI (hp p X i) m).2] 65 (0, 0)) ∧ wr.grownBy wS (some gT)) := ⟨hSb, hSg⟩
              clear t0 t1 t2 t3 t4 z3 z4 y0 y1 y2 y3 y4 y5 hwS
              obtain ⟨t0, t1, t2, t3, t4⟩ := cells5t hSb
              obtain ⟨y0, y1, y2, y3, y4, y5⟩ := cells6t hSe
              have z4 := frz hSb 4
              clear hSb hSe hSg
              go_wp2
              refine ⟨⟨m + 1, rfl, hml, ?_, ?_⟩, hmem9⟩
              · rw [HMM.out]
                exact set5_4 HSS.out.1 _
              · exact gr_trans HV.out.2 (gr_trans HSS.out.2 (gr_set _ _ _ _))
            · by_cases h1 : (atS (hp p X i) m).t < (mmI (hp p X i) m).1 <;> by_cases h2 : (mmI (hp p X i) m).2 < (atS (hp p X i) m).t
              · have dz : ((m : Int) == 0) = false := by simp; omega
                have d1 : decide ((atS (hp p X i) m).t < (mmI (hp p X i) m).1) = true := by simpa using h1
                have d2 : decide ((mmI (hp p X i) m).2 < (atS (hp p X i) m).t) = true := by simpa using h2
                have hmm : mmI (hp p X i) (m + 1) = ((atS (hp p X i) m).t, (atS (hp p X i) m).t) := by
                  show (if _ then _ else _, if _ then _ else _) = _
                  rw [if_pos (by omega), if_pos (by omega)]
                have HMM : Hid (mmI (hp p X i) (m + 1) = ((atS (hp p X i) m).t, (atS (hp p X i) m).t)) := hmm
                clear hmm hz h1 h2
                go_upto_region 19 with fail
                obtain ⟨wS, hwS⟩ : ∃ wS, ((wr.alloc (.cells #[.int .u64 (atS (hp p X i) m).t, .int .i64 (atS (hp p X i) m).s, .int .u64 (atS (hp p X i) m).q, .int .i64 (atS (hp p X i) m).d, .int .i64 (atS (hp p X i) m).k, .int .i64 (atS (hp p X i) m).v] 67)).setCell ⟨gT, 3, none⟩ (.int .u64 (atS (hp p X i) m).t)) = wS := ⟨_, rfl⟩
                rw [hwS]
                have hSb : wS.heap[gT]? = some (.cells #[.int .i64 p, .int .i64 (hp p X i).length, .int .i64 0, .int .u64 (atS (hp p X i) m).t, .int .u64 (mmI (hp p X i) m).2] 65 (0, 0)) := by rw [← hwS]; exact set5_3 HTA.out.1 _
                have hSe : wS.heap[wr.heap.size]? = some (.cells #[.int .u64 (atS (hp p X i) m).t, .int .i64 (atS (hp p X i) m).s, .int .u64 (atS (hp p X i) m).q, .int .i64 (atS (hp p X i) m).d, .int .i64 (atS (hp p X i) m).k, .int .i64 (atS (hp p X i) m).v] 67 (0, 0)) := by rw [← hwS]; exact (Below.heap_setCell _ _ _ _ (by have := HTA.out.2.2; show wr.heap.size ≠ gT; omega)).trans HTA.out.2.1
                have hSg : wr.grownBy wS (some gT) := by rw [← hwS]; exact gr_trans (gr_alloc wr _ _) (gr_set _ _ _ _)
                have HSS : Hid (wS.heap[gT]? = some (.cells #[.int .i64 p, .int .i64 (hp p X i).length, .int .i64 0, .int .u64 (atS (hp p X i) m).t, .int .u64 (mmI (hp p X i) m).2] 65 (0, 0)) ∧ wr.grownBy wS (some gT)) := ⟨hSb, hSg⟩
                clear t0 t1 t2 t3 t4 z3 z4 y0 y1 y2 y3 y4 y5 hwS
                obtain ⟨t0, t1, t2, t3, t4⟩ := cells5t hSb
                obtain ⟨y0, y1, y2, y3, y4, y5⟩ := cells6t hSe
                have z4 := frz hSb 4
                clear hSb hSe hSg
                go_wp2
                refine ⟨⟨m + 1, rfl, hml, ?_, ?_⟩, hmem9⟩
                · rw [HMM.out]
                  exact set5_4 HSS.out.1 _
                · exact gr_trans HV.out.2 (gr_trans HSS.out.2 (gr_set _ _ _ _))
              · have dz : ((m : Int) == 0) = false := by simp; omega
                have d1 : decide ((atS (hp p X i) m).t < (mmI (hp p X i) m).1) = true := by simpa using h1
                have d2 : decide ((mmI (hp p X i) m).2 < (atS (hp p X i) m).t) = false := by simpa using h2
                have hmm : mmI (hp p X i) (m + 1) = ((atS (hp p X i) m).t, (mmI (hp p X i) m).2) := by
                  show (if _ then _ else _, if _ then _ else _) = _
                  rw [if_pos (by omega), if_neg (by omega)]
                have HMM : Hid (mmI (hp p X i) (m + 1) = ((atS (hp p X i) m).t, (mmI (hp p X i) m).2)) := hmm
                clear hmm hz h1 h2
                go_upto_region 19 with fail
                obtain ⟨wS, hwS⟩ : ∃ wS, ((wr.alloc (.cells #[.int .u64 (atS (hp p X i) m).t, .int .i64 (atS (hp p X i) m).s, .int .u64 (atS (hp p X i) m).q, .int .i64 (atS (hp p X i) m).d, .int .i64 (atS (hp p X i) m).k, .int .i64 (atS (hp p X i) m).v] 67)).setCell ⟨gT, 3, none⟩ (.int .u64 (atS (hp p X i) m).t)) = wS := ⟨_, rfl⟩
                rw [hwS]
                have hSb : wS.heap[gT]? = some (.cells #[.int .i64 p, .int .i64 (hp p X i).length, .int .i64 0, .int .u64 (atS (hp p X i) m).t, .int .u64 (mmI (hp p X i) m).2] 65 (0, 0)) := by rw [← hwS]; exact set5_3 HTA.out.1 _
                have hSe : wS.heap[wr.heap.size]? = some (.cells #[.int .u64 (atS (hp p X i) m).t, .int .i64 (atS (hp p X i) m).s, .int .u64 (atS (hp p X i) m).q, .int .i64 (atS (hp p X i) m).d, .int .i64 (atS (hp p X i) m).k, .int .i64 (atS (hp p X i) m).v] 67 (0, 0)) := by rw [← hwS]; exact (Below.heap_setCell _ _ _ _ (by have := HTA.out.2.2; show wr.heap.size ≠ gT; omega)).trans HTA.out.2.1
                have hSg : wr.grownBy wS (some gT) := by rw [← hwS]; exact gr_trans (gr_alloc wr _ _) (gr_set _ _ _ _)
                have HSS : Hid (wS.heap[gT]? = some (.cells #[.int .i64 p, .int .i64 (hp p X i).length, .int .i64 0, .int .u64 (atS (hp p X i) m).t, .int .u64 (mmI (hp p X i) m).2] 65 (0, 0)) ∧ wr.grownBy wS (some gT)) := ⟨hSb, hSg⟩
                clear t0 t1 t2 t3 t4 z3 z4 y0 y1 y2 y3 y4 y5 hwS
                obtain ⟨t0, t1, t2, t3, t4⟩ := cells5t hSb
                obtain ⟨y0, y1, y2, y3, y4, y5⟩ := cells6t hSe
                have z4 := frz hSb 4
                clear hSb hSe hSg
                go_wp2
                refine ⟨⟨m + 1, rfl, hml, ?_, ?_⟩, hmem9⟩
                · rw [HMM.out]
                  exact HSS.out.1
                · exact gr_trans HV.out.2 (HSS.out.2)
              · have dz : ((m : Int) == 0) = false := by simp; omega
                have d1 : decide ((atS (hp p X i) m).t < (mmI (hp p X i) m).1) = false := by simpa using h1
                have d2 : decide ((mmI (hp p X i) m).2 < (atS (hp p X i) m).t) = true := by simpa using h2
                have hmm : mmI (hp p X i) (m + 1) = ((mmI (hp p X i) m).1, (atS (hp p X i) m).t) := by
                  show (if _ then _ else _, if _ then _ else _) = _
                  rw [if_neg (by omega), if_pos (by omega)]
                have HMM : Hid (mmI (hp p X i) (m + 1) = ((mmI (hp p X i) m).1, (atS (hp p X i) m).t)) := hmm
                clear hmm hz h1 h2
                go_upto_region 19 with fail
                obtain ⟨wS, hwS⟩ : ∃ wS, (wr.alloc (.cells #[.int .u64 (atS (hp p X i) m).t, .int .i64 (atS (hp p X i) m).s, .int .u64 (atS (hp p X i) m).q, .int .i64 (atS (hp p X i) m).d, .int .i64 (atS (hp p X i) m).k, .int .i64 (atS (hp p X i) m).v] 67)) = wS := ⟨_, rfl⟩
                rw [hwS]
                have hSb : wS.heap[gT]? = some (.cells #[.int .i64 p, .int .i64 (hp p X i).length, .int .i64 0, .int .u64 (mmI (hp p X i) m).1, .int .u64 (mmI (hp p X i) m).2] 65 (0, 0)) := by rw [← hwS]; exact HTA.out.1
                have hSe : wS.heap[wr.heap.size]? = some (.cells #[.int .u64 (atS (hp p X i) m).t, .int .i64 (atS (hp p X i) m).s, .int .u64 (atS (hp p X i) m).q, .int .i64 (atS (hp p X i) m).d, .int .i64 (atS (hp p X i) m).k, .int .i64 (atS (hp p X i) m).v] 67 (0, 0)) := by rw [← hwS]; exact HTA.out.2.1
                have hSg : wr.grownBy wS (some gT) := by rw [← hwS]; exact gr_alloc wr _ _
                have HSS : Hid (wS.heap[gT]? = some (.cells #[.int .i64 p, .int .i64 (hp p X i).length, .int .i64 0, .int .u64 (mmI (hp p X i) m).1, .int .u64 (mmI (hp p X i) m).2] 65 (0, 0)) ∧ wr.grownBy wS (some gT)) := ⟨hSb, hSg⟩
                clear t0 t1 t2 t3 t4 z3 z4 y0 y1 y2 y3 y4 y5 hwS
                obtain ⟨t0, t1, t2, t3, t4⟩ := cells5t hSb
                obtain ⟨y0, y1, y2, y3, y4, y5⟩ := cells6t hSe
                have z4 := frz hSb 4
                clear hSb hSe hSg
                go_wp2
                refine ⟨⟨m + 1, rfl, hml, ?_, ?_⟩, hmem9⟩
                · rw [HMM.out]
                  exact set5_4 HSS.out.1 _
                · exact gr_trans HV.out.2 (gr_trans HSS.out.2 (gr_set _ _ _ _))
              · have dz : ((m : Int) == 0) = false := by simp; omega
                have d1 : decide ((atS (hp p X i) m).t < (mmI (hp p X i) m).1) = false := by simpa using h1
                have d2 : decide ((mmI (hp p X i) m).2 < (atS (hp p X i) m).t) = false := by simpa using h2
                have hmm : mmI (hp p X i) (m + 1) = ((mmI (hp p X i) m).1, (mmI (hp p X i) m).2) := by
                  show (if _ then _ else _, if _ then _ else _) = _
                  rw [if_neg (by omega), if_neg (by omega)]
                have HMM : Hid (mmI (hp p X i) (m + 1) = ((mmI (hp p X i) m).1, (mmI (hp p X i) m).2)) := hmm
                clear hmm hz h1 h2
                go_upto_region 19 with fail
                obtain ⟨wS, hwS⟩ : ∃ wS, (wr.alloc (.cells #[.int .u64 (atS (hp p X i) m).t, .int .i64 (atS (hp p X i) m).s, .int .u64 (atS (hp p X i) m).q, .int .i64 (atS (hp p X i) m).d, .int .i64 (atS (hp p X i) m).k, .int .i64 (atS (hp p X i) m).v] 67)) = wS := ⟨_, rfl⟩
                rw [hwS]
                have hSb : wS.heap[gT]? = some (.cells #[.int .i64 p, .int .i64 (hp p X i).length, .int .i64 0, .int .u64 (mmI (hp p X i) m).1, .int .u64 (mmI (hp p X i) m).2] 65 (0, 0)) := by rw [← hwS]; exact HTA.out.1
                have hSe : wS.heap[wr.heap.size]? = some (.cells #[.int .u64 (atS (hp p X i) m).t, .int .i64 (atS (hp p X i) m).s, .int .u64 (atS (hp p X i) m).q, .int .i64 (atS (hp p X i) m).d, .int .i64 (atS (hp p X i) m).k, .int .i64 (atS (hp p X i) m).v] 67 (0, 0)) := by rw [← hwS]; exact HTA.out.2.1
                have hSg : wr.grownBy wS (some gT) := by rw [← hwS]; exact gr_alloc wr _ _
                have HSS : Hid (wS.heap[gT]? = some (.cells #[.int .i64 p, .int .i64 (hp p X i).length, .int .i64 0, .int .u64 (mmI (hp p X i) m).1, .int .u64 (mmI (hp p X i) m).2] 65 (0, 0)) ∧ wr.grownBy wS (some gT)) := ⟨hSb, hSg⟩
                clear t0 t1 t2 t3 t4 z3 z4 y0 y1 y2 y3 y4 y5 hwS
                obtain ⟨t0, t1, t2, t3, t4⟩ := cells5t hSb
                obtain ⟨y0, y1, y2, y3, y4, y5⟩ := cells6t hSe
                have z4 := frz hSb 4
                clear hSb hSe hSg
                go_wp2
                refine ⟨⟨m + 1, rfl, hml, ?_, ?_⟩, hmem9⟩
                · rw [HMM.out]
                  exact HSS.out.1
                · exact gr_trans HV.out.2 (HSS.out.2)
          have dm : decide ((m : Int) < ((hp p X i).length : Int)) = false := decide_eq_false (by omega)
          have hmm9 : m = (hp p X i).length := by omega
          obtain ⟨f9, hf9⟩ : ∃ f9, (mmI (hp p X i) (hp p X i).length).1 = f9 := ⟨_, rfl⟩
          obtain ⟨l9, hl9⟩ : ∃ l9, (mmI (hp p X i) (hp p X i).length).2 = l9 := ⟨_, rfl⟩
          have hT3 : wr.heap[gT]? = some (.cells #[.int .i64 p, .int .i64 (hp p X i).length, .int .i64 0, .int .u64 f9, .int .u64 l9] 65 (0, 0)) := by rw [← hf9, ← hl9, ← hmm9, hTb, hmm9]
          have hGT : wT.grownBy wr (some gT) := gr_trans H2.out.2.1 hGr
          have hwKT : wb.heap.size ≤ gT := Nat.le_trans HL.out.2.2.2.size HTT.out.2.2.2.1
          have hgl : gT ≤ wT.heap.size := Nat.le_of_lt HTT.out.2.2.2.2
          have hbKT : Below wb.heap.size wb wT := HL.out.2.2.2.trans ((HR.out.2.trans (HTT.out.2.2.1.mono HR.out.2.size)).mono HL.out.2.2.2.size)
          have hbb : Below wb.heap.size wb wr := hbKT.trans (gr_below hGT hbKT.size hwKT)
          obtain ⟨-, -, -, -, -, -, -, c7⟩ := cells8k ((hbb.block _ HB.out.2.2).trans HB.out.2.1)
          have H3 : Hid (wr.heap[gT]? = some (.cells #[.int .i64 p, .int .i64 (hp p X i).length, .int .i64 0, .int .u64 f9, .int .u64 l9] 65 (0, 0)) ∧ wT.grownBy wr (some gT) ∧ Below wb.heap.size wb wr ∧ wb.heap.size ≤ gT ∧ gT < wT.heap.size ∧ (mmI (hp p X i) (hp p X i).length).1 = f9 ∧ (mmI (hp p X i) (hp p X i).length).2 = l9) := ⟨hT3, hGT, hbb, hwKT, HTT.out.2.2.2.2, hf9, hl9⟩
          clear hTb hGr hf9 hl9 hT3 hGT hwKT hgl hbKT hbb hmm9
          go_wp2
          clear c7
          obtain ⟨w3, rfl⟩ : ∃ w3, w3 = wr := ⟨_, rfl⟩
          go_loopw [85] (fun v wt => ∃ q : Nat, v = .int .i64 q ∧ q ≤ i ∧ wt.heap[gT]? = some (.cells #[.int .i64 p, .int .i64 (hp p X i).length, .int .i64 (tl X p q).s, .int .u64 f9, .int .u64 l9] 65 (0, 0)) ∧ w3.grownBy wt (some gT)) (fun v _ => i - (intOf v).toNat)
          case atStart => exact ⟨0, rfl, Nat.zero_le _, H3.out.1, grown_refl _ _⟩
          case round =>
            obtain ⟨q, rfl, hq, hTb, hGr⟩ := hrel
            have HV2 : Hid (wr.heap[gT]? = some (.cells #[.int .i64 p, .int .i64 (hp p X i).length, .int .i64 (tl X p q).s, .int .u64 f9, .int .u64 l9] 65 (0, 0)) ∧ w3.grownBy wr (some gT)) := ⟨hTb, hGr⟩
            have hbb2 : Below wb.heap.size wb wr := H3.out.2.2.1.trans (gr_below hGr H3.out.2.2.1.size H3.out.2.2.2.1)
            by_cases hql : q < i
            case pos =>
              have dq : decide ((q : Int) < (i : Int)) = true := decide_eq_true (by omega)
              have hmq := meas hql
              have q0 : (0 : Int) ≤ (q : Int) := by omega
              have q1 : (q : Int) < (i : Int) := by omega
              have eq9 : IntKind.i64.wrap ((q : Int) + 1) = (q : Int) + 1 := by rw [IntKind.wrap_i64]; omega
              obtain ⟨g1, o1, hx1, hg1, x0, x1, x2, x3, x4, x5⟩ := (HX.out.below (HB.out.1.trans (hbb2.mono HB.out.1.size))).at hql
              rw [hx1]
              have hsl := (tl_le X p q).2.1
              have es : IntKind.i64.wrap ((tl X p q).s + 1) = (tl X p q).s + 1 := by rw [IntKind.wrap_i64]; omega
              have hTa : (wr.alloc (.cells #[.int .u64 (X q).t, .int .i64 (X q).s, .int .u64 (X q).q, .int .i64 (X q).d, .int .i64 (X q).k, .int .i64 (X q).v] 67)).heap[gT]? = some (.cells #[.int .i64 p, .int .i64 (hp p X i).length, .int .i64 (tl X p q).s, .int .u64 f9, .int .u64 l9] 65 (0, 0)) := ((Below.refl _ wr).alloc (Nat.le_refl _) _ |>.block _ (lt_of_block hTb)).trans hTb
              obtain ⟨t0, t1, t2, t3, t4⟩ := cells5t hTa
              have z2 := frz hTa 2
              have HTA : Hid ((wr.alloc (.cells #[.int .u64 (X q).t, .int .i64 (X q).s, .int .u64 (X q).q, .int .i64 (X q).d, .int .i64 (X q).k, .int .i64 (X q).v] 67)).heap[gT]? = some (.cells #[.int .i64 p, .int .i64 (hp p X i).length, .int .i64 (tl X p q).s, .int .u64 f9, .int .u64 l9] 65 (0, 0))) := hTa
              clear hTb hGr hTa hbb2 hx1 hsl
              by_cases he : (X q).s = p
              · have d9 : ((X q).s == p) = true := by simpa using he
                have HE : Hid ((X q).s = p) := he
                clear he
                go_wp2
                refine ⟨⟨q + 1, rfl, hql, ?_, gr_trans HV2.out.2 (gr_trans (gr_alloc wr _ _) (gr_set _ _ _ _))⟩, hmq⟩
                rw [tl_sent, if_pos HE.out]
                exact set5_2 HTA.out _
              · have d9 : ((X q).s == p) = false := by simpa using he
                have HE : Hid ((X q).s ≠ p) := he
                clear he
                go_wp2
                refine ⟨⟨q + 1, rfl, hql, ?_, gr_trans HV2.out.2 (gr_alloc wr _ _)⟩, hmq⟩
                rw [tl_sent, if_neg HE.out]
                exact HTA.out
            have dq : decide ((q : Int) < (i : Int)) = false := decide_eq_false (by omega)
            obtain rfl : q = i := by omega
            obtain ⟨t0, t1, t2, t3, t4⟩ := cells5t hTb
            have hne : u6.ownBlock ≠ some gT := fun e => by have := (srow_lt HR.out.1 gT e).2; have := HTT.out.1; omega
            have hrw : wr.ownsRow wK.heap.size 65 5 u6 ((K.take j).map (fin X q)).length (((K.take j).map (fin X q)).flatMap tyL) := ((srow_later HR.out.1 HTT.out.2.2.1).kept H3.out.2.1 (.inr hne)).kept hGr (.inr hne)
            have hbK : Below wK.heap.size wK wr := by
              have h1 : Below wK.heap.size wK wT := HR.out.2.trans (HTT.out.2.2.1.mono HR.out.2.size)
              exact h1.trans (gr_below (gr_trans H3.out.2.1 hGr) h1.size HTT.out.2.2.2.1)
            have hfin : tyL (fin X q p) = [.int .i64 p, .int .i64 (hp p X q).length, .int .i64 (tl X p q).s, .int .u64 f9, .int .u64 l9] := by rw [fin_eq, H3.out.2.2.2.2.2.1, H3.out.2.2.2.2.2.2]; rfl
            have hml9 : ((K.take j).map (fin X q)).length = j := by rw [List.length_map, List.length_take]; omega
            have p1 : ((K.take j).map (fin X q)).length + 1 ≤ maxLen := by unfold maxLen; omega
            have p2 : (((K.take j).map (fin X q)).length + 1) * 40 ≤ 140737488355328 := by omega
            have HQ : Hid ((wr.alloc (.cells #[.int .i64 p, .int .i64 (hp p X q).length, .int .i64 (tl X p q).s, .int .u64 f9, .int .u64 l9] 65)).ownsRow wK.heap.size 65 5 u6 ((K.take j).map (fin X q)).length (((K.take j).map (fin X q)).flatMap tyL) ∧ (∀ z y, ([.int .i64 p, .int .i64 (hp p X q).length, .int .i64 (tl X p q).s, .int .u64 f9, .int .u64 l9] : List Value)[z]? = some y → (wr.alloc (.cells #[.int .i64 p, .int .i64 (hp p X q).length, .int .i64 (tl X p q).s, .int .u64 f9, .int .u64 l9] 65)).cell? ((⟨wr.heap.size, 0, none⟩ : Addr).add z) = some y) ∧ Below wK.heap.size wK (wr.alloc (.cells #[.int .i64 p, .int .i64 (hp p X q).length, .int .i64 (tl X p q).s, .int .u64 f9, .int .u64 l9] 65)) ∧ tyL (fin X q p) = [.int .i64 p, .int .i64 (hp p X q).length, .int .i64 (tl X p q).s, .int .u64 f9, .int .u64 l9]) :=
              ⟨World.ownsRow.alloc hrw _, scells_new wr [.int .i64 p, .int .i64 (hp p X q).length, .int .i64 (tl X p q).s, .int .u64 f9, .int .u64 l9] _, hbK.alloc hbK.size _, hfin⟩
            clear hTb hGr hbb2 hne hrw hbK hfin
            go_wp2_with (at_builtin; refine wpList_append_own_at _ rfl _ _ 62 rfl wK.heap.size 65 iT _ 5 40 Try.underlying62 hT1 hT2 hT3 hT4 rfl (by decide) _ _ _ rfl HQ.out.1 ⟨wr.heap.size, 0, none⟩ 1 1 [.int .i64 p, .int .i64 (hp p X q).length, .int .i64 (tl X p q).s, .int .u64 f9, .int .u64 l9] rfl rfl HQ.out.2.1 (by simp [Value.oneCell']) p1 p2 HQ.out.2.2.1.size ?_; intro v' w9 hown9 hgrow9 _ _)
            obtain ⟨b1, b2, b3, b4⟩ := HQ.out
            refine ⟨⟨j + 1, rfl, hjl, ?_, b3.grown hgrow9 b3.size (fun r' e => (srow_lt b1 r' e).1)⟩, hmj⟩
            have e2 := itA_some hjl
            rw [List.getElem?_eq_getElem hjl] at e2
            injection e2 with e2
            rw [List.take_succ_eq_append_getElem hjl, e2, HPP.out, List.map_append, List.length_append, List.flatMap_append]
            rw [← b4] at hown9
            simpa using hown9
      have dj : decide ((j : Int) < (K.length : Int)) = false := decide_eq_false (by omega)
      obtain rfl : j = K.length := by omega
      clear hrow hbt
      go_wp2
      go_ret
      have h9 : Below wb.heap.size wb wr := HL.out.2.2.2.trans (HR.out.2.mono HL.out.2.2.2.size)
      have h8 := HR.out.1
      rw [List.take_length] at h8
      exact ⟨_, K, rfl, HL.out.2.2.1, HL.out.2.1, hln, World.ownsRow.lower h8 (Nat.le_trans HB.out.1.size HL.out.2.2.2.size), HB.out.1.trans (h9.mono HB.out.1.size)⟩
end Go.Proofs.Ytomjnncgogkglaa
