import Derived.Test.YtomjnncgogkglaaTPT1a
namespace Go.Proofs.Ytomjnncgogkglaa
open Go.ChangeShapes Go.WideShapes Go.ChangeAt Go.RowKit
set_option linter.unusedVariables false
set_option linter.unusedSimpArgs false

set_option maxRecDepth 100000 in
set_option maxHeartbeats 4000000 in
theorem tallies_any (ak ac aa0 aa1 aa2 am : Int) (aq ax : Option Addr) (an acq anx acx : Nat) (X : Nat → Se) (hok : ∀ j, j < anx → SeOk (X j)) (hn : anx ≤ 1000000000000) (w : World) (hX : SIn w ax anx X) :
    Calls Try.prog 22 #[.agg #[.int .i64 ak, .int .i64 ac, .int .u64 aa0, .int .i64 aa1, .int .u64 aa2, .int .i64 am, .slice aq an acq, .slice ax anx acx]] w fun e w' => ∃ (v : Value) (M : List Ty), e = .returned v ∧ (∀ x, x ∈ M ↔ ∃ k, pr X k anx = true ∧ x = fin X anx k) ∧ M.Pairwise (fun x y => x.p < y.p) ∧ w'.ownsRow w.heap.size 65 5 v M.length (M.flatMap tyL) ∧ Below w.heap.size w w' := by
  obtain ⟨wb, hwb⟩ : ∃ wb, w.alloc (.cells #[.int .i64 ak, .int .i64 ac, .int .u64 aa0, .int .i64 aa1, .int .u64 aa2, .int .i64 am, .slice aq an acq, .slice ax anx acx] 29) = wb := ⟨_, rfl⟩
  have hb0 : Below w.heap.size w wb := by rw [← hwb]; exact (Below.refl _ w).alloc (Nat.le_refl _) _
  have hbx1 : wb.heap[w.heap.size]? = some (.cells #[.int .i64 ak, .int .i64 ac, .int .u64 aa0, .int .i64 aa1, .int .u64 aa2, .int .i64 am, .slice aq an acq, .slice ax anx acx] 29 (0, 0)) := by rw [← hwb]; exact World.alloc_heap_new w _
  have HW : Hid (w.alloc (.cells #[.int .i64 ak, .int .i64 ac, .int .u64 aa0, .int .i64 aa1, .int .u64 aa2, .int .i64 am, .slice aq an acq, .slice ax anx acx] 29) = wb) := hwb
  obtain ⟨wm, hwm⟩ : ∃ wm, wb.alloc (.map #[] 0) = wm := ⟨_, rfl⟩
  have hbm : Below wb.heap.size wb wm := by rw [← hwm]; exact (Below.refl _ wb).alloc (Nat.le_refl _) _
  have hM0 : wm.ownsMap Try.prog 3 tyR wb.heap.size 0 (.map []) := by rw [← hwm]; exact World.ownsMap_made _ _ _ _
  have HWM : Hid (wb.alloc (.map #[] 0) = wm) := hwm
  have hbw : Below w.heap.size w wm := hb0.trans (hbm.mono hb0.size)
  have HB : Hid (Below w.heap.size w wm) := hbw
  have HX : Hid (SIn w ax anx X) := hX
  have HOK : Hid (∀ j, j < anx → SeOk (X j)) := hok
  obtain ⟨-, -, -, -, -, -, -, c7⟩ := cells8k ((hbm.block _ (lt_of_block hbx1)).trans hbx1)
  obtain ⟨bm, hbm9⟩ : ∃ bm, w.heap.size + 1 = bm := ⟨_, rfl⟩
  have hbm' : wb.heap.size = bm := by rw [← hbm9, ← hwb]; simp
  have HBM : Hid (w.heap.size + 1 = bm ∧ wb.heap.size = bm ∧ bm ≤ wm.heap.size) := ⟨hbm9, hbm', by rw [← hwm, ← hbm']; simp⟩
  clear hbm9
  rw [hbm'] at hM0
  have HM0 : Hid (wm.ownsMap Try.prog 3 tyR bm 0 (.map [])) := hM0
  rw [← hwm, ← hwb] at c7
  clear hwb hX hb0 hbx1 hwm hbm hbw hbm' hM0 hok
  go_enter Try.func22, Try.ntmps22
  have hmk := fun W => run_makeMap (P := Try.prog) 84 W
  go_wp2_with (simp only [hmk])
  rw [HW.out, HWM.out, HBM.out.1]
  clear c7 hmk
  go_loopw [13] (fun v wt => ∃ (i : Nat) (D : DataW Unit), v = .int .i64 i ∧ i ≤ anx ∧ wt.ownsMap Try.prog 3 tyR bm (2 * i) D ∧ MT (fun k => tl X k i) (fun k => pr X k i) D ∧ Below bm wm wt) (fun v _ => anx - (intOf v).toNat)
  case atStart => exact ⟨0, .map [], rfl, Nat.zero_le _, HM0.out, MT.zero _, Below.refl _ _⟩
  case round =>
    obtain ⟨i, D, rfl, hi, hown, hmi, hbt⟩ := hrel
    by_cases hlt : i < anx
    case pos =>
      have dl : decide ((i : Int) < (anx : Int)) = true := decide_eq_true (by omega)
      have hme := meas hlt
      have i0 : (0 : Int) ≤ (i : Int) := by omega
      have i1 : (i : Int) < (anx : Int) := by omega
      have ei : IntKind.i64.wrap ((i : Int) + 1) = (i : Int) + 1 := by rw [IntKind.wrap_i64]; omega
      obtain ⟨g1, o1, hx1, hg1, x0, x1, x2, x3, x4, x5⟩ := (HX.out.below (HB.out.trans (hbt.mono (by have := HBM.out.1; omega)))).at hlt
      rw [hx1]
      have hok9 := HOK.out i hlt
      have hwd := wfI hok9.2.2.2.1
      have hws := wfI hok9.2.1
      have hkd := Maps.keyOf_int_mk (P := Try.prog) Try.underlying3 hwd
      have hks := Maps.keyOf_int_mk (P := Try.prog) Try.underlying3 hws
      have hle := tl_le X (X i).d i
      have hle2 := tl_le X (X i).s i
      have hle3 := tmid_le (tl X (X i).s i) (X i) (X i).s
      have hev : (wr.alloc (.cells #[.int .u64 (X i).t, .int .i64 (X i).s, .int .u64 (X i).q, .int .i64 (X i).d, .int .i64 (X i).k, .int .i64 (X i).v] 67)).drew.heap[wr.heap.size]? = some (.cells #[.int .u64 (X i).t, .int .i64 (X i).s, .int .u64 (X i).q, .int .i64 (X i).d, .int .i64 (X i).k, .int .i64 (X i).v] 67 (0, 0)) := World.alloc_heap_new wr _
      have HEV : Hid ((wr.alloc (.cells #[.int .u64 (X i).t, .int .i64 (X i).s, .int .u64 (X i).q, .int .i64 (X i).d, .int .i64 (X i).k, .int .i64 (X i).v] 67)).drew.heap[wr.heap.size]? = some (.cells #[.int .u64 (X i).t, .int .i64 (X i).s, .int .u64 (X i).q, .int .i64 (X i).d, .int .i64 (X i).k, .int .i64 (X i).v] 67 (0, 0)) ∧ wr.heap.size < (wr.alloc (.cells #[.int .u64 (X i).t, .int .i64 (X i).s, .int .u64 (X i).q, .int .i64 (X i).d, .int .i64 (X i).k, .int .i64 (X i).v] 67)).drew.heap.size ∧ bm < wr.heap.size) := ⟨hev, lt_of_block hev, hown.lt⟩
      have KK : ∀ W : World, W.heap[wr.heap.size]? = some (.cells #[.int .u64 (X i).t, .int .i64 (X i).s, .int .u64 (X i).q, .int .i64 (X i).d, .int .i64 (X i).k, .int .i64 (X i).v] 67 (0, 0)) → (W.cell? ⟨wr.heap.size, 0, none⟩ = some (.int .u64 (X i).t) ∧ W.cell? ⟨wr.heap.size, 1, none⟩ = some (.int .i64 (X i).s) ∧ W.cell? ⟨wr.heap.size, 3, none⟩ = some (.int .i64 (X i).d)) := fun W h => by
        refine ⟨?_, ?_, ?_⟩
        all_goals (unfold World.cell?; rw [h]; rfl)
      have hownA : (wr.alloc (.cells #[.int .u64 (X i).t, .int .i64 (X i).s, .int .u64 (X i).q, .int .i64 (X i).d, .int .i64 (X i).k, .int .i64 (X i).v] 67)).drew.ownsMap Try.prog 3 tyR bm (2 * i) D := (hown.alloc _).drew
      have hrunL := hmi.look hownA hwd
      have HH : Calls Try.prog 37 #[(.agg (tyL (tl X (X i).d i)).toArray), .int .u64 (X i).t] (wr.alloc (.cells #[.int .u64 (X i).t, .int .i64 (X i).s, .int .u64 (X i).q, .int .i64 (X i).d, .int .i64 (X i).k, .int .i64 (X i).v] 67)).drew _ := happened_any (tl X (X i).d i) (X i).t (by omega) (wr.alloc (.cells #[.int .u64 (X i).t, .int .i64 (X i).s, .int .u64 (X i).q, .int .i64 (X i).d, .int .i64 (X i).k, .int .i64 (X i).v] 67)).drew
      have KP0 := KK _ hev
      have H0 : Hid ((wr.alloc (.cells #[.int .u64 (X i).t, .int .i64 (X i).s, .int .u64 (X i).q, .int .i64 (X i).d, .int .i64 (X i).k, .int .i64 (X i).v] 67)).drew.ownsMap Try.prog 3 tyR bm (2 * i) D ∧ MT (fun k => tl X k i) (fun k => pr X k i) D ∧ Below bm wm wr) := ⟨hownA, hmi, hbt⟩
      have HLE : Hid ((0 ≤ (tl X (X i).s i).s ∧ (tl X (X i).s i).s ≤ i) ∧ (tmid (tl X (X i).s i) (X i) (X i).s).s = (tl X (X i).s i).s) := ⟨hle2.2.1, hle3.1⟩
      clear hown hmi hbt hownA hx1 hev hok9 hle hle2 hle3
      go_wp2
      go_region_held3 (fun w' => (w'.cell? ⟨wr.heap.size, 0, none⟩ = some (.int .u64 (X i).t) ∧ w'.cell? ⟨wr.heap.size, 1, none⟩ = some (.int .i64 (X i).s) ∧ w'.cell? ⟨wr.heap.size, 3, none⟩ = some (.int .i64 (X i).d))) (first | with_reducible exact KP0 | with_reducible exact KP1 | with_reducible exact KP2 | go_keep) (first | (go_at_call 37; (with_reducible refine HH.mono ?_); rintro e w1 ⟨rfl, hb1⟩; have he1 := (hb1.block _ HEV.out.2.1).trans HEV.out.1; have hlt1 := lt_of_block he1; have KP1 := KK w1 he1; obtain ⟨w2, hrunU, hown2, hg2⟩ := (H0.out.1.kept (grown_of hb1) (by simp)).update keyIT Try.underlying84 (show 2 * i < maxLen by unfold maxLen; omega) hkd (tyR_mk (htT (tl X (X i).d i) (X i).t)); have he2 : w2.heap[wr.heap.size]? = some (.cells #[.int .u64 (X i).t, .int .i64 (X i).s, .int .u64 (X i).q, .int .i64 (X i).d, .int .i64 (X i).k, .int .i64 (X i).v] 67 (0, 0)) := (hg2.block _ hlt1 (by have := HEV.out.2.2; intro e; injection e with e; omega)).trans he1; have KP2 := KK w2 he2; have H2 : Hid (w2.ownsMap Try.prog 3 tyR bm (2 * i + 1) (D.put (.int .i64 (X i).d) (tyD (htT (tl X (X i).d i) (X i).t))) ∧ w2.heap[wr.heap.size]? = some (.cells #[.int .u64 (X i).t, .int .i64 (X i).s, .int .u64 (X i).q, .int .i64 (X i).d, .int .i64 (X i).k, .int .i64 (X i).v] 67 (0, 0)) ∧ Below bm wm w2) := ⟨hown2, he2, (by have h5 := H0.out.2.2; have h6 := h5.size; have h7 := HBM.out.2.2; have h8 : Below bm wm w1 := ((h5.alloc (by omega) _).drew).trans (hb1.mono (by show bm ≤ (wr.alloc (.cells #[.int .u64 (X i).t, .int .i64 (X i).s, .int .u64 (X i).q, .int .i64 (X i).d, .int .i64 (X i).k, .int .i64 (X i).v] 67)).heap.size; rw [World.size_alloc]; omega)); exact h8.grown hg2 (Nat.le_trans h7 h8.size) (fun r e => by injection e with e; omega))⟩; clear hb1 he1 hlt1 hown2 hg2 he2))
      all_goals (
        have hmi2 : MT (fun k => tmid (tl X k i) (X i) k) (fun k => decide (k = (X i).d) || pr X k i) (D.put (.int .i64 (X i).d) (tyD (htT (tl X (X i).d i) (X i).t))) := H0.out.2.1.put (owns_isMap H0.out.1) (X i).d _ (tl_mid X i) (fun k => rfl)
        have hown2 : w2.drew.ownsMap Try.prog 3 tyR bm (2 * i + 1) (D.put (.int .i64 (X i).d) (tyD (htT (tl X (X i).d i) (X i).t))) := H2.out.1.drew
        have hrunL2 := hmi2.look hown2 hws
        have HS : Calls Try.prog 38 #[(.agg (tyL (tmid (tl X (X i).s i) (X i) (X i).s)).toArray)] w2.drew _ := sent_any (tmid (tl X (X i).s i) (X i) (X i).s) (by have := HLE.out; omega) w2.drew
        have hev2 : w2.drew.heap[wr.heap.size]? = some (.cells #[.int .u64 (X i).t, .int .i64 (X i).s, .int .u64 (X i).q, .int .i64 (X i).d, .int .i64 (X i).k, .int .i64 (X i).v] 67 (0, 0)) := H2.out.2.1
        have HEV2 : Hid (w2.drew.heap[wr.heap.size]? = some (.cells #[.int .u64 (X i).t, .int .i64 (X i).s, .int .u64 (X i).q, .int .i64 (X i).d, .int .i64 (X i).k, .int .i64 (X i).v] 67 (0, 0)) ∧ wr.heap.size < w2.drew.heap.size) := ⟨hev2, lt_of_block hev2⟩
        clear hrunL hrunU KP0 KP1 KP2
        have KP0 := KK _ hev2
        have HM2 : Hid (MT (fun k => tmid (tl X k i) (X i) k) (fun k => decide (k = (X i).d) || pr X k i) (D.put (.int .i64 (X i).d) (tyD (htT (tl X (X i).d i) (X i).t))) ∧ w2.drew.ownsMap Try.prog 3 tyR bm (2 * i + 1) (D.put (.int .i64 (X i).d) (tyD (htT (tl X (X i).d i) (X i).t)))) := ⟨hmi2, hown2⟩
        clear hmi2 hown2 hev2 HH
        go_wp2
        go_region_held3 (fun w' => (w'.cell? ⟨wr.heap.size, 0, none⟩ = some (.int .u64 (X i).t) ∧ w'.cell? ⟨wr.heap.size, 1, none⟩ = some (.int .i64 (X i).s) ∧ w'.cell? ⟨wr.heap.size, 3, none⟩ = some (.int .i64 (X i).d))) (first | with_reducible exact KP0 | with_reducible exact KP1 | with_reducible exact KP2 | go_keep) (first | (go_at_call 38; (with_reducible refine HS.mono ?_); rintro e w3 ⟨rfl, hb3⟩; have he3 := (hb3.block _ HEV2.out.2).trans HEV2.out.1; have hlt3 := lt_of_block he3; have KP1 := KK w3 he3; obtain ⟨w4, hrunU, hown4, hg4⟩ := (HM2.out.2.kept (grown_of hb3) (by simp)).update keyIT Try.underlying84 (show 2 * i + 1 < maxLen by unfold maxLen; omega) hks (tyR_mk (stT (tmid (tl X (X i).s i) (X i) (X i).s))); have he4 : w4.heap[wr.heap.size]? = some (.cells #[.int .u64 (X i).t, .int .i64 (X i).s, .int .u64 (X i).q, .int .i64 (X i).d, .int .i64 (X i).k, .int .i64 (X i).v] 67 (0, 0)) := (hg4.block _ hlt3 (by have := HEV.out.2.2; intro e; injection e with e; omega)).trans he3; have KP2 := KK w4 he4; have H4 : Hid (w4.ownsMap Try.prog 3 tyR bm (2 * i + 1 + 1) ((D.put (.int .i64 (X i).d) (tyD (htT (tl X (X i).d i) (X i).t))).put (.int .i64 (X i).s) (tyD (stT (tmid (tl X (X i).s i) (X i) (X i).s)))) ∧ Below bm wm w4) := ⟨hown4, (by have h5 := H2.out.2.2; have h6 := h5.size; have h7 := HBM.out.2.2; have h8 : Below bm wm w3 := (h5.drew).trans (hb3.mono (by show bm ≤ w2.heap.size; omega)); exact h8.grown hg4 (Nat.le_trans h7 h8.size) (fun r e => by injection e with e; omega))⟩; clear hb3 he3 hlt3 hown4 hg4 he4))
        all_goals (
          clear hrunL2 hrunU KP0 KP1 KP2
          go_wp2
          exact ⟨⟨i + 1, _, rfl, hlt, H4.out.1, HM2.out.1.put (owns_isMap HM2.out.2) (X i).s _ (tl_end X i) (fun k => rfl), H4.out.2⟩, hme⟩))
    have dl : decide ((i : Int) < (anx : Int)) = false := decide_eq_false (by omega)
    obtain rfl : i = anx := by omega
    obtain ⟨iB, hB1, hB2, hB3, hB4⟩ := sinfo infoTY
    have hsz9 := owns_size hown
    have HMI : Hid (MT (fun k => tl X k i) (fun k => pr X k i) D ∧ Below bm wm wr ∧ wr.ownsMap Try.prog 3 tyR bm (2 * i) D) := ⟨hmi, hbt, hown⟩
    clear hown hmi hbt
    go_wp2_with (at_range; refine wpList_range_own _ rfl _ 84 rfl 3 65 keyIT Try.underlying84 _ bm (2 * i) D rfl HMI.out.2.2 ?_; intro w0 hrg0 hg0 hs0; have HR0 : Hid (w0.ranges Try.prog 3 tyR bm wr.heap.size (2 * i) D (Maps.has D) (Maps.size D) ∧ wr.grownBy w0 none ∧ w0.heap.size = wr.heap.size + 1) := ⟨hrg0, hg0, hs0⟩; clear hrg0 hg0 hs0)
    go_frame
    obtain ⟨rI, hrI⟩ : ∃ rI, wr.heap.size = rI := ⟨_, rfl⟩
    rw [hrI] at HR0 ⊢
    have hbF : Below w.heap.size w wr := HB.out.trans (HMI.out.2.1.mono (by have := HBM.out.1; omega))
    have hbR : w.heap.size ≤ rI ∧ bm < rI := ⟨by rw [← hrI]; exact hbF.size, by rw [← hrI]; exact HMI.out.2.2.lt⟩
    have HRI : Hid (wr.heap.size = rI ∧ (w.heap.size ≤ rI ∧ bm < rI) ∧ Below w.heap.size w wr ∧ w.heap.size < bm) := ⟨hrI, hbR, hbF, by have := HBM.out.1; omega⟩
    clear hrI hbF hbR
    obtain ⟨wA, rfl⟩ : ∃ wA, wA = wr := ⟨_, rfl⟩
    go_loopw [6] (fun r wt => ∃ (L : List Int) (left : Lit → Bool) (cnt : Nat), wt.ranges Try.prog 3 tyR bm rI (2 * i) D left cnt ∧ wt.ownsRow (rI + 1) 65 5 r (L.map (fin X i)).length ((L.map (fin X i)).flatMap tyL) ∧ KL (fun k => pr X k i) L left ∧ L.length + cnt ≤ 2 * i ∧ Below w.heap.size w wt) (fun _ wt => wt.rangeLeft bm rI)
    case atStart => exact ⟨[], _, _, HR0.out.1, World.ownsRow_nil _ _ _ _, KL.start HMI.out.1, by simpa using hsz9, HRI.out.2.2.1.grown HR0.out.2.1 HRI.out.2.2.1.size (by simp)⟩
    case round =>
      obtain ⟨L, left, cnt, hrg, hrow, hjl, hcn, hbt⟩ := hrel
      have HL : Hid (wr.ranges Try.prog 3 tyR bm rI (2 * i) D left cnt ∧ wr.ownsRow (rI + 1) 65 5 u6 (L.map (fin X i)).length ((L.map (fin X i)).flatMap tyL) ∧ KL (fun k => pr X k i) L left ∧ L.length + cnt ≤ 2 * i ∧ Below w.heap.size w wr) := ⟨hrg, hrow, hjl, hcn, hbt⟩
      clear hrg hrow hjl hbt
      go_wp2_with (at_next; refine wpList_next_ranges _ rfl _ rfl 3 keyIT tyR (Value.int .i64) (fun x : Ty => .agg (tyL x).toArray) (fun key kl hkey => by obtain ⟨x, rfl, _⟩ := Maps.keyOf_int_inv Try.underlying3 hkey; exact ⟨x, rfl⟩) (fun v y hv => by obtain ⟨c, rfl, _⟩ := tyR_inv hv; exact ⟨c, rfl⟩) bm rI (2 * i) _ _ _ rfl HL.out.1 ?_ ?_)
      · intro hc0 hl0
        have hkk := HL.out.2.2.1.done hl0
        have HSO := sortT_any (L.map (fin X i)) u6 (rI + 1) wr HL.out.2.1 (by rw [List.length_map]; omega)
        have HE : Hid (∀ k, k ∈ L ↔ pr X k i = true) := hkk
        clear hc0 hl0 hkk hsz9 hcn
        go_wp2_with (go_at_call 39; (with_reducible refine HSO.mono ?_); rintro e w9 ⟨rfl, M, hp9, hs9, hr9, hg9⟩; have H9 : Hid (M.Perm (L.map (fin X i)) ∧ M.Pairwise (fun x y => ¬ y.p < x.p) ∧ w9.ownsRow (rI + 1) 65 5 u6 (L.map (fin X i)).length (M.flatMap tyL) ∧ wr.grownBy w9 u6.ownBlock) := ⟨hp9, hs9, hr9, hg9⟩; clear hp9 hs9 hr9 hg9)
        go_ret
        obtain ⟨a1, a2, a3, a4⟩ := H9.out
        have hsz := HL.out.2.2.2.2.size
        have hrI := HRI.out.2.1.1
        refine ⟨u6, M, rfl, fun x => ?_, ?_, by rw [a1.length_eq]; exact World.ownsRow.lower a3 (by omega), HL.out.2.2.2.2.grown a4 hsz (fun r' e => by have := (srow_lt HL.out.2.1 r' e).1; omega)⟩
        · rw [a1.mem_iff, List.mem_map]
          constructor
          · rintro ⟨k, hk, rfl⟩; exact ⟨k, (HE.out k).1 hk, rfl⟩
          · rintro ⟨k, hk, rfl⟩; exact ⟨k, (HE.out k).2 hk, rfl⟩
        · have hnd : (L.map (fin X i)).Pairwise (fun x y => x.p ≠ y.p) := List.pairwise_map.2 HL.out.2.2.1.nd
          have hnd2 := (a1.symm.pairwise_iff (fun {x y} h => fun e => h e.symm)).1 hnd
          refine (List.pairwise_and_iff.2 ⟨a2, hnd2⟩).imp fun {x y} h => ?_
          have h1 : x.p ≤ y.p := by have := h.1; omega
          have h2 : x.p ≠ y.p := h.2
          omega
      · intro x c kl y1 y2 w1 cnt1 hkey hlx hv hat hrg1 hlt1 hg1 hs1 hen
        obtain ⟨x', ex, ekl, hwx⟩ := Maps.keyOf_int_inv Try.underlying3 hkey
        cases ex
        subst ekl
        obtain ⟨c', ec, ey⟩ := tyR_inv hv
        obtain rfl : c = c' := by
          have : tyD c = tyD c' := by
            have h9 := tyR_mk c
            rw [ec, tyR_mk c'] at h9
            injection h9 with h9
            injection h9 with h9
            exact h9.symm
          exact tyD_inj this
        injection ey with ey1 ey2
        obtain ⟨hc9, hp9⟩ := KL.pos HMI.out.1 (fun zd => (hat zd).trans ey1)
        subst hc9
        have hp0 := (tl_le X x i).2.2
        have hcn1 : L.length + 1 + cnt1 ≤ 2 * i := by omega
        have hml : (L.map (fin X i)).length = L.length := List.length_map ..
        have p1 : (L.map (fin X i)).length + 1 ≤ maxLen := by unfold maxLen; omega
        have p2 : ((L.map (fin X i)).length + 1) * 40 ≤ 140737488355328 := by omega
        have hne : some rI ≠ u6.ownBlock := fun e => by have := (srow_lt HL.out.2.1 rI e.symm).1; omega
        have hrow1 : w1.ownsRow (rI + 1) 65 5 u6 (L.map (fin X i)).length ((L.map (fin X i)).flatMap tyL) := HL.out.2.1.kept hg1 (.inr hne.symm)
        have hb1 : Below w.heap.size w w1 := HL.out.2.2.2.2.grown hg1 HL.out.2.2.2.2.size (fun r' e => by injection e with e; have := HRI.out.2.1.1; omega)
        have e9 : (tyL (tl X x i)).toArray = #[.int .i64 (tl X x i).p, .int .i64 (tl X x i).e, .int .i64 (tl X x i).s, .int .u64 (tl X x i).f, .int .u64 (tl X x i).l] := rfl
        rw [e9] at hen ⊢
        have HQ : Hid (((w1.alloc (.cells #[.int .i64 x, .int .i64 (tl X x i).e, .int .i64 (tl X x i).s, .int .u64 (tl X x i).f, .int .u64 (tl X x i).l] 65)).alloc (.cells #[.int .i64 x, .int .i64 (tl X x i).e, .int .i64 (tl X x i).s, .int .u64 (tl X x i).f, .int .u64 (tl X x i).l] 65)).ownsRow (rI + 1) 65 5 u6 (L.map (fin X i)).length ((L.map (fin X i)).flatMap tyL) ∧ (∀ j y, (tyL (fin X i x))[j]? = some y → ((w1.alloc (.cells #[.int .i64 x, .int .i64 (tl X x i).e, .int .i64 (tl X x i).s, .int .u64 (tl X x i).f, .int .u64 (tl X x i).l] 65)).alloc (.cells #[.int .i64 x, .int .i64 (tl X x i).e, .int .i64 (tl X x i).s, .int .u64 (tl X x i).f, .int .u64 (tl X x i).l] 65)).cell? ((⟨w1.heap.size + 1, 0, none⟩ : Addr).add j) = some y) ∧ Below w.heap.size w ((w1.alloc (.cells #[.int .i64 x, .int .i64 (tl X x i).e, .int .i64 (tl X x i).s, .int .u64 (tl X x i).f, .int .u64 (tl X x i).l] 65)).alloc (.cells #[.int .i64 x, .int .i64 (tl X x i).e, .int .i64 (tl X x i).s, .int .u64 (tl X x i).f, .int .u64 (tl X x i).l] 65)) ∧ rI + 1 ≤ ((w1.alloc (.cells #[.int .i64 x, .int .i64 (tl X x i).e, .int .i64 (tl X x i).s, .int .u64 (tl X x i).f, .int .u64 (tl X x i).l] 65)).alloc (.cells #[.int .i64 x, .int .i64 (tl X x i).e, .int .i64 (tl X x i).s, .int .u64 (tl X x i).f, .int .u64 (tl X x i).l] 65)).heap.size) :=
          ⟨World.ownsRow.alloc (World.ownsRow.alloc hrow1 _) _, (by have h9 := scells_new (w1.alloc (.cells #[.int .i64 x, .int .i64 (tl X x i).e, .int .i64 (tl X x i).s, .int .u64 (tl X x i).f, .int .u64 (tl X x i).l] 65)) (tyL (fin X i x)) 65; rwa [World.size_alloc] at h9), (hb1.alloc hb1.size _).alloc (by rw [World.size_alloc]; exact Nat.le_succ_of_le hb1.size) _, by rw [World.size_alloc, World.size_alloc]; have := hrg1.lt; omega⟩
        have HT : Hid (w1.ranges Try.prog 3 tyR bm rI (2 * i) D (fun z => left z && !z.sameKey (.int .i64 x)) cnt1 ∧ left (.int .i64 x) = true ∧ pr X x i = true ∧ cnt1 < cnt) := ⟨hrg1, hlx, hp9, hlt1⟩
        clear hwx hlx hat hrg1 hlt1 hg1 hp9 hne hrow1 hb1 hsz9 hcn hs1 hkey hv ec ey1 ey2 e9 hp0
        go_wp2_with (at_builtin; refine wpList_append_own_at _ rfl _ _ 62 rfl (rI + 1) 65 iB _ 5 40 Try.underlying62 hB1 hB2 hB3 hB4 rfl (by decide) _ _ _ rfl HQ.out.1 ⟨w1.heap.size + 1, 0, none⟩ 1 1 (tyL (fin X i x)) rfl rfl HQ.out.2.1 (by simp [tyL, Value.oneCell']) p1 p2 HQ.out.2.2.2 ?_; intro v' w9 hown9 hgrow9 _ hnb9)
        obtain ⟨b1, b2, b3, b4⟩ := HQ.out
        obtain ⟨t1, t2, t3, t4⟩ := HT.out
        have hlt := HRI.out.2.1
        have hne1 : ∀ z, z ≤ rI → some z ≠ u6.ownBlock := fun z hz e => by have := (srow_lt b1 z e.symm).1; omega
        have t5 : w9.ranges Try.prog 3 tyR bm rI (2 * i) D (fun z => left z && !z.sameKey (.int .i64 x)) cnt1 := ((t1.alloc _).alloc _).kept hgrow9 (hne1 bm (by omega)) (hne1 rI (Nat.le_refl _))
        refine ⟨⟨L ++ [x], _, cnt1, t5, ?_, HL.out.2.2.1.step t2 t3, by rw [List.length_append]; simpa using hcn1, b3.grown hgrow9 b3.size (fun r' e => by have := (srow_lt b1 r' e).1; omega)⟩, ?_⟩
        · rw [List.map_append, List.length_append, List.flatMap_append]
          simpa using hown9
        · show w9.rangeLeft bm rI < wr.rangeLeft bm rI
          rw [t5.left_eq, HL.out.1.left_eq]
          exact t4
end Go.Proofs.Ytomjnncgogkglaa
