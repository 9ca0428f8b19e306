import Derived.Test.YtomjnncgogkglaaTPHb
import Derived.Test.YtomjnncgogkglaaTPS
namespace Go.Proofs.Ytomjnncgogkglaa
open Go.ChangeShapes Go.WideShapes Go.ChangeAt Go.RowKit
set_option linter.unusedVariables false
set_option linter.unusedSimpArgs false

set_option maxRecDepth 100000 in
set_option maxHeartbeats 4000000 in
theorem hist_any (ak ac aa0 aa1 aa2 am : Int) (aq ax : Option Addr) (an acq anx acx : Nat) (X : Nat → Se) (wd : Int) (hwd : 0 < wd ∧ wd < 18446744073709551616) (hok : ∀ j, j < anx → SeOk (X j)) (hn : anx ≤ 2932031007402) (w : World) (hX : SIn w ax anx X) :
    Calls Try.prog 20 #[.agg #[.int .i64 ak, .int .i64 ac, .int .u64 aa0, .int .i64 aa1, .int .u64 aa2, .int .i64 am, .slice aq an acq, .slice ax anx acx], .int .u64 wd] w fun e w' => ∃ (v : Value) (M : List (Int × Int)), e = .returned (.tuple #[v, .int .i64 0]) ∧ HM (bkt wd X) anx M ∧ M.Pairwise (fun x y => x.1 < y.1) ∧ w'.ownsRow w.heap.size 60 2 v M.length (M.flatMap bkL) ∧ Below w.heap.size w w' := by
  obtain ⟨wb, hwb⟩ : ∃ wb, w.alloc (.cells #[.int .i64 ak, .int .i64 ac, .int .u64 aa0, .int .i64 aa1, .int .u64 aa2, .int .i64 am, .slice aq an acq, .slice ax anx acx] 29) = wb := ⟨_, rfl⟩
  have hb0 : Below w.heap.size w wb := by rw [← hwb]; exact (Below.refl _ w).alloc (Nat.le_refl _) _
  have hbx1 : wb.heap[w.heap.size]? = some (.cells #[.int .i64 ak, .int .i64 ac, .int .u64 aa0, .int .i64 aa1, .int .u64 aa2, .int .i64 am, .slice aq an acq, .slice ax anx acx] 29 (0, 0)) := by rw [← hwb]; exact World.alloc_heap_new w _
  have HW : Hid (w.alloc (.cells #[.int .i64 ak, .int .i64 ac, .int .u64 aa0, .int .i64 aa1, .int .u64 aa2, .int .i64 am, .slice aq an acq, .slice ax anx acx] 29) = wb) := hwb
  obtain ⟨wm, hwm⟩ : ∃ wm, wb.alloc (.map #[] 0) = wm := ⟨_, rfl⟩
  have hbm : Below wb.heap.size wb wm := by rw [← hwm]; exact (Below.refl _ wb).alloc (Nat.le_refl _) _
  have hM0 : wm.ownsMap (H := Unit) Try.prog 23 (plainElem Try.prog 3) wb.heap.size 0 (.map []) := by rw [← hwm]; exact World.ownsMap_made _ _ _ _
  have HWM : Hid (wb.alloc (.map #[] 0) = wm) := hwm
  have hbw : Below w.heap.size w wm := hb0.trans (hbm.mono hb0.size)
  have HB : Hid (Below w.heap.size w wm) := hbw
  have HX : Hid (SIn w ax anx X) := hX
  have HOK : Hid (∀ j, j < anx → SeOk (X j)) := hok
  obtain ⟨-, -, -, -, -, -, -, c7⟩ := cells8k ((hbm.block _ (lt_of_block hbx1)).trans hbx1)
  obtain ⟨bm, hbm9⟩ : ∃ bm, w.heap.size + 1 = bm := ⟨_, rfl⟩
  have hbm' : wb.heap.size = bm := by rw [← hbm9, ← hwb]; simp
  have HBM : Hid (w.heap.size + 1 = bm ∧ wb.heap.size = bm) := ⟨hbm9, hbm'⟩
  clear hbm9
  rw [hbm'] at hM0
  have HM0 : Hid (wm.ownsMap (H := Unit) Try.prog 23 (plainElem Try.prog 3) bm 0 (.map [])) := hM0
  rw [← hwm, ← hwb] at c7
  have d0 : (wd == 0) = false := by simp; omega
  clear hwb hX hb0 hbx1 hwm hbm hbw hbm' hM0 hok
  go_enter Try.func20, Try.ntmps20
  have hmk := fun W => run_makeMap (P := Try.prog) 80 W
  go_wp2_with (simp only [hmk])
  rw [HW.out, HWM.out, HBM.out.1]
  clear c7 d0 hmk
  go_loopw [18] (fun v wt => ∃ (i : Nat) (D : DataW Unit), v = .int .i64 i ∧ i ≤ anx ∧ wt.ownsMap Try.prog 23 (plainElem Try.prog 3) bm i D ∧ MI Unit .u64 (bkt wd X) i D ∧ Below bm wm wt) (fun v _ => anx - (intOf v).toNat)
  case atStart => exact ⟨0, .map [], rfl, Nat.zero_le _, HM0.out, MI.zero _ _ _, Below.refl _ _⟩
  case round =>
    obtain ⟨i, D, rfl, hi, hown, hmi, hbt⟩ := hrel
    by_cases hlt : i < anx
    case pos =>
      have dl : decide ((i : Int) < (anx : Int)) = true := decide_eq_true (by omega)
      have hme := meas hlt
      have i0 : (0 : Int) ≤ (i : Int) := by omega
      have i1 : (i : Int) < (anx : Int) := by omega
      have ei : IntKind.i64.wrap ((i : Int) + 1) = (i : Int) + 1 := by rw [IntKind.wrap_i64]; omega
      obtain ⟨g1, o1, hx1, hg1, x0, x1, x2, x3, x4, x5⟩ := (HX.out.below (HB.out.trans (hbt.mono (by have := HBM.out.1; omega)))).at hlt
      rw [hx1]
      have hr := bkt_rng hwd.1 (HOK.out i hlt)
      have hkey := Maps.keyOf_int_mk (P := Try.prog) Try.underlying23 (wfU hr)
      have hownA : (wr.alloc (.cells #[.int .u64 (X i).t, .int .i64 (X i).s, .int .u64 (X i).q, .int .i64 (X i).d, .int .i64 (X i).k, .int .i64 (X i).v] 67)).drew.ownsMap Try.prog 23 (plainElem Try.prog 3) bm i D := (hown.alloc _).drew
      obtain ⟨c, hrunL, hat, hwc⟩ := hownA.lookup_int keyU Try.underlying80 Try.underlying3 (zeroI _) hkey
      obtain rfl : c = (kc (bkt wd X) (bkt wd X i) i : Int) := by
        rw [hmi.val] at hat
        injection hat with hat
        injection hat with _ hat
        exact hat.symm
      have hkl := kc_le (bkt wd X) (bkt wd X i) i
      have ec : IntKind.i64.wrap ((kc (bkt wd X) (bkt wd X i) i : Int) + 1) = (kc (bkt wd X) (bkt wd X i) i : Int) + 1 := by rw [IntKind.wrap_i64]; omega
      obtain ⟨w9, hrunU, hown9, hgrow9⟩ := hownA.update keyU Try.underlying80 (show i < maxLen by unfold maxLen; omega) hkey (plainElem_int (H := Unit) Try.underlying3 (wfI (k := (kc (bkt wd X) (bkt wd X i) i : Int) + 1) (by omega)))
      have HR : Hid (w9.ownsMap Try.prog 23 (plainElem Try.prog 3) bm (i + 1) (D.put (.int .u64 (bkt wd X i)) (.lit (.int .i64 ((kc (bkt wd X) (bkt wd X i) i : Int) + 1)))) ∧ (wr.alloc (.cells #[.int .u64 (X i).t, .int .i64 (X i).s, .int .u64 (X i).q, .int .i64 (X i).d, .int .i64 (X i).k, .int .i64 (X i).v] 67)).drew.grownBy w9 (some bm) ∧ MI Unit .u64 (bkt wd X) i D ∧ wr.ownsMap Try.prog 23 (plainElem Try.prog 3) bm i D ∧ Below bm wm wr) := ⟨hown9, hgrow9, hmi, hown, hbt⟩
      have hx9 := HOK.out i hlt
      have er : (X i).t.tmod wd = (X i).t % wd := Int.tmod_eq_emod_of_nonneg hx9.1.1
      have eb : bkt wd X i = (X i).t - (X i).t % wd := rfl
      have hw0 : (wd == 0) = false := by simp; omega
      have er9 := Int.emod_nonneg (X i).t (show wd ≠ 0 by omega)
      have er8 := Int.emod_lt_of_pos (X i).t hwd.1
      have wr1 : IntKind.u64.wrap ((X i).t % wd) = (X i).t % wd := by rw [IntKind.wrap_u64]; omega
      have wr2 : IntKind.u64.wrap ((X i).t - (X i).t % wd) = bkt wd X i := by rw [IntKind.wrap_u64]; omega
      generalize hB : bkt wd X i = B at *
      generalize hC : (kc (bkt wd X) B i : Int) = C at *
      have HBC : Hid (bkt wd X i = B ∧ (kc (bkt wd X) B i : Int) = C) := ⟨hB, hC⟩
      clear hB hC hown hmi hbt hownA hat hwc hown9 hgrow9 hkey hx9 eb hr er9 er8 hx1
      go_wp2
      go_region
      go_wp2
      obtain ⟨r1, r2, r3, r4, r5⟩ := HR.out
      refine ⟨⟨i + 1, _, rfl, hlt, r1, ?_, ?_⟩, hme⟩
      · have := r3.step (owns_isMap r4)
        rw [← HBC.out.2, ← HBC.out.1]
        exact this
      · have h9 := HBM.out.2
        have h8 : bm ≤ wm.heap.size := by rw [← HWM.out]; simp; omega
        have h7 := r5.size
        exact ((r5.alloc (by omega) _).drew).grown r2 (by show bm ≤ (wr.alloc (.cells #[.int .u64 (X i).t, .int .i64 (X i).s, .int .u64 (X i).q, .int .i64 (X i).d, .int .i64 (X i).k, .int .i64 (X i).v] 67)).heap.size; rw [World.size_alloc]; omega) (fun r e => by injection e with e; omega)
    have dl : decide ((i : Int) < (anx : Int)) = false := decide_eq_false (by omega)
    obtain rfl : i = anx := by omega
    obtain ⟨iB, hB1, hB2, hB3, hB4⟩ := sinfo infoBK
    have hsz9 := owns_size hown
    have HMI : Hid (MI Unit .u64 (bkt wd X) i D ∧ Below bm wm wr ∧ wr.ownsMap Try.prog 23 (plainElem Try.prog 3) bm i D) := ⟨hmi, hbt, hown⟩
    clear hown hmi hbt
    go_wp2_with (at_range; refine wpList_range_own _ rfl _ 80 rfl 23 3 keyU Try.underlying80 _ bm i D rfl HMI.out.2.2 ?_; intro w0 hrg0 hg0 hs0; have HR0 : Hid (w0.ranges Try.prog 23 (plainElem Try.prog 3) bm wr.heap.size i D (Maps.has D) (Maps.size D) ∧ wr.grownBy w0 none ∧ w0.heap.size = wr.heap.size + 1) := ⟨hrg0, hg0, hs0⟩; clear hrg0 hg0 hs0)
    go_frame
    obtain ⟨rI, hrI⟩ : ∃ rI, wr.heap.size = rI := ⟨_, rfl⟩
    rw [hrI] at HR0 ⊢
    have hbF : Below w.heap.size w wr := HB.out.trans (HMI.out.2.1.mono (by have := HBM.out.1; omega))
    have hbR : w.heap.size ≤ rI ∧ bm < rI := ⟨by rw [← hrI]; exact hbF.size, by rw [← hrI]; exact HMI.out.2.2.lt⟩
    have HRI : Hid (wr.heap.size = rI ∧ (w.heap.size ≤ rI ∧ bm < rI) ∧ Below w.heap.size w wr ∧ w.heap.size < bm) := ⟨hrI, hbR, hbF, by have := HBM.out.1; omega⟩
    clear hrI hbF hbR
    obtain ⟨wA, rfl⟩ : ∃ wA, wA = wr := ⟨_, rfl⟩
    go_loopw [9] (fun r wt => ∃ (L : List (Int × Int)) (left : Lit → Bool) (cnt : Nat), wt.ranges Try.prog 23 (plainElem Try.prog 3) bm rI i D left cnt ∧ wt.ownsRow (rI + 1) 60 2 r L.length (L.flatMap bkL) ∧ JL .u64 (bkt wd X) i L left ∧ L.length + cnt ≤ i ∧ Below w.heap.size w wt) (fun _ wt => wt.rangeLeft bm rI)
    case atStart => exact ⟨[], _, _, HR0.out.1, World.ownsRow_nil _ _ _ _, JL.start HMI.out.1, by simpa using hsz9, HRI.out.2.2.1.grown HR0.out.2.1 HRI.out.2.2.1.size (by simp)⟩
    case round =>
      obtain ⟨L, left, cnt, hrg, hrow, hjl, hcn, hbt⟩ := hrel
      have HL : Hid (wr.ranges Try.prog 23 (plainElem Try.prog 3) bm rI i D left cnt ∧ wr.ownsRow (rI + 1) 60 2 u9 L.length (L.flatMap bkL) ∧ JL .u64 (bkt wd X) i L left ∧ L.length + cnt ≤ i ∧ Below w.heap.size w wr) := ⟨hrg, hrow, hjl, hcn, hbt⟩
      clear hrg hrow hjl hbt
      go_wp2_with (at_next; refine wpList_next_ranges_ii _ rfl _ rfl 23 3 .u64 .i64 keyU Try.underlying23 Try.underlying3 bm rI i _ _ _ rfl HL.out.1 ?_ ?_)
      · intro hc0 hl0
        have hhm : HM (bkt wd X) i L := HL.out.2.2.1.done hl0
        have hlen : L.length ≤ 2932031007402 := by omega
        have HSO := sortB_any L u9 (rI + 1) wr HL.out.2.1 hlen
        have HE : Hid (HM (bkt wd X) i L) := hhm
        clear hc0 hl0 hhm hsz9 hcn
        go_wp2_with (go_at_call 34; (with_reducible refine HSO.mono ?_); rintro e w9 ⟨rfl, M, hp9, hs9, hr9, hg9⟩; have H9 : Hid (M.Perm L ∧ M.Pairwise (fun x y => ¬ y.1 < x.1) ∧ w9.ownsRow (rI + 1) 60 2 u9 L.length (M.flatMap bkL) ∧ wr.grownBy w9 u9.ownBlock) := ⟨hp9, hs9, hr9, hg9⟩; clear hp9 hs9 hr9 hg9)
        go_ret2
        obtain ⟨a1, a2, a3, a4⟩ := H9.out
        have hm := HE.out.perm a1.symm
        have hsz := HL.out.2.2.2.2.size
        have hrI := HRI.out.2.1.1
        refine ⟨u9, M, rfl, hm, ?_, by rw [a1.length_eq]; exact World.ownsRow.lower a3 (by omega), HL.out.2.2.2.2.grown a4 hsz (fun r' e => by have := (srow_lt HL.out.2.1 r' e).1; omega)⟩
        refine (List.pairwise_and_iff.2 ⟨a2, hm.nd⟩).imp fun {x y} h => ?_
        have := h.1
        have := h.2
        omega
      · intro x c w1 cnt1 hwx hwc hlx hat hrg1 hlt1 hg1 hs1 hen
        obtain ⟨hc9, hp9⟩ := JL.pos HMI.out.1 hat
        subst hc9
        have hcn1 : L.length + 1 + cnt1 ≤ i := by omega
        have p1 : L.length + 1 ≤ maxLen := by unfold maxLen; omega
        have p2 : (L.length + 1) * 16 ≤ 140737488355328 := by omega
        have hne : some rI ≠ u9.ownBlock := fun e => by have := (srow_lt HL.out.2.1 rI e.symm).1; omega
        have hrow1 : w1.ownsRow (rI + 1) 60 2 u9 L.length (L.flatMap bkL) := HL.out.2.1.kept hg1 (.inr hne.symm)
        have hb1 : Below w.heap.size w w1 := HL.out.2.2.2.2.grown hg1 HL.out.2.2.2.2.size (fun r' e => by injection e with e; have := HRI.out.2.1.1; omega)
        have HQ : Hid ((w1.alloc (.cells #[.int .u64 x, .int .i64 (kc (bkt wd X) x i)] 60)).ownsRow (rI + 1) 60 2 u9 L.length (L.flatMap bkL) ∧ (∀ j y, (bkL (x, (kc (bkt wd X) x i : Int)))[j]? = some y → (w1.alloc (.cells #[.int .u64 x, .int .i64 (kc (bkt wd X) x i)] 60)).cell? ((⟨w1.heap.size, 0, none⟩ : Addr).add j) = some y) ∧ Below w.heap.size w (w1.alloc (.cells #[.int .u64 x, .int .i64 (kc (bkt wd X) x i)] 60)) ∧ rI + 1 ≤ (w1.alloc (.cells #[.int .u64 x, .int .i64 (kc (bkt wd X) x i)] 60)).heap.size) :=
          ⟨World.ownsRow.alloc hrow1 _, scells_new w1 (bkL (x, (kc (bkt wd X) x i : Int))) _, hb1.alloc hb1.size _, by rw [World.size_alloc]; have := hrg1.lt; omega⟩
        have HT : Hid (w1.ranges Try.prog 23 (plainElem Try.prog 3) bm rI i D (fun z => left z && !z.sameKey (.int .u64 x)) cnt1 ∧ left (.int .u64 x) = true ∧ 0 < kc (bkt wd X) x i ∧ cnt1 < cnt) := ⟨hrg1, hlx, hp9, hlt1⟩
        clear hwx hwc hlx hat hrg1 hlt1 hg1 hp9 hne hrow1 hb1 hsz9 hcn hs1
        go_wp2_with (at_builtin; refine wpList_append_own_at _ rfl _ _ 54 rfl (rI + 1) 60 iB _ 2 16 Try.underlying54 hB1 hB2 hB3 hB4 rfl (by decide) _ _ _ rfl HQ.out.1 ⟨w1.heap.size, 0, none⟩ 1 1 (bkL (x, (kc (bkt wd X) x i : Int))) rfl rfl HQ.out.2.1 (by simp [bkL, Value.oneCell']) p1 p2 HQ.out.2.2.2 ?_; intro v' w9 hown9 hgrow9 _ hnb9)
        obtain ⟨b1, b2, b3, b4⟩ := HQ.out
        obtain ⟨t1, t2, t3, t4⟩ := HT.out
        have hlt := HRI.out.2.1
        have hne1 : ∀ z, z ≤ rI → some z ≠ u9.ownBlock := fun z hz e => by have := (srow_lt b1 z e.symm).1; omega
        have t5 : w9.ranges Try.prog 23 (plainElem Try.prog 3) bm rI i D (fun z => left z && !z.sameKey (.int .u64 x)) cnt1 := (t1.alloc _).kept hgrow9 (hne1 bm (by omega)) (hne1 rI (Nat.le_refl _))
        refine ⟨⟨L ++ [(x, (kc (bkt wd X) x i : Int))], _, cnt1, t5, ?_, HL.out.2.2.1.step t2 t3, by rw [List.length_append]; simpa using hcn1, b3.grown hgrow9 b3.size (fun r' e => by have := (srow_lt b1 r' e).1; omega)⟩, ?_⟩
        · rw [List.length_append, List.flatMap_append]
          simpa using hown9
        · show w9.rangeLeft bm rI < wr.rangeLeft bm rI
          rw [t5.left_eq, HL.out.1.left_eq]
          exact t4
end Go.Proofs.Ytomjnncgogkglaa
