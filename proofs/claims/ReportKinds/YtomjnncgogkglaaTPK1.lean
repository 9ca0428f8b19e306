import Derived.Test.YtomjnncgogkglaaTPSc
namespace Go.Proofs.Ytomjnncgogkglaa
open Go.ChangeShapes Go.WideShapes Go.ChangeAt Go.RowKit
set_option linter.unusedVariables false
set_option linter.unusedSimpArgs false

theorem keyI : Maps.Keyed Try.prog 3 := Maps.int_keyed Try.underlying3
theorem infoCN : (Try.prog.info? 36).map (fun i => (i.zero, i.size, i.bytes)) = some (some (.agg #[.int .i64 0, .int .i64 0]), 2, 16) := by kernel_rfl
/-- the kind of an event -/
def kdk (X : Nat → Se) (j : Nat) : Int := (X j).k
set_option maxRecDepth 100000 in
set_option maxHeartbeats 4000000 in
theorem kinds_any (ak ac aa0 aa1 aa2 am : Int) (aq ax : Option Addr) (an acq anx acx : Nat) (X : Nat → Se) (hok : ∀ j, j < anx → SeOk (X j)) (hn : anx ≤ 2932031007402) (w : World) (hX : SIn w ax anx X) :
    Calls Try.prog 11 #[.agg #[.int .i64 ak, .int .i64 ac, .int .u64 aa0, .int .i64 aa1, .int .u64 aa2, .int .i64 am, .slice aq an acq, .slice ax anx acx]] w fun e w' => ∃ (v : Value) (M : List (Int × Int)), e = .returned v ∧ HM (kdk X) anx M ∧ M.Pairwise (fun x y => y.2 < x.2 ∨ (x.2 = y.2 ∧ x.1 < y.1)) ∧ w'.ownsRow w.heap.size 36 2 v M.length (M.flatMap cnL) ∧ Below w.heap.size w w' := by
  obtain ⟨wb, hwb⟩ : ∃ wb, w.alloc (.cells #[.int .i64 ak, .int .i64 ac, .int .u64 aa0, .int .i64 aa1, .int .u64 aa2, .int .i64 am, .slice aq an acq, .slice ax anx acx] 29) = wb := ⟨_, rfl⟩
  have hb0 : Below w.heap.size w wb := by rw [← hwb]; exact (Below.refl _ w).alloc (Nat.le_refl _) _
  have hbx1 : wb.heap[w.heap.size]? = some (.cells #[.int .i64 ak, .int .i64 ac, .int .u64 aa0, .int .i64 aa1, .int .u64 aa2, .int .i64 am, .slice aq an acq, .slice ax anx acx] 29 (0, 0)) := by rw [← hwb]; exact World.alloc_heap_new w _
  have HW : Hid (w.alloc (.cells #[.int .i64 ak, .int .i64 ac, .int .u64 aa0, .int .i64 aa1, .int .u64 aa2, .int .i64 am, .slice aq an acq, .slice ax anx acx] 29) = wb) := hwb
  obtain ⟨wm, hwm⟩ : ∃ wm, wb.alloc (.map #[] 0) = wm := ⟨_, rfl⟩
  have hbm : Below wb.heap.size wb wm := by rw [← hwm]; exact (Below.refl _ wb).alloc (Nat.le_refl _) _
  have hM0 : wm.ownsMap (H := Unit) Try.prog 3 (plainElem Try.prog 3) wb.heap.size 0 (.map []) := by rw [← hwm]; exact World.ownsMap_made _ _ _ _
  have HWM : Hid (wb.alloc (.map #[] 0) = wm) := hwm
  have hbw : Below w.heap.size w wm := hb0.trans (hbm.mono hb0.size)
  have HB : Hid (Below w.heap.size w wm) := hbw
  have HX : Hid (SIn w ax anx X) := hX
  have HOK : Hid (∀ j, j < anx → SeOk (X j)) := hok
  obtain ⟨-, -, -, -, -, -, -, c7⟩ := cells8k ((hbm.block _ (lt_of_block hbx1)).trans hbx1)
  obtain ⟨bm, hbm9⟩ : ∃ bm, w.heap.size + 1 = bm := ⟨_, rfl⟩
  have hbm' : wb.heap.size = bm := by rw [← hbm9, ← hwb]; simp
  have HBM : Hid (w.heap.size + 1 = bm ∧ wb.heap.size = bm) := ⟨hbm9, hbm'⟩
  clear hbm9
  rw [hbm'] at hM0
  have HM0 : Hid (wm.ownsMap (H := Unit) Try.prog 3 (plainElem Try.prog 3) bm 0 (.map [])) := hM0
  rw [← hwm, ← hwb] at c7
  clear hwb hX hb0 hbx1 hwm hbm hbw hbm' hM0 hok
  go_enter Try.func11, Try.ntmps11
  have hmk := fun W => run_makeMap (P := Try.prog) 68 W
  go_wp2_with (simp only [hmk])
  rw [HW.out, HWM.out, HBM.out.1]
  clear c7 hmk
  go_loopw [13] (fun v wt => ∃ (i : Nat) (D : DataW Unit), v = .int .i64 i ∧ i ≤ anx ∧ wt.ownsMap Try.prog 3 (plainElem Try.prog 3) bm i D ∧ MI Unit .i64 (kdk X) i D ∧ Below bm wm wt) (fun v _ => anx - (intOf v).toNat)
  case atStart => exact ⟨0, .map [], rfl, Nat.zero_le _, HM0.out, MI.zero _ _ _, Below.refl _ _⟩
  case round =>
    obtain ⟨i, D, rfl, hi, hown, hmi, hbt⟩ := hrel
    by_cases hlt : i < anx
    case pos =>
      have dl : decide ((i : Int) < (anx : Int)) = true := decide_eq_true (by omega)
      have hme := meas hlt
      have i0 : (0 : Int) ≤ (i : Int) := by omega
      have i1 : (i : Int) < (anx : Int) := by omega
      have ei : IntKind.i64.wrap ((i : Int) + 1) = (i : Int) + 1 := by rw [IntKind.wrap_i64]; omega
      obtain ⟨g1, o1, hx1, hg1, x0, x1, x2, x3, x4, x5⟩ := (HX.out.below (HB.out.trans (hbt.mono (by have := HBM.out.1; omega)))).at hlt
      rw [hx1]
      have hr : -9223372036854775808 ≤ kdk X i ∧ kdk X i < 9223372036854775808 := (HOK.out i hlt).2.2.2.2.1
      have hkey := Maps.keyOf_int_mk (P := Try.prog) Try.underlying3 (wfI hr)
      have hownA : (wr.alloc (.cells #[.int .u64 (X i).t, .int .i64 (X i).s, .int .u64 (X i).q, .int .i64 (X i).d, .int .i64 (X i).k, .int .i64 (X i).v] 67)).ownsMap Try.prog 3 (plainElem Try.prog 3) bm i D := hown.alloc _
      obtain ⟨c, hrunL, hat, hwc⟩ := hownA.lookup_int keyI Try.underlying68 Try.underlying3 (zeroI _) hkey
      obtain rfl : c = (kc (kdk X) (kdk X i) i : Int) := by
        rw [hmi.val] at hat
        injection hat with hat
        injection hat with _ hat
        exact hat.symm
      have hkl := kc_le (kdk X) (kdk X i) i
      have ec : IntKind.i64.wrap ((kc (kdk X) (kdk X i) i : Int) + 1) = (kc (kdk X) (kdk X i) i : Int) + 1 := by rw [IntKind.wrap_i64]; omega
      obtain ⟨w9, hrunU, hown9, hgrow9⟩ := hownA.update keyI Try.underlying68 (show i < maxLen by unfold maxLen; omega) hkey (plainElem_int (H := Unit) Try.underlying3 (wfI (k := (kc (kdk X) (kdk X i) i : Int) + 1) (by omega)))
      have HR : Hid (w9.ownsMap Try.prog 3 (plainElem Try.prog 3) bm (i + 1) (D.put (.int .i64 (kdk X i)) (.lit (.int .i64 ((kc (kdk X) (kdk X i) i : Int) + 1)))) ∧ (wr.alloc (.cells #[.int .u64 (X i).t, .int .i64 (X i).s, .int .u64 (X i).q, .int .i64 (X i).d, .int .i64 (X i).k, .int .i64 (X i).v] 67)).grownBy w9 (some bm) ∧ MI Unit .i64 (kdk X) i D ∧ wr.ownsMap Try.prog 3 (plainElem Try.prog 3) bm i D ∧ Below bm wm wr) := ⟨hown9, hgrow9, hmi, hown, hbt⟩
      generalize hC : (kc (kdk X) (kdk X i) i : Int) = C at *
      have hkd : kdk X i = (X i).k := rfl
      rw [hkd] at hrunL hrunU
      have HBC : Hid ((kc (kdk X) (kdk X i) i : Int) = C) := hC
      clear hC hown hmi hbt hownA hat hwc hown9 hgrow9 hkey hr hx1 hkd hkl
      go_wp2_with (simp only [hrunL, hrunU])
      obtain ⟨r1, r2, r3, r4, r5⟩ := HR.out
      refine ⟨⟨i + 1, _, rfl, hlt, r1, ?_, ?_⟩, hme⟩
      · have := r3.step (owns_isMap r4)
        rw [← HBC.out]
        exact this
      · have h9 := HBM.out.2
        have h8 : bm ≤ wm.heap.size := by rw [← HWM.out]; simp; omega
        have h7 := r5.size
        exact (r5.alloc (by omega) _).grown r2 (by show bm ≤ (wr.alloc (.cells #[.int .u64 (X i).t, .int .i64 (X i).s, .int .u64 (X i).q, .int .i64 (X i).d, .int .i64 (X i).k, .int .i64 (X i).v] 67)).heap.size; rw [World.size_alloc]; omega) (fun r e => by injection e with e; omega)
    have dl : decide ((i : Int) < (anx : Int)) = false := decide_eq_false (by omega)
    obtain rfl : i = anx := by omega
    obtain ⟨iB, hB1, hB2, hB3, hB4⟩ := sinfo infoCN
    have hsz9 := owns_size hown
    have HMI : Hid (MI Unit .i64 (kdk X) i D ∧ Below bm wm wr ∧ wr.ownsMap Try.prog 3 (plainElem Try.prog 3) bm i D) := ⟨hmi, hbt, hown⟩
    clear hown hmi hbt
    go_wp2_with (at_range; refine wpList_range_own _ rfl _ 68 rfl 3 3 keyI Try.underlying68 _ bm i D rfl HMI.out.2.2 ?_; intro w0 hrg0 hg0 hs0; have HR0 : Hid (w0.ranges Try.prog 3 (plainElem Try.prog 3) bm wr.heap.size i D (Maps.has D) (Maps.size D) ∧ wr.grownBy w0 none ∧ w0.heap.size = wr.heap.size + 1) := ⟨hrg0, hg0, hs0⟩; clear hrg0 hg0 hs0)
    go_frame
    obtain ⟨rI, hrI⟩ : ∃ rI, wr.heap.size = rI := ⟨_, rfl⟩
    rw [hrI] at HR0 ⊢
    have hbF : Below w.heap.size w wr := HB.out.trans (HMI.out.2.1.mono (by have := HBM.out.1; omega))
    have hbR : w.heap.size ≤ rI ∧ bm < rI := ⟨by rw [← hrI]; exact hbF.size, by rw [← hrI]; exact HMI.out.2.2.lt⟩
    have HRI : Hid (wr.heap.size = rI ∧ (w.heap.size ≤ rI ∧ bm < rI) ∧ Below w.heap.size w wr ∧ w.heap.size < bm) := ⟨hrI, hbR, hbF, by have := HBM.out.1; omega⟩
    clear hrI hbF hbR
    obtain ⟨wA, rfl⟩ : ∃ wA, wA = wr := ⟨_, rfl⟩
    go_loopw [6] (fun r wt => ∃ (L : List (Int × Int)) (left : Lit → Bool) (cnt : Nat) (D' : DataW Unit), wt.ranges Try.prog 3 (plainElem Try.prog 3) bm rI i D' left cnt ∧ (∀ k, left (.int .i64 k) = true → ∀ zd, D'.atKey (.int .i64 k) zd = D.atKey (.int .i64 k) zd) ∧ wt.ownsRow (rI + 1) 36 2 r L.length (L.flatMap cnL) ∧ JL .i64 (kdk X) i L left ∧ L.length + cnt ≤ i ∧ Below w.heap.size w wt) (fun _ wt => wt.rangeLeft bm rI)
    case atStart => exact ⟨[], _, _, D, HR0.out.1, fun _ _ _ => rfl, World.ownsRow_nil _ _ _ _, JL.start HMI.out.1, by simpa using hsz9, HRI.out.2.2.1.grown HR0.out.2.1 HRI.out.2.2.1.size (by simp)⟩
    case round =>
      obtain ⟨L, left, cnt, D', hrg, hag, hrow, hjl, hcn, hbt⟩ := hrel
      have HAG : Hid (∀ k, left (.int .i64 k) = true → ∀ zd, D'.atKey (.int .i64 k) zd = D.atKey (.int .i64 k) zd) := hag
      have HL : Hid (wr.ranges Try.prog 3 (plainElem Try.prog 3) bm rI i D' left cnt ∧ wr.ownsRow (rI + 1) 36 2 u6 L.length (L.flatMap cnL) ∧ JL .i64 (kdk X) i L left ∧ L.length + cnt ≤ i ∧ Below w.heap.size w wr) := ⟨hrg, hrow, hjl, hcn, hbt⟩
      clear hrg hrow hjl hbt hag
      go_wp2_with (at_next; refine wpList_next_ranges_ii _ rfl _ rfl 3 3 .i64 .i64 keyI Try.underlying3 Try.underlying3 bm rI i _ _ _ rfl HL.out.1 ?_ ?_)
      · intro hc0 hl0
        have hhm : HM (kdk X) i L := HL.out.2.2.1.done hl0
        have hlen : L.length ≤ 2932031007402 := by omega
        have HSO := sortC_any L u6 (rI + 1) wr HL.out.2.1 hlen
        have HE : Hid (HM (kdk X) i L) := hhm
        clear hc0 hl0 hhm hsz9 hcn
        go_wp2_with (go_at_call 24; (with_reducible refine HSO.mono ?_); rintro e w9 ⟨rfl, M, hp9, hs9, hr9, hg9⟩; have H9 : Hid (M.Perm L ∧ M.Pairwise (fun x y => ¬ (x.2 < y.2 ∨ (y.2 = x.2 ∧ y.1 < x.1))) ∧ w9.ownsRow (rI + 1) 36 2 u6 L.length (M.flatMap cnL) ∧ wr.grownBy w9 u6.ownBlock) := ⟨hp9, hs9, hr9, hg9⟩; clear hp9 hs9 hr9 hg9)
        go_ret
        obtain ⟨a1, a2, a3, a4⟩ := H9.out
        have hm := HE.out.perm a1.symm
        have hsz := HL.out.2.2.2.2.size
        have hrI := HRI.out.2.1.1
        refine ⟨u6, M, rfl, hm, ?_, by rw [a1.length_eq]; exact World.ownsRow.lower a3 (by omega), HL.out.2.2.2.2.grown a4 hsz (fun r' e => by have := (srow_lt HL.out.2.1 r' e).1; omega)⟩
        refine (List.pairwise_and_iff.2 ⟨a2, hm.nd⟩).imp fun {x y} h => ?_
        have := h.1
        have := h.2
        omega
      · intro x c w1 cnt1 hwx hwc hlx hat hrg1 hlt1 hg1 hs1 hen
        obtain ⟨hc9, hp9⟩ := JL.pos HMI.out.1 (fun zd => (HAG.out x hlx zd).symm.trans (hat zd))
        subst hc9
        have hcn1 : L.length + 1 + cnt1 ≤ i := by omega
        have p1 : L.length + 1 ≤ maxLen := by unfold maxLen; omega
        have p2 : (L.length + 1) * 16 ≤ 140737488355328 := by omega
        have hne : some rI ≠ u6.ownBlock := fun e => by have := (srow_lt HL.out.2.1 rI e.symm).1; omega
        have hrow1 : w1.ownsRow (rI + 1) 36 2 u6 L.length (L.flatMap cnL) := HL.out.2.1.kept hg1 (.inr hne.symm)
        have hb1 : Below w.heap.size w w1 := HL.out.2.2.2.2.grown hg1 HL.out.2.2.2.2.size (fun r' e => by injection e with e; have := HRI.out.2.1.1; omega)
        have HQ : Hid ((w1.alloc (.cells #[.int .i64 x, .int .i64 (kc (kdk X) x i)] 36)).ownsRow (rI + 1) 36 2 u6 L.length (L.flatMap cnL) ∧ (∀ j y, (cnL (x, (kc (kdk X) x i : Int)))[j]? = some y → (w1.alloc (.cells #[.int .i64 x, .int .i64 (kc (kdk X) x i)] 36)).cell? ((⟨w1.heap.size, 0, none⟩ : Addr).add j) = some y) ∧ Below w.heap.size w (w1.alloc (.cells #[.int .i64 x, .int .i64 (kc (kdk X) x i)] 36)) ∧ rI + 1 ≤ (w1.alloc (.cells #[.int .i64 x, .int .i64 (kc (kdk X) x i)] 36)).heap.size) :=
          ⟨World.ownsRow.alloc hrow1 _, scells_new w1 (cnL (x, (kc (kdk X) x i : Int))) _, hb1.alloc hb1.size _, by rw [World.size_alloc]; have := hrg1.lt; omega⟩
        have HT : Hid (w1.ranges Try.prog 3 (plainElem Try.prog 3) bm rI i D' (fun z => left z && !z.sameKey (.int .i64 x)) cnt1 ∧ left (.int .i64 x) = true ∧ 0 < kc (kdk X) x i ∧ cnt1 < cnt ∧ (Lit.int .i64 x).wf = true) := ⟨hrg1, hlx, hp9, hlt1, hwx⟩
        clear hwx hwc hlx hat hrg1 hlt1 hg1 hp9 hne hrow1 hb1 hsz9 hcn hs1
        go_wp2_with (first | (at_builtin; refine wpList_append_own_at _ rfl _ _ 32 rfl (rI + 1) 36 iB _ 2 16 Try.underlying32 hB1 hB2 hB3 hB4 rfl (by decide) _ _ _ rfl HQ.out.1 ⟨w1.heap.size, 0, none⟩ 1 1 (cnL (x, (kc (kdk X) x i : Int))) rfl rfl HQ.out.2.1 (by simp [cnL, Value.oneCell']) p1 p2 HQ.out.2.2.2 ?_; intro v' w9 hown9 hgrow9 _ hnb9; have hne1 : ∀ z, z ≤ rI → some z ≠ u6.ownBlock := (fun z hz e => by have := (srow_lt HQ.out.1 z e.symm).1; omega); have HU : Hid (w9.ranges Try.prog 3 (plainElem Try.prog 3) bm rI i D' (fun z => left z && !z.sameKey (.int .i64 x)) cnt1 ∧ w9.ownsRow (rI + 1) 36 2 v' (L.length + 1) (L.flatMap cnL ++ cnL (x, (kc (kdk X) x i : Int))) ∧ Below w.heap.size w w9) := ⟨(HT.out.1.alloc _).kept hgrow9 (hne1 bm (by have := HRI.out.2.1; omega)) (hne1 rI (Nat.le_refl _)), hown9, HQ.out.2.2.1.grown hgrow9 HQ.out.2.2.1.size (fun r' e => by have := (srow_lt HQ.out.1 r' e).1; have := HRI.out.2.1; omega)⟩; clear hown9 hgrow9 hnb9 hne1) | (at_delete; refine wpList_delete_ranges _ rfl _ _ 68 3 rfl 3 keyI Try.underlying68 _ bm rI i D' _ cnt1 rfl HU.out.1 (.int .i64 x) (.int .i64 x) rfl (Maps.keyOf_int_mk (P := Try.prog) Try.underlying3 HT.out.2.2.2.2) ?_; intro w8 cnt8 hrg8 hle8 htu8; have HV : Hid (w8.ranges Try.prog 3 (plainElem Try.prog 3) bm rI i (D'.del (.int .i64 x)) (fun z => left z && !z.sameKey (.int .i64 x)) cnt8 ∧ cnt8 ≤ cnt1 ∧ w9.grownBy w8 (some bm)) := ⟨(by rw [Maps.strike_twice] at hrg8; exact hrg8), hle8, htu8.grown⟩; clear hrg8 hle8 htu8))
        obtain ⟨b1, b2, b3⟩ := HU.out
        obtain ⟨t1, t2, t3⟩ := HV.out
        obtain ⟨_, q2, q3, q4, _⟩ := HT.out
        have hlt := HRI.out.2.1
        have hne9 : some bm ≠ v'.ownBlock := fun e => by have := (srow_lt b2 bm e.symm).1; omega
        simp only [Act.put]
        refine ⟨⟨_, _, _, _, _, _, _, _, _, _, _, _, _, _, _, _, ⟨L ++ [(x, (kc (kdk X) x i : Int))], _, cnt8, _, t1, fun k hk zd => ?_, ?_, HL.out.2.2.1.step q2 q3, by rw [List.length_append]; simp; omega, b3.grown t3 b3.size (fun r' e => by injection e with e; have := HRI.out.2.2.2; omega)⟩, rfl⟩, ?_⟩
        · have hk' : left (.int .i64 k) = true ∧ k ≠ x := by
            simp only [same_int, Bool.and_eq_true, Bool.not_eq_true', decide_eq_false_iff_not] at hk
            exact hk
          rw [Maps.atKey_del_other (fun e => hk'.2 (by injection e))]
          exact HAG.out k hk'.1 zd
        · rw [List.length_append, List.flatMap_append]
          simpa using b2.kept t3 (.inr hne9.symm)
        · show w8.rangeLeft bm rI < wr.rangeLeft bm rI
          rw [t1.left_eq, HL.out.1.left_eq]
          omega
end Go.Proofs.Ytomjnncgogkglaa
