import Derived.Test.YtomjnncgogkglaaTPM
import Derived.Test.YtomjnncgogkglaaTPF
import Derived.Test.YtomjnncgogkglaaTP2
import Derived.ChangeOld
namespace Go.Proofs.Ytomjnncgogkglaa
open Go.ChangeShapes Go.WideShapes Go.ChangeAt Go.RowKit
set_option linter.unusedVariables false
set_option linter.unusedSimpArgs false

def at0 (L : List Se) (j : Nat) : Se := L.getD j ⟨0, 0, 0, 0, 0, 0⟩
theorem at0_some {L : List Se} {j : Nat} (h : j < L.length) : L[j]? = some (at0 L j) := by
  unfold at0
  rw [List.getD_eq_getElem?_getD, List.getElem?_eq_getElem h]
  rfl
def mn (L : List Se) : Nat × Int := if L.length < 2 then (0, 83) else if (at0 L (L.length - 1)).t < (at0 L 0).t then (0, 171) else ((floatBits .quo .f64 (floatOfInt .f64 ((at0 L (L.length - 1)).t - (at0 L 0).t)) (floatOfInt .f64 (((L.length - 1 : Nat)) : Int))).getD 0, 0)
theorem hp_ok {part : Int} {X : Nat → Se} {n : Nat} (h : ∀ j, j < n → SeOk (X j)) : ∀ e ∈ hp part X n, SeOk e := by
  induction n with
  | zero => intro e he; cases he
  | succ n ih =>
    intro e he
    unfold hp at he
    split at he
    · rcases List.mem_append.1 he with h1 | h1
      · exact ih (fun j hj => h j (by omega)) e h1
      · rw [List.mem_singleton.1 h1]; exact h n (by omega)
    · exact ih (fun j hj => h j (by omega)) e he
theorem at0_ok {L : List Se} (h : ∀ e ∈ L, SeOk e) {j : Nat} (hj : j < L.length) : SeOk (at0 L j) := h _ (List.mem_of_getElem? (at0_some hj))
set_option maxRecDepth 100000 in
set_option maxHeartbeats 4000000 in
theorem mean_any (ak ac aa0 aa1 aa2 am : Int) (aq ax : Option Addr) (an acq anx acx : Nat) (X : Nat → Se) (part : Int) (hok : ∀ j, j < anx → SeOk (X j)) (hn : anx ≤ 2932031007402) (w : World) (hX : SIn w ax anx X) :
    Calls Try.prog 14 #[.agg #[.int .i64 ak, .int .i64 ac, .int .u64 aa0, .int .i64 aa1, .int .u64 aa2, .int .i64 am, .slice aq an acq, .slice ax anx acx], .int .i64 part] w fun e w' => e = .returned (.tuple #[.float .f64 (mn (hp part X anx)).1, .int .i64 (mn (hp part X anx)).2]) ∧ Below w.heap.size w w' := by
  obtain ⟨wb, hwb⟩ : ∃ wb, w.alloc (.cells #[.int .i64 ak, .int .i64 ac, .int .u64 aa0, .int .i64 aa1, .int .u64 aa2, .int .i64 am, .slice aq an acq, .slice ax anx acx] 29) = wb := ⟨_, rfl⟩
  have hb0 : Below w.heap.size w wb := by rw [← hwb]; exact (Below.refl _ w).alloc (Nat.le_refl _) _
  have hbx1 : wb.heap[w.heap.size]? = some (.cells #[.int .i64 ak, .int .i64 ac, .int .u64 aa0, .int .i64 aa1, .int .u64 aa2, .int .i64 am, .slice aq an acq, .slice ax anx acx] 29 (0, 0)) := by rw [← hwb]; exact World.alloc_heap_new w _
  have HW : Hid (w.alloc (.cells #[.int .i64 ak, .int .i64 ac, .int .u64 aa0, .int .i64 aa1, .int .u64 aa2, .int .i64 am, .slice aq an acq, .slice ax anx acx] 29) = wb) := hwb
  have HC := timesOf_any ax anx acx X part hn wb (hX.below hb0)
  have HB : Hid (Below w.heap.size w wb) := hb0
  have hLn := hp_len part X anx
  have hLok := hp_ok (part := part) hok
  obtain ⟨-, -, -, -, -, -, -, c7⟩ := cells8k hbx1
  rw [← hwb] at c7
  generalize hp part X anx = L at *
  clear hwb hX hb0 hbx1 hok
  go_enter Try.func14, Try.ntmps14
  go_upto_region 2 with (go_at_call 31; rw [HW.out]; (with_reducible refine HC.mono ?_); rintro e w1 ⟨v, rfl, hown, hb1⟩; have H1 : Hid (w1.ownsRow wb.heap.size 23 1 v L.length (L.flatMap tmL) ∧ Below wb.heap.size wb w1) := ⟨hown, hb1⟩; have hbF : Below w.heap.size w w1 := HB.out.trans (hb1.mono HB.out.size); have HBF : Hid (Below w.heap.size w w1) := hbF; have hfm := row_form hown; clear hown hb1 hbF c7)
  clear HC HW
  by_cases h2 : L.length < 2
  · have em : Hid (mn L = (0, 83)) := by show mn L = _; unfold mn; rw [if_pos h2]
    have dl : decide ((L.length : Int) < 2) = true := by simp; omega
    rcases hfm with ⟨rfl, h0⟩ | ⟨g, c, rfl, hg1, hg2⟩
    · have HZ : Hid (L.length = 0) := h0
      clear h0 H1 dl
      go_wp2
      go_ret2
      exact ⟨by rw [em.out]; rfl, HBF.out⟩
    · clear H1
      go_wp2
      go_ret2
      exact ⟨by rw [em.out]; rfl, HBF.out⟩
  · have dl : decide ((L.length : Int) < 2) = false := by simp; omega
    obtain ⟨g, c, hv, hg1, hg2⟩ : ∃ g c, v = .slice (some ⟨g, 0, none⟩) L.length c ∧ wb.heap.size ≤ g ∧ g < w1.heap.size := by
      rcases hfm with ⟨_, h0⟩ | h0
      · omega
      · exact h0
    subst hv
    clear hfm
    have c0 : w1.cell? ⟨g, 0, none⟩ = some (.int .u64 (at0 L 0).t) := row_cell H1.out.1 (by
      have := fm_at tmL 1 (fun _ => rfl) L 0 0 _ (by decide) (at0_some (show 0 < L.length by omega))
      simpa [tmL] using this)
    have c1 : w1.cell? ⟨g, (L.length - 1), none⟩ = some (.int .u64 (at0 L (L.length - 1)).t) := row_cell H1.out.1 (by
      have := fm_at tmL 1 (fun _ => rfl) L (L.length - 1) 0 _ (by decide) (at0_some (show L.length - 1 < L.length by omega))
      simpa [tmL] using this)
    have hr0 := (at0_ok hLok (show 0 < L.length by omega)).1
    have hr1 := (at0_ok hLok (show L.length - 1 < L.length by omega)).1
    have em : Hid (mn L = if (at0 L (L.length - 1)).t < (at0 L 0).t then (0, 171) else ((floatBits .quo .f64 (floatOfInt .f64 ((at0 L (L.length - 1)).t - (at0 L 0).t)) (floatOfInt .f64 (((L.length - 1 : Nat)) : Int))).getD 0, 0)) := by
      show mn L = _
      unfold mn
      rw [if_neg h2]
    generalize (at0 L (L.length - 1)).t = b at *
    generalize (at0 L 0).t = a at *
    clear hLok H1
    obtain ⟨k, hk⟩ : ∃ k, L.length = k + 2 := ⟨L.length - 2, by omega⟩
    rw [hk] at em dl c1 ⊢
    clear h2
    have hk2 : k + 2 ≤ 2932031007402 := by omega
    simp only [show k + 2 - 1 = k + 1 by omega] at em c1
    clear hk hLn
    have wl : IntKind.i64.wrap (((k + 2 : Nat) : Int) - 1) = ((k + 1 : Nat) : Int) := by rw [IntKind.wrap_i64]; omega
    have l0 : (0 : Int) < ((k + 2 : Nat) : Int) := by omega
    have l1 : (0 : Int) ≤ ((k + 1 : Nat) : Int) := by omega
    have l2 : ((k + 1 : Nat) : Int) < ((k + 2 : Nat) : Int) := by omega
    by_cases hlt : b < a
    · have dab : decide (b < a) = true := by simpa using hlt
      have HLT : Hid (b < a) := hlt
      clear hlt
      go_wp2
      go_quiet (fail)
      go_wp2
      go_ret2
      exact ⟨by rw [em.out, if_pos HLT.out]; rfl, HBF.out.trans (below_drewNq _ _ _)⟩
    · have dab : decide (b < a) = false := by simpa using hlt
      have HLT : Hid (a ≤ b) := Int.not_lt.1 hlt
      have wu : IntKind.u64.wrap (b - a) = b - a := by rw [IntKind.wrap_u64]; omega
      obtain ⟨r, hr, _⟩ := div_some (b - a) (by omega) (k + 1) (by omega) (by omega)
      have hr' : floatBits .quo .f64 (floatOfInt .f64 (b - a)) (floatOfInt .f64 ((k : Int) + 2 - 1)) = some r := (by rw [show (k : Int) + 2 - 1 = ((k + 1 : Nat) : Int) by omega]; exact hr)
      have hdiv := fun W => run_float_arith (P := Try.prog) W .quo 38 .f64 (floatOfInt .f64 (b - a)) (floatOfInt .f64 ((k : Int) + 2 - 1)) r hr'
      have HR : Hid (floatBits .quo .f64 (floatOfInt .f64 (b - a)) (floatOfInt .f64 ((k + 1 : Nat) : Int)) = some r) := hr
      clear hlt hr hr'
      go_wp2_with (simp only [hdiv])
      go_quiet (fail)
      go_wp2_with (simp only [hdiv])
      go_ret2
      exact ⟨by rw [em.out, if_neg (show ¬ b < a from Int.not_lt.2 HLT.out), HR.out]; rfl, HBF.out.trans (below_drewNq _ _ _)⟩
set_option maxRecDepth 100000 in
set_option maxHeartbeats 4000000 in
theorem rmean_any (ak ac aa0 aa1 aa2 am : Int) (aq ax : Option Addr) (an acq anx acx : Nat) (X : Nat → Se) (part : Int) (hok : ∀ j, j < anx → SeOk (X j)) (hn : anx ≤ 2932031007402) (w : World) (hX : SIn w ax anx X) :
    Calls Try.prog 15 #[.agg #[.int .i64 ak, .int .i64 ac, .int .u64 aa0, .int .i64 aa1, .int .u64 aa2, .int .i64 am, .slice aq an acq, .slice ax anx acx], .int .i64 part] w fun e w' => e = .returned (.tuple #[.float .f64 (mn (hp part X anx)).1, .int .i64 (mn (hp part X anx)).2]) ∧ Below w.heap.size w w' := by
  obtain ⟨wb, hwb⟩ : ∃ wb, w.alloc (.cells #[.int .i64 ak, .int .i64 ac, .int .u64 aa0, .int .i64 aa1, .int .u64 aa2, .int .i64 am, .slice aq an acq, .slice ax anx acx] 29) = wb := ⟨_, rfl⟩
  have hb0 : Below w.heap.size w wb := by rw [← hwb]; exact (Below.refl _ w).alloc (Nat.le_refl _) _
  have hbx1 : wb.heap[w.heap.size]? = some (.cells #[.int .i64 ak, .int .i64 ac, .int .u64 aa0, .int .i64 aa1, .int .u64 aa2, .int .i64 am, .slice aq an acq, .slice ax anx acx] 29 (0, 0)) := by rw [← hwb]; exact World.alloc_heap_new w _
  have HW : Hid (w.alloc (.cells #[.int .i64 ak, .int .i64 ac, .int .u64 aa0, .int .i64 aa1, .int .u64 aa2, .int .i64 am, .slice aq an acq, .slice ax anx acx] 29) = wb) := hwb
  have HC := happens_any ax anx acx X part hn wb (hX.below hb0)
  have HB : Hid (Below w.heap.size w wb) := hb0
  have hLn := hp_len part X anx
  have hLok := hp_ok (part := part) hok
  obtain ⟨-, -, -, -, -, -, -, c7⟩ := cells8k hbx1
  rw [← hwb] at c7
  generalize hp part X anx = L at *
  clear hwb hX hb0 hbx1 hok
  go_enter Try.func15, Try.ntmps15
  go_upto_region 2 with (go_at_call 32; rw [HW.out]; (with_reducible refine HC.mono ?_); rintro e w1 ⟨v, rfl, hown, hb1⟩; have H1 : Hid (w1.ownsRow wb.heap.size 67 6 v L.length (L.flatMap seL) ∧ Below wb.heap.size wb w1) := ⟨hown, hb1⟩; have hbF : Below w.heap.size w w1 := HB.out.trans (hb1.mono HB.out.size); have HBF : Hid (Below w.heap.size w w1) := hbF; have hfm := row_form hown; clear hown hb1 hbF c7)
  clear HC HW
  by_cases h2 : L.length < 2
  · have em : Hid (mn L = (0, 83)) := by show mn L = _; unfold mn; rw [if_pos h2]
    have dl : decide ((L.length : Int) < 2) = true := by simp; omega
    rcases hfm with ⟨rfl, h0⟩ | ⟨g, c, rfl, hg1, hg2⟩
    · have HZ : Hid (L.length = 0) := h0
      clear h0 H1 dl
      go_wp2
      go_ret2
      exact ⟨by rw [em.out]; rfl, HBF.out⟩
    · clear H1
      go_wp2
      go_ret2
      exact ⟨by rw [em.out]; rfl, HBF.out⟩
  · have dl : decide ((L.length : Int) < 2) = false := by simp; omega
    obtain ⟨g, c, hv, hg1, hg2⟩ : ∃ g c, v = .slice (some ⟨g, 0, none⟩) L.length c ∧ wb.heap.size ≤ g ∧ g < w1.heap.size := by
      rcases hfm with ⟨_, h0⟩ | h0
      · omega
      · exact h0
    subst hv
    clear hfm
    have c0 : w1.cell? ⟨g, 0, none⟩ = some (.int .u64 (at0 L 0).t) := row_cell H1.out.1 (by
      have := fm_at seL 6 (fun _ => rfl) L 0 0 _ (by decide) (at0_some (show 0 < L.length by omega))
      simpa [seL] using this)
    have c1 : w1.cell? ⟨g, (L.length - 1) * 6, none⟩ = some (.int .u64 (at0 L (L.length - 1)).t) := row_cell H1.out.1 (by
      have := fm_at seL 6 (fun _ => rfl) L (L.length - 1) 0 _ (by decide) (at0_some (show L.length - 1 < L.length by omega))
      simpa [seL] using this)
    have hr0 := (at0_ok hLok (show 0 < L.length by omega)).1
    have hr1 := (at0_ok hLok (show L.length - 1 < L.length by omega)).1
    have em : Hid (mn L = if (at0 L (L.length - 1)).t < (at0 L 0).t then (0, 171) else ((floatBits .quo .f64 (floatOfInt .f64 ((at0 L (L.length - 1)).t - (at0 L 0).t)) (floatOfInt .f64 (((L.length - 1 : Nat)) : Int))).getD 0, 0)) := by
      show mn L = _
      unfold mn
      rw [if_neg h2]
    generalize (at0 L (L.length - 1)).t = b at *
    generalize (at0 L 0).t = a at *
    clear hLok H1
    obtain ⟨k, hk⟩ : ∃ k, L.length = k + 2 := ⟨L.length - 2, by omega⟩
    rw [hk] at em dl c1 ⊢
    clear h2
    have hk2 : k + 2 ≤ 2932031007402 := by omega
    simp only [show k + 2 - 1 = k + 1 by omega] at em c1
    clear hk hLn
    have wl : IntKind.i64.wrap (((k + 2 : Nat) : Int) - 1) = ((k + 1 : Nat) : Int) := by rw [IntKind.wrap_i64]; omega
    have l0 : (0 : Int) < ((k + 2 : Nat) : Int) := by omega
    have l1 : (0 : Int) ≤ ((k + 1 : Nat) : Int) := by omega
    have l2 : ((k + 1 : Nat) : Int) < ((k + 2 : Nat) : Int) := by omega
    by_cases hlt : b < a
    · have dab : decide (b < a) = true := by simpa using hlt
      have HLT : Hid (b < a) := hlt
      clear hlt
      go_wp2
      go_wp2
      go_ret2
      exact ⟨by rw [em.out, if_pos HLT.out]; rfl, HBF.out⟩
    · have dab : decide (b < a) = false := by simpa using hlt
      have HLT : Hid (a ≤ b) := Int.not_lt.1 hlt
      have wu : IntKind.u64.wrap (b - a) = b - a := by rw [IntKind.wrap_u64]; omega
      obtain ⟨r, hr, _⟩ := div_some (b - a) (by omega) (k + 1) (by omega) (by omega)
      have hr' : floatBits .quo .f64 (floatOfInt .f64 (b - a)) (floatOfInt .f64 ((k : Int) + 2 - 1)) = some r := (by rw [show (k : Int) + 2 - 1 = ((k + 1 : Nat) : Int) by omega]; exact hr)
      have hdiv := fun W => run_float_arith (P := Try.prog) W .quo 38 .f64 (floatOfInt .f64 (b - a)) (floatOfInt .f64 ((k : Int) + 2 - 1)) r hr'
      have HR : Hid (floatBits .quo .f64 (floatOfInt .f64 (b - a)) (floatOfInt .f64 ((k + 1 : Nat) : Int)) = some r) := hr
      clear hlt hr hr'
      go_wp2_with (simp only [hdiv])
      go_wp2_with (simp only [hdiv])
      go_ret2
      exact ⟨by rw [em.out, if_neg (show ¬ b < a from Int.not_lt.2 HLT.out), HR.out]; rfl, HBF.out⟩
theorem mn_ord (L : List Se) (hL : L.length ≤ 2932031007402) (h : ∀ e ∈ L, SeOk e) : (Ieee.double.order (mn L).1 (mn L).1 == some .eq) = true := by
  unfold mn
  by_cases h2 : L.length < 2
  · rw [if_pos h2]; decide
  · rw [if_neg h2]
    by_cases h3 : (at0 L (L.length - 1)).t < (at0 L 0).t
    · rw [if_pos h3]; decide
    · rw [if_neg h3]
      obtain ⟨r, hr, ho⟩ := div_some ((at0 L (L.length - 1)).t - (at0 L 0).t) (by omega) (L.length - 1) (by omega) (by omega)
      have hr' : floatBits .quo .f64 (floatOfInt .f64 ((at0 L (L.length - 1)).t - (at0 L 0).t)) (floatOfInt .f64 ((L.length - 1 : Nat) : Int)) = some r := hr
      simp only [hr']
      exact ho
set_option maxRecDepth 100000 in
set_option maxHeartbeats 4000000 in
theorem means_law (ak ac aa0 aa1 aa2 am : Int) (aq ax : Option Addr) (an acq anx acx : Nat) (A : Nat → Sa) (K : Nat → Nat → Int) (X : Nat → Se) (part : Int) (hok : ∀ j, j < anx → SeOk (X j)) (hq : an * 40 ≤ 140737488355328) (hqw : ∀ j, j < an → (A j).n ≤ 17592186044416) (hn : anx ≤ 2932031007402) (w : World) (hS : SsAt w aq an A K) (hX : SIn w ax anx X) :
    Calls Try.prog 5 #[.agg #[.int .i64 ak, .int .i64 ac, .int .u64 aa0, .int .i64 aa1, .int .u64 aa2, .int .i64 am, .slice aq an acq, .slice ax anx acx], .int .i64 part] w fun e w' => e = .returned (.bool true) ∧ Below w.heap.size w w' := by
  obtain ⟨wb, hwb⟩ : ∃ wb, w.alloc (.cells #[.int .i64 ak, .int .i64 ac, .int .u64 aa0, .int .i64 aa1, .int .u64 aa2, .int .i64 am, .slice aq an acq, .slice ax anx acx] 29) = wb := ⟨_, rfl⟩
  have hb0 : Below w.heap.size w wb := by rw [← hwb]; exact (Below.refl _ w).alloc (Nat.le_refl _) _
  have hbx1 : wb.heap[w.heap.size]? = some (.cells #[.int .i64 ak, .int .i64 ac, .int .u64 aa0, .int .i64 aa1, .int .u64 aa2, .int .i64 am, .slice aq an acq, .slice ax anx acx] 29 (0, 0)) := by rw [← hwb]; exact World.alloc_heap_new w _
  have HW : Hid (w.alloc (.cells #[.int .i64 ak, .int .i64 ac, .int .u64 aa0, .int .i64 aa1, .int .u64 aa2, .int .i64 am, .slice aq an acq, .slice ax anx acx] 29) = wb) := hwb
  have HBX : Hid (Below w.heap.size w wb ∧ wb.heap[w.heap.size]? = some (.cells #[.int .i64 ak, .int .i64 ac, .int .u64 aa0, .int .i64 aa1, .int .u64 aa2, .int .i64 am, .slice aq an acq, .slice ax anx acx] 29 (0, 0))) := ⟨hb0, hbx1⟩
  have HX : Hid (SIn wb ax anx X) := hX.below hb0
  have HC := copyResult_any ak ac aa0 aa1 aa2 am aq ax an acq anx acx A K X hq hqw hn wb (hS.below hb0) HX.out
  have HM := fun q cq x cx W (h : SIn W x anx X) => mean_any ak ac aa0 aa1 aa2 am q x an cq anx cx X part hok hn W h
  have HR := fun W (h : SIn W ax anx X) => rmean_any ak ac aa0 aa1 aa2 am aq ax an acq anx acx X part hok hn W h
  have hord := mn_ord (hp part X anx) (Nat.le_trans (hp_len part X anx) hn) (hp_ok hok)
  generalize (mn (hp part X anx)).1 = f at *
  generalize (mn (hp part X anx)).2 = c9 at *
  obtain ⟨c0, c1, c2, c3, c4, c5, c6, c7⟩ := cells8k hbx1
  rw [← hwb] at c0 c1 c2 c3 c4 c5 c6 c7
  have hord' : ((FloatKind.f64.format.order f f) == some .eq) = true := hord
  clear hwb hX hb0 hbx1 hok hS hord
  go_enter Try.func5, Try.ntmps5
  go_upto_region 2 with (first | (go_at_call 12; rw [HW.out]; (with_reducible refine HC.mono ?_); rintro e w1 ⟨q1, cq1, C, x1, cx1, rfl, -, -, hx1, hb1⟩; have H1 : Hid (SIn w1 x1 anx X ∧ Below wb.heap.size wb w1) := ⟨hx1, hb1⟩; clear hx1 hb1 c0 c1 c2 c3 c4 c5 c6 c7) | (go_at_call 14; (with_reducible refine (HM _ _ _ _ _ H1.out.1).mono ?_); rintro e w2 ⟨rfl, hb2⟩; have H2 : Hid (Below wb.heap.size wb w2) := H1.out.2.trans (hb2.mono H1.out.2.size); obtain ⟨c0, c1, c2, c3, c4, c5, c6, c7⟩ := cells8k ((H2.out.block _ (lt_of_block HBX.out.2)).trans HBX.out.2); clear hb2))
  go_wp2_with (go_at_call 15; (with_reducible refine (HR _ (HX.out.below H2.out)).mono ?_); rintro e w3 ⟨rfl, hb3⟩; have H3 : Hid (Below w.heap.size w w3) := (by have h9 := H2.out.trans (hb3.mono H2.out.size); exact HBX.out.1.trans (h9.mono HBX.out.1.size)); clear hb3)
  go_ret
  exact ⟨rfl, H3.out⟩
end Go.Proofs.Ytomjnncgogkglaa
