import Derived.Test.YtomjnncgogkglaaTPH1
import Derived.Test.YtomjnncgogkglaaTPH2
import Derived.ChangeOld
namespace Go.Proofs.Ytomjnncgogkglaa
open Go.ChangeShapes Go.WideShapes Go.ChangeAt Go.RowKit
set_option linter.unusedVariables false
set_option linter.unusedSimpArgs false

theorem neq_bk (a b : Int) (W : World) : (binOp .neq 60 (.agg #[.int .u64 a, .int .i64 b]) (.agg #[.int .u64 a, .int .i64 b])).run Try.prog W = .ok (.bool false) W := by
  go_simp
theorem hm_one {κ : Nat → Int} {N : Nat} {L M : List (Int × Int)} (h : HM κ N L) (hr : L.Pairwise (fun x y => x.1 < y.1)) (g : HM κ N M) (gr : M.Pairwise (fun x y => x.1 < y.1)) : L = M :=
  pw_one (R := fun x y : Int × Int => x.1 < y.1) (fun x y h1 h2 => by omega) hr gr fun x => by obtain ⟨k, c⟩ := x; rw [h.mem, g.mem]
set_option maxRecDepth 100000 in
set_option maxHeartbeats 4000000 in
theorem hist_zero (ak ac aa0 aa1 aa2 am : Int) (aq ax : Option Addr) (an acq anx acx : Nat) (w : World) : Calls Try.prog 20 #[.agg #[.int .i64 ak, .int .i64 ac, .int .u64 aa0, .int .i64 aa1, .int .u64 aa2, .int .i64 am, .slice aq an acq, .slice ax anx acx], .int .u64 0] w fun e w' => e = .returned (.tuple #[.slice none 0 0, .int .i64 170]) ∧ Below w.heap.size w w' := by
  go_enter Try.func20, Try.ntmps20
  go_wp2
  go_ret2
  exact ⟨rfl, (Below.refl _ w).alloc (Nat.le_refl _) _⟩
theorem hist_all (ak ac aa0 aa1 aa2 am : Int) (aq ax : Option Addr) (an acq anx acx : Nat) (X : Nat → Se) (wd : Int) (hwd : 0 ≤ wd ∧ wd < 18446744073709551616) (hok : ∀ j, j < anx → SeOk (X j)) (hn : anx ≤ 2932031007402) (w : World) (hX : SIn w ax anx X) : Calls Try.prog 20 #[.agg #[.int .i64 ak, .int .i64 ac, .int .u64 aa0, .int .i64 aa1, .int .u64 aa2, .int .i64 am, .slice aq an acq, .slice ax anx acx], .int .u64 wd] w fun e w' => ∃ (v : Value) (M : List (Int × Int)) (e9 : Int), e = .returned (.tuple #[v, .int .i64 e9]) ∧ (wd = 0 → e9 = 170 ∧ M = []) ∧ (wd ≠ 0 → e9 = 0 ∧ HM (bkt wd X) anx M ∧ M.Pairwise (fun x y => x.1 < y.1)) ∧ w'.ownsRow w.heap.size 60 2 v M.length (M.flatMap bkL) ∧ Below w.heap.size w w' := by
  by_cases h : wd = 0
  · subst h
    refine (hist_zero ak ac aa0 aa1 aa2 am aq ax an acq anx acx w).mono ?_
    rintro e w' ⟨rfl, hb⟩
    exact ⟨_, [], 170, rfl, fun _ => ⟨rfl, rfl⟩, fun h => absurd rfl h, World.ownsRow_nil _ _ _ _, hb⟩
  · refine (hist_any ak ac aa0 aa1 aa2 am aq ax an acq anx acx X wd (by omega) hok hn w hX).mono ?_
    rintro e w' ⟨v, M, rfl, h1, h2, h3, h4⟩
    exact ⟨v, M, 0, rfl, fun h9 => absurd h9 h, fun _ => ⟨rfl, h1, h2⟩, h3, h4⟩
set_option maxRecDepth 100000 in
set_option maxHeartbeats 4000000 in
theorem rhist_zero (ak ac aa0 aa1 aa2 am : Int) (aq ax : Option Addr) (an acq anx acx : Nat) (w : World) : Calls Try.prog 21 #[.agg #[.int .i64 ak, .int .i64 ac, .int .u64 aa0, .int .i64 aa1, .int .u64 aa2, .int .i64 am, .slice aq an acq, .slice ax anx acx], .int .u64 0] w fun e w' => e = .returned (.tuple #[.slice none 0 0, .int .i64 170]) ∧ Below w.heap.size w w' := by
  go_enter Try.func21, Try.ntmps21
  go_wp2
  go_ret2
  exact ⟨rfl, (Below.refl _ w).alloc (Nat.le_refl _) _⟩
theorem rhist_all (ak ac aa0 aa1 aa2 am : Int) (aq ax : Option Addr) (an acq anx acx : Nat) (X : Nat → Se) (wd : Int) (hwd : 0 ≤ wd ∧ wd < 18446744073709551616) (hok : ∀ j, j < anx → SeOk (X j)) (hn : anx ≤ 2932031007402) (w : World) (hX : SIn w ax anx X) : Calls Try.prog 21 #[.agg #[.int .i64 ak, .int .i64 ac, .int .u64 aa0, .int .i64 aa1, .int .u64 aa2, .int .i64 am, .slice aq an acq, .slice ax anx acx], .int .u64 wd] w fun e w' => ∃ (v : Value) (M : List (Int × Int)) (e9 : Int), e = .returned (.tuple #[v, .int .i64 e9]) ∧ (wd = 0 → e9 = 170 ∧ M = []) ∧ (wd ≠ 0 → e9 = 0 ∧ HM (bkt wd X) anx M ∧ M.Pairwise (fun x y => x.1 < y.1)) ∧ w'.ownsRow w.heap.size 60 2 v M.length (M.flatMap bkL) ∧ Below w.heap.size w w' := by
  by_cases h : wd = 0
  · subst h
    refine (rhist_zero ak ac aa0 aa1 aa2 am aq ax an acq anx acx w).mono ?_
    rintro e w' ⟨rfl, hb⟩
    exact ⟨_, [], 170, rfl, fun _ => ⟨rfl, rfl⟩, fun h => absurd rfl h, World.ownsRow_nil _ _ _ _, hb⟩
  · refine (rhist_any ak ac aa0 aa1 aa2 am aq ax an acq anx acx X wd (by omega) hok hn w hX).mono ?_
    rintro e w' ⟨v, M, rfl, h1, h2, h3, h4⟩
    exact ⟨v, M, 0, rfl, fun h9 => absurd h9 h, fun _ => ⟨rfl, h1, h2⟩, h3, h4⟩
theorem hist_both {κ : Nat → Int} {N : Nat} {wd e2 e3 : Int} {M2 M3 : List (Int × Int)} (a1 : wd = 0 → e2 = 170 ∧ M2 = []) (a2 : wd ≠ 0 → e2 = 0 ∧ HM κ N M2 ∧ M2.Pairwise (fun x y => x.1 < y.1)) (b1 : wd = 0 → e3 = 170 ∧ M3 = []) (b2 : wd ≠ 0 → e3 = 0 ∧ HM κ N M3 ∧ M3.Pairwise (fun x y => x.1 < y.1)) : e2 = e3 ∧ M2 = M3 := by
  by_cases h : wd = 0
  · obtain ⟨c1, c2⟩ := a1 h
    obtain ⟨d1, d2⟩ := b1 h
    exact ⟨c1.trans d1.symm, c2.trans d2.symm⟩
  · obtain ⟨c1, c2, c3⟩ := a2 h
    obtain ⟨d1, d2, d3⟩ := b2 h
    exact ⟨c1.trans d1.symm, hm_one c2 c3 d2 d3⟩
theorem kc_sum {κ : Nat → Int} {n : Nat} {L : List (Int × Int)} (h : L.Pairwise (fun x y => x.1 ≠ y.1)) (hp : ∀ x ∈ L, 0 < kc κ x.1 n) : L.length ≤ n := by
  induction n generalizing L with
  | zero =>
    cases L with
    | nil => exact Nat.le_refl _
    | cons a l => exact absurd (hp a (by simp)) (Nat.lt_irrefl _)
  | succ n ih =>
    have h1 := ih (L := L.filter fun x => x.1 != κ n) (h.sublist List.filter_sublist) (fun x hx => by
      obtain ⟨h2, h3⟩ := List.mem_filter.1 hx
      have := hp x h2
      rw [kc_no (fun e => by rw [e] at h3; simp at h3)] at this
      exact this)
    have h2 : (L.filter fun x => x.1 == κ n).length ≤ 1 := by
      have hs : (L.filter fun x => x.1 == κ n).Pairwise (fun x y => x.1 ≠ y.1) := h.sublist List.filter_sublist
      have hm : ∀ a ∈ L.filter (fun x => x.1 == κ n), a.1 = κ n := fun a ha => by simpa using (List.mem_filter.1 ha).2
      generalize L.filter (fun x => x.1 == κ n) = Q at hs hm ⊢
      match Q, hs, hm with
      | [], _, _ => exact Nat.zero_le _
      | [a], _, _ => exact Nat.le_refl _
      | a :: b :: l, hs, hm => exact absurd ((hm a (by simp)).trans (hm b (by simp)).symm) ((List.pairwise_cons.1 hs).1 b (by simp))
    have h3 : L.length = (L.filter fun x => x.1 == κ n).length + (L.filter fun x => x.1 != κ n).length := by
      clear h hp h1 h2 ih
      induction L with
      | nil => rfl
      | cons a l ih =>
        by_cases e : a.1 = κ n
        · simp [e] at ih ⊢; omega
        · simp [e] at ih ⊢; omega
    omega
theorem hm_len {κ : Nat → Int} {N : Nat} {M : List (Int × Int)} (h : HM κ N M) : M.length ≤ N := kc_sum h.nd (fun x hx => by obtain ⟨k, c⟩ := x; exact ((h.mem k c).1 hx).1)
set_option maxRecDepth 100000 in
set_option maxHeartbeats 4000000 in
theorem hists_law (ak ac aa0 aa1 aa2 am : Int) (aq ax : Option Addr) (an acq anx acx : Nat) (A : Nat → Sa) (K : Nat → Nat → Int) (X : Nat → Se) (hq : an * 40 ≤ 140737488355328) (hqw : ∀ j, j < an → (A j).n ≤ 17592186044416) (wd : Int) (hwd : 0 ≤ wd ∧ wd < 18446744073709551616) (hok : ∀ j, j < anx → SeOk (X j)) (hn : anx ≤ 2932031007402) (w : World) (hS : SsAt w aq an A K) (hX : SIn w ax anx X) :
    Calls Try.prog 7 #[.agg #[.int .i64 ak, .int .i64 ac, .int .u64 aa0, .int .i64 aa1, .int .u64 aa2, .int .i64 am, .slice aq an acq, .slice ax anx acx], .int .u64 wd] w fun e w' => e = .returned (.bool true) ∧ Below w.heap.size w w' := by
  obtain ⟨wb, hwb⟩ : ∃ wb, w.alloc (.cells #[.int .i64 ak, .int .i64 ac, .int .u64 aa0, .int .i64 aa1, .int .u64 aa2, .int .i64 am, .slice aq an acq, .slice ax anx acx] 29) = wb := ⟨_, rfl⟩
  have hb0 : Below w.heap.size w wb := by rw [← hwb]; exact (Below.refl _ w).alloc (Nat.le_refl _) _
  have hbx1 : wb.heap[w.heap.size]? = some (.cells #[.int .i64 ak, .int .i64 ac, .int .u64 aa0, .int .i64 aa1, .int .u64 aa2, .int .i64 am, .slice aq an acq, .slice ax anx acx] 29 (0, 0)) := by rw [← hwb]; exact World.alloc_heap_new w _
  have HW : Hid (w.alloc (.cells #[.int .i64 ak, .int .i64 ac, .int .u64 aa0, .int .i64 aa1, .int .u64 aa2, .int .i64 am, .slice aq an acq, .slice ax anx acx] 29) = wb) := hwb
  have HBX : Hid (Below w.heap.size w wb ∧ wb.heap[w.heap.size]? = some (.cells #[.int .i64 ak, .int .i64 ac, .int .u64 aa0, .int .i64 aa1, .int .u64 aa2, .int .i64 am, .slice aq an acq, .slice ax anx acx] 29 (0, 0))) := ⟨hb0, hbx1⟩
  have HX : Hid (SIn wb ax anx X) := hX.below hb0
  have HC := copyResult_any ak ac aa0 aa1 aa2 am aq ax an acq anx acx A K X hq hqw hn wb (hS.below hb0) HX.out
  have HM9 := fun q cq x cx W (h : SIn W x anx X) => hist_all ak ac aa0 aa1 aa2 am q x an cq anx cx X wd hwd hok hn W h
  have HR := fun W (h : SIn W ax anx X) => rhist_all ak ac aa0 aa1 aa2 am aq ax an acq anx acx X wd hwd hok hn W h
  obtain ⟨c0, c1, c2, c3, c4, c5, c6, c7⟩ := cells8k hbx1
  rw [← hwb] at c0 c1 c2 c3 c4 c5 c6 c7
  clear hwb hX hb0 hbx1 hok hS
  go_enter Try.func7, Try.ntmps7
  go_upto_region 2 with (first | (go_at_call 12; rw [HW.out]; (with_reducible refine HC.mono ?_); rintro e w1 ⟨q1, cq1, C, x1, cx1, rfl, -, -, hx1, hb1⟩; have H1 : Hid (SIn w1 x1 anx X ∧ Below wb.heap.size wb w1) := ⟨hx1, hb1⟩; clear hx1 hb1 c0 c1 c2 c3 c4 c5 c6 c7) | (go_at_call 20; (with_reducible refine (HM9 _ _ _ _ _ H1.out.1).mono ?_); rintro e w2 ⟨v2, M2, e2, rfl, hz2, ho2, hr2, hb2⟩; have H2 : Hid (Below wb.heap.size wb w2 ∧ (wd = 0 → e2 = 170 ∧ M2 = []) ∧ (wd ≠ 0 → e2 = 0 ∧ HM (bkt wd X) anx M2 ∧ M2.Pairwise (fun x y => x.1 < y.1)) ∧ w2.ownsRow w1.heap.size 60 2 v2 M2.length (M2.flatMap bkL)) := ⟨H1.out.2.trans (hb2.mono H1.out.2.size), hz2, ho2, hr2⟩; obtain ⟨c0, c1, c2, c3, c4, c5, c6, c7⟩ := cells8k ((H2.out.1.block _ (lt_of_block HBX.out.2)).trans HBX.out.2); clear hb2 hz2 ho2 hr2))
  go_upto_region 3 with (go_at_call 21; (with_reducible refine (HR _ (HX.out.below H2.out.1)).mono ?_); rintro e w3 ⟨v3, M3, e3, rfl, hz3, ho3, hr3, hb3⟩; obtain ⟨rfl, rfl⟩ : e2 = e3 ∧ M2 = M3 := (hist_both H2.out.2.1 H2.out.2.2.1 hz3 ho3); have H3 : Hid (w3.ownsRow w1.heap.size 60 2 v2 M2.length (M2.flatMap bkL) ∧ w3.ownsRow w2.heap.size 60 2 v3 M2.length (M2.flatMap bkL) ∧ Below w.heap.size w w3) := ⟨srow_later H2.out.2.2.2 hb3, hr3, (by have h9 := H2.out.1.trans (hb3.mono H2.out.1.size); exact HBX.out.1.trans (h9.mono HBX.out.1.size))⟩; clear hb3 hz3 ho3 hr3 c0 c1 c2 c3 c4 c5 c6 c7)
  obtain ⟨p2, k2, rfl⟩ := own_slice (own_of H3.out.1)
  obtain ⟨p3, k3, rfl⟩ := own_slice (own_of H3.out.2.1)
  have hM : M2.length ≤ 2932031007402 := by
    by_cases h0 : wd = 0
    · rw [(H2.out.2.1 h0).2]; simp
    · exact Nat.le_trans (hm_len (H2.out.2.2.1 h0).2.1) hn
  go_wp2
  go_loopw [35] (fun v wr => ∃ i : Nat, v = .int .i64 i ∧ i ≤ M2.length ∧ Below w3.heap.size w3 wr) (fun v _ => M2.length - (intOf v).toNat)
  case atStart => exact ⟨0, rfl, Nat.zero_le _, Below.refl _ _⟩
  case round =>
    obtain ⟨i, rfl, hi, hbt⟩ := hrel
    have HT : Hid (Below w3.heap.size w3 wr) := hbt
    by_cases hlt : i < M2.length
    · have dl : decide ((i : Int) < (M2.length : Int)) = true := decide_eq_true (by omega)
      have hme := meas hlt
      have i0 : (0 : Int) ≤ (i : Int) := by omega
      have i1 : (i : Int) < (M2.length : Int) := by omega
      have ei : IntKind.i64.wrap ((i : Int) + 1) = (i : Int) + 1 := by rw [IntKind.wrap_i64]; omega
      obtain ⟨g2, hp2⟩ : ∃ g, p2 = some ⟨g, 0, none⟩ := by
        rcases (own_of H3.out.1).form with ⟨_, h0⟩ | ⟨g, c, h0, _⟩
        · omega
        · injection h0 with h0; exact ⟨g, h0⟩
      obtain ⟨g3, hp3⟩ : ∃ g, p3 = some ⟨g, 0, none⟩ := by
        rcases (own_of H3.out.2.1).form with ⟨_, h0⟩ | ⟨g, c, h0, _⟩
        · omega
        · injection h0 with h0; exact ⟨g, h0⟩
      subst hp2 hp3
      obtain ⟨x0, x1⟩ := rowB_cells (srow_later H3.out.1 hbt) hlt
      obtain ⟨y0, y1⟩ := rowB_cells (srow_later H3.out.2.1 hbt) hlt
      have ne1 := neq_bk (prA M2 i).1 (prA M2 i).2
      clear hbt
      go_wp2
      go_quiet (fail)
      go_wp2
      exact ⟨⟨i + 1, rfl, hlt, HT.out.trans (below_drewNq _ _ _)⟩, hme⟩
    · have dl : decide ((i : Int) < (M2.length : Int)) = false := decide_eq_false (by omega)
      clear hbt
      go_wp2
      go_ret
      exact ⟨rfl, H3.out.2.2.trans (HT.out.mono H3.out.2.2.size)⟩
end Go.Proofs.Ytomjnncgogkglaa
