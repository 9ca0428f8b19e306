import Derived.Test.YtomjnncgogkglaaTPT1
import Derived.Test.YtomjnncgogkglaaTPT2
import Derived.ChangeOld
namespace Go.Proofs.Ytomjnncgogkglaa
open Go.ChangeShapes Go.WideShapes Go.ChangeAt Go.RowKit
set_option linter.unusedVariables false
set_option linter.unusedSimpArgs false

theorem neq_ty (x : Ty) (W : World) : (binOp .neq 65 (.agg #[.int .i64 x.p, .int .i64 x.e, .int .i64 x.s, .int .u64 x.f, .int .u64 x.l]) (.agg #[.int .i64 x.p, .int .i64 x.e, .int .i64 x.s, .int .u64 x.f, .int .u64 x.l])).run Try.prog W = .ok (.bool false) W := by
  go_simp
theorem tallies_one {X : Nat → Se} {N : Nat} {M : List Ty} {K : List Int} (h : ∀ x, x ∈ M ↔ ∃ k, pr X k N = true ∧ x = fin X N k) (hr : M.Pairwise (fun x y => x.p < y.p)) (g : ∀ x, x ∈ K ↔ pr X x N = true) (gr : RisI K) : M = K.map (fin X N) := by
  refine pw_one (R := fun x y : Ty => x.p < y.p) (fun x y h1 h2 => by omega) hr (List.pairwise_map.2 gr) fun x => ?_
  rw [h, List.mem_map]
  constructor
  · rintro ⟨k, hk, rfl⟩; exact ⟨k, (g k).2 hk, rfl⟩
  · rintro ⟨k, hk, rfl⟩; exact ⟨k, (g k).1 hk, rfl⟩
def tyA (L : List Ty) (j : Nat) : Ty := L.getD j ⟨0, 0, 0, 0, 0⟩
theorem tyA_some {L : List Ty} {j : Nat} (h : j < L.length) : L[j]? = some (tyA L j) := by
  unfold tyA
  rw [List.getD_eq_getElem?_getD, List.getElem?_eq_getElem h]
  rfl
theorem rowT_cells {W : World} {base g c : Nat} {L : List Ty} (h : W.ownsRow base 65 5 (.slice (some ⟨g, 0, none⟩) L.length c) L.length (L.flatMap tyL)) {j : Nat} (hj : j < L.length) : W.cell? ⟨g, j * 5, none⟩ = some (.int .i64 (tyA L j).p) ∧ W.cell? ⟨g, j * 5 + 1, none⟩ = some (.int .i64 (tyA L j).e) ∧ W.cell? ⟨g, j * 5 + 2, none⟩ = some (.int .i64 (tyA L j).s) ∧ W.cell? ⟨g, j * 5 + 3, none⟩ = some (.int .u64 (tyA L j).f) ∧ W.cell? ⟨g, j * 5 + 4, none⟩ = some (.int .u64 (tyA L j).l) := by
  have key : ∀ r u, r < 5 → (tyL (tyA L j))[r]? = some u → W.cell? ⟨g, j * 5 + r, none⟩ = some u := fun r u hr hu => by
    have := h.cells (g := g) rfl (j * 5 + r) u (by rw [fmA (enc := tyL) (k := 5) (fun _ => rfl) L j _ r hr (tyA_some hj)]; exact hu)
    rw [addr_add0, Nat.zero_add] at this
    exact this
  exact ⟨key 0 _ (by decide) rfl, key 1 _ (by decide) rfl, key 2 _ (by decide) rfl, key 3 _ (by decide) rfl, key 4 _ (by decide) rfl⟩
set_option maxRecDepth 100000 in
set_option maxHeartbeats 4000000 in
theorem talliess_law (ak ac aa0 aa1 aa2 am : Int) (aq ax : Option Addr) (an acq anx acx : Nat) (A : Nat → Sa) (K : Nat → Nat → Int) (X : Nat → Se) (hq : an * 40 ≤ 140737488355328) (hqw : ∀ j, j < an → (A j).n ≤ 17592186044416) (hok : ∀ j, j < anx → SeOk (X j)) (hn : anx ≤ 1000000000000) (w : World) (hS : SsAt w aq an A K) (hX : SIn w ax anx X) :
    Calls Try.prog 8 #[.agg #[.int .i64 ak, .int .i64 ac, .int .u64 aa0, .int .i64 aa1, .int .u64 aa2, .int .i64 am, .slice aq an acq, .slice ax anx acx]] w fun e w' => e = .returned (.bool true) ∧ Below w.heap.size w w' := by
  obtain ⟨wb, hwb⟩ : ∃ wb, w.alloc (.cells #[.int .i64 ak, .int .i64 ac, .int .u64 aa0, .int .i64 aa1, .int .u64 aa2, .int .i64 am, .slice aq an acq, .slice ax anx acx] 29) = wb := ⟨_, rfl⟩
  have hb0 : Below w.heap.size w wb := by rw [← hwb]; exact (Below.refl _ w).alloc (Nat.le_refl _) _
  have hbx1 : wb.heap[w.heap.size]? = some (.cells #[.int .i64 ak, .int .i64 ac, .int .u64 aa0, .int .i64 aa1, .int .u64 aa2, .int .i64 am, .slice aq an acq, .slice ax anx acx] 29 (0, 0)) := by rw [← hwb]; exact World.alloc_heap_new w _
  have HW : Hid (w.alloc (.cells #[.int .i64 ak, .int .i64 ac, .int .u64 aa0, .int .i64 aa1, .int .u64 aa2, .int .i64 am, .slice aq an acq, .slice ax anx acx] 29) = wb) := hwb
  have HBX : Hid (Below w.heap.size w wb ∧ wb.heap[w.heap.size]? = some (.cells #[.int .i64 ak, .int .i64 ac, .int .u64 aa0, .int .i64 aa1, .int .u64 aa2, .int .i64 am, .slice aq an acq, .slice ax anx acx] 29 (0, 0))) := ⟨hb0, hbx1⟩
  have HX : Hid (SIn wb ax anx X) := hX.below hb0
  have HC := copyResult_any ak ac aa0 aa1 aa2 am aq ax an acq anx acx A K X hq hqw (by omega) wb (hS.below hb0) HX.out
  have HM9 := fun q cq x cx W (h : SIn W x anx X) => tallies_any ak ac aa0 aa1 aa2 am q x an cq anx cx X hok hn W h
  have HR := fun W (h : SIn W ax anx X) => rtallies_any ak ac aa0 aa1 aa2 am aq ax an acq anx acx X hok hn W h
  obtain ⟨c0, c1, c2, c3, c4, c5, c6, c7⟩ := cells8k hbx1
  rw [← hwb] at c0 c1 c2 c3 c4 c5 c6 c7
  clear hwb hX hb0 hbx1 hok hS
  go_enter Try.func8, Try.ntmps8
  go_upto_region 2 with (first | (go_at_call 12; rw [HW.out]; (with_reducible refine HC.mono ?_); rintro e w1 ⟨q1, cq1, C, x1, cx1, rfl, -, -, hx1, hb1⟩; have H1 : Hid (SIn w1 x1 anx X ∧ Below wb.heap.size wb w1) := ⟨hx1, hb1⟩; clear hx1 hb1 c0 c1 c2 c3 c4 c5 c6 c7) | (go_at_call 22; (with_reducible refine (HM9 _ _ _ _ _ H1.out.1).mono ?_); rintro e w2 ⟨v2, M2, rfl, hz2, ho2, hr2, hb2⟩; have H2 : Hid (Below wb.heap.size wb w2 ∧ (∀ x, x ∈ M2 ↔ ∃ k, pr X k anx = true ∧ x = fin X anx k) ∧ M2.Pairwise (fun x y => x.p < y.p) ∧ w2.ownsRow w1.heap.size 65 5 v2 M2.length (M2.flatMap tyL)) := ⟨H1.out.2.trans (hb2.mono H1.out.2.size), hz2, ho2, hr2⟩; obtain ⟨c0, c1, c2, c3, c4, c5, c6, c7⟩ := cells8k ((H2.out.1.block _ (lt_of_block HBX.out.2)).trans HBX.out.2); clear hb2 hz2 ho2 hr2))
  go_upto_region 3 with (go_at_call 23; (with_reducible refine (HR _ (HX.out.below H2.out.1)).mono ?_); rintro e w3 ⟨v3, K3, rfl, hz3, ho3, hk3, hr3, hb3⟩; have hMK := tallies_one H2.out.2.1 H2.out.2.2.1 hz3 ho3; rw [← hMK] at hr3; have hM2 : M2.length ≤ 2 * anx := (by rw [hMK, List.length_map]; exact hk3); clear hMK hk3; have H3 : Hid (w3.ownsRow w1.heap.size 65 5 v2 M2.length (M2.flatMap tyL) ∧ w3.ownsRow w2.heap.size 65 5 v3 M2.length (M2.flatMap tyL) ∧ Below w.heap.size w w3) := ⟨srow_later H2.out.2.2.2 hb3, hr3, (by have h9 := H2.out.1.trans (hb3.mono H2.out.1.size); exact HBX.out.1.trans (h9.mono HBX.out.1.size))⟩; clear hb3 hz3 ho3 hr3 c0 c1 c2 c3 c4 c5 c6 c7)
  obtain ⟨p2, k2, rfl⟩ := own_slice (own_of H3.out.1)
  obtain ⟨p3, k3, rfl⟩ := own_slice (own_of H3.out.2.1)
  go_wp2
  go_loopw [18] (fun v wr => ∃ i : Nat, v = .int .i64 i ∧ i ≤ M2.length ∧ Below w3.heap.size w3 wr) (fun v _ => M2.length - (intOf v).toNat)
  case atStart => exact ⟨0, rfl, Nat.zero_le _, Below.refl _ _⟩
  case round =>
    obtain ⟨i, rfl, hi, hbt⟩ := hrel
    have HT : Hid (Below w3.heap.size w3 wr) := hbt
    by_cases hlt : i < M2.length
    · have dl : decide ((i : Int) < (M2.length : Int)) = true := decide_eq_true (by omega)
      have hme := meas hlt
      have i0 : (0 : Int) ≤ (i : Int) := by omega
      have i1 : (i : Int) < (M2.length : Int) := by omega
      have ei : IntKind.i64.wrap ((i : Int) + 1) = (i : Int) + 1 := by rw [IntKind.wrap_i64]; omega
      obtain ⟨g2, hp2⟩ : ∃ g, p2 = some ⟨g, 0, none⟩ := by
        rcases (own_of H3.out.1).form with ⟨_, h0⟩ | ⟨g, c, h0, _⟩
        · omega
        · injection h0 with h0; exact ⟨g, h0⟩
      obtain ⟨g3, hp3⟩ : ∃ g, p3 = some ⟨g, 0, none⟩ := by
        rcases (own_of H3.out.2.1).form with ⟨_, h0⟩ | ⟨g, c, h0, _⟩
        · omega
        · injection h0 with h0; exact ⟨g, h0⟩
      subst hp2 hp3
      obtain ⟨x0, x1, x2, x3, x4⟩ := rowT_cells (srow_later H3.out.1 hbt) hlt
      obtain ⟨y0, y1, y2, y3, y4⟩ := rowT_cells (srow_later H3.out.2.1 hbt) hlt
      have ne1 := neq_ty (tyA M2 i)
      clear hbt
      go_wp2
      go_quiet (fail)
      go_wp2
      exact ⟨⟨i + 1, rfl, hlt, HT.out.trans (below_drewNq _ _ _)⟩, hme⟩
    · have dl : decide ((i : Int) < (M2.length : Int)) = false := decide_eq_false (by omega)
      clear hbt
      go_wp2
      go_ret
      exact ⟨rfl, H3.out.2.2.trans (HT.out.mono H3.out.2.2.size)⟩
end Go.Proofs.Ytomjnncgogkglaa
