import Derived.Test.YtijkokckdbhkcaaDoorTX9
import Derived.Test.YtijkokckdbhkcaaDoorTX10
import Derived.ChangeOld
namespace Go.Proofs.YtijkokckdbhkcaaDoor
open Go.ChangeShapes Go.WideShapes Go.ChangeAt Go.RowKit Go.Sort
set_option linter.unusedVariables false
set_option linter.unusedSimpArgs false

theorem drewX (w : World) : Below w.heap.size w w.drew := ⟨rfl, rfl, rfl, Nat.le_refl _, fun _ _ => rfl⟩
theorem rtext_eq (t q : Nat) (k c s m : Int) (n nx : Nat) (A : Nat → Sa) (K : Nat → Nat → Int) (X : Nat → Se) (hk : I64 k) (hc : I64 c) (ht : t < 18446744073709551616) (hs : I64 s) (hq : q < 18446744073709551616) (hm : I64 m) (hn : n * 40 ≤ 140737488355328) (hw : ∀ j, j < n → (A j).n ≤ 17592186044416) (hnx : nx ≤ 2932031007402) (hA : ∀ j, j < n → StOk (A j) (K j)) (hX : ∀ j, j < nx → SeOk (X j)) (hlim : 22 * wsum A n + 80 * n + 131 * nx + 600 ≤ 140737488355328) (y x : Option Addr) (cy cx : Nat) (C : Nat → Sa) (w : World) (he : SaEq n A C) (h : SsAt w y n C K) (h' : SIn w x nx X) (htab : Lib.TabIs Tryd.prog w "internal/strconv.uint64pow10" .u64 Lib.pow10Tab) :
    Calls Tryd.prog 4 #[.agg #[.int .i64 k, .int .i64 c, .int .u64 t, .int .i64 s, .int .u64 q, .int .i64 m, .slice y n cy, .slice x nx cx]] w fun e w' => e = .returned (bst (resB k c t s q m A K n X nx)) ∧ Below w.heap.size w w' := by
  obtain ⟨e1, e2⟩ := ssB_congr (K := K) he
  have hr := rtext_any t q k c s m y x n cy nx cx C K X hk hc ht hs hq hm hn (fun j hj => by rw [(he j hj).1]; exact hw j hj) hnx (fun j hj => by
    obtain ⟨g1, g2, g3⟩ := he j hj
    unfold StOk
    rw [g1, g2, g3]
    exact hA j hj) hX w h h' (by rw [e2]; exact hlim) htab
  have e3 : resB k c t s q m C K n X nx = resB k c t s q m A K n X nx := by unfold resB; rw [e1]
  rw [e3] at hr
  exact hr
theorem texts_law (t q : Nat) (k c s m : Int) (y x : Option Addr) (n cy nx cx : Nat) (A : Nat → Sa) (K : Nat → Nat → Int) (X : Nat → Se) (hk : I64 k) (hc : I64 c) (ht : t < 18446744073709551616) (hs : I64 s) (hq : q < 18446744073709551616) (hm : I64 m) (hn : n * 40 ≤ 140737488355328) (hw : ∀ j, j < n → (A j).n ≤ 17592186044416) (hnx : nx ≤ 2932031007402) (hA : ∀ j, j < n → StOk (A j) (K j)) (hX : ∀ j, j < nx → SeOk (X j)) (hlim : 22 * wsum A n + 80 * n + 131 * nx + 600 ≤ 140737488355328) (w : World) (h : SsAt w y n A K) (h' : SIn w x nx X) (htab : Lib.TabIs Tryd.prog w "internal/strconv.uint64pow10" .u64 Lib.pow10Tab) :
    Calls Tryd.prog 3 #[.agg #[.int .i64 k, .int .i64 c, .int .u64 t, .int .i64 s, .int .u64 q, .int .i64 m, .slice y n cy, .slice x nx cx]] w fun e w' => e = .returned (.bool true) ∧ Below w.heap.size w w' := by
  obtain ⟨wb, hwb⟩ : ∃ wb, w.alloc (.cells #[.int .i64 k, .int .i64 c, .int .u64 t, .int .i64 s, .int .u64 q, .int .i64 m, .slice y n cy, .slice x nx cx] 29) = wb := ⟨_, rfl⟩
  have hb0 : Below w.heap.size w wb := by rw [← hwb]; exact (Below.refl _ w).alloc (Nat.le_refl _) _
  have hbx1 : wb.heap[w.heap.size]? = some (.cells #[.int .i64 k, .int .i64 c, .int .u64 t, .int .i64 s, .int .u64 q, .int .i64 m, .slice y n cy, .slice x nx cx] 29 (0, 0)) := by rw [← hwb]; exact World.alloc_heap_new w _
  have hlt : w.heap.size < wb.heap.size := lt_of_block hbx1
  have KK : ∀ W, Below wb.heap.size wb W → (W.cell? ⟨w.heap.size, 0, none⟩ = some (.int .i64 k) ∧ W.cell? ⟨w.heap.size, 1, none⟩ = some (.int .i64 c) ∧ W.cell? ⟨w.heap.size, 2, none⟩ = some (.int .u64 t) ∧ W.cell? ⟨w.heap.size, 3, none⟩ = some (.int .i64 s) ∧ W.cell? ⟨w.heap.size, 4, none⟩ = some (.int .u64 q) ∧ W.cell? ⟨w.heap.size, 5, none⟩ = some (.int .i64 m) ∧ W.cell? ⟨w.heap.size, 6, none⟩ = some (.slice y n cy) ∧ W.cell? ⟨w.heap.size, 7, none⟩ = some (.slice x nx cx)) ∧ Below wb.heap.size wb W := fun W hW => by
    obtain ⟨c0, c1, c2, c3, c4, c5, c6, c7⟩ := cells8k ((hW.block _ hlt).trans hbx1)
    exact ⟨⟨c0, c1, c2, c3, c4, c5, c6, c7⟩, hW⟩
  have TB : Hid (Tb w.heap.size w) := Lib.tabBelow_of_tabIs htab
  have TW : ∀ W, Below wb.heap.size wb W → Lib.TabIs Tryd.prog W "internal/strconv.uint64pow10" .u64 Lib.pow10Tab := fun W hW => TB.out _ (hb0.trans (hW.mono hb0.size))
  have HC := fun W (hW : Below wb.heap.size wb W) => copyResult_any k c t s q m y x n cy nx cx A K X hn hw hnx W ((h.below hb0).below hW) ((h'.below hb0).below hW)
  have HT := fun y' x' cy' cx' C W (hW : Below wb.heap.size wb W) (he : SaEq n A C) (g : SsAt W y' n C K) (g' : SIn W x' nx X) => rtext_eq t q k c s m n nx A K X hk hc ht hs hq hm hn hw hnx hA hX hlim y' x' cy' cx' C W he g g' (TW W hW)
  have HR := fun W (hW : Below wb.heap.size wb W) => rtext17_any t q k c s m y x n cy nx cx A K X hk hc ht hs hq hm hn hw hnx hA hX W ((h.below hb0).below hW) ((h'.below hb0).below hW) hlim (TW W hW)
  obtain ⟨b, hb9⟩ : ∃ b, resB k c t s q m A K n X nx = b := ⟨_, rfl⟩
  simp only [hb9, bst] at HT HR
  clear hb9
  have KH : Hid (∀ W, Below wb.heap.size wb W → (W.cell? ⟨w.heap.size, 0, none⟩ = some (.int .i64 k) ∧ W.cell? ⟨w.heap.size, 1, none⟩ = some (.int .i64 c) ∧ W.cell? ⟨w.heap.size, 2, none⟩ = some (.int .u64 t) ∧ W.cell? ⟨w.heap.size, 3, none⟩ = some (.int .i64 s) ∧ W.cell? ⟨w.heap.size, 4, none⟩ = some (.int .u64 q) ∧ W.cell? ⟨w.heap.size, 5, none⟩ = some (.int .i64 m) ∧ W.cell? ⟨w.heap.size, 6, none⟩ = some (.slice y n cy) ∧ W.cell? ⟨w.heap.size, 7, none⟩ = some (.slice x nx cx)) ∧ Below wb.heap.size wb W) := KK
  have HCh : Hid (_ ∧ True) := ⟨HC, trivial⟩
  have HTh : Hid (_ ∧ True) := ⟨HT, trivial⟩
  have HRh : Hid (_ ∧ True) := ⟨HR, trivial⟩
  have HB0 : Hid (Below w.heap.size w wb) := hb0
  have HW := hid hwb
  have KP0 := KK wb (Below.refl _ _)
  obtain ⟨⟨c0, c1, c2, c3, c4, c5, c6, c7⟩, -⟩ := KP0
  rw [← hwb] at c0 c1 c2 c3 c4 c5 c6 c7
  clear hwb hb0 hbx1 KK TW HC HT HR h h' htab hA hX hw hlim hk hc ht hs hq hm TB
  go_enter Tryd.func3, Tryd.ntmps3
  go_upto_region 1 with fail
  rw [HW.out] at c0 c1 c2 c3 c4 c5 c6 c7 ⊢
  have KPd := KH.out wb (Below.refl _ _)
  have KP := KH.out wb.drew (drewX _)
  go_region_held3 (fun W => (W.cell? ⟨w.heap.size, 0, none⟩ = some (.int .i64 k) ∧ W.cell? ⟨w.heap.size, 1, none⟩ = some (.int .i64 c) ∧ W.cell? ⟨w.heap.size, 2, none⟩ = some (.int .u64 t) ∧ W.cell? ⟨w.heap.size, 3, none⟩ = some (.int .i64 s) ∧ W.cell? ⟨w.heap.size, 4, none⟩ = some (.int .u64 q) ∧ W.cell? ⟨w.heap.size, 5, none⟩ = some (.int .i64 m) ∧ W.cell? ⟨w.heap.size, 6, none⟩ = some (.slice y n cy) ∧ W.cell? ⟨w.heap.size, 7, none⟩ = some (.slice x nx cx)) ∧ Below wb.heap.size wb W) (first | with_reducible exact KP | with_reducible exact KPd) (first | (go_at_call 5; (with_reducible refine (HCh.out.1 _ ?_).mono ?_); (first | exact KP.2 | exact KPd.2); rintro e w1 ⟨q1, cq1, C, x1, cx1, rfl, hs1, he1, hx1, hb⟩; have H1 : Hid (SsAt w1 q1 n C K ∧ SaEq n A C ∧ SIn w1 x1 nx X) := ⟨hs1, he1, hx1⟩; have KP := KH.out w1 (KP.2.trans (hb.mono KP.2.size)); clear hs1 he1 hx1) | (go_at_call 4; (with_reducible refine (HTh.out.1 _ _ _ _ _ _ ?_ H1.out.2.1 ?_ ?_).mono ?_); (exact KP.2); (first | exact H1.out.1 | exact H1.out.1.below hb); (first | exact H1.out.2.2 | exact H1.out.2.2.below hb); rintro e w2 ⟨rfl, hb⟩; have KP := KH.out w2 (KP.2.trans (hb.mono KP.2.size))) | (go_at_call 6; (with_reducible refine (HRh.out.1 _ ?_).mono ?_); (first | exact KP.2 | exact KPd.2); rintro e w3 ⟨rfl, hb⟩; have KP := KH.out w3 (KP.2.trans (hb.mono KP.2.size))))
  go_wp2_with fail
  go_ret
  exact ⟨rfl, HB0.out.trans (KP.2.mono HB0.out.size)⟩
end Go.Proofs.YtijkokckdbhkcaaDoor
