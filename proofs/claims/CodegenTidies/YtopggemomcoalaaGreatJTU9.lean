import Derived.Test.YtopggemomcoalaaGreatJTU7
import Derived.Deep.CutRange
namespace Go.Proofs.YtopggemomcoalaaGreat
open Go.ChangeShapes Go.WideShapes Go.ChangeAt Go.RowKit
set_option linter.unusedVariables false
set_option linter.unusedSimpArgs false

/-! ### the document's double -/
variable {Sf : Nat → Prop} {Hf : Nat → Option Obj} {base tb g : Nat} {P : Pg} {lq : Option Addr} {lc lx : Nat}
theorem drew_block (w : World) (k : Nat) : w.drew.heap[k]? = w.heap[k]? := rfl
set_option maxRecDepth 100000 in
set_option maxHeartbeats 8000000 in
theorem double_23 (W : World) (hT : PB Sf Hf W base tb P (some ⟨g, 0, none⟩) lq lc lx) (c : Nat) (hc : c + 1 < P.n) (hn : P.n ≤ 4096) (ho : P.op (c + 1) = 23) (hB : base ≤ W.heap.size) :
    Calls Tryz.prog 58 #[.slice (some ⟨g, 0, none⟩) P.n lc, .int .i64 (c : Int)] W fun e W' => e = .returned (.int .i64 2) ∧ PB Sf Hf W' base tb (setI (setI P c 35 ((c + 1 : Nat) : Int) 0) (c + 1) 1 (wrap64 (-(P.a c))) 0) (some ⟨g, 0, none⟩) lq lc lx ∧ Below base W W' := by
  obtain ⟨⟨_, a1, _⟩, _⟩ := hT.ins (k := c) (by omega)
  obtain ⟨⟨b0, b1, b2⟩, _⟩ := hT.ins (k := c + 1) (by omega)
  rw [ho] at b0
  generalize P.a c = ax at *
  generalize P.a (c + 1) = bx at *
  generalize P.b (c + 1) = bb at *
  obtain ⟨k1, hk1⟩ : ∃ k1, c + 1 = k1 := ⟨_, rfl⟩
  obtain ⟨k2, hk2⟩ : ∃ k2, c + 2 = k2 := ⟨_, rfl⟩
  rw [hk1] at b0 b1 b2
  have e1 : IntKind.i64.wrap ((c : Int) + 1) = (k1 : Int) := by rw [IntKind.wrap_i64]; omega
  have e2 : IntKind.i64.wrap ((c : Int) + 2) = (k2 : Int) := by rw [IntKind.wrap_i64]; omega
  have j0 : (0 : Int) ≤ (k1 : Int) := by omega
  have j1 : (k1 : Int) < (P.n : Int) := by omega
  have l0 : (0 : Int) ≤ (c : Int) := by omega
  have l1 : (c : Int) < (P.n : Int) := by omega
  have H0 := tmh hT
  have HK := tmh (And.intro hk1 (And.intro hk2 hB))
  have hgl := hT.gb
  have HGB := tmh hgl
  clear hT hk1 hk2 hgl hB
  go_enter Tryz.func58, Tryz.ntmps58
  go_upto_region 1 with fail
  go_region_held3 (fun w' => w'.cell? ⟨g, c * 3 + 1, none⟩ = some (.int .i64 ax) ∧ w'.cell? ⟨g, k1 * 3, none⟩ = some (.int .i64 23) ∧ w'.cell? ⟨g, k1 * 3 + 1, none⟩ = some (.int .i64 bx) ∧ w'.cell? ⟨g, k1 * 3 + 2, none⟩ = some (.int .i64 bb)) (first | exact ⟨a1, b0, b1, b2⟩ | go_keep) (fail)
  obtain ⟨w1, hw1⟩ : ∃ w1, (W.alloc (.cells #[.int .i64 23, .int .i64 bx, .int .i64 bb] 36)).drew = w1 := ⟨_, rfl⟩
  have hy1 : w1.heap[W.heap.size]? = some (.cells #[.int .i64 23, .int .i64 bx, .int .i64 bb] 36 (0, 0)) := by rw [← hw1]; exact World.alloc_heap_new W _
  have hb1 : Below W.heap.size W w1 := by rw [← hw1]; exact ((Below.refl _ W).alloc (Nat.le_refl _) _).drew
  rw [hw1]
  obtain ⟨w2, hw2⟩ : ∃ w2, w1.alloc (.cells #[.int .i64 1, .int .i64 0, .int .i64 0] 36) = w2 := ⟨_, rfl⟩
  obtain ⟨hb2, hz2, hs2⟩ := boxed _ _ _ hw2
  have HW2 := tmh hw2
  have hy2 := (hb2.block _ (lt_of_block hy1)).trans hy1
  have hlt1 : W.heap.size < w1.heap.size := lt_of_block hy1
  have hbW2 : Below W.heap.size W w2 := hb1.trans (hb2.mono hb1.size)
  have H2 := tmh (And.intro hz2 (And.intro hbW2 (And.intro (show w1.heap.size < w2.heap.size by omega) hlt1)))
  have y0 : w2.cell? ⟨W.heap.size, 0, none⟩ = some (.int .i64 23) := cellT hy2 rfl
  have y1 : w2.cell? ⟨W.heap.size, 1, none⟩ = some (.int .i64 bx) := cellT hy2 rfl
  have z0 : w2.cell? ⟨w1.heap.size, 0, none⟩ = some (.int .i64 1) := cellT hz2 rfl
  have z1 : w2.cell? ⟨w1.heap.size, 1, none⟩ = some (.int .i64 0) := cellT hz2 rfl
  have z2 : w2.cell? ⟨w1.heap.size, 2, none⟩ = some (.int .i64 0) := cellT hz2 rfl
  have zf0 := frz hz2 0
  have zf1 := frz hz2 1
  have zf2 := frz hz2 2
  have nyz : W.heap.size ≠ w1.heap.size := by omega
  have nzy : w1.heap.size ≠ W.heap.size := by omega
  clear hw1 hy1 hb1 hw2 hb2 hz2 hs2 hy2 hlt1 hbW2 a1 b0 b1 b2
  go_upto_region 3 with fail
  rw [HW2.out]
  go_upto_region 19 with (go_at_call 97; (with_reducible refine (truth7_any _ _).mono ?_); rintro e w9 ⟨rfl, hw9⟩; have h9 := hw9.symm; clear hw9; subst h9)
  obtain ⟨w3, hw3⟩ : ∃ w3, (w2.setCell ⟨w1.heap.size, 1, none⟩ (.int .i64 (wrap64 (-ax)))) = w3 := ⟨_, rfl⟩
  rw [hw3]
  have hm2 := H2.out.2.1
  have hz3 : w3.heap[w1.heap.size]? = some (.cells #[.int .i64 1, .int .i64 (wrap64 (-ax)), .int .i64 0] 36 (0, 0)) := by
    rw [← hw3, setCell_block _ _ _ _ H2.out.1]
    rfl
  have hbW3 : Below W.heap.size W w3 := by
    rw [← hw3]
    exact (hm2.setCell (p := ⟨w1.heap.size, 1, none⟩) (Nat.le_of_lt H2.out.2.2.2) _)
  have hT3 := H0.out.later hbW3
  have H3 := tmh (And.intro hT3 (And.intro (hbW3.mono HK.out.2.2) hz3))
  clear hw3 hz3 hbW3 hm2 hT3 y0 y1 z0 z1 z2 zf0 zf1 zf2
  obtain ⟨⟨u0, u1, u2⟩, uf⟩ := H3.out.1.ins (k := c) (by have := HK.out.1; omega)
  have f0 := uf (c * 3)
  have f1 := uf (c * 3 + 1)
  have f2 := uf (c * 3 + 2)
  go_upto_region 20 with fail
  have hT4 := H3.out.1.setI c 35 (k1 : Int) 0
  have hb4 : Below base W (((w3.setCell ⟨g, c * 3, none⟩ (.int .i64 35)).setCell ⟨g, c * 3 + 1, none⟩ (.int .i64 (k1 : Int))).setCell ⟨g, c * 3 + 2, none⟩ (.int .i64 0)) := ((H3.out.2.1.setCell (p := ⟨g, c * 3, none⟩) HGB.out.1 _).setCell (p := ⟨g, c * 3 + 1, none⟩) HGB.out.1 _).setCell (p := ⟨g, c * 3 + 2, none⟩) HGB.out.1 _
  have hz4 : (((w3.setCell ⟨g, c * 3, none⟩ (.int .i64 35)).setCell ⟨g, c * 3 + 1, none⟩ (.int .i64 (k1 : Int))).setCell ⟨g, c * 3 + 2, none⟩ (.int .i64 0)).heap[w1.heap.size]? = w3.heap[w1.heap.size]? := by
    have hne : w1.heap.size ≠ g := by have := HGB.out.2.1; have := H2.out.2.2.2; omega
    rw [Below.heap_setCell _ _ _ _ hne, Below.heap_setCell _ _ _ _ hne, Below.heap_setCell _ _ _ _ hne]
  have e3 : ((w3.setCell ⟨g, c * 3, none⟩ (.int .i64 35)).setCell ⟨g, c * 3 + 1, none⟩ (.int .i64 (k1 : Int))).setCell ⟨g, c * 3 + 2, none⟩ (.int .i64 0) = w3.setCells g (c * 3) [.int .i64 35, .int .i64 (k1 : Int), .int .i64 0] := rfl
  rw [← e3] at hT4
  generalize ((w3.setCell ⟨g, c * 3, none⟩ (.int .i64 35)).setCell ⟨g, c * 3 + 1, none⟩ (.int .i64 (k1 : Int))).setCell ⟨g, c * 3 + 2, none⟩ (.int .i64 0) = w4 at hT4 hb4 hz4 ⊢
  have hz4 := hz4.trans H3.out.2.2
  have H4 := tmh (And.intro hT4 (And.intro hb4 hz4))
  have z0 : w4.cell? ⟨w1.heap.size, 0, none⟩ = some (.int .i64 1) := cellT hz4 rfl
  have z1 : w4.cell? ⟨w1.heap.size, 1, none⟩ = some (.int .i64 (wrap64 (-ax))) := cellT hz4 rfl
  have z2 : w4.cell? ⟨w1.heap.size, 2, none⟩ = some (.int .i64 0) := cellT hz4 rfl
  clear hT4 hb4 hz4 e3 u0 u1 u2 uf f0 f1 f2
  obtain ⟨⟨u0, u1, u2⟩, uf⟩ := H4.out.1.ins (k := k1) (by show k1 < P.n; have := HK.out.1; omega)
  have f0 := uf (k1 * 3)
  have f1 := uf (k1 * 3 + 1)
  have f2 := uf (k1 * 3 + 2)
  go_upto_region 21 with fail
  have hT5 := H4.out.1.setI k1 1 (wrap64 (-ax)) 0
  have hb5 : Below base W (((w4.setCell ⟨g, k1 * 3, none⟩ (.int .i64 1)).setCell ⟨g, k1 * 3 + 1, none⟩ (.int .i64 (wrap64 (-ax)))).setCell ⟨g, k1 * 3 + 2, none⟩ (.int .i64 0)) := ((H4.out.2.1.setCell (p := ⟨g, k1 * 3, none⟩) HGB.out.1 _).setCell (p := ⟨g, k1 * 3 + 1, none⟩) HGB.out.1 _).setCell (p := ⟨g, k1 * 3 + 2, none⟩) HGB.out.1 _
  have e3 : ((w4.setCell ⟨g, k1 * 3, none⟩ (.int .i64 1)).setCell ⟨g, k1 * 3 + 1, none⟩ (.int .i64 (wrap64 (-ax)))).setCell ⟨g, k1 * 3 + 2, none⟩ (.int .i64 0) = w4.setCells g (k1 * 3) [.int .i64 1, .int .i64 (wrap64 (-ax)), .int .i64 0] := rfl
  rw [← e3] at hT5
  generalize ((w4.setCell ⟨g, k1 * 3, none⟩ (.int .i64 1)).setCell ⟨g, k1 * 3 + 1, none⟩ (.int .i64 (wrap64 (-ax)))).setCell ⟨g, k1 * 3 + 2, none⟩ (.int .i64 0) = w5 at hT5 hb5 ⊢
  have H5 := tmh (And.intro hT5 hb5)
  clear hT5 hb5 e3 u0 u1 u2 uf f0 f1 f2 z0 z1 z2
  go_wp2_with fail
  go_ret
  rw [HK.out.1]
  exact ⟨rfl, H5.out.1, H5.out.2⟩
set_option maxRecDepth 100000 in
set_option maxHeartbeats 8000000 in
theorem double_24 (W : World) (hT : PB Sf Hf W base tb P (some ⟨g, 0, none⟩) lq lc lx) (c : Nat) (hc : c + 1 < P.n) (hn : P.n ≤ 4096) (ho : P.op (c + 1) = 24) (hB : base ≤ W.heap.size) :
    Calls Tryz.prog 58 #[.slice (some ⟨g, 0, none⟩) P.n lc, .int .i64 (c : Int)] W fun e W' => e = .returned (.int .i64 2) ∧ PB Sf Hf W' base tb (setI (setI P c 35 ((c + 1 : Nat) : Int) 0) (c + 1) 1 (if P.a c = 0 then 1 else 0) 0) (some ⟨g, 0, none⟩) lq lc lx ∧ Below base W W' := by
  obtain ⟨⟨_, a1, _⟩, _⟩ := hT.ins (k := c) (by omega)
  obtain ⟨⟨b0, b1, b2⟩, _⟩ := hT.ins (k := c + 1) (by omega)
  rw [ho] at b0
  generalize P.a c = ax at *
  generalize P.a (c + 1) = bx at *
  generalize P.b (c + 1) = bb at *
  obtain ⟨k1, hk1⟩ : ∃ k1, c + 1 = k1 := ⟨_, rfl⟩
  obtain ⟨k2, hk2⟩ : ∃ k2, c + 2 = k2 := ⟨_, rfl⟩
  rw [hk1] at b0 b1 b2
  have e1 : IntKind.i64.wrap ((c : Int) + 1) = (k1 : Int) := by rw [IntKind.wrap_i64]; omega
  have e2 : IntKind.i64.wrap ((c : Int) + 2) = (k2 : Int) := by rw [IntKind.wrap_i64]; omega
  have j0 : (0 : Int) ≤ (k1 : Int) := by omega
  have j1 : (k1 : Int) < (P.n : Int) := by omega
  have l0 : (0 : Int) ≤ (c : Int) := by omega
  have l1 : (c : Int) < (P.n : Int) := by omega
  have H0 := tmh hT
  have HK := tmh (And.intro hk1 (And.intro hk2 hB))
  have hgl := hT.gb
  have HGB := tmh hgl
  clear hT hk1 hk2 hgl hB
  rcases (by cases (ax == 0) <;> simp : (ax == 0) = true ∨ (ax == 0) = false) with h0 | h0
  · rw [show (if ax = 0 then (1 : Int) else 0) = 1 from if_pos (by simpa using h0)]
    have h0' : (ax != 0) = false := by simp [bne, h0]
    go_enter Tryz.func58, Tryz.ntmps58
    go_upto_region 1 with fail
    go_region_held3 (fun w' => w'.cell? ⟨g, c * 3 + 1, none⟩ = some (.int .i64 ax) ∧ w'.cell? ⟨g, k1 * 3, none⟩ = some (.int .i64 24) ∧ w'.cell? ⟨g, k1 * 3 + 1, none⟩ = some (.int .i64 bx) ∧ w'.cell? ⟨g, k1 * 3 + 2, none⟩ = some (.int .i64 bb)) (first | exact ⟨a1, b0, b1, b2⟩ | go_keep) (fail)
    obtain ⟨w1, hw1⟩ : ∃ w1, (W.alloc (.cells #[.int .i64 24, .int .i64 bx, .int .i64 bb] 36)).drew = w1 := ⟨_, rfl⟩
    have hy1 : w1.heap[W.heap.size]? = some (.cells #[.int .i64 24, .int .i64 bx, .int .i64 bb] 36 (0, 0)) := by rw [← hw1]; exact World.alloc_heap_new W _
    have hb1 : Below W.heap.size W w1 := by rw [← hw1]; exact ((Below.refl _ W).alloc (Nat.le_refl _) _).drew
    rw [hw1]
    obtain ⟨w2, hw2⟩ : ∃ w2, w1.alloc (.cells #[.int .i64 1, .int .i64 0, .int .i64 0] 36) = w2 := ⟨_, rfl⟩
    obtain ⟨hb2, hz2, hs2⟩ := boxed _ _ _ hw2
    have HW2 := tmh hw2
    have hy2 := (hb2.block _ (lt_of_block hy1)).trans hy1
    have hlt1 : W.heap.size < w1.heap.size := lt_of_block hy1
    have hbW2 : Below W.heap.size W w2 := hb1.trans (hb2.mono hb1.size)
    have H2 := tmh (And.intro hz2 (And.intro hbW2 (And.intro (show w1.heap.size < w2.heap.size by omega) hlt1)))
    have y0 : w2.cell? ⟨W.heap.size, 0, none⟩ = some (.int .i64 24) := cellT hy2 rfl
    have y1 : w2.cell? ⟨W.heap.size, 1, none⟩ = some (.int .i64 bx) := cellT hy2 rfl
    have z0 : w2.cell? ⟨w1.heap.size, 0, none⟩ = some (.int .i64 1) := cellT hz2 rfl
    have z1 : w2.cell? ⟨w1.heap.size, 1, none⟩ = some (.int .i64 0) := cellT hz2 rfl
    have z2 : w2.cell? ⟨w1.heap.size, 2, none⟩ = some (.int .i64 0) := cellT hz2 rfl
    have zf0 := frz hz2 0
    have zf1 := frz hz2 1
    have zf2 := frz hz2 2
    have nyz : W.heap.size ≠ w1.heap.size := by omega
    have nzy : w1.heap.size ≠ W.heap.size := by omega
    clear hw1 hy1 hb1 hw2 hb2 hz2 hs2 hy2 hlt1 hbW2 a1 b0 b1 b2
    go_upto_region 3 with fail
    rw [HW2.out]
    go_upto_region 19 with (go_at_call 97; (with_reducible refine (truth7_any _ _).mono ?_); rintro e w9 ⟨rfl, hw9⟩; have h9 := hw9.symm; clear hw9; subst h9)
    obtain ⟨w3, hw3⟩ : ∃ w3, (w2.setCell ⟨w1.heap.size, 1, none⟩ (.int .i64 1)) = w3 := ⟨_, rfl⟩
    rw [hw3]
    have hm2 := H2.out.2.1
    have hz3 : w3.heap[w1.heap.size]? = some (.cells #[.int .i64 1, .int .i64 1, .int .i64 0] 36 (0, 0)) := by
      rw [← hw3, setCell_block _ _ _ _ H2.out.1]
      rfl
    have hbW3 : Below W.heap.size W w3 := by
      rw [← hw3]
      exact (hm2.setCell (p := ⟨w1.heap.size, 1, none⟩) (Nat.le_of_lt H2.out.2.2.2) _)
    have hT3 := H0.out.later hbW3
    have H3 := tmh (And.intro hT3 (And.intro (hbW3.mono HK.out.2.2) hz3))
    clear hw3 hz3 hbW3 hm2 hT3 y0 y1 z0 z1 z2 zf0 zf1 zf2
    obtain ⟨⟨u0, u1, u2⟩, uf⟩ := H3.out.1.ins (k := c) (by have := HK.out.1; omega)
    have f0 := uf (c * 3)
    have f1 := uf (c * 3 + 1)
    have f2 := uf (c * 3 + 2)
    go_upto_region 20 with fail
    have hT4 := H3.out.1.setI c 35 (k1 : Int) 0
    have hb4 : Below base W (((w3.setCell ⟨g, c * 3, none⟩ (.int .i64 35)).setCell ⟨g, c * 3 + 1, none⟩ (.int .i64 (k1 : Int))).setCell ⟨g, c * 3 + 2, none⟩ (.int .i64 0)) := ((H3.out.2.1.setCell (p := ⟨g, c * 3, none⟩) HGB.out.1 _).setCell (p := ⟨g, c * 3 + 1, none⟩) HGB.out.1 _).setCell (p := ⟨g, c * 3 + 2, none⟩) HGB.out.1 _
    have hz4 : (((w3.setCell ⟨g, c * 3, none⟩ (.int .i64 35)).setCell ⟨g, c * 3 + 1, none⟩ (.int .i64 (k1 : Int))).setCell ⟨g, c * 3 + 2, none⟩ (.int .i64 0)).heap[w1.heap.size]? = w3.heap[w1.heap.size]? := by
      have hne : w1.heap.size ≠ g := by have := HGB.out.2.1; have := H2.out.2.2.2; omega
      rw [Below.heap_setCell _ _ _ _ hne, Below.heap_setCell _ _ _ _ hne, Below.heap_setCell _ _ _ _ hne]
    have e3 : ((w3.setCell ⟨g, c * 3, none⟩ (.int .i64 35)).setCell ⟨g, c * 3 + 1, none⟩ (.int .i64 (k1 : Int))).setCell ⟨g, c * 3 + 2, none⟩ (.int .i64 0) = w3.setCells g (c * 3) [.int .i64 35, .int .i64 (k1 : Int), .int .i64 0] := rfl
    rw [← e3] at hT4
    generalize ((w3.setCell ⟨g, c * 3, none⟩ (.int .i64 35)).setCell ⟨g, c * 3 + 1, none⟩ (.int .i64 (k1 : Int))).setCell ⟨g, c * 3 + 2, none⟩ (.int .i64 0) = w4 at hT4 hb4 hz4 ⊢
    have hz4 := hz4.trans H3.out.2.2
    have H4 := tmh (And.intro hT4 (And.intro hb4 hz4))
    have z0 : w4.cell? ⟨w1.heap.size, 0, none⟩ = some (.int .i64 1) := cellT hz4 rfl
    have z1 : w4.cell? ⟨w1.heap.size, 1, none⟩ = some (.int .i64 1) := cellT hz4 rfl
    have z2 : w4.cell? ⟨w1.heap.size, 2, none⟩ = some (.int .i64 0) := cellT hz4 rfl
    clear hT4 hb4 hz4 e3 u0 u1 u2 uf f0 f1 f2
    obtain ⟨⟨u0, u1, u2⟩, uf⟩ := H4.out.1.ins (k := k1) (by show k1 < P.n; have := HK.out.1; omega)
    have f0 := uf (k1 * 3)
    have f1 := uf (k1 * 3 + 1)
    have f2 := uf (k1 * 3 + 2)
    go_upto_region 21 with fail
    have hT5 := H4.out.1.setI k1 1 1 0
    have hb5 : Below base W (((w4.setCell ⟨g, k1 * 3, none⟩ (.int .i64 1)).setCell ⟨g, k1 * 3 + 1, none⟩ (.int .i64 1)).setCell ⟨g, k1 * 3 + 2, none⟩ (.int .i64 0)) := ((H4.out.2.1.setCell (p := ⟨g, k1 * 3, none⟩) HGB.out.1 _).setCell (p := ⟨g, k1 * 3 + 1, none⟩) HGB.out.1 _).setCell (p := ⟨g, k1 * 3 + 2, none⟩) HGB.out.1 _
    have e3 : ((w4.setCell ⟨g, k1 * 3, none⟩ (.int .i64 1)).setCell ⟨g, k1 * 3 + 1, none⟩ (.int .i64 1)).setCell ⟨g, k1 * 3 + 2, none⟩ (.int .i64 0) = w4.setCells g (k1 * 3) [.int .i64 1, .int .i64 1, .int .i64 0] := rfl
    rw [← e3] at hT5
    generalize ((w4.setCell ⟨g, k1 * 3, none⟩ (.int .i64 1)).setCell ⟨g, k1 * 3 + 1, none⟩ (.int .i64 1)).setCell ⟨g, k1 * 3 + 2, none⟩ (.int .i64 0) = w5 at hT5 hb5 ⊢
    have H5 := tmh (And.intro hT5 hb5)
    clear hT5 hb5 e3 u0 u1 u2 uf f0 f1 f2 z0 z1 z2
    go_wp2_with fail
    go_ret
    rw [HK.out.1]
    exact ⟨rfl, H5.out.1, H5.out.2⟩
  · rw [show (if ax = 0 then (1 : Int) else 0) = 0 from if_neg (by simpa using h0)]
    have h0' : (ax != 0) = true := by simp [bne, h0]
    go_enter Tryz.func58, Tryz.ntmps58
    go_upto_region 1 with fail
    go_region_held3 (fun w' => w'.cell? ⟨g, c * 3 + 1, none⟩ = some (.int .i64 ax) ∧ w'.cell? ⟨g, k1 * 3, none⟩ = some (.int .i64 24) ∧ w'.cell? ⟨g, k1 * 3 + 1, none⟩ = some (.int .i64 bx) ∧ w'.cell? ⟨g, k1 * 3 + 2, none⟩ = some (.int .i64 bb)) (first | exact ⟨a1, b0, b1, b2⟩ | go_keep) (fail)
    obtain ⟨w1, hw1⟩ : ∃ w1, (W.alloc (.cells #[.int .i64 24, .int .i64 bx, .int .i64 bb] 36)).drew = w1 := ⟨_, rfl⟩
    have hy1 : w1.heap[W.heap.size]? = some (.cells #[.int .i64 24, .int .i64 bx, .int .i64 bb] 36 (0, 0)) := by rw [← hw1]; exact World.alloc_heap_new W _
    have hb1 : Below W.heap.size W w1 := by rw [← hw1]; exact ((Below.refl _ W).alloc (Nat.le_refl _) _).drew
    rw [hw1]
    obtain ⟨w2, hw2⟩ : ∃ w2, w1.alloc (.cells #[.int .i64 1, .int .i64 0, .int .i64 0] 36) = w2 := ⟨_, rfl⟩
    obtain ⟨hb2, hz2, hs2⟩ := boxed _ _ _ hw2
    have HW2 := tmh hw2
    have hy2 := (hb2.block _ (lt_of_block hy1)).trans hy1
    have hlt1 : W.heap.size < w1.heap.size := lt_of_block hy1
    have hbW2 : Below W.heap.size W w2 := hb1.trans (hb2.mono hb1.size)
    have H2 := tmh (And.intro hz2 (And.intro hbW2 (And.intro (show w1.heap.size < w2.heap.size by omega) hlt1)))
    have y0 : w2.cell? ⟨W.heap.size, 0, none⟩ = some (.int .i64 24) := cellT hy2 rfl
    have y1 : w2.cell? ⟨W.heap.size, 1, none⟩ = some (.int .i64 bx) := cellT hy2 rfl
    have z0 : w2.cell? ⟨w1.heap.size, 0, none⟩ = some (.int .i64 1) := cellT hz2 rfl
    have z1 : w2.cell? ⟨w1.heap.size, 1, none⟩ = some (.int .i64 0) := cellT hz2 rfl
    have z2 : w2.cell? ⟨w1.heap.size, 2, none⟩ = some (.int .i64 0) := cellT hz2 rfl
    have zf0 := frz hz2 0
    have zf1 := frz hz2 1
    have zf2 := frz hz2 2
    have nyz : W.heap.size ≠ w1.heap.size := by omega
    have nzy : w1.heap.size ≠ W.heap.size := by omega
    clear hw1 hy1 hb1 hw2 hb2 hz2 hs2 hy2 hlt1 hbW2 a1 b0 b1 b2
    go_upto_region 3 with fail
    rw [HW2.out]
    go_upto_region 19 with (go_at_call 97; (with_reducible refine (truth7_any _ _).mono ?_); rintro e w9 ⟨rfl, hw9⟩; have h9 := hw9.symm; clear hw9; subst h9)
    obtain ⟨w3, hw3⟩ : ∃ w3, (w2.setCell ⟨w1.heap.size, 1, none⟩ (.int .i64 0)) = w3 := ⟨_, rfl⟩
    rw [hw3]
    have hm2 := H2.out.2.1
    have hz3 : w3.heap[w1.heap.size]? = some (.cells #[.int .i64 1, .int .i64 0, .int .i64 0] 36 (0, 0)) := by
      rw [← hw3, setCell_block _ _ _ _ H2.out.1]
      rfl
    have hbW3 : Below W.heap.size W w3 := by
      rw [← hw3]
      exact (hm2.setCell (p := ⟨w1.heap.size, 1, none⟩) (Nat.le_of_lt H2.out.2.2.2) _)
    have hT3 := H0.out.later hbW3
    have H3 := tmh (And.intro hT3 (And.intro (hbW3.mono HK.out.2.2) hz3))
    clear hw3 hz3 hbW3 hm2 hT3 y0 y1 z0 z1 z2 zf0 zf1 zf2
    obtain ⟨⟨u0, u1, u2⟩, uf⟩ := H3.out.1.ins (k := c) (by have := HK.out.1; omega)
    have f0 := uf (c * 3)
    have f1 := uf (c * 3 + 1)
    have f2 := uf (c * 3 + 2)
    go_upto_region 20 with fail
    have hT4 := H3.out.1.setI c 35 (k1 : Int) 0
    have hb4 : Below base W (((w3.setCell ⟨g, c * 3, none⟩ (.int .i64 35)).setCell ⟨g, c * 3 + 1, none⟩ (.int .i64 (k1 : Int))).setCell ⟨g, c * 3 + 2, none⟩ (.int .i64 0)) := ((H3.out.2.1.setCell (p := ⟨g, c * 3, none⟩) HGB.out.1 _).setCell (p := ⟨g, c * 3 + 1, none⟩) HGB.out.1 _).setCell (p := ⟨g, c * 3 + 2, none⟩) HGB.out.1 _
    have hz4 : (((w3.setCell ⟨g, c * 3, none⟩ (.int .i64 35)).setCell ⟨g, c * 3 + 1, none⟩ (.int .i64 (k1 : Int))).setCell ⟨g, c * 3 + 2, none⟩ (.int .i64 0)).heap[w1.heap.size]? = w3.heap[w1.heap.size]? := by
      have hne : w1.heap.size ≠ g := by have := HGB.out.2.1; have := H2.out.2.2.2; omega
      rw [Below.heap_setCell _ _ _ _ hne, Below.heap_setCell _ _ _ _ hne, Below.heap_setCell _ _ _ _ hne]
    have e3 : ((w3.setCell ⟨g, c * 3, none⟩ (.int .i64 35)).setCell ⟨g, c * 3 + 1, none⟩ (.int .i64 (k1 : Int))).setCell ⟨g, c * 3 + 2, none⟩ (.int .i64 0) = w3.setCells g (c * 3) [.int .i64 35, .int .i64 (k1 : Int), .int .i64 0] := rfl
    rw [← e3] at hT4
    generalize ((w3.setCell ⟨g, c * 3, none⟩ (.int .i64 35)).setCell ⟨g, c * 3 + 1, none⟩ (.int .i64 (k1 : Int))).setCell ⟨g, c * 3 + 2, none⟩ (.int .i64 0) = w4 at hT4 hb4 hz4 ⊢
    have hz4 := hz4.trans H3.out.2.2
    have H4 := tmh (And.intro hT4 (And.intro hb4 hz4))
    have z0 : w4.cell? ⟨w1.heap.size, 0, none⟩ = some (.int .i64 1) := cellT hz4 rfl
    have z1 : w4.cell? ⟨w1.heap.size, 1, none⟩ = some (.int .i64 0) := cellT hz4 rfl
    have z2 : w4.cell? ⟨w1.heap.size, 2, none⟩ = some (.int .i64 0) := cellT hz4 rfl
    clear hT4 hb4 hz4 e3 u0 u1 u2 uf f0 f1 f2
    obtain ⟨⟨u0, u1, u2⟩, uf⟩ := H4.out.1.ins (k := k1) (by show k1 < P.n; have := HK.out.1; omega)
    have f0 := uf (k1 * 3)
    have f1 := uf (k1 * 3 + 1)
    have f2 := uf (k1 * 3 + 2)
    go_upto_region 21 with fail
    have hT5 := H4.out.1.setI k1 1 0 0
    have hb5 : Below base W (((w4.setCell ⟨g, k1 * 3, none⟩ (.int .i64 1)).setCell ⟨g, k1 * 3 + 1, none⟩ (.int .i64 0)).setCell ⟨g, k1 * 3 + 2, none⟩ (.int .i64 0)) := ((H4.out.2.1.setCell (p := ⟨g, k1 * 3, none⟩) HGB.out.1 _).setCell (p := ⟨g, k1 * 3 + 1, none⟩) HGB.out.1 _).setCell (p := ⟨g, k1 * 3 + 2, none⟩) HGB.out.1 _
    have e3 : ((w4.setCell ⟨g, k1 * 3, none⟩ (.int .i64 1)).setCell ⟨g, k1 * 3 + 1, none⟩ (.int .i64 0)).setCell ⟨g, k1 * 3 + 2, none⟩ (.int .i64 0) = w4.setCells g (k1 * 3) [.int .i64 1, .int .i64 0, .int .i64 0] := rfl
    rw [← e3] at hT5
    generalize ((w4.setCell ⟨g, k1 * 3, none⟩ (.int .i64 1)).setCell ⟨g, k1 * 3 + 1, none⟩ (.int .i64 0)).setCell ⟨g, k1 * 3 + 2, none⟩ (.int .i64 0) = w5 at hT5 hb5 ⊢
    have H5 := tmh (And.intro hT5 hb5)
    clear hT5 hb5 e3 u0 u1 u2 uf f0 f1 f2 z0 z1 z2
    go_wp2_with fail
    go_ret
    rw [HK.out.1]
    exact ⟨rfl, H5.out.1, H5.out.2⟩
set_option maxRecDepth 100000 in
set_option maxHeartbeats 8000000 in
theorem double_34 (W : World) (hT : PB Sf Hf W base tb P (some ⟨g, 0, none⟩) lq lc lx) (c : Nat) (hc : c + 1 < P.n) (hn : P.n ≤ 4096) (ho : P.op (c + 1) = 34) (hB : base ≤ W.heap.size) :
    Calls Tryz.prog 58 #[.slice (some ⟨g, 0, none⟩) P.n lc, .int .i64 (c : Int)] W fun e W' => e = .returned (.int .i64 2) ∧ PB Sf Hf W' base tb (setI (setI P c 35 ((c + 1 : Nat) : Int) 0) (c + 1) 1 (if P.a c = 0 then 0 else 1) 0) (some ⟨g, 0, none⟩) lq lc lx ∧ Below base W W' := by
  obtain ⟨⟨_, a1, _⟩, _⟩ := hT.ins (k := c) (by omega)
  obtain ⟨⟨b0, b1, b2⟩, _⟩ := hT.ins (k := c + 1) (by omega)
  rw [ho] at b0
  generalize P.a c = ax at *
  generalize P.a (c + 1) = bx at *
  generalize P.b (c + 1) = bb at *
  obtain ⟨k1, hk1⟩ : ∃ k1, c + 1 = k1 := ⟨_, rfl⟩
  obtain ⟨k2, hk2⟩ : ∃ k2, c + 2 = k2 := ⟨_, rfl⟩
  rw [hk1] at b0 b1 b2
  have e1 : IntKind.i64.wrap ((c : Int) + 1) = (k1 : Int) := by rw [IntKind.wrap_i64]; omega
  have e2 : IntKind.i64.wrap ((c : Int) + 2) = (k2 : Int) := by rw [IntKind.wrap_i64]; omega
  have j0 : (0 : Int) ≤ (k1 : Int) := by omega
  have j1 : (k1 : Int) < (P.n : Int) := by omega
  have l0 : (0 : Int) ≤ (c : Int) := by omega
  have l1 : (c : Int) < (P.n : Int) := by omega
  have H0 := tmh hT
  have HK := tmh (And.intro hk1 (And.intro hk2 hB))
  have hgl := hT.gb
  have HGB := tmh hgl
  clear hT hk1 hk2 hgl hB
  rcases (by cases (ax == 0) <;> simp : (ax == 0) = true ∨ (ax == 0) = false) with h0 | h0
  · rw [show (if ax = 0 then (0 : Int) else 1) = 0 from if_pos (by simpa using h0)]
    have h0' : (ax != 0) = false := by simp [bne, h0]
    go_enter Tryz.func58, Tryz.ntmps58
    go_upto_region 1 with fail
    go_region_held3 (fun w' => w'.cell? ⟨g, c * 3 + 1, none⟩ = some (.int .i64 ax) ∧ w'.cell? ⟨g, k1 * 3, none⟩ = some (.int .i64 34) ∧ w'.cell? ⟨g, k1 * 3 + 1, none⟩ = some (.int .i64 bx) ∧ w'.cell? ⟨g, k1 * 3 + 2, none⟩ = some (.int .i64 bb)) (first | exact ⟨a1, b0, b1, b2⟩ | go_keep) (fail)
    obtain ⟨w1, hw1⟩ : ∃ w1, (W.alloc (.cells #[.int .i64 34, .int .i64 bx, .int .i64 bb] 36)).drew = w1 := ⟨_, rfl⟩
    have hy1 : w1.heap[W.heap.size]? = some (.cells #[.int .i64 34, .int .i64 bx, .int .i64 bb] 36 (0, 0)) := by rw [← hw1]; exact World.alloc_heap_new W _
    have hb1 : Below W.heap.size W w1 := by rw [← hw1]; exact ((Below.refl _ W).alloc (Nat.le_refl _) _).drew
    rw [hw1]
    obtain ⟨w2, hw2⟩ : ∃ w2, w1.alloc (.cells #[.int .i64 1, .int .i64 0, .int .i64 0] 36) = w2 := ⟨_, rfl⟩
    obtain ⟨hb2, hz2, hs2⟩ := boxed _ _ _ hw2
    have HW2 := tmh hw2
    have hy2 := (hb2.block _ (lt_of_block hy1)).trans hy1
    have hlt1 : W.heap.size < w1.heap.size := lt_of_block hy1
    have hbW2 : Below W.heap.size W w2 := hb1.trans (hb2.mono hb1.size)
    have H2 := tmh (And.intro hz2 (And.intro hbW2 (And.intro (show w1.heap.size < w2.heap.size by omega) hlt1)))
    have y0 : w2.cell? ⟨W.heap.size, 0, none⟩ = some (.int .i64 34) := cellT hy2 rfl
    have y1 : w2.cell? ⟨W.heap.size, 1, none⟩ = some (.int .i64 bx) := cellT hy2 rfl
    have z0 : w2.cell? ⟨w1.heap.size, 0, none⟩ = some (.int .i64 1) := cellT hz2 rfl
    have z1 : w2.cell? ⟨w1.heap.size, 1, none⟩ = some (.int .i64 0) := cellT hz2 rfl
    have z2 : w2.cell? ⟨w1.heap.size, 2, none⟩ = some (.int .i64 0) := cellT hz2 rfl
    have zf0 := frz hz2 0
    have zf1 := frz hz2 1
    have zf2 := frz hz2 2
    have nyz : W.heap.size ≠ w1.heap.size := by omega
    have nzy : w1.heap.size ≠ W.heap.size := by omega
    clear hw1 hy1 hb1 hw2 hb2 hz2 hs2 hy2 hlt1 hbW2 a1 b0 b1 b2
    go_upto_region 3 with fail
    rw [HW2.out]
    go_upto_region 19 with (go_at_call 97; (with_reducible refine (truth7_any _ _).mono ?_); rintro e w9 ⟨rfl, hw9⟩; have h9 := hw9.symm; clear hw9; subst h9)
    obtain ⟨w3, hw3⟩ : ∃ w3, (w2.setCell ⟨w1.heap.size, 1, none⟩ (.int .i64 0)) = w3 := ⟨_, rfl⟩
    rw [hw3]
    have hm2 := H2.out.2.1
    have hz3 : w3.heap[w1.heap.size]? = some (.cells #[.int .i64 1, .int .i64 0, .int .i64 0] 36 (0, 0)) := by
      rw [← hw3, setCell_block _ _ _ _ H2.out.1]
      rfl
    have hbW3 : Below W.heap.size W w3 := by
      rw [← hw3]
      exact (hm2.setCell (p := ⟨w1.heap.size, 1, none⟩) (Nat.le_of_lt H2.out.2.2.2) _)
    have hT3 := H0.out.later hbW3
    have H3 := tmh (And.intro hT3 (And.intro (hbW3.mono HK.out.2.2) hz3))
    clear hw3 hz3 hbW3 hm2 hT3 y0 y1 z0 z1 z2 zf0 zf1 zf2
    obtain ⟨⟨u0, u1, u2⟩, uf⟩ := H3.out.1.ins (k := c) (by have := HK.out.1; omega)
    have f0 := uf (c * 3)
    have f1 := uf (c * 3 + 1)
    have f2 := uf (c * 3 + 2)
    go_upto_region 20 with fail
    have hT4 := H3.out.1.setI c 35 (k1 : Int) 0
    have hb4 : Below base W (((w3.setCell ⟨g, c * 3, none⟩ (.int .i64 35)).setCell ⟨g, c * 3 + 1, none⟩ (.int .i64 (k1 : Int))).setCell ⟨g, c * 3 + 2, none⟩ (.int .i64 0)) := ((H3.out.2.1.setCell (p := ⟨g, c * 3, none⟩) HGB.out.1 _).setCell (p := ⟨g, c * 3 + 1, none⟩) HGB.out.1 _).setCell (p := ⟨g, c * 3 + 2, none⟩) HGB.out.1 _
    have hz4 : (((w3.setCell ⟨g, c * 3, none⟩ (.int .i64 35)).setCell ⟨g, c * 3 + 1, none⟩ (.int .i64 (k1 : Int))).setCell ⟨g, c * 3 + 2, none⟩ (.int .i64 0)).heap[w1.heap.size]? = w3.heap[w1.heap.size]? := by
      have hne : w1.heap.size ≠ g := by have := HGB.out.2.1; have := H2.out.2.2.2; omega
      rw [Below.heap_setCell _ _ _ _ hne, Below.heap_setCell _ _ _ _ hne, Below.heap_setCell _ _ _ _ hne]
    have e3 : ((w3.setCell ⟨g, c * 3, none⟩ (.int .i64 35)).setCell ⟨g, c * 3 + 1, none⟩ (.int .i64 (k1 : Int))).setCell ⟨g, c * 3 + 2, none⟩ (.int .i64 0) = w3.setCells g (c * 3) [.int .i64 35, .int .i64 (k1 : Int), .int .i64 0] := rfl
    rw [← e3] at hT4
    generalize ((w3.setCell ⟨g, c * 3, none⟩ (.int .i64 35)).setCell ⟨g, c * 3 + 1, none⟩ (.int .i64 (k1 : Int))).setCell ⟨g, c * 3 + 2, none⟩ (.int .i64 0) = w4 at hT4 hb4 hz4 ⊢
    have hz4 := hz4.trans H3.out.2.2
    have H4 := tmh (And.intro hT4 (And.intro hb4 hz4))
    have z0 : w4.cell? ⟨w1.heap.size, 0, none⟩ = some (.int .i64 1) := cellT hz4 rfl
    have z1 : w4.cell? ⟨w1.heap.size, 1, none⟩ = some (.int .i64 0) := cellT hz4 rfl
    have z2 : w4.cell? ⟨w1.heap.size, 2, none⟩ = some (.int .i64 0) := cellT hz4 rfl
    clear hT4 hb4 hz4 e3 u0 u1 u2 uf f0 f1 f2
    obtain ⟨⟨u0, u1, u2⟩, uf⟩ := H4.out.1.ins (k := k1) (by show k1 < P.n; have := HK.out.1; omega)
    have f0 := uf (k1 * 3)
    have f1 := uf (k1 * 3 + 1)
    have f2 := uf (k1 * 3 + 2)
    go_upto_region 21 with fail
    have hT5 := H4.out.1.setI k1 1 0 0
    have hb5 : Below base W (((w4.setCell ⟨g, k1 * 3, none⟩ (.int .i64 1)).setCell ⟨g, k1 * 3 + 1, none⟩ (.int .i64 0)).setCell ⟨g, k1 * 3 + 2, none⟩ (.int .i64 0)) := ((H4.out.2.1.setCell (p := ⟨g, k1 * 3, none⟩) HGB.out.1 _).setCell (p := ⟨g, k1 * 3 + 1, none⟩) HGB.out.1 _).setCell (p := ⟨g, k1 * 3 + 2, none⟩) HGB.out.1 _
    have e3 : ((w4.setCell ⟨g, k1 * 3, none⟩ (.int .i64 1)).setCell ⟨g, k1 * 3 + 1, none⟩ (.int .i64 0)).setCell ⟨g, k1 * 3 + 2, none⟩ (.int .i64 0) = w4.setCells g (k1 * 3) [.int .i64 1, .int .i64 0, .int .i64 0] := rfl
    rw [← e3] at hT5
    generalize ((w4.setCell ⟨g, k1 * 3, none⟩ (.int .i64 1)).setCell ⟨g, k1 * 3 + 1, none⟩ (.int .i64 0)).setCell ⟨g, k1 * 3 + 2, none⟩ (.int .i64 0) = w5 at hT5 hb5 ⊢
    have H5 := tmh (And.intro hT5 hb5)
    clear hT5 hb5 e3 u0 u1 u2 uf f0 f1 f2 z0 z1 z2
    go_wp2_with fail
    go_ret
    rw [HK.out.1]
    exact ⟨rfl, H5.out.1, H5.out.2⟩
  · rw [show (if ax = 0 then (0 : Int) else 1) = 1 from if_neg (by simpa using h0)]
    have h0' : (ax != 0) = true := by simp [bne, h0]
    go_enter Tryz.func58, Tryz.ntmps58
    go_upto_region 1 with fail
    go_region_held3 (fun w' => w'.cell? ⟨g, c * 3 + 1, none⟩ = some (.int .i64 ax) ∧ w'.cell? ⟨g, k1 * 3, none⟩ = some (.int .i64 34) ∧ w'.cell? ⟨g, k1 * 3 + 1, none⟩ = some (.int .i64 bx) ∧ w'.cell? ⟨g, k1 * 3 + 2, none⟩ = some (.int .i64 bb)) (first | exact ⟨a1, b0, b1, b2⟩ | go_keep) (fail)
    obtain ⟨w1, hw1⟩ : ∃ w1, (W.alloc (.cells #[.int .i64 34, .int .i64 bx, .int .i64 bb] 36)).drew = w1 := ⟨_, rfl⟩
    have hy1 : w1.heap[W.heap.size]? = some (.cells #[.int .i64 34, .int .i64 bx, .int .i64 bb] 36 (0, 0)) := by rw [← hw1]; exact World.alloc_heap_new W _
    have hb1 : Below W.heap.size W w1 := by rw [← hw1]; exact ((Below.refl _ W).alloc (Nat.le_refl _) _).drew
    rw [hw1]
    obtain ⟨w2, hw2⟩ : ∃ w2, w1.alloc (.cells #[.int .i64 1, .int .i64 0, .int .i64 0] 36) = w2 := ⟨_, rfl⟩
    obtain ⟨hb2, hz2, hs2⟩ := boxed _ _ _ hw2
    have HW2 := tmh hw2
    have hy2 := (hb2.block _ (lt_of_block hy1)).trans hy1
    have hlt1 : W.heap.size < w1.heap.size := lt_of_block hy1
    have hbW2 : Below W.heap.size W w2 := hb1.trans (hb2.mono hb1.size)
    have H2 := tmh (And.intro hz2 (And.intro hbW2 (And.intro (show w1.heap.size < w2.heap.size by omega) hlt1)))
    have y0 : w2.cell? ⟨W.heap.size, 0, none⟩ = some (.int .i64 34) := cellT hy2 rfl
    have y1 : w2.cell? ⟨W.heap.size, 1, none⟩ = some (.int .i64 bx) := cellT hy2 rfl
    have z0 : w2.cell? ⟨w1.heap.size, 0, none⟩ = some (.int .i64 1) := cellT hz2 rfl
    have z1 : w2.cell? ⟨w1.heap.size, 1, none⟩ = some (.int .i64 0) := cellT hz2 rfl
    have z2 : w2.cell? ⟨w1.heap.size, 2, none⟩ = some (.int .i64 0) := cellT hz2 rfl
    have zf0 := frz hz2 0
    have zf1 := frz hz2 1
    have zf2 := frz hz2 2
    have nyz : W.heap.size ≠ w1.heap.size := by omega
    have nzy : w1.heap.size ≠ W.heap.size := by omega
    clear hw1 hy1 hb1 hw2 hb2 hz2 hs2 hy2 hlt1 hbW2 a1 b0 b1 b2
    go_upto_region 3 with fail
    rw [HW2.out]
    go_upto_region 19 with (go_at_call 97; (with_reducible refine (truth7_any _ _).mono ?_); rintro e w9 ⟨rfl, hw9⟩; have h9 := hw9.symm; clear hw9; subst h9)
    obtain ⟨w3, hw3⟩ : ∃ w3, (w2.setCell ⟨w1.heap.size, 1, none⟩ (.int .i64 1)) = w3 := ⟨_, rfl⟩
    rw [hw3]
    have hm2 := H2.out.2.1
    have hz3 : w3.heap[w1.heap.size]? = some (.cells #[.int .i64 1, .int .i64 1, .int .i64 0] 36 (0, 0)) := by
      rw [← hw3, setCell_block _ _ _ _ H2.out.1]
      rfl
    have hbW3 : Below W.heap.size W w3 := by
      rw [← hw3]
      exact (hm2.setCell (p := ⟨w1.heap.size, 1, none⟩) (Nat.le_of_lt H2.out.2.2.2) _)
    have hT3 := H0.out.later hbW3
    have H3 := tmh (And.intro hT3 (And.intro (hbW3.mono HK.out.2.2) hz3))
    clear hw3 hz3 hbW3 hm2 hT3 y0 y1 z0 z1 z2 zf0 zf1 zf2
    obtain ⟨⟨u0, u1, u2⟩, uf⟩ := H3.out.1.ins (k := c) (by have := HK.out.1; omega)
    have f0 := uf (c * 3)
    have f1 := uf (c * 3 + 1)
    have f2 := uf (c * 3 + 2)
    go_upto_region 20 with fail
    have hT4 := H3.out.1.setI c 35 (k1 : Int) 0
    have hb4 : Below base W (((w3.setCell ⟨g, c * 3, none⟩ (.int .i64 35)).setCell ⟨g, c * 3 + 1, none⟩ (.int .i64 (k1 : Int))).setCell ⟨g, c * 3 + 2, none⟩ (.int .i64 0)) := ((H3.out.2.1.setCell (p := ⟨g, c * 3, none⟩) HGB.out.1 _).setCell (p := ⟨g, c * 3 + 1, none⟩) HGB.out.1 _).setCell (p := ⟨g, c * 3 + 2, none⟩) HGB.out.1 _
    have hz4 : (((w3.setCell ⟨g, c * 3, none⟩ (.int .i64 35)).setCell ⟨g, c * 3 + 1, none⟩ (.int .i64 (k1 : Int))).setCell ⟨g, c * 3 + 2, none⟩ (.int .i64 0)).heap[w1.heap.size]? = w3.heap[w1.heap.size]? := by
      have hne : w1.heap.size ≠ g := by have := HGB.out.2.1; have := H2.out.2.2.2; omega
      rw [Below.heap_setCell _ _ _ _ hne, Below.heap_setCell _ _ _ _ hne, Below.heap_setCell _ _ _ _ hne]
    have e3 : ((w3.setCell ⟨g, c * 3, none⟩ (.int .i64 35)).setCell ⟨g, c * 3 + 1, none⟩ (.int .i64 (k1 : Int))).setCell ⟨g, c * 3 + 2, none⟩ (.int .i64 0) = w3.setCells g (c * 3) [.int .i64 35, .int .i64 (k1 : Int), .int .i64 0] := rfl
    rw [← e3] at hT4
    generalize ((w3.setCell ⟨g, c * 3, none⟩ (.int .i64 35)).setCell ⟨g, c * 3 + 1, none⟩ (.int .i64 (k1 : Int))).setCell ⟨g, c * 3 + 2, none⟩ (.int .i64 0) = w4 at hT4 hb4 hz4 ⊢
    have hz4 := hz4.trans H3.out.2.2
    have H4 := tmh (And.intro hT4 (And.intro hb4 hz4))
    have z0 : w4.cell? ⟨w1.heap.size, 0, none⟩ = some (.int .i64 1) := cellT hz4 rfl
    have z1 : w4.cell? ⟨w1.heap.size, 1, none⟩ = some (.int .i64 1) := cellT hz4 rfl
    have z2 : w4.cell? ⟨w1.heap.size, 2, none⟩ = some (.int .i64 0) := cellT hz4 rfl
    clear hT4 hb4 hz4 e3 u0 u1 u2 uf f0 f1 f2
    obtain ⟨⟨u0, u1, u2⟩, uf⟩ := H4.out.1.ins (k := k1) (by show k1 < P.n; have := HK.out.1; omega)
    have f0 := uf (k1 * 3)
    have f1 := uf (k1 * 3 + 1)
    have f2 := uf (k1 * 3 + 2)
    go_upto_region 21 with fail
    have hT5 := H4.out.1.setI k1 1 1 0
    have hb5 : Below base W (((w4.setCell ⟨g, k1 * 3, none⟩ (.int .i64 1)).setCell ⟨g, k1 * 3 + 1, none⟩ (.int .i64 1)).setCell ⟨g, k1 * 3 + 2, none⟩ (.int .i64 0)) := ((H4.out.2.1.setCell (p := ⟨g, k1 * 3, none⟩) HGB.out.1 _).setCell (p := ⟨g, k1 * 3 + 1, none⟩) HGB.out.1 _).setCell (p := ⟨g, k1 * 3 + 2, none⟩) HGB.out.1 _
    have e3 : ((w4.setCell ⟨g, k1 * 3, none⟩ (.int .i64 1)).setCell ⟨g, k1 * 3 + 1, none⟩ (.int .i64 1)).setCell ⟨g, k1 * 3 + 2, none⟩ (.int .i64 0) = w4.setCells g (k1 * 3) [.int .i64 1, .int .i64 1, .int .i64 0] := rfl
    rw [← e3] at hT5
    generalize ((w4.setCell ⟨g, k1 * 3, none⟩ (.int .i64 1)).setCell ⟨g, k1 * 3 + 1, none⟩ (.int .i64 1)).setCell ⟨g, k1 * 3 + 2, none⟩ (.int .i64 0) = w5 at hT5 hb5 ⊢
    have H5 := tmh (And.intro hT5 hb5)
    clear hT5 hb5 e3 u0 u1 u2 uf f0 f1 f2 z0 z1 z2
    go_wp2_with fail
    go_ret
    rw [HK.out.1]
    exact ⟨rfl, H5.out.1, H5.out.2⟩
set_option maxRecDepth 100000 in
set_option maxHeartbeats 8000000 in
theorem double_25 (W : World) (hT : PB Sf Hf W base tb P (some ⟨g, 0, none⟩) lq lc lx) (c : Nat) (hc : c + 1 < P.n) (hn : P.n ≤ 4096) (ho : P.op (c + 1) = 25) (hB : base ≤ W.heap.size) :
    Calls Tryz.prog 58 #[.slice (some ⟨g, 0, none⟩) P.n lc, .int .i64 (c : Int)] W fun e W' => e = .returned (.int .i64 2) ∧ PB Sf Hf W' base tb (setI (setI P c 35 ((c + 1 : Nat) : Int) 0) (c + 1) 1 (bits BinOp.xor IntKind.i64 (-1) (P.a c)) 0) (some ⟨g, 0, none⟩) lq lc lx ∧ Below base W W' := by
  obtain ⟨⟨_, a1, _⟩, _⟩ := hT.ins (k := c) (by omega)
  obtain ⟨⟨b0, b1, b2⟩, _⟩ := hT.ins (k := c + 1) (by omega)
  rw [ho] at b0
  generalize P.a c = ax at *
  generalize P.a (c + 1) = bx at *
  generalize P.b (c + 1) = bb at *
  obtain ⟨k1, hk1⟩ : ∃ k1, c + 1 = k1 := ⟨_, rfl⟩
  obtain ⟨k2, hk2⟩ : ∃ k2, c + 2 = k2 := ⟨_, rfl⟩
  rw [hk1] at b0 b1 b2
  have e1 : IntKind.i64.wrap ((c : Int) + 1) = (k1 : Int) := by rw [IntKind.wrap_i64]; omega
  have e2 : IntKind.i64.wrap ((c : Int) + 2) = (k2 : Int) := by rw [IntKind.wrap_i64]; omega
  have j0 : (0 : Int) ≤ (k1 : Int) := by omega
  have j1 : (k1 : Int) < (P.n : Int) := by omega
  have l0 : (0 : Int) ≤ (c : Int) := by omega
  have l1 : (c : Int) < (P.n : Int) := by omega
  have H0 := tmh hT
  have HK := tmh (And.intro hk1 (And.intro hk2 hB))
  have hgl := hT.gb
  have HGB := tmh hgl
  clear hT hk1 hk2 hgl hB
  go_enter Tryz.func58, Tryz.ntmps58
  go_upto_region 1 with fail
  go_region_held3 (fun w' => w'.cell? ⟨g, c * 3 + 1, none⟩ = some (.int .i64 ax) ∧ w'.cell? ⟨g, k1 * 3, none⟩ = some (.int .i64 25) ∧ w'.cell? ⟨g, k1 * 3 + 1, none⟩ = some (.int .i64 bx) ∧ w'.cell? ⟨g, k1 * 3 + 2, none⟩ = some (.int .i64 bb)) (first | exact ⟨a1, b0, b1, b2⟩ | go_keep) (fail)
  obtain ⟨w1, hw1⟩ : ∃ w1, (W.alloc (.cells #[.int .i64 25, .int .i64 bx, .int .i64 bb] 36)).drew = w1 := ⟨_, rfl⟩
  have hy1 : w1.heap[W.heap.size]? = some (.cells #[.int .i64 25, .int .i64 bx, .int .i64 bb] 36 (0, 0)) := by rw [← hw1]; exact World.alloc_heap_new W _
  have hb1 : Below W.heap.size W w1 := by rw [← hw1]; exact ((Below.refl _ W).alloc (Nat.le_refl _) _).drew
  rw [hw1]
  obtain ⟨w2, hw2⟩ : ∃ w2, w1.alloc (.cells #[.int .i64 1, .int .i64 0, .int .i64 0] 36) = w2 := ⟨_, rfl⟩
  obtain ⟨hb2, hz2, hs2⟩ := boxed _ _ _ hw2
  have HW2 := tmh hw2
  have hy2 := (hb2.block _ (lt_of_block hy1)).trans hy1
  have hlt1 : W.heap.size < w1.heap.size := lt_of_block hy1
  have hbW2 : Below W.heap.size W w2 := hb1.trans (hb2.mono hb1.size)
  have H2 := tmh (And.intro hz2 (And.intro hbW2 (And.intro (show w1.heap.size < w2.heap.size by omega) hlt1)))
  have y0 : w2.cell? ⟨W.heap.size, 0, none⟩ = some (.int .i64 25) := cellT hy2 rfl
  have y1 : w2.cell? ⟨W.heap.size, 1, none⟩ = some (.int .i64 bx) := cellT hy2 rfl
  have z0 : w2.cell? ⟨w1.heap.size, 0, none⟩ = some (.int .i64 1) := cellT hz2 rfl
  have z1 : w2.cell? ⟨w1.heap.size, 1, none⟩ = some (.int .i64 0) := cellT hz2 rfl
  have z2 : w2.cell? ⟨w1.heap.size, 2, none⟩ = some (.int .i64 0) := cellT hz2 rfl
  have zf0 := frz hz2 0
  have zf1 := frz hz2 1
  have zf2 := frz hz2 2
  have nyz : W.heap.size ≠ w1.heap.size := by omega
  have nzy : w1.heap.size ≠ W.heap.size := by omega
  clear hw1 hy1 hb1 hw2 hb2 hz2 hs2 hy2 hlt1 hbW2 a1 b0 b1 b2
  go_upto_region 3 with fail
  rw [HW2.out]
  go_upto_region 19 with (go_at_call 97; (with_reducible refine (truth7_any _ _).mono ?_); rintro e w9 ⟨rfl, hw9⟩; have h9 := hw9.symm; clear hw9; subst h9)
  obtain ⟨w3, hw3⟩ : ∃ w3, (w2.setCell ⟨w1.heap.size, 1, none⟩ (.int .i64 (bits BinOp.xor IntKind.i64 (if IntKind.i64.signed = true then -1 else 9223372036854775807) ax))) = w3 := ⟨_, rfl⟩
  rw [hw3]
  have hm2 := H2.out.2.1
  have hz3 : w3.heap[w1.heap.size]? = some (.cells #[.int .i64 1, .int .i64 (bits BinOp.xor IntKind.i64 (-1) ax), .int .i64 0] 36 (0, 0)) := by
    rw [← hw3, setCell_block _ _ _ _ H2.out.1]
    rfl
  have hbW3 : Below W.heap.size W w3 := by
    rw [← hw3]
    exact (hm2.setCell (p := ⟨w1.heap.size, 1, none⟩) (Nat.le_of_lt H2.out.2.2.2) _)
  have hT3 := H0.out.later hbW3
  have H3 := tmh (And.intro hT3 (And.intro (hbW3.mono HK.out.2.2) hz3))
  clear hw3 hz3 hbW3 hm2 hT3 y0 y1 z0 z1 z2 zf0 zf1 zf2
  obtain ⟨⟨u0, u1, u2⟩, uf⟩ := H3.out.1.ins (k := c) (by have := HK.out.1; omega)
  have f0 := uf (c * 3)
  have f1 := uf (c * 3 + 1)
  have f2 := uf (c * 3 + 2)
  go_upto_region 20 with fail
  have hT4 := H3.out.1.setI c 35 (k1 : Int) 0
  have hb4 : Below base W (((w3.setCell ⟨g, c * 3, none⟩ (.int .i64 35)).setCell ⟨g, c * 3 + 1, none⟩ (.int .i64 (k1 : Int))).setCell ⟨g, c * 3 + 2, none⟩ (.int .i64 0)) := ((H3.out.2.1.setCell (p := ⟨g, c * 3, none⟩) HGB.out.1 _).setCell (p := ⟨g, c * 3 + 1, none⟩) HGB.out.1 _).setCell (p := ⟨g, c * 3 + 2, none⟩) HGB.out.1 _
  have hz4 : (((w3.setCell ⟨g, c * 3, none⟩ (.int .i64 35)).setCell ⟨g, c * 3 + 1, none⟩ (.int .i64 (k1 : Int))).setCell ⟨g, c * 3 + 2, none⟩ (.int .i64 0)).heap[w1.heap.size]? = w3.heap[w1.heap.size]? := by
    have hne : w1.heap.size ≠ g := by have := HGB.out.2.1; have := H2.out.2.2.2; omega
    rw [Below.heap_setCell _ _ _ _ hne, Below.heap_setCell _ _ _ _ hne, Below.heap_setCell _ _ _ _ hne]
  have e3 : ((w3.setCell ⟨g, c * 3, none⟩ (.int .i64 35)).setCell ⟨g, c * 3 + 1, none⟩ (.int .i64 (k1 : Int))).setCell ⟨g, c * 3 + 2, none⟩ (.int .i64 0) = w3.setCells g (c * 3) [.int .i64 35, .int .i64 (k1 : Int), .int .i64 0] := rfl
  rw [← e3] at hT4
  generalize ((w3.setCell ⟨g, c * 3, none⟩ (.int .i64 35)).setCell ⟨g, c * 3 + 1, none⟩ (.int .i64 (k1 : Int))).setCell ⟨g, c * 3 + 2, none⟩ (.int .i64 0) = w4 at hT4 hb4 hz4 ⊢
  have hz4 := hz4.trans H3.out.2.2
  have H4 := tmh (And.intro hT4 (And.intro hb4 hz4))
  have z0 : w4.cell? ⟨w1.heap.size, 0, none⟩ = some (.int .i64 1) := cellT hz4 rfl
  have z1 : w4.cell? ⟨w1.heap.size, 1, none⟩ = some (.int .i64 (bits BinOp.xor IntKind.i64 (-1) ax)) := cellT hz4 rfl
  have z2 : w4.cell? ⟨w1.heap.size, 2, none⟩ = some (.int .i64 0) := cellT hz4 rfl
  clear hT4 hb4 hz4 e3 u0 u1 u2 uf f0 f1 f2
  obtain ⟨⟨u0, u1, u2⟩, uf⟩ := H4.out.1.ins (k := k1) (by show k1 < P.n; have := HK.out.1; omega)
  have f0 := uf (k1 * 3)
  have f1 := uf (k1 * 3 + 1)
  have f2 := uf (k1 * 3 + 2)
  go_upto_region 21 with fail
  have hT5 := H4.out.1.setI k1 1 (bits BinOp.xor IntKind.i64 (-1) ax) 0
  have hb5 : Below base W (((w4.setCell ⟨g, k1 * 3, none⟩ (.int .i64 1)).setCell ⟨g, k1 * 3 + 1, none⟩ (.int .i64 (bits BinOp.xor IntKind.i64 (-1) ax))).setCell ⟨g, k1 * 3 + 2, none⟩ (.int .i64 0)) := ((H4.out.2.1.setCell (p := ⟨g, k1 * 3, none⟩) HGB.out.1 _).setCell (p := ⟨g, k1 * 3 + 1, none⟩) HGB.out.1 _).setCell (p := ⟨g, k1 * 3 + 2, none⟩) HGB.out.1 _
  have e3 : ((w4.setCell ⟨g, k1 * 3, none⟩ (.int .i64 1)).setCell ⟨g, k1 * 3 + 1, none⟩ (.int .i64 (bits BinOp.xor IntKind.i64 (-1) ax))).setCell ⟨g, k1 * 3 + 2, none⟩ (.int .i64 0) = w4.setCells g (k1 * 3) [.int .i64 1, .int .i64 (bits BinOp.xor IntKind.i64 (-1) ax), .int .i64 0] := rfl
  rw [← e3] at hT5
  generalize ((w4.setCell ⟨g, k1 * 3, none⟩ (.int .i64 1)).setCell ⟨g, k1 * 3 + 1, none⟩ (.int .i64 (bits BinOp.xor IntKind.i64 (-1) ax))).setCell ⟨g, k1 * 3 + 2, none⟩ (.int .i64 0) = w5 at hT5 hb5 ⊢
  have H5 := tmh (And.intro hT5 hb5)
  clear hT5 hb5 e3 u0 u1 u2 uf f0 f1 f2 z0 z1 z2
  go_wp2_with fail
  go_ret
  rw [HK.out.1, show ((c : Int) + 1) = (k1 : Int) from by have := HK.out.1; omega]
  exact ⟨rfl, H5.out.1, H5.out.2⟩
set_option maxRecDepth 100000 in
set_option maxHeartbeats 8000000 in
theorem double_2 (W : World) (hT : PB Sf Hf W base tb P (some ⟨g, 0, none⟩) lq lc lx) (c : Nat) (hc : c + 1 < P.n) (hn : P.n ≤ 4096) (ho : P.op (c + 1) = 2) (hB : base ≤ W.heap.size) :
    Calls Tryz.prog 58 #[.slice (some ⟨g, 0, none⟩) P.n lc, .int .i64 (c : Int)] W fun e W' => e = .returned (.int .i64 2) ∧ PB Sf Hf W' base tb (setI (setI P c 35 ((c + 1 : Nat) : Int) 0) (c + 1) 35 ((c + 2 : Nat) : Int) 0) (some ⟨g, 0, none⟩) lq lc lx ∧ Below base W W' := by
  obtain ⟨⟨_, a1, _⟩, _⟩ := hT.ins (k := c) (by omega)
  obtain ⟨⟨b0, b1, b2⟩, _⟩ := hT.ins (k := c + 1) (by omega)
  rw [ho] at b0
  generalize P.a c = ax at *
  generalize P.a (c + 1) = bx at *
  generalize P.b (c + 1) = bb at *
  obtain ⟨k1, hk1⟩ : ∃ k1, c + 1 = k1 := ⟨_, rfl⟩
  obtain ⟨k2, hk2⟩ : ∃ k2, c + 2 = k2 := ⟨_, rfl⟩
  rw [hk1] at b0 b1 b2
  have e1 : IntKind.i64.wrap ((c : Int) + 1) = (k1 : Int) := by rw [IntKind.wrap_i64]; omega
  have e2 : IntKind.i64.wrap ((c : Int) + 2) = (k2 : Int) := by rw [IntKind.wrap_i64]; omega
  have j0 : (0 : Int) ≤ (k1 : Int) := by omega
  have j1 : (k1 : Int) < (P.n : Int) := by omega
  have l0 : (0 : Int) ≤ (c : Int) := by omega
  have l1 : (c : Int) < (P.n : Int) := by omega
  have H0 := tmh hT
  have HK := tmh (And.intro hk1 (And.intro hk2 hB))
  have hgl := hT.gb
  have HGB := tmh hgl
  clear hT hk1 hk2 hgl hB
  go_enter Tryz.func58, Tryz.ntmps58
  go_upto_region 1 with fail
  go_region_held3 (fun w' => w'.cell? ⟨g, c * 3 + 1, none⟩ = some (.int .i64 ax) ∧ w'.cell? ⟨g, k1 * 3, none⟩ = some (.int .i64 2) ∧ w'.cell? ⟨g, k1 * 3 + 1, none⟩ = some (.int .i64 bx) ∧ w'.cell? ⟨g, k1 * 3 + 2, none⟩ = some (.int .i64 bb)) (first | exact ⟨a1, b0, b1, b2⟩ | go_keep) (fail)
  obtain ⟨w1, hw1⟩ : ∃ w1, (W.alloc (.cells #[.int .i64 2, .int .i64 bx, .int .i64 bb] 36)).drew = w1 := ⟨_, rfl⟩
  have hy1 : w1.heap[W.heap.size]? = some (.cells #[.int .i64 2, .int .i64 bx, .int .i64 bb] 36 (0, 0)) := by rw [← hw1]; exact World.alloc_heap_new W _
  have hb1 : Below W.heap.size W w1 := by rw [← hw1]; exact ((Below.refl _ W).alloc (Nat.le_refl _) _).drew
  rw [hw1]
  obtain ⟨w2, hw2⟩ : ∃ w2, w1.alloc (.cells #[.int .i64 1, .int .i64 0, .int .i64 0] 36) = w2 := ⟨_, rfl⟩
  obtain ⟨hb2, hz2, hs2⟩ := boxed _ _ _ hw2
  have HW2 := tmh hw2
  have hy2 := (hb2.block _ (lt_of_block hy1)).trans hy1
  have hlt1 : W.heap.size < w1.heap.size := lt_of_block hy1
  have hbW2 : Below W.heap.size W w2 := hb1.trans (hb2.mono hb1.size)
  have H2 := tmh (And.intro hz2 (And.intro hbW2 (And.intro (show w1.heap.size < w2.heap.size by omega) hlt1)))
  have y0 : w2.cell? ⟨W.heap.size, 0, none⟩ = some (.int .i64 2) := cellT hy2 rfl
  have y1 : w2.cell? ⟨W.heap.size, 1, none⟩ = some (.int .i64 bx) := cellT hy2 rfl
  have z0 : w2.cell? ⟨w1.heap.size, 0, none⟩ = some (.int .i64 1) := cellT hz2 rfl
  have z1 : w2.cell? ⟨w1.heap.size, 1, none⟩ = some (.int .i64 0) := cellT hz2 rfl
  have z2 : w2.cell? ⟨w1.heap.size, 2, none⟩ = some (.int .i64 0) := cellT hz2 rfl
  have zf0 := frz hz2 0
  have zf1 := frz hz2 1
  have zf2 := frz hz2 2
  have nyz : W.heap.size ≠ w1.heap.size := by omega
  have nzy : w1.heap.size ≠ W.heap.size := by omega
  clear hw1 hy1 hb1 hw2 hb2 hz2 hs2 hy2 hlt1 hbW2 a1 b0 b1 b2
  go_upto_region 3 with fail
  rw [HW2.out]
  go_upto_region 19 with (go_at_call 97; (with_reducible refine (truth7_any _ _).mono ?_); rintro e w9 ⟨rfl, hw9⟩; have h9 := hw9.symm; clear hw9; subst h9)
  obtain ⟨w3, hw3⟩ : ∃ w3, (((w2.setCell ⟨w1.heap.size, 0, none⟩ (.int .i64 35)).setCell ⟨w1.heap.size, 1, none⟩ (.int .i64 (k2 : Int))).setCell ⟨w1.heap.size, 2, none⟩ (.int .i64 0)) = w3 := ⟨_, rfl⟩
  rw [hw3]
  have hm2 := H2.out.2.1
  have hz3 : w3.heap[w1.heap.size]? = some (.cells #[.int .i64 35, .int .i64 (k2 : Int), .int .i64 0] 36 (0, 0)) := by
    rw [← hw3, setCell_block _ _ _ _ (setCell_block _ _ _ _ (setCell_block _ _ _ _ H2.out.1))]
    rfl
  have hbW3 : Below W.heap.size W w3 := by
    rw [← hw3]
    exact (((hm2.setCell (p := ⟨w1.heap.size, 0, none⟩) (Nat.le_of_lt H2.out.2.2.2) _).setCell (p := ⟨w1.heap.size, 1, none⟩) (Nat.le_of_lt H2.out.2.2.2) _).setCell (p := ⟨w1.heap.size, 2, none⟩) (Nat.le_of_lt H2.out.2.2.2) _)
  have hT3 := H0.out.later hbW3
  have H3 := tmh (And.intro hT3 (And.intro (hbW3.mono HK.out.2.2) hz3))
  clear hw3 hz3 hbW3 hm2 hT3 y0 y1 z0 z1 z2 zf0 zf1 zf2
  obtain ⟨⟨u0, u1, u2⟩, uf⟩ := H3.out.1.ins (k := c) (by have := HK.out.1; omega)
  have f0 := uf (c * 3)
  have f1 := uf (c * 3 + 1)
  have f2 := uf (c * 3 + 2)
  go_upto_region 20 with fail
  have hT4 := H3.out.1.setI c 35 (k1 : Int) 0
  have hb4 : Below base W (((w3.setCell ⟨g, c * 3, none⟩ (.int .i64 35)).setCell ⟨g, c * 3 + 1, none⟩ (.int .i64 (k1 : Int))).setCell ⟨g, c * 3 + 2, none⟩ (.int .i64 0)) := ((H3.out.2.1.setCell (p := ⟨g, c * 3, none⟩) HGB.out.1 _).setCell (p := ⟨g, c * 3 + 1, none⟩) HGB.out.1 _).setCell (p := ⟨g, c * 3 + 2, none⟩) HGB.out.1 _
  have hz4 : (((w3.setCell ⟨g, c * 3, none⟩ (.int .i64 35)).setCell ⟨g, c * 3 + 1, none⟩ (.int .i64 (k1 : Int))).setCell ⟨g, c * 3 + 2, none⟩ (.int .i64 0)).heap[w1.heap.size]? = w3.heap[w1.heap.size]? := by
    have hne : w1.heap.size ≠ g := by have := HGB.out.2.1; have := H2.out.2.2.2; omega
    rw [Below.heap_setCell _ _ _ _ hne, Below.heap_setCell _ _ _ _ hne, Below.heap_setCell _ _ _ _ hne]
  have e3 : ((w3.setCell ⟨g, c * 3, none⟩ (.int .i64 35)).setCell ⟨g, c * 3 + 1, none⟩ (.int .i64 (k1 : Int))).setCell ⟨g, c * 3 + 2, none⟩ (.int .i64 0) = w3.setCells g (c * 3) [.int .i64 35, .int .i64 (k1 : Int), .int .i64 0] := rfl
  rw [← e3] at hT4
  generalize ((w3.setCell ⟨g, c * 3, none⟩ (.int .i64 35)).setCell ⟨g, c * 3 + 1, none⟩ (.int .i64 (k1 : Int))).setCell ⟨g, c * 3 + 2, none⟩ (.int .i64 0) = w4 at hT4 hb4 hz4 ⊢
  have hz4 := hz4.trans H3.out.2.2
  have H4 := tmh (And.intro hT4 (And.intro hb4 hz4))
  have z0 : w4.cell? ⟨w1.heap.size, 0, none⟩ = some (.int .i64 35) := cellT hz4 rfl
  have z1 : w4.cell? ⟨w1.heap.size, 1, none⟩ = some (.int .i64 (k2 : Int)) := cellT hz4 rfl
  have z2 : w4.cell? ⟨w1.heap.size, 2, none⟩ = some (.int .i64 0) := cellT hz4 rfl
  clear hT4 hb4 hz4 e3 u0 u1 u2 uf f0 f1 f2
  obtain ⟨⟨u0, u1, u2⟩, uf⟩ := H4.out.1.ins (k := k1) (by show k1 < P.n; have := HK.out.1; omega)
  have f0 := uf (k1 * 3)
  have f1 := uf (k1 * 3 + 1)
  have f2 := uf (k1 * 3 + 2)
  go_upto_region 21 with fail
  have hT5 := H4.out.1.setI k1 35 (k2 : Int) 0
  have hb5 : Below base W (((w4.setCell ⟨g, k1 * 3, none⟩ (.int .i64 35)).setCell ⟨g, k1 * 3 + 1, none⟩ (.int .i64 (k2 : Int))).setCell ⟨g, k1 * 3 + 2, none⟩ (.int .i64 0)) := ((H4.out.2.1.setCell (p := ⟨g, k1 * 3, none⟩) HGB.out.1 _).setCell (p := ⟨g, k1 * 3 + 1, none⟩) HGB.out.1 _).setCell (p := ⟨g, k1 * 3 + 2, none⟩) HGB.out.1 _
  have e3 : ((w4.setCell ⟨g, k1 * 3, none⟩ (.int .i64 35)).setCell ⟨g, k1 * 3 + 1, none⟩ (.int .i64 (k2 : Int))).setCell ⟨g, k1 * 3 + 2, none⟩ (.int .i64 0) = w4.setCells g (k1 * 3) [.int .i64 35, .int .i64 (k2 : Int), .int .i64 0] := rfl
  rw [← e3] at hT5
  generalize ((w4.setCell ⟨g, k1 * 3, none⟩ (.int .i64 35)).setCell ⟨g, k1 * 3 + 1, none⟩ (.int .i64 (k2 : Int))).setCell ⟨g, k1 * 3 + 2, none⟩ (.int .i64 0) = w5 at hT5 hb5 ⊢
  have H5 := tmh (And.intro hT5 hb5)
  clear hT5 hb5 e3 u0 u1 u2 uf f0 f1 f2 z0 z1 z2
  go_wp2_with fail
  go_ret
  rw [HK.out.1, HK.out.2.1]
  exact ⟨rfl, H5.out.1, H5.out.2⟩
set_option maxRecDepth 100000 in
set_option maxHeartbeats 8000000 in
theorem double_36 (W : World) (hT : PB Sf Hf W base tb P (some ⟨g, 0, none⟩) lq lc lx) (c : Nat) (hc : c + 1 < P.n) (hn : P.n ≤ 4096) (ho : P.op (c + 1) = 36) (hB : base ≤ W.heap.size) :
    Calls Tryz.prog 58 #[.slice (some ⟨g, 0, none⟩) P.n lc, .int .i64 (c : Int)] W fun e W' => e = .returned (.int .i64 2) ∧ PB Sf Hf W' base tb (setI (setI P c 35 ((c + 1 : Nat) : Int) 0) (c + 1) 35 (if P.a c = 0 then P.a (c + 1) else ((c + 2 : Nat) : Int)) 0) (some ⟨g, 0, none⟩) lq lc lx ∧ Below base W W' := by
  obtain ⟨⟨_, a1, _⟩, _⟩ := hT.ins (k := c) (by omega)
  obtain ⟨⟨b0, b1, b2⟩, _⟩ := hT.ins (k := c + 1) (by omega)
  rw [ho] at b0
  generalize P.a c = ax at *
  generalize P.a (c + 1) = bx at *
  generalize P.b (c + 1) = bb at *
  obtain ⟨k1, hk1⟩ : ∃ k1, c + 1 = k1 := ⟨_, rfl⟩
  obtain ⟨k2, hk2⟩ : ∃ k2, c + 2 = k2 := ⟨_, rfl⟩
  rw [hk1] at b0 b1 b2
  have e1 : IntKind.i64.wrap ((c : Int) + 1) = (k1 : Int) := by rw [IntKind.wrap_i64]; omega
  have e2 : IntKind.i64.wrap ((c : Int) + 2) = (k2 : Int) := by rw [IntKind.wrap_i64]; omega
  have j0 : (0 : Int) ≤ (k1 : Int) := by omega
  have j1 : (k1 : Int) < (P.n : Int) := by omega
  have l0 : (0 : Int) ≤ (c : Int) := by omega
  have l1 : (c : Int) < (P.n : Int) := by omega
  have H0 := tmh hT
  have HK := tmh (And.intro hk1 (And.intro hk2 hB))
  have hgl := hT.gb
  have HGB := tmh hgl
  clear hT hk1 hk2 hgl hB
  rcases (by cases (ax == 0) <;> simp : (ax == 0) = true ∨ (ax == 0) = false) with h0 | h0
  · rw [show (if ax = 0 then bx else ((c + 2 : Nat) : Int)) = bx from if_pos (by simpa using h0)]
    go_enter Tryz.func58, Tryz.ntmps58
    go_upto_region 1 with fail
    go_region_held3 (fun w' => w'.cell? ⟨g, c * 3 + 1, none⟩ = some (.int .i64 ax) ∧ w'.cell? ⟨g, k1 * 3, none⟩ = some (.int .i64 36) ∧ w'.cell? ⟨g, k1 * 3 + 1, none⟩ = some (.int .i64 bx) ∧ w'.cell? ⟨g, k1 * 3 + 2, none⟩ = some (.int .i64 bb)) (first | exact ⟨a1, b0, b1, b2⟩ | go_keep) (fail)
    obtain ⟨w1, hw1⟩ : ∃ w1, (W.alloc (.cells #[.int .i64 36, .int .i64 bx, .int .i64 bb] 36)).drew = w1 := ⟨_, rfl⟩
    have hy1 : w1.heap[W.heap.size]? = some (.cells #[.int .i64 36, .int .i64 bx, .int .i64 bb] 36 (0, 0)) := by rw [← hw1]; exact World.alloc_heap_new W _
    have hb1 : Below W.heap.size W w1 := by rw [← hw1]; exact ((Below.refl _ W).alloc (Nat.le_refl _) _).drew
    rw [hw1]
    obtain ⟨w2, hw2⟩ : ∃ w2, w1.alloc (.cells #[.int .i64 1, .int .i64 0, .int .i64 0] 36) = w2 := ⟨_, rfl⟩
    obtain ⟨hb2, hz2, hs2⟩ := boxed _ _ _ hw2
    have HW2 := tmh hw2
    have hy2 := (hb2.block _ (lt_of_block hy1)).trans hy1
    have hlt1 : W.heap.size < w1.heap.size := lt_of_block hy1
    have hbW2 : Below W.heap.size W w2 := hb1.trans (hb2.mono hb1.size)
    have H2 := tmh (And.intro hz2 (And.intro hbW2 (And.intro (show w1.heap.size < w2.heap.size by omega) hlt1)))
    have y0 : w2.cell? ⟨W.heap.size, 0, none⟩ = some (.int .i64 36) := cellT hy2 rfl
    have y1 : w2.cell? ⟨W.heap.size, 1, none⟩ = some (.int .i64 bx) := cellT hy2 rfl
    have z0 : w2.cell? ⟨w1.heap.size, 0, none⟩ = some (.int .i64 1) := cellT hz2 rfl
    have z1 : w2.cell? ⟨w1.heap.size, 1, none⟩ = some (.int .i64 0) := cellT hz2 rfl
    have z2 : w2.cell? ⟨w1.heap.size, 2, none⟩ = some (.int .i64 0) := cellT hz2 rfl
    have zf0 := frz hz2 0
    have zf1 := frz hz2 1
    have zf2 := frz hz2 2
    have nyz : W.heap.size ≠ w1.heap.size := by omega
    have nzy : w1.heap.size ≠ W.heap.size := by omega
    clear hw1 hy1 hb1 hw2 hb2 hz2 hs2 hy2 hlt1 hbW2 a1 b0 b1 b2
    go_upto_region 3 with fail
    rw [HW2.out]
    go_upto_region 19 with (go_at_call 97; (with_reducible refine (truth7_any _ _).mono ?_); rintro e w9 ⟨rfl, hw9⟩; have h9 := hw9.symm; clear hw9; subst h9)
    obtain ⟨w3, hw3⟩ : ∃ w3, ((((w2.setCell ⟨w1.heap.size, 0, none⟩ (.int .i64 35)).setCell ⟨w1.heap.size, 1, none⟩ (.int .i64 (k2 : Int))).setCell ⟨w1.heap.size, 2, none⟩ (.int .i64 0)).setCell ⟨w1.heap.size, 1, none⟩ (.int .i64 bx)) = w3 := ⟨_, rfl⟩
    rw [hw3]
    have hm2 := H2.out.2.1
    have hz3 : w3.heap[w1.heap.size]? = some (.cells #[.int .i64 35, .int .i64 bx, .int .i64 0] 36 (0, 0)) := by
      rw [← hw3, setCell_block _ _ _ _ (setCell_block _ _ _ _ (setCell_block _ _ _ _ (setCell_block _ _ _ _ H2.out.1)))]
      rfl
    have hbW3 : Below W.heap.size W w3 := by
      rw [← hw3]
      exact ((((hm2.setCell (p := ⟨w1.heap.size, 0, none⟩) (Nat.le_of_lt H2.out.2.2.2) _).setCell (p := ⟨w1.heap.size, 1, none⟩) (Nat.le_of_lt H2.out.2.2.2) _).setCell (p := ⟨w1.heap.size, 2, none⟩) (Nat.le_of_lt H2.out.2.2.2) _).setCell (p := ⟨w1.heap.size, 1, none⟩) (Nat.le_of_lt H2.out.2.2.2) _)
    have hT3 := H0.out.later hbW3
    have H3 := tmh (And.intro hT3 (And.intro (hbW3.mono HK.out.2.2) hz3))
    clear hw3 hz3 hbW3 hm2 hT3 y0 y1 z0 z1 z2 zf0 zf1 zf2
    obtain ⟨⟨u0, u1, u2⟩, uf⟩ := H3.out.1.ins (k := c) (by have := HK.out.1; omega)
    have f0 := uf (c * 3)
    have f1 := uf (c * 3 + 1)
    have f2 := uf (c * 3 + 2)
    go_upto_region 20 with fail
    have hT4 := H3.out.1.setI c 35 (k1 : Int) 0
    have hb4 : Below base W (((w3.setCell ⟨g, c * 3, none⟩ (.int .i64 35)).setCell ⟨g, c * 3 + 1, none⟩ (.int .i64 (k1 : Int))).setCell ⟨g, c * 3 + 2, none⟩ (.int .i64 0)) := ((H3.out.2.1.setCell (p := ⟨g, c * 3, none⟩) HGB.out.1 _).setCell (p := ⟨g, c * 3 + 1, none⟩) HGB.out.1 _).setCell (p := ⟨g, c * 3 + 2, none⟩) HGB.out.1 _
    have hz4 : (((w3.setCell ⟨g, c * 3, none⟩ (.int .i64 35)).setCell ⟨g, c * 3 + 1, none⟩ (.int .i64 (k1 : Int))).setCell ⟨g, c * 3 + 2, none⟩ (.int .i64 0)).heap[w1.heap.size]? = w3.heap[w1.heap.size]? := by
      have hne : w1.heap.size ≠ g := by have := HGB.out.2.1; have := H2.out.2.2.2; omega
      rw [Below.heap_setCell _ _ _ _ hne, Below.heap_setCell _ _ _ _ hne, Below.heap_setCell _ _ _ _ hne]
    have e3 : ((w3.setCell ⟨g, c * 3, none⟩ (.int .i64 35)).setCell ⟨g, c * 3 + 1, none⟩ (.int .i64 (k1 : Int))).setCell ⟨g, c * 3 + 2, none⟩ (.int .i64 0) = w3.setCells g (c * 3) [.int .i64 35, .int .i64 (k1 : Int), .int .i64 0] := rfl
    rw [← e3] at hT4
    generalize ((w3.setCell ⟨g, c * 3, none⟩ (.int .i64 35)).setCell ⟨g, c * 3 + 1, none⟩ (.int .i64 (k1 : Int))).setCell ⟨g, c * 3 + 2, none⟩ (.int .i64 0) = w4 at hT4 hb4 hz4 ⊢
    have hz4 := hz4.trans H3.out.2.2
    have H4 := tmh (And.intro hT4 (And.intro hb4 hz4))
    have z0 : w4.cell? ⟨w1.heap.size, 0, none⟩ = some (.int .i64 35) := cellT hz4 rfl
    have z1 : w4.cell? ⟨w1.heap.size, 1, none⟩ = some (.int .i64 bx) := cellT hz4 rfl
    have z2 : w4.cell? ⟨w1.heap.size, 2, none⟩ = some (.int .i64 0) := cellT hz4 rfl
    clear hT4 hb4 hz4 e3 u0 u1 u2 uf f0 f1 f2
    obtain ⟨⟨u0, u1, u2⟩, uf⟩ := H4.out.1.ins (k := k1) (by show k1 < P.n; have := HK.out.1; omega)
    have f0 := uf (k1 * 3)
    have f1 := uf (k1 * 3 + 1)
    have f2 := uf (k1 * 3 + 2)
    go_upto_region 21 with fail
    have hT5 := H4.out.1.setI k1 35 bx 0
    have hb5 : Below base W (((w4.setCell ⟨g, k1 * 3, none⟩ (.int .i64 35)).setCell ⟨g, k1 * 3 + 1, none⟩ (.int .i64 bx)).setCell ⟨g, k1 * 3 + 2, none⟩ (.int .i64 0)) := ((H4.out.2.1.setCell (p := ⟨g, k1 * 3, none⟩) HGB.out.1 _).setCell (p := ⟨g, k1 * 3 + 1, none⟩) HGB.out.1 _).setCell (p := ⟨g, k1 * 3 + 2, none⟩) HGB.out.1 _
    have e3 : ((w4.setCell ⟨g, k1 * 3, none⟩ (.int .i64 35)).setCell ⟨g, k1 * 3 + 1, none⟩ (.int .i64 bx)).setCell ⟨g, k1 * 3 + 2, none⟩ (.int .i64 0) = w4.setCells g (k1 * 3) [.int .i64 35, .int .i64 bx, .int .i64 0] := rfl
    rw [← e3] at hT5
    generalize ((w4.setCell ⟨g, k1 * 3, none⟩ (.int .i64 35)).setCell ⟨g, k1 * 3 + 1, none⟩ (.int .i64 bx)).setCell ⟨g, k1 * 3 + 2, none⟩ (.int .i64 0) = w5 at hT5 hb5 ⊢
    have H5 := tmh (And.intro hT5 hb5)
    clear hT5 hb5 e3 u0 u1 u2 uf f0 f1 f2 z0 z1 z2
    go_wp2_with fail
    go_ret
    rw [HK.out.1]
    exact ⟨rfl, H5.out.1, H5.out.2⟩
  · rw [show (if ax = 0 then bx else ((c + 2 : Nat) : Int)) = ((c + 2 : Nat) : Int) from if_neg (by simpa using h0)]
    go_enter Tryz.func58, Tryz.ntmps58
    go_upto_region 1 with fail
    go_region_held3 (fun w' => w'.cell? ⟨g, c * 3 + 1, none⟩ = some (.int .i64 ax) ∧ w'.cell? ⟨g, k1 * 3, none⟩ = some (.int .i64 36) ∧ w'.cell? ⟨g, k1 * 3 + 1, none⟩ = some (.int .i64 bx) ∧ w'.cell? ⟨g, k1 * 3 + 2, none⟩ = some (.int .i64 bb)) (first | exact ⟨a1, b0, b1, b2⟩ | go_keep) (fail)
    obtain ⟨w1, hw1⟩ : ∃ w1, (W.alloc (.cells #[.int .i64 36, .int .i64 bx, .int .i64 bb] 36)).drew = w1 := ⟨_, rfl⟩
    have hy1 : w1.heap[W.heap.size]? = some (.cells #[.int .i64 36, .int .i64 bx, .int .i64 bb] 36 (0, 0)) := by rw [← hw1]; exact World.alloc_heap_new W _
    have hb1 : Below W.heap.size W w1 := by rw [← hw1]; exact ((Below.refl _ W).alloc (Nat.le_refl _) _).drew
    rw [hw1]
    obtain ⟨w2, hw2⟩ : ∃ w2, w1.alloc (.cells #[.int .i64 1, .int .i64 0, .int .i64 0] 36) = w2 := ⟨_, rfl⟩
    obtain ⟨hb2, hz2, hs2⟩ := boxed _ _ _ hw2
    have HW2 := tmh hw2
    have hy2 := (hb2.block _ (lt_of_block hy1)).trans hy1
    have hlt1 : W.heap.size < w1.heap.size := lt_of_block hy1
    have hbW2 : Below W.heap.size W w2 := hb1.trans (hb2.mono hb1.size)
    have H2 := tmh (And.intro hz2 (And.intro hbW2 (And.intro (show w1.heap.size < w2.heap.size by omega) hlt1)))
    have y0 : w2.cell? ⟨W.heap.size, 0, none⟩ = some (.int .i64 36) := cellT hy2 rfl
    have y1 : w2.cell? ⟨W.heap.size, 1, none⟩ = some (.int .i64 bx) := cellT hy2 rfl
    have z0 : w2.cell? ⟨w1.heap.size, 0, none⟩ = some (.int .i64 1) := cellT hz2 rfl
    have z1 : w2.cell? ⟨w1.heap.size, 1, none⟩ = some (.int .i64 0) := cellT hz2 rfl
    have z2 : w2.cell? ⟨w1.heap.size, 2, none⟩ = some (.int .i64 0) := cellT hz2 rfl
    have zf0 := frz hz2 0
    have zf1 := frz hz2 1
    have zf2 := frz hz2 2
    have nyz : W.heap.size ≠ w1.heap.size := by omega
    have nzy : w1.heap.size ≠ W.heap.size := by omega
    clear hw1 hy1 hb1 hw2 hb2 hz2 hs2 hy2 hlt1 hbW2 a1 b0 b1 b2
    go_upto_region 3 with fail
    rw [HW2.out]
    go_upto_region 19 with (go_at_call 97; (with_reducible refine (truth7_any _ _).mono ?_); rintro e w9 ⟨rfl, hw9⟩; have h9 := hw9.symm; clear hw9; subst h9)
    obtain ⟨w3, hw3⟩ : ∃ w3, (((w2.setCell ⟨w1.heap.size, 0, none⟩ (.int .i64 35)).setCell ⟨w1.heap.size, 1, none⟩ (.int .i64 (k2 : Int))).setCell ⟨w1.heap.size, 2, none⟩ (.int .i64 0)) = w3 := ⟨_, rfl⟩
    rw [hw3]
    have hm2 := H2.out.2.1
    have hz3 : w3.heap[w1.heap.size]? = some (.cells #[.int .i64 35, .int .i64 (k2 : Int), .int .i64 0] 36 (0, 0)) := by
      rw [← hw3, setCell_block _ _ _ _ (setCell_block _ _ _ _ (setCell_block _ _ _ _ H2.out.1))]
      rfl
    have hbW3 : Below W.heap.size W w3 := by
      rw [← hw3]
      exact (((hm2.setCell (p := ⟨w1.heap.size, 0, none⟩) (Nat.le_of_lt H2.out.2.2.2) _).setCell (p := ⟨w1.heap.size, 1, none⟩) (Nat.le_of_lt H2.out.2.2.2) _).setCell (p := ⟨w1.heap.size, 2, none⟩) (Nat.le_of_lt H2.out.2.2.2) _)
    have hT3 := H0.out.later hbW3
    have H3 := tmh (And.intro hT3 (And.intro (hbW3.mono HK.out.2.2) hz3))
    clear hw3 hz3 hbW3 hm2 hT3 y0 y1 z0 z1 z2 zf0 zf1 zf2
    obtain ⟨⟨u0, u1, u2⟩, uf⟩ := H3.out.1.ins (k := c) (by have := HK.out.1; omega)
    have f0 := uf (c * 3)
    have f1 := uf (c * 3 + 1)
    have f2 := uf (c * 3 + 2)
    go_upto_region 20 with fail
    have hT4 := H3.out.1.setI c 35 (k1 : Int) 0
    have hb4 : Below base W (((w3.setCell ⟨g, c * 3, none⟩ (.int .i64 35)).setCell ⟨g, c * 3 + 1, none⟩ (.int .i64 (k1 : Int))).setCell ⟨g, c * 3 + 2, none⟩ (.int .i64 0)) := ((H3.out.2.1.setCell (p := ⟨g, c * 3, none⟩) HGB.out.1 _).setCell (p := ⟨g, c * 3 + 1, none⟩) HGB.out.1 _).setCell (p := ⟨g, c * 3 + 2, none⟩) HGB.out.1 _
    have hz4 : (((w3.setCell ⟨g, c * 3, none⟩ (.int .i64 35)).setCell ⟨g, c * 3 + 1, none⟩ (.int .i64 (k1 : Int))).setCell ⟨g, c * 3 + 2, none⟩ (.int .i64 0)).heap[w1.heap.size]? = w3.heap[w1.heap.size]? := by
      have hne : w1.heap.size ≠ g := by have := HGB.out.2.1; have := H2.out.2.2.2; omega
      rw [Below.heap_setCell _ _ _ _ hne, Below.heap_setCell _ _ _ _ hne, Below.heap_setCell _ _ _ _ hne]
    have e3 : ((w3.setCell ⟨g, c * 3, none⟩ (.int .i64 35)).setCell ⟨g, c * 3 + 1, none⟩ (.int .i64 (k1 : Int))).setCell ⟨g, c * 3 + 2, none⟩ (.int .i64 0) = w3.setCells g (c * 3) [.int .i64 35, .int .i64 (k1 : Int), .int .i64 0] := rfl
    rw [← e3] at hT4
    generalize ((w3.setCell ⟨g, c * 3, none⟩ (.int .i64 35)).setCell ⟨g, c * 3 + 1, none⟩ (.int .i64 (k1 : Int))).setCell ⟨g, c * 3 + 2, none⟩ (.int .i64 0) = w4 at hT4 hb4 hz4 ⊢
    have hz4 := hz4.trans H3.out.2.2
    have H4 := tmh (And.intro hT4 (And.intro hb4 hz4))
    have z0 : w4.cell? ⟨w1.heap.size, 0, none⟩ = some (.int .i64 35) := cellT hz4 rfl
    have z1 : w4.cell? ⟨w1.heap.size, 1, none⟩ = some (.int .i64 (k2 : Int)) := cellT hz4 rfl
    have z2 : w4.cell? ⟨w1.heap.size, 2, none⟩ = some (.int .i64 0) := cellT hz4 rfl
    clear hT4 hb4 hz4 e3 u0 u1 u2 uf f0 f1 f2
    obtain ⟨⟨u0, u1, u2⟩, uf⟩ := H4.out.1.ins (k := k1) (by show k1 < P.n; have := HK.out.1; omega)
    have f0 := uf (k1 * 3)
    have f1 := uf (k1 * 3 + 1)
    have f2 := uf (k1 * 3 + 2)
    go_upto_region 21 with fail
    have hT5 := H4.out.1.setI k1 35 (k2 : Int) 0
    have hb5 : Below base W (((w4.setCell ⟨g, k1 * 3, none⟩ (.int .i64 35)).setCell ⟨g, k1 * 3 + 1, none⟩ (.int .i64 (k2 : Int))).setCell ⟨g, k1 * 3 + 2, none⟩ (.int .i64 0)) := ((H4.out.2.1.setCell (p := ⟨g, k1 * 3, none⟩) HGB.out.1 _).setCell (p := ⟨g, k1 * 3 + 1, none⟩) HGB.out.1 _).setCell (p := ⟨g, k1 * 3 + 2, none⟩) HGB.out.1 _
    have e3 : ((w4.setCell ⟨g, k1 * 3, none⟩ (.int .i64 35)).setCell ⟨g, k1 * 3 + 1, none⟩ (.int .i64 (k2 : Int))).setCell ⟨g, k1 * 3 + 2, none⟩ (.int .i64 0) = w4.setCells g (k1 * 3) [.int .i64 35, .int .i64 (k2 : Int), .int .i64 0] := rfl
    rw [← e3] at hT5
    generalize ((w4.setCell ⟨g, k1 * 3, none⟩ (.int .i64 35)).setCell ⟨g, k1 * 3 + 1, none⟩ (.int .i64 (k2 : Int))).setCell ⟨g, k1 * 3 + 2, none⟩ (.int .i64 0) = w5 at hT5 hb5 ⊢
    have H5 := tmh (And.intro hT5 hb5)
    clear hT5 hb5 e3 u0 u1 u2 uf f0 f1 f2 z0 z1 z2
    go_wp2_with fail
    go_ret
    rw [HK.out.1, HK.out.2.1]
    exact ⟨rfl, H5.out.1, H5.out.2⟩
end Go.Proofs.YtopggemomcoalaaGreat
namespace Go.Proofs.YtopggemomcoalaaGreat
open Go.ChangeShapes Go.WideShapes Go.ChangeAt Go.RowKit
set_option linter.unusedVariables false
set_option linter.unusedSimpArgs false

variable {Sf : Nat → Prop} {Hf : Nat → Option Obj} {base tb g : Nat} {P : Pg} {lq : Option Addr} {lc lx : Nat}
set_option maxRecDepth 100000 in
set_option maxHeartbeats 8000000 in
theorem double_none (W : World) (hT : PB Sf Hf W base tb P (some ⟨g, 0, none⟩) lq lc lx) (c : Nat) (hc : c + 1 < P.n) (hn : P.n ≤ 4096) (ho1 : one1 (P.op (c + 1)) = false) (ho2 : P.op (c + 1) ≠ 2) (ho3 : P.op (c + 1) ≠ 36) (hB : base ≤ W.heap.size) :
    Calls Tryz.prog 58 #[.slice (some ⟨g, 0, none⟩) P.n lc, .int .i64 (c : Int)] W fun e W' => e = .returned (.int .i64 0) ∧ PB Sf Hf W' base tb P (some ⟨g, 0, none⟩) lq lc lx ∧ Below base W W' := by
  obtain ⟨⟨_, a1, _⟩, _⟩ := hT.ins (k := c) (by omega)
  obtain ⟨⟨b0, b1, b2⟩, _⟩ := hT.ins (k := c + 1) (by omega)
  generalize P.op (c + 1) = o at *
  generalize P.a c = ax at *
  generalize P.a (c + 1) = bx at *
  generalize P.b (c + 1) = bb at *
  obtain ⟨k1, hk1⟩ : ∃ k1, c + 1 = k1 := ⟨_, rfl⟩
  obtain ⟨k2, hk2⟩ : ∃ k2, c + 2 = k2 := ⟨_, rfl⟩
  rw [hk1] at b0 b1 b2
  have e1 : IntKind.i64.wrap ((c : Int) + 1) = (k1 : Int) := by rw [IntKind.wrap_i64]; omega
  have e2 : IntKind.i64.wrap ((c : Int) + 2) = (k2 : Int) := by rw [IntKind.wrap_i64]; omega
  have j0 : (0 : Int) ≤ (k1 : Int) := by omega
  have j1 : (k1 : Int) < (P.n : Int) := by omega
  have l0 : (0 : Int) ≤ (c : Int) := by omega
  have l1 : (c : Int) < (P.n : Int) := by omega
  have H0 := tmh hT
  have HK := tmh (And.intro hk1 (And.intro hk2 hB))
  have hgl := hT.gb
  have HGB := tmh hgl
  clear hT hk1 hk2 hgl hB
  have o1 : (o == 23) = false := by cases h : (o == 23) with | false => rfl | true => (have : o = 23 := by simpa using h); subst this; cases ho1
  have o2 : (o == 24) = false := by cases h : (o == 24) with | false => rfl | true => (have : o = 24 := by simpa using h); subst this; cases ho1
  have o3 : (o == 25) = false := by cases h : (o == 25) with | false => rfl | true => (have : o = 25 := by simpa using h); subst this; cases ho1
  have o4 : (o == 34) = false := by cases h : (o == 34) with | false => rfl | true => (have : o = 34 := by simpa using h); subst this; cases ho1
  have o5 : (o == 2) = false := by simpa using ho2
  have o6 : (o == 36) = false := by simpa using ho3
  clear ho1 ho2 ho3
  go_enter Tryz.func58, Tryz.ntmps58
  go_upto_region 1 with fail
  go_region_held3 (fun w' => w'.cell? ⟨g, c * 3 + 1, none⟩ = some (.int .i64 ax) ∧ w'.cell? ⟨g, k1 * 3, none⟩ = some (.int .i64 o) ∧ w'.cell? ⟨g, k1 * 3 + 1, none⟩ = some (.int .i64 bx) ∧ w'.cell? ⟨g, k1 * 3 + 2, none⟩ = some (.int .i64 bb)) (first | exact ⟨a1, b0, b1, b2⟩ | go_keep) (fail)
  obtain ⟨w1, hw1⟩ : ∃ w1, (W.alloc (.cells #[.int .i64 o, .int .i64 bx, .int .i64 bb] 36)).drew = w1 := ⟨_, rfl⟩
  have hy1 : w1.heap[W.heap.size]? = some (.cells #[.int .i64 o, .int .i64 bx, .int .i64 bb] 36 (0, 0)) := by rw [← hw1]; exact World.alloc_heap_new W _
  have hb1 : Below W.heap.size W w1 := by rw [← hw1]; exact ((Below.refl _ W).alloc (Nat.le_refl _) _).drew
  rw [hw1]
  obtain ⟨w2, hw2⟩ : ∃ w2, w1.alloc (.cells #[.int .i64 1, .int .i64 0, .int .i64 0] 36) = w2 := ⟨_, rfl⟩
  obtain ⟨hb2, hz2, hs2⟩ := boxed _ _ _ hw2
  have HW2 := tmh hw2
  have hy2 := (hb2.block _ (lt_of_block hy1)).trans hy1
  have hlt1 : W.heap.size < w1.heap.size := lt_of_block hy1
  have hbW2 : Below W.heap.size W w2 := hb1.trans (hb2.mono hb1.size)
  have H2 := tmh (And.intro hz2 (And.intro hbW2 (And.intro (show w1.heap.size < w2.heap.size by omega) hlt1)))
  have y0 : w2.cell? ⟨W.heap.size, 0, none⟩ = some (.int .i64 o) := cellT hy2 rfl
  have y1 : w2.cell? ⟨W.heap.size, 1, none⟩ = some (.int .i64 bx) := cellT hy2 rfl
  have z0 : w2.cell? ⟨w1.heap.size, 0, none⟩ = some (.int .i64 1) := cellT hz2 rfl
  have z1 : w2.cell? ⟨w1.heap.size, 1, none⟩ = some (.int .i64 0) := cellT hz2 rfl
  have z2 : w2.cell? ⟨w1.heap.size, 2, none⟩ = some (.int .i64 0) := cellT hz2 rfl
  have zf0 := frz hz2 0
  have zf1 := frz hz2 1
  have zf2 := frz hz2 2
  have nyz : W.heap.size ≠ w1.heap.size := by omega
  have nzy : w1.heap.size ≠ W.heap.size := by omega
  clear hw1 hy1 hb1 hw2 hb2 hz2 hs2 hy2 hlt1 hbW2 a1 b0 b1 b2
  go_upto_region 3 with fail
  rw [HW2.out]
  go_wp2_with fail
  go_ret
  exact ⟨rfl, H0.out.later H2.out.2.1, H2.out.2.1.mono HK.out.2.2⟩
theorem setI_swap (P : Pg) {i j : Nat} (h : i ≠ j) (o a b o' a' b' : Int) : setI (setI P i o a b) j o' a' b' = setI (setI P j o' a' b') i o a b := by
  unfold setI
  dsimp only
  have e : ∀ (f : Nat → Int) (x y : Int), (fun k => if k = j then y else if k = i then x else f k) = fun k => if k = i then x else if k = j then y else f k := fun f x y => funext fun k => by
    by_cases h1 : k = j
    · rw [if_pos h1, if_neg (by omega), if_pos h1]
    · rw [if_neg h1]
      by_cases h2 : k = i
      · rw [if_pos h2, if_pos h2]
      · rw [if_neg h2, if_neg h2, if_neg h1]
  rw [e P.op o o', e P.a a a', e P.b b b']
theorem double_any {L : Nat → Int} (v : Vf P L) (W : World) (hT : PB Sf Hf W base tb P (some ⟨g, 0, none⟩) lq lc lx) (c : Nat) (hc : c + 1 < P.n) (hB : base ≤ W.heap.size) (fr : Nat → Bool) (h1 : P.op c = 1) (hf : fr (c + 1) = true) (hno : ¬ (fr (c + 2) = true ∧ P.op (c + 1) = 1 ∧ two2 (P.op (c + 2)) = true ∧ (pairV (P.op (c + 2)) (P.a c) (P.a (c + 1))).2 = 0)) :
    Calls Tryz.prog 58 #[.slice (some ⟨g, 0, none⟩) P.n lc, .int .i64 (c : Int)] W fun e W' => ∃ d : Nat, e = .returned (.int .i64 (d : Int)) ∧ PB Sf Hf W' base tb (dfat fr P c).1 (some ⟨g, 0, none⟩) lq lc lx ∧ Below base W W' ∧ (d = 0 ∧ (dfat fr P c).2 = 1 ∨ d = 2 ∧ (dfat fr P c).2 = 2) := by
  have hn := v.sz.2.2.1
  have n0 : ¬ (P.op c = 1 ∧ fr (c + 1) = true ∧ fr (c + 2) = true ∧ P.op (c + 1) = 1 ∧ two2 (P.op (c + 2)) = true ∧ (pairV (P.op (c + 2)) (P.a c) (P.a (c + 1))).2 = 0) := fun h => hno h.2.2
  unfold dfat
  rw [if_neg n0]
  by_cases k1 : one1 (P.op (c + 1)) = true
  · rw [if_pos ⟨h1, hf, k1⟩]
    have e0 : fold2 P c (singleV (P.op (c + 1)) (P.a c)) = setI (setI P c 35 ((c + 1 : Nat) : Int) 0) (c + 1) 1 (singleV (P.op (c + 1)) (P.a c)) 0 := rfl
    rw [e0]
    rcases one1_o k1 with h | h | h | h
    · refine (double_23 W hT c hc hn h hB).mono fun e W' => ?_
      rintro ⟨rfl, p1, p2⟩
      rw [h]
      exact ⟨2, rfl, p1, p2, .inr ⟨rfl, rfl⟩⟩
    · refine (double_24 W hT c hc hn h hB).mono fun e W' => ?_
      rintro ⟨rfl, p1, p2⟩
      rw [h]
      exact ⟨2, rfl, p1, p2, .inr ⟨rfl, rfl⟩⟩
    · refine (double_25 W hT c hc hn h hB).mono fun e W' => ?_
      rintro ⟨rfl, p1, p2⟩
      rw [h]
      exact ⟨2, rfl, p1, p2, .inr ⟨rfl, rfl⟩⟩
    · refine (double_34 W hT c hc hn h hB).mono fun e W' => ?_
      rintro ⟨rfl, p1, p2⟩
      rw [h]
      exact ⟨2, rfl, p1, p2, .inr ⟨rfl, rfl⟩⟩
  · have m1 : ¬ (P.op c = 1 ∧ fr (c + 1) = true ∧ one1 (P.op (c + 1)) = true) := fun h => k1 h.2.2
    rw [if_neg m1]
    by_cases k2 : P.op (c + 1) = 2
    · rw [if_pos ⟨h1, hf, k2⟩]
      have e0 : foldPop P c = setI (setI P c 35 ((c + 1 : Nat) : Int) 0) (c + 1) 35 ((c + 2 : Nat) : Int) 0 := rfl
      rw [e0]
      refine (double_2 W hT c hc hn k2 hB).mono fun e W' => ?_
      rintro ⟨rfl, p1, p2⟩
      exact ⟨2, rfl, p1, p2, .inr ⟨rfl, rfl⟩⟩
    · have m2 : ¬ (P.op c = 1 ∧ fr (c + 1) = true ∧ P.op (c + 1) = 2) := fun h => k2 h.2.2
      rw [if_neg m2]
      by_cases k3 : P.op (c + 1) = 36
      · rw [if_pos ⟨h1, hf, k3⟩]
        have hb := plainB (v.ins (c + 1) hc) (by rw [k3]; decide)
        have e0 : foldZero P c = setI (setI P c 35 ((c + 1 : Nat) : Int) 0) (c + 1) 35 (if P.a c = 0 then P.a (c + 1) else ((c + 2 : Nat) : Int)) 0 := by
          unfold foldZero
          by_cases hz : P.a c = 0
          · rw [if_pos hz, if_pos hz, hb]
            exact setI_swap P (by omega) _ _ _ _ _ _
          · rw [if_neg hz, if_neg hz]
            exact setI_swap P (by omega) _ _ _ _ _ _
        rw [e0]
        refine (double_36 W hT c hc hn k3 hB).mono fun e W' => ?_
        rintro ⟨rfl, p1, p2⟩
        exact ⟨2, rfl, p1, p2, .inr ⟨rfl, rfl⟩⟩
      · have m3 : ¬ (P.op c = 1 ∧ fr (c + 1) = true ∧ P.op (c + 1) = 36) := fun h => k3 h.2.2
        rw [if_neg m3]
        refine (double_none W hT c hc hn (by simpa using k1) k2 k3 hB).mono fun e W' => ?_
        rintro ⟨rfl, p1, p2⟩
        exact ⟨0, rfl, p1, p2, .inl ⟨rfl, rfl⟩⟩
end Go.Proofs.YtopggemomcoalaaGreat
