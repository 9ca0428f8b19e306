import Derived.Test.YtkalhmofjpalkaaCJ
import Derived.Laws.Rows
namespace Go.Proofs.Ytkalhmofjpalkaa
open Go.ChangeShapes Go.WideShapes Go.ChangeAt Go.RowKit
set_option linter.unusedVariables false
set_option linter.unusedSimpArgs false

/-- a value in a box of its own -/
def XB (b : Nat) (x : Int) (W : World) : Prop := W.heap[b]? = some (.cells #[.int .i64 x, .int .u64 0, .bool false, .bool false, .bool false, .int .u64 0, .int .i64 0, .int .u64 0, .int .i64 0, .int .i64 0] 46 (0, 0))
theorem XB.cells {b : Nat} {x : Int} {W : World} (h : XB b x W) : W.cell? ⟨b, 0, none⟩ = some (.int .i64 x) ∧ W.cell? ⟨b, 1, none⟩ = some (.int .u64 0) ∧ W.cell? ⟨b, 2, none⟩ = some (.bool false) ∧ W.cell? ⟨b, 3, none⟩ = some (.bool false) ∧ W.cell? ⟨b, 4, none⟩ = some (.bool false) ∧ W.cell? ⟨b, 5, none⟩ = some (.int .u64 0) ∧ W.cell? ⟨b, 6, none⟩ = some (.int .i64 0) ∧ W.cell? ⟨b, 7, none⟩ = some (.int .u64 0) ∧ W.cell? ⟨b, 8, none⟩ = some (.int .i64 0) ∧ W.cell? ⟨b, 9, none⟩ = some (.int .i64 0) := by
  unfold XB at h
  refine ⟨?_, ?_, ?_, ?_, ?_, ?_, ?_, ?_, ?_, ?_⟩
  all_goals (unfold World.cell?; rw [h]; rfl)
theorem XB.later {b : Nat} {x : Int} {W W' : World} (h : XB b x W) (hb : Below W.heap.size W W') : XB b x W' := (hb.block _ (lt_of_block h)).trans h
def st10 (W : World) (b : Nat) (x : Int) : World := (((((((((W.setCell ⟨b, 0, none⟩ (.int .i64 x)).setCell ⟨b, 1, none⟩ (.int .u64 0)).setCell ⟨b, 2, none⟩ (.bool false)).setCell ⟨b, 3, none⟩ (.bool false)).setCell ⟨b, 4, none⟩ (.bool false)).setCell ⟨b, 5, none⟩ (.int .u64 0)).setCell ⟨b, 6, none⟩ (.int .i64 0)).setCell ⟨b, 7, none⟩ (.int .u64 0)).setCell ⟨b, 8, none⟩ (.int .i64 0)).setCell ⟨b, 9, none⟩ (.int .i64 0)
theorem XB.store {b : Nat} {x : Int} {W : World} (h : XB b x W) (y : Int) : XB b y (st10 W b y) := by
  unfold XB at h
  unfold st10 XB
  have h0 := setCell_block W b 0 (.int .i64 y) h
  have h1 := setCell_block _ b 1 (.int .u64 0) h0
  have h2 := setCell_block _ b 2 (.bool false) h1
  have h3 := setCell_block _ b 3 (.bool false) h2
  have h4 := setCell_block _ b 4 (.bool false) h3
  have h5 := setCell_block _ b 5 (.int .u64 0) h4
  have h6 := setCell_block _ b 6 (.int .i64 0) h5
  have h7 := setCell_block _ b 7 (.int .u64 0) h6
  have h8 := setCell_block _ b 8 (.int .i64 0) h7
  have h9 := setCell_block _ b 9 (.int .i64 0) h8
  rw [h9]
  simp
theorem st10_far (W : World) (b : Nat) (x : Int) (k : Nat) (h : k ≠ b) : (st10 W b x).heap[k]? = W.heap[k]? := by
  unfold st10
  repeat rw [Below.heap_setCell _ _ _ _ h]
theorem st10_below {B : Nat} {w0 W : World} (b : Nat) (x : Int) (h : Below B w0 W) (hb : B ≤ b) : Below B w0 (st10 W b x) := by
  unfold st10
  repeat (refine Below.setCell ?_ (by exact hb) _)
  exact h
def vlC (x : Int) (r : Nat) : Value :=
  match r with
  | 0 => .int .i64 x
  | 1 => .int .u64 0
  | 2 => .bool false
  | 3 => .bool false
  | 4 => .bool false
  | 5 => .int .u64 0
  | 6 => .int .i64 0
  | 7 => .int .u64 0
  | 8 => .int .i64 0
  | _ => .int .i64 0
/-- a list of values -/
def VLc (lb n : Nat) (V : Nat → Int) (W : World) : Prop := lb < W.heap.size ∧ ∀ i r, i < n → r < 10 → W.cell? ⟨lb, i * 10 + r, none⟩ = some (vlC (V i) r)
theorem VLc.later {lb n : Nat} {V : Nat → Int} {W W' : World} (h : VLc lb n V W) (hb : Below W.heap.size W W') : VLc lb n V W' := ⟨Nat.lt_of_lt_of_le h.1 hb.size, fun i r hi hr => (cell_below (a := ⟨lb, i * 10 + r, none⟩) hb h.1).trans (h.2 i r hi hr)⟩
/-- the two boxes of Joined -/
structure JI (W : World) (lb n : Nat) (V : Nat → Int) (x : Int) (W2 : World) : Prop where
  r : XB W.heap.size 0 W2
  v : XB (W.heap.size + 1) x W2
  l : VLc lb n V W2
  b : Below W.heap.size W W2
  o : lb < W.heap.size
theorem JI.later {W W2 W3 : World} {lb n : Nat} {V : Nat → Int} {x : Int} (h : JI W lb n V x W2) (hb : Below W2.heap.size W2 W3) : JI W lb n V x W3 := ⟨h.r.later hb, h.v.later hb, h.l.later hb, h.b.trans (hb.mono h.b.size), h.o⟩
theorem JI.store {W W2 : World} {lb n : Nat} {V : Nat → Int} {x : Int} (h : JI W lb n V x W2) (y : Int) : JI W lb n V y (st10 W2 (W.heap.size + 1) y) := by
  refine ⟨(st10_far _ _ _ _ (by omega)).trans h.r, h.v.store y, ⟨?_, fun i r hi hr => ?_⟩, st10_below _ _ h.b (by omega), h.o⟩
  · have := (st10_below (B := W.heap.size) (W.heap.size + 1) y h.b (by omega)).size
    have := h.o
    omega
  · have := h.l.2 i r hi hr
    rw [← this]
    exact World.cell?_of_block (st10_far _ _ _ _ (by have := h.o; show lb ≠ _; omega))
theorem JI.start (W : World) (lb n : Nat) (V : Nat → Int) (x : Int) (h : VLc lb n V W) : JI W lb n V x ((W.alloc (.cells #[.int .i64 0, .int .u64 0, .bool false, .bool false, .bool false, .int .u64 0, .int .i64 0, .int .u64 0, .int .i64 0, .int .i64 0] 46)).alloc (.cells #[.int .i64 x, .int .u64 0, .bool false, .bool false, .bool false, .int .u64 0, .int .i64 0, .int .u64 0, .int .i64 0, .int .i64 0] 46)) := by
  have b1 : Below W.heap.size W ((W.alloc (.cells #[.int .i64 0, .int .u64 0, .bool false, .bool false, .bool false, .int .u64 0, .int .i64 0, .int .u64 0, .int .i64 0, .int .i64 0] 46)).alloc (.cells #[.int .i64 x, .int .u64 0, .bool false, .bool false, .bool false, .int .u64 0, .int .i64 0, .int .u64 0, .int .i64 0, .int .i64 0] 46)) := ((Below.refl _ W).alloc (Nat.le_refl _) _).alloc (by simp) _
  have g1 : XB W.heap.size 0 (W.alloc (.cells #[.int .i64 0, .int .u64 0, .bool false, .bool false, .bool false, .int .u64 0, .int .i64 0, .int .u64 0, .int .i64 0, .int .i64 0] 46)) := World.alloc_heap_new W _
  refine ⟨g1.later ((Below.refl _ _).alloc (Nat.le_refl _) _), ?_, h.later b1, b1, h.1⟩
  have := World.alloc_heap_new (W.alloc (.cells #[.int .i64 0, .int .u64 0, .bool false, .bool false, .bool false, .int .u64 0, .int .i64 0, .int .u64 0, .int .i64 0, .int .i64 0] 46)) (.cells #[.int .i64 x, .int .u64 0, .bool false, .bool false, .bool false, .int .u64 0, .int .i64 0, .int .u64 0, .int .i64 0, .int .i64 0] 46)
  rw [World.size_alloc] at this
  exact this
theorem infoRV : (Try.prog.info? 46).map (·.size) = some 10 := by kernel_rfl
set_option maxRecDepth 100000 in
set_option maxHeartbeats 8000000 in
theorem joined_step (k : Nat) (hk : k < 5) (lb n c : Nat) (hn : n ≤ 64) (V : Nat → Int) (w : Nat) (hw : w < n) (IH : ∀ c', w < c' → c' < n → ∀ W : World, VLc lb n V W → Calls Try.prog 22 #[.int .i64 (k : Int), .slice (some ⟨lb, 0, none⟩) n c, .int .i64 (c' : Int)] W fun e W' => e = .returned (vlA (JT (JF k) n V c')) ∧ Below W.heap.size W W') (W : World) (h : VLc lb n V W) : Calls Try.prog 22 #[.int .i64 (k : Int), .slice (some ⟨lb, 0, none⟩) n c, .int .i64 (w : Int)] W fun e W' => e = .returned (vlA (JT (JF k) n V w)) ∧ Below W.heap.size W W' := by
  have HJ := fun a b W => join_any k hk a b W
  unfold vlA at HJ IH ⊢
  have x0 := h.2 w 0 hw (by decide)
  have x1 := h.2 w 1 hw (by decide)
  have x2 := h.2 w 2 hw (by decide)
  have x3 := h.2 w 3 hw (by decide)
  have x4 := h.2 w 4 hw (by decide)
  have x5 := h.2 w 5 hw (by decide)
  have x6 := h.2 w 6 hw (by decide)
  have x7 := h.2 w 7 hw (by decide)
  have x8 := h.2 w 8 hw (by decide)
  have x9 := h.2 w 9 hw (by decide)
  simp only [vlC, Nat.add_zero] at x0 x1 x2 x3 x4 x5 x6 x7 x8 x9
  have i0 : (0 : Int) ≤ (w : Int) := by omega
  have i1 : (w : Int) < (n : Int) := by omega
  have e1 : IntKind.i64.wrap (2 * (w : Int)) = 2 * (w : Int) := by rw [IntKind.wrap_i64]; omega
  have e2 : IntKind.i64.wrap (2 * (w : Int) + 1) = ((2 * w + 1 : Nat) : Int) := by rw [IntKind.wrap_i64]; omega
  have e3 : IntKind.i64.wrap (2 * (w : Int) + 2) = ((2 * w + 2 : Nat) : Int) := by rw [IntKind.wrap_i64]; omega
  have e4 : IntKind.i64.wrap (((2 * w + 1 : Nat) : Int) + 1) = ((2 * w + 2 : Nat) : Int) := by rw [IntKind.wrap_i64]; omega
  have e5 : IntKind.i64.wrap (((2 * w + 2 : Nat) : Int) + 1) = ((2 * w + 3 : Nat) : Int) := by rw [IntKind.wrap_i64]; omega
  have f1 : decide (((2 * w + 1 : Nat) : Int) ≤ ((2 * w + 2 : Nat) : Int)) = true := by simp
  have f2 : decide (((2 * w + 2 : Nat) : Int) ≤ ((2 * w + 2 : Nat) : Int)) = true := by simp
  have f3 : decide (((2 * w + 3 : Nat) : Int) ≤ ((2 * w + 2 : Nat) : Int)) = false := by simp
  rw [JT_eq]
  have H1 := IH (2 * w + 1) (by omega)
  have H2 := IH (2 * w + 2) (by omega)
  clear IH
  have hl := h.1
  obtain ⟨W1, hW1⟩ : ∃ W1, ((W.alloc (.cells #[.int .i64 0, .int .u64 0, .bool false, .bool false, .bool false, .int .u64 0, .int .i64 0, .int .u64 0, .int .i64 0, .int .i64 0] 46)).alloc (.cells #[.int .i64 (V w), .int .u64 0, .bool false, .bool false, .bool false, .int .u64 0, .int .i64 0, .int .u64 0, .int .i64 0, .int .i64 0] 46)) = W1 := ⟨_, rfl⟩
  have hI := JI.start W lb n V (V w) h
  rw [hW1] at hI
  have HW1 : Hid (((W.alloc (.cells #[.int .i64 0, .int .u64 0, .bool false, .bool false, .bool false, .int .u64 0, .int .i64 0, .int .u64 0, .int .i64 0, .int .i64 0] 46)).alloc (.cells #[.int .i64 (V w), .int .u64 0, .bool false, .bool false, .bool false, .int .u64 0, .int .i64 0, .int .u64 0, .int .i64 0, .int .i64 0] 46)) = W1) := hW1
  have HI1 : Hid (JI W lb n V (V w) W1) := hI
  clear hW1 hI
  by_cases c2 : 2 * w + 2 < n
  · rw [if_pos c2]
    have g1 : decide (((2 * w + 1 : Nat) : Int) < (n : Int)) = true := by simp; omega
    have g2 : decide (((2 * w + 2 : Nat) : Int) < (n : Int)) = true := by simp; omega
    have HH := H1 (by omega)
    have HH2 := H2 c2
    clear H1 H2
    generalize JT (JF k) n V (2 * w + 1) = j1 at *
    generalize JT (JF k) n V (2 * w + 2) = j2 at *
    generalize ((2 * w + 1 : Nat) : Int) = y1 at *
    generalize ((2 * w + 2 : Nat) : Int) = y2 at *
    generalize ((2 * w + 3 : Nat) : Int) = y3 at *
    go_enter Try.func22, Try.ntmps22
    go_wp2_with fail
    rw [HW1.out]
    refine wp_loop_rounds 4 ?_
    rw [rounds_succ]
    go_wp2_with fail
    obtain ⟨zp0, zp1, zp2, zp3, zp4, zp5, zp6, zp7, zp8, zp9⟩ := HI1.out.v.cells
    have HDp : Hid (JI W lb n V (V w) W1.drew) := HI1.out.later (drewB _)
    go_region_with (first | (go_at_call 22; (with_reducible refine (HH _ HDp.out.l).mono ?_); rintro e wjp ⟨rfl, hbj⟩; have hj := HDp.out.later hbj; obtain ⟨ap0, ap1, ap2, ap3, ap4, ap5, ap6, ap7, ap8, ap9⟩ := hj.v.cells; have HJIp : Hid (JI W lb n V (V w) wjp) := hj; clear hj hbj) | (go_at_call 21; (with_reducible refine (HJ _ _ _).mono ?_); rintro e wkp ⟨rfl, hbk⟩; have hj := HJIp.out.later hbk; obtain ⟨bp0, bp1, bp2, bp3, bp4, bp5, bp6, bp7, bp8, bp9⟩ := hj.v.cells; have fkp := frz hj.v; have lkp := lt_of_block hj.v; have HKIp : Hid (JI W lb n V (V w) wkp) := hj; clear hj hbk))
    all_goals (
      rw [show (World.setCell (World.setCell (World.setCell (World.setCell (World.setCell (World.setCell (World.setCell (World.setCell (World.setCell (World.setCell wkp ⟨W.heap.size + 1, 0, none⟩ (.int .i64 (JF k (V w) j1))) ⟨W.heap.size + 1, 1, none⟩ (.int .u64 0)) ⟨W.heap.size + 1, 2, none⟩ (.bool false)) ⟨W.heap.size + 1, 3, none⟩ (.bool false)) ⟨W.heap.size + 1, 4, none⟩ (.bool false)) ⟨W.heap.size + 1, 5, none⟩ (.int .u64 0)) ⟨W.heap.size + 1, 6, none⟩ (.int .i64 0)) ⟨W.heap.size + 1, 7, none⟩ (.int .u64 0)) ⟨W.heap.size + 1, 8, none⟩ (.int .i64 0)) ⟨W.heap.size + 1, 9, none⟩ (.int .i64 0)) = st10 wkp (W.heap.size + 1) (JF k (V w) j1) from rfl]
      have hnp := HKIp.out.store (JF k (V w) j1)
      clear HKIp HJIp HDp ap0 bp0 zp0 ap1 bp1 zp1 ap2 bp2 zp2 ap3 bp3 zp3 ap4 bp4 zp4 ap5 bp5 zp5 ap6 bp6 zp6 ap7 bp7 zp7 ap8 bp8 zp8 ap9 bp9 zp9 fkp lkp
      generalize st10 wkp (W.heap.size + 1) (JF k (V w) j1) = Wp at hnp ⊢
      have Hp : Hid (JI W lb n V (JF k (V w) j1) Wp) := hnp
      clear hnp
      go_wp2_with fail
      rw [rounds_succ]
      go_wp2_with fail
      obtain ⟨zs0, zs1, zs2, zs3, zs4, zs5, zs6, zs7, zs8, zs9⟩ := Hp.out.v.cells
      have HDs : Hid (JI W lb n V (JF k (V w) j1) Wp.drew) := Hp.out.later (drewB _)
      go_region_with (first | (go_at_call 22; (with_reducible refine (HH2 _ HDs.out.l).mono ?_); rintro e wjs ⟨rfl, hbj⟩; have hj := HDs.out.later hbj; obtain ⟨as0, as1, as2, as3, as4, as5, as6, as7, as8, as9⟩ := hj.v.cells; have HJIs : Hid (JI W lb n V (JF k (V w) j1) wjs) := hj; clear hj hbj) | (go_at_call 21; (with_reducible refine (HJ _ _ _).mono ?_); rintro e wks ⟨rfl, hbk⟩; have hj := HJIs.out.later hbk; obtain ⟨bs0, bs1, bs2, bs3, bs4, bs5, bs6, bs7, bs8, bs9⟩ := hj.v.cells; have fks := frz hj.v; have lks := lt_of_block hj.v; have HKIs : Hid (JI W lb n V (JF k (V w) j1) wks) := hj; clear hj hbk))
      all_goals (
        rw [show (World.setCell (World.setCell (World.setCell (World.setCell (World.setCell (World.setCell (World.setCell (World.setCell (World.setCell (World.setCell wks ⟨W.heap.size + 1, 0, none⟩ (.int .i64 (JF k (JF k (V w) j1) j2))) ⟨W.heap.size + 1, 1, none⟩ (.int .u64 0)) ⟨W.heap.size + 1, 2, none⟩ (.bool false)) ⟨W.heap.size + 1, 3, none⟩ (.bool false)) ⟨W.heap.size + 1, 4, none⟩ (.bool false)) ⟨W.heap.size + 1, 5, none⟩ (.int .u64 0)) ⟨W.heap.size + 1, 6, none⟩ (.int .i64 0)) ⟨W.heap.size + 1, 7, none⟩ (.int .u64 0)) ⟨W.heap.size + 1, 8, none⟩ (.int .i64 0)) ⟨W.heap.size + 1, 9, none⟩ (.int .i64 0)) = st10 wks (W.heap.size + 1) (JF k (JF k (V w) j1) j2) from rfl]
        have hns := HKIs.out.store (JF k (JF k (V w) j1) j2)
        clear HKIs HJIs HDs as0 bs0 zs0 as1 bs1 zs1 as2 bs2 zs2 as3 bs3 zs3 as4 bs4 zs4 as5 bs5 zs5 as6 bs6 zs6 as7 bs7 zs7 as8 bs8 zs8 as9 bs9 zs9 fks lks
        generalize st10 wks (W.heap.size + 1) (JF k (JF k (V w) j1) j2) = Ws at hns ⊢
        have Hs : Hid (JI W lb n V (JF k (JF k (V w) j1) j2) Ws) := hns
        clear hns
        go_wp2_with fail
        rw [rounds_succ]
        obtain ⟨y0, y1, y2, y3, y4, y5, y6, y7, y8, y9⟩ := Hs.out.v.cells
        obtain ⟨q0, q1, q2, q3, q4, q5, q6, q7, q8, q9⟩ := Hs.out.r.cells
        have fz := frz Hs.out.r
        have lz := lt_of_block Hs.out.r
        go_wp2_with fail
        have hfin := Hs.out.r.store (JF k (JF k (V w) j1) j2)
        refine bodyPost_ret_by (v := .agg (Array.mk [.int .i64 (JF k (JF k (V w) j1) j2), .int .u64 0, .bool false, .bool false, .bool false, .int .u64 0, .int .i64 0, .int .u64 0, .int .i64 0, .int .i64 0])) (results_cell_row (p := 6) (ty := 46) rfl _ _ W.heap.size 46 _ (0, 0) _ rfl hfin Try.underlying46 rfl (by kernel_rfl)) rfl ?_
        exact ⟨rfl, st10_below _ _ Hs.out.b (Nat.le_refl _)⟩))
  · rw [if_neg c2]
    have g2 : decide (((2 * w + 2 : Nat) : Int) < (n : Int)) = false := by simp; omega
    by_cases c1 : 2 * w + 1 < n
    · rw [if_pos c1]
      have g1 : decide (((2 * w + 1 : Nat) : Int) < (n : Int)) = true := by simp; omega
      have HH := H1 (by omega)
      clear H1 H2
      generalize JT (JF k) n V (2 * w + 1) = j1 at *
      generalize ((2 * w + 1 : Nat) : Int) = y1 at *
      generalize ((2 * w + 2 : Nat) : Int) = y2 at *
      generalize ((2 * w + 3 : Nat) : Int) = y3 at *
      go_enter Try.func22, Try.ntmps22
      go_wp2_with fail
      rw [HW1.out]
      refine wp_loop_rounds 4 ?_
      rw [rounds_succ]
      go_wp2_with fail
      obtain ⟨zp0, zp1, zp2, zp3, zp4, zp5, zp6, zp7, zp8, zp9⟩ := HI1.out.v.cells
      have HDp : Hid (JI W lb n V (V w) W1.drew) := HI1.out.later (drewB _)
      go_region_with (first | (go_at_call 22; (with_reducible refine (HH _ HDp.out.l).mono ?_); rintro e wjp ⟨rfl, hbj⟩; have hj := HDp.out.later hbj; obtain ⟨ap0, ap1, ap2, ap3, ap4, ap5, ap6, ap7, ap8, ap9⟩ := hj.v.cells; have HJIp : Hid (JI W lb n V (V w) wjp) := hj; clear hj hbj) | (go_at_call 21; (with_reducible refine (HJ _ _ _).mono ?_); rintro e wkp ⟨rfl, hbk⟩; have hj := HJIp.out.later hbk; obtain ⟨bp0, bp1, bp2, bp3, bp4, bp5, bp6, bp7, bp8, bp9⟩ := hj.v.cells; have fkp := frz hj.v; have lkp := lt_of_block hj.v; have HKIp : Hid (JI W lb n V (V w) wkp) := hj; clear hj hbk))
      all_goals (
        rw [show (World.setCell (World.setCell (World.setCell (World.setCell (World.setCell (World.setCell (World.setCell (World.setCell (World.setCell (World.setCell wkp ⟨W.heap.size + 1, 0, none⟩ (.int .i64 (JF k (V w) j1))) ⟨W.heap.size + 1, 1, none⟩ (.int .u64 0)) ⟨W.heap.size + 1, 2, none⟩ (.bool false)) ⟨W.heap.size + 1, 3, none⟩ (.bool false)) ⟨W.heap.size + 1, 4, none⟩ (.bool false)) ⟨W.heap.size + 1, 5, none⟩ (.int .u64 0)) ⟨W.heap.size + 1, 6, none⟩ (.int .i64 0)) ⟨W.heap.size + 1, 7, none⟩ (.int .u64 0)) ⟨W.heap.size + 1, 8, none⟩ (.int .i64 0)) ⟨W.heap.size + 1, 9, none⟩ (.int .i64 0)) = st10 wkp (W.heap.size + 1) (JF k (V w) j1) from rfl]
        have hnp := HKIp.out.store (JF k (V w) j1)
        clear HKIp HJIp HDp ap0 bp0 zp0 ap1 bp1 zp1 ap2 bp2 zp2 ap3 bp3 zp3 ap4 bp4 zp4 ap5 bp5 zp5 ap6 bp6 zp6 ap7 bp7 zp7 ap8 bp8 zp8 ap9 bp9 zp9 fkp lkp
        generalize st10 wkp (W.heap.size + 1) (JF k (V w) j1) = Wp at hnp ⊢
        have Hp : Hid (JI W lb n V (JF k (V w) j1) Wp) := hnp
        clear hnp
        go_wp2_with fail
        rw [rounds_succ]
        go_wp2_with fail
        rw [rounds_succ]
        obtain ⟨y0, y1, y2, y3, y4, y5, y6, y7, y8, y9⟩ := Hp.out.v.cells
        obtain ⟨q0, q1, q2, q3, q4, q5, q6, q7, q8, q9⟩ := Hp.out.r.cells
        have fz := frz Hp.out.r
        have lz := lt_of_block Hp.out.r
        go_wp2_with fail
        have hfin := Hp.out.r.store (JF k (V w) j1)
        refine bodyPost_ret_by (v := .agg (Array.mk [.int .i64 (JF k (V w) j1), .int .u64 0, .bool false, .bool false, .bool false, .int .u64 0, .int .i64 0, .int .u64 0, .int .i64 0, .int .i64 0])) (results_cell_row (p := 6) (ty := 46) rfl _ _ W.heap.size 46 _ (0, 0) _ rfl hfin Try.underlying46 rfl (by kernel_rfl)) rfl ?_
        exact ⟨rfl, st10_below _ _ Hp.out.b (Nat.le_refl _)⟩)
    · rw [if_neg c1]
      have g1 : decide (((2 * w + 1 : Nat) : Int) < (n : Int)) = false := by simp; omega
      clear H1 H2
      generalize ((2 * w + 1 : Nat) : Int) = y1 at *
      generalize ((2 * w + 2 : Nat) : Int) = y2 at *
      generalize ((2 * w + 3 : Nat) : Int) = y3 at *
      go_enter Try.func22, Try.ntmps22
      go_wp2_with fail
      rw [HW1.out]
      refine wp_loop_rounds 4 ?_
      rw [rounds_succ]
      go_wp2_with fail
      rw [rounds_succ]
      go_wp2_with fail
      rw [rounds_succ]
      obtain ⟨y0, y1, y2, y3, y4, y5, y6, y7, y8, y9⟩ := HI1.out.v.cells
      obtain ⟨q0, q1, q2, q3, q4, q5, q6, q7, q8, q9⟩ := HI1.out.r.cells
      have fz := frz HI1.out.r
      have lz := lt_of_block HI1.out.r
      go_wp2_with fail
      have hfin := HI1.out.r.store (V w)
      refine bodyPost_ret_by (v := .agg (Array.mk [.int .i64 (V w), .int .u64 0, .bool false, .bool false, .bool false, .int .u64 0, .int .i64 0, .int .u64 0, .int .i64 0, .int .i64 0])) (results_cell_row (p := 6) (ty := 46) rfl _ _ W.heap.size 46 _ (0, 0) _ rfl hfin Try.underlying46 rfl (by kernel_rfl)) rfl ?_
      exact ⟨rfl, st10_below _ _ HI1.out.b (Nat.le_refl _)⟩
theorem joined_any (k : Nat) (hk : k < 5) (lb n c : Nat) (hn : n ≤ 64) (V : Nat → Int) : ∀ (f w : Nat), n ≤ w + f → w < n → ∀ W : World, VLc lb n V W → Calls Try.prog 22 #[.int .i64 (k : Int), .slice (some ⟨lb, 0, none⟩) n c, .int .i64 (w : Int)] W fun e W' => e = .returned (vlA (JT (JF k) n V w)) ∧ Below W.heap.size W W'
  | 0, w, hf, hw, W, h => by omega
  | f + 1, w, hf, hw, W, h => joined_step k hk lb n c hn V w hw (fun c' hc hc' W' h' => joined_any k hk lb n c hn V f c' (by omega) hc' W' h') W h
end Go.Proofs.Ytkalhmofjpalkaa
