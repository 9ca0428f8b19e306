import Derived.Test.YtlojkcodndjfbaaY2
namespace Go.Proofs.Ytlojkcodndjfbaa
open Go.ChangeShapes Go.WideShapes Go.ChangeAt Go.RowKit
set_option linter.unusedVariables false

theorem Ch.set3g (qb g hb : Nat) (W : World) (k : Nat) (v : Value) : Ch (S3 qb g hb) W (W.setCell ⟨g, k, none⟩ v) := Ch.set _ _ _ _ _ (.inr (.inl rfl))
theorem Ch.set3h (qb g hb : Nat) (W : World) (k : Nat) (v : Value) : Ch (S3 qb g hb) W (W.setCell ⟨hb, k, none⟩ v) := Ch.set _ _ _ _ _ (.inr (.inr rfl))
theorem QW.offh {W : World} {base qb g c n : Nat} {A : Ar} {f r s m k : Int} (h : QW W base qb g c n A f r s m k) (hb j : Nat) (v : Value) (hne : hb ≠ qb ∧ hb ≠ g) : QW (W.setCell ⟨hb, j, none⟩ v) base qb g c n A f r s m k := ⟨own_other h.box _ _ _ fun e => hne.1 e.symm, own_other h.row _ _ _ fun e => hne.2 e.symm, h.ne⟩
theorem HBx.off {W : World} {hb r0 r1 l0 l1 : Nat} (h : HBx W hb r0 r1 l0 l1) (b j : Nat) (v : Value) (hne : hb ≠ b) : HBx (W.setCell ⟨b, j, none⟩ v) hb r0 r1 l0 l1 := (Below.heap_setCell _ _ _ _ hne).trans h
set_option maxRecDepth 100000 in
set_option maxHeartbeats 4000000 in
theorem hang0 (base qb g c n : Nat) (A : Ar) (f r s m k : Int) (hb r0 r1 l0 l1 x : Nat) (W : World) (h : QW W base qb g c n A f r s m k) (hh : HBx W hb r0 r1 l0 l1) (hl : l0 < n) (hn : n ≤ 8193) (hne : hb ≠ qb ∧ hb ≠ g) :
    Calls Try.prog 52 #[.pointer (some ⟨qb, 0, none⟩), .pointer (some ⟨hb, 0, none⟩), .int .i64 0, .int .i64 (x : Int)] W fun e W' => e = .returned (.tuple #[]) ∧ QW W' base qb g c n { A with R := hR A.R l0 x } f r s m k ∧ HBx W' hb (hRoot r0 l0 x) r1 x l1 ∧ Ch (S3 qb g hb) W W' := by
  obtain ⟨c0, c1, c2, c3⟩ := hh.cells
  have z0 := hh.frz 0
  have z2 := hh.frz 2
  by_cases h0 : l0 = 0
  · subst h0
    have hs1 := (hh.set x).1
    have d2 := hs1.cells.2.2.1
    have y2 := hs1.frz 2
    go_enter Try.func52, Try.ntmps52
    go_wp2
    go_end0
    exact ⟨rfl, (h.offh hb _ _ hne).offh hb _ _ hne, (hs1.set x).2.2.1, (Ch.set3h qb g hb W _ _).trans (Ch.set3h qb g hb _ _ _)⟩
  · obtain ⟨q0, q1, q2, q3, q4, q5⟩ := h.cells
    have dl : ((l0 : Int) == 0) = false := by simp; omega
    have i0 : (0 : Int) ≤ (l0 : Int) := by omega
    have i1 : (l0 : Int) < (n : Int) := by omega
    have nd := h.nd hl 7 (by decide)
    have nf := own_frozen h.row (l0 * 8 + 7)
    go_enter Try.func52, Try.ntmps52
    go_wp2
    go_end0
    have e1 : hR A.R l0 x = upd A.R l0 x := if_neg h0
    have e2 : hRoot r0 l0 x = r0 := if_neg h0
    rw [e1, e2]
    exact ⟨rfl, (h.setR l0 x).offh hb _ _ hne, ((hh.off g _ _ hne.2).set x).2.2.1, (Ch.set3g qb g hb W _ _).trans (Ch.set3h qb g hb _ _ _)⟩
set_option maxRecDepth 100000 in
set_option maxHeartbeats 4000000 in
theorem hang1 (base qb g c n : Nat) (A : Ar) (f r s m k : Int) (hb r0 r1 l0 l1 x : Nat) (W : World) (h : QW W base qb g c n A f r s m k) (hh : HBx W hb r0 r1 l0 l1) (hl : l1 < n) (hn : n ≤ 8193) (hne : hb ≠ qb ∧ hb ≠ g) :
    Calls Try.prog 52 #[.pointer (some ⟨qb, 0, none⟩), .pointer (some ⟨hb, 0, none⟩), .int .i64 1, .int .i64 (x : Int)] W fun e W' => e = .returned (.tuple #[]) ∧ QW W' base qb g c n { A with L := hR A.L l1 x } f r s m k ∧ HBx W' hb r0 (hRoot r1 l1 x) l0 x ∧ Ch (S3 qb g hb) W W' := by
  obtain ⟨c0, c1, c2, c3⟩ := hh.cells
  have z0 := hh.frz 1
  have z2 := hh.frz 3
  by_cases h0 : l1 = 0
  · subst h0
    have hs1 := (hh.set x).2.1
    have d2 := hs1.cells.2.2.2
    have y2 := hs1.frz 3
    go_enter Try.func52, Try.ntmps52
    go_wp2
    go_end0
    exact ⟨rfl, (h.offh hb _ _ hne).offh hb _ _ hne, (hs1.set x).2.2.2, (Ch.set3h qb g hb W _ _).trans (Ch.set3h qb g hb _ _ _)⟩
  · obtain ⟨q0, q1, q2, q3, q4, q5⟩ := h.cells
    have dl : ((l1 : Int) == 0) = false := by simp; omega
    have i0 : (0 : Int) ≤ (l1 : Int) := by omega
    have i1 : (l1 : Int) < (n : Int) := by omega
    have nd := h.nd hl 6 (by decide)
    have nf := own_frozen h.row (l1 * 8 + 6)
    go_enter Try.func52, Try.ntmps52
    go_wp2
    go_end0
    have e1 : hR A.L l1 x = upd A.L l1 x := if_neg h0
    have e2 : hRoot r1 l1 x = r1 := if_neg h0
    rw [e1, e2]
    exact ⟨rfl, (h.setL l1 x).offh hb _ _ hne, ((hh.off g _ _ hne.2).set x).2.2.2, (Ch.set3g qb g hb W _ _).trans (Ch.set3h qb g hb _ _ _)⟩
set_option maxRecDepth 100000 in
set_option maxHeartbeats 4000000 in
theorem turn0 (base qb g c n : Nat) (A : Ar) (f r s m k : Int) (x y : Nat) (W : World) (h : QW W base qb g c n A f r s m k) (hx : x < n) (hy : y < n) (hxy : A.L x = y) (hne : x ≠ y) (hn : n ≤ 8193) :
    Calls Try.prog 53 #[.pointer (some ⟨qb, 0, none⟩), .int .i64 (x : Int), .int .i64 0] W fun e W' => e = .returned (.tuple #[]) ∧ QW W' base qb g c n { A with L := upd A.L x (A.R y), R := upd A.R y x } f r s m k ∧ Ch (S2 qb g) W W' := by
  obtain ⟨q0, q1, q2, q3, q4, q5⟩ := h.cells
  have i0 : (0 : Int) ≤ (x : Int) := by omega
  have i1 : (x : Int) < (n : Int) := by omega
  have j0 : (0 : Int) ≤ (y : Int) := by omega
  have j1 : (y : Int) < (n : Int) := by omega
  have x6 : W.cell? ⟨g, x * 8 + 6, none⟩ = some (.int .i64 (y : Int)) := by rw [h.nd hx 6 (by decide)]; simp [ndC, hxy]
  have xf := own_frozen h.row (x * 8 + 6)
  have y7 : W.cell? ⟨g, y * 8 + 7, none⟩ = some (.int .i64 (A.R y : Int)) := h.nd hy 7 (by decide)
  have h1 := h.setL x (A.R y)
  obtain ⟨p0, p1, p2, p3, p4, p5⟩ := h1.cells
  have z7 := h1.nd hy 7 (by decide)
  have zf := own_frozen h1.row (y * 8 + 7)
  have z7' : (W.setCell ⟨g, x * 8 + 6, none⟩ (.int .i64 (A.R y : Int))).cell? ⟨g, y * 8 + 7, none⟩ = some (.int .i64 (A.R y : Int)) := z7
  have HH1 : Hid (QW (W.setCell ⟨g, x * 8 + 6, none⟩ (.int .i64 (A.R y : Int))) base qb g c n { A with L := upd A.L x (A.R y) } f r s m k) := h1
  clear h1 z7
  go_enter Try.func53, Try.ntmps53
  go_wp2_with (fail)
  have wq : IntKind.i64.wrap ((1 : Int) - 0) = 1 := rfl
  have wq2 : IntKind.i64.wrap (1 : Int) = 1 := rfl
  go_region_held3 (fun w' => w'.cell? ⟨qb, 0, none⟩ = some (.slice (some ⟨g, 0, none⟩) n c) ∧ w'.cell? ⟨g, y * 8 + 7, none⟩ = some (.int .i64 (A.R y : Int))) (first | exact ⟨q0, y7⟩ | exact ⟨p0, z7'⟩ | go_keep) (fail)
  have h2 := HH1.out.later (below_drewNq _ _ 1)
  obtain ⟨s0, s1, s2, s3, s4, s5⟩ := h2.cells
  have t7 := h2.nd hy 7 (by decide)
  have tf := own_frozen h2.row (y * 8 + 7)
  have h3 := h2.setR y x
  clear h h2 p0 p1 p2 p3 p4 p5 q0 q1 q2 q3 q4 q5
  go_wp2
  go_end0
  exact ⟨rfl, h3, (Ch.set _ _ _ _ _ (.inr rfl)).trans ((Ch.drew _ _ 1).trans (Ch.set _ _ _ _ _ (.inr rfl)))⟩
set_option maxRecDepth 100000 in
set_option maxHeartbeats 4000000 in
theorem turn1 (base qb g c n : Nat) (A : Ar) (f r s m k : Int) (x y : Nat) (W : World) (h : QW W base qb g c n A f r s m k) (hx : x < n) (hy : y < n) (hxy : A.R x = y) (hne : x ≠ y) (hn : n ≤ 8193) :
    Calls Try.prog 53 #[.pointer (some ⟨qb, 0, none⟩), .int .i64 (x : Int), .int .i64 1] W fun e W' => e = .returned (.tuple #[]) ∧ QW W' base qb g c n { A with R := upd A.R x (A.L y), L := upd A.L y x } f r s m k ∧ Ch (S2 qb g) W W' := by
  obtain ⟨q0, q1, q2, q3, q4, q5⟩ := h.cells
  have i0 : (0 : Int) ≤ (x : Int) := by omega
  have i1 : (x : Int) < (n : Int) := by omega
  have j0 : (0 : Int) ≤ (y : Int) := by omega
  have j1 : (y : Int) < (n : Int) := by omega
  have x6 : W.cell? ⟨g, x * 8 + 7, none⟩ = some (.int .i64 (y : Int)) := by rw [h.nd hx 7 (by decide)]; simp [ndC, hxy]
  have xf := own_frozen h.row (x * 8 + 7)
  have y7 : W.cell? ⟨g, y * 8 + 6, none⟩ = some (.int .i64 (A.L y : Int)) := h.nd hy 6 (by decide)
  have h1 := h.setR x (A.L y)
  obtain ⟨p0, p1, p2, p3, p4, p5⟩ := h1.cells
  have z7 := h1.nd hy 6 (by decide)
  have zf := own_frozen h1.row (y * 8 + 6)
  have z7' : (W.setCell ⟨g, x * 8 + 7, none⟩ (.int .i64 (A.L y : Int))).cell? ⟨g, y * 8 + 6, none⟩ = some (.int .i64 (A.L y : Int)) := z7
  have HH1 : Hid (QW (W.setCell ⟨g, x * 8 + 7, none⟩ (.int .i64 (A.L y : Int))) base qb g c n { A with R := upd A.R x (A.L y) } f r s m k) := h1
  clear h1 z7
  go_enter Try.func53, Try.ntmps53
  go_wp2_with (fail)
  have wq : IntKind.i64.wrap ((1 : Int) - 1) = 0 := rfl
  have wq2 : IntKind.i64.wrap (0 : Int) = 0 := rfl
  go_region_held3 (fun w' => w'.cell? ⟨qb, 0, none⟩ = some (.slice (some ⟨g, 0, none⟩) n c) ∧ w'.cell? ⟨g, y * 8 + 6, none⟩ = some (.int .i64 (A.L y : Int))) (first | exact ⟨q0, y7⟩ | exact ⟨p0, z7'⟩ | go_keep) (fail)
  have h2 := HH1.out.later (below_drewNq _ _ 1)
  obtain ⟨s0, s1, s2, s3, s4, s5⟩ := h2.cells
  have t7 := h2.nd hy 6 (by decide)
  have tf := own_frozen h2.row (y * 8 + 6)
  have h3 := h2.setL y x
  clear h h2 p0 p1 p2 p3 p4 p5 q0 q1 q2 q3 q4 q5
  go_wp2
  go_end0
  exact ⟨rfl, h3, (Ch.set _ _ _ _ _ (.inr rfl)).trans ((Ch.drew _ _ 1).trans (Ch.set _ _ _ _ _ (.inr rfl)))⟩
set_option maxRecDepth 100000 in
set_option maxHeartbeats 4000000 in
theorem link_any (base qb g c n : Nat) (A : Ar) (f r s m k : Int) (a x b : Nat) (W : World) (h : QW W base qb g c n A f r s m k) (hx : x < n) (hn : n ≤ 8193) :
    Calls Try.prog 27 #[.pointer (some ⟨qb, 0, none⟩), .int .i64 (a : Int), .int .i64 (x : Int), .int .i64 (b : Int)] W fun e W' => e = .returned (.int .i64 (x : Int)) ∧ QW W' base qb g c n { A with L := upd A.L x a, R := upd A.R x b } f r s m k ∧ Ch (S2 qb g) W W' := by
  obtain ⟨q0, q1, q2, q3, q4, q5⟩ := h.cells
  have i0 : (0 : Int) ≤ (x : Int) := by omega
  have i1 : (x : Int) < (n : Int) := by omega
  have x6 := h.nd hx 6 (by decide)
  have x7 := h.nd hx 7 (by decide)
  have f6 := own_frozen h.row (x * 8 + 6)
  have f7 := own_frozen h.row (x * 8 + 7)
  go_enter Try.func27, Try.ntmps27
  go_wp2
  go_ret
  exact ⟨rfl, ((h.setL x a).setR x b), (Ch.set _ _ _ _ _ (.inr rfl)).trans (Ch.set _ _ _ _ _ (.inr rfl))⟩
end Go.Proofs.Ytlojkcodndjfbaa
