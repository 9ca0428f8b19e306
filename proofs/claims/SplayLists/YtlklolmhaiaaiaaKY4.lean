import Derived.Test.YtlklolmhaiaaiaaKY2
namespace Go.Proofs.Ytlklolmhaiaaiaa
open Go.ChangeShapes Go.WideShapes Go.ChangeAt Go.RowKit
set_option linter.unusedVariables false

theorem Ch.set3g (qb g hb : Nat) (W : World) (k : Nat) (v : Value) : Ch (S3 qb g hb) W (W.setCell ⟨g, k, none⟩ v) := Ch.set _ _ _ _ _ (.inr (.inl rfl))
theorem Ch.set3h (qb g hb : Nat) (W : World) (k : Nat) (v : Value) : Ch (S3 qb g hb) W (W.setCell ⟨hb, k, none⟩ v) := Ch.set _ _ _ _ _ (.inr (.inr rfl))
theorem QW.offh {W : World} {base qb g c n : Nat} {A : Ar} {f r s m k : Int} (h : QW W base qb g c n A f r s m k) (hb j : Nat) (v : Value) (hne : hb ≠ qb ∧ hb ≠ g) : QW (W.setCell ⟨hb, j, none⟩ v) base qb g c n A f r s m k := ⟨own_other h.box _ _ _ fun e => hne.1 e.symm, own_other h.row _ _ _ fun e => hne.2 e.symm, h.ne⟩
theorem HBx.off {W : World} {hb r0 r1 l0 l1 : Nat} (h : HBx W hb r0 r1 l0 l1) (b j : Nat) (v : Value) (hne : hb ≠ b) : HBx (W.setCell ⟨b, j, none⟩ v) hb r0 r1 l0 l1 := (Below.heap_setCell _ _ _ _ hne).trans h
set_option maxRecDepth 100000 in
set_option maxHeartbeats 4000000 in
theorem hang0 (base qb g c n : Nat) (A : Ar) (f r s m k : Int) (hb r0 r1 l0 l1 x : Nat) (W : World) (h : QW W base qb g c n A f r s m k) (hh : HBx W hb r0 r1 l0 l1) (hl : l0 < n) (hn : n ≤ 8193) (hne : hb ≠ qb ∧ hb ≠ g) :
    Calls Try.prog 67 #[.pointer (some ⟨qb, 0, none⟩), .pointer (some ⟨hb, 0, none⟩), .int .i64 0, .int .i64 (x : Int)] W fun e W' => e = .returned (.tuple #[]) ∧ QW W' base qb g c n { A with R := hR A.R l0 x } f r s m k ∧ HBx W' hb (hRoot r0 l0 x) r1 x l1 ∧ Ch (S3 qb g hb) W W' := by
  obtain ⟨c0, c1, c2, c3⟩ := hh.cells
  have z0 := hh.frz 0
  have z2 := hh.frz 2
  by_cases h0 : l0 = 0
  · subst h0
    have hs1 := (hh.set x).1
    have d2 := hs1.cells.2.2.1
    have y2 := hs1.frz 2
    go_enter Try.func67, Try.ntmps67
    go_wp2
    go_end0
    exact ⟨rfl, (h.offh hb _ _ hne).offh hb _ _ hne, (hs1.set x).2.2.1, (Ch.set3h qb g hb W _ _).trans (Ch.set3h qb g hb _ _ _)⟩
  · obtain ⟨q0, q1, q2, q3, q4, q5⟩ := h.cells
    have dl : ((l0 : Int) == 0) = false := by simp; omega
    have i0 : (0 : Int) ≤ (l0 : Int) := by omega
    have i1 : (l0 : Int) < (n : Int) := by omega
    have nd := h.nd hl 7 (by decide)
    have nf := own_frozen h.row (l0 * 8 + 7)
    go_enter Try.func67, Try.ntmps67
    go_wp2
    go_end0
    have e1 : hR A.R l0 x = upd A.R l0 x := if_neg h0
    have e2 : hRoot r0 l0 x = r0 := if_neg h0
    rw [e1, e2]
    exact ⟨rfl, (h.setR l0 x).offh hb _ _ hne, ((hh.off g _ _ hne.2).set x).2.2.1, (Ch.set3g qb g hb W _ _).trans (Ch.set3h qb g hb _ _ _)⟩
set_option maxRecDepth 100000 in
set_option maxHeartbeats 4000000 in
theorem hang1 (base qb g c n : Nat) (A : Ar) (f r s m k : Int) (hb r0 r1 l0 l1 x : Nat) (W : World) (h : QW W base qb g c n A f r s m k) (hh : HBx W hb r0 r1 l0 l1) (hl : l1 < n) (hn : n ≤ 8193) (hne : hb ≠ qb ∧ hb ≠ g) :
    Calls Try.prog 67 #[.pointer (some ⟨qb, 0, none⟩), .pointer (some ⟨hb, 0, none⟩), .int .i64 1, .int .i64 (x : Int)] W fun e W' => e = .returned (.tuple #[]) ∧ QW W' base qb g c n { A with L := hR A.L l1 x } f r s m k ∧ HBx W' hb r0 (hRoot r1 l1 x) l0 x ∧ Ch (S3 qb g hb) W W' := by
  obtain ⟨c0, c1, c2, c3⟩ := hh.cells
  have z0 := hh.frz 1
  have z2 := hh.frz 3
  by_cases h0 : l1 = 0
  · subst h0
    have hs1 := (hh.set x).2.1
    have d2 := hs1.cells.2.2.2
    have y2 := hs1.frz 3
    go_enter Try.func67, Try.ntmps67
    go_wp2
    go_end0
    exact ⟨rfl, (h.offh hb _ _ hne).offh hb _ _ hne, (hs1.set x).2.2.2, (Ch.set3h qb g hb W _ _).trans (Ch.set3h qb g hb _ _ _)⟩
  · obtain ⟨q0, q1, q2, q3, q4, q5⟩ := h.cells
    have dl : ((l1 : Int) == 0) = false := by simp; omega
    have i0 : (0 : Int) ≤ (l1 : Int) := by omega
    have i1 : (l1 : Int) < (n : Int) := by omega
    have nd := h.nd hl 6 (by decide)
    have nf := own_frozen h.row (l1 * 8 + 6)
    go_enter Try.func67, Try.ntmps67
    go_wp2
    go_end0
    have e1 : hR A.L l1 x = upd A.L l1 x := if_neg h0
    have e2 : hRoot r1 l1 x = r1 := if_neg h0
    rw [e1, e2]
    exact ⟨rfl, (h.setL l1 x).offh hb _ _ hne, ((hh.off g _ _ hne.2).set x).2.2.2, (Ch.set3g qb g hb W _ _).trans (Ch.set3h qb g hb _ _ _)⟩
set_option maxRecDepth 100000 in
set_option maxHeartbeats 4000000 in
theorem turn0 (base qb g c n : Nat) (A : Ar) (f r s m k : Int) (x y : Nat) (W : World) (h : QW W base qb g c n A f r s m k) (hx : x < n) (hy : y < n) (hxy : A.L x = y) (hne : x ≠ y) (hn : n ≤ 8193) :
    Calls Try.prog 68 #[.pointer (some ⟨qb, 0, none⟩), .int .i64 (x : Int), .int .i64 0] W fun e W' => e = .returned (.tuple #[]) ∧ QW W' base qb g c n { A with L := upd A.L x (A.R y), R := upd A.R y x } f r s m k ∧ Ch (S2 qb g) W W' := by
  obtain ⟨q0, q1, q2, q3, q4, q5⟩ := h.cells
  have i0 : (0 : Int) ≤ (x : Int) := by omega
  have i1 : (x : Int) < (n : Int) := by omega
  have j0 : (0 : Int) ≤ (y : Int) := by omega
  have j1 : (y : Int) < (n : Int) := by omega
  have x6 : W.cell? ⟨g, x * 8 + 6, none⟩ = some (.int .i64 (y : Int)) := by rw [h.nd hx 6 (by decide)]; simp [ndC, hxy]
  have xf := own_frozen h.row (x * 8 + 6)
  have y7 : W.cell? ⟨g, y * 8 + 7, none⟩ = some (.int .i64 (A.R y : Int)) := h.nd hy 7 (by decide)
  have h1 := h.setL x (A.R y)
  obtain ⟨p0, p1, p2, p3, p4, p5⟩ := h1.cells
  have z7 := h1.nd hy 7 (by decide)
  have zf := own_frozen h1.row (y * 8 + 7)
  have z7' : (W.setCell ⟨g, x * 8 + 6, none⟩ (.int .i64 (A.R y : Int))).cell? ⟨g, y * 8 + 7, none⟩ = some (.int .i64 (A.R y : Int)) := z7
  have HH1 : Hid (QW (W.setCell ⟨g, x * 8 + 6, none⟩ (.int .i64 (A.R y : Int))) base qb g c n { A with L := upd A.L x (A.R y) } f r s m k) := h1
  clear h1 z7
  go_enter Try.func68, Try.ntmps68
  go_wp2_with (fail)
  have wq : IntKind.i64.wrap ((1 : Int) - 0) = 1 := rfl
  have wq2 : IntKind.i64.wrap (1 : Int) = 1 := rfl
  go_region_held3 (fun w' => w'.cell? ⟨qb, 0, none⟩ = some (.slice (some ⟨g, 0, none⟩) n c) ∧ w'.cell? ⟨g, y * 8 + 7, none⟩ = some (.int .i64 (A.R y : Int))) (first | exact ⟨q0, y7⟩ | exact ⟨p0, z7'⟩ | go_keep) (fail)
  have h2 := HH1.out.later (below_drewNq _ _ 1)
  obtain ⟨s0, s1, s2, s3, s4, s5⟩ := h2.cells
  have t7 := h2.nd hy 7 (by decide)
  have tf := own_frozen h2.row (y * 8 + 7)
  have h3 := h2.setR y x
  clear h h2 p0 p1 p2 p3 p4 p5 q0 q1 q2 q3 q4 q5
  go_wp2
  go_end0
  exact ⟨rfl, h3, (Ch.set _ _ _ _ _ (.inr rfl)).trans ((Ch.drew _ _ 1).trans (Ch.set _ _ _ _ _ (.inr rfl)))⟩
set_option maxRecDepth 100000 in
set_option maxHeartbeats 4000000 in
theorem turn1 (base qb g c n : Nat) (A : Ar) (f r s m k : Int) (x y : Nat) (W : World) (h : QW W base qb g c n A f r s m k) (hx : x < n) (hy : y < n) (hxy : A.R x = y) (hne : x ≠ y) (hn : n ≤ 8193) :
    Calls Try.prog 68 #[.pointer (some ⟨qb, 0, none⟩), .int .i64 (x : Int), .int .i64 1] W fun e W' => e = .returned (.tuple #[]) ∧ QW W' base qb g c n { A with R := upd A.R x (A.L y), L := upd A.L y x } f r s m k ∧ Ch (S2 qb g) W W' := by
  obtain ⟨q0, q1, q2, q3, q4, q5⟩ := h.cells
  have i0 : (0 : Int) ≤ (x : Int) := by omega
  have i1 : (x : Int) < (n : Int) := by omega
  have j0 : (0 : Int) ≤ (y : Int) := by omega
  have j1 : (y : Int) < (n : Int) := by omega
  have x6 : W.cell? ⟨g, x * 8 + 7, none⟩ = some (.int .i64 (y : Int)) := by rw [h.nd hx 7 (by decide)]; simp [ndC, hxy]
  have xf := own_frozen h.row (x * 8 + 7)
  have y7 : W.cell? ⟨g, y * 8 + 6, none⟩ = some (.int .i64 (A.L y : Int)) := h.nd hy 6 (by decide)
  have h1 := h.setR x (A.L y)
  obtain ⟨p0, p1, p2, p3, p4, p5⟩ := h1.cells
  have z7 := h1.nd hy 6 (by decide)
  have zf := own_frozen h1.row (y * 8 + 6)
  have z7' : (W.setCell ⟨g, x * 8 + 7, none⟩ (.int .i64 (A.L y : Int))).cell? ⟨g, y * 8 + 6, none⟩ = some (.int .i64 (A.L y : Int)) := z7
  have HH1 : Hid (QW (W.setCell ⟨g, x * 8 + 7, none⟩ (.int .i64 (A.L y : Int))) base qb g c n { A with R := upd A.R x (A.L y) } f r s m k) := h1
  clear h1 z7
  go_enter Try.func68, Try.ntmps68
  go_wp2_with (fail)
  have wq : IntKind.i64.wrap ((1 : Int) - 1) = 0 := rfl
  have wq2 : IntKind.i64.wrap (0 : Int) = 0 := rfl
  go_region_held3 (fun w' => w'.cell? ⟨qb, 0, none⟩ = some (.slice (some ⟨g, 0, none⟩) n c) ∧ w'.cell? ⟨g, y * 8 + 6, none⟩ = some (.int .i64 (A.L y : Int))) (first | exact ⟨q0, y7⟩ | exact ⟨p0, z7'⟩ | go_keep) (fail)
  have h2 := HH1.out.later (below_drewNq _ _ 1)
  obtain ⟨s0, s1, s2, s3, s4, s5⟩ := h2.cells
  have t7 := h2.nd hy 6 (by decide)
  have tf := own_frozen h2.row (y * 8 + 6)
  have h3 := h2.setL y x
  clear h h2 p0 p1 p2 p3 p4 p5 q0 q1 q2 q3 q4 q5
  go_wp2
  go_end0
  exact ⟨rfl, h3, (Ch.set _ _ _ _ _ (.inr rfl)).trans ((Ch.drew _ _ 1).trans (Ch.set _ _ _ _ _ (.inr rfl)))⟩
set_option maxRecDepth 100000 in
set_option maxHeartbeats 4000000 in
theorem link_any (base qb g c n : Nat) (A : Ar) (f r s m k : Int) (a x b : Nat) (W : World) (h : QW W base qb g c n A f r s m k) (hx : x < n) (hn : n ≤ 8193) :
    Calls Try.prog 58 #[.pointer (some ⟨qb, 0, none⟩), .int .i64 (a : Int), .int .i64 (x : Int), .int .i64 (b : Int)] W fun e W' => e = .returned (.int .i64 (x : Int)) ∧ QW W' base qb g c n { A with L := upd A.L x a, R := upd A.R x b } f r s m k ∧ Ch (S2 qb g) W W' := by
  obtain ⟨q0, q1, q2, q3, q4, q5⟩ := h.cells
  have i0 : (0 : Int) ≤ (x : Int) := by omega
  have i1 : (x : Int) < (n : Int) := by omega
  have x6 := h.nd hx 6 (by decide)
  have x7 := h.nd hx 7 (by decide)
  have f6 := own_frozen h.row (x * 8 + 6)
  have f7 := own_frozen h.row (x * 8 + 7)
  go_enter Try.func58, Try.ntmps58
  go_wp2
  go_ret
  exact ⟨rfl, ((h.setL x a).setR x b), (Ch.set _ _ _ _ _ (.inr rfl)).trans (Ch.set _ _ _ _ _ (.inr rfl))⟩
end Go.Proofs.Ytlklolmhaiaaiaa
namespace Go.Proofs.Ytlklolmhaiaaiaa
open Go.ChangeShapes Go.WideShapes Go.ChangeAt Go.RowKit
set_option linter.unusedVariables false

/-! ### open as it goes down -/
structure OI (t0 : Tr) (A0 A : Ar) (q r0 r1 l0 l1 : Nat) (t : Tr) (FL FR : Tr → Tr) (PL PR : List Nat) : Prop where
  lies : t.lies A.L A.R q
  lh : LH A.L A.R r0 l0 FL PL
  rh : RH A.L A.R r1 l1 FR PR
  ps : PL ++ (t.ps ++ PR) = t0.ps
  E : A.E = A0.E
  out : ∀ p, p ∉ t0.ps → A.L p = A0.L p ∧ A.R p = A0.R p
theorem OI.mem {t0 : Tr} {A0 A : Ar} {q r0 r1 l0 l1 : Nat} {t : Tr} {FL FR : Tr → Tr} {PL PR : List Nat} (h : OI t0 A0 A q r0 r1 l0 l1 t FL FR PL PR) {p : Nat} (hp : p ∈ PL ∨ p ∈ t.ps ∨ p ∈ PR) : p ∈ t0.ps := by
  rw [← h.ps]
  simpa using hp
theorem OI.l0in {t0 : Tr} {A0 A : Ar} {q r0 r1 l0 l1 : Nat} {t : Tr} {FL FR : Tr → Tr} {PL PR : List Nat} (h : OI t0 A0 A q r0 r1 l0 l1 t FL FR PL PR) (hl : l0 ≠ 0) : l0 ∈ PL := (h.lh.nz hl).1
theorem OI.l1in {t0 : Tr} {A0 A : Ar} {q r0 r1 l0 l1 : Nat} {t : Tr} {FL FR : Tr → Tr} {PL PR : List Nat} (h : OI t0 A0 A q r0 r1 l0 l1 t FL FR PL PR) (hl : l1 ≠ 0) : l1 ∈ PR := (h.rh.nz hl).1
theorem hR_ne {R : Nat → Nat} {last x p : Nat} (h : p ≠ last ∨ last = 0) : hR R last x p = R p := by
  unfold hR
  split
  · rfl
  · rename_i hl
    rcases h with h | h
    · exact upd_ne _ _ h
    · exact absurd h hl
theorem nd3 {l m r : List Nat} (h : (l ++ (m ++ r)).Nodup) : (∀ p ∈ l, p ∉ m ∧ p ∉ r) ∧ (∀ p ∈ m, p ∉ l ∧ p ∉ r) ∧ (∀ p ∈ r, p ∉ l ∧ p ∉ m) ∧ m.Nodup := by
  rw [List.nodup_append] at h
  obtain ⟨h1, h2, h3⟩ := h
  rw [List.nodup_append] at h2
  obtain ⟨h4, h5, h6⟩ := h2
  refine ⟨fun p hp => ⟨fun hm => h3 p hp p (by simp [hm]) rfl, fun hr => h3 p hp p (by simp [hr]) rfl⟩, fun p hp => ⟨fun hl => h3 p hl p (by simp [hp]) rfl, fun hr => h6 p hp p hr rfl⟩, fun p hp => ⟨fun hl => h3 p hl p (by simp [hp]) rfl, fun hm => h6 p hm p hp rfl⟩, h4⟩
theorem ndNode {a b : Tr} {x : Nat} (h : (Tr.node a x b).ps.Nodup) : x ∉ a.ps ∧ x ∉ b.ps ∧ (∀ p ∈ a.ps, p ∉ b.ps) ∧ a.ps.Nodup ∧ b.ps.Nodup := by
  simp only [Tr.ps] at h
  rw [List.nodup_append] at h
  obtain ⟨h1, h2, h3⟩ := h
  rw [List.nodup_cons] at h2
  exact ⟨fun hx => h3 x hx x (by simp) rfl, h2.1, fun p hp hb => h3 p hp p (by simp [hb]) rfl, h1, h2.2⟩
/-- x goes to the greater half; what was sought is less -/
theorem OI.mvR {t0 : Tr} {A0 A : Ar} {q r0 r1 l0 l1 : Nat} {a b : Tr} {x : Nat} {FL FR : Tr → Tr} {PL PR : List Nat} (h : OI t0 A0 A q r0 r1 l0 l1 (.node a x b) FL FR PL PR) (hnd : t0.ps.Nodup) (h00 : (0 : Nat) ∉ t0.ps) :
    OI t0 A0 { A with L := hR A.L l1 x } (A.L x) r0 (hRoot r1 l1 x) l0 x a FL (fun t => FR (.node t x b)) PL (x :: b.ps ++ PR) ∧ hR A.L l1 x x = A.L x := by
  obtain ⟨rfl, hx, ha, hb⟩ := h.lies
  have hn := hnd
  rw [← h.ps] at hn
  obtain ⟨d1, d2, d3, d4⟩ := nd3 hn
  obtain ⟨e1, e2, e3, e4, e5⟩ := ndNode d4
  have hl1 : ∀ p ∈ (Tr.node a q b).ps ++ PL, p ≠ l1 ∨ l1 = 0 := fun p hp => by
    by_cases hz : l1 = 0
    · exact .inr hz
    · refine .inl fun e => ?_
      have := h.l1in hz
      rcases List.mem_append.1 hp with hp | hp
      · exact (d2 p hp).2 (e ▸ this)
      · exact (d1 p hp).2 (e ▸ this)
  have hqe : hR A.L l1 q q = A.L q := hR_ne (hl1 q (by simp [Tr.ps]))
  refine ⟨⟨?_, ?_, ?_, ?_, h.E, fun p hp => ⟨?_, (h.out p hp).2⟩⟩, hqe⟩
  · exact Tr.lies_congr ha fun p hp => ⟨hR_ne (hl1 p (by simp [Tr.ps, hp])), rfl⟩
  · exact h.lh.congr fun p hp => ⟨hR_ne (hl1 p (by simp [hp])), fun _ => rfl⟩
  · exact h.rh.hang hb hx (d2 q (by simp [Tr.ps])).2 (fun p hp => (d2 p (by simp [Tr.ps, hp])).2) e2
  · rw [← h.ps]
    simp [Tr.ps]
  · rw [← (h.out p hp).1]
    refine hR_ne ?_
    by_cases hz : l1 = 0
    · exact .inr hz
    · exact .inl fun e => hp (e ▸ h.mem (.inr (.inr (h.l1in hz))))
theorem OI.mvL {t0 : Tr} {A0 A : Ar} {q r0 r1 l0 l1 : Nat} {a b : Tr} {x : Nat} {FL FR : Tr → Tr} {PL PR : List Nat} (h : OI t0 A0 A q r0 r1 l0 l1 (.node a x b) FL FR PL PR) (hnd : t0.ps.Nodup) (h00 : (0 : Nat) ∉ t0.ps) :
    OI t0 A0 { A with R := hR A.R l0 x } (A.R x) (hRoot r0 l0 x) r1 x l1 b (fun t => FL (.node a x t)) FR (PL ++ (a.ps ++ [x])) PR ∧ hR A.R l0 x x = A.R x := by
  obtain ⟨rfl, hx, ha, hb⟩ := h.lies
  have hn := hnd
  rw [← h.ps] at hn
  obtain ⟨d1, d2, d3, d4⟩ := nd3 hn
  obtain ⟨e1, e2, e3, e4, e5⟩ := ndNode d4
  have hl0 : ∀ p ∈ (Tr.node a q b).ps ++ PR, p ≠ l0 ∨ l0 = 0 := fun p hp => by
    by_cases hz : l0 = 0
    · exact .inr hz
    · refine .inl fun e => ?_
      have := h.l0in hz
      rcases List.mem_append.1 hp with hp | hp
      · exact (d2 p hp).1 (e ▸ this)
      · exact (d3 p hp).1 (e ▸ this)
  have hqe : hR A.R l0 q q = A.R q := hR_ne (hl0 q (by simp [Tr.ps]))
  refine ⟨⟨?_, ?_, ?_, ?_, h.E, fun p hp => ⟨(h.out p hp).1, ?_⟩⟩, hqe⟩
  · exact Tr.lies_congr hb fun p hp => ⟨rfl, hR_ne (hl0 p (by simp [Tr.ps, hp]))⟩
  · exact h.lh.hang ha hx (d2 q (by simp [Tr.ps])).1 (fun p hp => (d2 p (by simp [Tr.ps, hp])).1) e1
  · exact h.rh.congr fun p hp => ⟨hR_ne (hl0 p (by simp [hp])), fun _ => rfl⟩
  · rw [← h.ps]
    simp [Tr.ps]
  · rw [← (h.out p hp).2]
    refine hR_ne ?_
    by_cases hz : l0 = 0
    · exact .inr hz
    · exact .inl fun e => hp (e ▸ h.mem (.inl (h.l0in hz)))
theorem OI.turn0 {t0 : Tr} {A0 A : Ar} {q r0 r1 l0 l1 : Nat} {c d b : Tr} {x y : Nat} {FL FR : Tr → Tr} {PL PR : List Nat} (h : OI t0 A0 A q r0 r1 l0 l1 (.node (.node c y d) x b) FL FR PL PR) (hnd : t0.ps.Nodup) :
    OI t0 A0 { A with L := upd A.L x (A.R y), R := upd A.R y x } y r0 r1 l0 l1 (.node c y (.node d x b)) FL FR PL PR ∧ upd A.L x (A.R y) y = A.L y := by
  obtain ⟨rfl, hx, ⟨hy', hy, hc, hd⟩, hb⟩ := h.lies
  have hn := hnd
  rw [← h.ps] at hn
  obtain ⟨d1, d2, d3, d4⟩ := nd3 hn
  obtain ⟨e1, e2, e3, e4, e5⟩ := ndNode d4
  obtain ⟨f1, f2, f3, f4, f5⟩ := ndNode e4
  have hyq : y ≠ q := fun e => e1 (by rw [← e]; simp [Tr.ps])
  have hLy : upd A.L q (A.R y) y = A.L y := upd_ne _ _ hyq
  refine ⟨⟨⟨rfl, hy, ?_, ?_⟩, ?_, ?_, ?_, h.E, fun p hp => ?_⟩, hLy⟩
  · show c.lies _ _ (upd A.L q (A.R y) y)
    rw [hLy]
    exact Tr.lies_congr hc fun p hp => ⟨upd_ne _ _ fun e => e1 (by rw [← e]; simp [Tr.ps, hp]), upd_ne _ _ fun e => f1 (e ▸ hp)⟩
  · show (Tr.node d q b).lies _ _ (upd A.R y q y)
    rw [upd_at]
    refine ⟨rfl, hx, ?_, ?_⟩
    · show d.lies _ _ (upd A.L q (A.R y) q)
      rw [upd_at]
      exact Tr.lies_congr hd fun p hp => ⟨upd_ne _ _ fun e => e1 (by rw [← e]; simp [Tr.ps, hp]), upd_ne _ _ fun e => f2 (e ▸ hp)⟩
    · show b.lies _ _ (upd A.R y q q)
      rw [upd_ne _ _ (fun e => hyq e.symm)]
      exact Tr.lies_congr hb fun p hp => ⟨upd_ne _ _ fun e => e2 (e ▸ hp), upd_ne _ _ fun e => e3 y (by simp [Tr.ps]) (e ▸ hp)⟩
  · exact h.lh.congr fun p hp => ⟨upd_ne _ _ fun e => (d1 p hp).1 (by rw [e]; simp [Tr.ps]), fun _ => upd_ne _ _ fun e => (d1 p hp).1 (by rw [e]; simp [Tr.ps])⟩
  · exact h.rh.congr fun p hp => ⟨upd_ne _ _ fun e => (d3 p hp).2 (by rw [e]; simp [Tr.ps]), fun _ => upd_ne _ _ fun e => (d3 p hp).2 (by rw [e]; simp [Tr.ps])⟩
  · rw [← h.ps]
    simp [Tr.ps]
  · have m1 : q ∈ t0.ps := h.mem (.inr (.inl (by simp [Tr.ps])))
    have m2 : y ∈ t0.ps := h.mem (.inr (.inl (by simp [Tr.ps])))
    have k1 : p ≠ q := fun e => hp (e ▸ m1)
    have k2 : p ≠ y := fun e => hp (e ▸ m2)
    exact ⟨(upd_ne _ _ k1).trans (h.out p hp).1, (upd_ne _ _ k2).trans (h.out p hp).2⟩
theorem OI.turn1 {t0 : Tr} {A0 A : Ar} {q r0 r1 l0 l1 : Nat} {a c d : Tr} {x y : Nat} {FL FR : Tr → Tr} {PL PR : List Nat} (h : OI t0 A0 A q r0 r1 l0 l1 (.node a x (.node c y d)) FL FR PL PR) (hnd : t0.ps.Nodup) :
    OI t0 A0 { A with R := upd A.R x (A.L y), L := upd A.L y x } y r0 r1 l0 l1 (.node (.node a x c) y d) FL FR PL PR ∧ upd A.R x (A.L y) y = A.R y := by
  obtain ⟨rfl, hx, ha, ⟨hy', hy, hc, hd⟩⟩ := h.lies
  have hn := hnd
  rw [← h.ps] at hn
  obtain ⟨d1, d2, d3, d4⟩ := nd3 hn
  obtain ⟨e1, e2, e3, e4, e5⟩ := ndNode d4
  obtain ⟨f1, f2, f3, f4, f5⟩ := ndNode e5
  have hyq : y ≠ q := fun e => e2 (by rw [← e]; simp [Tr.ps])
  have hRy : upd A.R q (A.L y) y = A.R y := upd_ne _ _ hyq
  refine ⟨⟨⟨rfl, hy, ?_, ?_⟩, ?_, ?_, ?_, h.E, fun p hp => ?_⟩, hRy⟩
  · show (Tr.node a q c).lies _ _ (upd A.L y q y)
    rw [upd_at]
    refine ⟨rfl, hx, ?_, ?_⟩
    · show a.lies _ _ (upd A.L y q q)
      rw [upd_ne _ _ (fun e => hyq e.symm)]
      exact Tr.lies_congr ha fun p hp => ⟨upd_ne _ _ fun e => e3 p hp (by rw [e]; simp [Tr.ps]), upd_ne _ _ fun e => e1 (e ▸ hp)⟩
    · show c.lies _ _ (upd A.R q (A.L y) q)
      rw [upd_at]
      exact Tr.lies_congr hc fun p hp => ⟨upd_ne _ _ fun e => f1 (e ▸ hp), upd_ne _ _ fun e => e2 (by rw [← e]; simp [Tr.ps, hp])⟩
  · show d.lies _ _ (upd A.R q (A.L y) y)
    rw [hRy]
    exact Tr.lies_congr hd fun p hp => ⟨upd_ne _ _ fun e => f2 (e ▸ hp), upd_ne _ _ fun e => e2 (by rw [← e]; simp [Tr.ps, hp])⟩
  · exact h.lh.congr fun p hp => ⟨upd_ne _ _ fun e => (d1 p hp).1 (by rw [e]; simp [Tr.ps]), fun _ => upd_ne _ _ fun e => (d1 p hp).1 (by rw [e]; simp [Tr.ps])⟩
  · exact h.rh.congr fun p hp => ⟨upd_ne _ _ fun e => (d3 p hp).2 (by rw [e]; simp [Tr.ps]), fun _ => upd_ne _ _ fun e => (d3 p hp).2 (by rw [e]; simp [Tr.ps])⟩
  · rw [← h.ps]
    simp [Tr.ps]
  · have m1 : q ∈ t0.ps := h.mem (.inr (.inl (by simp [Tr.ps])))
    have m2 : y ∈ t0.ps := h.mem (.inr (.inl (by simp [Tr.ps])))
    have k1 : p ≠ q := fun e => hp (e ▸ m1)
    have k2 : p ≠ y := fun e => hp (e ▸ m2)
    exact ⟨(upd_ne _ _ k2).trans (h.out p hp).1, (upd_ne _ _ k1).trans (h.out p hp).2⟩
def Tr.lf : Tr → Tr
  | .nil => .nil
  | .node l _ _ => l
def Tr.rt : Tr → Tr
  | .nil => .nil
  | .node _ _ r => r
/-- both halves are shut -/
theorem OI.shut {t0 : Tr} {A0 A : Ar} {q r0 r1 l0 l1 : Nat} {t : Tr} {FL FR : Tr → Tr} {PL PR : List Nat} (h : OI t0 A0 A q r0 r1 l0 l1 t FL FR PL PR) (hnd : t0.ps.Nodup) (h00 : (0 : Nat) ∉ t0.ps) (hz : A0.L 0 = 0 ∧ A0.R 0 = 0) :
    (FL t.lf).lies (hR A.L l1 (A.R q)) (hR A.R l0 (A.L q)) (hRoot r0 l0 (A.L q)) ∧ (FR t.rt).lies (hR A.L l1 (A.R q)) (hR A.R l0 (A.L q)) (hRoot r1 l1 (A.R q)) ∧ (∀ p, p ∉ t0.ps → hR A.L l1 (A.R q) p = A0.L p ∧ hR A.R l0 (A.L q) p = A0.R p) := by
  have hn := hnd
  rw [← h.ps] at hn
  obtain ⟨d1, d2, d3, d4⟩ := nd3 hn
  have hlf : t.lf.lies A.L A.R (A.L q) ∧ t.rt.lies A.L A.R (A.R q) ∧ (∀ p ∈ t.lf.ps, p ∈ t.ps) ∧ (∀ p ∈ t.rt.ps, p ∈ t.ps) := by
    have hl := h.lies
    cases t with
    | nil =>
      have hq : q = 0 := hl
      subst hq
      exact ⟨(h.out 0 h00).1.trans hz.1, (h.out 0 h00).2.trans hz.2, fun p hp => hp, fun p hp => hp⟩
    | node a x b =>
      obtain ⟨rfl, _, ha, hb⟩ := hl
      exact ⟨ha, hb, fun p hp => (by simp [Tr.ps, Tr.lf] at hp ⊢; exact .inl hp), fun p hp => (by simp [Tr.ps, Tr.rt] at hp ⊢; exact .inr (.inr hp))⟩
  obtain ⟨g1, g2, g3, g4⟩ := hlf
  have k0 : ∀ p, p ∉ PL → p ≠ l0 ∨ l0 = 0 := fun p hp => by
    by_cases hz : l0 = 0
    · exact .inr hz
    · exact .inl fun e => hp (e ▸ h.l0in hz)
  have k1 : ∀ p, p ∉ PR → p ≠ l1 ∨ l1 = 0 := fun p hp => by
    by_cases hz : l1 = 0
    · exact .inr hz
    · exact .inl fun e => hp (e ▸ h.l1in hz)
  have n0 : l0 ∉ t.lf.ps := fun hm => by
    by_cases hz : l0 = 0
    · exact Tr.lies_ne g1 l0 hm hz
    · exact (d1 l0 (h.l0in hz)).1 (g3 l0 hm)
  have n1 : l1 ∉ t.rt.ps := fun hm => by
    by_cases hz : l1 = 0
    · exact Tr.lies_ne g2 l1 hm hz
    · exact (d3 l1 (h.l1in hz)).2 (g4 l1 hm)
  refine ⟨?_, ?_, fun p hp => ⟨?_, ?_⟩⟩
  · have s1 := h.lh.shut g1 n0
    refine Tr.lies_congr s1 fun p hp => ⟨hR_ne (k1 p ?_), rfl⟩
    rw [h.lh.ps] at hp
    rcases List.mem_append.1 hp with hp | hp
    · exact (d1 p hp).2
    · exact (d2 p (g3 p hp)).2
  · have hrh : RH A.L (hR A.R l0 (A.L q)) r1 l1 FR PR := h.rh.congr fun p hp => ⟨hR_ne (k0 p (d3 p hp).1), fun _ => rfl⟩
    have g2' : t.rt.lies A.L (hR A.R l0 (A.L q)) (A.R q) := Tr.lies_congr g2 fun p hp => ⟨rfl, hR_ne (k0 p (d2 p (g4 p hp)).1)⟩
    exact hrh.shut g2' n1
  · rw [← (h.out p hp).1]
    exact hR_ne (k1 p fun hm => hp (h.mem (.inr (.inr hm))))
  · rw [← (h.out p hp).2]
    exact hR_ne (k0 p fun hm => hp (h.mem (.inl hm)))
theorem openT_k (sd : Tr → Int) (hs : Side sd) : ∀ (n : Nat) (t : Tr), t.size ≤ n → (openT sd t).k + t.bit ≤ t.size
  | n, .nil, _ => by rw [openT_nil]; exact Nat.le_refl _
  | 0, .node a x b, h => by simp [Tr.size] at h
  | n + 1, .node a x b, hn => by
    simp only [Tr.size, Tr.bit] at hn ⊢
    rcases hs a x b with h | h | h
    · cases a with
      | nil => rw [openT_l h]; simp
      | node c y d =>
        simp only [Tr.size] at hn ⊢
        rcases hs c y d with h2 | h2 | h2
        · have ih := openT_k sd hs n c (by omega)
          rw [openT_ll h h2]; simp only []; omega
        · have ih := openT_k sd hs n d (by omega)
          rw [openT_lr h h2]; simp only []; omega
        · rw [openT_lh h h2]; simp only []; omega
    · cases b with
      | nil => rw [openT_r h]; simp
      | node c y d =>
        simp only [Tr.size] at hn ⊢
        rcases hs c y d with h2 | h2 | h2
        · have ih := openT_k sd hs n c (by omega)
          rw [openT_rl h h2]; simp only []; omega
        · have ih := openT_k sd hs n d (by omega)
          rw [openT_rr h h2]; simp only []; omega
        · rw [openT_rh h h2]; simp only []; omega
    · rw [openT_here h]; simp
end Go.Proofs.Ytlklolmhaiaaiaa
