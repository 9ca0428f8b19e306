import Derived.Test.YtbcnlnigenpiiaaOP4
import Derived.Test.YtbcnlnigenpiiaaRO5
import Derived.Test.YtbcnlnigenpiiaaSV1
namespace Go.Proofs.Ytbcnlnigenpiiaa
open Go.ChangeShapes Go.WideShapes Go.ChangeAt Go.RowKit
set_option linter.unusedVariables false
set_option linter.unusedSimpArgs false

theorem cells6p {W : World} {b : Nat} {c0 c1 c2 c3 c4 c5 : Value} {t : TypeId} (h : W.heap[b]? = some (.cells #[c0, c1, c2, c3, c4, c5] t (0, 0))) : W.cell? ⟨b, 0, none⟩ = some c0 ∧ W.cell? ⟨b, 1, none⟩ = some c1 ∧ W.cell? ⟨b, 2, none⟩ = some c2 ∧ W.cell? ⟨b, 3, none⟩ = some c3 ∧ W.cell? ⟨b, 4, none⟩ = some c4 ∧ W.cell? ⟨b, 5, none⟩ = some c5 := by
  refine ⟨?_, ?_, ?_, ?_, ?_, ?_⟩
  all_goals (unfold World.cell?; rw [h]; rfl)
/-! ### which points fit a plan -/
def sf1 (p : Pl) (C : Nat → Sa) (j : Nat) : Prop := (C j).n = p.nw j ∧ (C j).s ≤ 4611686018427387904
def SF (p : Pl) (n : Nat) (C : Nat → Sa) : Prop := n = p.nq ∧ ∀ j, j < n → sf1 p C j
def ef1 (p : Pl) (C : Nat → Sa) (x : Se) : Prop := (0 ≤ x.d ∧ x.d < (p.nq : Int)) ∧ (0 ≤ x.k ∧ x.k < p.ki) ∧ (0 ≤ x.s ∧ x.s < (p.nq : Int)) ∧ x.q < (C x.s.toNat).s
/-- a point that fits -/
def PF (p : Pl) (o : Pn) : Prop := SF p o.n o.A ∧ Rsg o.m o.X ∧ (o.l : Int) ≤ p.bu ∧ ∀ j, j < o.m → ef1 p o.A (o.X j)
theorem SF.eqv {p : Pl} {n : Nat} {A C : Nat → Sa} (h : SaEq n A C) : SF p n C ↔ SF p n A := by
  unfold SF sf1
  constructor
  · intro ⟨h1, h2⟩
    exact ⟨h1, fun j hj => by rw [← (h j hj).1, ← (h j hj).2.2]; exact h2 j hj⟩
  · intro ⟨h1, h2⟩
    exact ⟨h1, fun j hj => by rw [(h j hj).1, (h j hj).2.2]; exact h2 j hj⟩
set_option maxRecDepth 100000 in
set_option maxHeartbeats 4000000 in
theorem statesFit_any (p : Pl) (v : PlV) (q : Option Addr) (n c : Nat) (C : Nat → Sa) (K : Nat → Nat → Int) (hn : n * 40 ≤ 140737488355328) (hnq : p.nq ≤ 64) (w : World) (h : PlAt w p v) (hs : SsAt w q n C K) :
    Calls Try.prog 33 #[.agg #[.int .i64 p.ki, .slice v.pp p.np v.pc, .slice v.tp p.nq v.tc, .slice v.sp p.ns v.sc, .int .u64 p.sd, .int .u64 p.lk, .int .u64 p.en, .int .i64 p.bu, .int .i64 p.fu], .slice q n c] w fun e w' => ∃ b, e = .returned (.bool b) ∧ (b = true ↔ SF p n C) ∧ Below w.heap.size w w' := by
  obtain ⟨wb, hwb⟩ : ∃ wb, w.alloc (.cells #[.int .i64 p.ki, .slice v.pp p.np v.pc, .slice v.tp p.nq v.tc, .slice v.sp p.ns v.sc, .int .u64 p.sd, .int .u64 p.lk, .int .u64 p.en, .int .i64 p.bu, .int .i64 p.fu] 27) = wb := ⟨_, rfl⟩
  obtain ⟨hb0, hbox, hsz⟩ := boxed _ _ _ hwb
  have HW : Hid (w.alloc (.cells #[.int .i64 p.ki, .slice v.pp p.np v.pc, .slice v.tp p.nq v.tc, .slice v.sp p.ns v.sc, .int .u64 p.sd, .int .u64 p.lk, .int .u64 p.en, .int .i64 p.bu, .int .i64 p.fu] 27) = wb) := hwb
  have HP : Hid (PlAt wb p v ∧ SsAt wb q n C K ∧ Below w.heap.size w wb) := ⟨h.below hb0, hs.below hb0, hb0⟩
  obtain ⟨⟨c0, c1, c2, c3⟩, c4, c5, c6, c7, c8⟩ := cells9 hbox
  rw [← hwb] at c0 c1 c2 c3 c4 c5 c6 c7 c8
  clear h hs hb0 hsz hwb
  by_cases he : n = p.nq
  case neg =>
    have g0 : ((n : Int) == (p.nq : Int)) = false := by simp; omega
    have g1 : ((n : Int) != (p.nq : Int)) = true := by simp; omega
    have g2 : (n != p.nq) = true := by simp; omega
    have g3 : (n == p.nq) = false := by simp; omega
    go_enter Try.func33, Try.ntmps33
    go_wp2_with fail
    go_ret
    rw [HW.out]
    have hX : SF p n C → False := fun hG => absurd hG.1 he
    have hY := HP.out.2.2
    first | exact ⟨false, rfl, ⟨fun e => (by cases e), fun hG => (hX hG).elim⟩, hY⟩ | exact .inl ⟨rfl, hX, hY⟩
  have g0 : ((n : Int) == (p.nq : Int)) = true := by simp; omega
  have g1 : ((n : Int) != (p.nq : Int)) = false := by simp; omega
  have g2 : (n != p.nq) = false := by simp; omega
  have g3 : (n == p.nq) = true := by simp; omega
  have HE : Hid (n = p.nq) := he
  clear he
  go_enter Try.func33, Try.ntmps33
  go_wp2_with fail
  rw [HW.out]
  clear c0 c1 c2 c3 c4 c5 c6 c7 c8
  go_loopw [15] (fun x wr => ∃ i : Nat, x = .int .i64 (i : Int) ∧ i ≤ n ∧ (∀ j, j < i → sf1 p C j) ∧ Below wb.heap.size wb wr) (fun x _ => n - (intOf x).toNat)
  case atStart => exact ⟨0, rfl, Nat.zero_le _, fun j hj => absurd hj (Nat.not_lt_zero _), Below.refl _ _⟩
  case round =>
    obtain ⟨i, rfl, hi, hall, hbr⟩ := hrel
    by_cases hlt : i < n
    case pos =>
      have dlt : decide ((i : Int) < (n : Int)) = true := by simp; omega
      have i0 : (0 : Int) ≤ (i : Int) := by omega
      have i1 : (i : Int) < (n : Int) := by omega
      have i2 : (i : Int) < (p.nq : Int) := by rw [← HE.out]; exact i1
      have ei : IntKind.i64.wrap ((i : Int) + 1) = (i : Int) + 1 := by rw [IntKind.wrap_i64]; omega
      have hme := meas hlt
      obtain hz | ⟨g, o, hqe, hl, hc, _⟩ := HP.out.2.1.below hbr
      · omega
      obtain ⟨x0, x1, x2⟩ := hc i hlt
      have hlq : i < p.nq := by rw [← HE.out]; exact hlt
      obtain hz | ⟨gt, ot, hpp, hlt', hct, _⟩ := (HP.out.1.below hbr).ts
      · omega
      obtain ⟨y0, y1⟩ := hct i hlq
      have hboxr := (hbr.block _ (lt_of_block hbox)).trans hbox
      obtain ⟨⟨_, _, d2, _⟩, _⟩ := cells9 hboxr
      have hwl := lt_of_block hboxr
      have hn1 : w.heap.size ≠ wr.heap.size := by omega
      have hn2 : gt ≠ wr.heap.size := by omega
      have hba : Below wr.heap.size wr (wr.alloc (.cells #[.slice (C i).p (C i).n (C i).c, .int .u64 (C i).d, .int .u64 (C i).s] 61)) := (Below.refl _ wr).alloc (Nat.le_refl _) _
      obtain ⟨wa, hwa⟩ : ∃ wa, wr.alloc (.cells #[.slice (C i).p (C i).n (C i).c, .int .u64 (C i).d, .int .u64 (C i).s] 61) = wa := ⟨_, rfl⟩
      have hbn : (wr.alloc (.cells #[.slice (C i).p (C i).n (C i).c, .int .u64 (C i).d, .int .u64 (C i).s] 61)).heap[wr.heap.size]? = some (.cells #[.slice (C i).p (C i).n (C i).c, .int .u64 (C i).d, .int .u64 (C i).s] 61 (0, 0)) := World.alloc_heap_new wr _
      rw [hpp] at d2
      have d2a := (cell_below (a := ⟨w.heap.size, 2, none⟩) hba hwl).trans d2
      have y1a := (cell_below (a := ⟨gt, ot + i * 2 + 1, none⟩) hba hlt').trans y1
      rw [hwa] at hba hbn d2a y1a
      obtain ⟨b0, b1, b2⟩ := cells3p hbn
      have HA : Hid ((∀ j, j < i → sf1 p C j) ∧ Below wb.heap.size wb wr ∧ Below wr.heap.size wr wa) := ⟨hall, hbr, hba⟩
      have HWA : Hid (wr.alloc (.cells #[.slice (C i).p (C i).n (C i).c, .int .u64 (C i).d, .int .u64 (C i).s] 61) = wa) := hwa
      subst hqe
      rw [hpp]
      clear hc hct hall hbr hba hboxr hpp hl hlt' hwa hbn
      by_cases h1 : (C i).n = p.nw i
      case neg =>
        have k0 : (((C i).n : Int) == (p.nw i : Int)) = false := by simp; omega
        have k1 : (((C i).n : Int) != (p.nw i : Int)) = true := by simp; omega
        have k2 : ((C i).n == p.nw i) = false := by simp; omega
        have k3 : ((C i).n != p.nw i) = true := by simp; omega
        go_upto_region 6 with fail
        rw [HWA.out]
        go_quiet (fail)
        go_wp2_with fail
        go_ret
        have hb5 := HA.out.2.1.trans (HA.out.2.2.mono HA.out.2.1.size)
        have hX : SF p n C → False := fun hG => absurd (hG.2 i hlt).1 h1
        have hY : ∀ q, Below w.heap.size w (wa.drewN q) := fun q => HP.out.2.2.trans ((hb5.trans ((below_drewNq _ _ q).mono hb5.size)).mono HP.out.2.2.size)
        first | exact ⟨false, rfl, ⟨fun e => (by cases e), fun hG => (hX hG).elim⟩, hY _⟩ | exact .inl ⟨rfl, hX, hY _⟩
      have k0 : (((C i).n : Int) == (p.nw i : Int)) = true := by simp; omega
      have k1 : (((C i).n : Int) != (p.nw i : Int)) = false := by simp; omega
      have k2 : ((C i).n == p.nw i) = true := by simp; omega
      have k3 : ((C i).n != p.nw i) = false := by simp; omega
      by_cases h2 : (C i).s ≤ 4611686018427387904
      case neg =>
        have k4 : decide (4611686018427387904 < (C i).s) = true := by simp; omega
        have HN : Hid (¬ (C i).s ≤ 4611686018427387904) := h2
        clear h2 h1
        go_upto_region 6 with fail
        rw [HWA.out]
        go_quiet (fail)
        go_wp2_with fail
        go_ret
        have hb5 := HA.out.2.1.trans (HA.out.2.2.mono HA.out.2.1.size)
        have hX : SF p n C → False := fun hG => absurd (hG.2 i hlt).2 (by have := HN.out; omega)
        have hY : ∀ q, Below w.heap.size w (wa.drewN q) := fun q => HP.out.2.2.trans ((hb5.trans ((below_drewNq _ _ q).mono hb5.size)).mono HP.out.2.2.size)
        first | exact ⟨false, rfl, ⟨fun e => (by cases e), fun hG => (hX hG).elim⟩, hY _⟩ | exact .inl ⟨rfl, hX, hY _⟩
      have k4 : decide (4611686018427387904 < (C i).s) = false := by simp; omega
      have HN : Hid ((C i).n = p.nw i ∧ (C i).s ≤ 4611686018427387904) := ⟨h1, h2⟩
      clear h1 h2
      go_upto_region 6 with fail
      rw [HWA.out]
      go_quiet (fail)
      go_wp2_with fail
      have hb5 := HA.out.2.1.trans (HA.out.2.2.mono HA.out.2.1.size)
      refine ⟨⟨i + 1, rfl, hlt, fun j hj => ?_, hb5.trans ((below_drewNq _ _ _).mono hb5.size)⟩, hme⟩
      by_cases e : j = i
      · rw [e]
        exact HN.out
      · exact HA.out.1 j (by omega)
    have dlt : decide ((i : Int) < (n : Int)) = false := by simp; omega
    obtain rfl : i = n := by omega
    have HA : Hid ((∀ j, j < i → sf1 p C j) ∧ Below wb.heap.size wb wr) := ⟨hall, hbr⟩
    clear hall hbr
    go_wp2_with fail
    go_ret
    exact ⟨true, rfl, ⟨fun _ => ⟨HE.out, HA.out.1⟩, fun _ => rfl⟩, HP.out.2.2.trans (HA.out.2.mono HP.out.2.2.size)⟩
end Go.Proofs.Ytbcnlnigenpiiaa
namespace Go.Proofs.Ytbcnlnigenpiiaa
open Go.ChangeShapes Go.WideShapes Go.ChangeAt Go.RowKit
set_option linter.unusedVariables false
set_option linter.unusedSimpArgs false

theorem calls_yes {f : FuncId} {args : Array Value} {w : World} {P : Prop} {Q : World → Prop} (h : Calls Try.prog f args w fun e w' => ∃ b, e = .returned (.bool b) ∧ (b = true ↔ P) ∧ Q w') (hp : P) : Calls Try.prog f args w fun e w' => e = .returned (.bool true) ∧ Q w' := by
  refine h.mono ?_
  rintro e w' ⟨b, h1, h2, h3⟩
  rw [h2.2 hp] at h1
  exact ⟨h1, h3⟩
theorem calls_no {f : FuncId} {args : Array Value} {w : World} {P : Prop} {Q : World → Prop} (h : Calls Try.prog f args w fun e w' => ∃ b, e = .returned (.bool b) ∧ (b = true ↔ P) ∧ Q w') (hp : ¬ P) : Calls Try.prog f args w fun e w' => e = .returned (.bool false) ∧ Q w' := by
  refine h.mono ?_
  rintro e w' ⟨b, h1, h2, h3⟩
  cases b with
  | false => exact ⟨h1, h3⟩
  | true => exact absurd (h2.1 rfl) hp
set_option maxRecDepth 100000 in
set_option maxHeartbeats 8000000 in
theorem pointFits_any (p : Pl) (v : PlV) (o : Pn) (u : PnV) (hnq : p.nq ≤ 64) (hn : RoomyN o) (w : World) (h : PlAt w p v) (ho : PnAt w o u) :
    Calls Try.prog 16 #[.agg #[.int .i64 p.ki, .slice v.pp p.np v.pc, .slice v.tp p.nq v.tc, .slice v.sp p.ns v.sc, .int .u64 p.sd, .int .u64 p.lk, .int .u64 p.en, .int .i64 p.bu, .int .i64 p.fu], .agg #[.slice u.q o.n u.c, .slice u.q2 o.m u.c2, .slice u.q3 o.l u.c3]] w fun e w' => ∃ b, e = .returned (.bool b) ∧ (b = true ↔ PF p o) ∧ Below w.heap.size w w' := by
  obtain ⟨wb, hwb⟩ : ∃ wb, (w.alloc (.cells #[.int .i64 p.ki, .slice v.pp p.np v.pc, .slice v.tp p.nq v.tc, .slice v.sp p.ns v.sc, .int .u64 p.sd, .int .u64 p.lk, .int .u64 p.en, .int .i64 p.bu, .int .i64 p.fu] 27)).alloc (.cells #[.slice u.q o.n u.c, .slice u.q2 o.m u.c2, .slice u.q3 o.l u.c3] 31) = wb := ⟨_, rfl⟩
  have hb0 : Below w.heap.size w wb := by rw [← hwb]; exact ((Below.refl _ w).alloc (Nat.le_refl _) _).alloc (by simp) _
  have hbox : wb.heap[w.heap.size]? = some (.cells #[.int .i64 p.ki, .slice v.pp p.np v.pc, .slice v.tp p.nq v.tc, .slice v.sp p.ns v.sc, .int .u64 p.sd, .int .u64 p.lk, .int .u64 p.en, .int .i64 p.bu, .int .i64 p.fu] 27 (0, 0)) := by
    rw [← hwb, Below.heap_alloc _ _ _ (by simp)]
    exact World.alloc_heap_new w _
  have hbx2 : wb.heap[w.heap.size + 1]? = some (.cells #[.slice u.q o.n u.c, .slice u.q2 o.m u.c2, .slice u.q3 o.l u.c3] 31 (0, 0)) := by
    rw [← hwb]
    have := World.alloc_heap_new (w.alloc (.cells #[.int .i64 p.ki, .slice v.pp p.np v.pc, .slice v.tp p.nq v.tc, .slice v.sp p.ns v.sc, .int .u64 p.sd, .int .u64 p.lk, .int .u64 p.en, .int .i64 p.bu, .int .i64 p.fu] 27)) (.cells #[.slice u.q o.n u.c, .slice u.q2 o.m u.c2, .slice u.q3 o.l u.c3] 31)
    rwa [World.size_alloc] at this
  have HW : Hid ((w.alloc (.cells #[.int .i64 p.ki, .slice v.pp p.np v.pc, .slice v.tp p.nq v.tc, .slice v.sp p.ns v.sc, .int .u64 p.sd, .int .u64 p.lk, .int .u64 p.en, .int .i64 p.bu, .int .i64 p.fu] 27)).alloc (.cells #[.slice u.q o.n u.c, .slice u.q2 o.m u.c2, .slice u.q3 o.l u.c3] 31) = wb) := hwb
  obtain ⟨⟨C, hC, hS0⟩, hX0, hZ0⟩ := ho.below hb0
  have hp := h.below hb0
  have HP : Hid (PlAt wb p v ∧ SsAt wb u.q o.n C o.K ∧ SIn wb u.q2 o.m o.X ∧ Below w.heap.size w wb ∧ SaEq o.n o.A C) := ⟨hp, hS0, hX0, hb0, hC⟩
  have HBX : Hid (wb.heap[w.heap.size]? = some (.cells #[.int .i64 p.ki, .slice v.pp p.np v.pc, .slice v.tp p.nq v.tc, .slice v.sp p.ns v.sc, .int .u64 p.sd, .int .u64 p.lk, .int .u64 p.en, .int .i64 p.bu, .int .i64 p.fu] 27 (0, 0)) ∧ wb.heap[w.heap.size + 1]? = some (.cells #[.slice u.q o.n u.c, .slice u.q2 o.m u.c2, .slice u.q3 o.l u.c3] 31 (0, 0))) := ⟨hbox, hbx2⟩
  have HSF := statesFit_any p v u.q o.n u.c C o.K hn.n hnq wb hp hS0
  have HRI : ∀ W, Below wb.heap.size wb W → Hid (Calls Try.prog 34 #[.slice u.q2 o.m u.c2] W fun e w' => ∃ b, e = .returned (.bool b) ∧ (b = true ↔ Rsg o.m o.X) ∧ Below W.heap.size W w') := fun W hb => rising_any u.q2 o.m u.c2 o.X hn.m W (hX0.below hb)
  have hom := hn.m
  have hol := hn.l
  obtain ⟨⟨c0, c1, c2, c3⟩, c4, c5, c6, c7, c8⟩ := cells9 hbox
  obtain ⟨e0, e1, e2⟩ := cells3p hbx2
  rw [← hwb] at c0 c1 c2 c3 c4 c5 c6 c7 c8 e0 e1 e2
  clear hwb h ho hb0 hbox hbx2 hC hS0 hX0 hZ0 hp hn
  by_cases hsf : SF p o.n C
  case neg =>
    have HSF := calls_no HSF hsf
    have HN : Hid (¬ PF p o) := fun hG => hsf ((SF.eqv HP.out.2.2.2.2).2 hG.1)
    clear hsf
    go_enter Try.func16, Try.ntmps16
    go_wp2_with (go_at_call 33; rw [HW.out]; (with_reducible refine HSF.mono ?_); rintro e w1 ⟨rfl, hb1⟩)
    go_ret
    have hY := HP.out.2.2.2.1.trans (hb1.mono HP.out.2.2.2.1.size)
    have hX := HN.out
    first | exact ⟨false, rfl, ⟨fun e => (by cases e), fun hG => (hX hG).elim⟩, hY⟩ | exact .inl ⟨rfl, hX, hY⟩
  have HSFy := calls_yes HSF hsf
  have HSS : Hid (SF p o.n C) := hsf
  clear hsf HSF
  by_cases hri : Rsg o.m o.X
  case neg =>
    have HRN : ∀ W, Below wb.heap.size wb W → Hid (Calls Try.prog 34 #[.slice u.q2 o.m u.c2] W fun e w' => e = .returned (.bool false) ∧ Below W.heap.size W w') := fun W hb => calls_no (HRI W hb).out hri
    have HN : Hid (¬ PF p o) := fun hG => hri hG.2.1
    clear hri HRI
    go_enter Try.func16, Try.ntmps16
    go_wp2_with (first | (go_at_call 33; rw [HW.out]; (with_reducible refine HSFy.mono ?_); rintro e w1 ⟨rfl, hb1⟩; clear c0 c1 c2 c3 c4 c5 c6 c7 c8 e0 e1 e2; obtain ⟨e0, e1, e2⟩ := cells3p ((hb1.block _ (lt_of_block HBX.out.2)).trans HBX.out.2)) | (go_at_call 34; (with_reducible refine (HRN w1 hb1).out.mono ?_); rintro e w2 ⟨rfl, hb2⟩))
    go_ret
    have h12 : Below wb.heap.size wb w2 := hb1.trans (hb2.mono hb1.size)
    have hY := HP.out.2.2.2.1.trans (h12.mono HP.out.2.2.2.1.size)
    have hX := HN.out
    first | exact ⟨false, rfl, ⟨fun e => (by cases e), fun hG => (hX hG).elim⟩, hY⟩ | exact .inl ⟨rfl, hX, hY⟩
  have HRY : ∀ W, Below wb.heap.size wb W → Hid (Calls Try.prog 34 #[.slice u.q2 o.m u.c2] W fun e w' => e = .returned (.bool true) ∧ Below W.heap.size W w') := fun W hb => calls_yes (HRI W hb).out hri
  have HRS : Hid (Rsg o.m o.X) := hri
  clear hri HRI
  by_cases hbu : (o.l : Int) ≤ p.bu
  case neg =>
    have HN : Hid (¬ PF p o) := fun hG => hbu hG.2.2.1
    have d0 : decide (p.bu < (o.l : Int)) = true := by simp; omega
    clear hbu
    go_enter Try.func16, Try.ntmps16
    go_wp2_with (first | (go_at_call 33; rw [HW.out]; (with_reducible refine HSFy.mono ?_); rintro e w1 ⟨rfl, hb1⟩; clear c0 c1 c2 c3 c4 c5 c6 c7 c8 e0 e1 e2; obtain ⟨e0, e1, e2⟩ := cells3p ((hb1.block _ (lt_of_block HBX.out.2)).trans HBX.out.2)) | (go_at_call 34; (with_reducible refine (HRY w1 hb1).out.mono ?_); rintro e w2 ⟨rfl, hb2⟩; have h12 : Below wb.heap.size wb w2 := hb1.trans (hb2.mono hb1.size); clear e0 e1 e2; obtain ⟨e0, e1, e2⟩ := cells3p ((h12.block _ (lt_of_block HBX.out.2)).trans HBX.out.2); obtain ⟨⟨c0, c1, c2, c3⟩, c4, c5, c6, c7, c8⟩ := cells9 ((h12.block _ (lt_of_block HBX.out.1)).trans HBX.out.1)))
    go_ret
    have hY := HP.out.2.2.2.1.trans (h12.mono HP.out.2.2.2.1.size)
    have hX := HN.out
    first | exact ⟨false, rfl, ⟨fun e => (by cases e), fun hG => (hX hG).elim⟩, hY⟩ | exact .inl ⟨rfl, hX, hY⟩
  have d0 : decide (p.bu < (o.l : Int)) = false := by simp; omega
  have HBU : Hid ((o.l : Int) ≤ p.bu) := hbu
  clear hbu
  go_enter Try.func16, Try.ntmps16
  go_wp2_with (first | (go_at_call 33; rw [HW.out]; (with_reducible refine HSFy.mono ?_); rintro e w1 ⟨rfl, hb1⟩; clear c0 c1 c2 c3 c4 c5 c6 c7 c8 e0 e1 e2; obtain ⟨e0, e1, e2⟩ := cells3p ((hb1.block _ (lt_of_block HBX.out.2)).trans HBX.out.2)) | (go_at_call 34; (with_reducible refine (HRY w1 hb1).out.mono ?_); rintro e w2 ⟨rfl, hb2⟩; have h12 : Below wb.heap.size wb w2 := hb1.trans (hb2.mono hb1.size); clear e0 e1 e2; obtain ⟨e0, e1, e2⟩ := cells3p ((h12.block _ (lt_of_block HBX.out.2)).trans HBX.out.2); obtain ⟨⟨c0, c1, c2, c3⟩, c4, c5, c6, c7, c8⟩ := cells9 ((h12.block _ (lt_of_block HBX.out.1)).trans HBX.out.1)))
  have H12 : Hid (Below wb.heap.size wb w2) := h12
  clear c0 c1 c2 c3 c4 c5 c6 c7 c8 e0 e1 e2 hb1 hb2 h12 d0 HSFy HRY
  go_loopw [29] (fun x wr => ∃ i : Nat, x = .int .i64 (i : Int) ∧ i ≤ o.m ∧ (∀ j, j < i → ef1 p o.A (o.X j)) ∧ Below wb.heap.size wb wr) (fun x _ => o.m - (intOf x).toNat)
  case atStart => exact ⟨0, rfl, Nat.zero_le _, fun j hj => absurd hj (Nat.not_lt_zero _), H12.out⟩
  case round =>
    obtain ⟨i, rfl, hi, hall, hbr⟩ := hrel
    by_cases hlt : i < o.m
    case pos =>
      have dlt : decide ((i : Int) < (o.m : Int)) = true := by simp; omega
      have i0 : (0 : Int) ≤ (i : Int) := by omega
      have i1 : (i : Int) < (o.m : Int) := by omega
      have ei : IntKind.i64.wrap ((i : Int) + 1) = (i : Int) + 1 := by rw [IntKind.wrap_i64]; omega
      have hme := meas hlt
      obtain ⟨ge, oe, hqe, hle, x0, x1, x2, x3, x4, x5⟩ := (HP.out.2.2.1.below hbr).at hlt
      have hba : Below wr.heap.size wr (wr.alloc (.cells #[.int .u64 (o.X i).t, .int .i64 (o.X i).s, .int .u64 (o.X i).q, .int .i64 (o.X i).d, .int .i64 (o.X i).k, .int .i64 (o.X i).v] 65)) := (Below.refl _ wr).alloc (Nat.le_refl _) _
      obtain ⟨wa, hwa⟩ : ∃ wa, wr.alloc (.cells #[.int .u64 (o.X i).t, .int .i64 (o.X i).s, .int .u64 (o.X i).q, .int .i64 (o.X i).d, .int .i64 (o.X i).k, .int .i64 (o.X i).v] 65) = wa := ⟨_, rfl⟩
      have hbn : (wr.alloc (.cells #[.int .u64 (o.X i).t, .int .i64 (o.X i).s, .int .u64 (o.X i).q, .int .i64 (o.X i).d, .int .i64 (o.X i).k, .int .i64 (o.X i).v] 65)).heap[wr.heap.size]? = some (.cells #[.int .u64 (o.X i).t, .int .i64 (o.X i).s, .int .u64 (o.X i).q, .int .i64 (o.X i).d, .int .i64 (o.X i).k, .int .i64 (o.X i).v] 65 (0, 0)) := World.alloc_heap_new wr _
      rw [hwa] at hba hbn
      have hbwa : Below wb.heap.size wb wa := hbr.trans (hba.mono hbr.size)
      obtain ⟨⟨c0, c1, c2, c3⟩, c4, c5, c6, c7, c8⟩ := cells9 ((hbwa.block _ (lt_of_block HBX.out.1)).trans HBX.out.1)
      obtain ⟨e0, e1, e2⟩ := cells3p ((hbwa.block _ (lt_of_block HBX.out.2)).trans HBX.out.2)
      obtain ⟨y0, y1, y2, y3, y4, y5⟩ := cells6p hbn
      have HWA : Hid (wr.alloc (.cells #[.int .u64 (o.X i).t, .int .i64 (o.X i).s, .int .u64 (o.X i).q, .int .i64 (o.X i).d, .int .i64 (o.X i).k, .int .i64 (o.X i).v] 65) = wa) := hwa
      have HA : Hid ((∀ j, j < i → ef1 p o.A (o.X j)) ∧ Below wb.heap.size wb wa) := ⟨hall, hbwa⟩
      have hY : ∀ q, Below w.heap.size w (wa.drewN q) := fun q => HP.out.2.2.2.1.trans ((hbwa.trans ((below_drewNq _ _ q).mono hbwa.size)).mono HP.out.2.2.2.1.size)
      have HY : Hid (∀ q, Below w.heap.size w (wa.drewN q)) := hY
      obtain ⟨b1, hb1⟩ : ∃ b1, decide (0 ≤ (o.X i).d ∧ (o.X i).d < (p.nq : Int)) = b1 := ⟨_, rfl⟩
      obtain ⟨b2, hb2⟩ : ∃ b2, decide (0 ≤ (o.X i).k ∧ (o.X i).k < p.ki) = b2 := ⟨_, rfl⟩
      obtain ⟨b3, hb3⟩ : ∃ b3, decide (0 ≤ (o.X i).s ∧ (o.X i).s < (p.nq : Int)) = b3 := ⟨_, rfl⟩
      have I1 := isIn_any (o.X i).d (p.nq : Int) wa
      have I2 := isIn_any (o.X i).k p.ki wa
      have I3 := isIn_any (o.X i).s (p.nq : Int) wa
      rw [hb1] at I1
      rw [hb2] at I2
      rw [hb3] at I3
      have HB : Hid (decide (0 ≤ (o.X i).d ∧ (o.X i).d < (p.nq : Int)) = b1 ∧ decide (0 ≤ (o.X i).k ∧ (o.X i).k < p.ki) = b2 ∧ decide (0 ≤ (o.X i).s ∧ (o.X i).s < (p.nq : Int)) = b3) := ⟨hb1, hb2, hb3⟩
      rw [hqe]
      clear hqe hle hall hbr hba hbwa hwa hbn hb1 hb2 hb3 hY
      cases b1 with
      | false =>
        go_upto_region 6 with fail
        rw [HWA.out]
        clear x0 x1 x2 x3 x4 x5
        go_wp2_with (go_at_call 35; (with_reducible refine I1.mono ?_); rintro e w9 ⟨rfl, h9⟩; subst w9)
        go_ret
        have hX : ¬ PF p o := fun hG => by
          have := (hG.2.2.2 i hlt).1
          have h8 := HB.out.1
          rw [decide_eq_true this] at h8
          cases h8
        have hY := HY.out 0
        first | exact ⟨false, rfl, ⟨fun e => (by cases e), fun hG => (hX hG).elim⟩, hY⟩ | exact .inl ⟨rfl, hX, hY⟩
      | true =>
        cases b2 with
        | false =>
          go_upto_region 6 with fail
          rw [HWA.out]
          clear x0 x1 x2 x3 x4 x5
          go_wp2_with (first | (go_at_call 35; (with_reducible refine I1.mono ?_); rintro e w9 ⟨rfl, h9⟩; subst w9) | (go_at_call 35; (with_reducible refine I2.mono ?_); rintro e w9 ⟨rfl, h9⟩; subst w9))
          go_ret
          have hX : ¬ PF p o := fun hG => by
            have := (hG.2.2.2 i hlt).2.1
            have h8 := HB.out.2.1
            rw [decide_eq_true this] at h8
            cases h8
          have hY := HY.out 0
          first | exact ⟨false, rfl, ⟨fun e => (by cases e), fun hG => (hX hG).elim⟩, hY⟩ | exact .inl ⟨rfl, hX, hY⟩
        | true =>
          cases b3 with
          | false =>
            go_upto_region 6 with fail
            rw [HWA.out]
            clear x0 x1 x2 x3 x4 x5
            go_wp2_with (first | (go_at_call 35; (with_reducible refine I1.mono ?_); rintro e w9 ⟨rfl, h9⟩; subst w9) | (go_at_call 35; (with_reducible refine I2.mono ?_); rintro e w9 ⟨rfl, h9⟩; subst w9) | (go_at_call 35; (with_reducible refine I3.mono ?_); rintro e w9 ⟨rfl, h9⟩; subst w9))
            go_ret
            have hX : ¬ PF p o := fun hG => by
              have := (hG.2.2.2 i hlt).2.2.1
              have h8 := HB.out.2.2
              rw [decide_eq_true this] at h8
              cases h8
            have hY := HY.out 0
            first | exact ⟨false, rfl, ⟨fun e => (by cases e), fun hG => (hX hG).elim⟩, hY⟩ | exact .inl ⟨rfl, hX, hY⟩
          | true =>
            obtain ⟨hs0, hs1⟩ := of_decide_eq_true HB.out.2.2
            obtain ⟨sn, hsn⟩ : ∃ sn : Nat, (o.X i).s = (sn : Int) := ⟨(o.X i).s.toNat, by omega⟩
            have hsl : sn < o.n := by have := HSS.out.1; omega
            obtain hz | ⟨gs, os, hse, hls, hcs, _⟩ := HP.out.2.1.below HA.out.2
            · omega
            obtain ⟨z0, z1, z2⟩ := hcs sn hsl
            have j0 : (0 : Int) ≤ (sn : Int) := by omega
            have j1 : (sn : Int) < (o.n : Int) := by omega
            rw [hsn] at y1 x1 I3 HWA
            rw [hse] at e0
            have HSN : Hid ((o.X i).s = (sn : Int) ∧ (C sn).s = (o.A sn).s) := ⟨hsn, (HP.out.2.2.2.2 sn hsl).2.2⟩
            rw [hse]
            clear hs0 hs1 hsl hcs hls hse hsn
            by_cases hq : (o.X i).q < (C sn).s
            case neg =>
              have k1 : decide ((C sn).s ≤ (o.X i).q) = true := by simp; omega
              have HQ : Hid ((C sn).s ≤ (o.X i).q) := by show (C sn).s ≤ (o.X i).q; omega
              clear hq
              go_upto_region 6 with fail
              rw [HWA.out]
              clear x0 x1 x2 x3 x4 x5
              go_upto_region 8 with (first | (go_at_call 35; (with_reducible refine I1.mono ?_); rintro e w9 ⟨rfl, h9⟩; subst w9) | (go_at_call 35; (with_reducible refine I2.mono ?_); rintro e w9 ⟨rfl, h9⟩; subst w9) | (go_at_call 35; (with_reducible refine I3.mono ?_); rintro e w9 ⟨rfl, h9⟩; subst w9))
              go_quiet (fail)
              go_wp2_with fail
              go_ret
              have hX : ¬ PF p o := fun hG => by
                have h7 := (hG.2.2.2 i hlt).2.2.2
                rw [HSN.out.1, Int.toNat_natCast, ← HSN.out.2] at h7
                have := HQ.out
                omega
              have hY := HY.out
              first | exact ⟨false, rfl, ⟨fun e => (by cases e), fun hG => (hX hG).elim⟩, hY _⟩ | exact .inl ⟨rfl, hX, hY _⟩
            have k1 : decide ((C sn).s ≤ (o.X i).q) = false := by simp; omega
            have HQ : Hid ((o.X i).q < (C sn).s) := hq
            clear hq
            go_upto_region 6 with fail
            rw [HWA.out]
            clear x0 x1 x2 x3 x4 x5
            go_upto_region 8 with (first | (go_at_call 35; (with_reducible refine I1.mono ?_); rintro e w9 ⟨rfl, h9⟩; subst w9) | (go_at_call 35; (with_reducible refine I2.mono ?_); rintro e w9 ⟨rfl, h9⟩; subst w9) | (go_at_call 35; (with_reducible refine I3.mono ?_); rintro e w9 ⟨rfl, h9⟩; subst w9))
            go_quiet (fail)
            go_wp2_with fail
            refine ⟨⟨i + 1, rfl, hlt, fun j hj => ?_, HA.out.2.trans ((below_drewNq _ _ _).mono HA.out.2.size)⟩, hme⟩
            by_cases e : j = i
            · rw [e]
              refine ⟨of_decide_eq_true HB.out.1, of_decide_eq_true HB.out.2.1, of_decide_eq_true HB.out.2.2, ?_⟩
              rw [HSN.out.1, Int.toNat_natCast, ← HSN.out.2]
              exact HQ.out
            · exact HA.out.1 j (by omega)
    have dlt : decide ((i : Int) < (o.m : Int)) = false := by simp; omega
    obtain rfl : i = o.m := by omega
    have HF : Hid (PF p o ∧ Below w.heap.size w wr) := ⟨⟨(SF.eqv HP.out.2.2.2.2).1 HSS.out, HRS.out, HBU.out, hall⟩, HP.out.2.2.2.1.trans (hbr.mono HP.out.2.2.2.1.size)⟩
    clear hall hbr
    go_wp2_with fail
    go_ret
    have hX := HF.out.1
    have hY := HF.out.2
    first | exact ⟨true, rfl, ⟨fun _ => hX, fun _ => rfl⟩, hY⟩ | exact .inr ⟨rfl, hX, hY⟩
end Go.Proofs.Ytbcnlnigenpiiaa
namespace Go.Proofs.Ytbcnlnigenpiiaa
open Go.ChangeShapes Go.WideShapes Go.ChangeAt Go.RowKit
set_option linter.unusedVariables false
set_option linter.unusedSimpArgs false

theorem KPS3 {W : World} {g b o1 o2 o3 : Nat} {x y z x1 x2 x3 : Value} (h1 : b ≠ g) (h : W.cell? ⟨b, 5, none⟩ = some x ∧ W.cell? ⟨b, 6, none⟩ = some y ∧ W.cell? ⟨b, 7, none⟩ = some z) : (((W.setCell ⟨g, o1, none⟩ x1).setCell ⟨g, o2, none⟩ x2).setCell ⟨g, o3, none⟩ x3).cell? ⟨b, 5, none⟩ = some x ∧ (((W.setCell ⟨g, o1, none⟩ x1).setCell ⟨g, o2, none⟩ x2).setCell ⟨g, o3, none⟩ x3).cell? ⟨b, 6, none⟩ = some y ∧ (((W.setCell ⟨g, o1, none⟩ x1).setCell ⟨g, o2, none⟩ x2).setCell ⟨g, o3, none⟩ x3).cell? ⟨b, 7, none⟩ = some z := by
  have key : (((W.setCell ⟨g, o1, none⟩ x1).setCell ⟨g, o2, none⟩ x2).setCell ⟨g, o3, none⟩ x3).heap[b]? = W.heap[b]? := by
    rw [Below.heap_setCell _ _ _ _ h1, Below.heap_setCell _ _ _ _ h1, Below.heap_setCell _ _ _ _ h1]
  exact ⟨(World.cell?_of_block key).trans h.1, (World.cell?_of_block key).trans h.2.1, (World.cell?_of_block key).trans h.2.2⟩
/-- a run lies there: its programs, its numbers, its point -/
structure SimAt (W : World) (sb : Nat) (p : Pl) (o : Pn) : Prop where
  ex : ∃ (pq : Option Addr) (pc : Nat) (U : Nat → PgV) (x : PnV), W.heap[sb]? = some (.cells #[.slice pq p.nq pc, .int .u64 p.lk, .int .u64 p.en, .int .i64 p.bu, .int .i64 p.fu, .slice x.q o.n x.c, .slice x.q2 o.m x.c2, .slice x.q3 o.l x.c3, .int .i64 0] 71 (0, 0)) ∧ PsAt W pq p.nq (fun j => p.P (p.pr j).toNat) U ∧ PnAt W o x
theorem SimAt.below {W W' : World} {sb : Nat} {p : Pl} {o : Pn} (h : SimAt W sb p o) (hb : Below W.heap.size W W') : SimAt W' sb p o := by
  obtain ⟨pq, pc, U, x, h1, h2, h3⟩ := h.ex
  exact ⟨pq, pc, U, x, (hb.block _ (lt_of_block h1)).trans h1, h2.below hb, h3.below hb⟩
set_option maxRecDepth 100000 in
set_option maxHeartbeats 8000000 in
theorem simOn_any (p : Pl) (v : PlV) (o : Pn) (u : PnV) (w : World) (h : PlAt w p v) (hr : RoomyL p) (hT : GT p) (ho : PnAt w o u) (hn : RoomyN o) :
    Calls Try.prog 17 #[.agg #[.int .i64 p.ki, .slice v.pp p.np v.pc, .slice v.tp p.nq v.tc, .slice v.sp p.ns v.sc, .int .u64 p.sd, .int .u64 p.lk, .int .u64 p.en, .int .i64 p.bu, .int .i64 p.fu], .agg #[.slice u.q o.n u.c, .slice u.q2 o.m u.c2, .slice u.q3 o.l u.c3]] w fun e w' => ∃ sb, e = .returned (.pointer (some ⟨sb, 0, none⟩)) ∧ w.heap.size ≤ sb ∧ SimAt w' sb p o ∧ Below w.heap.size w w' := by
  obtain ⟨wb, hwb⟩ : ∃ wb, (w.alloc (.cells #[.int .i64 p.ki, .slice v.pp p.np v.pc, .slice v.tp p.nq v.tc, .slice v.sp p.ns v.sc, .int .u64 p.sd, .int .u64 p.lk, .int .u64 p.en, .int .i64 p.bu, .int .i64 p.fu] 27)).alloc (.cells #[.slice u.q o.n u.c, .slice u.q2 o.m u.c2, .slice u.q3 o.l u.c3] 31) = wb := ⟨_, rfl⟩
  have hb0 : Below w.heap.size w wb := by rw [← hwb]; exact ((Below.refl _ w).alloc (Nat.le_refl _) _).alloc (by simp) _
  have hbox : wb.heap[w.heap.size]? = some (.cells #[.int .i64 p.ki, .slice v.pp p.np v.pc, .slice v.tp p.nq v.tc, .slice v.sp p.ns v.sc, .int .u64 p.sd, .int .u64 p.lk, .int .u64 p.en, .int .i64 p.bu, .int .i64 p.fu] 27 (0, 0)) := by
    rw [← hwb, Below.heap_alloc _ _ _ (by simp)]
    exact World.alloc_heap_new w _
  have hbx2 : wb.heap[w.heap.size + 1]? = some (.cells #[.slice u.q o.n u.c, .slice u.q2 o.m u.c2, .slice u.q3 o.l u.c3] 31 (0, 0)) := by
    rw [← hwb]
    have := World.alloc_heap_new (w.alloc (.cells #[.int .i64 p.ki, .slice v.pp p.np v.pc, .slice v.tp p.nq v.tc, .slice v.sp p.ns v.sc, .int .u64 p.sd, .int .u64 p.lk, .int .u64 p.en, .int .i64 p.bu, .int .i64 p.fu] 27)) (.cells #[.slice u.q o.n u.c, .slice u.q2 o.m u.c2, .slice u.q3 o.l u.c3] 31)
    rwa [World.size_alloc] at this
  have HW : Hid ((w.alloc (.cells #[.int .i64 p.ki, .slice v.pp p.np v.pc, .slice v.tp p.nq v.tc, .slice v.sp p.ns v.sc, .int .u64 p.sd, .int .u64 p.lk, .int .u64 p.en, .int .i64 p.bu, .int .i64 p.fu] 27)).alloc (.cells #[.slice u.q o.n u.c, .slice u.q2 o.m u.c2, .slice u.q3 o.l u.c3] 31) = wb) := hwb
  obtain ⟨⟨A0, hA0, hS0⟩, hX0, hZ0⟩ := ho.below hb0
  have hp := h.below hb0
  have HQ : Hid (SaEq o.n o.A A0 ∧ Below w.heap.size w wb) := ⟨hA0, hb0⟩
  have HC0 : ∀ W, Below wb.heap.size wb W → Hid (Calls Try.prog 36 #[.agg #[.int .i64 p.ki, .slice v.pp p.np v.pc, .slice v.tp p.nq v.tc, .slice v.sp p.ns v.sc, .int .u64 p.sd, .int .u64 p.lk, .int .u64 p.en, .int .i64 p.bu, .int .i64 p.fu]] W fun e w' => ∃ (q : Option Addr) (cc : Nat) (U : Nat → PgV), e = .returned (.slice q p.nq cc) ∧ PsAt w' q p.nq (fun j => p.P (p.pr j).toNat) U ∧ Below W.heap.size W w') := fun W hb => programsOfParts_any p v W (hp.below hb) hr hT
  have HC1 : ∀ W, Below wb.heap.size wb W → Hid (Calls Try.prog 22 #[.slice u.q o.n u.c] W fun e w' => ∃ (q : Option Addr) (cc : Nat) (C : Nat → Sa), e = .returned (.slice q o.n cc) ∧ StRow w' W.heap.size (.slice q o.n cc) o.n C o.K ∧ SaEq o.n A0 C ∧ Below W.heap.size W w') := fun W hb => copiedStates_any u.q o.n u.c A0 o.K hn.n (fun j hj => by rw [(hA0 j hj).1]; exact hn.w j hj) W (hS0.below hb)
  have HC2 : ∀ W, Below wb.heap.size wb W → Hid (Calls Try.prog 24 #[.slice u.q2 o.m u.c2] W fun e w' => ∃ (q : Option Addr) (cc : Nat), e = .returned (.slice q o.m cc) ∧ Own w' W.heap.size 65 6 (.slice q o.m cc) o.m (seF o.X) ∧ Below W.heap.size W w') := fun W hb => cloneE_any u.q2 o.m u.c2 (seF o.X) W (by have := hn.m; omega) (hX0.below hb).cin (fun j _ => seF_one _ j)
  have HC3 : ∀ W, Below wb.heap.size wb W → Hid (Calls Try.prog 24 #[.slice u.q3 o.l u.c3] W fun e w' => ∃ (q : Option Addr) (cc : Nat), e = .returned (.slice q o.l cc) ∧ Own w' W.heap.size 65 6 (.slice q o.l cc) o.l (seF o.Z) ∧ Below W.heap.size W w') := fun W hb => cloneE_any u.q3 o.l u.c3 (seF o.Z) W (by have := hn.l; omega) (hZ0.below hb).cin (fun j _ => seF_one _ j)
  have hl1 := lt_of_block hbox
  have hl2 := lt_of_block hbx2
  have KK : ∀ w', Below wb.heap.size wb w' → Hid (((w'.cell? ⟨w.heap.size, 0, none⟩ = some (.int .i64 p.ki) ∧ w'.cell? ⟨w.heap.size, 1, none⟩ = some (.slice v.pp p.np v.pc) ∧ w'.cell? ⟨w.heap.size, 2, none⟩ = some (.slice v.tp p.nq v.tc) ∧ w'.cell? ⟨w.heap.size, 3, none⟩ = some (.slice v.sp p.ns v.sc)) ∧ w'.cell? ⟨w.heap.size, 4, none⟩ = some (.int .u64 p.sd) ∧ w'.cell? ⟨w.heap.size, 5, none⟩ = some (.int .u64 p.lk) ∧ w'.cell? ⟨w.heap.size, 6, none⟩ = some (.int .u64 p.en) ∧ w'.cell? ⟨w.heap.size, 7, none⟩ = some (.int .i64 p.bu) ∧ w'.cell? ⟨w.heap.size, 8, none⟩ = some (.int .i64 p.fu)) ∧ w'.cell? ⟨w.heap.size + 1, 0, none⟩ = some (.slice u.q o.n u.c) ∧ w'.cell? ⟨w.heap.size + 1, 1, none⟩ = some (.slice u.q2 o.m u.c2) ∧ w'.cell? ⟨w.heap.size + 1, 2, none⟩ = some (.slice u.q3 o.l u.c3)) := fun w' hb => ⟨cells9 ((hb.block _ hl1).trans hbox), cells3p ((hb.block _ hl2).trans hbx2)⟩
  have hbd : Below wb.heap.size wb wb.drew := (Below.refl _ wb).drew
  have KP0 : (((wb.drew.cell? ⟨w.heap.size, 0, none⟩ = some (.int .i64 p.ki) ∧ wb.drew.cell? ⟨w.heap.size, 1, none⟩ = some (.slice v.pp p.np v.pc) ∧ wb.drew.cell? ⟨w.heap.size, 2, none⟩ = some (.slice v.tp p.nq v.tc) ∧ wb.drew.cell? ⟨w.heap.size, 3, none⟩ = some (.slice v.sp p.ns v.sc)) ∧ wb.drew.cell? ⟨w.heap.size, 4, none⟩ = some (.int .u64 p.sd) ∧ wb.drew.cell? ⟨w.heap.size, 5, none⟩ = some (.int .u64 p.lk) ∧ wb.drew.cell? ⟨w.heap.size, 6, none⟩ = some (.int .u64 p.en) ∧ wb.drew.cell? ⟨w.heap.size, 7, none⟩ = some (.int .i64 p.bu) ∧ wb.drew.cell? ⟨w.heap.size, 8, none⟩ = some (.int .i64 p.fu)) ∧ wb.drew.cell? ⟨w.heap.size + 1, 0, none⟩ = some (.slice u.q o.n u.c) ∧ wb.drew.cell? ⟨w.heap.size + 1, 1, none⟩ = some (.slice u.q2 o.m u.c2) ∧ wb.drew.cell? ⟨w.heap.size + 1, 2, none⟩ = some (.slice u.q3 o.l u.c3)) := (KK wb.drew hbd).out
  clear hwb h hr hT ho hn hb0 hbox hbx2 hA0 hS0 hX0 hZ0 hp hl1 hl2
  go_enter Try.func17, Try.ntmps17
  go_upto_region 1 with fail
  rw [HW.out]
  go_region_held3 (fun w' => (((w'.cell? ⟨w.heap.size, 0, none⟩ = some (.int .i64 p.ki) ∧ w'.cell? ⟨w.heap.size, 1, none⟩ = some (.slice v.pp p.np v.pc) ∧ w'.cell? ⟨w.heap.size, 2, none⟩ = some (.slice v.tp p.nq v.tc) ∧ w'.cell? ⟨w.heap.size, 3, none⟩ = some (.slice v.sp p.ns v.sc)) ∧ w'.cell? ⟨w.heap.size, 4, none⟩ = some (.int .u64 p.sd) ∧ w'.cell? ⟨w.heap.size, 5, none⟩ = some (.int .u64 p.lk) ∧ w'.cell? ⟨w.heap.size, 6, none⟩ = some (.int .u64 p.en) ∧ w'.cell? ⟨w.heap.size, 7, none⟩ = some (.int .i64 p.bu) ∧ w'.cell? ⟨w.heap.size, 8, none⟩ = some (.int .i64 p.fu)) ∧ w'.cell? ⟨w.heap.size + 1, 0, none⟩ = some (.slice u.q o.n u.c) ∧ w'.cell? ⟨w.heap.size + 1, 1, none⟩ = some (.slice u.q2 o.m u.c2) ∧ w'.cell? ⟨w.heap.size + 1, 2, none⟩ = some (.slice u.q3 o.l u.c3))) (first | with_reducible exact KP0 | with_reducible exact KP1 | with_reducible exact KP2 | with_reducible exact KP3 | with_reducible exact KP4 | go_keep) (first | (go_at_call 36; (with_reducible refine (HC0 wb.drew hbd).out.mono ?_); rintro e w1 ⟨pq, pc, U, rfl, hs1, hb1⟩; have hw1 : Below wb.heap.size wb w1 := hbd.trans hb1; have KP1 := (KK w1 hw1).out; have H1 : Hid (PsAt w1 pq p.nq (fun j => p.P (p.pr j).toNat) U) := hs1; clear hs1 hb1) | (go_at_call 22; (with_reducible refine (HC1 w1 hw1).out.mono ?_); rintro e w2 ⟨q1, c1, C, rfl, hs2, he2, hb2⟩; have hw2 : Below wb.heap.size wb w2 := hw1.trans (hb2.mono hw1.size); have KP2 := (KK w2 hw2).out; have H2 : Hid (StRow w2 w1.heap.size (.slice q1 o.n c1) o.n C o.K ∧ SaEq o.n A0 C ∧ Below w1.heap.size w1 w2) := ⟨hs2, he2, hb2⟩; clear hs2 he2 hb2) | (go_at_call 24; (with_reducible refine (HC2 w2 hw2).out.mono ?_); rintro e w3 ⟨q2, c2, rfl, hs3, hb3⟩; have hw3 : Below wb.heap.size wb w3 := hw2.trans (hb3.mono hw2.size); have KP3 := (KK w3 hw3).out; have H3 : Hid (SIn w3 q2 o.m o.X ∧ Below w2.heap.size w2 w3) := ⟨own_sin0 hs3, hb3⟩; clear hs3 hb3) | (go_at_call 24; (with_reducible refine (HC3 w3 hw3).out.mono ?_); rintro e w4 ⟨q3, c3, rfl, hs4, hb4⟩; have hw4 : Below wb.heap.size wb w4 := hw3.trans (hb4.mono hw3.size); have KP4 := (KK w4 hw4).out; have H4 : Hid (SIn w4 q3 o.l o.Z ∧ Below w3.heap.size w3 w4) := ⟨own_sin0 hs4, hb4⟩; clear hs4 hb4))
  all_goals (
    go_wp2_with fail
    go_ret
    have h34 := H4.out.2
    have h24 : Below w2.heap.size w2 w4 := H3.out.2.trans (h34.mono H3.out.2.size)
    have h14 : Below w1.heap.size w1 w4 := H2.out.2.2.trans (h24.mono H2.out.2.2.size)
    have hbF : Below w4.heap.size w4 (w4.alloc (.cells #[.slice pq p.nq pc, .int .u64 p.lk, .int .u64 p.en, .int .i64 p.bu, .int .i64 p.fu, .slice q1 o.n c1, .slice q2 o.m c2, .slice q3 o.l c3, .int .i64 0] 71)) := (Below.refl _ w4).alloc (Nat.le_refl _) _
    have hbw : Below w.heap.size w w4 := HQ.out.2.trans (hw4.mono HQ.out.2.size)
    exact ⟨_, rfl, hbw.size, ⟨pq, pc, U, ⟨q1, c1, q2, c2, q3, c3⟩, World.alloc_heap_new w4 _, (H1.out.below h14).below hbF, ⟨⟨C, HQ.out.1.trans H2.out.2.1, ((H2.out.1.later h24).later hbF).ss⟩, (H3.out.1.below h34).below hbF, H4.out.1.below hbF⟩⟩, hbw.trans (hbF.mono hbw.size)⟩)
set_option maxRecDepth 100000 in
set_option maxHeartbeats 8000000 in
/-- Point of a run: its states, what is pending in the order of keys, its trace -/
theorem point_any (p : Pl) (o : Pn) (sb : Nat) (w : World) (h : SimAt w sb p o) (hn : RoomyN o) :
    Calls Try.prog 9 #[.pointer (some ⟨sb, 0, none⟩)] w fun e w' => ∃ (y : PnV) (d : Nat → Se), e = .returned (.agg #[.slice y.q o.n y.c, .slice y.q2 o.m y.c2, .slice y.q3 o.l y.c3]) ∧ PnAt w' ⟨o.n, o.A, o.K, o.m, d, o.l, o.Z⟩ y ∧ Stb klt 0 o.m o.X d ∧ Srt klt 0 o.m d ∧ Below w.heap.size w w' := by
  obtain ⟨pq, pc, U, x, hsim, hps, hpn⟩ := h.ex
  obtain ⟨wb, hwb⟩ : ∃ wb, w.alloc (.cells #[.slice none 0 0, .slice none 0 0, .slice none 0 0] 31) = wb := ⟨_, rfl⟩
  obtain ⟨hb0, hres, hsz⟩ := boxed _ _ _ hwb
  have HW : Hid (w.alloc (.cells #[.slice none 0 0, .slice none 0 0, .slice none 0 0] 31) = wb) := hwb
  have hsim1 := (hb0.block _ (lt_of_block hsim)).trans hsim
  obtain ⟨⟨A0, hA0, hS0⟩, hX0, hZ0⟩ := hpn.below hb0
  have hsl := lt_of_block hsim
  have HQ : Hid (SaEq o.n o.A A0 ∧ Below w.heap.size w wb ∧ wb.heap[w.heap.size]? = some (.cells #[.slice none 0 0, .slice none 0 0, .slice none 0 0] 31 (0, 0)) ∧ wb.heap.size = w.heap.size + 1) := ⟨hA0, hb0, hres, hsz⟩
  have HC1 : ∀ W, Below wb.heap.size wb W → Hid (Calls Try.prog 22 #[.slice x.q o.n x.c] W fun e w' => ∃ (q : Option Addr) (cc : Nat) (C : Nat → Sa), e = .returned (.slice q o.n cc) ∧ StRow w' W.heap.size (.slice q o.n cc) o.n C o.K ∧ SaEq o.n A0 C ∧ Below W.heap.size W w') := fun W hb => copiedStates_any x.q o.n x.c A0 o.K hn.n (fun j hj => by rw [(hA0 j hj).1]; exact hn.w j hj) W (hS0.below hb)
  have HC2 : ∀ W, Below wb.heap.size wb W → Hid (Calls Try.prog 23 #[.slice x.q2 o.m x.c2] W fun e w' => ∃ g d, e = .returned (.slice (some ⟨g, 0, none⟩) o.m o.m) ∧ SRow w' W.heap.size g o.m o.m d ∧ Stb klt 0 o.m o.X d ∧ Srt klt 0 o.m d ∧ Below W.heap.size W w') := fun W hb => order_any x.q2 o.m x.c2 o.X hn.m W (hX0.below hb)
  have HC3 : ∀ W, Below wb.heap.size wb W → Hid (Calls Try.prog 24 #[.slice x.q3 o.l x.c3] W fun e w' => ∃ (q : Option Addr) (cc : Nat), e = .returned (.slice q o.l cc) ∧ Own w' W.heap.size 65 6 (.slice q o.l cc) o.l (seF o.Z) ∧ Below W.heap.size W w') := fun W hb => cloneE_any x.q3 o.l x.c3 (seF o.Z) W (by have := hn.l; omega) (hZ0.below hb).cin (fun j _ => seF_one _ j)
  have hl1 := lt_of_block hsim1
  have KK : ∀ w', Below wb.heap.size wb w' → Hid (w'.cell? ⟨sb, 5, none⟩ = some (.slice x.q o.n x.c) ∧ w'.cell? ⟨sb, 6, none⟩ = some (.slice x.q2 o.m x.c2) ∧ w'.cell? ⟨sb, 7, none⟩ = some (.slice x.q3 o.l x.c3)) := fun w' hb => by
    obtain ⟨_, _, k5, k6, k7, _⟩ := cells9 ((hb.block _ hl1).trans hsim1)
    exact ⟨k5, k6, k7⟩
  have hbd : Below wb.heap.size wb wb.drew := (Below.refl _ wb).drew
  have KP0 : (wb.drew.cell? ⟨sb, 5, none⟩ = some (.slice x.q o.n x.c) ∧ wb.drew.cell? ⟨sb, 6, none⟩ = some (.slice x.q2 o.m x.c2) ∧ wb.drew.cell? ⟨sb, 7, none⟩ = some (.slice x.q3 o.l x.c3)) := (KK wb.drew hbd).out
  have hne : sb ≠ w.heap.size := by omega
  have HSZ : Hid (wb.heap.size = w.heap.size + 1) := hsz
  clear hwb h hn hb0 hres hsz hsim hsim1 hA0 hS0 hX0 hZ0 hpn hps hl1 hsl
  go_enter Try.func9, Try.ntmps9
  go_upto_region 1 with fail
  rw [HW.out]
  go_region_held3 (fun w' => (w'.cell? ⟨sb, 5, none⟩ = some (.slice x.q o.n x.c) ∧ w'.cell? ⟨sb, 6, none⟩ = some (.slice x.q2 o.m x.c2) ∧ w'.cell? ⟨sb, 7, none⟩ = some (.slice x.q3 o.l x.c3))) (first | with_reducible exact KP0 | with_reducible exact KP1 | with_reducible exact KP2 | with_reducible exact KP3 | with_reducible exact KPS3 hne KP3 | go_keep) (first | (go_at_call 22; (with_reducible refine (HC1 wb.drew hbd).out.mono ?_); rintro e w1 ⟨q1, c1, C, rfl, hs1, he1, hb1⟩; have hw1 : Below wb.heap.size wb w1 := hbd.trans hb1; have KP1 := (KK w1 hw1).out; have H1 : Hid (StRow w1 wb.heap.size (.slice q1 o.n c1) o.n C o.K ∧ SaEq o.n A0 C) := ⟨hs1, he1⟩; clear hs1 he1 hb1) | (go_at_call 23; (with_reducible refine (HC2 w1 hw1).out.mono ?_); rintro e w2 ⟨g2, d, rfl, hs2, hst, hso, hb2⟩; have hw2 : Below wb.heap.size wb w2 := hw1.trans (hb2.mono hw1.size); have KP2 := (KK w2 hw2).out; have H2 : Hid (SRow w2 w1.heap.size g2 o.m o.m d ∧ Below w1.heap.size w1 w2 ∧ Stb klt 0 o.m o.X d ∧ Srt klt 0 o.m d) := ⟨hs2, hb2, hst, hso⟩; clear hs2 hb2 hst hso) | (go_at_call 24; (with_reducible refine (HC3 w2 hw2).out.mono ?_); rintro e w3 ⟨q3, c3, rfl, hs3, hb3⟩; have hw3 : Below wb.heap.size wb w3 := hw2.trans (hb3.mono hw2.size); have KP3 := (KK w3 hw3).out; have hr3 := (hw3.block _ (lt_of_block HQ.out.2.2.1)).trans HQ.out.2.2.1; obtain ⟨r0, r1, r2⟩ := cells3p hr3; have z0 := frz hr3 0; have z1 := frz hr3 1; have z2 := frz hr3 2; have H3 : Hid (Own w3 w2.heap.size 65 6 (.slice q3 o.l c3) o.l (seF o.Z) ∧ Below w2.heap.size w2 w3 ∧ w3.heap[w.heap.size]? = some (.cells #[.slice none 0 0, .slice none 0 0, .slice none 0 0] 31 (0, 0))) := ⟨hs3, hb3, hr3⟩; clear hs3 hb3 hr3))
  all_goals (
    go_wp2_with fail
    generalize hWF : (World.setCell (World.setCell (World.setCell w3 _ _) _ _) _ _) = wF
    obtain ⟨t1, t2, t3, t4⟩ := put3 H3.out.2.2 _ _ _ wF hWF
    obtain ⟨e0, e1, e2⟩ := cells3p t1
    refine bodyPost_ret (v := .agg #[.slice q1 o.n c1, .slice (some ⟨g2, 0, none⟩) o.m o.m, .slice q3 o.l c3]) (by simp [results, Try.results9, go_sem, e0, e1, e2]; try rfl) rfl ?_
    have hz := HSZ.out
    have hs1 := hw1.size
    have hs2 := hw2.size
    have kbF : Kb (fun k => k = w.heap.size) w3 wF := ⟨by omega, fun k _ hs => t2 k hs⟩
    have h13 : Below w1.heap.size w1 w3 := H2.out.2.1.trans (H3.out.2.1.mono H2.out.2.1.size)
    refine ⟨⟨q1, c1, some ⟨g2, 0, none⟩, o.m, q3, c3⟩, d, rfl, ⟨⟨C, HQ.out.1.trans H1.out.2, ((H1.out.1.later h13).kb kbF (fun k hk => ?_)).ss⟩, own_sin0 (SRow.kb (SRow.later H2.out.1 H3.out.2.1) kbF (fun k hk => ?_)), own_sin0 (own_kb H3.out.1 kbF (fun k hk => ?_))⟩, H2.out.2.2.1, H2.out.2.2.2, t3 _ _ (HQ.out.2.1.trans (hw3.mono HQ.out.2.1.size)) (Nat.le_refl _)⟩
    · show ¬ k = _
      omega
    · show ¬ k = _
      omega
    · show ¬ k = _
      omega)
end Go.Proofs.Ytbcnlnigenpiiaa
