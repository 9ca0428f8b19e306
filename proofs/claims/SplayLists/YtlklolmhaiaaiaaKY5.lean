import Derived.Test.YtlklolmhaiaaiaaKY4
import Derived.Deep.DeepCutAuto
import Derived.Deep.CutBlock
namespace Go.Proofs.Ytlklolmhaiaaiaa
open Go.ChangeShapes Go.WideShapes Go.ChangeAt Go.RowKit
set_option linter.unusedVariables false

/-- a way: what a function value tells of a place -/
def WayOk (fn : Nat) (cap : Array Value) (base qb g c n : Nat) (A : Ar) (f r s m : Int) (sd : Tr → Int) (W : World) : Prop :=
  ∀ (W2 : World) (A2 : Ar) (wk : Int) (t : Tr) (q : Nat), Ch (S2 qb g) W W2 → QW W2 base qb g c n A2 f r s m wk → A2.E = A.E → t.lies A2.L A2.R q → q ≠ 0 → q < n → Calls Try.prog fn (#[.int .i64 (q : Int)] ++ cap) W2 fun e W3 => e = .returned (.int .i64 (sd t)) ∧ Below W2.heap.size W2 W3
theorem Ch.drop {qb g hb : Nat} {W W1 W2 : World} (h : Ch (S3 qb g hb) W1 W2) (hb1 : Below W.heap.size W W1) (hh : W.heap.size ≤ hb) : Ch (S2 qb g) W W2 := ⟨h.os.trans hb1.os, h.tape.trans hb1.tape, h.output.trans hb1.output, Nat.le_trans hb1.size h.size, fun j hj hs => (h.block j (Nat.lt_of_lt_of_le hj hb1.size) fun e => by rcases e with e | e | e; exact hs (.inl e); exact hs (.inr e); omega).trans (hb1.block j hj)⟩
theorem QW.setWork {W : World} {base qb g c n : Nat} {A : Ar} {f r s m k : Int} (h : QW W base qb g c n A f r s m k) (x : Int) : QW (W.setCell ⟨qb, 5, none⟩ (.int .i64 x)) base qb g c n A f r s m x := h.setBox 5 x f r s m x rfl fun j hj hne => by
  have : j = 0 ∨ j = 1 ∨ j = 2 ∨ j = 3 ∨ j = 4 := by omega
  rcases this with rfl | rfl | rfl | rfl | rfl <;> rfl
theorem QW.setRoot {W : World} {base qb g c n : Nat} {A : Ar} {f r s m k : Int} (h : QW W base qb g c n A f r s m k) (x : Int) : QW (W.setCell ⟨qb, 2, none⟩ (.int .i64 x)) base qb g c n A f x s m k := h.setBox 2 x f x s m k rfl fun j hj hne => by
  have : j = 0 ∨ j = 1 ∨ j = 5 ∨ j = 3 ∨ j = 4 := by omega
  rcases this with rfl | rfl | rfl | rfl | rfl <;> rfl
theorem QW.setFree {W : World} {base qb g c n : Nat} {A : Ar} {f r s m k : Int} (h : QW W base qb g c n A f r s m k) (x : Int) : QW (W.setCell ⟨qb, 1, none⟩ (.int .i64 x)) base qb g c n A x r s m k := h.setBox 1 x x r s m k rfl fun j hj hne => by
  have : j = 0 ∨ j = 2 ∨ j = 5 ∨ j = 3 ∨ j = 4 := by omega
  rcases this with rfl | rfl | rfl | rfl | rfl <;> rfl
theorem QW.setSize {W : World} {base qb g c n : Nat} {A : Ar} {f r s m k : Int} (h : QW W base qb g c n A f r s m k) (x : Int) : QW (W.setCell ⟨qb, 3, none⟩ (.int .i64 x)) base qb g c n A f r x m k := h.setBox 3 x f r x m k rfl fun j hj hne => by
  have : j = 0 ∨ j = 2 ∨ j = 5 ∨ j = 1 ∨ j = 4 := by omega
  rcases this with rfl | rfl | rfl | rfl | rfl <;> rfl
def leftOf (b : Int) : Option Value → Nat
  | some (.int .i64 x) => (b - x).toNat
  | _ => 0
set_option maxRecDepth 100000 in
set_option maxHeartbeats 8000000 in
theorem open_any (fn : Nat) (cap : Array Value) (HF : ∀ args W, Sem.run Try.prog (callFunc fn args) W = .ok (.enter fn args) W) (base qb g c n : Nat) (A : Ar) (f r s m k : Int) (sd : Tr → Int) (hsd : Side sd) (t0 : Tr) (q0 : Nat) (W : World) (h : QW W base qb g c n A f r s m k) (hn : n ≤ 8193) (hn0 : 0 < n) (ht : t0.lies A.L A.R q0) (hnd : t0.ps.Nodup) (hin : ∀ p ∈ t0.ps, p < n) (hz : A.L 0 = 0 ∧ A.R 0 = 0) (hk : 0 ≤ k ∧ k ≤ 4611686018427387904) (hsz : t0.size ≤ 8192) (HV : WayOk fn cap base qb g c n A f r s m sd W) :
    Calls Try.prog 46 #[.pointer (some ⟨qb, 0, none⟩), .int .i64 (q0 : Int), .func (.func fn) #[] cap] W fun e W' => ∃ (A' : Ar) (ra rb : Nat), e = .returned (.tuple #[.int .i64 (ra : Int), .int .i64 ((openT sd t0).m : Int), .int .i64 (rb : Int)]) ∧ QW W' base qb g c n A' f r s m (k + (openT sd t0).k) ∧ A'.E = A.E ∧ (openT sd t0).a.lies A'.L A'.R ra ∧ (openT sd t0).b.lies A'.L A'.R rb ∧ (∀ p, p ∉ t0.ps → A'.L p = A.L p ∧ A'.R p = A.R p) ∧ Ch (S2 qb g) W W' := by
  obtain ⟨W1, hW1⟩ : ∃ W1, W.alloc (.cells #[.int .i64 0, .int .i64 0, .int .i64 0, .int .i64 0] 113) = W1 := ⟨_, rfl⟩
  have hb1 : Below W.heap.size W W1 := by rw [← hW1]; exact (Below.refl _ W).alloc (Nat.le_refl _) _
  have hh1 : HBx W1 W.heap.size 0 0 0 0 := by unfold HBx; rw [← hW1]; exact World.alloc_heap_new W _
  have hq1 := h.later hb1
  have hlt := h.lt
  have h00 : (0 : Nat) ∉ t0.ps := fun e => Tr.lies_ne ht 0 e rfl
  have hneb : W.heap.size ≠ qb ∧ W.heap.size ≠ g := by omega
  have HW : Hid (W.alloc (.cells #[.int .i64 0, .int .i64 0, .int .i64 0, .int .i64 0] 113) = W1) := hW1
  have HVH : Hid (WayOk fn cap base qb g c n A f r s m sd W) := HV
  clear hW1 HV
  go_enter Try.func46, Try.ntmps46
  go_wp2_with fail
  go_step3
  go_wp2_with fail
  go_step3
  go_upto_block 0 with fail
  rw [HW.out]
  go_cut [1] (fun x wx => ∃ (te : Tr) (A1 : Ar) (q r0 r1 l0 l1 : Nat) (FL FR : Tr → Tr) (PL PR : List Nat), x = .int .i64 (q : Int) ∧ OI t0 A A1 q r0 r1 l0 l1 te FL FR PL PR ∧ (openT sd t0).a = FL te.lf ∧ (openT sd t0).m = q ∧ (openT sd t0).b = FR te.rt ∧ QW wx base qb g c n A1 f r s m (k + (openT sd t0).k) ∧ HBx wx W.heap.size r0 r1 l0 l1 ∧ Ch (S3 qb g W.heap.size) W1 wx)
  case first =>
    go_wp2_with fail
    go_loopw [1] (fun x wx => ∃ (t : Tr) (A1 : Ar) (q r0 r1 l0 l1 : Nat) (FL FR : Tr → Tr) (PL PR : List Nat) (wk : Int), x = .int .i64 (q : Int) ∧ OI t0 A A1 q r0 r1 l0 l1 t FL FR PL PR ∧ (openT sd t0).a = FL (openT sd t).a ∧ (openT sd t0).m = (openT sd t).m ∧ (openT sd t0).b = FR (openT sd t).b ∧ wk + (openT sd t).k = k + (openT sd t0).k ∧ k ≤ wk ∧ QW wx base qb g c n A1 f r s m wk ∧ HBx wx W.heap.size r0 r1 l0 l1 ∧ Ch (S3 qb g W.heap.size) W1 wx) (fun _ wx => leftOf (k + (openT sd t0).k) (wx.cell? ⟨qb, 5, none⟩))
    case atStart => exact ⟨t0, A, q0, 0, 0, 0, 0, id, id, [], [], k, rfl, ⟨ht, LH.start _ _, RH.start _ _, by simp, rfl, fun _ _ => ⟨rfl, rfl⟩⟩, rfl, rfl, rfl, rfl, Int.le_refl _, hq1, hh1, Ch.refl _ _⟩
    case round =>
      clear hq1 hh1 ht h hz
      obtain ⟨t, A1, q, r0, r1, l0, l1, FL, FR, PL, PR, wk, rfl, hO, e1, e2, e3, ek, hkw, hQ, hH, hC⟩ := hrel
      by_cases hq : q = 0
      · subst hq
        have htn := Tr.lies_zero hO.lies
        subst htn
        rw [openT_nil] at e1 e2 e3 ek
        go_wp2_with fail
        go_meet
        refine ⟨.nil, A1, 0, r0, r1, l0, l1, FL, FR, PL, PR, rfl, hO, e1, e2, e3, ?_, hH, hC⟩
        rw [← ek]
        simpa using hQ
      · obtain ⟨a, b, rfl, ha, hb⟩ := Tr.lies_node hO.lies hq
        have dq : ((q : Int) == 0) = false := by simp; omega
        have hqn : q < n := hin q (hO.mem (.inr (.inl (by simp [Tr.ps]))))
        have HV1 := HVH.out wr A1 wk _ q (hC.drop hb1 (Nat.le_refl _)) hQ hO.E hO.lies hq hqn
        rcases hsd a q b with hs | hs | hs
        · rw [hs] at HV1
          have hmes : leftOf (k + (openT sd t0).k) (wr.cell? ⟨qb, 5, none⟩) = (openT sd (.node a q b)).k := by
            rw [hQ.cells.2.2.2.2.2]
            show (k + (openT sd t0).k - wk).toNat = _
            omega
          have hkl : a.lies A1.L A1.R (A1.L q) := ha
          have i0 : (0 : Int) ≤ (q : Int) := by omega
          have i1 : (q : Int) < (n : Int) := by omega
          have wq : IntKind.i64.wrap ((1 : Int) - 0) = 1 := rfl
          have wq2 : IntKind.i64.wrap (1 : Int) = 1 := rfl
          have hlo : l1 < n := by
            by_cases hz0 : l1 = 0
            · omega
            · exact hin _ (hO.mem (.inr (.inr (hO.l1in hz0))))
          have hls : l0 < n := by
            by_cases hz0 : l0 = 0
            · omega
            · exact hin _ (hO.mem (.inl (hO.l0in hz0)))
          obtain ⟨hO2, hxx⟩ := hO.mvR hnd h00
          have HO2 : Hid _ := hO2
          clear hO2
          have hkn : A1.L q < n := by
            by_cases hz0 : A1.L q = 0
            · omega
            · obtain ⟨c', d', he, _⟩ := Tr.lies_node hkl hz0
              exact hin _ (hO.mem (.inr (.inl (by rw [he]; simp [Tr.ps]))))
          go_wp2_with ((with_reducible refine HV1.mono ?_); rintro e w1 ⟨rfl, hbw⟩; have hQ1 := hQ.later hbw; have hH1 : HBx w1 W.heap.size r0 r1 l0 l1 := hH.keep (Ch.below (S := S2 qb g) hbw) (by rintro (e | e) <;> omega); have hC1 : Ch (S3 qb g W.heap.size) W1 w1 := hC.trans (Ch.below hbw); obtain ⟨p0, p1, p2, p3, p4, p5⟩ := hQ1.cells; have x6 : w1.cell? ⟨g, q * 8 + 6, none⟩ = some (.int .i64 (A1.L q : Int)) := hQ1.nd hqn 6 (by decide))
          go_quiet (fail)
          generalize hwq : World.drewN w1 _ = w2
          have hQ2 : QW w2 base qb g c n A1 f r s m wk := by rw [← hwq]; exact hQ1.later (below_drewNq _ _ _)
          have hH2 : HBx w2 W.heap.size r0 r1 l0 l1 := by rw [← hwq]; exact hH1.keep (Ch.drew (S2 qb g) _ _) (by rintro (e | e) <;> omega)
          have hC2 : Ch (S3 qb g W.heap.size) W1 w2 := by rw [← hwq]; exact hC1.trans (Ch.drew _ _ _)
          clear hwq p0 p1 p2 p3 p4 p5 x6 hQ1 hH1 hC1 hQ hH hC HV1 hbw
          by_cases hk0 : A1.L q = 0
          · have hnil : a = .nil := Tr.lies_zero (hk0 ▸ hkl)
            have dk : ((A1.L q : Int) == 0) = true := by simp [hk0]
            subst hnil
            rw [openT_l hs] at e1 e2 e3 ek
            have HH := hang1 base qb g c n A1 f r s m wk W.heap.size r0 r1 l0 l1 q w2 hQ2 hH2 hlo hn hneb
            go_wp2_with (go_at_call 67; (with_reducible refine HH.mono ?_); rintro e w3 ⟨rfl, hQ3, hH3, hC3⟩)
            go_meet
            have hO3 := HO2.out
            rw [hk0] at hO3
            refine ⟨.nil, _, 0, _, _, _, _, _, _, _, _, rfl, hO3, e1, e2, e3, ?_, hH3, hC2.trans hC3⟩
            rw [← ek]
            simpa using hQ3
          · have dk : ((A1.L q : Int) == 0) = false := by simp; omega
            obtain ⟨y, hy⟩ : ∃ y, A1.L q = y := ⟨_, rfl⟩
            rw [hy] at hk0 hkl hkn dk
            obtain ⟨cc, dd, hnode, hc9, hd9⟩ := Tr.lies_node hkl hk0
            subst hnode
            have HY : Hid (A1.L q = y) := hy
            have wk1 : IntKind.i64.wrap (wk + 1) = wk + 1 := by rw [IntKind.wrap_i64]; have := openT_k sd hsd _ t0 (Nat.le_refl _); omega
            have j0 : (0 : Int) ≤ (y : Int) := by omega
            have j1 : (y : Int) < (n : Int) := by omega
            have hqy : q ≠ y := fun e => (ndNode (nd3 (by rw [hO.ps]; exact hnd)).2.2.2).1 (by rw [e]; simp [Tr.ps])
            obtain ⟨p0, p1, p2, p3, p4, p5⟩ := hQ2.cells
            have pf5 := own_frozen hQ2.box 5
            have hQ3 := hQ2.setWork (wk + 1)
            have hC3 : Ch (S3 qb g W.heap.size) W1 (w2.setCell ⟨qb, 5, none⟩ (.int .i64 (wk + 1))) := hC2.trans (Ch.set _ _ _ _ _ (.inl rfl))
            have hH3 : HBx (w2.setCell ⟨qb, 5, none⟩ (.int .i64 (wk + 1))) W.heap.size r0 r1 l0 l1 := hH2.off qb _ _ hneb.1
            have HV2 := HVH.out _ A1 (wk + 1) _ y (hC3.drop hb1 (Nat.le_refl _)) hQ3 hO.E hkl hk0 hkn
            rcases hsd cc y dd with hs2 | hs2 | hs2
            · rw [hs2] at HV2
              rw [openT_ll hs hs2] at e1 e2 e3 ek hmes
              obtain ⟨hT1, hT2⟩ := hO.turn0 hnd
              obtain ⟨hO3, hO4⟩ := hT1.mvR hnd h00
              have HE9 : Hid (hR (upd A1.L q (A1.R y)) l1 y y = A1.L y) := hO4.trans hT2
              have HO3 : Hid _ := hO3
              have HT2 : Hid (upd A1.L q (A1.R y) y = A1.L y) := hT2
              clear hO3 hO4 hT1 hT2
              have wk2 : IntKind.i64.wrap (wk + 1 + 1) = wk + 1 + 1 := by rw [IntKind.wrap_i64]; have := openT_k sd hsd _ t0 (Nat.le_refl _); omega
              rw [hy]
              clear hy
              by_cases hv : A1.L y = 0
              · have dv : ((A1.L y : Int) == 0) = true := by simp [hv]
                have hbit : cc.bit = 0 := by have h9 := hc9; rw [hv] at h9; rw [Tr.lies_zero h9]; rfl
                go_wp2_with (first | ((with_reducible refine HV2.mono ?_); rintro e w4 ⟨rfl, hbw⟩; have hQ4 := hQ3.later hbw; have hH4 : HBx w4 W.heap.size r0 r1 l0 l1 := hH3.keep (Ch.below (S := S2 qb g) hbw) (by rintro (e | e) <;> omega); have hC4 : Ch (S3 qb g W.heap.size) W1 w4 := hC3.trans (Ch.below hbw); have HT := turn0 base qb g c n A1 f r s m (wk + 1) q y w4 hQ4 hqn hkn HY.out hqy hn) | (go_at_call 68; (with_reducible refine HT.mono ?_); rintro e w5 ⟨rfl, hQ5, hC5⟩; have hH5 : HBx w5 W.heap.size r0 r1 l0 l1 := hH4.keep hC5 (by rintro (e | e) <;> omega); have HH := hang1 base qb g c n _ f r s m (wk + 1) W.heap.size r0 r1 l0 l1 y w5 hQ5 hH5 hlo hn hneb) | (go_at_call 67; (with_reducible refine HH.mono ?_); rintro e w6 ⟨rfl, hQ6, hH6, hC6'⟩; have hC6 : Ch (S3 qb g W.heap.size) W1 w6 := (hC4.trans (hC5.mono (fun k hk => by rcases hk with e | e; exact .inl e; exact .inr (.inl e)))).trans hC6'; obtain ⟨v0, v1, v2, v3, v4, v5⟩ := hQ6.cells; have vf5 := own_frozen hQ6.box 5; have y6 : w6.cell? ⟨g, y * 8 + 6, none⟩ = some (.int .i64 (A1.L y : Int)) := (hQ6.nd hkn 6 (by decide)).trans (by rw [← HE9.out]; rfl)))
                have hw9 := hQ6.cells.2.2.2.2.2
                refine ⟨⟨cc, _, A1.L y, _, _, _, _, _, _, _, _, wk + 1, congrArg (fun z : Nat => Value.int .i64 (z : Int)) hv.symm, (HT2.out ▸ HO3.out), e1, e2, e3, by omega, by omega, hQ6, hH6, hC6⟩, ?_⟩
                rw [hmes, hw9]
                show (k + (openT sd t0).k - (wk + 1)).toNat < _
                omega
              · have dv : ((A1.L y : Int) == 0) = false := by simp; omega
                have hbit : cc.bit = 1 := by obtain ⟨_, _, hx9, _⟩ := Tr.lies_node hc9 hv; rw [hx9]; rfl
                go_wp2_with (first | ((with_reducible refine HV2.mono ?_); rintro e w4 ⟨rfl, hbw⟩; have hQ4 := hQ3.later hbw; have hH4 : HBx w4 W.heap.size r0 r1 l0 l1 := hH3.keep (Ch.below (S := S2 qb g) hbw) (by rintro (e | e) <;> omega); have hC4 : Ch (S3 qb g W.heap.size) W1 w4 := hC3.trans (Ch.below hbw); have HT := turn0 base qb g c n A1 f r s m (wk + 1) q y w4 hQ4 hqn hkn HY.out hqy hn) | (go_at_call 68; (with_reducible refine HT.mono ?_); rintro e w5 ⟨rfl, hQ5, hC5⟩; have hH5 : HBx w5 W.heap.size r0 r1 l0 l1 := hH4.keep hC5 (by rintro (e | e) <;> omega); have HH := hang1 base qb g c n _ f r s m (wk + 1) W.heap.size r0 r1 l0 l1 y w5 hQ5 hH5 hlo hn hneb) | (go_at_call 67; (with_reducible refine HH.mono ?_); rintro e w6 ⟨rfl, hQ6, hH6, hC6'⟩; have hC6 : Ch (S3 qb g W.heap.size) W1 w6 := (hC4.trans (hC5.mono (fun k hk => by rcases hk with e | e; exact .inl e; exact .inr (.inl e)))).trans hC6'; obtain ⟨v0, v1, v2, v3, v4, v5⟩ := hQ6.cells; have vf5 := own_frozen hQ6.box 5; have y6 : w6.cell? ⟨g, y * 8 + 6, none⟩ = some (.int .i64 (A1.L y : Int)) := (hQ6.nd hkn 6 (by decide)).trans (by rw [← HE9.out]; rfl)))
                have hQ9 := hQ6.setWork (wk + 1 + 1)
                have hw9 := hQ9.cells.2.2.2.2.2
                refine ⟨⟨cc, _, A1.L y, _, _, _, _, _, _, _, _, wk + 1 + 1, rfl, (HT2.out ▸ HO3.out), e1, e2, e3, by omega, by omega, hQ9, hH6.off qb _ _ hneb.1, hC6.trans (Ch.set _ _ _ _ _ (.inl rfl))⟩, ?_⟩
                rw [hmes, hw9]
                show (k + (openT sd t0).k - (wk + 1 + 1)).toNat < _
                omega
            · rw [hs2] at HV2
              rw [openT_lr hs hs2] at e1 e2 e3 ek hmes
              have hO2' := HO2.out
              rw [hy] at hO2'
              obtain ⟨hO3, hO4⟩ := hO2'.mvL hnd h00
              have HE9 : Hid (hR A1.R l0 y y = A1.R y) := hO4
              have HO3 : Hid _ := hO3
              clear hO3 hO4 hO2'
              have wk2 : IntKind.i64.wrap (wk + 1 + 1) = wk + 1 + 1 := by rw [IntKind.wrap_i64]; have := openT_k sd hsd _ t0 (Nat.le_refl _); omega
              rw [hy]
              clear hy
              by_cases hv : A1.R y = 0
              · have dv : ((A1.R y : Int) == 0) = true := by simp [hv]
                have hbit : dd.bit = 0 := by have h9 := hd9; rw [hv] at h9; rw [Tr.lies_zero h9]; rfl
                go_wp2_with (first | ((with_reducible refine HV2.mono ?_); rintro e w4 ⟨rfl, hbw⟩; have hQ4 := hQ3.later hbw; have hH4 : HBx w4 W.heap.size r0 r1 l0 l1 := hH3.keep (Ch.below (S := S2 qb g) hbw) (by rintro (e | e) <;> omega); have hC4 : Ch (S3 qb g W.heap.size) W1 w4 := hC3.trans (Ch.below hbw); have HH := hang1 base qb g c n A1 f r s m (wk + 1) W.heap.size r0 r1 l0 l1 q w4 hQ4 hH4 hlo hn hneb) | (go_at_call 67; first | ((with_reducible refine HH.mono ?_); rintro e w5 ⟨rfl, hQ5, hH5, hC5⟩; have HH2 := hang0 base qb g c n _ f r s m (wk + 1) W.heap.size r0 (hRoot r1 l1 q) l0 q y w5 hQ5 hH5 hls hn hneb; clear HH) | ((with_reducible refine HH2.mono ?_); rintro e w6 ⟨rfl, hQ6, hH6, hC6'⟩; have hC6 : Ch (S3 qb g W.heap.size) W1 w6 := (hC4.trans hC5).trans hC6'; obtain ⟨v0, v1, v2, v3, v4, v5⟩ := hQ6.cells; have vf5 := own_frozen hQ6.box 5; have y6 : w6.cell? ⟨g, y * 8 + 7, none⟩ = some (.int .i64 (A1.R y : Int)) := (hQ6.nd hkn 7 (by decide)).trans (by rw [← HE9.out]; rfl))))
                have hw9 := hQ6.cells.2.2.2.2.2
                refine ⟨⟨dd, _, A1.R y, _, _, _, _, _, _, _, _, wk + 1, congrArg (fun z : Nat => Value.int .i64 (z : Int)) hv.symm, HO3.out, e1, e2, e3, by omega, by omega, hQ6, hH6, hC6⟩, ?_⟩
                rw [hmes, hw9]
                show (k + (openT sd t0).k - (wk + 1)).toNat < _
                omega
              · have dv : ((A1.R y : Int) == 0) = false := by simp; omega
                have hbit : dd.bit = 1 := by obtain ⟨_, _, hx9, _⟩ := Tr.lies_node hd9 hv; rw [hx9]; rfl
                go_wp2_with (first | ((with_reducible refine HV2.mono ?_); rintro e w4 ⟨rfl, hbw⟩; have hQ4 := hQ3.later hbw; have hH4 : HBx w4 W.heap.size r0 r1 l0 l1 := hH3.keep (Ch.below (S := S2 qb g) hbw) (by rintro (e | e) <;> omega); have hC4 : Ch (S3 qb g W.heap.size) W1 w4 := hC3.trans (Ch.below hbw); have HH := hang1 base qb g c n A1 f r s m (wk + 1) W.heap.size r0 r1 l0 l1 q w4 hQ4 hH4 hlo hn hneb) | (go_at_call 67; first | ((with_reducible refine HH.mono ?_); rintro e w5 ⟨rfl, hQ5, hH5, hC5⟩; have HH2 := hang0 base qb g c n _ f r s m (wk + 1) W.heap.size r0 (hRoot r1 l1 q) l0 q y w5 hQ5 hH5 hls hn hneb; clear HH) | ((with_reducible refine HH2.mono ?_); rintro e w6 ⟨rfl, hQ6, hH6, hC6'⟩; have hC6 : Ch (S3 qb g W.heap.size) W1 w6 := (hC4.trans hC5).trans hC6'; obtain ⟨v0, v1, v2, v3, v4, v5⟩ := hQ6.cells; have vf5 := own_frozen hQ6.box 5; have y6 : w6.cell? ⟨g, y * 8 + 7, none⟩ = some (.int .i64 (A1.R y : Int)) := (hQ6.nd hkn 7 (by decide)).trans (by rw [← HE9.out]; rfl))))
                have hQ9 := hQ6.setWork (wk + 1 + 1)
                have hw9 := hQ9.cells.2.2.2.2.2
                refine ⟨⟨dd, _, A1.R y, _, _, _, _, _, _, _, _, wk + 1 + 1, rfl, HO3.out, e1, e2, e3, by omega, by omega, hQ9, hH6.off qb _ _ hneb.1, hC6.trans (Ch.set _ _ _ _ _ (.inl rfl))⟩, ?_⟩
                rw [hmes, hw9]
                show (k + (openT sd t0).k - (wk + 1 + 1)).toNat < _
                omega
            · rw [hs2] at HV2
              rw [openT_lh hs hs2] at e1 e2 e3 ek
              rw [hy]
              clear hy
              go_wp2_with (first | ((with_reducible refine HV2.mono ?_); rintro e w4 ⟨rfl, hbw⟩; have hQ4 := hQ3.later hbw; have hH4 : HBx w4 W.heap.size r0 r1 l0 l1 := hH3.keep (Ch.below (S := S2 qb g) hbw) (by rintro (e | e) <;> omega); have hC4 : Ch (S3 qb g W.heap.size) W1 w4 := hC3.trans (Ch.below hbw); have HH := hang1 base qb g c n A1 f r s m (wk + 1) W.heap.size r0 r1 l0 l1 q w4 hQ4 hH4 hlo hn hneb) | (go_at_call 67; (with_reducible refine HH.mono ?_); rintro e w5 ⟨rfl, hQ5, hH5, hC5⟩))
              go_meet
              have hO3 := HO2.out
              rw [HY.out] at hO3
              refine ⟨_, _, y, _, _, _, _, _, _, _, _, rfl, hO3, e1, e2, e3, ?_, hH5, hC4.trans hC5⟩
              rw [← ek]
              simpa using hQ5
        · rw [hs] at HV1
          have hmes : leftOf (k + (openT sd t0).k) (wr.cell? ⟨qb, 5, none⟩) = (openT sd (.node a q b)).k := by
            rw [hQ.cells.2.2.2.2.2]
            show (k + (openT sd t0).k - wk).toNat = _
            omega
          have hkl : b.lies A1.L A1.R (A1.R q) := hb
          have i0 : (0 : Int) ≤ (q : Int) := by omega
          have i1 : (q : Int) < (n : Int) := by omega
          have wq : IntKind.i64.wrap ((1 : Int) - 1) = 0 := rfl
          have wq2 : IntKind.i64.wrap (0 : Int) = 0 := rfl
          have hlo : l0 < n := by
            by_cases hz0 : l0 = 0
            · omega
            · exact hin _ (hO.mem (.inl (hO.l0in hz0)))
          have hls : l1 < n := by
            by_cases hz0 : l1 = 0
            · omega
            · exact hin _ (hO.mem (.inr (.inr (hO.l1in hz0))))
          obtain ⟨hO2, hxx⟩ := hO.mvL hnd h00
          have HO2 : Hid _ := hO2
          clear hO2
          have hkn : A1.R q < n := by
            by_cases hz0 : A1.R q = 0
            · omega
            · obtain ⟨c', d', he, _⟩ := Tr.lies_node hkl hz0
              exact hin _ (hO.mem (.inr (.inl (by rw [he]; simp [Tr.ps]))))
          go_wp2_with ((with_reducible refine HV1.mono ?_); rintro e w1 ⟨rfl, hbw⟩; have hQ1 := hQ.later hbw; have hH1 : HBx w1 W.heap.size r0 r1 l0 l1 := hH.keep (Ch.below (S := S2 qb g) hbw) (by rintro (e | e) <;> omega); have hC1 : Ch (S3 qb g W.heap.size) W1 w1 := hC.trans (Ch.below hbw); obtain ⟨p0, p1, p2, p3, p4, p5⟩ := hQ1.cells; have x6 : w1.cell? ⟨g, q * 8 + 7, none⟩ = some (.int .i64 (A1.R q : Int)) := hQ1.nd hqn 7 (by decide))
          go_quiet (fail)
          generalize hwq : World.drewN w1 _ = w2
          have hQ2 : QW w2 base qb g c n A1 f r s m wk := by rw [← hwq]; exact hQ1.later (below_drewNq _ _ _)
          have hH2 : HBx w2 W.heap.size r0 r1 l0 l1 := by rw [← hwq]; exact hH1.keep (Ch.drew (S2 qb g) _ _) (by rintro (e | e) <;> omega)
          have hC2 : Ch (S3 qb g W.heap.size) W1 w2 := by rw [← hwq]; exact hC1.trans (Ch.drew _ _ _)
          clear hwq p0 p1 p2 p3 p4 p5 x6 hQ1 hH1 hC1 hQ hH hC HV1 hbw
          by_cases hk0 : A1.R q = 0
          · have hnil : b = .nil := Tr.lies_zero (hk0 ▸ hkl)
            have dk : ((A1.R q : Int) == 0) = true := by simp [hk0]
            subst hnil
            rw [openT_r hs] at e1 e2 e3 ek
            have HH := hang0 base qb g c n A1 f r s m wk W.heap.size r0 r1 l0 l1 q w2 hQ2 hH2 hlo hn hneb
            go_wp2_with (go_at_call 67; (with_reducible refine HH.mono ?_); rintro e w3 ⟨rfl, hQ3, hH3, hC3⟩)
            go_meet
            have hO3 := HO2.out
            rw [hk0] at hO3
            refine ⟨.nil, _, 0, _, _, _, _, _, _, _, _, rfl, hO3, e1, e2, e3, ?_, hH3, hC2.trans hC3⟩
            rw [← ek]
            simpa using hQ3
          · have dk : ((A1.R q : Int) == 0) = false := by simp; omega
            obtain ⟨y, hy⟩ : ∃ y, A1.R q = y := ⟨_, rfl⟩
            rw [hy] at hk0 hkl hkn dk
            obtain ⟨cc, dd, hnode, hc9, hd9⟩ := Tr.lies_node hkl hk0
            subst hnode
            have HY : Hid (A1.R q = y) := hy
            have wk1 : IntKind.i64.wrap (wk + 1) = wk + 1 := by rw [IntKind.wrap_i64]; have := openT_k sd hsd _ t0 (Nat.le_refl _); omega
            have j0 : (0 : Int) ≤ (y : Int) := by omega
            have j1 : (y : Int) < (n : Int) := by omega
            have hqy : q ≠ y := fun e => (ndNode (nd3 (by rw [hO.ps]; exact hnd)).2.2.2).2.1 (by rw [e]; simp [Tr.ps])
            obtain ⟨p0, p1, p2, p3, p4, p5⟩ := hQ2.cells
            have pf5 := own_frozen hQ2.box 5
            have hQ3 := hQ2.setWork (wk + 1)
            have hC3 : Ch (S3 qb g W.heap.size) W1 (w2.setCell ⟨qb, 5, none⟩ (.int .i64 (wk + 1))) := hC2.trans (Ch.set _ _ _ _ _ (.inl rfl))
            have hH3 : HBx (w2.setCell ⟨qb, 5, none⟩ (.int .i64 (wk + 1))) W.heap.size r0 r1 l0 l1 := hH2.off qb _ _ hneb.1
            have HV2 := HVH.out _ A1 (wk + 1) _ y (hC3.drop hb1 (Nat.le_refl _)) hQ3 hO.E hkl hk0 hkn
            rcases hsd cc y dd with hs2 | hs2 | hs2
            · rw [hs2] at HV2
              rw [openT_rl hs hs2] at e1 e2 e3 ek hmes
              have hO2' := HO2.out
              rw [hy] at hO2'
              obtain ⟨hO3, hO4⟩ := hO2'.mvR hnd h00
              have HE9 : Hid (hR A1.L l1 y y = A1.L y) := hO4
              have HO3 : Hid _ := hO3
              clear hO3 hO4 hO2'
              have wk2 : IntKind.i64.wrap (wk + 1 + 1) = wk + 1 + 1 := by rw [IntKind.wrap_i64]; have := openT_k sd hsd _ t0 (Nat.le_refl _); omega
              rw [hy]
              clear hy
              by_cases hv : A1.L y = 0
              · have dv : ((A1.L y : Int) == 0) = true := by simp [hv]
                have hbit : cc.bit = 0 := by have h9 := hc9; rw [hv] at h9; rw [Tr.lies_zero h9]; rfl
                go_wp2_with (first | ((with_reducible refine HV2.mono ?_); rintro e w4 ⟨rfl, hbw⟩; have hQ4 := hQ3.later hbw; have hH4 : HBx w4 W.heap.size r0 r1 l0 l1 := hH3.keep (Ch.below (S := S2 qb g) hbw) (by rintro (e | e) <;> omega); have hC4 : Ch (S3 qb g W.heap.size) W1 w4 := hC3.trans (Ch.below hbw); have HH := hang0 base qb g c n A1 f r s m (wk + 1) W.heap.size r0 r1 l0 l1 q w4 hQ4 hH4 hlo hn hneb) | (go_at_call 67; first | ((with_reducible refine HH.mono ?_); rintro e w5 ⟨rfl, hQ5, hH5, hC5⟩; have HH2 := hang1 base qb g c n _ f r s m (wk + 1) W.heap.size (hRoot r0 l0 q) r1 q l1 y w5 hQ5 hH5 hls hn hneb; clear HH) | ((with_reducible refine HH2.mono ?_); rintro e w6 ⟨rfl, hQ6, hH6, hC6'⟩; have hC6 : Ch (S3 qb g W.heap.size) W1 w6 := (hC4.trans hC5).trans hC6'; obtain ⟨v0, v1, v2, v3, v4, v5⟩ := hQ6.cells; have vf5 := own_frozen hQ6.box 5; have y6 : w6.cell? ⟨g, y * 8 + 6, none⟩ = some (.int .i64 (A1.L y : Int)) := (hQ6.nd hkn 6 (by decide)).trans (by rw [← HE9.out]; rfl))))
                have hw9 := hQ6.cells.2.2.2.2.2
                refine ⟨⟨cc, _, A1.L y, _, _, _, _, _, _, _, _, wk + 1, congrArg (fun z : Nat => Value.int .i64 (z : Int)) hv.symm, HO3.out, e1, e2, e3, by omega, by omega, hQ6, hH6, hC6⟩, ?_⟩
                rw [hmes, hw9]
                show (k + (openT sd t0).k - (wk + 1)).toNat < _
                omega
              · have dv : ((A1.L y : Int) == 0) = false := by simp; omega
                have hbit : cc.bit = 1 := by obtain ⟨_, _, hx9, _⟩ := Tr.lies_node hc9 hv; rw [hx9]; rfl
                go_wp2_with (first | ((with_reducible refine HV2.mono ?_); rintro e w4 ⟨rfl, hbw⟩; have hQ4 := hQ3.later hbw; have hH4 : HBx w4 W.heap.size r0 r1 l0 l1 := hH3.keep (Ch.below (S := S2 qb g) hbw) (by rintro (e | e) <;> omega); have hC4 : Ch (S3 qb g W.heap.size) W1 w4 := hC3.trans (Ch.below hbw); have HH := hang0 base qb g c n A1 f r s m (wk + 1) W.heap.size r0 r1 l0 l1 q w4 hQ4 hH4 hlo hn hneb) | (go_at_call 67; first | ((with_reducible refine HH.mono ?_); rintro e w5 ⟨rfl, hQ5, hH5, hC5⟩; have HH2 := hang1 base qb g c n _ f r s m (wk + 1) W.heap.size (hRoot r0 l0 q) r1 q l1 y w5 hQ5 hH5 hls hn hneb; clear HH) | ((with_reducible refine HH2.mono ?_); rintro e w6 ⟨rfl, hQ6, hH6, hC6'⟩; have hC6 : Ch (S3 qb g W.heap.size) W1 w6 := (hC4.trans hC5).trans hC6'; obtain ⟨v0, v1, v2, v3, v4, v5⟩ := hQ6.cells; have vf5 := own_frozen hQ6.box 5; have y6 : w6.cell? ⟨g, y * 8 + 6, none⟩ = some (.int .i64 (A1.L y : Int)) := (hQ6.nd hkn 6 (by decide)).trans (by rw [← HE9.out]; rfl))))
                have hQ9 := hQ6.setWork (wk + 1 + 1)
                have hw9 := hQ9.cells.2.2.2.2.2
                refine ⟨⟨cc, _, A1.L y, _, _, _, _, _, _, _, _, wk + 1 + 1, rfl, HO3.out, e1, e2, e3, by omega, by omega, hQ9, hH6.off qb _ _ hneb.1, hC6.trans (Ch.set _ _ _ _ _ (.inl rfl))⟩, ?_⟩
                rw [hmes, hw9]
                show (k + (openT sd t0).k - (wk + 1 + 1)).toNat < _
                omega
            · rw [hs2] at HV2
              rw [openT_rr hs hs2] at e1 e2 e3 ek hmes
              obtain ⟨hT1, hT2⟩ := hO.turn1 hnd
              obtain ⟨hO3, hO4⟩ := hT1.mvL hnd h00
              have HE9 : Hid (hR (upd A1.R q (A1.L y)) l0 y y = A1.R y) := hO4.trans hT2
              have HO3 : Hid _ := hO3
              have HT2 : Hid (upd A1.R q (A1.L y) y = A1.R y) := hT2
              clear hO3 hO4 hT1 hT2
              have wk2 : IntKind.i64.wrap (wk + 1 + 1) = wk + 1 + 1 := by rw [IntKind.wrap_i64]; have := openT_k sd hsd _ t0 (Nat.le_refl _); omega
              rw [hy]
              clear hy
              by_cases hv : A1.R y = 0
              · have dv : ((A1.R y : Int) == 0) = true := by simp [hv]
                have hbit : dd.bit = 0 := by have h9 := hd9; rw [hv] at h9; rw [Tr.lies_zero h9]; rfl
                go_wp2_with (first | ((with_reducible refine HV2.mono ?_); rintro e w4 ⟨rfl, hbw⟩; have hQ4 := hQ3.later hbw; have hH4 : HBx w4 W.heap.size r0 r1 l0 l1 := hH3.keep (Ch.below (S := S2 qb g) hbw) (by rintro (e | e) <;> omega); have hC4 : Ch (S3 qb g W.heap.size) W1 w4 := hC3.trans (Ch.below hbw); have HT := turn1 base qb g c n A1 f r s m (wk + 1) q y w4 hQ4 hqn hkn HY.out hqy hn) | (go_at_call 68; (with_reducible refine HT.mono ?_); rintro e w5 ⟨rfl, hQ5, hC5⟩; have hH5 : HBx w5 W.heap.size r0 r1 l0 l1 := hH4.keep hC5 (by rintro (e | e) <;> omega); have HH := hang0 base qb g c n _ f r s m (wk + 1) W.heap.size r0 r1 l0 l1 y w5 hQ5 hH5 hlo hn hneb) | (go_at_call 67; (with_reducible refine HH.mono ?_); rintro e w6 ⟨rfl, hQ6, hH6, hC6'⟩; have hC6 : Ch (S3 qb g W.heap.size) W1 w6 := (hC4.trans (hC5.mono (fun k hk => by rcases hk with e | e; exact .inl e; exact .inr (.inl e)))).trans hC6'; obtain ⟨v0, v1, v2, v3, v4, v5⟩ := hQ6.cells; have vf5 := own_frozen hQ6.box 5; have y6 : w6.cell? ⟨g, y * 8 + 7, none⟩ = some (.int .i64 (A1.R y : Int)) := (hQ6.nd hkn 7 (by decide)).trans (by rw [← HE9.out]; rfl)))
                have hw9 := hQ6.cells.2.2.2.2.2
                refine ⟨⟨dd, _, A1.R y, _, _, _, _, _, _, _, _, wk + 1, congrArg (fun z : Nat => Value.int .i64 (z : Int)) hv.symm, (HT2.out ▸ HO3.out), e1, e2, e3, by omega, by omega, hQ6, hH6, hC6⟩, ?_⟩
                rw [hmes, hw9]
                show (k + (openT sd t0).k - (wk + 1)).toNat < _
                omega
              · have dv : ((A1.R y : Int) == 0) = false := by simp; omega
                have hbit : dd.bit = 1 := by obtain ⟨_, _, hx9, _⟩ := Tr.lies_node hd9 hv; rw [hx9]; rfl
                go_wp2_with (first | ((with_reducible refine HV2.mono ?_); rintro e w4 ⟨rfl, hbw⟩; have hQ4 := hQ3.later hbw; have hH4 : HBx w4 W.heap.size r0 r1 l0 l1 := hH3.keep (Ch.below (S := S2 qb g) hbw) (by rintro (e | e) <;> omega); have hC4 : Ch (S3 qb g W.heap.size) W1 w4 := hC3.trans (Ch.below hbw); have HT := turn1 base qb g c n A1 f r s m (wk + 1) q y w4 hQ4 hqn hkn HY.out hqy hn) | (go_at_call 68; (with_reducible refine HT.mono ?_); rintro e w5 ⟨rfl, hQ5, hC5⟩; have hH5 : HBx w5 W.heap.size r0 r1 l0 l1 := hH4.keep hC5 (by rintro (e | e) <;> omega); have HH := hang0 base qb g c n _ f r s m (wk + 1) W.heap.size r0 r1 l0 l1 y w5 hQ5 hH5 hlo hn hneb) | (go_at_call 67; (with_reducible refine HH.mono ?_); rintro e w6 ⟨rfl, hQ6, hH6, hC6'⟩; have hC6 : Ch (S3 qb g W.heap.size) W1 w6 := (hC4.trans (hC5.mono (fun k hk => by rcases hk with e | e; exact .inl e; exact .inr (.inl e)))).trans hC6'; obtain ⟨v0, v1, v2, v3, v4, v5⟩ := hQ6.cells; have vf5 := own_frozen hQ6.box 5; have y6 : w6.cell? ⟨g, y * 8 + 7, none⟩ = some (.int .i64 (A1.R y : Int)) := (hQ6.nd hkn 7 (by decide)).trans (by rw [← HE9.out]; rfl)))
                have hQ9 := hQ6.setWork (wk + 1 + 1)
                have hw9 := hQ9.cells.2.2.2.2.2
                refine ⟨⟨dd, _, A1.R y, _, _, _, _, _, _, _, _, wk + 1 + 1, rfl, (HT2.out ▸ HO3.out), e1, e2, e3, by omega, by omega, hQ9, hH6.off qb _ _ hneb.1, hC6.trans (Ch.set _ _ _ _ _ (.inl rfl))⟩, ?_⟩
                rw [hmes, hw9]
                show (k + (openT sd t0).k - (wk + 1 + 1)).toNat < _
                omega
            · rw [hs2] at HV2
              rw [openT_rh hs hs2] at e1 e2 e3 ek
              rw [hy]
              clear hy
              go_wp2_with (first | ((with_reducible refine HV2.mono ?_); rintro e w4 ⟨rfl, hbw⟩; have hQ4 := hQ3.later hbw; have hH4 : HBx w4 W.heap.size r0 r1 l0 l1 := hH3.keep (Ch.below (S := S2 qb g) hbw) (by rintro (e | e) <;> omega); have hC4 : Ch (S3 qb g W.heap.size) W1 w4 := hC3.trans (Ch.below hbw); have HH := hang0 base qb g c n A1 f r s m (wk + 1) W.heap.size r0 r1 l0 l1 q w4 hQ4 hH4 hlo hn hneb) | (go_at_call 67; (with_reducible refine HH.mono ?_); rintro e w5 ⟨rfl, hQ5, hH5, hC5⟩))
              go_meet
              have hO3 := HO2.out
              rw [HY.out] at hO3
              refine ⟨_, _, y, _, _, _, _, _, _, _, _, rfl, hO3, e1, e2, e3, ?_, hH5, hC4.trans hC5⟩
              rw [← ek]
              simpa using hQ5
        · rw [hs] at HV1
          rw [openT_here hs] at e1 e2 e3 ek
          go_wp2_with ((with_reducible refine HV1.mono ?_); rintro e w1 ⟨rfl, hbw⟩)
          go_meet
          refine ⟨_, A1, q, r0, r1, l0, l1, FL, FR, PL, PR, rfl, hO, e1, e2, e3, ?_, hH.keep (Ch.below (S := S2 qb g) hbw) (by rintro (e | e) <;> omega), hC.trans (Ch.below hbw)⟩
          rw [← ek]
          simpa using hQ.later hbw
  case rest =>
    obtain ⟨te, A1, q, r0, r1, l0, l1, FL, FR, PL, PR, rfl, hO, e1, e2, e3, hQ, hH, hC⟩ := hcut
    have hl0 : l0 < n := by
      by_cases hz0 : l0 = 0
      · omega
      · exact hin _ (hO.mem (.inl (hO.l0in hz0)))
    have hl1 : l1 < n := by
      by_cases hz0 : l1 = 0
      · omega
      · exact hin _ (hO.mem (.inr (.inr (hO.l1in hz0))))
    have hqn : q < n := by
      by_cases hz0 : q = 0
      · omega
      · obtain ⟨c', d', he, _⟩ := Tr.lies_node hO.lies hz0
        exact hin _ (hO.mem (.inr (.inl (by rw [he]; simp [Tr.ps]))))
    obtain ⟨f1, f2, f3⟩ := hO.shut hnd h00 hz
    have i0 : (0 : Int) ≤ (q : Int) := by omega
    have i1 : (q : Int) < (n : Int) := by omega
    obtain ⟨p0, p1, p2, p3, p4, p5⟩ := hQ.cells
    have x6 : wc.cell? ⟨g, q * 8 + 6, none⟩ = some (.int .i64 (A1.L q : Int)) := hQ.nd hqn 6 (by decide)
    have x7 : wc.cell? ⟨g, q * 8 + 7, none⟩ = some (.int .i64 (A1.R q : Int)) := hQ.nd hqn 7 (by decide)
    obtain ⟨w2, hw2⟩ : ∃ w2, wc.alloc (.cells #[.int .i64 (A1.L q : Int), .int .i64 (A1.R q : Int)] 65) = w2 := ⟨_, rfl⟩
    have hb2 : Below wc.heap.size wc w2 := by rw [← hw2]; exact (Below.refl _ wc).alloc (Nat.le_refl _) _
    have hr2 : w2.heap[wc.heap.size]? = some (.cells #[.int .i64 (A1.L q : Int), .int .i64 (A1.R q : Int)] 65 (0, 0)) := by rw [← hw2]; exact World.alloc_heap_new wc _
    have HW2 : Hid (wc.alloc (.cells #[.int .i64 (A1.L q : Int), .int .i64 (A1.R q : Int)] 65) = w2) := hw2
    clear hw2
    have hQ2 := hQ.later hb2
    have hH2 : HBx w2 W.heap.size r0 r1 l0 l1 := hH.keep (Ch.below (S := S2 qb g) hb2) (by rintro (e | e) <;> omega)
    have hC2 : Ch (S3 qb g W.heap.size) W1 w2 := hC.trans (Ch.below hb2)
    have hwl := hH.lt
    have hwq := hQ.lt
    have hn1 : ¬ S3 qb g W.heap.size wc.heap.size := by rintro (e | e | e) <;> omega
    have HH := hang0 base qb g c n A1 f r s m _ W.heap.size r0 r1 l0 l1 (A1.L q) w2 hQ2 hH2 hl0 hn hneb
    have cellR : ∀ W9 : World, W9.heap[wc.heap.size]? = some (.cells #[.int .i64 (A1.L q : Int), .int .i64 (A1.R q : Int)] 65 (0, 0)) → W9.cell? ⟨wc.heap.size, 1, none⟩ = some (.int .i64 (A1.R q : Int)) := fun W9 h9 => by unfold World.cell?; rw [h9]; rfl
    go_wp2_with (go_at_call 67; first | (rw [HW2.out]; (with_reducible refine HH.mono ?_); rintro e w3 ⟨rfl, hQ3, hH3, hC3⟩; have y1 := cellR w3 ((hC3.block _ (lt_of_block hr2) hn1).trans hr2); have HH2 := hang1 base qb g c n _ f r s m _ W.heap.size _ r1 _ l1 (A1.R q) w3 hQ3 hH3 hl1 hn hneb; clear HH) | ((with_reducible refine HH2.mono ?_); rintro e w4 ⟨rfl, hQ4, hH4, hC4⟩; obtain ⟨k0, k1, k2, k3⟩ := hH4.cells))
    go_quiet (fail)
    go_wp2
    try rw [Exit.noGoto_ret]
    refine bodyPost_ret (v := .tuple #[.int .i64 (hRoot r0 l0 (A1.L q) : Int), .int .i64 (q : Int), .int .i64 (hRoot r1 l1 (A1.R q) : Int)]) (by simp [results, Try.results46, go_sem]) rfl ?_
    refine ⟨_, _, _, by rw [e2], hQ4.later (below_drewNq _ _ _), hO.E, by rw [e1]; exact f1, by rw [e3]; exact f2, f3, ?_⟩
    exact (((hC2.trans hC3).trans hC4).trans (Ch.drew _ _ _)).drop hb1 (Nat.le_refl _)
end Go.Proofs.Ytlklolmhaiaaiaa
