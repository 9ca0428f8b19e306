import Derived.Test.YtkfjcbnhohipgaaMGF0
import Derived.BigQuiet
import Derived.Deep.RegionLaw
import Derived.Deep.RegionHeld3
import Derived.Deep.Cut
import Derived.Deep.DeepCutAuto
import Derived.Deep.CutBlock
import Derived.Deep.CutRange
import Derived.Deep.AppendLies
import Derived.Handy
import Derived.Lib.RabinKarpLaws
import Derived.ArgAppend
import Derived.Deep.Upon
namespace Go.Proofs.Ytkfjcbnhohipgaa
open Go.ChangeShapes Go.WideShapes Go.ChangeAt Go.RowKit
set_option linter.unusedVariables false
set_option linter.unusedSimpArgs false


set_option maxRecDepth 100000 in
set_option maxHeartbeats 8000000 in
theorem ends_any {W : World} {base sb : Nat} {V : Nat → Value} {n : Nat → Nat} {F : Nat → Nat → Value} {m T : Nat} {xl xw : Nat → Nat} (h : SX No W base sb V n F m) (h' : SC W base V n F T xl xw) (hbase : base ≤ W.heap.size) (hm : m ≤ 100000) : Calls Try.prog 53 #[.pointer (some ⟨sb, 0, none⟩)] W fun e W' => e = .returned (.bool true) ∧ Below base W W' := by
  obtain ⟨N2, hN2⟩ : ∃ N2, n 2 = N2 := ⟨_, rfl⟩
  have hN3 : n 3 = N2 := by rw [← h'.e2]; exact hN2
  obtain ⟨qc, cc, vc0⟩ := h.form 2 (by decide)
  obtain ⟨qd, cd, vd0⟩ := h.form 3 (by decide)
  rw [hN2] at vc0
  rw [hN3] at vd0
  have HV2 := mhid vc0
  have HV3 := mhid vd0
  have HN2 := mhid hN2
  have HN3 := mhid hN3
  have HM : Hid (N2 ≤ 100000) := by have h1 := (h.o 2 (by decide)).2; show N2 ≤ 100000; omega
  have HH := mhid (And.intro h (And.intro h' (And.intro hbase hm)))
  clear h h' hbase hm hN2 hN3 vc0 vd0
  go_enter Try.func53, Try.ntmps53
  go_wp2_with fail
  go_loopw [3] (fun y wr => ∃ i : Nat, y = .int .i64 (i : Int) ∧ i ≤ N2 ∧ SX No wr base sb V n F m ∧ SC wr base V n F T xl xw ∧ Below base W wr) (fun y _ => N2 - (intOf y).toNat)
  case atStart => exact ⟨0, rfl, Nat.zero_le _, HH.out.1, HH.out.2.1, Below.refl _ _⟩
  case round =>
    obtain ⟨i, rfl, hi, sx, sc, hbr⟩ := hrel
    obtain ⟨c0, c1, c2, c3⟩ := sx.cells
    rw [HV2.out] at c2
    have HR := mhid (And.intro sx (And.intro sc hbr))
    by_cases hlt : i < N2
    · have dl : decide ((i : Int) < (N2 : Int)) = true := by simp; omega
      have dln : decide (i < N2) = true := by simp; omega
      have hme := meas hlt
      have hM := HM.out
      have ek : IntKind.i64.wrap ((i : Int) + 1) = (i : Int) + 1 := by rw [IntKind.wrap_i64]; omega
      have ez : IntKind.i64.wrap (1000000 + (i : Int)) = 1000000 + (i : Int) := by rw [IntKind.wrap_i64]; omega
      have k0 : (0 : Int) ≤ (i : Int) := by omega
      have k1 : (i : Int) < (N2 : Int) := by omega
      have oc := (sx.o 2 (by decide)).1
      have od := (sx.o 3 (by decide)).1
      rw [HV2.out, HN2.out] at oc
      rw [HV3.out, HN3.out] at od
      rcases oc.form with ⟨_, h2⟩ | ⟨gc, cc', h1, _⟩
      · omega
      injection h1 with h1 _ h1c
      rcases od.form with ⟨_, h2⟩ | ⟨gd, cd', h1', _⟩
      · omega
      injection h1' with h1' _ h1c'
      subst h1 h1c h1' h1c'
      obtain ⟨l1, l2, l3, l4, mm, kk, l5, l6, l7⟩ := sc.lt i (by rw [HN2.out]; exact hlt)
      obtain ⟨ql, cl, hvl⟩ : ∃ q c, V (xl i) = .slice q mm c := by
        rcases l6.form with ⟨a, b⟩ | ⟨g, c, a, _⟩
        · exact ⟨none, 0, by rw [a, b]⟩
        · exact ⟨_, _, a⟩
      obtain ⟨qw, cw, hvw⟩ : ∃ q c, V (xw i) = .slice q mm c := by
        rcases l7.form with ⟨a, b⟩ | ⟨g, c, a, _⟩
        · exact ⟨none, 0, by rw [a, b]⟩
        · exact ⟨_, _, a⟩
      have HI := mhid (And.intro l3 (And.intro l4 (And.intro hvl (And.intro hvw l5))))
      have HLT := mhid hlt
      clear oc od l1 l2 l3 l4 l5 l6 l7 hvl hvw sx sc hbr hlt hi hM
      go_wp2_with fail
      clear c0 c1 c2 c3
      go_loopw [4] (fun y wr => ∃ p : Nat, y = .int .i64 (p : Int) ∧ p ≤ mm ∧ SX No wr base sb V n F m ∧ SC wr base V n F T xl xw ∧ Below base W wr) (fun y _ => mm - (intOf y).toNat)
      case atStart => exact ⟨0, rfl, Nat.zero_le _, HR.out.1, HR.out.2.1, HR.out.2.2⟩
      case round =>
        obtain ⟨p, rfl, hp, sx, sc, hbr⟩ := hrel
        obtain ⟨c0, c1, c2, c3⟩ := sx.cells
        rw [HV2.out] at c2
        rw [HV3.out] at c3
        have oc := (sx.o 2 (by decide)).1
        have od := (sx.o 3 (by decide)).1
        rw [HV2.out, HN2.out] at oc
        rw [HV3.out, HN3.out] at od
        have y0 := oc.cell (j := i) (by have := HLT.out; omega)
        have y1 := od.cell (j := i) (by have := HLT.out; omega)
        rw [HI.out.1, HI.out.2.2.1] at y0
        rw [HI.out.2.1, HI.out.2.2.2.1] at y1
        by_cases hpm : p < mm
        · have dp : decide ((p : Int) < (mm : Int)) = true := by simp; omega
          have dpn : decide (p < mm) = true := by simp; omega
          have hmp := meas hpm
          have h5 := HI.out.2.2.2.2
          have ep : IntKind.i64.wrap ((p : Int) + 1) = (p : Int) + 1 := by rw [IntKind.wrap_i64]; omega
          have p0 : (0 : Int) ≤ (p : Int) := by omega
          have p1 : (p : Int) < (mm : Int) := by omega
          obtain ⟨_, _, _, _, m2, k2, _, o1, o2⟩ := sc.lt i (by rw [HN2.out]; exact HLT.out)
          have hw := fun g g2 c c2 (e1 : V (xl i) = .slice (some ⟨g, 0, none⟩) mm c) (e2 : V (xw i) = .slice (some ⟨g2, 0, none⟩) mm c2) => sc.write (by rw [HN2.out]; exact HLT.out) e1 e2 p (1000000 + (i : Int)) (p : Int)
          have hxg := (sc.ne i i (by rw [HN2.out]; exact HLT.out) (by rw [HN2.out]; exact HLT.out)).1
          have hexg := fun b hb => (sc.ex i (by rw [HN2.out]; exact HLT.out) (xw i) b (by have := (sc.lt i (by rw [HN2.out]; exact HLT.out)).2.1.1; exact this) hb).1 (Ne.symm hxg)
          rw [HI.out.2.2.1] at o1
          rw [HI.out.2.2.2.1] at o2
          rcases o1.form with ⟨e, e'⟩ | ⟨g, c', h1, _⟩
          · injection e with _ e _; omega
          injection h1 with h1 hmm h1c
          rcases o2.form with ⟨e, e'⟩ | ⟨g2, c2', h1', _⟩
          · injection e with _ e _; omega
          injection h1' with h1' _ h1c'
          subst h1 h1c h1' h1c' hmm
          have hgg : g2 ≠ g := fun e => hexg g2 (by rw [HI.out.2.2.2.1]; rfl) (by rw [HI.out.2.2.1, e]; rfl)
          have hgg' : g ≠ g2 := Ne.symm hgg
          have t0 := o1.cell (j := p * 2) (by omega)
          have t1 := o1.cell (j := p * 2 + 1) (by omega)
          have s0 := o2.cell (j := p * 2) (by omega)
          have s1 := o2.cell (j := p * 2 + 1) (by omega)
          have fg : ∀ j, wr.frozen? ⟨g, j, none⟩ = false := fun j => by obtain ⟨cr, hcr, _⟩ := o1.block; exact frz hcr _
          have fw : ∀ j, wr.frozen? ⟨g2, j, none⟩ = false := fun j => by obtain ⟨cr, hcr, _⟩ := o2.block; exact frz hcr _
          have nsg : sb ≠ g := fun e => o1.apart sx.p (by decide) g rfl e.symm
          have nsg2 : sb ≠ g2 := fun e => o2.apart sx.p (by decide) g2 rfl e.symm
          have ncg : gc ≠ g := fun e => oc.clash o1 (by decide) (by rw [← e]; rfl) rfl
          have ncg2 : gc ≠ g2 := fun e => oc.clash o2 (by decide) (by rw [← e]; rfl) rfl
          have ndg : gd ≠ g := fun e => od.clash o1 (by decide) (by rw [← e]; rfl) rfl
          have ndg2 : gd ≠ g2 := fun e => od.clash o2 (by decide) (by rw [← e]; rfl) rfl
          have x1 := sx.put g p (1000000 + (i : Int)) (p : Int) o1 (fun o ho => by cases ho)
          have o2' : Own ((wr.setCell ⟨g, p * 2, none⟩ (.int .i64 (1000000 + (i : Int)))).setCell ⟨g, p * 2 + 1, none⟩ (.int .i64 (p : Int))) base 31 2 (.slice (some ⟨g2, 0, none⟩) mm cw) mm (thF k2) := o2.far fun j hj => by
            simp [Value.ownBlock] at hj
            subst hj
            exact (Below.heap_setCell _ _ _ _ hgg).trans (Below.heap_setCell _ _ _ _ hgg)
          have x2 := x1.put g2 p (1000000 + (i : Int)) (p : Int) o2' (fun o ho => by cases ho)
          have w2 := hw g g2 cl cw HI.out.2.2.1 HI.out.2.2.2.1
          have bg := (o1.lt g rfl).1
          have bg2 := (o2.lt g2 rfl).1
          have b2 := (((hbr.setCell (p := ⟨g, p * 2, none⟩) bg (.int .i64 (1000000 + (i : Int)))).setCell (p := ⟨g, p * 2 + 1, none⟩) bg (.int .i64 (p : Int))).setCell (p := ⟨g2, p * 2, none⟩) bg2 (.int .i64 (1000000 + (i : Int)))).setCell (p := ⟨g2, p * 2 + 1, none⟩) bg2 (.int .i64 (p : Int))
          have FIN := mhid (And.intro x2 (And.intro w2 b2))
          have HPM := mhid hpm
          obtain ⟨t0v, ht0⟩ : ∃ v, thF k2 (p * 2) = v := ⟨_, rfl⟩
          obtain ⟨t1v, ht1⟩ : ∃ v, thF k2 (p * 2 + 1) = v := ⟨_, rfl⟩
          rw [ht0] at t0 s0
          rw [ht1] at t1 s1
          clear hw hxg hexg x1 x2 w2 b2 o1 o2 o2' oc od sx sc hbr hpm hp h5 ht0 ht1 bg bg2 c0 c1
          go_upto_region 8 with fail
          go_region
          all_goals (
            go_wp2_with fail
            exact ⟨⟨p + 1, rfl, HPM.out, FIN.out.1.later (drewB _), FIN.out.2.1.keep (fun _ _ _ _ => rfl), ⟨FIN.out.2.2.os, FIN.out.2.2.tape, FIN.out.2.2.output, FIN.out.2.2.size, FIN.out.2.2.block⟩⟩, hmp⟩)
        · have dp : decide ((p : Int) < (mm : Int)) = false := by simp; omega
          have dpn : decide (p < mm) = false := by simp; omega
          have HQ := mhid (And.intro sx (And.intro sc hbr))
          clear sx sc hbr oc od hp hpm
          go_wp2_with fail
          exact ⟨⟨i + 1, rfl, HLT.out, HQ.out.1, HQ.out.2.1, HQ.out.2.2⟩, hme⟩
    · have dl : decide ((i : Int) < (N2 : Int)) = false := by simp; omega
      have dln : decide (i < N2) = false := by simp; omega
      clear sx sc hbr hlt hi
      go_wp2_with fail
      clear c0 c1 c2 c3 dl dln
      go_loopw [5] (fun y wr => ∃ (i : Nat) (Vr : Nat → Value) (nr : Nat → Nat) (Fr : Nat → Nat → Value) (mr : Nat), y = .int .i64 (i : Int) ∧ i ≤ N2 ∧ mr = m + 4 * i ∧ SX No wr base sb Vr nr Fr mr ∧ (Vr 2 = V 2 ∧ Vr 3 = V 3 ∧ Fr 2 = F 2 ∧ Fr 3 = F 3) ∧ (nr 2 = N2 ∧ nr 3 = N2 ∧ nr 1 = nr 0) ∧ EN wr base N2 i (Fr 0) (Fr 1) (F 2) (F 3) (nr 0) ∧ Below base W wr) (fun y _ => N2 - (intOf y).toNat)
      case atStart =>
        have q := EN.start HR.out.2.1
        rw [HN2.out] at q
        exact ⟨0, V, n, F, m, rfl, Nat.zero_le _, rfl, HR.out.1, ⟨rfl, rfl, rfl, rfl⟩, ⟨HN2.out, HN3.out, HR.out.2.1.e1.symm⟩, q, HR.out.2.2⟩
      case round =>
        obtain ⟨i, Vr, nr, Fr, mr, rfl, hi, hmr, sx, ⟨hv2, hv3, hf2, hf3⟩, ⟨hn2, hn3, hn1⟩, en, hbr⟩ := hrel
        obtain ⟨c0, c1, c2, c3⟩ := sx.cells
        rw [hv2, HV2.out] at c2
        rw [hv3, HV3.out] at c3
        have hM := HM.out
        have hbase := HH.out.2.2.1
        have hm9 := HH.out.2.2.2
        by_cases hlt : i < N2
        · have dl : decide ((i : Int) < (N2 : Int)) = true := by simp; omega
          have dln : decide (i < N2) = true := by simp; omega
          have hme := meas hlt
          have ek : IntKind.i64.wrap ((i : Int) + 1) = (i : Int) + 1 := by rw [IntKind.wrap_i64]; omega
          have ez : IntKind.i64.wrap (1000000 + (i : Int)) = 1000000 + (i : Int) := by rw [IntKind.wrap_i64]; omega
          have k0 : (0 : Int) ≤ (i : Int) := by omega
          have k1 : (i : Int) < (N2 : Int) := by omega
          have oc := (sx.o 2 (by decide)).1
          have od := (sx.o 3 (by decide)).1
          rw [hv2, HV2.out, hn2, hf2] at oc
          rw [hv3, HV3.out, hn3, hf3] at od
          rcases oc.form with ⟨_, h2⟩ | ⟨gc, cc', h1, _⟩
          · omega
          injection h1 with h1 _ h1c
          rcases od.form with ⟨_, h2⟩ | ⟨gd, cd', h1', _⟩
          · omega
          injection h1' with h1' _ h1c'
          subst h1 h1c h1' h1c'
          have y0 := oc.cell (j := i) (by omega)
          have y1 := od.cell (j := i) (by omega)
          obtain ⟨mm, kk, hmm, o1, o2⟩ := en.lt i hlt
          obtain ⟨ql, cl, hvl⟩ : ∃ q c, F 2 i = .slice q mm c := by
            rcases o1.form with ⟨a, b⟩ | ⟨g, c, a, _⟩
            · exact ⟨none, 0, by rw [a, b]⟩
            · exact ⟨_, _, a⟩
          obtain ⟨qw, cw, hvw⟩ : ∃ q c, F 3 i = .slice q mm c := by
            rcases o2.form with ⟨a, b⟩ | ⟨g, c, a, _⟩
            · exact ⟨none, 0, by rw [a, b]⟩
            · exact ⟨_, _, a⟩
          rw [hvl] at y0 o1
          rw [hvw] at y1 o2
          have hex : ∀ b, (Value.slice ql mm cl).ownBlock = some b → (Value.slice qw mm cw).ownBlock ≠ some b := fun b hb => by
            rw [← hvl] at hb
            rw [← hvw]
            exact (en.e2 i (Nat.le_refl _) hlt b hb).1
          have hbw : base ≤ wr.heap.size := Nat.le_trans hbase hbr.size
          obtain ⟨iS, hS1, hS2, hS3, hS4⟩ := binfo infoSS
          have HG1 : Hid (∀ w', Below wr.heap.size wr w' → Calls Try.prog 59 #[.slice ql mm cl, .int .i64 (1000000 + (i : Int))] w' fun e w5 => ∃ q5 c5, e = .returned (.slice q5 (mm + 64) c5) ∧ SX No w5 base sb Vr nr Fr mr ∧ base ≤ w5.heap.size ∧ Below base W w5 ∧ EN w5 base N2 i (Fr 0) (Fr 1) (F 2) (F 3) (nr 0) ∧ Own w5 base 31 2 (.slice ql mm cl) mm (thF kk) ∧ Own w5 base 31 2 (.slice qw mm cw) mm (thF kk) ∧ Own w5 base 31 2 (.slice q5 (mm + 64) c5) (mm + 64) (thF (gk kk mm (1000000 + (i : Int)))) ∧ (∀ b, (Value.slice q5 (mm + 64) c5).ownBlock = some b → (Value.slice ql mm cl).ownBlock = some b ∨ wr.heap.size ≤ b) ∧ wr.heap.size ≤ w5.heap.size) := fun w' hw' => (grownC (1000000 + (i : Int)) base (.slice ql mm cl) mm kk w' (o1.later hw') (by omega) (Nat.le_trans hbw hw'.size)).mono fun e w5 ⟨v', h1, h2, h3, h4, h5⟩ => by
            obtain ⟨q5, c5, rfl⟩ : ∃ q5 c5, v' = .slice q5 (mm + 64) c5 := by
              rcases h2.form with ⟨_, h8⟩ | ⟨g6, c6, h8, _⟩
              · omega
              · exact ⟨_, _, h8⟩
            have sx' := sx.later hw'
            have o1' := o1.later hw'
            have o2' := o2.later hw'
            refine ⟨q5, c5, h1, sx'.grown h3 (fun j hj => ⟨fun e => o1'.apart sx'.p (by decide) j hj e.symm, fun a ha e => (sx'.o a ha).1.clash o1' (by decide) e hj, fun o ho => by cases ho⟩), Nat.le_trans (Nat.le_trans hbw hw'.size) h3.4, (hbr.trans (hw'.mono hbw)).trans ((Below.refl base w').grown h3 (Nat.le_trans hbw hw'.size) fun j hj => (o1.lt j hj).1), (en.later hw').grow2 hlt (by rw [hvl]; exact h3) ⟨mm, kk, hmm, by rw [hvl]; exact h5, by rw [hvw]; exact o2'⟩, h5, o2'.keptBy h3 (fun j hj e => hex j e hj), h2, fun b hb => ?_, Nat.le_trans hw'.size h3.4⟩
            rcases h4 b hb with h8 | h8
            · exact .inl h8
            · exact .inr (Nat.le_trans hw'.size h8)
          have HEX : Hid (∀ b, (Value.slice ql mm cl).ownBlock = some b ∨ wr.heap.size ≤ b → (Value.slice qw mm cw).ownBlock ≠ some b) := fun b hb e => by
            rcases hb with hb | hb
            · exact hex b hb e
            · have := (o2.lt b e).2; omega
          have HLOW : Hid (∀ b, wr.heap.size ≤ b → ∀ j, j < N2 → (F 2 j).ownBlock ≠ some b ∧ (F 3 j).ownBlock ≠ some b) := fun b hb j hj => en.low hb j hj
          have HMR : Hid (mr ≤ 500000 ∧ mr = m + 4 * i) := ⟨by omega, hmr⟩
          have HI := mhid (And.intro hlt (And.intro hvl (And.intro hvw (And.intro hmm (And.intro hn1 (And.intro hbase hn2))))))
          have HV := mhid (And.intro hv2 (And.intro hv3 (And.intro hf2 (And.intro hf3 (And.intro hn3 trivial)))))
          clear oc o1 o2 od en sx hbr hlt hi hM hmm hvl hvw hv2 hv3 hf2 hf3 hn2 hn3 hn1 hmr hex hbw hbase hm9
          go_upto_region 12 with fail
          go_region_law (first | (refine step_grown rfl 79 81 rfl (.slice ql mm cl) (.int .i64 (1000000 + (i : Int))) (by simp [Act.eval, Act.put]) (by simp [Act.eval, Act.put]) _ (HG1.out _ (drewB _)) ?_; rintro e9 w5 ⟨q5, c5, rfl, s5, b5, w5b, n5, l5, p5, g5, a5, z5⟩; refine ⟨_, rfl, ?_⟩; have S5 := mhid (And.intro s5 (And.intro b5 (And.intro w5b (And.intro n5 (And.intro l5 (And.intro p5 (And.intro g5 (And.intro a5 z5)))))))); obtain ⟨hn0, hO, hAF⟩ := one_row s5 b5 0 (by decide) (by have h8 := HMR.out; omega) (.slice q5 (mm + 64) c5) rfl; obtain ⟨x0, x1, x2, x3⟩ := s5.cells; have lsb := lt_of_block s5.p; have T5 := mhid (And.intro hn0 (And.intro hO hAF)); clear s5 b5 w5b n5 l5 p5 g5 a5 z5 hn0 hO hAF) | (refine step_app9 rfl (.tmp 72) (.tmp 83) 63 rfl base 37 iS _ 1 24 Try.underlying63 hS1 hS2 hS3 hS4 rfl (by decide) (Vr 0) (nr 0) _ (by simp [Act.eval, Act.put]) T5.out.2.1 ⟨w5.heap.size, 0, none⟩ 1 1 [.slice q5 (mm + 64) c5] (by simp [Act.eval, Act.put]) rfl (cells_new9 w5 [.slice q5 (mm + 64) c5] 37) (by simp [Value.oneCell']) (by have h8 := T5.out.1; have h9 := HMR.out; unfold maxLen; omega) (by have h8 := T5.out.1; have h9 := HMR.out; omega) (by rw [World.size_alloc]; exact Nat.le_succ_of_le S5.out.2.1) ?_; intro v6 w6 hown' hgrow hat; obtain ⟨⟨q6, c6, rfl⟩, n0', nf', m6, b6, k6⟩ := T5.out.2.2 v6 w6 hown' hgrow hat; have HF6 := mhid (And.intro m6 (And.intro b6 (And.intro (S5.out.2.2.2.1.map k6) (And.intro (k6 S5.out.2.2.2.2.1) (And.intro (k6 S5.out.2.2.2.2.2.1) (k6 S5.out.2.2.2.2.2.2.1)))))); clear m6 b6 k6 hown' hgrow hat))
          all_goals (
            clear c0 c1 c2 c3 y0 y1
            clear x0 x1 x2 x3 n0' nf' lsb
            obtain ⟨w8, hw8⟩ : ∃ w8, w6.setCell ⟨sb, 0, none⟩ (.slice q6 (nr 0 + 1) c6) = w8 := ⟨_, rfl⟩
            rw [hw8] at HF6 ⊢
            have s8 := HF6.out.1
            obtain ⟨c0, c1, c2, c3⟩ := s8.cells
            have c3' : w8.cell? ⟨sb, 3, none⟩ = some (.slice (some ⟨gd, 0, none⟩) N2 cd) := by rw [c3]; show some (Vr 3) = _; rw [HV.out.2.1, HV3.out]
            have od8 := (s8.o 3 (by decide)).1
            have od9 : Own w8 base 37 1 (.slice (some ⟨gd, 0, none⟩) N2 cd) N2 (F 3) := by
              have h8 : Own w8 base 37 1 (Vr 3) (nr 3) (Fr 3) := od8
              rw [HV.out.2.1, HV3.out, HV.out.2.2.2.1, HV.out.2.2.2.2.1] at h8
              exact h8
            have y1 := od9.cell (j := i) (by have h8 := HI.out.1; omega)
            rw [HI.out.2.2.1] at y1
            have hb8 : base ≤ w8.heap.size := Nat.le_trans S5.out.2.1 HF6.out.2.1.size
            have hbW8 : Below base W w8 := S5.out.2.2.1.trans HF6.out.2.1
            have hz8 : wr.heap.size ≤ w8.heap.size := Nat.le_trans S5.out.2.2.2.2.2.2.2.2 HF6.out.2.1.size
            have hl8 := HF6.out.2.2.2.1
            have how8 := HF6.out.2.2.2.2.1
            have hg8 := HF6.out.2.2.2.2.2
            have HG2 : Hid (∀ w', Below w8.heap.size w8 w' → Calls Try.prog 59 #[.slice qw mm cw, .int .i64 (1000000 + (i : Int))] w' fun e w5 => ∃ q9 c9, e = .returned (.slice q9 (mm + 64) c9) ∧ SX No w5 base sb (setV Vr 0 (.slice q6 (nr 0 + 1) c6)) (st1 nr 0 (nr 0 + 1)) (st1 Fr 0 (apF (Fr 0) (nr 0) [.slice q5 (mm + 64) c5])) (mr + 2) ∧ base ≤ w5.heap.size ∧ Below base W w5 ∧ EN w5 base N2 (i + 1) (apF (Fr 0) (nr 0) [.slice q5 (mm + 64) c5]) (apF (Fr 1) (nr 1) [.slice q9 (mm + 64) c9]) (F 2) (F 3) (nr 0 + 1)) := fun w' hw' => (grownC (1000000 + (i : Int)) base (.slice qw mm cw) mm kk w' (how8.later hw') (by have h8 := HI.out.2.2.2.1; omega) (Nat.le_trans hb8 hw'.size)).mono fun e w5 ⟨v', h1, h2, h3, h4, h5⟩ => by
              obtain ⟨q9, c9, rfl⟩ : ∃ q5 c5, v' = .slice q5 (mm + 64) c5 := by
                rcases h2.form with ⟨_, h8⟩ | ⟨g6, c6, h8, _⟩
                · omega
                · exact ⟨_, _, h8⟩
              have how' := how8.later hw'
              have hs' := s8.later hw'
              have en8 := (HF6.out.2.2.1.later hw').grow3 HI.out.1 (by rw [HI.out.2.2.1]; exact h3) ⟨mm, kk, HI.out.2.2.2.1, by rw [HI.out.2.1]; exact hl8.later hw', by rw [HI.out.2.2.1]; exact h5⟩
              refine ⟨q9, c9, h1, hs'.grown h3 (fun j hj => ⟨fun e => how'.apart hs'.p (by decide) j hj e.symm, fun a ha e => (hs'.o a ha).1.clash how' (by decide) e hj, fun o hFo => by cases hFo⟩), Nat.le_trans (Nat.le_trans hb8 hw'.size) h3.4, (hbW8.trans (hw'.mono hb8)).trans ((Below.refl base w').grown h3 (Nat.le_trans hb8 hw'.size) fun j hj => (how8.lt j hj).1), ?_⟩
              rw [HI.out.2.2.2.2.1]
              refine en8.next HI.out.1 _ _ ⟨mm + 64, _, by have h8 := HI.out.2.2.2.1; omega, (hg8.later hw').keptBy h3 (fun j hj e => HEX.out j (S5.out.2.2.2.2.2.2.2.1 j hj) e), h2⟩ (fun b hb => ?_) (fun b hb => ?_)
              · rcases S5.out.2.2.2.2.2.2.2.1 b hb with h8 | h8
                · exact .inl (by rw [HI.out.2.1]; exact h8)
                · exact .inr fun j hj => HLOW.out b h8 j hj
              · rcases h4 b hb with h8 | h8
                · exact .inl (by rw [HI.out.2.2.1]; exact h8)
                · exact .inr fun j hj => HLOW.out b (Nat.le_trans hz8 (Nat.le_trans hw'.size h8)) j hj
            clear c3
            clear s8 od8 od9 hb8 hbW8 hz8 hl8 how8 hg8 hw8
            go_upto_region 13 with fail
            go_region_law (first | (refine step_grown rfl 98 100 rfl (.slice qw mm cw) (.int .i64 (1000000 + (i : Int))) (by simp [Act.eval, Act.put]) (by simp [Act.eval, Act.put]) _ (HG2.out _ (drewB _)) ?_; rintro e9 w4 ⟨q4, c4, rfl, s4, b4, w4b, n4⟩; refine ⟨_, rfl, ?_⟩; have S4 := mhid (And.intro s4 (And.intro b4 (And.intro w4b n4))); obtain ⟨hn4, hO4, hAF4⟩ := one_row s4 b4 1 (by decide) (by have h8 := HMR.out; omega) (.slice q4 (mm + 64) c4) rfl; obtain ⟨x0, x1, x2, x3⟩ := s4.cells; have lsb := lt_of_block s4.p; have T4 := mhid (And.intro hn4 (And.intro hO4 hAF4)); clear s4 b4 w4b hn4 hO4 hAF4 n4) | (refine step_app9 rfl (.tmp 91) (.tmp 102) 63 rfl base 37 iS _ 1 24 Try.underlying63 hS1 hS2 hS3 hS4 rfl (by decide) (setV Vr 0 (.slice q6 (nr 0 + 1) c6) 1) (st1 nr 0 (nr 0 + 1) 1) _ (by simp [Act.eval, Act.put]) T4.out.2.1 ⟨w4.heap.size, 0, none⟩ 1 1 [.slice q4 (mm + 64) c4] (by simp [Act.eval, Act.put]) rfl (cells_new9 w4 [.slice q4 (mm + 64) c4] 37) (by simp [Value.oneCell']) (by have h8 := T4.out.1; have h9 := HMR.out; unfold maxLen; omega) (by have h8 := T4.out.1; have h9 := HMR.out; omega) (by rw [World.size_alloc]; exact Nat.le_succ_of_le S4.out.2.1) ?_; intro v3 w3 hown' hgrow hat; obtain ⟨⟨q3, c3', rfl⟩, n3', nf3', m3, b3, k3⟩ := T4.out.2.2 v3 w3 hown' hgrow hat; have HF3 := mhid (And.intro m3 (And.intro b3 (S4.out.2.2.2.map k3))); clear m3 b3 k3 hown' hgrow hat))
            all_goals (
              go_wp2_with fail
              refine ⟨⟨i + 1, _, _, _, _, rfl, HI.out.1, ?_, HF3.out.1, ⟨HV.out.1, HV.out.2.1, HV.out.2.2.1, HV.out.2.2.2.1⟩, ⟨HI.out.2.2.2.2.2.2, HV.out.2.2.2.2.1, ?_⟩, HF3.out.2.2, S4.out.2.2.1.trans HF3.out.2.1⟩, hme⟩
              · have h8 := HMR.out.2; omega
              · show nr 1 + 1 = nr 0 + 1
                rw [HI.out.2.2.2.2.1]))
        · have dl : decide ((i : Int) < (N2 : Int)) = false := by simp; omega
          have dln : decide (i < N2) = false := by simp; omega
          have HWH : Hid (∀ w', Below wr.heap.size wr w' → Calls Try.prog 52 #[.pointer (some ⟨sb, 0, none⟩)] w' fun e w9 => e = .returned (.bool true) ∧ Below base W w9) := fun w' hw' => by
            have en' := en.later hw'
            refine (whole_any (sx.later hw') hn1.symm (hn2.trans hn3.symm) en'.pr (fun j hj => ?_) (by omega)).mono fun e w9 ⟨a1, a2⟩ => ⟨a1, (hbr.trans (hw'.mono (Nat.le_trans hbase hbr.size))).trans (a2.mono (Nat.le_trans (Nat.le_trans hbase hbr.size) hw'.size))⟩
            obtain ⟨mm, k, h1, h2, h3⟩ := en'.lt j (by omega)
            rw [hf2, hf3]
            exact ⟨mm, k, by omega, h2, h3⟩
          clear sx en hbr hlt hi hM hv2 hv3 hf2 hf3 hn2 hn3 hn1 hmr hbase hm9
          go_wp2_with (go_at_call 52; (with_reducible refine (HWH.out _ ?_).mono ?_); (first | exact Below.refl _ _ | exact drewB _ | exact below_drewNq _ _ _); rintro e9 w9 ⟨rfl, b9⟩)
          go_ret
          exact ⟨rfl, b9⟩
end Go.Proofs.Ytkfjcbnhohipgaa
