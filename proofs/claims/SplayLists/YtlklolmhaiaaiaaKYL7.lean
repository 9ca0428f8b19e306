import Derived.Test.YtlklolmhaiaaiaaKYLM
import Derived.Deep.RegionLaw
import Derived.Test.YtlklolmhaiaaiaaKYP5
namespace Go.Proofs.Ytlklolmhaiaaiaa
open Go.ChangeShapes Go.WideShapes Go.ChangeAt Go.RowKit
set_option linter.unusedVariables false
set_option linter.unusedSimpArgs false

theorem belowAl (w : World) (o : Obj) : Below w.heap.size w (w.alloc o) := (Below.refl _ w).alloc (Nat.le_refl _) o
theorem belowDAl (w : World) (o : Obj) : Below w.heap.size w (w.drew.alloc o) := (below_drewNq _ w 1).alloc (Nat.le_refl _) o
theorem news_at (w : World) (cs : List Value) (t : TypeId) : ∀ j u, cs[j]? = some u → (w.alloc (.cells cs.toArray t)).cell? ((⟨w.heap.size, 0, none⟩ : Addr).add j) = some u := scells_new w cs t
set_option maxRecDepth 100000 in
set_option maxHeartbeats 4000000 in
theorem marked_any {hb base : Nat} {mk : Int} {nE nD : Nat} {pE pD : Option Addr} {cE cD : Nat} {X : Nat → Ev} {D : Nat → Value} (W : World) (h : W.heap[hb]? = some (.cells #[.slice pE nE cE, .slice none 0 0, .slice pD nD cD, .slice none 0 0, .int .i64 mk] 52 (0, 0))) (hE : EvRow W base (.slice pE nE cE) nE X) (hD : Own W base 3 1 (.slice pD nD cD) nD D) (hn : nE ≤ 8192 ∧ nD ≤ 8192) (hmk : 0 ≤ mk ∧ mk ≤ 7000000000000000000) (hBs : base ≤ W.heap.size) : Calls Try.prog 22 #[.pointer (some ⟨hb, 0, none⟩)] W fun e W' => e = .returned (.tuple #[]) ∧ ∃ pM pN cM cN, L3 W W' base hb mk nE nD (nE + 64) (nD + 64) pE pM pD pN cE cM cD cN := by
  have HBS : Hid (base ≤ W.heap.size) := hBs
  have H : Hid (nE ≤ 8192 ∧ nD ≤ 8192 ∧ 0 ≤ mk ∧ mk ≤ 7000000000000000000) := ⟨hn.1, hn.2, hmk⟩
  have HW : Hid (W.heap[hb]? = some (.cells #[.slice pE nE cE, .slice none 0 0, .slice pD nD cD, .slice none 0 0, .int .i64 mk] 52 (0, 0)) ∧ EvRow W base (.slice pE nE cE) nE X ∧ Own W base 3 1 (.slice pD nD cD) nD D) := ⟨h, hE, hD⟩
  obtain ⟨y0, y1, y2, y3, y4⟩ := c5h h
  clear h hE hD hn hmk hBs
  go_enter Try.func22, Try.ntmps22
  go_wp2_with fail
  go_loopw [10] (fun x wr => ∃ i : Nat, x = .int .i64 (i : Int) ∧ i ≤ nE ∧ wr.heap[hb]? = some (.cells #[.slice pE nE cE, .slice none 0 0, .slice pD nD cD, .slice none 0 0, .int .i64 mk] 52 (0, 0)) ∧ EvRow wr base (.slice pE nE cE) nE (fun k => if k < i then mkE mk k else X k) ∧ Own wr base 3 1 (.slice pD nD cD) nD D ∧ Ch (FP hb (.slice pE nE cE) (.slice pD nD cD)) W wr) (fun x _ => nE - (intOf x).toNat)
  case atStart => exact ⟨0, rfl, Nat.zero_le _, HW.out.1, by simpa using HW.out.2.1, HW.out.2.2, Ch.refl _ _⟩
  case round =>
    obtain ⟨i, rfl, hin, hbk, hrow, hdw, hch⟩ := hrel
    obtain ⟨z0, z1, z2, z3, z4⟩ := c5h hbk
    clear y0 y1 y2 y3 y4
    by_cases hlt : i < nE
    · have d1 : decide ((i : Int) < (nE : Int)) = true := by simp; omega
      have d2 : decide (i < nE) = true := by simp; omega
      have i0 : (0 : Int) ≤ (i : Int) := by omega
      have i1 : (i : Int) < (nE : Int) := by omega
      have HRD : Hid (Own wr base 3 1 (.slice pD nD cD) nD D ∧ Ch (FP hb (.slice pE nE cE) (.slice pD nD cD)) W wr) := ⟨hdw, hch⟩
      clear hdw hch
      obtain ⟨b, c9, hp⟩ := hrow.some (by omega)
      injection hp with hp1 hp2 hp3
      subst hp1
      have HR9 : Hid (EvRow wr base (.slice (some ⟨b, 0, none⟩) nE cE) nE (fun k => if k < i then mkE mk k else X k) ∧ wr.heap[hb]? = some (.cells #[.slice (some ⟨b, 0, none⟩) nE cE, .slice none 0 0, .slice pD nD cD, .slice none 0 0, .int .i64 mk] 52 (0, 0))) := ⟨hrow, hbk⟩
      have HT : Hid (wr.drew.there b (i * 6) 6) := Own.there (HR9.out.1.later (W' := wr.drew) (below_drewNq _ wr 1)) (o := i * 6) (n := 6) (by omega)
      have hcx : ∀ r, r < 6 → wr.cell? ⟨b, i * 6 + r, none⟩ = some (evC (if i < i then mkE mk i else X i) r) := fun r hr => by
        have h9 := Own.cell HR9.out.1 (j := i * 6 + r) (by omega)
        rw [h9]
        show some (evC (if (i * 6 + r) / 6 < i then mkE mk ((i * 6 + r) / 6) else X ((i * 6 + r) / 6)) ((i * 6 + r) % 6)) = _
        rw [show (i * 6 + r) / 6 = i by omega, show (i * 6 + r) % 6 = r by omega]
      obtain ⟨cur, hcur, _⟩ := Own.block HR9.out.1
      have hfz : ∀ k, wr.frozen? ⟨b, k, none⟩ = false := frz hcur
      have f0 := hfz (i * 6)
      have f1 := hfz (i * 6 + 1)
      have f2 := hfz (i * 6 + 2)
      have f3 := hfz (i * 6 + 3)
      have f4 := hfz (i * 6 + 4)
      have f5 := hfz (i * 6 + 5)
      generalize (if i < i then mkE mk i else X i) = X9 at hcx
      have k0 : wr.cell? ⟨b, i * 6, none⟩ = some (.int .u64 X9.t) := hcx 0 (by decide)
      have k1 : wr.cell? ⟨b, i * 6 + 1, none⟩ = some (.int .i64 X9.s) := hcx 1 (by decide)
      have k2 : wr.cell? ⟨b, i * 6 + 2, none⟩ = some (.int .u64 X9.q) := hcx 2 (by decide)
      have k3 : wr.cell? ⟨b, i * 6 + 3, none⟩ = some (.int .i64 X9.d) := hcx 3 (by decide)
      have k4 : wr.cell? ⟨b, i * 6 + 4, none⟩ = some (.int .i64 X9.k) := hcx 4 (by decide)
      have k5 : wr.cell? ⟨b, i * 6 + 5, none⟩ = some (.int .i64 X9.v) := hcx 5 (by decide)
      clear hcx hfz hcur
      have ei : IntKind.i64.wrap ((i : Int) + 1) = ((i + 1 : Nat) : Int) := by have := H.out; rw [IntKind.wrap_i64]; omega
      have hm := meas0 hlt
      clear hrow hbk hp2 hp3 hin z1 z2 z3
      go_wp2_with fail
      go_region
      have hbh : hb ≠ b := fun e => by
        obtain ⟨cur, hcur, _⟩ := Own.block HR9.out.1
        rw [← e, HR9.out.2] at hcur
        injection hcur with hcur
        injection hcur with h1 h2 h3
        exact absurd h2 (by decide)
      have e6 : (((((wr.setCell ⟨b, i * 6, none⟩ (.int .u64 0)).setCell ⟨b, i * 6 + 1, none⟩ (.int .i64 0)).setCell ⟨b, i * 6 + 2, none⟩ (.int .u64 0)).setCell ⟨b, i * 6 + 3, none⟩ (.int .i64 mk)).setCell ⟨b, i * 6 + 4, none⟩ (.int .i64 (i : Int))).setCell ⟨b, i * 6 + 5, none⟩ (.int .i64 5) = wr.setCells b (i * 6) (evL (mkE mk i)) := rfl
      rw [e6]
      have hput := mark_put HR9.out.1
      have hcl : ∀ k, (Value.slice pD nD cD).ownBlock = some k → k ≠ b := fun k hk e => own_clash HR9.out.1 HRD.out.1 (by decide) (e ▸ rfl) hk
      have hdw : Own (wr.setCells b (i * 6) (evL (mkE mk i))) base 3 1 (.slice pD nD cD) nD D := HRD.out.1.far fun k hk => setCells_other b (evL (mkE mk i)) (i * 6) wr k (hcl k hk)
      have hch : Ch (FP hb (.slice (some ⟨b, 0, none⟩) nE cE) (.slice pD nD cD)) W (wr.setCells b (i * 6) (evL (mkE mk i))) := HRD.out.2.trans (Ch.sets _ _ _ _ _ (.inr (.inl rfl)))
      have hblk := (setCells_other b (evL (mkE mk i)) (i * 6) wr hb hbh).trans HR9.out.2
      generalize wr.setCells b (i * 6) (evL (mkE mk i)) = w5 at *
      clear hcl
      clear k0 k1 k2 k3 k4 k5 f0 f1 f2 f3 f4 f5 z0 z4 e6 HT
      go_wp2_with fail
      exact ⟨⟨i + 1, rfl, hlt, hblk, hput.later (W' := w5.drew) (below_drewNq _ w5 1), hdw.later (w' := w5.drew) (below_drewNq _ w5 1), hch.trans (Ch.drew _ w5 1)⟩, hm⟩
    · have d1 : decide ((i : Int) < (nE : Int)) = false := by simp; omega
      have d2 : decide (i < nE) = false := by simp; omega
      obtain ⟨w0, hw0⟩ : ∃ w0, w0 = wr := ⟨wr, rfl⟩
      subst hw0
      have H1 : Hid (w0.heap[hb]? = some (.cells #[.slice pE nE cE, .slice none 0 0, .slice pD nD cD, .slice none 0 0, .int .i64 mk] 52 (0, 0)) ∧ EvRow w0 base (.slice pE nE cE) nE (mkE mk) ∧ Own w0 base 3 1 (.slice pD nD cD) nD D ∧ Ch (FP hb (.slice pE nE cE) (.slice pD nD cD)) W w0) := ⟨hbk, hrow.congr rfl (fun k hk => if_pos (by omega)), hdw, hch⟩
      clear hbk hrow hdw hch hin HW hlt
      go_wp2_with fail
      go_loopw [31] (fun x wr => ∃ j : Nat, x = .int .i64 (j : Int) ∧ j ≤ nD ∧ wr.heap[hb]? = some (.cells #[.slice pE nE cE, .slice none 0 0, .slice pD nD cD, .slice none 0 0, .int .i64 mk] 52 (0, 0)) ∧ EvRow wr base (.slice pE nE cE) nE (mkE mk) ∧ Own wr base 3 1 (.slice pD nD cD) nD (fun k => if k < j then .int .i64 (mk + k) else D k) ∧ Ch (FP hb (.slice pE nE cE) (.slice pD nD cD)) W wr) (fun x _ => nD - (intOf x).toNat)
      case atStart => exact ⟨0, rfl, Nat.zero_le _, H1.out.1, H1.out.2.1, by simpa using H1.out.2.2.1, H1.out.2.2.2⟩
      case round =>
        obtain ⟨j, rfl, hjn, hbk, hrow, hdw, hch⟩ := hrel
        obtain ⟨a0, a1, a2, a3, a4⟩ := c5h hbk
        clear z0 z1 z2 z3 z4
        by_cases hlt2 : j < nD
        · have e1 : decide ((j : Int) < (nD : Int)) = true := by simp; omega
          have e2 : decide (j < nD) = true := by simp; omega
          have j0 : (0 : Int) ≤ (j : Int) := by omega
          have j1 : (j : Int) < (nD : Int) := by omega
          obtain ⟨b, c9, hp, hbb⟩ : ∃ b c9, Value.slice pD nD cD = .slice (some ⟨b, 0, none⟩) nD c9 ∧ b < wr.heap.size := by
            rcases hdw.form with ⟨_, h9⟩ | ⟨b, c9, h9, _, h8⟩
            · omega
            · exact ⟨b, c9, h9, h8⟩
          injection hp with hp1 hp2 hp3
          subst hp1
          have x0 : wr.cell? ⟨b, j, none⟩ = some (D j) := by
            have h9 := Own.cell hdw (j := j) (by omega)
            rw [h9]
            exact congrArg some (if_neg (by omega))
          obtain ⟨cur, hcur, _⟩ := Own.block hdw
          have f0 := frz hcur j
          have hbh : hb ≠ b := fun e => own_apart hdw hbk (by decide) b rfl e.symm
          have em : IntKind.i64.wrap (mk + (j : Int)) = mk + (j : Int) := by have := H.out; rw [IntKind.wrap_i64]; omega
          have ej : IntKind.i64.wrap ((j : Int) + 1) = ((j + 1 : Nat) : Int) := by have := H.out; rw [IntKind.wrap_i64]; omega
          have HQ : Hid (wr.heap[hb]? = some (.cells #[.slice pE nE cE, .slice none 0 0, .slice (some ⟨b, 0, none⟩) nD cD, .slice none 0 0, .int .i64 mk] 52 (0, 0)) ∧ EvRow wr base (.slice pE nE cE) nE (mkE mk) ∧ Own wr base 3 1 (.slice (some ⟨b, 0, none⟩) nD cD) nD (fun k => if k < j then .int .i64 (mk + k) else D k) ∧ Ch (FP hb (.slice pE nE cE) (.slice (some ⟨b, 0, none⟩) nD cD)) W wr) := ⟨hbk, hrow, hdw, hch⟩
          have hm := meas0 hlt2
          clear hbk hrow hdw hch hcur hp2 hp3 a0 a1 a3 H1
          go_wp2_with fail
          go_region
          have hput := sink_put HQ.out.2.2.1
          have hcl : ∀ k, (Value.slice pE nE cE).ownBlock = some k → k ≠ b := fun k hk e => own_clash HQ.out.2.1 HQ.out.2.2.1 (by decide) hk (e ▸ rfl)
          have hr5 : EvRow (wr.setCell ⟨b, j, none⟩ (.int .i64 (mk + j))) base (.slice pE nE cE) nE (mkE mk) := Own.far HQ.out.2.1 fun k hk => Below.heap_setCell _ _ _ _ (hcl k hk)
          have hb5 := (Below.heap_setCell wr ⟨b, j, none⟩ (.int .i64 (mk + j)) hb hbh).trans HQ.out.1
          have hc5 : Ch (FP hb (.slice pE nE cE) (.slice (some ⟨b, 0, none⟩) nD cD)) W (wr.setCell ⟨b, j, none⟩ (.int .i64 (mk + j))) := HQ.out.2.2.2.trans (Ch.sets (S := FP hb (.slice pE nE cE) (.slice (some ⟨b, 0, none⟩) nD cD)) wr b j [.int .i64 (mk + j)] (.inr (.inr rfl)))
          generalize wr.setCell ⟨b, j, none⟩ (.int .i64 (mk + j)) = w5 at *
          clear x0 f0 a4 hcl
          go_wp2_with fail
          exact ⟨⟨j + 1, rfl, hlt2, hb5, hr5.later (W' := w5.drew) (below_drewNq _ w5 1), hput.later (w' := w5.drew) (below_drewNq _ w5 1), hc5.trans (Ch.drew _ w5 1)⟩, hm⟩
        · have e1 : decide ((j : Int) < (nD : Int)) = false := by simp; omega
          have e2 : decide (j < nD) = false := by simp; omega
          have H2 : Hid (wr.heap[hb]? = some (.cells #[.slice pE nE cE, .slice none 0 0, .slice pD nD cD, .slice none 0 0, .int .i64 mk] 52 (0, 0)) ∧ EvRow wr base (.slice pE nE cE) nE (mkE mk) ∧ Own wr base 3 1 (.slice pD nD cD) nD (fun k => .int .i64 (mk + k)) ∧ Ch (FP hb (.slice pE nE cE) (.slice pD nD cD)) W wr) := ⟨hbk, hrow, hdw.congr (fun k hk => if_pos (by omega)), hch⟩
          obtain ⟨w1, hw1⟩ : ∃ w1, w1 = wr := ⟨wr, rfl⟩
          subst hw1
          have ff := frz hbk
          have f1 := ff 1
          have hb1 := setCell_block w1 hb 1 (.slice pE nE cE) hbk
          obtain ⟨b0, b1, b2, b3, b4⟩ := c5h (show (w1.setCell ⟨hb, 1, none⟩ (.slice pE nE cE)).heap[hb]? = some (.cells #[.slice pE nE cE, .slice pE nE cE, .slice pD nD cD, .slice none 0 0, .int .i64 mk] 52 (0, 0)) from hb1)
          have ff3 := frz hb1 3
          have HL0 : Hid (L3 W ((w1.setCell ⟨hb, 1, none⟩ (.slice pE nE cE)).setCell ⟨hb, 3, none⟩ (.slice pD nD cD)) base hb mk nE nD nE nD pE pE pD pD cE cE cD cD) := L3.init H2.out.1 H2.out.2.1 H2.out.2.2.1 H2.out.2.2.2
          clear ff hb1 hbk hrow hdw hch hjn hlt2 H1
          go_wp2_with fail
          generalize hw2 : ((w1.setCell ⟨hb, 1, none⟩ (.slice pE nE cE)).setCell ⟨hb, 3, none⟩ (.slice pD nD cD)) = w2 at *
          clear a0 a1 a2 a3 a4 b0 b1 b2 b3 b4 f1 ff3 hw2
          go_loopw [4] (fun x wr => ∃ k mE mD : Nat, x = .int .i64 (k : Int) ∧ k ≤ 64 ∧ mE = nE + k ∧ mD = nD + k ∧ ∃ pM pN cM cN, L3 W wr base hb mk nE nD mE mD pE pM pD pN cE cM cD cN) (fun x _ => 64 - (intOf x).toNat)
          case atStart => exact ⟨0, nE, nD, rfl, Nat.zero_le _, rfl, rfl, pE, pD, cE, cD, HL0.out⟩
          case round =>
            obtain ⟨k, mE, mD, rfl, hk, hmE, hmD, pM, pN, cM, cN, hL⟩ := hrel
            have HL : Hid (L3 W wr base hb mk nE nD mE mD pE pM pD pN cE cM cD cN ∧ mE = nE + k ∧ mD = nD + k ∧ W.heap.size ≤ wr.heap.size) := ⟨hL, hmE, hmD, hL.ch.size⟩
            by_cases hlt3 : k < 64
            · have g1 : decide ((k : Int) < 64) = true := by simp; omega
              have ek : IntKind.i64.wrap ((k : Int) + 1) = ((k + 1 : Nat) : Int) := by rw [IntKind.wrap_i64]; omega
              have en : IntKind.i64.wrap (-mk) = -mk := by have := H.out; rw [IntKind.wrap_i64]; omega
              have hm : 64 - (intOf (.int .i64 ((k : Int) + 1))).toNat < 64 - (intOf (.int .i64 (k : Int))).toNat := meas0 hlt3
              obtain ⟨z0, z1, z2, z3, z4⟩ := c5h hL.blk
              obtain ⟨i6, hi6, ha6, hb6, hc6⟩ := qinfo infoEV
              obtain ⟨i1, hi1, ha1, hb1, hc1⟩ := qinfo infoI1
              have hlb := lt_of_block hL.blk
              have q1 : mE + 1 ≤ maxLen := by have := H.out; unfold maxLen; omega
              have q2 : (mE + 1) * 48 ≤ 140737488355328 := by have := H.out; omega
              have q3 : mD + 1 ≤ maxLen := by have := H.out; unfold maxLen; omega
              have q4 : (mD + 1) * 8 ≤ 140737488355328 := by have := H.out; omega
              have hLA := hL.later (belowDAl wr (.cells #[.int .u64 0, .int .i64 0, .int .u64 0, .int .i64 mk, .int .i64 (-1), .int .i64 0] 64))
              have kA : (wr.drew.alloc (.cells #[.int .u64 0, .int .i64 0, .int .u64 0, .int .i64 mk, .int .i64 (-1), .int .i64 0] 64)).cell? ⟨hb, 1, none⟩ = some (.slice pM mE cM) := (c5h hLA.blk).2.1
              have kB : (wr.alloc (.cells #[.int .u64 0, .int .i64 0, .int .u64 0, .int .i64 mk, .int .i64 (-1), .int .i64 0] 64)).cell? ⟨hb, 1, none⟩ = some (.slice pM mE cM) := (c5h (hL.later (belowAl wr _)).blk).2.1
              have HA : Hid (L3 W (wr.drew.alloc (.cells #[.int .u64 0, .int .i64 0, .int .u64 0, .int .i64 mk, .int .i64 (-1), .int .i64 0] 64)) base hb mk nE nD mE mD pE pM pD pN cE cM cD cN ∧ W.heap.size ≤ (wr.drew.alloc (.cells #[.int .u64 0, .int .i64 0, .int .u64 0, .int .i64 mk, .int .i64 (-1), .int .i64 0] 64)).heap.size) := ⟨hLA, hLA.ch.size⟩
              have hN : Hid (∀ j u, (evL ⟨0, 0, 0, mk, -1, 0⟩)[j]? = some u → (wr.drew.alloc (.cells #[.int .u64 0, .int .i64 0, .int .u64 0, .int .i64 mk, .int .i64 (-1), .int .i64 0] 64)).cell? ((⟨wr.heap.size, 0, none⟩ : Addr).add j) = some u) := news_at wr.drew (evL ⟨0, 0, 0, mk, -1, 0⟩) 64
              clear hL hLA hmE hmD
              go_upto_region 15 with fail
              go_region_law ((refine step_appK rfl (.tmp 69) (.tmp 75) 27 rfl base 64 i6 _ 6 48 Try.underlying27 hi6 ha6 hb6 hc6 rfl (by decide) (.slice pM mE cM) mE _ (by simp [Act.eval]) HA.out.1.e.own2 ⟨wr.heap.size, 0, none⟩ 1 1 (by decide) (evL ⟨0, 0, 0, mk, -1, 0⟩) (by simp [Act.eval]) rfl hN.out (by simp [evL, Value.oneCell']) q1 q2 (Nat.le_trans HBS.out HA.out.2) ?_; intro v' w6 hown' hak; obtain ⟨q, c9, rfl, hk6, hL6⟩ := HA.out.1.appE HA.out.2 hak hown'; have n1 : w6.cell? ⟨hb, 1, none⟩ = some (.slice pM mE cM) := (World.cell?_of_block hk6).trans kA; have nfz : w6.frozen? ⟨hb, 1, none⟩ = false := frz (hk6.trans HA.out.1.blk) 1))
              all_goals
                generalize hw7 : w6.setCell ⟨hb, 1, none⟩ (.slice q (mE + 1) c9) = w7 at *
                have HL7 : Hid (L3 W w7 base hb mk nE nD (mE + 1) mD pE q pD pN cE c9 cD cN ∧ W.heap.size ≤ w7.heap.size) := ⟨hL6, hL6.ch.size⟩
                obtain ⟨y0, y1, y2, y3, y4⟩ := c5h hL6.blk
                have hLA7 := hL6.later (belowDAl w7 (.cells #[.int .i64 (-mk)] 3))
                have kA7 : (w7.drew.alloc (.cells #[.int .i64 (-mk)] 3)).cell? ⟨hb, 3, none⟩ = some (.slice pN mD cN) := (c5h hLA7.blk).2.2.2.1
                have kB7 : (w7.alloc (.cells #[.int .i64 (-mk)] 3)).cell? ⟨hb, 3, none⟩ = some (.slice pN mD cN) := (c5h (hL6.later (belowAl w7 _)).blk).2.2.2.1
                have HA7 : Hid (L3 W (w7.drew.alloc (.cells #[.int .i64 (-mk)] 3)) base hb mk nE nD (mE + 1) mD pE q pD pN cE c9 cD cN ∧ W.heap.size ≤ (w7.drew.alloc (.cells #[.int .i64 (-mk)] 3)).heap.size) := ⟨hLA7, hLA7.ch.size⟩
                have hN7 : Hid (∀ j u, ([.int .i64 (-mk)] : List Value)[j]? = some u → (w7.drew.alloc (.cells #[.int .i64 (-mk)] 3)).cell? ((⟨w7.heap.size, 0, none⟩ : Addr).add j) = some u) := news_at w7.drew [.int .i64 (-mk)] 3
                have hlb7 := lt_of_block hL6.blk
                clear hL6 hLA7 kA kB n1 nfz z0 z1 z2 z3 z4 hw7 hk6 hown' hak hlb
                go_upto_region 16 with fail
                go_region_law ((refine step_appK rfl (.tmp 83) (.tmp 89) 33 rfl base 3 i1 _ 1 8 Try.underlying33 hi1 ha1 hb1 hc1 rfl (by decide) (.slice pN mD cN) mD _ (by simp [Act.eval]) HA7.out.1.d.own2 ⟨w7.heap.size, 0, none⟩ 1 1 (by decide) [.int .i64 (-mk)] (by simp [Act.eval]) rfl hN7.out (by simp [Value.oneCell']) q3 q4 (Nat.le_trans HBS.out HA7.out.2) ?_; intro v' w8 hown' hak; obtain ⟨q7, c7, rfl, hk8, hL8⟩ := HA7.out.1.appD HA7.out.2 hak hown'; have n3 : w8.cell? ⟨hb, 3, none⟩ = some (.slice pN mD cN) := (World.cell?_of_block hk8).trans kA7; have nfz3 : w8.frozen? ⟨hb, 3, none⟩ = false := frz (hk8.trans HA7.out.1.blk) 3))
                all_goals
                  generalize hw9 : w8.setCell ⟨hb, 3, none⟩ (.slice q7 (mD + 1) c7) = w9 at *
                  have HL9 : Hid (L3 W w9 base hb mk nE nD (mE + 1) (mD + 1) pE q pD q7 cE c9 cD c7) := hL8
                  clear hL8 hw9 n3 nfz3 kA7 kB7 y0 y1 y2 y3 y4 hk8
                  go_wp2_with fail
                  exact ⟨⟨k + 1, mE + 1, mD + 1, rfl, by omega, by have := HL.out; omega, by have := HL.out; omega, q, q7, c9, c7, HL9.out⟩, hm⟩
            · have g1 : decide ((k : Int) < 64) = false := by simp; omega
              have hk64 : k = 64 := by omega
              subst hk64
              subst hmE hmD
              clear hL
              go_wp2_with fail
              go_end0
              exact ⟨rfl, pM, pN, cM, cN, HL.out.1⟩
end Go.Proofs.Ytlklolmhaiaaiaa
namespace Go.Proofs.Ytlklolmhaiaaiaa
open Go.ChangeShapes Go.WideShapes Go.ChangeAt Go.RowKit
set_option linter.unusedVariables false
set_option linter.unusedSimpArgs false

/-! ### frames by place and type -/
def Kp (S : Nat → TypeId → Prop) (W W' : World) : Prop := W.heap.size ≤ W'.heap.size ∧ ∀ (k : Nat) (v : Array Value) (t : TypeId), W.heap[k]? = some (Obj.cells v t (0, 0)) → S k t → W'.heap[k]? = W.heap[k]?
theorem Kp.trans {S : Nat → TypeId → Prop} {a b c : World} (h : Kp S a b) (h' : Kp S b c) : Kp S a c := ⟨Nat.le_trans h.1 h'.1, fun k v t hk hs => (h'.2 k v t ((h.2 k v t hk hs).trans hk) hs).trans (h.2 k v t hk hs)⟩
theorem Kp.mono {S S' : Nat → TypeId → Prop} {a b : World} (h : Kp S a b) (hs : ∀ k t, S' k t → S k t) : Kp S' a b := ⟨h.1, fun k v t hk h9 => h.2 k v t hk (hs k t h9)⟩
theorem Kp.below {S : Nat → TypeId → Prop} {W W' : World} (h : Below W.heap.size W W') : Kp S W W' := ⟨h.size, fun k v t hk _ => h.block k (lt_of_block hk)⟩
theorem Kp.ch {S : Nat → TypeId → Prop} {F : Nat → Prop} {W W' : World} (h : Ch F W W') (hs : ∀ (k : Nat) (v : Array Value) (t : TypeId), W.heap[k]? = some (Obj.cells v t (0, 0)) → S k t → ¬ F k) : Kp S W W' := ⟨h.size, fun k v t hk h9 => h.block k (lt_of_block hk) (hs k v t hk h9)⟩
theorem Own.kp {S : Nat → TypeId → Prop} {W W' : World} {base : Nat} {t : TypeId} {s m : Nat} {v : Value} {F : Nat → Value} (h : Own W base t s v m F) (hk : Kp S W W') (hs : ∀ k, base ≤ k → k < W.heap.size → S k t) : Own W' base t s v m F := h.far fun k e => by
  obtain ⟨cs, hc⟩ := own_typ h e
  exact hk.2 k cs t hc (hs k (h.lt k e).1 (h.lt k e).2)
theorem QI.kp {S : Nat → TypeId → Prop} {W W' : World} {base qb g c n : Nat} {A : Ar} {t : Tr} {fl : List Nat} {root : Nat} {room work : Int} (h : QI W base qb g c n A t fl root room work) (hk : Kp S W W') (hs : ∀ k, S k 58 ∧ S k 67) : QI W' base qb g c n A t fl root room work := by
  obtain ⟨⟨v1, h1⟩, v2, h2⟩ := h.q.typ
  exact h.far (hk.2 _ _ _ h1 (hs _).1) (hk.2 _ _ _ h2 (hs _).2)
theorem RQ.kp {S : Nat → TypeId → Prop} {W W' : World} {qr : Nat} {E : Nat → Ev} {t : Tr} {most sum : Int} (h : RQ W qr E t most sum) (hk : Kp S W W') (hs : ∀ k, S k 82 ∧ S k 105) : RQ W' qr E t most sum := by
  obtain ⟨p, hb, hT⟩ := h
  exact RQ.keep ⟨p, hb, hT⟩ (hk.2 _ _ _ hb (hs _).1) fun k v h9 => hk.2 _ _ _ h9 (hs _).2
/-- what marks may not change: all blocks below B, and all but three types -/
def SM (B : Nat) (k : Nat) (t : TypeId) : Prop := k < B ∨ (t ≠ 52 ∧ t ≠ 64 ∧ t ≠ 3)
/-- what calls of the queues may not change -/
def SC (k : Nat) (t : TypeId) : Prop := t ≠ 58 ∧ t ≠ 67 ∧ t ≠ 82
theorem PR.kpm {W W' : World} {base qb g qr B : Nat} {room wb : Int} (h : PR W base qb g qr room wb) (hk : Kp (SM B) W W') : PR W' base qb g qr room wb := by
  obtain ⟨c, n, A, t, fl, root, work, h1, h2, h3⟩ := h
  exact ⟨c, n, A, t, fl, root, work, h1.kp hk (fun k => ⟨.inr (by decide), .inr (by decide)⟩), h2.kp hk (fun k => ⟨.inr (by decide), .inr (by decide)⟩), h3⟩
theorem PR.kpsc {W W' : World} {base qb g qr : Nat} {room wb : Int} (h : PR W base qb g qr room wb) (hC : Ch (SQ qb g qr) W W') : Kp SC W W' := by
  obtain ⟨c, n, A, t, fl, root, work, h1, h2, h3⟩ := h
  obtain ⟨⟨v1, k1⟩, v2, k2⟩ := h1.q.typ
  obtain ⟨p, hb, hT⟩ := h2
  refine Kp.ch hC fun k v ty hk hs e => ?_
  rcases e with e | e | e
  · subst e; exact hs.1 (typ_absurd hk k1)
  · subst e; exact hs.2.1 (typ_absurd hk k2)
  · subst e; exact hs.2.2 (typ_absurd hk hb)
/-! ### what was handed out -/
structure HB (W : World) (base hb : Nat) (mk : Int) (nE nD : Nat) (pE pD : Option Addr) (cE cD : Nat) (X : Nat → Ev) (D : Nat → Value) : Prop where
  blk : W.heap[hb]? = some (.cells #[.slice pE nE cE, .slice none 0 0, .slice pD nD cD, .slice none 0 0, .int .i64 mk] 52 (0, 0))
  lo : base ≤ hb
  e : EvRow W base (.slice pE nE cE) nE X
  d : Own W base 3 1 (.slice pD nD cD) nD D
  nb : nE ≤ 8192 ∧ nD ≤ 8192
structure HO (W : World) (base hb : Nat) (mk : Int) (nE nD : Nat) (pE pM pD pN : Option Addr) (cE cM cD cN : Nat) : Prop where
  blk : W.heap[hb]? = some (.cells #[.slice pE nE cE, .slice pM (nE + 64) cM, .slice pD nD cD, .slice pN (nD + 64) cN, .int .i64 mk] 52 (0, 0))
  lo : base ≤ hb
  e : Own W base 64 6 (.slice pE nE cE) nE (eF mk)
  m : Own W base 64 6 (.slice pM (nE + 64) cM) (nE + 64) (eG mk nE)
  d : Own W base 3 1 (.slice pD nD cD) nD (dF mk)
  n : Own W base 3 1 (.slice pN (nD + 64) cN) (nD + 64) (dG mk nD)
  mb : 0 ≤ mk ∧ mk ≤ 7000000000000000000
  nb : nE ≤ 8192 ∧ nD ≤ 8192
theorem HO.hr {W : World} {base hb : Nat} {mk : Int} {nE nD : Nat} {pE pM pD pN : Option Addr} {cE cM cD cN : Nat} (h : HO W base hb mk nE nD pE pM pD pN cE cM cD cN) : HR W hb mk nE nD pE pM pD pN cE cM cD cN :=
  ⟨h.blk, evp_of h.e, evp_of h.m, nup_of h.d, nup_of h.n, h.mb, h.nb⟩
theorem HO.kp {S : Nat → TypeId → Prop} {W W' : World} {base hb : Nat} {mk : Int} {nE nD : Nat} {pE pM pD pN : Option Addr} {cE cM cD cN : Nat} (h : HO W base hb mk nE nD pE pM pD pN cE cM cD cN) (hk : Kp S W W') (hs : ∀ k, base ≤ k → k < W.heap.size → S k 52 ∧ S k 64 ∧ S k 3) : HO W' base hb mk nE nD pE pM pD pN cE cM cD cN :=
  ⟨(hk.2 _ _ _ h.blk (hs _ h.lo (lt_of_block h.blk)).1).trans h.blk, h.lo, h.e.kp hk fun k a b => (hs k a b).2.1, h.m.kp hk fun k a b => (hs k a b).2.1, h.d.kp hk fun k a b => (hs k a b).2.2, h.n.kp hk fun k a b => (hs k a b).2.2, h.mb, h.nb⟩
theorem HB.kp {S : Nat → TypeId → Prop} {W W' : World} {base hb : Nat} {mk : Int} {nE nD : Nat} {pE pD : Option Addr} {cE cD : Nat} {X : Nat → Ev} {D : Nat → Value} (h : HB W base hb mk nE nD pE pD cE cD X D) (hk : Kp S W W') (hs : ∀ k, base ≤ k → k < W.heap.size → S k 52 ∧ S k 64 ∧ S k 3) : HB W' base hb mk nE nD pE pD cE cD X D :=
  ⟨(hk.2 _ _ _ h.blk (hs _ h.lo (lt_of_block h.blk)).1).trans h.blk, h.lo, Own.kp h.e hk fun k a b => (hs k a b).2.1, h.d.kp hk fun k a b => (hs k a b).2.2, h.nb⟩
def HD (W : World) (base hb : Nat) : Prop := ∃ (mk : Int) (nE nD : Nat) (pE pM pD pN : Option Addr) (cE cM cD cN : Nat), HO W base hb mk nE nD pE pM pD pN cE cM cD cN
theorem HD.kp {S : Nat → TypeId → Prop} {W W' : World} {base hb : Nat} (h : HD W base hb) (hk : Kp S W W') (hs : ∀ k, base ≤ k → k < W.heap.size → S k 52 ∧ S k 64 ∧ S k 3) : HD W' base hb := by
  obtain ⟨mk, nE, nD, pE, pM, pD, pN, cE, cM, cD, cN, h⟩ := h
  exact ⟨mk, nE, nD, pE, pM, pD, pN, cE, cM, cD, cN, h.kp hk hs⟩
theorem HD.below {W W' : World} {base hb : Nat} (h : HD W base hb) (hB : Below W.heap.size W W') : HD W' base hb := h.kp (S := fun _ _ => True) (Kp.below hB) fun _ _ _ => ⟨trivial, trivial, trivial⟩
theorem HD.lower {W : World} {base base' hb : Nat} (h : HD W base hb) (hB : base' ≤ base) : HD W base' hb := by
  obtain ⟨mk, nE, nD, pE, pM, pD, pN, cE, cM, cD, cN, h⟩ := h
  exact ⟨mk, nE, nD, pE, pM, pD, pN, cE, cM, cD, cN, ⟨h.blk, Nat.le_trans hB h.lo, h.e.lower hB, h.m.lower hB, h.d.lower hB, h.n.lower hB, h.mb, h.nb⟩⟩
theorem HD.lt {W : World} {base hb : Nat} (h : HD W base hb) : hb < W.heap.size := by
  obtain ⟨mk, nE, nD, pE, pM, pD, pN, cE, cM, cD, cN, h⟩ := h
  exact lt_of_block h.blk
theorem L3.ho {W0 W : World} {base hb : Nat} {mk : Int} {nE nD : Nat} {pE pM pD pN : Option Addr} {cE cM cD cN : Nat} (h : L3 W0 W base hb mk nE nD (nE + 64) (nD + 64) pE pM pD pN cE cM cD cN) (hl : base ≤ hb) (hm : 0 ≤ mk ∧ mk ≤ 7000000000000000000) (hn : nE ≤ 8192 ∧ nD ≤ 8192) : HO W base hb mk nE nD pE pM pD pN cE cM cD cN :=
  ⟨h.blk, hl, h.e.own, h.e.own2, h.d.own, h.d.own2, hm, hn⟩
/-- the blocks of one that is to be marked lie apart from another's -/
def Apt (vE vD uE uD : Value) : Prop := (∀ k, vE.ownBlock = some k → uE.ownBlock ≠ some k) ∧ ∀ k, vD.ownBlock = some k → uD.ownBlock ≠ some k
/-- the twin while the other is marked -/
theorem HB.other {W1 W2 : World} {base hb tb : Nat} {mk mt : Int} {nE nD mE mD : Nat} {pE pD qE qD : Option Addr} {cE cD dE dD : Nat} {X Y : Nat → Ev} {D G : Nat → Value} (t : HB W1 base tb mt mE mD qE qD dE dD Y G) (h : HB W1 base hb mk nE nD pE pD cE cD X D) (hC : Ch (FP hb (.slice pE nE cE) (.slice pD nD cD)) W1 W2) (hne : hb ≠ tb) (ha : Apt (.slice pE nE cE) (.slice pD nD cD) (.slice qE mE dE) (.slice qD mD dD)) : HB W2 base tb mt mE mD qE qD dE dD Y G := by
  refine ⟨(hC.block tb (lt_of_block t.blk) ?_).trans t.blk, t.lo, Own.far t.e fun k hk => hC.block k (Own.lt t.e k hk).2 ?_, t.d.far fun k hk => hC.block k (t.d.lt k hk).2 ?_, t.nb⟩
  · rintro (e | e | e)
    · exact hne e.symm
    · exact own_apart h.e t.blk (by decide) _ e rfl
    · exact own_apart h.d t.blk (by decide) _ e rfl
  · rintro (e | e | e)
    · exact own_apart t.e h.blk (by decide) _ hk e
    · exact ha.1 k e hk
    · exact own_clash t.e h.d (by decide) hk e
  · rintro (e | e | e)
    · exact own_apart t.d h.blk (by decide) _ hk e
    · exact own_clash t.d h.e (by decide) hk e
    · exact ha.2 k e hk
/-- the marked one while its twin is marked -/
theorem HO.other {W1 W2 W3 : World} {base hb tb : Nat} {mk mt : Int} {nE nD mE mD : Nat} {pE pM pD pN qE qD : Option Addr} {cE cM cD cN dE dD : Nat} {X Y : Nat → Ev} {D G : Nat → Value} (h : HB W1 base hb mk nE nD pE pD cE cD X D) (t : HB W1 base tb mt mE mD qE qD dE dD Y G) (hL : L3 W1 W2 base hb mk nE nD (nE + 64) (nD + 64) pE pM pD pN cE cM cD cN) (hm : 0 ≤ mk ∧ mk ≤ 7000000000000000000) (hC : Ch (FP tb (.slice qE mE dE) (.slice qD mD dD)) W2 W3) (hne : hb ≠ tb) (ha : Apt (.slice pE nE cE) (.slice pD nD cD) (.slice qE mE dE) (.slice qD mD dD)) : HO W3 base hb mk nE nD pE pM pD pN cE cM cD cN := by
  have ho := hL.ho h.lo hm h.nb
  have t2 := t.other h hL.ch hne ha
  have le : ∀ k, (Value.slice qE mE dE).ownBlock = some k → k < W1.heap.size := fun k hk => (Own.lt t.e k hk).2
  have ld : ∀ k, (Value.slice qD mD dD).ownBlock = some k → k < W1.heap.size := fun k hk => (t.d.lt k hk).2
  refine ⟨(hC.block hb (lt_of_block ho.blk) ?_).trans ho.blk, ho.lo, ho.e.far fun k hk => hC.block k (ho.e.lt k hk).2 ?_, ho.m.far fun k hk => hC.block k (ho.m.lt k hk).2 ?_, ho.d.far fun k hk => hC.block k (ho.d.lt k hk).2 ?_, ho.n.far fun k hk => hC.block k (ho.n.lt k hk).2 ?_, hm, h.nb⟩
  · rintro (e | e | e)
    · exact hne e
    · exact own_apart t2.e ho.blk (by decide) _ e rfl
    · exact own_apart t2.d ho.blk (by decide) _ e rfl
  · rintro (e | e | e)
    · exact own_apart ho.e t2.blk (by decide) _ hk e
    · exact ha.1 k hk e
    · exact own_clash ho.e t2.d (by decide) hk e
  · rintro (e | e | e)
    · exact own_apart ho.m t2.blk (by decide) _ hk e
    · rcases hL.e.rl with ⟨g, c, h1, h2⟩ | h1
      · rw [h2] at hk
        exact ha.1 k (by rw [h1]; exact hk) e
      · have := (h1 k hk).2
        have := le k e
        omega
    · exact own_clash ho.m t2.d (by decide) hk e
  · rintro (e | e | e)
    · exact own_apart ho.d t2.blk (by decide) _ hk e
    · exact own_clash ho.d t2.e (by decide) hk e
    · exact ha.2 k hk e
  · rintro (e | e | e)
    · exact own_apart ho.n t2.blk (by decide) _ hk e
    · exact own_clash ho.n t2.e (by decide) hk e
    · rcases hL.d.rl with ⟨g, c, h1, h2⟩ | h1
      · rw [h2] at hk
        exact ha.2 k (by rw [h1]; exact hk) e
      · have := (h1 k hk).2
        have := ld k e
        omega
/-- marks leave what lies below their base, and other types -/
theorem HB.kpm {W1 W2 : World} {base hb : Nat} {mk : Int} {nE nD : Nat} {pE pD : Option Addr} {cE cD : Nat} {X : Nat → Ev} {D : Nat → Value} (h : HB W1 base hb mk nE nD pE pD cE cD X D) (hC : Ch (FP hb (.slice pE nE cE) (.slice pD nD cD)) W1 W2) : Kp (SM base) W1 W2 := by
  refine Kp.ch hC fun k v ty hk hs e => ?_
  rcases e with e | e | e
  · subst e
    rcases hs with hs | hs
    · have := h.lo; omega
    · exact hs.1 (typ_absurd hk h.blk)
  · rcases hs with hs | hs
    · have := (Own.lt h.e k e).1; omega
    · obtain ⟨cs, h9⟩ := own_typ h.e e
      exact hs.2.1 (typ_absurd hk h9)
  · rcases hs with hs | hs
    · have := (h.d.lt k e).1; omega
    · obtain ⟨cs, h9⟩ := own_typ h.d e
      exact hs.2.2 (typ_absurd hk h9)
/-! ### the two queues, call by call -/
structure PX (W : World) (base qb g qr c n : Nat) (A : Ar) (t : Tr) (fl : List Nat) (root : Nat) (room work : Int) : Prop where
  q : QI W base qb g c n A t fl root room work
  r : RQ W qr A.E t room work
theorem PX.kpm {W W' : World} {base qb g qr c n B : Nat} {A : Ar} {t : Tr} {fl : List Nat} {root : Nat} {room work : Int} (h : PX W base qb g qr c n A t fl root room work) (hk : Kp (SM B) W W') : PX W' base qb g qr c n A t fl root room work :=
  ⟨h.q.kp hk (fun k => ⟨.inr (by decide), .inr (by decide)⟩), h.r.kp hk (fun k => ⟨.inr (by decide), .inr (by decide)⟩)⟩
theorem PX.below {W W' : World} {base qb g qr c n : Nat} {A : Ar} {t : Tr} {fl : List Nat} {root : Nat} {room work : Int} (h : PX W base qb g qr c n A t fl root room work) (hb : Below W.heap.size W W') : PX W' base qb g qr c n A t fl root room work := ⟨h.q.later hb, h.r.later hb⟩
theorem px_list {base qb g qr c n : Nat} {A : Ar} {t : Tr} {fl : List Nat} {root : Nat} {room work : Int} (W : World) (h : PX W base qb g qr c n A t fl root room work) : Calls Try.prog 10 #[.pointer (some ⟨qb, 0, none⟩)] W fun e W' => ∃ b, e = .returned (.slice (some ⟨b, 0, none⟩) t.size t.size) ∧ Own W' W.heap.size 64 6 (.slice (some ⟨b, 0, none⟩) t.size t.size) t.size (evF A.E (t.spots 0)) ∧ PX W' base qb g qr c n A t fl root room work ∧ Ch (S2 qb g) W W' := by
  refine (list_any base qb g c n A _ root _ _ _ t W h.q.q h.q.n1.2.1 h.q.ti h.q.ndT h.q.inT h.q.n1.2.2).mono ?_
  rintro e W1 ⟨b, rfl, ho, hq, hC⟩
  exact ⟨b, rfl, ho, ⟨⟨hq, h.q.ti, h.q.fr, h.q.nd, h.q.inr, h.q.cnt, h.q.z, h.q.nr, h.q.rm, h.q.srt, h.q.wk⟩, h.r.ch h.q.q hC⟩, hC⟩
theorem px_depths {base qb g qr c n : Nat} {A : Ar} {t : Tr} {fl : List Nat} {root : Nat} {room work : Int} (W : World) (h : PX W base qb g qr c n A t fl root room work) : Calls Try.prog 7 #[.pointer (some ⟨qb, 0, none⟩)] W fun e W' => ∃ p cw, e = .returned (.slice p t.size cw) ∧ Own W' W.heap.size 3 1 (.slice p t.size cw) t.size (dpF (t.spots 0)) ∧ PX W' base qb g qr c n A t fl root room work ∧ Ch (S2 qb g) W W' := by
  refine (depths_any base qb g c n A _ root _ _ _ t W h.q.q h.q.n1.2.1 h.q.ti h.q.ndT h.q.inT h.q.n1.2.2).mono ?_
  rintro e W1 ⟨gw, cw, rfl, ho, hq, hC⟩
  exact ⟨gw, cw, rfl, ho, ⟨⟨hq, h.q.ti, h.q.fr, h.q.nd, h.q.inr, h.q.cnt, h.q.z, h.q.nr, h.q.rm, h.q.srt, h.q.wk⟩, h.r.ch h.q.q hC⟩, hC⟩
theorem px_rlist {base qb g qr c n : Nat} {A : Ar} {t : Tr} {fl : List Nat} {root : Nat} {room work : Int} (W : World) (h : PX W base qb g qr c n A t fl root room work) : Calls Try.prog 19 #[.pointer (some ⟨qr, 0, none⟩)] W fun e W' => ∃ p cw, e = .returned (.slice p t.size cw) ∧ XAt W' p t.size (evF A.E (t.spots 0)) ∧ Below W.heap.size W W' := by
  refine (rlist_any W h.r h.q.n1.2.2).mono ?_
  rintro e2 W3 ⟨v, rfl, ho3, hb3⟩
  obtain ⟨gw, cw, hv, _⟩ := own_slice8 ho3
  subst hv
  exact ⟨gw, cw, rfl, own_xat ho3, hb3⟩
theorem px_rdepths {base qb g qr c n : Nat} {A : Ar} {t : Tr} {fl : List Nat} {root : Nat} {room work : Int} (W : World) (h : PX W base qb g qr c n A t fl root room work) : Calls Try.prog 21 #[.pointer (some ⟨qr, 0, none⟩)] W fun e W' => ∃ p cw, e = .returned (.slice p t.size cw) ∧ KAt W' p t.size (fun i => (((t.spots 0).getD i (0, 0)).2 : Int)) ∧ Below W.heap.size W W' := by
  refine (rdepths_any W h.r h.q.n1.2.2).mono ?_
  rintro e2 W3 ⟨v, rfl, ho3, hb3⟩
  obtain ⟨gw, cw, hv, _⟩ := own_slice8 ho3
  subst hv
  exact ⟨gw, cw, rfl, own_kat ho3, hb3⟩
theorem px_split {base qb g qr c n : Nat} {A : Ar} {t : Tr} {fl : List Nat} {root : Nat} {room work : Int} (u : Int) (W : World) (h : PX W base qb g qr c n A t fl root room work) (hwb : work ≤ 4611686018427000000 - 16384) : Calls Try.prog 17 #[.pointer (some ⟨qb, 0, none⟩), .int .u64 u] W fun e W1 => ∃ (b m : Nat) (X : Nat → Ev), e = .returned (.slice (some ⟨b, 0, none⟩) m m) ∧ m ≤ 8192 ∧ EvSh m (fun j => evC (X (j / 6)) (j % 6)) ∧ EvRow W1 W.heap.size (.slice (some ⟨b, 0, none⟩) m m) m X ∧ Ch (S2 qb g) W W1 ∧
    ∀ (W2 : World) (B : Nat), Kp (SM B) W1 W2 → Calls Try.prog 18 #[.pointer (some ⟨qr, 0, none⟩), .int .u64 u] W2 fun e2 W3 => ∃ p2 c2, e2 = .returned (.slice p2 m c2) ∧ XAt W3 p2 m (fun j => evC (X (j / 6)) (j % 6)) ∧ PR W3 base qb g qr room (work + 16384) ∧ Ch (S1 qr) W2 W3 := by
  have h1 := h.q
  have h2 := h.r
  have hwk := h1.wk
  have hk9 : (openT (sdT u A.E) t).k ≤ 8192 := by have := openT_k _ (side_sdT u A.E) t.size t (Nat.le_refl _); have := h1.n1; omega
  have hsz := open_sizes (side_sdT u A.E) t.size t (Nat.le_refl _)
  have hn1 := h1.n1
  refine (split_any base qb g c n A t fl root room work u W h1 (by omega)).mono ?_
  rintro e W1 ⟨b, A', fl', root', rfl, ho, hq, hE, hC⟩
  have hr1 := h2.ch h1.q hC
  refine ⟨b, (openT (sdT u A.E) t).b.size, fun i => A.E (((openT (sdT u A.E) t).b.spots 0).getD i (0, 0)).1, rfl, by omega, evF_sh _ _ _, ho, hC, fun W2 B hk => ?_⟩
  have hr2 := hr1.kp hk (fun k => ⟨.inr (by decide), .inr (by decide)⟩)
  refine (rsplit_any u W2 hr2 h1.n1.2.2 h1.neT ⟨hwk, by omega⟩).mono ?_
  rintro e2 W3 ⟨v, rfl, ho3, hr3, hC3⟩
  obtain ⟨gw, cw, hv, _⟩ := own_slice8 ho3
  subst hv
  exact ⟨_, _, rfl, own_xat ho3, ⟨c, n, A', _, fl', root', _, (hq.kp hk (fun k => ⟨.inr (by decide), .inr (by decide)⟩)).ch1 hr2 hC3, hr3.ps hE, by omega⟩, hC3⟩
/-! ### fields laid -/
theorem HB.setE {W : World} {base hb : Nat} {mk : Int} {nE nD m c : Nat} {pE pD p : Option Addr} {cE cD : Nat} {X Y : Nat → Ev} {D : Nat → Value} (h : HB W base hb mk nE nD pE pD cE cD X D) (ho : EvRow W base (.slice p m c) m Y) (hm : m ≤ 8192) : HB (W.setCell ⟨hb, 0, none⟩ (.slice p m c)) base hb mk m nD p pD c cD Y D :=
  ⟨setCell_block W hb 0 (.slice p m c) h.blk, h.lo, Own.far ho fun k hk => Below.heap_setCell _ _ _ _ (own_apart ho h.blk (by decide) k hk), h.d.far fun k hk => Below.heap_setCell _ _ _ _ (own_apart h.d h.blk (by decide) k hk), ⟨hm, h.nb.2⟩⟩
theorem HB.setD {W : World} {base hb : Nat} {mk : Int} {nE nD m c : Nat} {pE pD p : Option Addr} {cE cD : Nat} {X : Nat → Ev} {D G : Nat → Value} (h : HB W base hb mk nE nD pE pD cE cD X D) (ho : Own W base 3 1 (.slice p m c) m G) (hm : m ≤ 8192) : HB (W.setCell ⟨hb, 2, none⟩ (.slice p m c)) base hb mk nE m pE p cE c X G :=
  ⟨setCell_block W hb 2 (.slice p m c) h.blk, h.lo, Own.far h.e fun k hk => Below.heap_setCell _ _ _ _ (own_apart h.e h.blk (by decide) k hk), ho.far fun k hk => Below.heap_setCell _ _ _ _ (own_apart ho h.blk (by decide) k hk), ⟨h.nb.1, hm⟩⟩
theorem HB.set_other {W : World} {base hb tb k9 : Nat} {v : Value} {mk mt : Int} {nE nD mE mD : Nat} {pE pD qE qD : Option Addr} {cE cD dE dD : Nat} {X Y : Nat → Ev} {D G : Nat → Value} (t : HB W base tb mt mE mD qE qD dE dD Y G) (h : HB W base hb mk nE nD pE pD cE cD X D) (hne : hb ≠ tb) : HB (W.setCell ⟨hb, k9, none⟩ v) base tb mt mE mD qE qD dE dD Y G :=
  ⟨(Below.heap_setCell _ _ _ _ fun e => hne e.symm).trans t.blk, t.lo, Own.far t.e fun k hk => Below.heap_setCell _ _ _ _ (own_apart t.e h.blk (by decide) k hk), t.d.far fun k hk => Below.heap_setCell _ _ _ _ (own_apart t.d h.blk (by decide) k hk), t.nb⟩
theorem HB.set_kpm {W : World} {base hb k9 : Nat} {v : Value} {mk : Int} {nE nD : Nat} {pE pD : Option Addr} {cE cD : Nat} {X : Nat → Ev} {D : Nat → Value} (h : HB W base hb mk nE nD pE pD cE cD X D) : Kp (SM base) W (W.setCell ⟨hb, k9, none⟩ v) :=
  ⟨by simp [World.setCell], fun k cs t hk hs => Below.heap_setCell _ _ _ _ fun e => by
    have e : k = hb := e
    subst e
    rcases hs with hs | hs
    · have := h.lo; omega
    · exact hs.1 (typ_absurd hk h.blk)⟩
theorem HB.fz {W : World} {base hb : Nat} {mk : Int} {nE nD : Nat} {pE pD : Option Addr} {cE cD : Nat} {X : Nat → Ev} {D : Nat → Value} (h : HB W base hb mk nE nD pE pD cE cD X D) (k : Nat) : W.frozen? ⟨hb, k, none⟩ = false := frz h.blk k
theorem HB.below {W W' : World} {base hb : Nat} {mk : Int} {nE nD : Nat} {pE pD : Option Addr} {cE cD : Nat} {X : Nat → Ev} {D : Nat → Value} (h : HB W base hb mk nE nD pE pD cE cD X D) (hb9 : Below W.heap.size W W') : HB W' base hb mk nE nD pE pD cE cD X D := h.kp (S := fun _ _ => True) (Kp.below hb9) fun _ _ _ => ⟨trivial, trivial, trivial⟩
theorem HB.new {W : World} {base hb : Nat} {mk : Int} (h : W.heap[hb]? = some (.cells #[.slice none 0 0, .slice none 0 0, .slice none 0 0, .slice none 0 0, .int .i64 mk] 52 (0, 0))) (hl : base ≤ hb) : HB W base hb mk 0 0 none none 0 0 (fun _ => ev0) (fun _ => .int .i64 0) :=
  ⟨h, hl, Own.nil0, Own.nil0, ⟨Nat.zero_le _, Nat.zero_le _⟩⟩
theorem sc_three (k : Nat) : SC k 52 ∧ SC k 64 ∧ SC k 3 := ⟨⟨by decide, by decide, by decide⟩, ⟨by decide, by decide, by decide⟩, ⟨by decide, by decide, by decide⟩⟩
/-- behind the switch: what was asked lies in the two structs -/
def CS (W wr : World) (hb tb qb g qr : Nat) (r wb : Int) (o : OpV) (m1 m2 : Int) (wx : World) : Prop :=
  ∃ (g' nE nD mE mD : Nat) (pE pD qE qD : Option Addr) (cE cD dE dD : Nat) (X Y : Nat → Ev) (D G : Nat → Value), PR wx W.heap.size qb g' qr r wb ∧ wx.heap[wr.heap.size]? = some (.cells (opA o) 32 (0, 0)) ∧ HB wx wr.heap.size hb m1 nE nD pE pD cE cD X D ∧ HB wx wr.heap.size tb m2 mE mD qE qD dE dD Y G ∧ Apt (.slice pE nE cE) (.slice pD nD cD) (.slice qE mE dE) (.slice qD mD dD) ∧ Ch (SQ qb g qr) wr wx
end Go.Proofs.Ytlklolmhaiaaiaa
namespace Go.Proofs.Ytlklolmhaiaaiaa
open Go.ChangeShapes Go.WideShapes Go.ChangeAt Go.RowKit
set_option linter.unusedVariables false
set_option linter.unusedSimpArgs false

/-! ### the state within a round -/
theorem Own.chlow {W W' : World} {base : Nat} {t : TypeId} {s m : Nat} {v : Value} {F : Nat → Value} {S : Nat → Prop} (h : Own W base t s v m F) (hC : Ch S W W') (hs : ∀ k, S k → k < base) : Own W' base t s v m F := h.far fun k hk => hC.block k (h.lt k hk).2 fun e => by
  have := hs k e
  have := (h.lt k hk).1
  omega
theorem HB.chlow {W W' : World} {base hb : Nat} {mk : Int} {nE nD : Nat} {pE pD : Option Addr} {cE cD : Nat} {X : Nat → Ev} {D : Nat → Value} {S : Nat → Prop} (h : HB W base hb mk nE nD pE pD cE cD X D) (hC : Ch S W W') (hs : ∀ k, S k → k < base) : HB W' base hb mk nE nD pE pD cE cD X D :=
  ⟨(hC.block hb (lt_of_block h.blk) fun e => by have := hs hb e; have := h.lo; omega).trans h.blk, h.lo, Own.chlow h.e hC hs, h.d.chlow hC hs, h.nb⟩
theorem Ch.setNew {S : Nat → Prop} {W w : World} {b k : Nat} {v : Value} (h : Ch S W w) (hb : W.heap.size ≤ b) : Ch S W (w.setCell ⟨b, k, none⟩ v) :=
  ⟨h.os, h.tape, h.output, by have := h.size; simpa [World.setCell] using this, fun j hj hs => (Below.heap_setCell _ _ _ _ (by show j ≠ b; omega)).trans (h.block j hj hs)⟩
/-- all that a round has made by now -/
structure RS (wr : World) (hb tb qb g qr : Nat) (o : OpV) (m1 m2 : Int) (w : World) (nE nD mE mD : Nat) (pE pD qE qD : Option Addr) (cE cD dE dD : Nat) (X Y : Nat → Ev) (D G : Nat → Value) : Prop where
  bx : w.heap[wr.heap.size]? = some (.cells (opA o) 32 (0, 0))
  h : HB w wr.heap.size hb m1 nE nD pE pD cE cD X D
  t : HB w wr.heap.size tb m2 mE mD qE qD dE dD Y G
  ap : Apt (.slice pE nE cE) (.slice pD nD cD) (.slice qE mE dE) (.slice qD mD dD)
  ch : Ch (SQ qb g qr) wr w
  ne : hb ≠ tb
  lo : qb < wr.heap.size ∧ g < wr.heap.size ∧ qr < wr.heap.size
variable {wr w w' : World} {hb tb qb g qr : Nat} {o : OpV} {m1 m2 : Int} {nE nD mE mD : Nat} {pE pD qE qD : Option Addr} {cE cD dE dD : Nat} {X Y : Nat → Ev} {D G : Nat → Value}
theorem RS.sq (s : RS wr hb tb qb g qr o m1 m2 w nE nD mE mD pE pD qE qD cE cD dE dD X Y D G) : ∀ k, SQ qb g qr k → k < wr.heap.size := fun k hk => by
  have := s.lo
  rcases hk with e | e | e <;> omega
theorem RS.call (s : RS wr hb tb qb g qr o m1 m2 w nE nD mE mD pE pD qE qD cE cD dE dD X Y D G) (hC : Ch (SQ qb g qr) w w') : RS wr hb tb qb g qr o m1 m2 w' nE nD mE mD pE pD qE qD cE cD dE dD X Y D G :=
  ⟨(hC.block _ (lt_of_block s.bx) fun e => Nat.lt_irrefl _ (s.sq _ e)).trans s.bx, s.h.chlow hC s.sq, s.t.chlow hC s.sq, s.ap, s.ch.trans hC, s.ne, s.lo⟩
theorem RS.below (s : RS wr hb tb qb g qr o m1 m2 w nE nD mE mD pE pD qE qD cE cD dE dD X Y D G) (hb9 : Below w.heap.size w w') : RS wr hb tb qb g qr o m1 m2 w' nE nD mE mD pE pD qE qD cE cD dE dD X Y D G := s.call (Ch.below hb9)
theorem RS.ne0 (s : RS wr hb tb qb g qr o m1 m2 w nE nD mE mD pE pD qE qD cE cD dE dD X Y D G) : wr.heap.size ≠ hb ∧ wr.heap.size ≠ tb :=
  ⟨fun e => by have h1 := s.bx; rw [e] at h1; exact absurd (typ_absurd h1 s.h.blk) (by decide), fun e => by have h1 := s.bx; rw [e] at h1; exact absurd (typ_absurd h1 s.t.blk) (by decide)⟩
theorem RS.setHE (s : RS wr hb tb qb g qr o m1 m2 w nE nD mE mD pE pD qE qD cE cD dE dD X Y D G) {p : Option Addr} {m c : Nat} {Z : Nat → Ev} (ho : EvRow w wr.heap.size (.slice p m c) m Z) (hm : m ≤ 8192) (ha : ∀ k, (Value.slice p m c).ownBlock = some k → (Value.slice qE mE dE).ownBlock ≠ some k) : RS wr hb tb qb g qr o m1 m2 (w.setCell ⟨hb, 0, none⟩ (.slice p m c)) m nD mE mD p pD qE qD c cD dE dD Z Y D G :=
  ⟨(Below.heap_setCell _ _ _ _ (by exact s.ne0.1)).trans s.bx, s.h.setE ho hm, s.t.set_other s.h s.ne, ⟨ha, s.ap.2⟩, s.ch.setNew s.h.lo, s.ne, s.lo⟩
theorem RS.setHD (s : RS wr hb tb qb g qr o m1 m2 w nE nD mE mD pE pD qE qD cE cD dE dD X Y D G) {p : Option Addr} {m c : Nat} {Z : Nat → Value} (ho : Own w wr.heap.size 3 1 (.slice p m c) m Z) (hm : m ≤ 8192) (ha : ∀ k, (Value.slice p m c).ownBlock = some k → (Value.slice qD mD dD).ownBlock ≠ some k) : RS wr hb tb qb g qr o m1 m2 (w.setCell ⟨hb, 2, none⟩ (.slice p m c)) nE m mE mD pE p qE qD cE c dE dD X Y Z G :=
  ⟨(Below.heap_setCell _ _ _ _ (by exact s.ne0.1)).trans s.bx, s.h.setD ho hm, s.t.set_other s.h s.ne, ⟨s.ap.1, ha⟩, s.ch.setNew s.h.lo, s.ne, s.lo⟩
theorem RS.setTE (s : RS wr hb tb qb g qr o m1 m2 w nE nD mE mD pE pD qE qD cE cD dE dD X Y D G) {p : Option Addr} {m c : Nat} {Z : Nat → Ev} (ho : EvRow w wr.heap.size (.slice p m c) m Z) (hm : m ≤ 8192) (ha : ∀ k, (Value.slice pE nE cE).ownBlock = some k → (Value.slice p m c).ownBlock ≠ some k) : RS wr hb tb qb g qr o m1 m2 (w.setCell ⟨tb, 0, none⟩ (.slice p m c)) nE nD m mD pE pD p qD cE cD c dD X Z D G :=
  ⟨(Below.heap_setCell _ _ _ _ (by exact s.ne0.2)).trans s.bx, s.h.set_other s.t (fun e => s.ne e.symm), s.t.setE ho hm, ⟨ha, s.ap.2⟩, s.ch.setNew s.t.lo, s.ne, s.lo⟩
theorem RS.setTD (s : RS wr hb tb qb g qr o m1 m2 w nE nD mE mD pE pD qE qD cE cD dE dD X Y D G) {p : Option Addr} {m c : Nat} {Z : Nat → Value} (ho : Own w wr.heap.size 3 1 (.slice p m c) m Z) (hm : m ≤ 8192) (ha : ∀ k, (Value.slice pD nD cD).ownBlock = some k → (Value.slice p m c).ownBlock ≠ some k) : RS wr hb tb qb g qr o m1 m2 (w.setCell ⟨tb, 2, none⟩ (.slice p m c)) nE nD mE m pE pD qE p cE cD dE c X Y D Z :=
  ⟨(Below.heap_setCell _ _ _ _ (by exact s.ne0.2)).trans s.bx, s.h.set_other s.t (fun e => s.ne e.symm), s.t.setD ho hm, ⟨s.ap.1, ha⟩, s.ch.setNew s.t.lo, s.ne, s.lo⟩
theorem none_own {k : Nat} {P : Prop} (h : (Value.slice none 0 0).ownBlock = some k) : P := by cases h
theorem none_ne (k : Nat) : (Value.slice none 0 0).ownBlock ≠ some k := fun h => by cases h
theorem new_ne {W W' : World} {base base' : Nat} {t t' : TypeId} {s s' m m' : Nat} {v v' : Value} {F F' : Nat → Value} (h : Own W base t s v m F) (h' : Own W' base' t' s' v' m' F') (hb : W.heap.size ≤ base') : ∀ k, v.ownBlock = some k → v'.ownBlock ≠ some k := fun k h1 h2 => by
  have := (h.lt k h1).2
  have := (h'.lt k h2).1
  omega
theorem RS.cs {W : World} {r wb : Int} (s : RS wr hb tb qb g qr o m1 m2 w nE nD mE mD pE pD qE qD cE cD dE dD X Y D G) {g' : Nat} (hp : PR w W.heap.size qb g' qr r wb) : CS W wr hb tb qb g qr r wb o m1 m2 w :=
  ⟨g', nE, nD, mE, mD, pE, pD, qE, qD, cE, cD, dE, dD, X, Y, D, G, hp, s.bx, s.h, s.t, s.ap, s.ch⟩
/-- setting a field of the round's own leaves the queues -/
theorem RS.pxH (s : RS wr hb tb qb g qr o m1 m2 w nE nD mE mD pE pD qE qD cE cD dE dD X Y D G) {base c n : Nat} {A : Ar} {t : Tr} {fl : List Nat} {root : Nat} {room work : Int} (h : PX w base qb g qr c n A t fl root room work) (k : Nat) (v : Value) : PX (w.setCell ⟨hb, k, none⟩ v) base qb g qr c n A t fl root room work := h.kpm s.h.set_kpm
theorem RS.pxT (s : RS wr hb tb qb g qr o m1 m2 w nE nD mE mD pE pD qE qD cE cD dE dD X Y D G) {base c n : Nat} {A : Ar} {t : Tr} {fl : List Nat} {root : Nat} {room work : Int} (h : PX w base qb g qr c n A t fl root room work) (k : Nat) (v : Value) : PX (w.setCell ⟨tb, k, none⟩ v) base qb g qr c n A t fl root room work := h.kpm s.t.set_kpm
theorem RS.kH (s : RS wr hb tb qb g qr o m1 m2 w nE nD mE mD pE pD qE qD cE cD dE dD X Y D G) : w.cell? ⟨hb, 0, none⟩ = some (.slice pE nE cE) ∧ w.cell? ⟨hb, 2, none⟩ = some (.slice pD nD cD) ∧ w.frozen? ⟨hb, 0, none⟩ = false ∧ w.frozen? ⟨hb, 2, none⟩ = false := by
  obtain ⟨z0, z1, z2, z3, z4⟩ := c5h s.h.blk
  exact ⟨z0, z2, s.h.fz 0, s.h.fz 2⟩
theorem RS.kT (s : RS wr hb tb qb g qr o m1 m2 w nE nD mE mD pE pD qE qD cE cD dE dD X Y D G) : w.cell? ⟨tb, 0, none⟩ = some (.slice qE mE dE) ∧ w.cell? ⟨tb, 2, none⟩ = some (.slice qD mD dD) ∧ w.frozen? ⟨tb, 0, none⟩ = false ∧ w.frozen? ⟨tb, 2, none⟩ = false := by
  obtain ⟨z0, z1, z2, z3, z4⟩ := c5h s.t.blk
  exact ⟨z0, z2, s.t.fz 0, s.t.fz 2⟩
theorem PX.pr {W : World} {base qb g qr c n : Nat} {A : Ar} {t : Tr} {fl : List Nat} {root : Nat} {room work wb : Int} (h : PX W base qb g qr c n A t fl root room work) (hw : work ≤ wb) : PR W base qb g qr room wb := ⟨c, n, A, t, fl, root, work, h.q, h.r, hw⟩
theorem own_le {W : World} {base b m c : Nat} {t : TypeId} {s : Nat} {F : Nat → Value} (h : Own W base t s (.slice (some ⟨b, 0, none⟩) m c) m F) : base ≤ b := (h.lt b rfl).1
theorem Kp.grown {S : Nat → TypeId → Prop} {W W' : World} {base : Nat} {t : TypeId} {s m : Nat} {v : Value} {F : Nat → Value} (h : Own W base t s v m F) (hg : W.grownBy W' v.ownBlock) (hs : ∀ k, ¬ S k t) : Kp S W W' :=
  ⟨hg.size, fun k cs ty hk hS => hg.block k (lt_of_block hk) fun e => by
    obtain ⟨cs', h2⟩ := own_typ h e.symm
    have h3 := typ_absurd hk h2
    subst h3
    exact hs k hS⟩
theorem PR.kp {S : Nat → TypeId → Prop} {W W' : World} {base qb g qr : Nat} {room wb : Int} (h : PR W base qb g qr room wb) (hk : Kp S W W') (hs : ∀ k, S k 58 ∧ S k 67 ∧ S k 82 ∧ S k 105) : PR W' base qb g qr room wb := by
  obtain ⟨c, n, A, t, fl, root, work, h1, h2, h3⟩ := h
  exact ⟨c, n, A, t, fl, root, work, h1.kp hk (fun k => ⟨(hs k).1, (hs k).2.1⟩), h2.kp hk (fun k => ⟨(hs k).2.2.1, (hs k).2.2.2⟩), h3⟩
theorem infoPH : (Try.prog.info? 50).map (fun i => (i.zero, i.size, i.bytes)) = some (some (.pointer none), 1, 8) := by kernel_rfl
def hs2 (M : Nat) (Hs : Nat → Nat) (a b : Nat) (k : Nat) : Nat := if k < M then Hs k else if k = M then a else b
/-- two pointers appended -/
theorem two_app {W : World} {base M a b : Nat} {v : Value} {Hs : Nat → Nat} (h : W.ownsRow base 50 1 v (M + 2) (cellsF (fun k => .pointer (some ⟨Hs k, 0, none⟩)) (M * 1) ++ [.pointer (some ⟨a, 0, none⟩), .pointer (some ⟨b, 0, none⟩)])) : Own W base 50 1 v (M + 2) (fun k => .pointer (some ⟨hs2 M Hs a b k, 0, none⟩)) := by
  have e6 : [Value.pointer (some ⟨a, 0, none⟩), .pointer (some ⟨b, 0, none⟩)] = cellsF (fun k => if k = 0 then .pointer (some ⟨a, 0, none⟩) else .pointer (some ⟨b, 0, none⟩)) 2 := rfl
  rw [e6, cellsF_append, show M * 1 + 2 = (M + 2) * 1 by omega] at h
  refine Own.congr (F := fun x => if x < M * 1 then .pointer (some ⟨Hs x, 0, none⟩) else if x - M * 1 = 0 then .pointer (some ⟨a, 0, none⟩) else .pointer (some ⟨b, 0, none⟩)) h fun k hk => ?_
  unfold hs2
  by_cases h1 : k < M
  · rw [if_pos (by omega), if_pos h1]
  · rw [if_neg (by omega), if_neg h1]
    by_cases h2 : k = M
    · rw [if_pos (by omega), if_pos h2]
    · rw [if_neg (by omega), if_neg h2]
structure LS (W wr : World) (qb g qr : Nat) (r : Int) (i M : Nat) (p : Option Addr) (c : Nat) (Hs : Nat → Nat) : Prop where
  pr : PR wr W.heap.size qb g qr r (65536 * (i : Int))
  al : Own wr W.heap.size 50 1 (.slice p M c) M (fun k => .pointer (some ⟨Hs k, 0, none⟩))
  hd : ∀ k, k < M → HD wr W.heap.size (Hs k)
  bl : Below W.heap.size W wr
  mm : M ≤ 2 * i
theorem LS.below {W wr w' : World} {qb g qr : Nat} {r : Int} {i M : Nat} {p : Option Addr} {c : Nat} {Hs : Nat → Nat} (h : LS W wr qb g qr r i M p c Hs) (hb : Below wr.heap.size wr w') : LS W w' qb g qr r i M p c Hs :=
  ⟨h.pr.kpm (B := 0) (Kp.below hb), h.al.later hb, fun k hk => (h.hd k hk).below hb, h.bl.trans (hb.mono h.bl.size), h.mm⟩
end Go.Proofs.Ytlklolmhaiaaiaa
