import Derived.Test.YtkgifanlodlilaaVB
import Derived.Test.YtkgifanlodlilaaV7
import Derived.Test.YtkgifanlodlilaaV14
import Derived.BigQuiet
import Derived.Deep.RegionHeld3
import Derived.Deep.RegionLaw
import Derived.Deep.Cut
import Derived.Deep.DeepCutAuto
import Derived.Deep.CutBlock
import Derived.Deep.CutRange
import Derived.Handy
namespace Go.Proofs.Ytkgifanlodlilaa
open Go.ChangeShapes Go.WideShapes Go.ChangeAt Go.RowKit
set_option linter.unusedVariables false
set_option linter.unusedSimpArgs false

/-! ### a plan, plainly, and where its lists lie -/
structure St where
  t : Int
  d : Int
  k : Int
  v : Int
structure Pl where
  ki : Int
  np : Nat
  P : Nat → Pg
  nq : Nat
  pr : Nat → Int
  nw : Nat → Nat
  K : Nat → Nat → Int
  ns : Nat
  S : Nat → St
  sd : Int
  lk : Int
  en : Int
  bu : Int
  fu : Int
structure PlV where
  pp : Option Addr
  pc : Nat
  V : Nat → PgV
  tp : Option Addr
  tc : Nat
  wp : Nat → Option Addr
  wc : Nat → Nat
  sp : Option Addr
  sc : Nat
def PsAt (W : World) (p : Option Addr) (n : Nat) (P : Nat → Pg) (V : Nat → PgV) : Prop :=
  n = 0 ∨ ∃ g o, p = some ⟨g, o, none⟩ ∧ g < W.heap.size ∧ (∀ j, j < n → W.cell? ⟨g, o + j * 4, none⟩ = some (.int .i64 (P j).words) ∧ W.cell? ⟨g, o + j * 4 + 1, none⟩ = some (.int .i64 (P j).locals) ∧ W.cell? ⟨g, o + j * 4 + 2, none⟩ = some (.slice (V j).cp (P j).n (V j).cc) ∧ W.cell? ⟨g, o + j * 4 + 3, none⟩ = some (.slice (V j).ep (P j).m (V j).ec)) ∧ ∀ j, j < n → PAt W (P j) (V j)
theorem PsAt.below {W W' : World} {p : Option Addr} {n : Nat} {P : Nat → Pg} {V : Nat → PgV} (h : PsAt W p n P V) (hb : Below W.heap.size W W') : PsAt W' p n P V := by
  rcases h with h | ⟨g, o, rfl, hl, hc, hp⟩
  · exact .inl h
  · exact .inr ⟨g, o, rfl, Nat.lt_of_lt_of_le hl hb.size, fun j hj => ⟨(cell_below (a := ⟨g, o + j * 4, none⟩) hb hl).trans (hc j hj).1, (cell_below (a := ⟨g, o + j * 4 + 1, none⟩) hb hl).trans (hc j hj).2.1, (cell_below (a := ⟨g, o + j * 4 + 2, none⟩) hb hl).trans (hc j hj).2.2.1, (cell_below (a := ⟨g, o + j * 4 + 3, none⟩) hb hl).trans (hc j hj).2.2.2⟩, fun j hj => (hp j hj).below hb⟩
def TsAt (W : World) (p : Option Addr) (n : Nat) (pr : Nat → Int) (nw : Nat → Nat) (K : Nat → Nat → Int) (wp : Nat → Option Addr) (wc : Nat → Nat) : Prop :=
  n = 0 ∨ ∃ g o, p = some ⟨g, o, none⟩ ∧ g < W.heap.size ∧ (∀ j, j < n → W.cell? ⟨g, o + j * 2, none⟩ = some (.int .i64 (pr j)) ∧ W.cell? ⟨g, o + j * 2 + 1, none⟩ = some (.slice (wp j) (nw j) (wc j))) ∧ ∀ j, j < n → KAt W (wp j) (nw j) (K j)
theorem TsAt.below {W W' : World} {p : Option Addr} {n : Nat} {pr : Nat → Int} {nw : Nat → Nat} {K : Nat → Nat → Int} {wp : Nat → Option Addr} {wc : Nat → Nat} (h : TsAt W p n pr nw K wp wc) (hb : Below W.heap.size W W') : TsAt W' p n pr nw K wp wc := by
  rcases h with h | ⟨g, o, rfl, hl, hc, hp⟩
  · exact .inl h
  · exact .inr ⟨g, o, rfl, Nat.lt_of_lt_of_le hl hb.size, fun j hj => ⟨(cell_below (a := ⟨g, o + j * 2, none⟩) hb hl).trans (hc j hj).1, (cell_below (a := ⟨g, o + j * 2 + 1, none⟩) hb hl).trans (hc j hj).2⟩, fun j hj => (hp j hj).below hb⟩
def StAt (W : World) (p : Option Addr) (n : Nat) (S : Nat → St) : Prop :=
  n = 0 ∨ ∃ g o, p = some ⟨g, o, none⟩ ∧ g < W.heap.size ∧ ∀ j, j < n → W.cell? ⟨g, o + j * 4, none⟩ = some (.int .u64 (S j).t) ∧ W.cell? ⟨g, o + j * 4 + 1, none⟩ = some (.int .i64 (S j).d) ∧ W.cell? ⟨g, o + j * 4 + 2, none⟩ = some (.int .i64 (S j).k) ∧ W.cell? ⟨g, o + j * 4 + 3, none⟩ = some (.int .i64 (S j).v)
theorem StAt.below {W W' : World} {p : Option Addr} {n : Nat} {S : Nat → St} (h : StAt W p n S) (hb : Below W.heap.size W W') : StAt W' p n S := by
  rcases h with h | ⟨g, o, rfl, hl, hc⟩
  · exact .inl h
  · exact .inr ⟨g, o, rfl, Nat.lt_of_lt_of_le hl hb.size, fun j hj => ⟨(cell_below (a := ⟨g, o + j * 4, none⟩) hb hl).trans (hc j hj).1, (cell_below (a := ⟨g, o + j * 4 + 1, none⟩) hb hl).trans (hc j hj).2.1, (cell_below (a := ⟨g, o + j * 4 + 2, none⟩) hb hl).trans (hc j hj).2.2.1, (cell_below (a := ⟨g, o + j * 4 + 3, none⟩) hb hl).trans (hc j hj).2.2.2⟩⟩
/-- a plan lies there -/
structure PlAt (W : World) (p : Pl) (v : PlV) : Prop where
  ps : PsAt W v.pp p.np p.P v.V
  ts : TsAt W v.tp p.nq p.pr p.nw p.K v.wp v.wc
  st : StAt W v.sp p.ns p.S
theorem PlAt.below {W W' : World} {p : Pl} {v : PlV} (h : PlAt W p v) (hb : Below W.heap.size W W') : PlAt W' p v := ⟨h.ps.below hb, h.ts.below hb, h.st.below hb⟩
theorem cells9 {W : World} {b : Nat} {c0 c1 c2 c3 c4 c5 c6 c7 c8 : Value} {t : TypeId} (h : W.heap[b]? = some (.cells #[c0, c1, c2, c3, c4, c5, c6, c7, c8] t (0, 0))) : (W.cell? ⟨b, 0, none⟩ = some c0 ∧ W.cell? ⟨b, 1, none⟩ = some c1 ∧ W.cell? ⟨b, 2, none⟩ = some c2 ∧ W.cell? ⟨b, 3, none⟩ = some c3) ∧ W.cell? ⟨b, 4, none⟩ = some c4 ∧ W.cell? ⟨b, 5, none⟩ = some c5 ∧ W.cell? ⟨b, 6, none⟩ = some c6 ∧ W.cell? ⟨b, 7, none⟩ = some c7 ∧ W.cell? ⟨b, 8, none⟩ = some c8 := by
  refine ⟨⟨?_, ?_, ?_, ?_⟩, ?_, ?_, ?_, ?_, ?_⟩
  all_goals (unfold World.cell?; rw [h]; rfl)
/-! ### which plans are good -/
def GP (p : Pl) : Prop := p.np ≤ 16 ∧ ∀ j, j < p.np → dcode (p.P j) p.ki = 0
def gt1 (p : Pl) (j : Nat) : Prop := 0 ≤ p.pr j ∧ p.pr j < (p.np : Int) ∧ (p.nw j : Int) = (p.P (p.pr j).toNat).words
def GT (p : Pl) : Prop := p.nq ≤ 64 ∧ ∀ j, j < p.nq → gt1 p j
def gs1 (p : Pl) (j : Nat) : Prop := (0 ≤ (p.S j).d ∧ (p.S j).d < (p.nq : Int)) ∧ 0 ≤ (p.S j).k ∧ (p.S j).k < p.ki
def GS (p : Pl) : Prop := p.ns ≤ 256 ∧ ∀ j, j < p.ns → gs1 p j
/-- what Valid tells -/
def VC (p : Pl) (c : Int) : Prop :=
  (p.ki < 0 ∨ 32 < p.ki) ∧ c = 126 ∨ ¬ (p.ki < 0 ∨ 32 < p.ki) ∧ (¬ GP p ∧ c = 120 ∨ GP p ∧ (¬ GT p ∧ c = 121 ∨ GT p ∧ (¬ GS p ∧ c = 122 ∨ GS p ∧ (p.lk = 0 ∧ c = 123 ∨ p.lk ≠ 0 ∧ ((p.bu < 0 ∨ 4096 < p.bu) ∧ c = 124 ∨ ¬ (p.bu < 0 ∨ 4096 < p.bu) ∧ ((p.fu < 1 ∨ 4096 < p.fu) ∧ c = 125 ∨ ¬ (p.fu < 1 ∨ 4096 < p.fu) ∧ c = 0))))))
theorem VC.one {p : Pl} {c d : Int} (h : VC p c) (h' : VC p d) : c = d := by
  unfold VC at h h'
  generalize GP p = A at h h'
  generalize GT p = B at h h'
  generalize GS p = C at h h'
  rcases h with ⟨a1, rfl⟩ | ⟨a1, ⟨a2, rfl⟩ | ⟨a2, ⟨a3, rfl⟩ | ⟨a3, ⟨a4, rfl⟩ | ⟨a4, ⟨a5, rfl⟩ | ⟨a5, ⟨a6, rfl⟩ | ⟨a6, ⟨a7, rfl⟩ | ⟨a7, rfl⟩⟩⟩⟩⟩⟩⟩
  all_goals (rcases h' with ⟨b1, rfl⟩ | ⟨b1, ⟨b2, rfl⟩ | ⟨b2, ⟨b3, rfl⟩ | ⟨b3, ⟨b4, rfl⟩ | ⟨b4, ⟨b5, rfl⟩ | ⟨b5, ⟨b6, rfl⟩ | ⟨b6, ⟨b7, rfl⟩ | ⟨b7, rfl⟩⟩⟩⟩⟩⟩⟩ <;> first | rfl | contradiction)
set_option maxRecDepth 100000 in
theorem isIn_any (x n : Int) (w : World) : Calls Try.prog 33 #[.int .i64 x, .int .i64 n] w fun e w' => e = .returned (.bool (decide (0 ≤ x ∧ x < n))) ∧ w' = w := by
  by_cases h0 : 0 ≤ x
  · have d0 : decide (0 ≤ x) = true := by simpa using h0
    by_cases h1 : x < n
    · have d1 : decide (x < n) = true := by simpa using h1
      rw [decide_eq_true ⟨h0, h1⟩]
      go_enter Try.func33, Try.ntmps33
      go_wp2
      go_ret
      exact ⟨rfl, rfl⟩
    · have d1 : decide (x < n) = false := by simpa using h1
      rw [decide_eq_false (fun h => h1 h.2)]
      go_enter Try.func33, Try.ntmps33
      go_wp2
      go_ret
      exact ⟨rfl, rfl⟩
  · have d0 : decide (0 ≤ x) = false := by simpa using h0
    rw [decide_eq_false (fun h => h0 h.1)]
    go_enter Try.func33, Try.ntmps33
    go_wp2
    go_ret
    exact ⟨rfl, rfl⟩
set_option maxRecDepth 100000 in
set_option maxHeartbeats 1000000 in
theorem progsFit_any (p : Pl) (v : PlV) (w : World) (h : PlAt w p v) : Calls Try.prog 22 #[.agg #[.int .i64 p.ki, .slice v.pp p.np v.pc, .slice v.tp p.nq v.tc, .slice v.sp p.ns v.sc, .int .u64 p.sd, .int .u64 p.lk, .int .u64 p.en, .int .i64 p.bu, .int .i64 p.fu]] w fun e w' => ∃ b, e = .returned (.bool b) ∧ (b = true ↔ GP p) ∧ Below w.heap.size w w' := by
  obtain ⟨wb, hwb⟩ : ∃ wb, w.alloc (.cells #[.int .i64 p.ki, .slice v.pp p.np v.pc, .slice v.tp p.nq v.tc, .slice v.sp p.ns v.sc, .int .u64 p.sd, .int .u64 p.lk, .int .u64 p.en, .int .i64 p.bu, .int .i64 p.fu] 27) = wb := ⟨_, rfl⟩
  obtain ⟨hb0, hbox, hsz⟩ := boxed _ _ _ hwb
  have HW : Hid (w.alloc (.cells #[.int .i64 p.ki, .slice v.pp p.np v.pc, .slice v.tp p.nq v.tc, .slice v.sp p.ns v.sc, .int .u64 p.sd, .int .u64 p.lk, .int .u64 p.en, .int .i64 p.bu, .int .i64 p.fu] 27) = wb) := hwb
  have hP := h.below hb0
  have HP : Hid (PlAt wb p v) := hP
  clear h hP
  obtain ⟨⟨c0, c1, c2, c3⟩, c4, c5, c6, c7, c8⟩ := cells9 hbox
  rw [← hwb] at c0 c1 c2 c3 c4 c5 c6 c7 c8
  by_cases h16 : p.np ≤ 16
  · have d0 : decide ((16 : Int) < (p.np : Int)) = false := by simp; omega
    clear hwb
    go_enter Try.func22, Try.ntmps22
    go_wp2_with fail
    rw [HW.out]
    clear c0 c1 c2 c3 c4 c5 c6 c7 c8
    go_loopw [12] (fun x wr => ∃ i : Nat, x = .int .i64 (i : Int) ∧ i ≤ p.np ∧ (∀ j, j < i → dcode (p.P j) p.ki = 0) ∧ Below wb.heap.size wb wr) (fun x _ => p.np - (intOf x).toNat)
    case atStart => exact ⟨0, rfl, Nat.zero_le _, fun j hj => absurd hj (Nat.not_lt_zero _), Below.refl _ _⟩
    case round =>
      obtain ⟨i, rfl, hi, hall, hbr⟩ := hrel
      by_cases hlt : i < p.np
      · have dlt : decide ((i : Int) < (p.np : Int)) = true := by simp; omega
        have i0 : (0 : Int) ≤ (i : Int) := by omega
        have i1 : (i : Int) < (p.np : Int) := by omega
        have ei : IntKind.i64.wrap ((i : Int) + 1) = (i : Int) + 1 := by rw [IntKind.wrap_i64]; omega
        have hm := meas hlt
        obtain hz | ⟨g, o, hpp, hl, hc, hpa⟩ := HP.out.ps.below hbr
        · omega
        obtain ⟨x0, x1, x2, x3⟩ := hc i hlt
        have hba : Below wr.heap.size wr (wr.alloc (.cells #[.int .i64 (p.P i).words, .int .i64 (p.P i).locals, .slice (v.V i).cp (p.P i).n (v.V i).cc, .slice (v.V i).ep (p.P i).m (v.V i).ec] 51)) := (Below.refl _ wr).alloc (Nat.le_refl _) _
        have HV := verify_any (p.P i) (v.V i) p.ki _ ((hpa i hlt).1.below hba) ((hpa i hlt).2.below hba)
        have hboxr := (hbr.block _ (by omega)).trans hbox
        have hboxa := (hba.block _ (Array.getElem?_eq_some_iff.1 hboxr).1).trans hboxr
        obtain ⟨⟨c0, _, _, _⟩, _⟩ := cells9 hboxa
        have HA : Hid ((∀ j, j < i → dcode (p.P j) p.ki = 0) ∧ Below wb.heap.size wb wr ∧ Below wr.heap.size wr (wr.alloc (.cells #[.int .i64 (p.P i).words, .int .i64 (p.P i).locals, .slice (v.V i).cp (p.P i).n (v.V i).cc, .slice (v.V i).ep (p.P i).m (v.V i).ec] 51))) := ⟨hall, hbr, hba⟩
        obtain ⟨cd, hcd⟩ : ∃ cd, dcode (p.P i) p.ki = cd := ⟨_, rfl⟩
        rw [hcd] at HV
        have HCD : Hid (dcode (p.P i) p.ki = cd) := hcd
        rw [hpp]
        clear hcd hc hpa hall hbr hboxr hboxa hba hl hpp
        by_cases hz : cd = 0
        · subst hz
          go_wp2_with (go_at_call 32; (with_reducible refine HV.mono ?_); rintro e w3 ⟨rfl, hb3⟩)
          refine ⟨⟨i + 1, rfl, hlt, fun j hj => ?_, ?_⟩, hm⟩
          · by_cases e : j < i
            · exact HA.out.1 j e
            · obtain rfl : j = i := by omega
              exact HCD.out
          · have hb5 := HA.out.2.1.trans (HA.out.2.2.mono HA.out.2.1.size)
            exact hb5.trans (hb3.mono hb5.size)
        · have g0 : (cd == 0) = false := by simpa using hz
          go_wp2_with (go_at_call 32; (with_reducible refine HV.mono ?_); rintro e w3 ⟨rfl, hb3⟩)
          go_ret
          refine ⟨false, rfl, ⟨fun e => (by cases e), fun hG => ?_⟩, ?_⟩
          · exact absurd (HCD.out.symm.trans (hG.2 i hlt)) hz
          · have hb5 := HA.out.2.1.trans (HA.out.2.2.mono HA.out.2.1.size)
            exact hb0.trans ((hb5.trans (hb3.mono hb5.size)).mono hb0.size)
      · have dlt : decide ((i : Int) < (p.np : Int)) = false := by simp; omega
        obtain rfl : i = p.np := by omega
        go_wp2_with fail
        go_ret
        exact ⟨true, rfl, ⟨fun _ => ⟨h16, hall⟩, fun _ => rfl⟩, hb0.trans (hbr.mono hb0.size)⟩
  · have d0 : decide ((16 : Int) < (p.np : Int)) = true := by simp; omega
    clear hwb
    go_enter Try.func22, Try.ntmps22
    go_wp2_with fail
    go_ret
    rw [HW.out]
    exact ⟨false, rfl, ⟨fun e => (by cases e), fun hG => absurd hG.1 h16⟩, hb0⟩
end Go.Proofs.Ytkgifanlodlilaa
