import Derived.Test.YtjfefjlajgpkaaaFS3
import Derived.Test.YtjfefjlajgpkaaaRO4
namespace Go.Proofs.Ytjfefjlajgpkaaa
open Go.ChangeShapes Go.WideShapes Go.ChangeAt Go.RowKit
set_option linter.unusedVariables false
set_option linter.unusedSimpArgs false

theorem sa_app (A : Nat → Sa) (i : Nat) (a : Sa) : cellsF (saF A) (i * 3) ++ saL a = cellsF (saF (setS A i a)) ((i + 1) * 3) := by
  have e : saL a = cellsF (fun r => (saL a).getD r undef) 3 := rfl
  rw [e, cellsF_append, show (i + 1) * 3 = i * 3 + 3 by omega]
  refine cellsF_congr fun j hj => ?_
  by_cases h : j < i * 3
  · rw [if_pos h]
    unfold saF setS
    rw [if_neg (by omega)]
  · rw [if_neg h]
    unfold saF setS
    rw [show j / 3 = i by omega, if_pos rfl, show j % 3 = j - i * 3 by omega]
/-- the box of a new state, and its words -/
def RB5 (p : Pl) (i : Nat) (dv : Int) (wr wx : World) (b5 : Value) : Prop := ∃ bx q cc, b5 = .pointer (some ⟨bx, 0, none⟩) ∧ wx.heap[bx]? = some (.cells #[.slice q (p.nw i) cc, .int .u64 dv, .int .u64 0] 75 (0, 0)) ∧ wr.heap.size ≤ bx ∧ KAt wx q (p.nw i) (p.K i) ∧ (∀ g o, q = some ⟨g, o, none⟩ → wr.heap.size ≤ g ∧ g < wx.heap.size) ∧ Below wr.heap.size wr wx
theorem rb5A {p : Pl} {i : Nat} {dv : Int} {wr w3 : World} (h : KAt w3 (some ⟨wr.heap.size, 0, none⟩) (p.nw i) (p.K i) ∧ Below wr.heap.size wr w3 ∧ wr.heap.size < w3.heap.size) : RB5 p i dv wr (w3.alloc (.cells #[.slice (some ⟨wr.heap.size, 0, none⟩) (p.nw i) (p.nw i), .int .u64 dv, .int .u64 0] 75)) (.pointer (some ⟨w3.heap.size, 0, none⟩)) := by
  have hb : Below w3.heap.size w3 (w3.alloc (.cells #[.slice (some ⟨wr.heap.size, 0, none⟩) (p.nw i) (p.nw i), .int .u64 dv, .int .u64 0] 75)) := (Below.refl _ w3).alloc (Nat.le_refl _) _
  refine ⟨_, _, _, rfl, World.alloc_heap_new w3 _, h.2.1.size, h.1.below hb, fun g o e => ?_, h.2.1.trans (hb.mono h.2.1.size)⟩
  injection e with e
  injection e with e1 e2 e3
  have := hb.size
  omega
theorem rb5C {p : Pl} {i b : Nat} {dv : Int} {wr w3 : World} (h : KAt w3 (some ⟨b, 0, none⟩) (p.nw i) (p.K i) ∧ Below wr.heap.size wr w3 ∧ b < w3.heap.size ∧ w3.heap[wr.heap.size]? = some (.cells #[.slice none 0 0, .int .u64 0, .int .u64 0] 75 (0, 0))) (hb : b = wr.heap.size + 1) : RB5 p i dv wr (((w3.setCell ⟨wr.heap.size, 0, none⟩ (.slice (some ⟨wr.heap.size + 1, 0, none⟩) (p.nw i) (p.nw i))).setCell ⟨wr.heap.size, 1, none⟩ (.int .u64 dv)).setCell ⟨wr.heap.size, 2, none⟩ (.int .u64 0)) (.pointer (some ⟨wr.heap.size, 0, none⟩)) := by
  subst hb
  obtain ⟨q1, q2, q3, q4⟩ := put3 h.2.2.2 (.slice (some ⟨wr.heap.size + 1, 0, none⟩) (p.nw i) (p.nw i)) (.int .u64 dv) (.int .u64 0) _ rfl
  refine ⟨_, _, _, rfl, q1, Nat.le_refl _, h.1.kb (S := fun k => k = wr.heap.size) ⟨by omega, fun k _ hs => q2 k hs⟩ (fun g o e => ?_), fun g o e => ?_, q3 _ _ h.2.1 (Nat.le_refl _)⟩
  · injection e with e
    injection e with e1 e2 e3
    show ¬ g = wr.heap.size
    omega
  · injection e with e
    injection e with e1 e2 e3
    omega
theorem AOk.next {W W1 W9 W' : World} {p : Pl} {r v' : Value} {b i x : Nat} {A : Nat → Sa} {q : Option Addr} {cc : Nat} (h : AOk W p r b A i) (h1 : Below W.heap.size W W1) (hg : W1.grownBy W9 r.ownBlock) (hv : v'.ownBlock = r.ownBlock ∨ v'.ownBlock = some W1.heap.size) (hk : Kb (fun k => k = x) W9 W') (hx : x < b) (hb : b ≤ W.heap.size) (hr : ∀ k, r.ownBlock = some k → k < W.heap.size) (hq : KAt W1 q (p.nw i) (p.K i)) (hqn : ∀ g o, q = some ⟨g, o, none⟩ → W.heap.size ≤ g ∧ g < W1.heap.size) : AOk W' p v' b (setS A i ⟨q, p.nw i, cc, dz p.sd i, 0⟩) (i + 1) := fun j hj => by
  have hkb := Kb.grown hg
  unfold setS
  by_cases e : j = i
  · rw [if_pos e, e]
    have ea : EA W9 v' b q := EA.fresh (W := W) (r := r) hqn hb hr hkb.size hv
    refine ⟨rfl, rfl, rfl, (hq.kb hkb fun g o e9 h9 => ?_).kb hk fun g o e9 h9 => ?_, ea.kept hk.size⟩
    · have a1 := hqn g o e9
      have a2 := hr g h9.symm
      omega
    · have a1 := hqn g o e9
      have a2 : g = x := h9
      omega
  · rw [if_neg e]
    obtain ⟨a1, a2, a3, a4, a5⟩ := h j (by omega)
    refine ⟨a1, a2, a3, ((a4.below h1).kb hkb fun g o e9 h9 => (a5 g o e9).2.2 h9).kb hk fun g o e9 h9 => ?_, (a5.step h1.size hkb.size hv).kept hk.size⟩
    have b1 := (a5 g o e9).1
    have b2 : g = x := h9
    omega
theorem KPT {W : World} {g a b k m n o1 o2 o3 : Nat} {x y z x1 x2 x3 : Value} (h1 : a ≠ g) (h2 : b ≠ g) (h : W.cell? ⟨a, k, none⟩ = some x ∧ W.cell? ⟨a, m, none⟩ = some y ∧ W.cell? ⟨b, n, none⟩ = some z) : (((W.setCell ⟨g, o1, none⟩ x1).setCell ⟨g, o2, none⟩ x2).setCell ⟨g, o3, none⟩ x3).cell? ⟨a, k, none⟩ = some x ∧ (((W.setCell ⟨g, o1, none⟩ x1).setCell ⟨g, o2, none⟩ x2).setCell ⟨g, o3, none⟩ x3).cell? ⟨a, m, none⟩ = some y ∧ (((W.setCell ⟨g, o1, none⟩ x1).setCell ⟨g, o2, none⟩ x2).setCell ⟨g, o3, none⟩ x3).cell? ⟨b, n, none⟩ = some z := by
  have key : ∀ j, j ≠ g → (((W.setCell ⟨g, o1, none⟩ x1).setCell ⟨g, o2, none⟩ x2).setCell ⟨g, o3, none⟩ x3).heap[j]? = W.heap[j]? := fun j hj => by
    rw [Below.heap_setCell _ _ _ _ hj, Below.heap_setCell _ _ _ _ hj, Below.heap_setCell _ _ _ _ hj]
  exact ⟨(World.cell?_of_block (key a h1)).trans h.1, (World.cell?_of_block (key a h1)).trans h.2.1, (World.cell?_of_block (key b h2)).trans h.2.2⟩
set_option maxRecDepth 100000 in
set_option maxHeartbeats 8000000 in
theorem rfirst_any (p : Pl) (v : PlV) (w : World) (h : PlAt w p v) (hr : RoomyL p) (hT : GT p) (hS : GS p) : Calls Try.prog 20 #[.agg #[.int .i64 p.ki, .slice v.pp p.np v.pc, .slice v.tp p.nq v.tc, .slice v.sp p.ns v.sc, .int .u64 p.sd, .int .u64 p.lk, .int .u64 p.en, .int .i64 p.bu, .int .i64 p.fu]] w fun e w' => ∃ (q : Option Addr) (c : Nat) (A : Nat → Sa) (q2 : Option Addr) (c2 : Nat) (d : Nat → Se), e = .returned (.agg #[.slice q p.nq c, .slice q2 p.ns c2, .slice none 0 0]) ∧ SsAt w' q p.nq A p.K ∧ (∀ j, j < p.nq → (A j).n = p.nw j ∧ (A j).d = dz p.sd j ∧ (A j).s = (cntS p.S p.ns (j : Int) : Nat)) ∧ SIn w' q2 p.ns d ∧ Stb klt 0 p.ns (evS p.S) d ∧ Srt klt 0 p.ns d ∧ Below w.heap.size w w' := by
  obtain ⟨iA, hA1, hA2, hA3, hA4⟩ := sinfo infoSA
  obtain ⟨iE, hE1, hE2, hE3, hE4⟩ := sinfo infoSE
  obtain ⟨wb, hwb⟩ : ∃ wb, ((w.alloc (.cells #[.int .i64 p.ki, .slice v.pp p.np v.pc, .slice v.tp p.nq v.tc, .slice v.sp p.ns v.sc, .int .u64 p.sd, .int .u64 p.lk, .int .u64 p.en, .int .i64 p.bu, .int .i64 p.fu] 35)).alloc (.cells #[.slice none 0 0, .slice none 0 0, .slice none 0 0] 39)).alloc (.cells #[.slice none 0 0, .slice none 0 0, .slice none 0 0] 39) = wb := ⟨_, rfl⟩
  have hb0 : Below w.heap.size w wb := by rw [← hwb]; exact (((Below.refl _ w).alloc (Nat.le_refl _) _).alloc (by simp) _).alloc (by simp; omega) _
  have hbox : wb.heap[w.heap.size]? = some (.cells #[.int .i64 p.ki, .slice v.pp p.np v.pc, .slice v.tp p.nq v.tc, .slice v.sp p.ns v.sc, .int .u64 p.sd, .int .u64 p.lk, .int .u64 p.en, .int .i64 p.bu, .int .i64 p.fu] 35 (0, 0)) := by
    rw [← hwb, Below.heap_alloc _ _ _ (by simp [World.size_alloc]; omega), Below.heap_alloc _ _ _ (by simp)]
    exact World.alloc_heap_new w _
  have hres : wb.heap[w.heap.size + 1]? = some (.cells #[.slice none 0 0, .slice none 0 0, .slice none 0 0] 39 (0, 0)) := by
    rw [← hwb, Below.heap_alloc _ _ _ (by simp)]
    have := World.alloc_heap_new (w.alloc (.cells #[.int .i64 p.ki, .slice v.pp p.np v.pc, .slice v.tp p.nq v.tc, .slice v.sp p.ns v.sc, .int .u64 p.sd, .int .u64 p.lk, .int .u64 p.en, .int .i64 p.bu, .int .i64 p.fu] 35)) (.cells #[.slice none 0 0, .slice none 0 0, .slice none 0 0] 39)
    rwa [World.size_alloc] at this
  have hat : wb.heap[w.heap.size + 2]? = some (.cells #[.slice none 0 0, .slice none 0 0, .slice none 0 0] 39 (0, 0)) := by
    rw [← hwb]
    have := World.alloc_heap_new ((w.alloc (.cells #[.int .i64 p.ki, .slice v.pp p.np v.pc, .slice v.tp p.nq v.tc, .slice v.sp p.ns v.sc, .int .u64 p.sd, .int .u64 p.lk, .int .u64 p.en, .int .i64 p.bu, .int .i64 p.fu] 35)).alloc (.cells #[.slice none 0 0, .slice none 0 0, .slice none 0 0] 39)) (.cells #[.slice none 0 0, .slice none 0 0, .slice none 0 0] 39)
    rwa [World.size_alloc, World.size_alloc] at this
  have HSZ : Hid (wb.heap.size = w.heap.size + 3) := by show wb.heap.size = w.heap.size + 3; rw [← hwb]; simp
  have HW : Hid (((w.alloc (.cells #[.int .i64 p.ki, .slice v.pp p.np v.pc, .slice v.tp p.nq v.tc, .slice v.sp p.ns v.sc, .int .u64 p.sd, .int .u64 p.lk, .int .u64 p.en, .int .i64 p.bu, .int .i64 p.fu] 35)).alloc (.cells #[.slice none 0 0, .slice none 0 0, .slice none 0 0] 39)).alloc (.cells #[.slice none 0 0, .slice none 0 0, .slice none 0 0] 39) = wb) := hwb
  have HP : Hid (PlAt w p v) := h
  have HR : Hid (RoomyL p) := hr
  have HT : Hid (GT p) := hT
  have HS : Hid (GS p) := hS
  have HB0 : Hid (Below w.heap.size w wb) := hb0
  have hnq := hT.1
  have hns := hS.1
  clear h hr hT hS hwb hb0
  go_enter Try.func20, Try.ntmps20
  go_wp2_with fail
  rw [HW.out]
  go_loopw [4] (fun x wr => ∃ (i : Nat) (A : Nat → Sa) (r : Value), x = .int .i64 (i : Int) ∧ i ≤ p.nq ∧ wr.heap[w.heap.size + 2]? = some (.cells #[r, .slice none 0 0, .slice none 0 0] 39 (0, 0)) ∧ Own wr (w.heap.size + 3) 75 3 r i (saF A) ∧ AOk wr p r (w.heap.size + 3) A i ∧ Below (w.heap.size + 2) wb wr) (fun x _ => p.nq - (intOf x).toNat)
  case atStart => exact ⟨0, fun _ => ⟨none, 0, 0, 0, 0⟩, _, rfl, Nat.zero_le _, hat, World.ownsRow_nil _ _ _ _, fun j hj => absurd hj (Nat.not_lt_zero _), Below.refl _ _⟩
  case round =>
    obtain ⟨i, A, r, rfl, hi, hatr, hrow, hok, hbr⟩ := hrel
    have hgs := HSZ.out
    have hboxr := (hbr.block w.heap.size (by omega)).trans hbox
    have hresr := (hbr.block (w.heap.size + 1) (by omega)).trans hres
    have hbw : Below w.heap.size w wr := HB0.out.trans (hbr.mono (by omega))
    obtain ⟨⟨c0, c1, c2, c3⟩, c4, c5, c6, c7, c8⟩ := cells9 hboxr
    by_cases hlt : i < p.nq
    case pos =>
      have dlt : decide ((i : Int) < (p.nq : Int)) = true := by simp; omega
      have i0 : (0 : Int) ≤ (i : Int) := by omega
      have i1 : (i : Int) < (p.nq : Int) := by omega
      have ei : IntKind.i64.wrap ((i : Int) + 1) = (i : Int) + 1 := by rw [IntKind.wrap_i64]; omega
      have hm := meas hlt
      obtain hz | ⟨gt, ot, hpp, hl, hc, hpa⟩ := (HP.out.below hbw).ts
      · omega
      obtain ⟨y0, y1⟩ := hc i hlt
      have HC : ∀ w', Below wr.heap.size wr w' → Hid (Calls Try.prog 27 #[.slice (v.wp i) (p.nw i) (v.wc i)] w' fun e w9 => e = .returned (.slice (some ⟨w'.heap.size, 0, none⟩) (p.nw i) (p.nw i)) ∧ KAt w9 (some ⟨w'.heap.size, 0, none⟩) (p.nw i) (p.K i) ∧ Below w'.heap.size w' w9 ∧ w'.heap.size < w9.heap.size) := fun w' hb => by
        refine (copyWords_any (v.wp i) (p.nw i) (v.wc i) (p.K i) w' (HR.out.nw i hlt) ((hpa i hlt).below hb)).mono ?_
        rintro e w9 ⟨h1, h2, h3, h4⟩
        exact ⟨h1, kat_w h2, h3, h4⟩
      have HD := fun w' => rseed_any p.sd (i : Int) w'
      obtain ⟨dv, hdv⟩ : ∃ dv, U (sd (B p.sd) (B (i : Int))) = dv := ⟨_, rfl⟩
      rw [hdv] at HD
      have HDV : Hid (dz p.sd i = dv) := hdv
      have hwl := lt_of_block hboxr
      have HA : Hid (Own wr (w.heap.size + 3) 75 3 r i (saF A) ∧ AOk wr p r (w.heap.size + 3) A i ∧ Below (w.heap.size + 2) wb wr ∧ wr.heap[w.heap.size + 2]? = some (.cells #[r, .slice none 0 0, .slice none 0 0] 39 (0, 0))) := ⟨hrow, hok, hbr, hatr⟩
      have KK : ∀ w1, Below wr.heap.size wr w1 → Hid (w1.cell? ⟨w.heap.size, 2, none⟩ = some (.slice (some ⟨gt, ot, none⟩) p.nq v.tc) ∧ w1.cell? ⟨w.heap.size, 4, none⟩ = some (.int .u64 p.sd) ∧ w1.cell? ⟨gt, ot + i * 2 + 1, none⟩ = some (.slice (v.wp i) (p.nw i) (v.wc i))) := fun w1 hb => ⟨by rw [← hpp]; exact (cell_below (a := ⟨w.heap.size, 2, none⟩) hb hwl).trans c2, (cell_below (a := ⟨w.heap.size, 4, none⟩) hb hwl).trans c4, (cell_below (a := ⟨gt, ot + i * 2 + 1, none⟩) hb hl).trans y1⟩
      rw [hpp] at c2
      rw [hpp]
      clear hdv hc hpa hrow hok hbr hbw hatr hboxr hresr hpp hgs c0 c1 c3 c5 c6 c7 c8
      go_upto_region 5 with fail
      go_cut [5] (fun b5 wx => RB5 p i dv wr wx b5)
      case first =>
        have hBD : Below wr.heap.size wr wr.drew := (Below.refl _ wr).drew
        have hBA : Below wr.heap.size wr (wr.alloc (.cells #[.slice none 0 0, .int .u64 0, .int .u64 0] 75)).drew := ((Below.refl _ wr).alloc (Nat.le_refl _) _).drew
        have hZB : (wr.alloc (.cells #[.slice none 0 0, .int .u64 0, .int .u64 0] 75)).drew.heap[wr.heap.size]? = some (.cells #[.slice none 0 0, .int .u64 0, .int .u64 0] 75 (0, 0)) := World.alloc_heap_new wr _
        have hq1 : w.heap.size ≠ wr.heap.size := by omega
        have hq2 : gt ≠ wr.heap.size := by omega
        have KPa : wr.drew.cell? ⟨w.heap.size, 2, none⟩ = some (.slice (some ⟨gt, ot, none⟩) p.nq v.tc) ∧ wr.drew.cell? ⟨w.heap.size, 4, none⟩ = some (.int .u64 p.sd) ∧ wr.drew.cell? ⟨gt, ot + i * 2 + 1, none⟩ = some (.slice (v.wp i) (p.nw i) (v.wc i)) := (KK wr.drew hBD).out
        have KPb := (KK (wr.alloc (.cells #[.slice none 0 0, .int .u64 0, .int .u64 0] 75)).drew hBA).out
        have hZS : (wr.alloc (.cells #[.slice none 0 0, .int .u64 0, .int .u64 0] 75)).drew.heap.size = wr.heap.size + 1 := World.size_alloc wr _
        go_region_held3 (fun w' => w'.cell? ⟨w.heap.size, 2, none⟩ = some (.slice (some ⟨gt, ot, none⟩) p.nq v.tc) ∧ w'.cell? ⟨w.heap.size, 4, none⟩ = some (.int .u64 p.sd) ∧ w'.cell? ⟨gt, ot + i * 2 + 1, none⟩ = some (.slice (v.wp i) (p.nw i) (v.wc i))) (first | with_reducible exact KPa | with_reducible exact KPb | with_reducible exact KP | with_reducible exact KPT hq1 hq2 KP | go_keep) (first | (go_at_call 27; (with_reducible refine ((HC wr.drew hBD).out).mono ?_); rintro e w3 ⟨rfl, hq3, hb3, hl3⟩; have hb3' : Below wr.heap.size wr w3 := hBD.trans hb3; have KP := (KK w3 hb3').out; have H3 : Hid (KAt w3 (some ⟨wr.heap.size, 0, none⟩) (p.nw i) (p.K i) ∧ Below wr.heap.size wr w3 ∧ wr.heap.size < w3.heap.size) := ⟨hq3, hb3', hl3⟩; clear hq3 hb3 hl3 hb3') | (go_at_call 27; (with_reducible refine ((HC (wr.alloc (.cells #[.slice none 0 0, .int .u64 0, .int .u64 0] 75)).drew hBA).out).mono ?_); rintro e w3 ⟨rfl, hq3, hb3, hl3⟩; have hb3' : Below wr.heap.size wr w3 := hBA.trans (hb3.mono hBA.size); have KP := (KK w3 hb3').out; have hx3 : w3.heap[wr.heap.size]? = some (.cells #[.slice none 0 0, .int .u64 0, .int .u64 0] 75 (0, 0)) := (hb3.block _ (by rw [hZS]; exact Nat.lt_succ_self _)).trans hZB; obtain ⟨n0, n1, n2⟩ := cells3p hx3; have l0 := frz hx3 0; have l1 := frz hx3 1; have l2 := frz hx3 2; have H4 : Hid (KAt w3 (some ⟨(wr.alloc (.cells #[.slice none 0 0, .int .u64 0, .int .u64 0] 75)).drew.heap.size, 0, none⟩) (p.nw i) (p.K i) ∧ Below wr.heap.size wr w3 ∧ (wr.alloc (.cells #[.slice none 0 0, .int .u64 0, .int .u64 0] 75)).drew.heap.size < w3.heap.size ∧ w3.heap[wr.heap.size]? = some (.cells #[.slice none 0 0, .int .u64 0, .int .u64 0] 75 (0, 0))) := ⟨hq3, hb3', hl3, hx3⟩; clear hq3 hb3 hl3 hb3' hx3) | (go_at_call 35; (with_reducible refine (HD _).mono ?_); rintro e ws ⟨rfl, hws⟩; subst ws))
        all_goals (
          go_wp2_with fail
          go_meet
          first | exact rb5A H3.out | exact rb5C H4.out hZS)
      case rest =>
        obtain ⟨bx, q, cc, rfl, hbx, hbl, hq, hqn, hbw⟩ := hcut
        obtain ⟨a1, a2, a3, a4⟩ := HA.out
        have hat1 := (hbw.block _ (lt_of_block a4)).trans a4
        have hgs := HSZ.out
        have hz3 := a3.size
        have hzw := hbw.size
        have hba : Below wc.heap.size wc (wc.alloc (.cells (saL ⟨q, p.nw i, cc, dv, 0⟩).toArray 75)) := (Below.refl _ wc).alloc (Nat.le_refl _) _
        have hza := hba.size
        have HAP : Hid ((wc.alloc (.cells (saL ⟨q, p.nw i, cc, dv, 0⟩).toArray 75)).ownsRow (w.heap.size + 3) 75 3 r i (cellsF (saF A) (i * 3)) ∧ (∀ j y, (saL ⟨q, p.nw i, cc, dv, 0⟩)[j]? = some y → (wc.alloc (.cells (saL ⟨q, p.nw i, cc, dv, 0⟩).toArray 75)).cell? ((⟨wc.heap.size, 0, none⟩ : Addr).add j) = some y) ∧ w.heap.size + 3 ≤ (wc.alloc (.cells (saL ⟨q, p.nw i, cc, dv, 0⟩).toArray 75)).heap.size) := ⟨World.ownsRow.alloc (srow_later a1 hbw) _, scells_new wc _ _, by omega⟩
        have HAQ : Hid (Below wr.heap.size wr (wc.alloc (.cells (saL ⟨q, p.nw i, cc, dv, 0⟩).toArray 75)) ∧ KAt (wc.alloc (.cells (saL ⟨q, p.nw i, cc, dv, 0⟩).toArray 75)) q (p.nw i) (p.K i) ∧ (∀ g o, q = some ⟨g, o, none⟩ → wr.heap.size ≤ g ∧ g < (wc.alloc (.cells (saL ⟨q, p.nw i, cc, dv, 0⟩).toArray 75)).heap.size) ∧ (wc.alloc (.cells (saL ⟨q, p.nw i, cc, dv, 0⟩).toArray 75)).heap[w.heap.size + 2]? = some (.cells #[r, .slice none 0 0, .slice none 0 0] 39 (0, 0)) ∧ (∀ k, r.ownBlock = some k → w.heap.size + 3 ≤ k ∧ k < wr.heap.size)) := ⟨hbw.trans (hba.mono hbw.size), hq.below hba, fun g o e => ⟨(hqn g o e).1, by have := (hqn g o e).2; omega⟩, (hba.block _ (lt_of_block hat1)).trans hat1, fun k hk => srow_lt a1 k hk⟩
        have p1 : i + 1 ≤ maxLen := by unfold maxLen; omega
        have p2 : (i + 1) * 40 ≤ 140737488355328 := by omega
        obtain ⟨e0, e1, e2⟩ := cells3p hat1
        obtain ⟨b0, b1, b2⟩ := cells3p hbx
        clear a1 a2 a3 a4 hat1 hgs hz3 hzw hba hza hq hqn hbw hbx hbl
        go_wp2_with (at_builtin; refine wpList_append_own_at _ rfl _ _ 37 rfl (w.heap.size + 3) 75 iA _ 3 40 Try.underlying37 hA1 hA2 hA3 hA4 rfl (by decide) _ _ _ rfl HAP.out.1 ⟨wc.heap.size, 0, none⟩ 1 1 (saL ⟨q, p.nw i, cc, dv, 0⟩) rfl rfl HAP.out.2.1 (by simp [saL, Value.oneCell']) p1 p2 HAP.out.2.2 ?_; intro v' w9 hown9 hgrow9 _ hnb9; have ho9 : Own w9 (w.heap.size + 3) 75 3 v' (i + 1) (saF (setS A i ⟨q, p.nw i, cc, dv, 0⟩)) := (by unfold Own; rw [← sa_app]; exact hown9); obtain ⟨vp, vc, rfl⟩ := own_slice ho9; have hx9 : w9.heap[w.heap.size + 2]? = some (.cells #[r, .slice none 0 0, .slice none 0 0] 39 (0, 0)) := (hgrow9.block _ (lt_of_block HAQ.out.2.2.2.1) (fun e => absurd (HAQ.out.2.2.2.2 _ e.symm).1 (by omega))).trans HAQ.out.2.2.2.1; have z0 := frz hx9 0; obtain ⟨d0, d1, d2⟩ := cells3p hx9; have H9 : Hid (Own w9 (w.heap.size + 3) 75 3 (.slice vp (i + 1) vc) (i + 1) (saF (setS A i ⟨q, p.nw i, cc, dv, 0⟩)) ∧ (wc.alloc (.cells (saL ⟨q, p.nw i, cc, dv, 0⟩).toArray 75)).grownBy w9 r.ownBlock ∧ ((Value.slice vp (i + 1) vc).ownBlock = r.ownBlock ∨ (Value.slice vp (i + 1) vc).ownBlock = some (wc.alloc (.cells (saL ⟨q, p.nw i, cc, dv, 0⟩).toArray 75)).heap.size) ∧ w9.heap[w.heap.size + 2]? = some (.cells #[r, .slice none 0 0, .slice none 0 0] 39 (0, 0))) := ⟨ho9, hgrow9, hnb9, hx9⟩; clear ho9 hown9 hgrow9 hnb9 hx9)
        obtain ⟨a1, a2, a3, a4⟩ := HA.out
        obtain ⟨f1, f2, f3, f4, f5⟩ := HAQ.out
        obtain ⟨g1, g2, g3, g4⟩ := H9.out
        have hgs := HSZ.out
        have hz3 := a3.size
        have hvb := Own.lt g1
        obtain ⟨W', hW'⟩ : ∃ W', w9.setCell ⟨w.heap.size + 2, 0, none⟩ (.slice vp (i + 1) vc) = W' := ⟨_, rfl⟩
        have hk9 : Kb (fun k => k = w.heap.size + 2) w9 W' := by rw [← hW']; exact Kb.set w9 _ _ _ rfl
        have hat9 : W'.heap[w.heap.size + 2]? = some (.cells #[.slice vp (i + 1) vc, .slice none 0 0, .slice none 0 0] 39 (0, 0)) := by rw [← hW', setCell_block _ _ _ _ g4]; rfl
        have hn9 := a2.next f1 g2 g3 hk9 (by omega) (by omega) (fun k hk => (f5 k hk).2) f2 f3 (cc := cc)
        rw [HDV.out] at hn9
        have ho' : Own W' (w.heap.size + 3) 75 3 (.slice vp (i + 1) vc) (i + 1) (saF (setS A i ⟨q, p.nw i, cc, dv, 0⟩)) := Own.far g1 fun k hk => hk9.block k (hvb k hk).2 (by have := (hvb k hk).1; show ¬ k = _; omega)
        have hbl' : Below (w.heap.size + 2) wb W' := by
          rw [← hW']
          refine Below.setCell (p := ⟨w.heap.size + 2, 0, none⟩) (B := w.heap.size + 2) ?_ (Nat.le_refl _) _
          exact (a3.trans (f1.mono (by omega))).grown g2 (by have := f1.size; omega) (fun k hk => by have := (f5 k hk).1; omega)
        subst hW'
        exact ⟨⟨i + 1, _, _, rfl, hlt, hat9, ho', hn9, hbl'⟩, hm⟩
    have dlt : decide ((i : Int) < (p.nq : Int)) = false := by simp; omega
    obtain rfl : i = p.nq := by omega
    obtain ⟨rp, rc, rfl⟩ := own_slice hrow
    obtain ⟨wy, rfl⟩ : ∃ wy, wy = wr := ⟨_, rfl⟩
    have HX : Hid (Own wy (w.heap.size + 3) 75 3 (.slice rp p.nq rc) p.nq (saF A) ∧ AOk wy p (.slice rp p.nq rc) (w.heap.size + 3) A p.nq ∧ Below (w.heap.size + 2) wb wy ∧ wy.heap[w.heap.size]? = some (.cells #[.int .i64 p.ki, .slice v.pp p.np v.pc, .slice v.tp p.nq v.tc, .slice v.sp p.ns v.sc, .int .u64 p.sd, .int .u64 p.lk, .int .u64 p.en, .int .i64 p.bu, .int .i64 p.fu] 35 (0, 0)) ∧ wy.heap[w.heap.size + 1]? = some (.cells #[.slice none 0 0, .slice none 0 0, .slice none 0 0] 39 (0, 0)) ∧ wy.heap[w.heap.size + 2]? = some (.cells #[.slice rp p.nq rc, .slice none 0 0, .slice none 0 0] 39 (0, 0)) ∧ Below w.heap.size w wy) := ⟨hrow, hok, hbr, hboxr, hresr, hatr, hbw⟩
    have HXL : Hid (w.heap.size + 3 ≤ wy.heap.size) := by
      show w.heap.size + 3 ≤ wy.heap.size
      have := hbr.size
      omega
    clear hok hbr hboxr hresr hatr hbw hgs hrow
    go_wp2_with fail
    clear c0 c1 c2 c3 c4 c5 c6 c7 c8
    go_loopw [6, 7] (fun l x wr => ∃ (i : Nat), x = .int .i64 (i : Int) ∧ i ≤ p.ns ∧ Own wr (w.heap.size + 3) 75 3 (.slice rp p.nq rc) p.nq (saF (sA A p.S i)) ∧ Own wr wy.heap.size 51 6 l i (seF (evS p.S)) ∧ Kb (fun k => some k = (Value.slice rp p.nq rc).ownBlock) wy wr ∧ Below (w.heap.size + 3) wy wr) (fun _ x _ => p.ns - (intOf x).toNat)
    case atStart => exact ⟨0, rfl, Nat.zero_le _, Own.congr HX.out.1 (fun j hj => by unfold saF; rw [← sA_zero (S := p.S) (fun j hj => (HX.out.2.1 j hj).2.2.1) (j / 3) (by omega)]), World.ownsRow_nil _ _ _ _, ⟨Nat.le_refl _, fun _ _ _ => rfl⟩, Below.refl _ _⟩
    case round =>
      obtain ⟨i, rfl, hi, hrow, hev, hkr, hbr⟩ := hrel
      have hyl := HXL.out
      have hboxr := (hbr.block w.heap.size (by omega)).trans HX.out.2.2.2.1
      have hresr := (hbr.block (w.heap.size + 1) (by omega)).trans HX.out.2.2.2.2.1
      have hatr := (hbr.block (w.heap.size + 2) (by omega)).trans HX.out.2.2.2.2.2.1
      have hbw : Below w.heap.size w wr := HX.out.2.2.2.2.2.2.trans (hbr.mono (by omega))
      obtain ⟨⟨c0, c1, c2, c3⟩, c4, c5, c6, c7, c8⟩ := cells9 hboxr
      by_cases hlt : i < p.ns
      case pos =>
        have dlt : decide ((i : Int) < (p.ns : Int)) = true := by simp; omega
        have i0 : (0 : Int) ≤ (i : Int) := by omega
        have i1 : (i : Int) < (p.ns : Int) := by omega
        have ei : IntKind.i64.wrap ((i : Int) + 1) = (i : Int) + 1 := by rw [IntKind.wrap_i64]; omega
        have hm := meas hlt
        obtain hz | ⟨gt, ot, hpp, hl, hc⟩ := (HP.out.below hbw).st
        · omega
        obtain ⟨y0, y1, y2, y3⟩ := hc i hlt
        obtain ⟨⟨hd0, hd1⟩, _, _⟩ := HS.out.2 i hlt
        obtain ⟨dn, hdn⟩ : ∃ dn : Nat, (p.S i).d = (dn : Int) := ⟨(p.S i).d.toNat, by omega⟩
        have hdl : dn < p.nq := by omega
        have j0 : (0 : Int) ≤ (dn : Int) := by omega
        have j1 : (dn : Int) < (p.nq : Int) := by omega
        rw [hdn] at y1
        obtain ⟨g, hrp⟩ : ∃ g, rp = some ⟨g, 0, none⟩ := by
          rcases hrow.form with ⟨h1, h2⟩ | ⟨g, c', h1, h2, h3⟩
          · omega
          · injection h1 with e1 e2 e3
            exact ⟨g, e1⟩
        have hrow' := hrow
        rw [hrp] at hrow'
        obtain ⟨q0, q1, q2⟩ := ARow.cells hrow' hdl
        have q2' : wr.cell? ⟨g, dn * 3 + 2, none⟩ = some (.int .u64 (cntS p.S i (dn : Int) : Nat)) := q2
        obtain ⟨cn, hcn⟩ : ∃ cn : Nat, cntS p.S i (dn : Int) = cn := ⟨_, rfl⟩
        have hcl := cntS_le p.S i (dn : Int)
        rw [hcn] at q2' hcl
        have ew : IntKind.u64.wrap ((cn : Int) + 1) = (cn : Int) + 1 := by rw [IntKind.wrap_u64]; omega
        have hgl := ARow.lt hrow'
        have hgy : g < wy.heap.size := by
          rcases HX.out.1.form with ⟨h1, h2⟩ | ⟨g', c', h1, h2, h3⟩
          · omega
          · rw [hrp] at h1
            injection h1 with e1 e2 e3
            injection e1 with e1
            injection e1 with e1 e4 e5
            omega
        have HA : Hid (Own wr (w.heap.size + 3) 75 3 (.slice rp p.nq rc) p.nq (saF (sA A p.S i)) ∧ Own wr wy.heap.size 51 6 u6 i (seF (evS p.S)) ∧ Kb (fun k => some k = (Value.slice rp p.nq rc).ownBlock) wy wr ∧ Below (w.heap.size + 3) wy wr ∧ (p.S i).d = (dn : Int) ∧ cntS p.S i (dn : Int) = cn ∧ rp = some ⟨g, 0, none⟩ ∧ wr.heap[w.heap.size + 2]? = some (.cells #[.slice rp p.nq rc, .slice none 0 0, .slice none 0 0] 39 (0, 0)) ∧ g < wy.heap.size ∧ w.heap.size + 3 ≤ g) := ⟨hrow, hev, hkr, hbr, hdn, hcn, hrp, hatr, hgy, hgl.1⟩
        have hpb : (wr.alloc (.cells #[.int .u64 (p.S i).t, .int .i64 (dn : Int), .int .i64 (p.S i).k, .int .i64 (p.S i).v] 68)).drew.heap[wr.heap.size]? = some (.cells #[.int .u64 (p.S i).t, .int .i64 (dn : Int), .int .i64 (p.S i).k, .int .i64 (p.S i).v] 68 (0, 0)) := World.alloc_heap_new wr _
        have hba : Below wr.heap.size wr (wr.alloc (.cells #[.int .u64 (p.S i).t, .int .i64 (dn : Int), .int .i64 (p.S i).k, .int .i64 (p.S i).v] 68)).drew := ((Below.refl _ wr).alloc (Nat.le_refl _) _).drew
        obtain ⟨at0, _, _⟩ := cells3p hatr
        rw [hrp] at at0
        have KP0 : (wr.alloc (.cells #[.int .u64 (p.S i).t, .int .i64 (dn : Int), .int .i64 (p.S i).k, .int .i64 (p.S i).v] 68)).drew.cell? ⟨wr.heap.size, 0, none⟩ = some (.int .u64 (p.S i).t) ∧ (wr.alloc (.cells #[.int .u64 (p.S i).t, .int .i64 (dn : Int), .int .i64 (p.S i).k, .int .i64 (p.S i).v] 68)).drew.cell? ⟨wr.heap.size, 1, none⟩ = some (.int .i64 (dn : Int)) ∧ (wr.alloc (.cells #[.int .u64 (p.S i).t, .int .i64 (dn : Int), .int .i64 (p.S i).k, .int .i64 (p.S i).v] 68)).drew.cell? ⟨g, dn * 3 + 2, none⟩ = some (.int .u64 (cn : Int)) ∧ (wr.alloc (.cells #[.int .u64 (p.S i).t, .int .i64 (dn : Int), .int .i64 (p.S i).k, .int .i64 (p.S i).v] 68)).drew.cell? ⟨w.heap.size + 2, 0, none⟩ = some (.slice (some ⟨g, 0, none⟩) p.nq rc) := ⟨by unfold World.cell?; rw [hpb]; rfl, by unfold World.cell?; rw [hpb]; rfl, (cell_below (W := wr) (a := ⟨g, dn * 3 + 2, none⟩) hba hgl.2).trans q2', (cell_below (W := wr) (a := ⟨w.heap.size + 2, 0, none⟩) hba (lt_of_block hatr)).trans at0⟩
        rw [hpp] at c3
        rw [hpp]
        clear hrow hrow' hev hkr hbr hdn hcn hc hl hpp hbw q0 q1 q2 hd0 hd1 hcl hpb hba hrp hatr hresr hboxr c0 c1 c2 c4 c5 c6 c7 c8 hgl hgy hyl
        go_upto_region 12 with fail
        go_region_held3 (fun w' => w'.cell? ⟨wr.heap.size, 0, none⟩ = some (.int .u64 (p.S i).t) ∧ w'.cell? ⟨wr.heap.size, 1, none⟩ = some (.int .i64 (dn : Int)) ∧ w'.cell? ⟨g, dn * 3 + 2, none⟩ = some (.int .u64 (cn : Int)) ∧ w'.cell? ⟨w.heap.size + 2, 0, none⟩ = some (.slice (some ⟨g, 0, none⟩) p.nq rc)) (first | with_reducible exact KP0 | go_keep) (fail)
        obtain ⟨w5, hw5⟩ : ∃ w5, ((wr.alloc (.cells #[.int .u64 (p.S i).t, .int .i64 (dn : Int), .int .i64 (p.S i).k, .int .i64 (p.S i).v] 68)).alloc (.cells #[.int .u64 (p.S i).t, .int .i64 (dn : Int), .int .u64 (cn : Int)] 49)).drew = w5 := ⟨_, rfl⟩
        rw [hw5]
        have h5a : w5.heap[wr.heap.size]? = some (.cells #[.int .u64 (p.S i).t, .int .i64 (dn : Int), .int .i64 (p.S i).k, .int .i64 (p.S i).v] 68 (0, 0)) := by
          rw [← hw5]
          show ((wr.alloc _).alloc _).heap[_]? = _
          rw [Below.heap_alloc _ _ _ (by simp)]
          exact World.alloc_heap_new wr _
        have h5b : w5.heap[wr.heap.size + 1]? = some (.cells #[.int .u64 (p.S i).t, .int .i64 (dn : Int), .int .u64 (cn : Int)] 49 (0, 0)) := by
          rw [← hw5]
          have := World.alloc_heap_new (wr.alloc (.cells #[.int .u64 (p.S i).t, .int .i64 (dn : Int), .int .i64 (p.S i).k, .int .i64 (p.S i).v] 68)) (.cells #[.int .u64 (p.S i).t, .int .i64 (dn : Int), .int .u64 (cn : Int)] 49)
          rw [World.size_alloc] at this
          exact this
        have h5c : Below wr.heap.size wr w5 := by rw [← hw5]; exact (((Below.refl _ wr).alloc (Nat.le_refl _) _).alloc (by simp) _).drew
        obtain ⟨n1, n2, n3, n4, n5, n6, n7, n8, n9, n10⟩ := HA.out
        have hba : Below w5.heap.size w5 (w5.alloc (.cells (seL ⟨(p.S i).t, (dn : Int), (cn : Int), (dn : Int), (p.S i).k, (p.S i).v⟩).toArray 51)) := (Below.refl _ w5).alloc (Nat.le_refl _) _
        have hwa : Below wr.heap.size wr (w5.alloc (.cells (seL ⟨(p.S i).t, (dn : Int), (cn : Int), (dn : Int), (p.S i).k, (p.S i).v⟩).toArray 51)) := h5c.trans (hba.mono h5c.size)
        have hz5 := hwa.size
        have hzk := n3.size
        have HAP : Hid ((w5.alloc (.cells (seL ⟨(p.S i).t, (dn : Int), (cn : Int), (dn : Int), (p.S i).k, (p.S i).v⟩).toArray 51)).ownsRow wy.heap.size 51 6 u6 i (cellsF (seF (evS p.S)) (i * 6)) ∧ (∀ j y, (seL ⟨(p.S i).t, (dn : Int), (cn : Int), (dn : Int), (p.S i).k, (p.S i).v⟩)[j]? = some y → (w5.alloc (.cells (seL ⟨(p.S i).t, (dn : Int), (cn : Int), (dn : Int), (p.S i).k, (p.S i).v⟩).toArray 51)).cell? ((⟨w5.heap.size, 0, none⟩ : Addr).add j) = some y) ∧ wy.heap.size ≤ (w5.alloc (.cells (seL ⟨(p.S i).t, (dn : Int), (cn : Int), (dn : Int), (p.S i).k, (p.S i).v⟩).toArray 51)).heap.size) := ⟨World.ownsRow.alloc (srow_later n2 h5c) _, scells_new w5 _ _, by omega⟩
        have n8' := n8
        rw [n7] at n8'
        have HAQ : Hid (Below wr.heap.size wr (w5.alloc (.cells (seL ⟨(p.S i).t, (dn : Int), (cn : Int), (dn : Int), (p.S i).k, (p.S i).v⟩).toArray 51)) ∧ (w5.alloc (.cells (seL ⟨(p.S i).t, (dn : Int), (cn : Int), (dn : Int), (p.S i).k, (p.S i).v⟩).toArray 51)).heap[w.heap.size + 2]? = some (.cells #[.slice (some ⟨g, 0, none⟩) p.nq rc, .slice none 0 0, .slice none 0 0] 39 (0, 0)) ∧ (w5.alloc (.cells (seL ⟨(p.S i).t, (dn : Int), (cn : Int), (dn : Int), (p.S i).k, (p.S i).v⟩).toArray 51)).heap[wr.heap.size]? = some (.cells #[.int .u64 (p.S i).t, .int .i64 (dn : Int), .int .i64 (p.S i).k, .int .i64 (p.S i).v] 68 (0, 0)) ∧ (∀ k, u6.ownBlock = some k → wy.heap.size ≤ k ∧ k < wr.heap.size) ∧ ARow (w5.alloc (.cells (seL ⟨(p.S i).t, (dn : Int), (cn : Int), (dn : Int), (p.S i).k, (p.S i).v⟩).toArray 51)) (w.heap.size + 3) g p.nq rc (sA A p.S i)) := ⟨hwa, (hwa.block _ (lt_of_block n8')).trans n8', (hba.block _ (lt_of_block h5a)).trans h5a, fun k hk => srow_lt n2 k hk, by rw [n7] at n1; exact Own.later n1 hwa⟩
        have p1 : i + 1 ≤ maxLen := by unfold maxLen; omega
        have p2 : (i + 1) * 48 ≤ 140737488355328 := by omega
        have hgw : g < wr.heap.size := by omega
        obtain ⟨a0, a1, a2, a3⟩ := cells4p h5a
        obtain ⟨b0, b1, b2⟩ := cells3p h5b
        clear n1 n2 n3 n4 n5 n6 n7 n8 n8' n9 n10 hba hwa hz5 hzk h5a h5b h5c hw5 KP0
        go_upto_region 14 with (at_builtin; refine wpList_append_own_at _ rfl _ _ 23 rfl wy.heap.size 51 iE _ 6 48 Try.underlying23 hE1 hE2 hE3 hE4 rfl (by decide) _ _ _ rfl HAP.out.1 ⟨w5.heap.size, 0, none⟩ 1 1 (seL ⟨(p.S i).t, (dn : Int), (cn : Int), (dn : Int), (p.S i).k, (p.S i).v⟩) rfl rfl HAP.out.2.1 (by simp [seL, Value.oneCell']) p1 p2 HAP.out.2.2 ?_; intro v' w9 hown9 hgrow9 _ hnb9)
        obtain ⟨m1, m2, m3, m4, m5⟩ := HAQ.out
        obtain ⟨n1, n2, n3, n4, n5, n6, n7, n8, n9, n10⟩ := HA.out
        have hgrow9 : (w5.alloc (.cells (seL ⟨(p.S i).t, (dn : Int), (cn : Int), (dn : Int), (p.S i).k, (p.S i).v⟩).toArray 51)).grownBy w9 u6.ownBlock := hgrow9
        have hz5 := m1.size
        have hzk := n3.size
        have hzg := hgrow9.size
        have hyl := HXL.out
        have hx9 := (hgrow9.block _ (lt_of_block m2) (fun e => absurd (m4 _ e.symm).1 (by omega))).trans m2
        have hs9 := (hgrow9.block _ (lt_of_block m3) (fun e => absurd (m4 _ e.symm).2 (by omega))).trans m3
        have hr9 : ARow w9 (w.heap.size + 3) g p.nq rc (sA A p.S i) := Own.far m5 fun k hk => by
          have e9 : g = k := by injection hk
          exact hgrow9.block k (by omega) (fun e => absurd (m4 _ e.symm).1 (by omega))
        rw [se_app (evS p.S) (evS p.S) i ⟨(p.S i).t, (dn : Int), (cn : Int), (dn : Int), (p.S i).k, (p.S i).v⟩ (fun _ _ => rfl) (by unfold evS; rw [n5, n6])] at hown9
        have ho9 : Own w9 wy.heap.size 51 6 v' (i + 1) (seF (evS p.S)) := hown9
        have hb9 : Below (w.heap.size + 3) wy w9 := (n4.trans (m1.mono (by omega))).grown hgrow9 (by omega) (fun k hk => by have := (m4 k hk).1; omega)
        obtain ⟨e0, _, _⟩ := cells3p hx9
        obtain ⟨d0, d1, d2, d3⟩ := cells4p hs9
        obtain ⟨_, _, q29⟩ := hr9.cells hdl
        have q29' : w9.cell? ⟨g, dn * 3 + 2, none⟩ = some (.int .u64 (cn : Int)) := by rw [← n6]; exact q29
        have r09 := hr9.fz (dn * 3 + 2)
        have H9 : Hid (ARow w9 (w.heap.size + 3) g p.nq rc (sA A p.S i) ∧ Own w9 wy.heap.size 51 6 v' (i + 1) (seF (evS p.S)) ∧ Below (w.heap.size + 3) wy w9 ∧ (w5.alloc (.cells (seL ⟨(p.S i).t, (dn : Int), (cn : Int), (dn : Int), (p.S i).k, (p.S i).v⟩).toArray 51)).grownBy w9 u6.ownBlock) := ⟨hr9, ho9, hb9, hgrow9⟩
        clear n1 n2 n3 n4 n5 n6 n7 n8 n9 n10 m1 m2 m3 m4 m5 hz5 hzk hzg hx9 hs9 hr9 ho9 hb9 hown9 hnb9 a0 a1 a2 a3 b0 b1 b2 q29 hyl
        go_wp2_with fail
        obtain ⟨m1, m2, m3, m4, m5⟩ := HAQ.out
        obtain ⟨n1, n2, n3, n4, n5, n6, n7, n8, n9, n10⟩ := HA.out
        obtain ⟨l1, l2, l3, l4⟩ := H9.out
        have hz5 := m1.size
        have hzk := n3.size
        have hzg := l4.size
        have hvb := Own.lt l2
        refine ⟨⟨i + 1, rfl, hlt, ?_, ?_, ⟨?_, fun k hk hs => ?_⟩, ?_⟩, hm⟩
        · have h9 := l1.put2 dn ((cn : Int) + 1)
          rw [← n6] at h9 ⊢
          rw [sA_step A p.S i dn n5] at h9
          rw [n7]
          exact h9
        · exact Own.far l2 fun k hk => Below.heap_setCell _ _ _ _ (by have := (hvb k hk).1; show k ≠ g; omega)
        · have : (w9.setCell ⟨g, dn * 3 + 2, none⟩ (.int .u64 ((cn : Int) + 1))).heap.size = w9.heap.size := by simp [World.setCell]
          omega
        · have hkg : k ≠ g := fun e => hs (by rw [n7, e]; rfl)
          rw [Below.heap_setCell _ _ _ _ hkg, l4.block k (by omega) (fun e => absurd (m4 _ e.symm).1 (by omega)), m1.block k (by omega)]
          exact n3.block k hk hs
        · exact l3.setCell (p := ⟨g, dn * 3 + 2, none⟩) n10 _
      have dlt : decide ((i : Int) < (p.ns : Int)) = false := by simp; omega
      obtain rfl : i = p.ns := by omega
      obtain ⟨lp, lc, rfl⟩ := own_slice hev
      have HO := rorder_any lp p.ns lc (evS p.S) (by omega) wr (own_sin0 hev)
      have HF : Hid (Own wr (w.heap.size + 3) 75 3 (.slice rp p.nq rc) p.nq (saF (sA A p.S p.ns)) ∧ Kb (fun k => some k = (Value.slice rp p.nq rc).ownBlock) wy wr ∧ Below (w.heap.size + 3) wy wr ∧ wr.heap[w.heap.size + 1]? = some (.cells #[.slice none 0 0, .slice none 0 0, .slice none 0 0] 39 (0, 0)) ∧ wr.heap[w.heap.size + 2]? = some (.cells #[.slice rp p.nq rc, .slice none 0 0, .slice none 0 0] 39 (0, 0)) ∧ Below w.heap.size w wr) := ⟨hrow, hkr, hbr, hresr, hatr, hbw⟩
      clear hrow hev hkr hbr hresr hboxr hbw hatr hyl
      go_upto_region 16 with (go_at_call 7; (with_reducible refine HO.mono ?_); rintro e w7 ⟨ov, d, rfl, h71, h72, h73, h74⟩; obtain ⟨op, oc, rfl⟩ := own_slice h71; have hr7 := (h74.block _ (lt_of_block HF.out.2.2.2.1)).trans HF.out.2.2.2.1; have ha7 := (h74.block _ (lt_of_block HF.out.2.2.2.2.1)).trans HF.out.2.2.2.2.1; have H7 : Hid (Own w7 wr.heap.size 51 6 (.slice op p.ns oc) p.ns (seF d) ∧ Stb klt 0 p.ns (evS p.S) d ∧ Srt klt 0 p.ns d ∧ Below wr.heap.size wr w7 ∧ w7.heap[w.heap.size + 1]? = some (.cells #[.slice none 0 0, .slice none 0 0, .slice none 0 0] 39 (0, 0)) ∧ w7.heap[w.heap.size + 2]? = some (.cells #[.slice rp p.nq rc, .slice none 0 0, .slice none 0 0] 39 (0, 0))) := ⟨h71, h72, h73, h74, hr7, ha7⟩; have z1 := frz ha7 1; obtain ⟨v0, v1, v2⟩ := cells3p ha7; clear h71 h72 h73 h74 hr7 ha7)
      obtain ⟨w8, hw8⟩ : ∃ w8, w7.setCell ⟨w.heap.size + 2, 1, none⟩ (.slice op p.ns oc) = w8 := ⟨_, rfl⟩
      have hat8 : w8.heap[w.heap.size + 2]? = some (.cells #[.slice rp p.nq rc, .slice op p.ns oc, .slice none 0 0] 39 (0, 0)) := by rw [← hw8, setCell_block _ _ _ _ H7.out.2.2.2.2.2]; rfl
      have hrs8 : w8.heap[w.heap.size + 1]? = some (.cells #[.slice none 0 0, .slice none 0 0, .slice none 0 0] 39 (0, 0)) := by
        rw [← hw8, Below.heap_setCell _ _ _ _ (by show w.heap.size + 1 ≠ w.heap.size + 2; omega)]
        exact H7.out.2.2.2.2.1
      have HK8 : Hid (Kb (fun k => k = w.heap.size + 2) w7 w8 ∧ w8.heap[w.heap.size + 1]? = some (.cells #[.slice none 0 0, .slice none 0 0, .slice none 0 0] 39 (0, 0)) ∧ (∀ B w0, Below B w0 w7 → B ≤ w.heap.size + 2 → Below B w0 w8)) := by
        refine ⟨by rw [← hw8]; exact Kb.set w7 _ _ _ rfl, hrs8, fun B w0 h9 h8 => by rw [← hw8]; exact h9.setCell (p := ⟨w.heap.size + 2, 1, none⟩) h8 _⟩
      have hw8' : w7.setCell ⟨w.heap.size + 1 + 1, 1, none⟩ (.slice op p.ns oc) = w8 := hw8
      rw [hw8']
      clear v0 v1 v2 z1 hw8 hw8'
      obtain ⟨k0, k1, k2⟩ := cells3p hat8
      obtain ⟨l0, l1, l2⟩ := cells3p hrs8
      have z0 := frz hrs8 0
      have z1 := frz hrs8 1
      have z2 := frz hrs8 2
      clear hat8 hrs8
      go_wp2_with fail
      generalize hWF : (World.setCell (World.setCell (World.setCell w8 _ _) _ _) _ _) = wF
      obtain ⟨q1, q2, q3, q4⟩ := put3 HK8.out.2.1 _ _ _ wF hWF
      obtain ⟨e0, e1, e2⟩ := cells3p q1
      refine bodyPost_ret (v := .agg #[.slice rp p.nq rc, .slice op p.ns oc, .slice none 0 0]) (by simp [results, Try.results20, go_sem, e0, e1, e2]; try rfl) rfl ?_
      obtain ⟨x1, x2, x3, x4, x5, x6, x7⟩ := HX.out
      obtain ⟨f1, f2, f3, f4, f5, f6⟩ := HF.out
      obtain ⟨h1, h2, h3, h4, h5, h6⟩ := H7.out
      have hyl := HXL.out
      have hz4 := h4.size
      have hzr := f2.size
      have hfl := Own.lt f1
      have hel := Own.lt h1
      have hz8 := HK8.out.1.size
      have kbF : Kb (fun k => k = w.heap.size + 1 ∨ k = w.heap.size + 2) w7 wF := (HK8.out.1.mono fun k e => .inr e).trans ⟨by omega, fun k _ hs => q2 k fun e => hs (.inl e)⟩
      have kbA : Kb (fun k => some k = (Value.slice rp p.nq rc).ownBlock ∨ (k = w.heap.size + 1 ∨ k = w.heap.size + 2)) wy wF := ((f2.mono fun k e => .inl e).trans (Kb.below h4)).trans (kbF.mono fun k e => .inr e)
      have hrF : Own wF (w.heap.size + 3) 75 3 (.slice rp p.nq rc) p.nq (saF (sA A p.S p.ns)) := Own.far (Own.later f1 h4) fun k hk => kbF.block k (by have := (hfl k hk).2; omega) (by have := (hfl k hk).1; show ¬ (k = _ ∨ k = _); omega)
      have hkF : ∀ j, j < p.nq → KAt wF (sA A p.S p.ns j).p (sA A p.S p.ns j).n (p.K j) := fun j hj => by
        obtain ⟨a1, a2, a3, a4, a5⟩ := x2 j hj
        show KAt wF (A j).p (A j).n (p.K j)
        rw [a1]
        refine a4.kb kbA fun g' o' e' h9 => ?_
        obtain ⟨b1, b2, b3⟩ := a5 g' o' e'
        rcases h9 with h9 | h9
        · exact b3 h9
        · omega
      obtain ⟨qq, cc, e9, hss⟩ := own_ss hrF hkF
      injection e9 with e8 e7 e6
      subst e8
      subst e6
      have hsF : SIn wF op p.ns d := own_sin0 (Own.far h1 fun k hk => kbF.block k (hel k hk).2 (by have := (hel k hk).1; show ¬ (k = _ ∨ k = _); omega))
      refine ⟨_, _, _, _, _, d, rfl, hss, fun j hj => ⟨(x2 j hj).1, (x2 j hj).2.1, rfl⟩, hsF, h2, h3, ?_⟩
      have hbF : Below w.heap.size w w7 := f6.trans (h4.mono f6.size)
      exact q3 _ _ (HK8.out.2.2 _ _ hbF (by omega)) (by omega)
end Go.Proofs.Ytjfefjlajgpkaaa
