import Derived.Test.YtagchghhpggnlaaGreatZFS2
namespace Go.Proofs.YtagchghhpggnlaaGreat
open Go.ChangeShapes Go.WideShapes Go.ChangeAt Go.RowKit
set_option linter.unusedVariables false
set_option linter.unusedSimpArgs false

theorem mdA (n j : Nat) (hj : j < n * 3) : (madeCells (Value.agg #[.slice none 0 0, .int .u64 0, .int .u64 0]).cells (n * 3)).toList.getD j undef = saF (fun _ => ⟨none, 0, 0, 0, 0⟩) j := by
  unfold madeCells saF saL
  have h6 : (Value.agg #[.slice none 0 0, .int .u64 0, .int .u64 0]).cells.size = 3 := rfl
  have hm : j % 3 = 0 ∨ j % 3 = 1 ∨ j % 3 = 2 := by omega
  simp [hj, h6]
  rcases hm with h | h | h <;> rw [h] <;> rfl
theorem mdE (n j : Nat) (hj : j < n * 6) : (madeCells (Value.agg #[.int .u64 0, .int .i64 0, .int .u64 0, .int .i64 0, .int .i64 0, .int .i64 0]).cells (n * 6)).toList.getD j undef = seF (fun _ => ⟨0, 0, 0, 0, 0, 0⟩) j := by
  unfold madeCells seF seC seL
  have h6 : (Value.agg #[.int .u64 0, .int .i64 0, .int .u64 0, .int .i64 0, .int .i64 0, .int .i64 0]).cells.size = 6 := rfl
  have hm : j % 6 = 0 ∨ j % 6 = 1 ∨ j % 6 = 2 ∨ j % 6 = 3 ∨ j % 6 = 4 ∨ j % 6 = 5 := by omega
  simp [hj, h6]
  rcases hm with h | h | h | h | h | h <;> rw [h] <;> rfl
/-- one more state is laid -/
theorem AOk.more {W W' : World} {p : Pl} {r : Value} {b i : Nat} {A : Nat → Sa} {q : Option Addr} {c : Nat} (h : AOk W p r b A i) (hk : Kb (fun k => some k = r.ownBlock) W W') (hq : KAt W' q (p.nw i) (p.K i)) (he : EA W' r b q) : AOk W' p r b (setS A i ⟨q, p.nw i, c, dz p.sd i, 0⟩) (i + 1) := fun j hj => by
  unfold setS
  by_cases e : j = i
  · rw [if_pos e, e]
    exact ⟨rfl, rfl, rfl, hq, he⟩
  · rw [if_neg e]
    exact h.kb hk j (by omega)
theorem KPX {D w3 : World} {b a k m : Nat} {x y : Value} (h1 : D.heap.size = b + 1) (h2 : a < b) (hb : Below D.heap.size D w3) (h : D.cell? ⟨b, k, none⟩ = some x ∧ D.cell? ⟨a, m, none⟩ = some y) : w3.cell? ⟨b, k, none⟩ = some x ∧ w3.cell? ⟨a, m, none⟩ = some y := ⟨(cell_below (a := ⟨b, k, none⟩) hb (by show b < _; omega)).trans h.1, (cell_below (a := ⟨a, m, none⟩) hb (by show a < _; omega)).trans h.2⟩
theorem KPS {W : World} {g b a k m o1 o2 o3 : Nat} {x y x1 x2 x3 : Value} (h1 : b ≠ g) (h2 : a ≠ g) (h : W.cell? ⟨b, k, none⟩ = some x ∧ W.cell? ⟨a, m, none⟩ = some y) : (((W.setCell ⟨g, o1, none⟩ x1).setCell ⟨g, o2, none⟩ x2).setCell ⟨g, o3, none⟩ x3).cell? ⟨b, k, none⟩ = some x ∧ (((W.setCell ⟨g, o1, none⟩ x1).setCell ⟨g, o2, none⟩ x2).setCell ⟨g, o3, none⟩ x3).cell? ⟨a, m, none⟩ = some y := by
  have key : ∀ j, j ≠ g → (((W.setCell ⟨g, o1, none⟩ x1).setCell ⟨g, o2, none⟩ x2).setCell ⟨g, o3, none⟩ x3).heap[j]? = W.heap[j]? := fun j hj => by
    rw [Below.heap_setCell _ _ _ _ hj, Below.heap_setCell _ _ _ _ hj, Below.heap_setCell _ _ _ _ hj]
  exact ⟨(World.cell?_of_block (key b h1)).trans h.1, (World.cell?_of_block (key a h2)).trans h.2⟩
set_option maxRecDepth 100000 in
set_option maxHeartbeats 8000000 in
theorem firstPoint_any (p : Pl) (v : PlV) (w : World) (h : PlAt w p v) (hr : RoomyL p) (hT : GT p) (hS : GS p) : Calls Tryz.prog 51 #[.agg #[.int .i64 p.ki, .slice v.pp p.np v.pc, .slice v.tp p.nq v.tc, .slice v.sp p.ns v.sc, .int .u64 p.sd, .int .u64 p.lk, .int .u64 p.en, .int .i64 p.bu, .int .i64 p.fu]] w fun e w' => ∃ (q : Option Addr) (c : Nat) (A : Nat → Sa) (q2 : Option Addr) (c2 : Nat) (d : Nat → Se), e = .returned (.agg #[.slice q p.nq c, .slice q2 p.ns c2, .slice none 0 0]) ∧ SsAt w' q p.nq A p.K ∧ (∀ j, j < p.nq → (A j).n = p.nw j ∧ (A j).d = dz p.sd j ∧ (A j).s = (cntS p.S p.ns (j : Int) : Nat)) ∧ SIn w' q2 p.ns d ∧ Stb klt 0 p.ns (evS p.S) d ∧ Srt klt 0 p.ns d ∧ Below w.heap.size w w' := by
  obtain ⟨iA, hA1, hA2, hA3, hA4⟩ := sinfo infoSA
  obtain ⟨iE, hE1, hE2, hE3, hE4⟩ := sinfo infoSE
  obtain ⟨wb, hwb⟩ : ∃ wb, (w.alloc (.cells #[.int .i64 p.ki, .slice v.pp p.np v.pc, .slice v.tp p.nq v.tc, .slice v.sp p.ns v.sc, .int .u64 p.sd, .int .u64 p.lk, .int .u64 p.en, .int .i64 p.bu, .int .i64 p.fu] 27)).alloc (.cells #[.slice none 0 0, .slice none 0 0, .slice none 0 0] 56) = wb := ⟨_, rfl⟩
  have hb0 : Below w.heap.size w wb := by rw [← hwb]; exact ((Below.refl _ w).alloc (Nat.le_refl _) _).alloc (by simp) _
  have hbox : wb.heap[w.heap.size]? = some (.cells #[.int .i64 p.ki, .slice v.pp p.np v.pc, .slice v.tp p.nq v.tc, .slice v.sp p.ns v.sc, .int .u64 p.sd, .int .u64 p.lk, .int .u64 p.en, .int .i64 p.bu, .int .i64 p.fu] 27 (0, 0)) := by
    rw [← hwb, Below.heap_alloc _ _ _ (by simp)]
    exact World.alloc_heap_new w _
  have hres : wb.heap[w.heap.size + 1]? = some (.cells #[.slice none 0 0, .slice none 0 0, .slice none 0 0] 56 (0, 0)) := by
    rw [← hwb]
    have := World.alloc_heap_new (w.alloc (.cells #[.int .i64 p.ki, .slice v.pp p.np v.pc, .slice v.tp p.nq v.tc, .slice v.sp p.ns v.sc, .int .u64 p.sd, .int .u64 p.lk, .int .u64 p.en, .int .i64 p.bu, .int .i64 p.fu] 27)) (.cells #[.slice none 0 0, .slice none 0 0, .slice none 0 0] 56)
    rwa [World.size_alloc] at this
  have HSZ : Hid (wb.heap.size = w.heap.size + 2) := by show wb.heap.size = w.heap.size + 2; rw [← hwb]; simp
  have HW : Hid ((w.alloc (.cells #[.int .i64 p.ki, .slice v.pp p.np v.pc, .slice v.tp p.nq v.tc, .slice v.sp p.ns v.sc, .int .u64 p.sd, .int .u64 p.lk, .int .u64 p.en, .int .i64 p.bu, .int .i64 p.fu] 27)).alloc (.cells #[.slice none 0 0, .slice none 0 0, .slice none 0 0] 56) = wb) := hwb
  have HP : Hid (PlAt wb p v) := h.below hb0
  have HR : Hid (RoomyL p) := hr
  have HT : Hid (GT p) := hT
  have HS : Hid (GS p) := hS
  have hnq := hT.1
  have hns := hS.1
  clear h hr hT hS
  obtain ⟨⟨c0, c1, c2, c3⟩, c4, c5, c6, c7, c8⟩ := cells9 hbox
  rw [← hwb] at c0 c1 c2 c3 c4 c5 c6 c7 c8
  clear hwb
  go_enter Tryz.func51, Tryz.ntmps51
  go_wp2_with (at_make; rw [HW.out]; refine wpList_make_full _ rfl (.tmp 12) (.tmp 12) 33 rfl wb.heap.size 46 iA _ 3 Tryz.underlying33 hA1 hA2 hA3 .i64 .i64 p.nq p.nq p.nq rfl rfl rfl rfl ?c1 ?c2 ?c3 ?_)
  case c1 => rw [hA4]; omega
  case c2 => unfold maxLen; omega
  case c3 => exact Nat.le_refl _
  intro w1 hown hgrow
  have hb1 : Below wb.heap.size wb w1 := (Below.refl _ _).grown hgrow (Nat.le_refl _) (by simp)
  obtain ⟨g, hg⟩ : ∃ g, wb.heap.size = g := ⟨_, rfl⟩
  rw [hg] at hown hb1
  have hrow : ARow w1 g g p.nq p.nq (fun _ => ⟨none, 0, 0, 0, 0⟩) := (own_of_row hown).congr fun j hj => mdA p.nq j hj
  have hbx1 := (hb1.block w.heap.size (by have := HSZ.out; omega)).trans hbox
  have HROW : Hid (ARow w1 g g p.nq p.nq (fun _ => ⟨none, 0, 0, 0, 0⟩) ∧ Below g wb w1) := ⟨hrow, hb1⟩
  have HG : Hid (wb.heap.size = g ∧ wb.heap.size = w.heap.size + 2) := ⟨hg, HSZ.out⟩
  clear c0 c1 c2 c3 c4 c5 c6 c7 c8 hown hgrow hrow hb1
  obtain ⟨⟨c0, c1, c2, c3⟩, c4, c5, c6, c7, c8⟩ := cells9 hbx1
  rw [hg]
  clear hbx1 hg
  go_wp2_with fail
  clear c0 c1 c2 c3 c4 c5 c6 c7 c8
  obtain ⟨wx, hwx⟩ : ∃ wx, wx = w1 := ⟨_, rfl⟩
  go_loopw [17] (fun x wr => ∃ (i : Nat) (A : Nat → Sa), x = .int .i64 (i : Int) ∧ i ≤ p.nq ∧ ARow wr g g p.nq p.nq A ∧ AOk wr p (.slice (some ⟨g, 0, none⟩) p.nq p.nq) g A i ∧ Below g wb wr) (fun x _ => p.nq - (intOf x).toNat)
  case atStart => exact ⟨0, _, rfl, Nat.zero_le _, HROW.out.1, fun j hj => absurd hj (Nat.not_lt_zero _), HROW.out.2⟩
  case round =>
    obtain ⟨i, A, rfl, hi, hrow, hok, hbr⟩ := hrel
    have hgs := HG.out
    have hboxr := (hbr.block w.heap.size (by omega)).trans hbox
    have hresr := (hbr.block (w.heap.size + 1) (by omega)).trans hres
    by_cases hlt : i < p.nq
    case pos =>
      have dlt : decide ((i : Int) < (p.nq : Int)) = true := by simp; omega
      have i0 : (0 : Int) ≤ (i : Int) := by omega
      have i1 : (i : Int) < (p.nq : Int) := by omega
      have ei : IntKind.i64.wrap ((i : Int) + 1) = (i : Int) + 1 := by rw [IntKind.wrap_i64]; omega
      have hm := meas hlt
      have hbw : Below wb.heap.size wb wr := by rw [hgs.1]; exact hbr
      obtain hz | ⟨gt, ot, hpp, hl, hc, hpa⟩ := (HP.out.below hbw).ts
      · omega
      obtain ⟨y0, y1⟩ := hc i hlt
      have hba : Below wr.heap.size wr (wr.alloc (.cells #[.int .i64 (p.pr i), .slice (v.wp i) (p.nw i) (v.wc i)] 87)).drew := ((Below.refl _ wr).alloc (Nat.le_refl _) _).drew
      have hpb : (wr.alloc (.cells #[.int .i64 (p.pr i), .slice (v.wp i) (p.nw i) (v.wc i)] 87)).drew.heap[wr.heap.size]? = some (.cells #[.int .i64 (p.pr i), .slice (v.wp i) (p.nw i) (v.wc i)] 87 (0, 0)) := World.alloc_heap_new wr _
      have hsb : (wr.alloc (.cells #[.int .i64 (p.pr i), .slice (v.wp i) (p.nw i) (v.wc i)] 87)).drew.heap.size = wr.heap.size + 1 := World.size_alloc wr _
      have HC := clone_any (v.wp i) (p.nw i) (v.wc i) (p.K i) (wr.alloc (.cells #[.int .i64 (p.pr i), .slice (v.wp i) (p.nw i) (v.wc i)] 87)).drew (HR.out.nw i hlt) ((hpa i hlt).below hba)
      have HD := fun w' => seed_any p.sd (i : Int) w'
      obtain ⟨dv, hdv⟩ : ∃ dv, U (sd (B p.sd) (B (i : Int))) = dv := ⟨_, rfl⟩
      rw [hdv] at HD
      have HDV : Hid (dz p.sd i = dv) := hdv
      have hgl := hrow.lt
      have f0 := hrow.fz (i * 3)
      have f1 := hrow.fz (i * 3 + 1)
      have f2 := hrow.fz (i * 3 + 2)
      obtain ⟨k0, k1, k2⟩ := hrow.cells hlt
      have HA : Hid (ARow wr g g p.nq p.nq A ∧ AOk wr p (.slice (some ⟨g, 0, none⟩) p.nq p.nq) g A i ∧ Below g wb wr ∧ Below wr.heap.size wr (wr.alloc (.cells #[.int .i64 (p.pr i), .slice (v.wp i) (p.nw i) (v.wc i)] 87)).drew ∧ (wr.alloc (.cells #[.int .i64 (p.pr i), .slice (v.wp i) (p.nw i) (v.wc i)] 87)).drew.heap[wr.heap.size]? = some (.cells #[.int .i64 (p.pr i), .slice (v.wp i) (p.nw i) (v.wc i)] 87 (0, 0)) ∧ (wr.alloc (.cells #[.int .i64 (p.pr i), .slice (v.wp i) (p.nw i) (v.wc i)] 87)).drew.heap.size = wr.heap.size + 1 ∧ wr.heap[w.heap.size]? = some (.cells #[.int .i64 p.ki, .slice v.pp p.np v.pc, .slice v.tp p.nq v.tc, .slice v.sp p.ns v.sc, .int .u64 p.sd, .int .u64 p.lk, .int .u64 p.en, .int .i64 p.bu, .int .i64 p.fu] 27 (0, 0))) := ⟨hrow, hok, hbr, hba, hpb, hsb, hboxr⟩
      rw [hpp]
      have KP0 : (wr.alloc (.cells #[.int .i64 (p.pr i), .slice (v.wp i) (p.nw i) (v.wc i)] 87)).drew.cell? ⟨wr.heap.size, 1, none⟩ = some (.slice (v.wp i) (p.nw i) (v.wc i)) ∧ (wr.alloc (.cells #[.int .i64 (p.pr i), .slice (v.wp i) (p.nw i) (v.wc i)] 87)).drew.cell? ⟨w.heap.size, 4, none⟩ = some (.int .u64 p.sd) := ⟨by unfold World.cell?; rw [hpb]; rfl, ((cell_below (W := wr) (a := ⟨w.heap.size, 4, none⟩) hba (lt_of_block hboxr)).trans (cells9 hboxr).2.1)⟩
      have hn1 : wr.heap.size ≠ g := by omega
      have hlw : w.heap.size < wr.heap.size := by omega
      have hn2 : w.heap.size ≠ g := by omega
      clear hdv hc hpa hrow hok hbr hbw hba hboxr hresr hl hpp hpb hsb hgs f0 f1 f2 k0 k1 k2
      go_upto_region 5 with fail
      go_region_held3 (fun w' => w'.cell? ⟨wr.heap.size, 1, none⟩ = some (.slice (v.wp i) (p.nw i) (v.wc i)) ∧ w'.cell? ⟨w.heap.size, 4, none⟩ = some (.int .u64 p.sd)) (first | exact KP0 | exact KP | exact KPS hn1 hn2 KP | go_keep) (first | (go_at_call 82; (with_reducible refine HC.mono ?_); rintro e w3 ⟨q, cc, rfl, hq3, hqn3, hb3⟩; have KP : w3.cell? ⟨wr.heap.size, 1, none⟩ = some (.slice (v.wp i) (p.nw i) (v.wc i)) ∧ w3.cell? ⟨w.heap.size, 4, none⟩ = some (.int .u64 p.sd) := KPX HA.out.2.2.2.2.2.1 hlw hb3 KP0; have hrow3 : ARow w3 g g p.nq p.nq A := Own.later HA.out.1 (HA.out.2.2.2.1.trans (hb3.mono HA.out.2.2.2.1.size)); have f0 := hrow3.fz (i * 3); have f1 := hrow3.fz (i * 3 + 1); have f2 := hrow3.fz (i * 3 + 2); obtain ⟨k0, k1, k2⟩ := hrow3.cells hlt; have H3 : Hid (ARow w3 g g p.nq p.nq A ∧ KAt w3 q (p.nw i) (p.K i) ∧ (∀ g o, q = some ⟨g, o, none⟩ → (wr.alloc (.cells #[.int .i64 (p.pr i), .slice (v.wp i) (p.nw i) (v.wc i)] 87)).drew.heap.size ≤ g ∧ g < w3.heap.size) ∧ Below (wr.alloc (.cells #[.int .i64 (p.pr i), .slice (v.wp i) (p.nw i) (v.wc i)] 87)).drew.heap.size (wr.alloc (.cells #[.int .i64 (p.pr i), .slice (v.wp i) (p.nw i) (v.wc i)] 87)).drew w3) := ⟨hrow3, hq3, hqn3, hb3⟩; clear hrow3 hq3 hqn3 hb3) | (go_at_call 46; (with_reducible refine (HD _).mono ?_); rintro e ws ⟨rfl, hws⟩; subst ws))
      all_goals (
        go_wp2_with fail
        obtain ⟨j1, j2, j3, j4⟩ := H3.out
        obtain ⟨b1, b2, b3, b4, b5, b6, b7⟩ := HA.out
        have hk3 : Kb (fun k => some k = (Value.slice (some ⟨g, 0, none⟩) p.nq p.nq).ownBlock) wr w3 := Kb.below (b4.trans (j4.mono b4.size))
        have hk4 : Kb (fun k => some k = (Value.slice (some ⟨g, 0, none⟩) p.nq p.nq).ownBlock) w3 (w3.setCells g (i * 3) (saL ⟨q, p.nw i, cc, dv, 0⟩)) := kb_sets _ g (i * 3) w3 _ rfl
        have hs4 : (w3.setCells g (i * 3) (saL ⟨q, p.nw i, cc, dv, 0⟩)).heap.size = w3.heap.size := setCells_size _ _ _ _
        have hEA : EA (w3.setCells g (i * 3) (saL ⟨q, p.nw i, cc, dv, 0⟩)) (.slice (some ⟨g, 0, none⟩) p.nq p.nq) g q := fun g' o' e' => by
          obtain ⟨l1, l2⟩ := j3 g' o' e'
          refine ⟨by omega, by omega, fun e9 => ?_⟩
          have e8 : some g' = some g := e9
          injection e8 with e8
          omega
        have hA := b2.more (c := cc) (hk3.trans hk4) (j2.kb hk4 (fun g' o' e' => (hEA g' o' e').2.2)) hEA
        rw [HDV.out] at hA
        have hb9 : Below g wb w3 := b3.trans ((b4.trans (j4.mono b4.size)).mono (by omega))
        exact ⟨⟨i + 1, setS A i ⟨q, p.nw i, cc, dv, 0⟩, rfl, hlt, j1.put i ⟨q, p.nw i, cc, dv, 0⟩, hA, setCells_below (saL ⟨q, p.nw i, cc, dv, 0⟩) (i * 3) w3 hb9 (Nat.le_refl _)⟩, hm⟩)
    have dlt : decide ((i : Int) < (p.nq : Int)) = false := by simp; omega
    obtain rfl : i = p.nq := by omega
    obtain ⟨⟨c0, c1, c2, c3⟩, c4, c5, c6, c7, c8⟩ := cells9 hboxr
    obtain ⟨wy, hwy⟩ : ∃ wy, wr = wy := ⟨_, rfl⟩
    have HX : Hid (ARow wy g g p.nq p.nq A ∧ AOk wy p (.slice (some ⟨g, 0, none⟩) p.nq p.nq) g A p.nq ∧ Below g wb wy ∧ wy.heap[w.heap.size]? = some (.cells #[.int .i64 p.ki, .slice v.pp p.np v.pc, .slice v.tp p.nq v.tc, .slice v.sp p.ns v.sc, .int .u64 p.sd, .int .u64 p.lk, .int .u64 p.en, .int .i64 p.bu, .int .i64 p.fu] 27 (0, 0)) ∧ wy.heap[w.heap.size + 1]? = some (.cells #[.slice none 0 0, .slice none 0 0, .slice none 0 0] 56 (0, 0))) := by rw [← hwy]; exact ⟨hrow, hok, hbr, hboxr, hresr⟩
    obtain ⟨g2, hg2⟩ : ∃ g2, wr.heap.size = g2 := ⟨_, rfl⟩
    have HG2 : Hid (wy.heap.size = g2) := by show wy.heap.size = g2; rw [← hwy]; exact hg2
    have HWY : Hid (wr = wy) := hwy
    clear hrow hok hbr hboxr hresr hgs hwy
    go_wp2_with (at_make; rw [HWY.out]; refine wpList_make_full _ rfl (.tmp 36) (.tmp 36) 34 rfl wy.heap.size 39 iE _ 6 Tryz.underlying34 hE1 hE2 hE3 .i64 .i64 p.ns p.ns p.ns rfl rfl rfl rfl ?d1 ?d2 ?d3 ?_)
    case d1 => rw [hE4]; omega
    case d2 => unfold maxLen; omega
    case d3 => exact Nat.le_refl _
    intro w2 hown2 hgrow2
    have hb2 : Below wy.heap.size wy w2 := (Below.refl _ _).grown hgrow2 (Nat.le_refl _) (by simp)
    rw [HG2.out] at hown2
    have hrow2 : SRow w2 g2 g2 p.ns p.ns (fun _ => ⟨0, 0, 0, 0, 0, 0⟩) := (own_of_row hown2).congr fun j hj => mdE p.ns j hj
    obtain ⟨x1, x2, x3, x4, x5⟩ := HX.out
    have hra : ARow w2 g g p.nq p.nq (sA A p.S 0) := ARow.congr (Own.later x1 hb2) (sA_zero fun j hj => (x2 j hj).2.2.1)
    have hgg := HG.out
    have hy2 := HG2.out
    have hgl := ARow.lt x1
    have hyb := x3.size
    have HR2 : Hid (ARow w2 g g p.nq p.nq (sA A p.S 0) ∧ SRow w2 g2 g2 p.ns p.ns (fun _ => ⟨0, 0, 0, 0, 0, 0⟩) ∧ Kb (fun k => k = g) wy w2 ∧ Below g wb w2) := ⟨hra, hrow2, Kb.below hb2, x3.trans (hb2.mono (by omega))⟩
    have HL : Hid (g < g2 ∧ w.heap.size + 2 = g ∧ g < wy.heap.size ∧ wb.heap.size = g) := ⟨by omega, by omega, by omega, hgg.1⟩
    obtain ⟨⟨e0, e1, e2, e3⟩, e4, e5, e6, e7, e8⟩ := cells9 ((hb2.block _ (by omega)).trans x4)
    rw [HG2.out]
    clear x1 x2 x3 x4 x5 hra hgg hy2 hgl hyb hb2 hown2 hgrow2 hrow2 c0 c1 c2 c3 c4 c5 c6 c7 c8 hg2
    go_wp2_with fail
    clear e0 e1 e2 e3 e4 e5 e6 e7 e8
    go_loopw [41] (fun x wr => ∃ (i : Nat) (X : Nat → Se), x = .int .i64 (i : Int) ∧ i ≤ p.ns ∧ ARow wr g g p.nq p.nq (sA A p.S i) ∧ SRow wr g2 g2 p.ns p.ns X ∧ (∀ j, j < i → X j = evS p.S j) ∧ Kb (fun k => k = g) wy wr ∧ Below g wb wr) (fun x _ => p.ns - (intOf x).toNat)
    case atStart => exact ⟨0, _, rfl, Nat.zero_le _, HR2.out.1, HR2.out.2.1, fun j hj => absurd hj (Nat.not_lt_zero _), HR2.out.2.2.1, HR2.out.2.2.2⟩
    case round =>
      obtain ⟨i, X, rfl, hi, hrow, hsr, hev, hkr, hbr⟩ := hrel
      have hll := HL.out
      by_cases hlt : i < p.ns
      case pos =>
        have dlt : decide ((i : Int) < (p.ns : Int)) = true := by simp; omega
        have i0 : (0 : Int) ≤ (i : Int) := by omega
        have i1 : (i : Int) < (p.ns : Int) := by omega
        have ei : IntKind.i64.wrap ((i : Int) + 1) = (i : Int) + 1 := by rw [IntKind.wrap_i64]; omega
        have hm := meas hlt
        have hbw : Below wb.heap.size wb wr := by rw [hll.2.2.2]; exact hbr
        obtain hz | ⟨gt, ot, hpp, hl, hc⟩ := (HP.out.below hbw).st
        · omega
        obtain ⟨y0, y1, y2, y3⟩ := hc i hlt
        obtain ⟨⟨hd0, hd1⟩, _, _⟩ := HS.out.2 i hlt
        obtain ⟨dn, hdn⟩ : ∃ dn : Nat, (p.S i).d = (dn : Int) := ⟨(p.S i).d.toNat, by omega⟩
        have hdl : dn < p.nq := by omega
        have j0 : (0 : Int) ≤ (dn : Int) := by omega
        have j1 : (dn : Int) < (p.nq : Int) := by omega
        rw [hdn] at y1
        obtain ⟨q0, q1, q2⟩ := hrow.cells hdl
        have q2' : wr.cell? ⟨g, dn * 3 + 2, none⟩ = some (.int .u64 (cntS p.S i (dn : Int) : Nat)) := q2
        obtain ⟨cn, hcn⟩ : ∃ cn : Nat, cntS p.S i (dn : Int) = cn := ⟨_, rfl⟩
        have hcl := cntS_le p.S i (dn : Int)
        rw [hcn] at q2' hcl
        have ew : IntKind.u64.wrap ((cn : Int) + 1) = (cn : Int) + 1 := by rw [IntKind.wrap_u64]; omega
        have r0 := hrow.fz (dn * 3 + 2)
        have hgl := hrow.lt
        have hsl := hsr.lt
        have hn1 : wr.heap.size ≠ g := by omega
        have hn2 : g ≠ g2 := by omega
        have hn3 : wr.heap.size ≠ g2 := by omega
        obtain ⟨s0, s1, s2, s3, s4, s5⟩ := hsr.cells hlt
        have t0 := hsr.fz (i * 6)
        have t1 := hsr.fz (i * 6 + 1)
        have t2 := hsr.fz (i * 6 + 2)
        have t3 := hsr.fz (i * 6 + 3)
        have t4 := hsr.fz (i * 6 + 4)
        have t5 := hsr.fz (i * 6 + 5)
        have HA : Hid (ARow wr g g p.nq p.nq (sA A p.S i) ∧ SRow wr g2 g2 p.ns p.ns X ∧ (∀ j, j < i → X j = evS p.S j) ∧ Kb (fun k => k = g) wy wr ∧ Below g wb wr ∧ (p.S i).d = (dn : Int) ∧ cntS p.S i (dn : Int) = cn) := ⟨hrow, hsr, hev, hkr, hbr, hdn, hcn⟩
        rw [hpp]
        clear hrow hsr hev hkr hbr hdn hcn hc hl hpp hll hbw q2 hd0 hd1 hcl
        have hpb : (wr.alloc (.cells #[.int .u64 (p.S i).t, .int .i64 (dn : Int), .int .i64 (p.S i).k, .int .i64 (p.S i).v] 72)).drew.heap[wr.heap.size]? = some (.cells #[.int .u64 (p.S i).t, .int .i64 (dn : Int), .int .i64 (p.S i).k, .int .i64 (p.S i).v] 72 (0, 0)) := World.alloc_heap_new wr _
        have hba : Below wr.heap.size wr (wr.alloc (.cells #[.int .u64 (p.S i).t, .int .i64 (dn : Int), .int .i64 (p.S i).k, .int .i64 (p.S i).v] 72)).drew := ((Below.refl _ wr).alloc (Nat.le_refl _) _).drew
        have KP0 : (wr.alloc (.cells #[.int .u64 (p.S i).t, .int .i64 (dn : Int), .int .i64 (p.S i).k, .int .i64 (p.S i).v] 72)).drew.cell? ⟨wr.heap.size, 0, none⟩ = some (.int .u64 (p.S i).t) ∧ (wr.alloc (.cells #[.int .u64 (p.S i).t, .int .i64 (dn : Int), .int .i64 (p.S i).k, .int .i64 (p.S i).v] 72)).drew.cell? ⟨wr.heap.size, 1, none⟩ = some (.int .i64 (dn : Int)) ∧ (wr.alloc (.cells #[.int .u64 (p.S i).t, .int .i64 (dn : Int), .int .i64 (p.S i).k, .int .i64 (p.S i).v] 72)).drew.cell? ⟨g, dn * 3 + 2, none⟩ = some (.int .u64 (cn : Int)) := ⟨by unfold World.cell?; rw [hpb]; rfl, by unfold World.cell?; rw [hpb]; rfl, (cell_below (W := wr) (a := ⟨g, dn * 3 + 2, none⟩) hba hgl.2).trans q2'⟩
        clear hpb hba
        go_upto_region 11 with fail
        go_region_held3 (fun w' => w'.cell? ⟨wr.heap.size, 0, none⟩ = some (.int .u64 (p.S i).t) ∧ w'.cell? ⟨wr.heap.size, 1, none⟩ = some (.int .i64 (dn : Int)) ∧ w'.cell? ⟨g, dn * 3 + 2, none⟩ = some (.int .u64 (cn : Int))) (first | exact KP0 | go_keep) (fail)
        obtain ⟨w5, hw5⟩ : ∃ w5, ((wr.alloc (.cells #[.int .u64 (p.S i).t, .int .i64 (dn : Int), .int .i64 (p.S i).k, .int .i64 (p.S i).v] 72)).alloc (.cells #[.int .u64 (p.S i).t, .int .i64 (dn : Int), .int .u64 (cn : Int)] 32)).drew = w5 := ⟨_, rfl⟩
        rw [hw5]
        have h5a : w5.heap[wr.heap.size]? = some (.cells #[.int .u64 (p.S i).t, .int .i64 (dn : Int), .int .i64 (p.S i).k, .int .i64 (p.S i).v] 72 (0, 0)) := by
          rw [← hw5]
          show ((wr.alloc _).alloc _).heap[_]? = _
          rw [Below.heap_alloc _ _ _ (by simp)]
          exact World.alloc_heap_new wr _
        have h5b : w5.heap[wr.heap.size + 1]? = some (.cells #[.int .u64 (p.S i).t, .int .i64 (dn : Int), .int .u64 (cn : Int)] 32 (0, 0)) := by
          rw [← hw5]
          have := World.alloc_heap_new (wr.alloc (.cells #[.int .u64 (p.S i).t, .int .i64 (dn : Int), .int .i64 (p.S i).k, .int .i64 (p.S i).v] 72)) (.cells #[.int .u64 (p.S i).t, .int .i64 (dn : Int), .int .u64 (cn : Int)] 32)
          rw [World.size_alloc] at this
          exact this
        have h5c : Below wr.heap.size wr w5 := by rw [← hw5]; exact (((Below.refl _ wr).alloc (Nat.le_refl _) _).alloc (by simp) _).drew
        have hrow5 : ARow w5 g g p.nq p.nq (sA A p.S i) := Own.later HA.out.1 h5c
        have hsr5 : SRow w5 g2 g2 p.ns p.ns X := SRow.later HA.out.2.1 h5c
        obtain ⟨w6, hw6⟩ : ∃ w6, (((((w5.setCell ⟨g2, i * 6, none⟩ (.int .u64 (p.S i).t)).setCell ⟨g2, i * 6 + 1, none⟩ (.int .i64 (dn : Int))).setCell ⟨g2, i * 6 + 2, none⟩ (.int .u64 (cn : Int))).setCell ⟨g2, i * 6 + 3, none⟩ (.int .i64 (dn : Int))).setCell ⟨g2, i * 6 + 4, none⟩ (.int .i64 (p.S i).k)).setCell ⟨g2, i * 6 + 5, none⟩ (.int .i64 (p.S i).v) = w6 := ⟨_, rfl⟩
        have hw6' : w5.setCells g2 (i * 6) (seL ⟨(p.S i).t, (dn : Int), (cn : Int), (dn : Int), (p.S i).k, (p.S i).v⟩) = w6 := hw6
        have hsr6 : SRow w6 g2 g2 p.ns p.ns (setS X i ⟨(p.S i).t, (dn : Int), (cn : Int), (dn : Int), (p.S i).k, (p.S i).v⟩) := by rw [← hw6']; exact hsr5.put i _
        have ho6 : ∀ k, k ≠ g2 → w6.heap[k]? = w5.heap[k]? := fun k hk => by rw [← hw6']; exact setCells_other _ _ _ _ _ hk
        have hz6 : w6.heap.size = w5.heap.size := by rw [← hw6']; exact setCells_size _ _ _ _
        have hrow6 : ARow w6 g g p.nq p.nq (sA A p.S i) := Own.far hrow5 fun k hk => by
          have e9 : g = k := by injection hk
          exact ho6 k (by omega)
        have hz5 := h5c.size
        obtain ⟨a0, a1, a2, a3⟩ := cells4p h5a
        obtain ⟨b0, b1, b2⟩ := cells3p h5b
        obtain ⟨d0, d1, d2, d3⟩ := cells4p ((ho6 _ hn3).trans h5a)
        obtain ⟨_, _, q26⟩ := hrow6.cells hdl
        have q26' : w6.cell? ⟨g, dn * 3 + 2, none⟩ = some (.int .u64 (cn : Int)) := by rw [← HA.out.2.2.2.2.2.2]; exact q26
        have r06 := hrow6.fz (dn * 3 + 2)
        clear s0 s1 s2 s3 s4 s5 t0 t1 t2 t3 t4 t5 q0 q1 q2' r0 KP0 q26
        obtain ⟨s0, s1, s2, s3, s4, s5⟩ := hsr5.cells hlt
        have t0 := hsr5.fz (i * 6)
        have t1 := hsr5.fz (i * 6 + 1)
        have t2 := hsr5.fz (i * 6 + 2)
        have t3 := hsr5.fz (i * 6 + 3)
        have t4 := hsr5.fz (i * 6 + 4)
        have t5 := hsr5.fz (i * 6 + 5)
        have H6 : Hid (SRow w6 g2 g2 p.ns p.ns (setS X i ⟨(p.S i).t, (dn : Int), (cn : Int), (dn : Int), (p.S i).k, (p.S i).v⟩) ∧ ARow w6 g g p.nq p.nq (sA A p.S i) ∧ (∀ k, k ≠ g2 → w6.heap[k]? = w5.heap[k]?) ∧ w6.heap.size = w5.heap.size ∧ Below wr.heap.size wr w5 ∧ w5.setCells g2 (i * 6) (seL ⟨(p.S i).t, (dn : Int), (cn : Int), (dn : Int), (p.S i).k, (p.S i).v⟩) = w6) := ⟨hsr6, hrow6, ho6, hz6, h5c, hw6'⟩
        clear hsr6 hrow6 ho6 hz6 h5c hw6' hrow5 hsr5 h5a h5b hw5
        go_upto_region 13 with fail
        try rw [hw6]
        clear s0 s1 s2 s3 s4 s5 t0 t1 t2 t3 t4 t5 a0 a1 a2 a3 b0 b1 b2 hw6
        go_wp2_with fail
        obtain ⟨m1, m2, m3, m4, m5, m6⟩ := H6.out
        obtain ⟨n1, n2, n3, n4, n5, n6, n7⟩ := HA.out
        have hll := HL.out
        have hy2 := HG2.out
        have hz5 := m5.size
        have hz4 := n4.size
        refine ⟨⟨i + 1, setS X i ⟨(p.S i).t, (dn : Int), (cn : Int), (dn : Int), (p.S i).k, (p.S i).v⟩, rfl, hlt, ?_, ?_, fun j hj => ?_, ⟨?_, fun k hk hs => ?_⟩, ?_⟩, hm⟩
        · have h9 := m2.put2 dn ((cn : Int) + 1)
          rw [← n7] at h9 ⊢
          rw [sA_step A p.S i dn n6] at h9
          exact h9
        · exact Own.far m1 fun k hk => by
            have e9 : g2 = k := by injection hk
            exact Below.heap_setCell _ _ _ _ (by show k ≠ g; omega)
        · unfold setS
          by_cases e : j = i
          · rw [if_pos e, e]
            unfold evS
            rw [n6, n7]
          · rw [if_neg e]
            exact n3 j (by omega)
        · have : (w6.setCell ⟨g, dn * 3 + 2, none⟩ (.int .u64 ((cn : Int) + 1))).heap.size = w6.heap.size := by simp [World.setCell]
          omega
        · rw [Below.heap_setCell _ _ _ _ hs, m3 k (by omega), m5.block k (by omega)]
          exact n4.block k hk hs
        · have hh : Below g wb w6 := by
            rw [← m6]
            exact setCells_below _ _ _ (n5.trans (m5.mono (by omega))) (by omega)
          exact hh.setCell (p := ⟨g, dn * 3 + 2, none⟩) (Nat.le_refl _) _
      have dlt : decide ((i : Int) < (p.ns : Int)) = false := by simp; omega
      obtain rfl : i = p.ns := by omega
      have hsn : SIn wr (some ⟨g2, 0, none⟩) p.ns (evS p.S) := (own_sin0 hsr).congr hev
      have HO := order_any (some ⟨g2, 0, none⟩) p.ns p.ns (evS p.S) (by omega) wr hsn
      have hres2 : wr.heap[w.heap.size + 1]? = some (.cells #[.slice none 0 0, .slice none 0 0, .slice none 0 0] 56 (0, 0)) := (hkr.block _ (by omega) (by show w.heap.size + 1 ≠ g; omega)).trans HX.out.2.2.2.2
      have HF : Hid (ARow wr g g p.nq p.nq (sA A p.S p.ns) ∧ Kb (fun k => k = g) wy wr ∧ Below g wb wr ∧ wr.heap[w.heap.size + 1]? = some (.cells #[.slice none 0 0, .slice none 0 0, .slice none 0 0] 56 (0, 0))) := ⟨hrow, hkr, hbr, hres2⟩
      clear hrow hsr hev hkr hbr hsn hres2 hll
      go_upto_region 16 with (go_at_call 29; (with_reducible refine HO.mono ?_); rintro e w7 ⟨g3, d, rfl, h71, h72, h73, h74⟩; have hr7 := (h74.block _ (lt_of_block HF.out.2.2.2)).trans HF.out.2.2.2; have H7 : Hid (SRow w7 wr.heap.size g3 p.ns p.ns d ∧ Stb klt 0 p.ns (evS p.S) d ∧ Srt klt 0 p.ns d ∧ Below wr.heap.size wr w7 ∧ w7.heap[w.heap.size + 1]? = some (.cells #[.slice none 0 0, .slice none 0 0, .slice none 0 0] 56 (0, 0))) := ⟨h71, h72, h73, h74, hr7⟩; have z0 := frz hr7 0; have z1 := frz hr7 1; have z2 := frz hr7 2; obtain ⟨v0, v1, v2⟩ := cells3p hr7; clear h71 h72 h73 h74 hr7)
      generalize hWF : (World.setCell (World.setCell (World.setCell w7 _ _) _ _) _ _) = wF
      obtain ⟨q1, q2, q3, q4⟩ := put3 H7.out.2.2.2.2 _ _ _ wF hWF
      obtain ⟨e0, e1, e2⟩ := cells3p q1
      refine bodyPost_ret (v := .agg #[.slice (some ⟨g, 0, none⟩) p.nq p.nq, .slice (some ⟨g3, 0, none⟩) p.ns p.ns, .slice none 0 0]) (by simp [results, Tryz.results51, go_sem, e0, e1, e2]; try rfl) rfl ?_
      obtain ⟨x1, x2, x3, x4, x5⟩ := HX.out
      obtain ⟨f1, f2, f3, f4⟩ := HF.out
      obtain ⟨h1, h2, h3, h4, h5⟩ := H7.out
      have hll := HL.out
      have hfl := ARow.lt f1
      have hz3 := SRow.lt h1
      have hz4 := h4.size
      have kbF : Kb (fun k => k = w.heap.size + 1) w7 wF := ⟨by omega, fun k _ hs => q2 k hs⟩
      have kbA : Kb (fun k => k = g ∨ k = w.heap.size + 1) wy wF := ((f2.mono fun k e => .inl e).trans (Kb.below h4)).trans (kbF.mono fun k e => .inr e)
      have hrF : Own wF g 46 3 (.slice (some ⟨g, 0, none⟩) p.nq p.nq) p.nq (saF (sA A p.S p.ns)) := Own.far (Own.later f1 h4) fun k hk => by
        have e9 : g = k := by injection hk
        exact q2 k (by omega)
      have hkF : ∀ j, j < p.nq → KAt wF (sA A p.S p.ns j).p (sA A p.S p.ns j).n (p.K j) := fun j hj => by
        obtain ⟨a1, a2, a3, a4, a5⟩ := x2 j hj
        show KAt wF (A j).p (A j).n (p.K j)
        rw [a1]
        refine a4.kb kbA fun g' o' e' h9 => ?_
        obtain ⟨b1, b2, b3⟩ := a5 g' o' e'
        rcases h9 with h9 | h9
        · exact b3 (by rw [h9]; rfl)
        · omega
      obtain ⟨qq, cc, e9, hss⟩ := own_ss hrF hkF
      injection e9 with e8 e7 e6
      subst e8
      subst e6
      have hsF : SIn wF (some ⟨g3, 0, none⟩) p.ns d := own_sin0 (Own.far h1 fun k hk => by
        have e9 : g3 = k := by injection hk
        exact q2 k (by omega))
      refine ⟨_, _, _, _, _, d, rfl, hss, fun j hj => ⟨(x2 j hj).1, (x2 j hj).2.1, rfl⟩, hsF, h2, h3, ?_⟩
      have hbF : Below w.heap.size w w7 := (hb0.trans (f3.mono (by omega))).trans (h4.mono (by omega))
      exact q3 _ _ hbF (by omega)
end Go.Proofs.YtagchghhpggnlaaGreat
