import Derived.Test.YtpicobmilcbmlaaKE1
namespace Go.Proofs.Ytpicobmilcbmlaa
open Go.ChangeShapes Go.WideShapes Go.ChangeAt Go.RowKit
set_option linter.unusedVariables false
set_option linter.unusedSimpArgs false

theorem mdI (n j : Nat) (hj : j < n) : (madeCells #[Value.int .i64 0] n).toList.getD j undef = iv (fun _ => 0) j := by
  unfold iv madeCells
  simp [hj, Nat.mod_one]
theorem own_lat {W W' : World} {base : Nat} {t : TypeId} {s m : Nat} {v : Value} {F : Nat → Value} (h : Own W base t s v m F) (hb : Below W.heap.size W W') : Own W' base t s v m F := srow_later h hb
theorem own_kat {W : World} {b g n c : Nat} {K : Nat → Int} (h : Own W b 3 1 (.slice (some ⟨g, 0, none⟩) n c) n (iv K)) : KAt W (some ⟨g, 0, none⟩) n K := by
  obtain ⟨cur, h1, _⟩ := h.block
  exact .inr ⟨g, 0, rfl, lt_of_block h1, fun j hj => by rw [Nat.zero_add]; exact h.cell (by omega)⟩
set_option maxRecDepth 100000 in
set_option maxHeartbeats 4000000 in
theorem mostStarts_any (p : Pl) (v : PlV) (l : Ly) (u : LyV) (w : World) (h : PlAt w p v) (hO : KAt w u.op l.n l.O) (hs : GS p) (ho : GO p l) (hk : 1 ≤ l.wk ∧ l.wk ≤ 64) : Calls Try.prog 27 #[.agg #[.int .i64 p.ki, .slice v.pp p.np v.pc, .slice v.tp p.nq v.tc, .slice v.sp p.ns v.sc, .int .u64 p.sd, .int .u64 p.lk, .int .u64 p.en, .int .i64 p.bu, .int .i64 p.fu], .agg #[.int .i64 l.wk, .slice u.op l.n u.oc, .int .i64 l.ar, .int .i64 l.bx, .int .i64 l.un]] w fun e w' => ∃ m, e = .returned (.int .i64 m) ∧ (∀ a, m ≤ a ↔ ∀ k : Nat, (k : Int) < l.wk → (cO p l p.ns k : Int) ≤ a) ∧ Below w.heap.size w w' := by
  obtain ⟨i5, hi5, ha5, hb5, hc5⟩ := sinf infoInt
  obtain ⟨kk, hkk⟩ : ∃ kk : Nat, l.wk = (kk : Int) := ⟨l.wk.toNat, by omega⟩
  obtain ⟨wb, hwb, hb0, hbox, hbx2, hsz⟩ := boxed2 w #[.int .i64 p.ki, .slice v.pp p.np v.pc, .slice v.tp p.nq v.tc, .slice v.sp p.ns v.sc, .int .u64 p.sd, .int .u64 p.lk, .int .u64 p.en, .int .i64 p.bu, .int .i64 p.fu] #[.int .i64 l.wk, .slice u.op l.n u.oc, .int .i64 l.ar, .int .i64 l.bx, .int .i64 l.un] 43 46
  have HW : Hid ((w.alloc (.cells #[.int .i64 p.ki, .slice v.pp p.np v.pc, .slice v.tp p.nq v.tc, .slice v.sp p.ns v.sc, .int .u64 p.sd, .int .u64 p.lk, .int .u64 p.en, .int .i64 p.bu, .int .i64 p.fu] 43)).alloc (.cells #[.int .i64 l.wk, .slice u.op l.n u.oc, .int .i64 l.ar, .int .i64 l.bx, .int .i64 l.un] 46) = wb) := hwb
  have HSZ : Hid (wb.heap.size = w.heap.size + 2) := hsz
  obtain ⟨⟨c0, c1, c2, c3⟩, c4, c5, c6, c7, c8⟩ := cells9 hbox
  obtain ⟨d0, d1, d2, d3, d4⟩ := cells5p hbx2
  have hl1 := lt_of_block hbox
  have hl2 := lt_of_block hbx2
  rw [hkk] at d0
  have HP : Hid (PlAt wb p v ∧ KAt wb u.op l.n l.O ∧ GS p ∧ GO p l) := ⟨h.below hb0, hO.below hb0, hs, ho⟩
  have hkb : kk ≤ 64 ∧ 1 ≤ kk := by omega
  have HK : Hid (l.wk = (kk : Int)) := hkk
  have hns : p.ns ≤ 256 := hs.1
  rw [← hwb, hkk] at c0 c1 c2 c3 c4 c5 c6 c7 c8 d0 d1 d2 d3 d4
  rw [hkk] at HW ⊢
  rw [hkk] at hbx2
  clear hwb h hO hs ho hk hsz hkk
  go_enter Try.func27, Try.ntmps27
  go_wp2_with (at_make; rw [HW.out]; refine wpList_make_full _ rfl (.tmp 9) (.tmp 9) 44 rfl wb.heap.size 3 i5 _ 1 Try.underlying44 hi5 ha5 hb5 .i64 .i64 kk kk kk rfl rfl rfl rfl ?c1 ?c2 ?c3 ?_)
  case c1 => rw [hc5]; omega
  case c2 => unfold maxLen; omega
  case c3 => exact Nat.le_refl _
  intro w1 hown hgrow
  have hb1 : Below wb.heap.size wb w1 := (Below.refl _ _).grown hgrow (Nat.le_refl _) (by simp)
  obtain ⟨g, hg⟩ : ∃ g, wb.heap.size = g := ⟨_, rfl⟩
  rw [hg] at hown hb1
  have hrow : Own w1 g 3 1 (.slice (some ⟨g, 0, none⟩) kk kk) kk (iv fun _ => 0) := (own_of hown).congr fun j hj => mdI kk j (by omega)
  have hlg : w.heap.size < g ∧ w.heap.size + 1 < g := by omega
  have hbx1 := (hb1.block w.heap.size hlg.1).trans hbox
  have HROW : Hid (Own w1 g 3 1 (.slice (some ⟨g, 0, none⟩) kk kk) kk (iv fun _ => 0) ∧ Below g wb w1) := ⟨hrow, hb1⟩
  have HG : Hid (wb.heap.size = g) := hg
  clear c0 c1 c2 c3 c4 c5 c6 c7 c8 d0 d1 d2 d3 d4 hown hgrow hrow hb1
  obtain ⟨⟨c0, c1, c2, c3⟩, c4, c5, c6, c7, c8⟩ := cells9 hbx1
  rw [hg]
  clear hbx1 hg
  go_wp2_with fail
  clear c0 c1 c2 c3 c4 c5 c6 c7 c8
  go_loopw [14] (fun x wr => ∃ i : Nat, x = .int .i64 (i : Int) ∧ i ≤ p.ns ∧ Own wr g 3 1 (.slice (some ⟨g, 0, none⟩) kk kk) kk (iv fun j => (cO p l i j : Int)) ∧ Below g wb wr) (fun x _ => p.ns - (intOf x).toNat)
  case atStart => exact ⟨0, rfl, Nat.zero_le _, HROW.out.1.congr fun j _ => rfl, HROW.out.2⟩
  case round =>
    obtain ⟨i, rfl, hi, hown, hbr⟩ := hrel
    by_cases hlt : i < p.ns
    · have dlt : decide ((i : Int) < (p.ns : Int)) = true := by simp; omega
      have i0 : (0 : Int) ≤ (i : Int) := by omega
      have i1 : (i : Int) < (p.ns : Int) := by omega
      have ei : IntKind.i64.wrap ((i : Int) + 1) = (i : Int) + 1 := by rw [IntKind.wrap_i64]; omega
      have hm := meas hlt
      have hbr' : Below wb.heap.size wb wr := by rw [HG.out]; exact hbr
      obtain hz | ⟨g2, o2, hpp, hl, hc⟩ := HP.out.1.st.below hbr'
      · omega
      obtain ⟨y0, y1, y2, y3⟩ := hc i hlt
      obtain ⟨hgs, _⟩ := HP.out.2.2.1.2 i hlt
      have hgo := HP.out.2.2.2
      obtain ⟨dn, hdn⟩ : ∃ dn : Nat, (p.S i).d = (dn : Int) := ⟨(p.S i).d.toNat, by omega⟩
      have hdq : dn < l.n := by have := hgo.1; omega
      obtain ⟨h1, h2⟩ := hgo.2 dn hdq
      obtain ⟨on, hon⟩ : ∃ on : Nat, l.O dn = (on : Int) := ⟨(l.O dn).toNat, by omega⟩
      have hok : on < kk := by have := HK.out; omega
      rw [hdn] at y1
      obtain ⟨wa, hwa⟩ : ∃ wa, wr.alloc (.cells #[.int .u64 (p.S i).t, .int .i64 (dn : Int), .int .i64 (p.S i).k, .int .i64 (p.S i).v] 91) = wa := ⟨_, rfl⟩
      obtain ⟨hba, hsb, hsz2⟩ := boxed _ _ _ hwa
      have hbw : Below g wb wa := hbr.trans (hba.mono (by have := hbr.size; have := HG.out; omega))
      have hwag : w.heap.size + 1 < wb.heap.size := hl2
      obtain ⟨x0, x1, x2, x3, x4⟩ := cells5p ((hbw.block (w.heap.size + 1) hlg.2).trans hbx2)
      obtain hz | ⟨g3, o3, hpp3, hl3, hc3⟩ := (HP.out.2.1.below hbr').below hba
      · omega
      have z0 := hc3 dn hdq
      rw [hon] at z0
      have howa : Own wa g 3 1 (.slice (some ⟨g, 0, none⟩) kk kk) kk (iv fun j => (cO p l i j : Int)) := own_lat hown hba
      have q0 : wa.cell? ⟨g, on, none⟩ = some (.int .i64 (cO p l i on : Int)) := howa.cell (by omega)
      obtain ⟨cur, hcur, _⟩ := howa.block
      have fz := frz hcur on
      have hcl := cO_le p l i on
      have hst : cO p l (i + 1) on = cO p l i on + 1 := by
        show cO p l i on + (if l.O (p.S i).d.toNat = (on : Int) then 1 else 0) = _
        rw [hdn, Int.toNat_natCast, hon, if_pos rfl]
      have hso : ∀ j : Nat, j ≠ on → cO p l (i + 1) j = cO p l i j := fun j hj => by
        show cO p l i j + (if l.O (p.S i).d.toNat = (j : Int) then 1 else 0) = _
        rw [hdn, Int.toNat_natCast, hon, if_neg (by omega), Nat.add_zero]
      have HE : Hid (Own (wa.setCell ⟨g, on, none⟩ (.int .i64 ((cO p l i on : Int) + 1))) g 3 1 (.slice (some ⟨g, 0, none⟩) kk kk) kk (iv fun j => (cO p l (i + 1) j : Int))) := by
        refine (howa.put on [.int .i64 ((cO p l i on : Int) + 1)]).congr fun j hj => ?_
        unfold putF iv
        dsimp only
        by_cases e : j = on
        · subst e
          rw [hst]
          simp
        · rw [if_neg (by simp; omega), hso j e]
      have HB : Hid (Below g wb (wa.setCell ⟨g, on, none⟩ (.int .i64 ((cO p l i on : Int) + 1)))) := hbw.setCell (p := ⟨g, on, none⟩) (Nat.le_refl _) _
      obtain ⟨cc, hcc⟩ : ∃ cc : Nat, cO p l i on = cc := ⟨_, rfl⟩
      rw [hcc] at q0 HE HB hcl
      have ec : IntKind.i64.wrap ((cc : Int) + 1) = (cc : Int) + 1 := by rw [IntKind.wrap_i64]; omega
      have j0 : (0 : Int) ≤ (dn : Int) := by omega
      have j1 : (dn : Int) < (l.n : Int) := by omega
      have j2 : (0 : Int) ≤ (on : Int) := by omega
      have j3 : (on : Int) < (kk : Int) := by omega
      rw [hpp]
      rw [hpp3] at x1
      rw [← hwa] at x0 x1 x2 x3 x4 z0 q0 fz HE HB
      obtain ⟨e0, e1, e2, e3⟩ := cells4k hsb
      rw [← hwa] at e0 e1 e2 e3
      clear hc hc3 hl hl3 hpp hpp3 hgs hgo hown howa hcur hst hso hcc hwa hba hsb hsz2 hbw hbr hbr' h1 h2 hdn hon
      go_wp2_with fail
      exact ⟨⟨i + 1, rfl, hlt, HE.out, HB.out⟩, hm⟩
    · have dlt : decide ((i : Int) < (p.ns : Int)) = false := by simp; omega
      obtain rfl : i = p.ns := by omega
      have HM := smax_any (some ⟨g, 0, none⟩) kk kk _ hkb.2 hkb.1 wr (own_kat hown)
      clear hown
      go_wp2_with (go_at_call 33; (with_reducible refine HM.mono ?_); rintro e w9 ⟨m, rfl, hm1, hm2, hw9⟩; subst w9)
      go_ret
      refine ⟨m, rfl, fun a => ⟨fun h1 k hk => ?_, fun h1 => ?_⟩, hb0.trans ((show Below wb.heap.size wb wr by rw [HG.out]; exact hbr).mono hb0.size)⟩
      · have := hm1 k (by have := HK.out; omega)
        omega
      · obtain ⟨j, hj1, hj2⟩ := hm2
        have := h1 j (by have := HK.out; omega)
        omega
end Go.Proofs.Ytpicobmilcbmlaa
