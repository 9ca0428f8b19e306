import Derived.Test.YtopggemomcoalaaGreatJV11
import Derived.Test.YtopggemomcoalaaGreatJV4
import Derived.BigQuiet
namespace Go.Proofs.YtopggemomcoalaaGreat
open Go.ChangeShapes Go.WideShapes Go.ChangeAt Go.RowKit
set_option linter.unusedVariables false

theorem iv_more (j : Nat) : cellsF (iv fun _ => -1) (j * 1) ++ [Value.int .i64 (-1)] = cellsF (iv fun _ => -1) ((j + 1) * 1) := by
  have e : [Value.int .i64 (-1 : Int)] = cellsF (fun _ => Value.int .i64 (-1 : Int)) 1 := rfl
  rw [e, cellsF_append]
  simp only [Nat.mul_one]
  refine cellsF_congr fun k hk => ?_
  unfold iv
  split <;> rfl
/-- the row has grown -/
theorem LkW.setAt {w0 W W' : World} {base kb m : Nat} {s : Lk} {av av' : Value} (h : LkW w0 W base kb m s av) (hg : W.grownBy W' av.ownBlock) {m' : Nat} {L : Nat → Int} (ho : Own W' base 3 1 av' m' (iv L)) (hv : av'.ownBlock = av.ownBlock ∨ ∀ k, av'.ownBlock = some k → W.heap.size ≤ k) (hbw : base ≤ W.heap.size) : LkW w0 (W'.setCell ⟨kb, 0, none⟩ av') base kb m' { s with L := L } av' := by
  have hsb : W'.heap[kb]? = W.heap[kb]? := hg.block kb (Array.getElem?_eq_some_iff.1 h.box).1 (fun e => h.nk e.symm)
  have n1 : av'.ownBlock ≠ some kb := by
    rcases hv with e | e
    · rw [e]; exact h.nk
    · intro e'; have := e _ e'; have := (Array.getElem?_eq_some_iff.1 h.box).1; omega
  refine ⟨?_, ho.far fun k hk => Below.heap_setCell _ _ _ _ (by rintro rfl; exact n1 hk), n1, h.bk, ?_⟩
  · rw [setCell_block _ _ _ _ (hsb.trans h.box)]; rfl
  · refine (h.bel.grown hg hbw fun r e => ?_).setCell (p := ⟨kb, 0, none⟩) h.bk _
    rcases h.row.form with ⟨h7, _⟩ | ⟨g, c, h7, h8, _⟩
    · rw [h7] at e; cases e
    · rw [h7] at e; cases e; exact h8
theorem LkW.grownCell {w0 W W' : World} {base kb m : Nat} {s : Lk} {av : Value} (h : LkW w0 W base kb m s av) (hg : W.grownBy W' av.ownBlock) : W'.cell? ⟨kb, 0, none⟩ = some av ∧ W'.frozen? ⟨kb, 0, none⟩ = false := by
  have hsb : W'.heap[kb]? = W.heap[kb]? := hg.block kb (Array.getElem?_eq_some_iff.1 h.box).1 (fun e => h.nk e.symm)
  have := hsb.trans h.box
  constructor <;> simp [World.cell?, World.frozen?, this]
theorem LkW.drewN {w0 W : World} {base kb m : Nat} {s : Lk} {av : Value} (h : LkW w0 W base kb m s av) (hbw : base ≤ W.heap.size) (q : Nat) : LkW w0 (W.drewN q) base kb m s av := h.later (below_drewNq _ _ _) hbw
set_option maxRecDepth 100000 in
set_option maxHeartbeats 8000000 in
theorem rdepths_any (P : Pg) (g : Gd P) (hs : sizedP P) (hnr : ¬ Rch P P.n) (v : PgV) (w : World) (hI : IAt w v.cp P.n P.op P.a P.b) (hE : KAt w v.ep P.m P.en) :
    Calls Tryz.prog 48 #[.agg #[.int .i64 P.words, .int .i64 P.locals, .slice v.cp P.n v.cc, .slice v.ep P.m v.ec]] w fun e w' => ∃ av ok, e = .returned (.tuple #[av, .bool ok]) ∧ Below w.heap.size w w' ∧ (ok = true ↔ ¬ BadD P) ∧ (ok = true → Own w' w.heap.size 3 1 av P.n (iv (dL P))) := by
  obtain ⟨i5, hi5, hz0, hz1, hz2⟩ := info_parts infoInt1
  have hn : P.n ≤ 4096 := hs.2.2.1
  have hm32 : P.m ≤ 32 := hs.2.2.2
  go_enter Tryz.func48, Tryz.ntmps48
  go_wp2
  obtain ⟨wp, hwp⟩ : ∃ wp, w.alloc (.cells #[.int .i64 P.words, .int .i64 P.locals, .slice v.cp P.n v.cc, .slice v.ep P.m v.ec] 25) = wp := ⟨_, rfl⟩
  rw [hwp]
  have hbox : wp.heap[w.heap.size]? = some (.cells #[.int .i64 P.words, .int .i64 P.locals, .slice v.cp P.n v.cc, .slice v.ep P.m v.ec] 25 (0, 0)) := by rw [← hwp]; exact World.alloc_heap_new w _
  have hbelp : Below w.heap.size w wp := by rw [← hwp]; exact (Below.refl _ w).alloc (Nat.le_refl _) _
  have hszp : wp.heap.size = w.heap.size + 1 := by rw [← hwp, World.size_alloc]
  have hI' := hI.below hbelp
  have hE' := hE.below hbelp
  clear hwp hI hE
  obtain ⟨kb, hkb⟩ : ∃ kb, w.heap.size + 1 = kb := ⟨_, rfl⟩
  rw [hkb]
  have hK0 : LkW wp (wp.alloc (.cells #[.slice none 0 0, .bool false, .bool false] 117)) wp.heap.size kb 0 ⟨fun _ => -1, false, false⟩ (.slice none 0 0) := by
    refine ⟨?_, World.ownsRow_nil _ _ _ _, (by intro e; cases e), (by omega), (Below.refl _ wp).alloc (Nat.le_refl _) _⟩
    rw [show kb = wp.heap.size by omega]; exact World.alloc_heap_new wp _
  go_loopw [5] (fun x wr => ∃ (j : Nat) (av : Value), x = .int .i64 j ∧ j ≤ P.n ∧ LkW wp wr wp.heap.size kb j ⟨fun _ => -1, false, false⟩ av) (fun x _ => P.n - (intOf x).toNat)
  case atStart => exact ⟨0, _, rfl, Nat.zero_le _, hK0⟩
  case round =>
    clear hK0
    obtain ⟨j, av, rfl, hj, hr⟩ := hrel
    have hbx := (hr.bel.block w.heap.size (by omega)).trans hbox
    obtain ⟨p0, p1, p2, p3⟩ := cells4 hbx
    by_cases hlt : j < P.n
    · have hm := meas0 hlt
      obtain ⟨c0, c1, c2, fz⟩ := hr.cells
      have hA : Hid (LkW wp (wr.alloc (.cells #[.int .i64 (-1)] 3)) wp.heap.size kb j ⟨fun _ => -1, false, false⟩ av) := hr.later ((Below.refl _ _).alloc (Nat.le_refl _) _) hr.bel.size
      have hO : Hid (World.ownsRow (wr.alloc (.cells #[.int .i64 (-1)] 3)) wp.heap.size 3 1 av j (cellsF (iv fun _ => -1) (j * 1))) := hA.out.row
      have q1 : j + 1 ≤ maxLen := by unfold maxLen; omega
      have q2 : (j + 1) * 8 ≤ 140737488355328 := by omega
      have q3 : wp.heap.size ≤ (wr.alloc (.cells #[.int .i64 (-1)] 3)).heap.size := by have := hr.bel.size; rw [World.size_alloc]; omega
      have q4 := cell_one_new wr (.int .i64 (-1)) 3
      obtain ⟨vp, vm, vc, rfl⟩ : ∃ p m c, av = .slice p m c := by
        rcases hr.row.form with ⟨h1, _⟩ | ⟨g, c, h1, _⟩
        · exact ⟨_, _, _, h1⟩
        · exact ⟨_, _, _, h1⟩
      clear hr hbox hbx hI' hE'
      go_wp2_with (at_builtin; refine wpList_append_own_at _ rfl _ _ 23 rfl wp.heap.size 3 i5 _ 1 8 Tryz.underlying23 hi5 hz0 hz1 hz2 rfl (by decide) _ _ _ rfl hO.out ⟨wr.heap.size, 0, none⟩ 1 1 [.int .i64 (-1)] rfl rfl q4 (by simp [Value.oneCell']) q1 q2 q3 ?_; intro v' w3 hown' hgrow _ hat; obtain ⟨g', cap', rfl⟩ := ownsRow_succ hown'; obtain ⟨z1, z2⟩ := hA.out.grownCell hgrow)
      rw [iv_more] at hown'
      have hfin := hA.out.setAt hgrow (m' := j + 1) (L := fun _ => -1) hown' (hat.imp id fun e k' hk' => by rw [e] at hk'; cases hk'; rw [World.size_alloc]; exact Nat.le_refl _) q3
      exact ⟨⟨j + 1, _, rfl, hlt, hfin⟩, hm⟩
    · obtain rfl : j = P.n := by omega
      have dl : decide ((P.n : Int) < P.n) = false := by simp
      go_wp2
      clear p0 p1 p2 p3 hbx
      obtain ⟨w5, hw5⟩ : ∃ w5, wr = w5 := ⟨_, rfl⟩
      rw [hw5] at hr ⊢
      clear hw5 wr
      go_loopw [6] (fun x wr => ∃ (j : Nat) (s : Lk), x = .int .i64 j ∧ j ≤ P.m ∧ LkW wp wr wp.heap.size kb P.n s av ∧ LInv P s j ∧ (s.new = false → ∀ k, k < P.n → s.L k = -1)) (fun x _ => P.m - (intOf x).toNat)
      case atStart => exact ⟨0, _, rfl, Nat.zero_le _, hr, ⟨fun _ i hi h => absurd rfl h, fun _ j hj => (by omega), fun h => (by cases h), fun i hi => ⟨(by show (-1 : Int) ≤ -1; omega), (by show (-1 : Int) ≤ 64; omega)⟩⟩, fun _ k hk => rfl⟩
      case round =>
        clear hr
        obtain ⟨j, s, rfl, hj, hr, hinv, hnew⟩ := hrel
        have hbx := (hr.bel.block w.heap.size (by omega)).trans hbox
        obtain ⟨p0, p1, p2, p3⟩ := cells4 hbx
        by_cases hlt : j < P.m
        · obtain h0 | ⟨eb, eo, hep, hel, hec⟩ := hE'.below hr.bel
          · omega
          have x0 := hec j hlt
          have hm := meas0 hlt
          have i0 : (0 : Int) ≤ (j : Int) := by omega
          have i1 : (j : Int) < (P.m : Int) := by omega
          have hen := g.en j hlt
          rw [hep] at p3
          have HEP : Hid (v.ep = some ⟨eb, eo, none⟩) := hep
          clear hep
          by_cases he : P.en j < 0
          · have hinv' : LInv P s (j + 1) := ⟨hinv.dp, fun hb j' hj' he' => (by
              by_cases e : j' = j
              · subst e; omega
              · exact hinv.ent0 hb j' (by omega) he'), hinv.bad, hinv.wide⟩
            clear hec hE' hI' hbox hbx hinv
            go_wp2
            exact ⟨⟨j + 1, s, rfl, hlt, hr, hinv', hnew⟩, hm⟩
          · obtain ⟨ek, hek⟩ : ∃ ek : Nat, P.en j = ek := ⟨(P.en j).toNat, by omega⟩
            obtain ⟨ab, ac, hav, _⟩ := hr.at (k := ek) (by omega)
            have e1 : (P.en j).toNat = ek := by omega
            have h1 := hinv.cm (k := ek) (d := 0) (by omega) (by omega) (fun _ => by rw [← e1]; exact .entry j hlt (by omega))
            have hinv' : LInv P (cm s ek 0) (j + 1) := ⟨h1.dp, fun hb j' hj' he' => (by
              by_cases e : j' = j
              · subst e; rw [e1]; exact cm_at hb
              · exact h1.ent0 hb j' (by omega) he'), h1.bad, h1.wide⟩
            have hnew' : (cm s ek 0).new = false → ∀ k, k < P.n → (cm s ek 0).L k = -1 := by
              unfold cm
              by_cases h2 : s.L ek = -1
              · rw [if_pos h2]; intro h; cases h
              · rw [if_neg h2]
                by_cases h3 : s.L ek = 0
                · rw [if_pos h3]; intro h; exact absurd (hnew h ek (by omega)) h2
                · rw [if_neg h3]; intro h; exact absurd (hnew h ek (by omega)) h2
            have HC := come_any wp wr wp.heap.size kb P.n ab ac s ek 0 (by omega) (by rw [← hav]; exact hr)
            rw [hek] at x0
            have j0 : ¬ ((ek : Int) < 0) := by omega
            have HAV : Hid (av = .slice (some ⟨ab, 0, none⟩) P.n ac) := hav
            have HN : Hid ((cm s ek 0).new = false → ∀ k, k < P.n → (cm s ek 0).L k = -1) := hnew'
            clear hec hE' hI' hbox hbx hinv hek he hav h1 hnew' hnew hen e1
            go_wp2_with (go_at_call 91; (with_reducible refine HC.mono ?_); rintro e w2 ⟨rfl, z1⟩)
            exact ⟨⟨j + 1, _, rfl, hlt, by rw [HAV.out]; exact z1, hinv', HN.out⟩, hm⟩
        · obtain rfl : j = P.m := by omega
          have dl : decide ((P.m : Int) < P.m) = false := by simp
          go_wp2
          clear p0 p1 p2 p3 hbx
          obtain ⟨w6, hw6⟩ : ∃ w6, wr = w6 := ⟨_, rfl⟩
          rw [hw6] at hr ⊢
          clear hw6 wr
          go_loopw [] (fun wr => ∃ (s : Lk), LkW wp wr wp.heap.size kb P.n s av ∧ LInv P s P.m ∧ (s.bad = false → s.new = false → ∀ k, k < P.n → s.L k ≠ -1 → clo P s.L k)) (fun wr => muL kb P.n wr)
          case atStart => exact ⟨s, hr, hinv, fun _ hn k hk hl => absurd (hnew hn k hk) hl⟩
          case round =>
            clear hr hinv hnew
            obtain ⟨s, hr, hinv, hcl⟩ := hrel
            obtain ⟨c0, c1, c2, fz⟩ := hr.cells
            have f2 := fz 2
            rcases hbd : s.bad with _ | _
            · rw [hbd] at c1
              rcases hnw : s.new with _ | _
              · rw [hnw] at c2
                have hsol := linv_done g hinv hbd (hcl hbd hnw)
                have hgood := hsol.good g hnr
                have hown : Own wr w.heap.size 3 1 av P.n (iv (dL P)) := by
                  have h1 := hr.row.eqv (G := dL P) (fun j hj => hsol.dL g hnr (by omega))
                  refine ⟨h1.1, ?_⟩
                  rcases h1.2 with h | ⟨gg, cap, cur, e, hb, r⟩
                  · exact .inl h
                  · exact .inr ⟨gg, cap, cur, e, (by omega), r⟩
                have hbw := hbelp.trans (hr.bel.mono hbelp.size)
                clear hcl hinv hI' hE' hbox hsol
                go_wp2
                go_quiet (fail)
                go_wp2
                go_ret2
                exact ⟨_, _, rfl, hbw.trans (below_drewNq _ _ _), ⟨fun _ => hgood, fun _ => rfl⟩, fun _ => hown.far fun _ _ => rfl⟩
              · rw [hnw] at c2
                have hmu := hr.mu
                rw [hnw] at hmu
                have hr0 := hr.setNew false
                have hL0 : LIn P { s with new := false } 0 (left P.n s.L) := ⟨⟨hinv.dp, hinv.ent0, hinv.bad, hinv.wide⟩, fun _ _ k hk => (by omega), Nat.le_refl _, fun h => (by cases h)⟩
                clear hcl hinv hr
                go_wp2
                obtain ⟨M, hM⟩ : ∃ M, left P.n s.L = M := ⟨_, rfl⟩
                rw [hM] at hmu hL0
                go_loopw [7] (fun x wr => ∃ (i : Nat) (s : Lk), x = .int .i64 i ∧ i ≤ P.n ∧ LkW wp wr wp.heap.size kb P.n s av ∧ LIn P s i M) (fun x _ => P.n - (intOf x).toNat)
                case atStart => exact ⟨0, _, rfl, Nat.zero_le _, hr0, hL0⟩
                case round =>
                  clear hr0 hL0 hbd hnw hM c0 c1 c2 fz f2 s
                  obtain ⟨i, s, rfl, hi, hr, hin⟩ := hrel
                  have hbx := (hr.bel.block w.heap.size (by omega)).trans hbox
                  obtain ⟨p0, p1, p2, p3⟩ := cells4 hbx
                  obtain ⟨c0, c1, c2, fz⟩ := hr.cells
                  have f1 := fz 1
                  by_cases hlt : i < P.n
                  · have i0 : (0 : Int) ≤ (i : Int) := by omega
                    have i1 : (i : Int) < (P.n : Int) := by omega
                    rcases hbd : s.bad with _ | _
                    · rw [hbd] at c1
                      obtain h0 | ⟨cb, co, hcp, hcl2, hcc⟩ := hI'
                      · omega
                      obtain ⟨k0, k1, k2⟩ := hcc i hlt
                      have x0 := (cell_below (a := ⟨cb, co + i * 3, none⟩) hr.bel hcl2).trans k0
                      have x1 := (cell_below (a := ⟨cb, co + i * 3 + 1, none⟩) hr.bel hcl2).trans k1
                      rw [hcp] at p2
                      have HCP : Hid (v.cp = some ⟨cb, co, none⟩) := hcp
                      clear hcp hcc k0 k1 k2
                      obtain ⟨ab, ac, hav, y0, y1⟩ := hr.at hlt
                      have HAV : Hid (av = .slice (some ⟨ab, 0, none⟩) P.n ac) := hav
                      rw [hav] at c0 hr
                      clear hav
                      have hm := meas0 hlt
                      by_cases hl : s.L i = -1
                      · have hin' := hin.skip hl
                        rw [hl] at y0
                        clear hin hE' hbox hbx
                        go_wp2
                        exact ⟨⟨i + 1, s, rfl, hlt, by rw [HAV.out]; exact hr, hin'⟩, hm⟩
                      · have hw := hin.inv.wide i hlt
                        have hl0 : ¬ (s.L i < 0) := by omega
                        have hop := g.op i hlt
                        have hpp := pops_b (P.op i)
                        have hpu := pushes_b (P.op i)
                        have HP := rpops_any (P.op i) hop
                        have HU := rpushes_any (P.op i) hop
                        have HO := goesOn_any (P.op i)
                        have HJ := rjumps_any (P.op i)
                        have hbs := hr.bel.size
                        by_cases hb1 : s.L i - pops (P.op i) < 0
                        · have hsp : Hid (LIn P { s with bad := true } (i + 1) M) := hin.spoil hlt hbd hl (fun h => by have := h.1; omega)
                          clear hin hE' hbox hbx
                          go_wp2
                          go_quiet ((go_at_call 92; refine Calls.quiet_of_same (HP _)))
                          go_wp2_with (go_at_call 93; (with_reducible refine (HU _).mono ?_); rintro e w1 ⟨rfl, rfl⟩)
                          exact ⟨⟨i + 1, _, rfl, hlt, by rw [HAV.out]; exact (hr.drewN hbs _).setBad true, hsp.out⟩, hm⟩
                        · by_cases hb2 : 64 < s.L i - pops (P.op i) + pushes (P.op i)
                          · have hsp : Hid (LIn P { s with bad := true } (i + 1) M) := hin.spoil hlt hbd hl (fun h => by have := h.2; omega)
                            clear hin hE' hbox hbx
                            go_wp2
                            go_quiet ((go_at_call 92; refine Calls.quiet_of_same (HP _)))
                            go_wp2_with (go_at_call 93; (with_reducible refine (HU _).mono ?_); rintro e w1 ⟨rfl, rfl⟩)
                            exact ⟨⟨i + 1, _, rfl, hlt, by rw [HAV.out]; exact (hr.drewN hbs _).setBad true, hsp.out⟩, hm⟩
                          · obtain ⟨hst, hnx⟩ := hin.step g hnr hlt hbd hl ⟨by omega, by omega⟩
                            have HST : Hid (LIn P (lk2 P s i) (i + 1) M) := hst
                            clear hin hE' hbox hbx hst
                            by_cases hj : jmp (P.op i) = true
                            · have ha := g.a i hlt hj
                              have ha2 : ((P.a i).toNat : Int) = P.a i := by omega
                              have HC1 := fun q => come_any wp (wr.drewN q) wp.heap.size kb P.n ab ac s (P.a i).toNat (s.L i - pops (P.op i) + pushes (P.op i)) (by omega) (hr.drewN hbs q)
                              rw [ha2] at HC1
                              rw [hj] at HJ
                              clear ha2 ha
                              by_cases he : ends (P.op i) = true
                              · have hres : Hid (lk2 P s i = cm s (P.a i).toNat (s.L i - pops (P.op i) + pushes (P.op i))) := by
                                  show lk2 P s i = _
                                  unfold lk2 lk1
                                  rw [if_pos he, if_pos hj]; rfl
                                rw [he] at HO
                                clear hnx
                                go_wp2
                                go_quiet ((go_at_call 92; refine Calls.quiet_of_same (HP _)))
                                go_wp2_with (first | (go_at_call 93; (with_reducible refine (HU _).mono ?_); rintro e w1 ⟨rfl, rfl⟩) | (go_at_call 90; (with_reducible refine (HJ _).mono ?_); rintro e w1 ⟨rfl, rfl⟩) | (go_at_call 89; (with_reducible refine (HO _).mono ?_); rintro e w1 ⟨rfl, rfl⟩) | (go_at_call 91; (with_reducible refine (HC1 _).mono ?_); rintro e w2 ⟨rfl, z1⟩))
                                exact ⟨⟨i + 1, _, rfl, hlt, by rw [HAV.out]; exact z1, by rw [← hres.out]; exact HST.out⟩, hm⟩
                              · have he' : ends (P.op i) = false := by simpa using he
                                have hi2 := hnx he'
                                have hres : Hid (lk2 P s i = cm (cm s (P.a i).toNat (s.L i - pops (P.op i) + pushes (P.op i))) (i + 1) (s.L i - pops (P.op i) + pushes (P.op i))) := by
                                  show lk2 P s i = _
                                  unfold lk2 lk1
                                  rw [if_neg he, if_pos hj]; rfl
                                rw [he'] at HO
                                clear hnx
                                go_wp2
                                go_quiet ((go_at_call 92; refine Calls.quiet_of_same (HP _)))
                                go_wp2_with (first | (go_at_call 93; (with_reducible refine (HU _).mono ?_); rintro e w1 ⟨rfl, rfl⟩) | (go_at_call 90; (with_reducible refine (HJ _).mono ?_); rintro e w1 ⟨rfl, rfl⟩) | (go_at_call 89; (with_reducible refine (HO _).mono ?_); rintro e w1 ⟨rfl, rfl⟩) | (go_at_call 91; (with_reducible refine (HC1 _).mono ?_); rintro e w2 ⟨rfl, z1⟩; have HC2 := come_any wp w2 wp.heap.size kb P.n ab ac _ (i + 1) (s.L i - pops (P.op i) + pushes (P.op i)) (by omega) z1; rw [cast1] at HC2) | (go_at_call 91; (with_reducible refine HC2.mono ?_); rintro e w3 ⟨rfl, z2⟩))
                                exact ⟨⟨i + 1, _, rfl, hlt, by rw [HAV.out]; exact z2, by rw [← hres.out]; exact HST.out⟩, hm⟩
                            · have hj' : jmp (P.op i) = false := by simpa using hj
                              rw [hj'] at HJ
                              by_cases he : ends (P.op i) = true
                              · have hres : Hid (lk2 P s i = s) := by
                                  show lk2 P s i = _
                                  unfold lk2 lk1
                                  rw [if_pos he, if_neg hj]
                                rw [he] at HO
                                clear hnx
                                go_wp2
                                go_quiet ((go_at_call 92; refine Calls.quiet_of_same (HP _)))
                                go_wp2_with (first | (go_at_call 93; (with_reducible refine (HU _).mono ?_); rintro e w1 ⟨rfl, rfl⟩) | (go_at_call 90; (with_reducible refine (HJ _).mono ?_); rintro e w1 ⟨rfl, rfl⟩) | (go_at_call 89; (with_reducible refine (HO _).mono ?_); rintro e w1 ⟨rfl, rfl⟩))
                                exact ⟨⟨i + 1, _, rfl, hlt, by rw [HAV.out]; exact hr.drewN hbs _, by rw [← hres.out]; exact HST.out⟩, hm⟩
                              · have he' : ends (P.op i) = false := by simpa using he
                                have hi2 := hnx he'
                                have HC3 := fun q => come_any wp (wr.drewN q) wp.heap.size kb P.n ab ac s (i + 1) (s.L i - pops (P.op i) + pushes (P.op i)) (by omega) (hr.drewN hbs q)
                                rw [cast1] at HC3
                                have hres : Hid (lk2 P s i = cm s (i + 1) (s.L i - pops (P.op i) + pushes (P.op i))) := by
                                  show lk2 P s i = _
                                  unfold lk2 lk1
                                  rw [if_neg he, if_neg hj]; rfl
                                rw [he'] at HO
                                clear hnx
                                go_wp2
                                go_quiet ((go_at_call 92; refine Calls.quiet_of_same (HP _)))
                                go_wp2_with (first | (go_at_call 93; (with_reducible refine (HU _).mono ?_); rintro e w1 ⟨rfl, rfl⟩) | (go_at_call 90; (with_reducible refine (HJ _).mono ?_); rintro e w1 ⟨rfl, rfl⟩) | (go_at_call 89; (with_reducible refine (HO _).mono ?_); rintro e w1 ⟨rfl, rfl⟩) | (go_at_call 91; (with_reducible refine (HC3 _).mono ?_); rintro e w3 ⟨rfl, z2⟩))
                                exact ⟨⟨i + 1, _, rfl, hlt, by rw [HAV.out]; exact z2, by rw [← hres.out]; exact HST.out⟩, hm⟩
                    · rw [hbd] at c1
                      have hmu2 := hr.mu
                      clear hI' hE' hbox hbx
                      go_wp2
                      refine ⟨⟨s, hr, hin.inv, fun hb => (by rw [hbd] at hb; cases hb)⟩, ?_⟩
                      rw [hmu, hmu2]
                      have h1 := hin.le
                      have h2 := hin.lt
                      rcases hn2 : s.new with _ | _
                      · simp; omega
                      · have := h2 hn2; simp; omega
                  · obtain rfl : i = P.n := by omega
                    have dl : decide ((P.n : Int) < P.n) = false := by simp
                    have hmu2 := hr.mu
                    clear hI' hE' hbox hbx
                    go_wp2
                    refine ⟨⟨s, hr, hin.inv, fun hb hn k hk hl => hin.cl hb hn k hk hl⟩, ?_⟩
                    rw [hmu, hmu2]
                    have h1 := hin.le
                    have h2 := hin.lt
                    rcases hn2 : s.new with _ | _
                    · simp; omega
                    · have := h2 hn2; simp; omega
            · rw [hbd] at c1
              rcases hnw : s.new with _ | _
              · rw [hnw] at c2
                have hbd2 := hinv.bad hbd
                have hbw := hbelp.trans (hr.bel.mono hbelp.size)
                clear hcl hinv hI' hE' hbox
                go_wp2
                go_quiet (fail)
                go_wp2
                go_ret2
                exact ⟨_, _, rfl, hbw.trans (below_drewNq _ _ _), ⟨fun h => (by cases h), fun h => absurd hbd2 h⟩, fun h => (by cases h)⟩
              · rw [hnw] at c2
                have hbd2 := hinv.bad hbd
                have hbw := hbelp.trans (hr.bel.mono hbelp.size)
                clear hcl hinv hI' hE' hbox
                go_wp2
                go_quiet (fail)
                go_wp2
                go_ret2
                exact ⟨_, _, rfl, hbw.trans (below_drewNq _ _ _), ⟨fun h => (by cases h), fun h => absurd hbd2 h⟩, fun h => (by cases h)⟩
end Go.Proofs.YtopggemomcoalaaGreat
