import Derived.Test.YtopggemomcoalaaGreatJV7
import Derived.Test.YtopggemomcoalaaGreatJV9
import Derived.Test.YtopggemomcoalaaGreatJV10
import Derived.Test.YtopggemomcoalaaGreatJV12
import Derived.Deep.RegionHeld3
namespace Go.Proofs.YtopggemomcoalaaGreat
open Go.ChangeShapes Go.WideShapes Go.ChangeAt Go.RowKit
set_option linter.unusedVariables false

def rAns (P : Pg) (kinds : Int) (W : World) (base : Nat) (r : Value) (c : Int) : Prop :=
  c = dcode P kinds ∧ (c ≠ 0 → r = .slice none 0 0) ∧ (c = 0 → Own W base 3 1 r P.n (iv (dL P)))
theorem Own.low {W : World} {base base' : Nat} {t : TypeId} {s m : Nat} {v : Value} {F : Nat → Value} (h : Own W base t s v m F) (hb : base' ≤ base) : Own W base' t s v m F := by
  refine ⟨h.1, ?_⟩
  rcases h.2 with h | ⟨gg, cap, cur, e, hg, r⟩
  · exact .inl h
  · exact .inr ⟨gg, cap, cur, e, Nat.le_trans hb hg, r⟩
theorem dcode_0 {P : Pg} {kinds : Int} (h : ¬ (kinds = P.m ∧ sizedP P)) : dcode P kinds = 60 := by unfold dcode; rw [if_pos h]
set_option maxRecDepth 100000 in
set_option maxHeartbeats 8000000 in
theorem rDepths_any (P : Pg) (v : PgV) (kinds : Int) (w : World) (hI : IAt w v.cp P.n P.op P.a P.b) (hE : KAt w v.ep P.m P.en) :
    Calls Tryz.prog 24 #[.agg #[.int .i64 P.words, .int .i64 P.locals, .slice v.cp P.n v.cc, .slice v.ep P.m v.ec], .int .i64 kinds] w fun e w' => ∃ r c, e = .returned (.tuple #[r, .int .i64 c]) ∧ Below w.heap.size w w' ∧ rAns P kinds w' w.heap.size r c := by
  have hb0 : Below w.heap.size w (w.alloc (.cells #[.int .i64 P.words, .int .i64 P.locals, .slice v.cp P.n v.cc, .slice v.ep P.m v.ec] 25)) := (Below.refl _ w).alloc (Nat.le_refl _) _
  go_enter Tryz.func24, Tryz.ntmps24
  by_cases q0 : 0 ≤ kinds
  · skip
    by_cases q1 : kinds ≤ 32
    · skip
      by_cases q2 : 0 ≤ P.words
      · skip
        by_cases q3 : P.words ≤ 64
        · skip
          by_cases q4 : 0 ≤ P.locals
          · skip
            by_cases q5 : P.locals ≤ 32
            · skip
              by_cases q6 : P.n ≤ 4096
              · have q6' : decide ((4096 : Int) < (P.n : Int)) = false := by simp; omega
                skip
                by_cases q7 : kinds = P.m
                · subst q7
                  have hs : sizedP P := ⟨⟨q2, q3⟩, ⟨q4, q5⟩, q6, by omega⟩
                  have q7' : ((P.m : Int) == (P.m : Int)) = true := by simp
                  go_wp2
                  clear q0 q1 q2 q3 q4 q5 q6 q6' q7'
                  obtain ⟨wq, hwq⟩ : ∃ wq, w.alloc (.cells #[.int .i64 P.words, .int .i64 P.locals, .slice v.cp P.n v.cc, .slice v.ep P.m v.ec] 25) = wq := ⟨_, rfl⟩
                  have hbox : wq.heap[w.heap.size]? = some (.cells #[.int .i64 P.words, .int .i64 P.locals, .slice v.cp P.n v.cc, .slice v.ep P.m v.ec] 25 (0, 0)) := by
                    rw [← hwq]
                    exact World.alloc_heap_new w _
                  rw [hwq] at hb0 ⊢
                  have hszq : w.heap.size < wq.heap.size := by rw [← hwq]; simp
                  clear hwq
                  have hn : P.n ≤ 4096 := hs.2.2.1
                  have hm32 : P.m ≤ 32 := hs.2.2.2
                  have hI' := hI.below hb0
                  have hE' := hE.below hb0
                  go_loopw [6] (fun x wr => ∃ k : Nat, x = .int .i64 k ∧ k ≤ P.n ∧ ferr (insE P) 0 P.n = ferr (insE P) k (P.n - k) ∧ Below wq.heap.size wq wr) (fun x _ => P.n - (intOf x).toNat)
                  case atStart => exact ⟨0, rfl, Nat.zero_le _, rfl, Below.refl _ _⟩
                  case round =>
                    obtain ⟨k, rfl, hk, hfe, hbel⟩ := hrel
                    have hbx := (hbel.block w.heap.size hszq).trans hbox
                    obtain ⟨p0, p1, p2, p3⟩ := cells4 hbx
                    by_cases hlt : k < P.n
                    · obtain h0 | ⟨cb, co, hcp, hcl, hcc⟩ := hI'.below hbel
                      · omega
                      obtain ⟨x0, x1, x2⟩ := hcc k hlt
                      have hm := meas0 hlt
                      have i0 : (0 : Int) ≤ (k : Int) := by omega
                      have i1 : (k : Int) < (P.n : Int) := by omega
                      rw [hcp] at p2
                      have HCP : Hid (v.cp = some ⟨cb, co, none⟩) := hcp
                      clear hcp
                      have hsz2 : wq.heap.size ≤ wr.heap.size := hbel.size
                      by_cases ho1 : P.op k < 0
                      · have hz : insE P k = 64 := by unfold insE insErr; rw [if_pos (by omega)]
                        have hfe2 : Hid (ferr (insE P) 0 P.n = 64) := hfe.trans ((ferr_stop hlt (by rw [hz]; decide)).trans hz)
                        clear hI hE hI' hE' hcc hfe hbox hbx hz
                        go_wp2
                        go_ret2
                        exact ⟨_, _, rfl, hb0.trans (hbel.mono hb0.size), (hfe2.out.symm.trans (dcode_1 hs (by rw [hfe2.out]; decide)).symm), fun _ => rfl, fun h => by cases h⟩
                      · by_cases ho2 : 42 ≤ P.op k
                        · have hz : insE P k = 64 := by unfold insE insErr; rw [if_pos (by omega)]
                          have hfe2 : Hid (ferr (insE P) 0 P.n = 64) := hfe.trans ((ferr_stop hlt (by rw [hz]; decide)).trans hz)
                          clear hI hE hI' hE' hcc hfe hbox hbx hz
                          go_wp2
                          go_ret2
                          exact ⟨_, _, rfl, hb0.trans (hbel.mono hb0.size), (hfe2.out.symm.trans (dcode_1 hs (by rw [hfe2.out]; decide)).symm), fun _ => rfl, fun h => by cases h⟩
                        · have HA := fun W => argument_any P v (P.op k) (P.a k) (P.b k) hs ⟨by omega, by omega⟩ W
                          rw [show insErr P (P.op k) (P.a k) (P.b k) = insE P k from rfl, HCP.out] at HA
                          have keepC : ∀ {W : World}, Below wr.heap.size wr W → (W.cell? ⟨w.heap.size, 0, none⟩ = some (.int .i64 P.words) ∧ W.cell? ⟨w.heap.size, 1, none⟩ = some (.int .i64 P.locals) ∧ W.cell? ⟨w.heap.size, 2, none⟩ = some (.slice (some ⟨cb, co, none⟩) P.n v.cc) ∧ W.cell? ⟨w.heap.size, 3, none⟩ = some (.slice v.ep P.m v.ec) ∧ W.cell? ⟨cb, co + k * 3, none⟩ = some (.int .i64 (P.op k)) ∧ W.cell? ⟨cb, co + k * 3 + 1, none⟩ = some (.int .i64 (P.a k)) ∧ W.cell? ⟨cb, co + k * 3 + 2, none⟩ = some (.int .i64 (P.b k))) := by
                            intro W hW
                            refine ⟨(cell_below (a := ⟨w.heap.size, 0, none⟩) hW (by show w.heap.size < _; omega)).trans p0, (cell_below (a := ⟨w.heap.size, 1, none⟩) hW (by show w.heap.size < _; omega)).trans p1, (cell_below (a := ⟨w.heap.size, 2, none⟩) hW (by show w.heap.size < _; omega)).trans p2, (cell_below (a := ⟨w.heap.size, 3, none⟩) hW (by show w.heap.size < _; omega)).trans p3, (cell_below (a := ⟨cb, co + k * 3, none⟩) hW hcl).trans x0, (cell_below (a := ⟨cb, co + k * 3 + 1, none⟩) hW hcl).trans x1, (cell_below (a := ⟨cb, co + k * 3 + 2, none⟩) hW hcl).trans x2⟩
                          clear hI hE hI' hE' hcc hbox hbx
                          by_cases hz : insE P k = 0
                          · have hfe2 : Hid (ferr (insE P) 0 P.n = ferr (insE P) (k + 1) (P.n - (k + 1))) := hfe.trans (ferr_go hlt hz)
                            rw [hz] at HA
                            clear hfe hz
                            go_wp2
                            go_region_held3 (fun w' => w'.cell? ⟨w.heap.size, 0, none⟩ = some (.int .i64 P.words) ∧ w'.cell? ⟨w.heap.size, 1, none⟩ = some (.int .i64 P.locals) ∧ w'.cell? ⟨w.heap.size, 2, none⟩ = some (.slice (some ⟨cb, co, none⟩) P.n v.cc) ∧ w'.cell? ⟨w.heap.size, 3, none⟩ = some (.slice v.ep P.m v.ec) ∧ w'.cell? ⟨cb, co + k * 3, none⟩ = some (.int .i64 (P.op k)) ∧ w'.cell? ⟨cb, co + k * 3 + 1, none⟩ = some (.int .i64 (P.a k)) ∧ w'.cell? ⟨cb, co + k * 3 + 2, none⟩ = some (.int .i64 (P.b k))) (first | exact KP | go_keep) ((go_at_call 46; (with_reducible refine (HA _).mono ?_); rintro e w2 ⟨rfl, z1⟩; have z1' : Below wr.heap.size wr w2 := (show Below wr.heap.size wr wr.drew from ⟨rfl, rfl, rfl, Nat.le_refl _, fun _ _ => rfl⟩).trans z1; have KP := keepC z1'))
                            go_wp2
                            exact ⟨⟨k + 1, rfl, hlt, hfe2.out, hbel.trans (z1'.mono hsz2)⟩, hm⟩
                          · have dz : (insE P k == 0) = false := by simpa using hz
                            have hfe2 : Hid (ferr (insE P) 0 P.n = insE P k) := hfe.trans (ferr_stop hlt hz)
                            have HZ : Hid (insE P k ≠ 0) := hz
                            clear hfe hz
                            go_wp2
                            go_region_held3 (fun w' => w'.cell? ⟨w.heap.size, 0, none⟩ = some (.int .i64 P.words) ∧ w'.cell? ⟨w.heap.size, 1, none⟩ = some (.int .i64 P.locals) ∧ w'.cell? ⟨w.heap.size, 2, none⟩ = some (.slice (some ⟨cb, co, none⟩) P.n v.cc) ∧ w'.cell? ⟨w.heap.size, 3, none⟩ = some (.slice v.ep P.m v.ec) ∧ w'.cell? ⟨cb, co + k * 3, none⟩ = some (.int .i64 (P.op k)) ∧ w'.cell? ⟨cb, co + k * 3 + 1, none⟩ = some (.int .i64 (P.a k)) ∧ w'.cell? ⟨cb, co + k * 3 + 2, none⟩ = some (.int .i64 (P.b k))) (first | exact KP | go_keep) ((go_at_call 46; (with_reducible refine (HA _).mono ?_); rintro e w2 ⟨rfl, z1⟩; have z1' : Below wr.heap.size wr w2 := (show Below wr.heap.size wr wr.drew from ⟨rfl, rfl, rfl, Nat.le_refl _, fun _ _ => rfl⟩).trans z1; have KP := keepC z1'))
                            go_wp2
                            go_ret2
                            exact ⟨_, _, rfl, hb0.trans ((hbel.trans (z1'.mono hsz2)).mono hb0.size), hfe2.out.symm.trans (dcode_1 hs (by rw [hfe2.out]; exact HZ.out)).symm, fun _ => rfl, fun h => absurd h HZ.out⟩
                    · obtain rfl : k = P.n := by omega
                      have hfe0 : Hid (ferr (insE P) 0 P.n = 0) := by rw [Nat.sub_self] at hfe; exact hfe
                      have dl : decide ((P.n : Int) < P.n) = false := by simp
                      clear hfe
                      go_wp2
                      clear p0 p1 p2 p3
                      obtain ⟨w4, hw4⟩ : ∃ w4, wr = w4 := ⟨_, rfl⟩
                      rw [hw4] at hbel hbx ⊢
                      clear hw4 wr
                      have hb4 := hb0.trans (hbel.mono hb0.size)
                      have hlt4 : w.heap.size < w4.heap.size := Nat.lt_of_lt_of_le hszq hbel.size
                      go_loopw [8] (fun x wr => ∃ k : Nat, x = .int .i64 k ∧ k ≤ P.m ∧ ferr (entE P) 0 P.m = ferr (entE P) k (P.m - k) ∧ Below w4.heap.size w4 wr) (fun x _ => P.m - (intOf x).toNat)
                      case atStart => exact ⟨0, rfl, Nat.zero_le _, rfl, Below.refl _ _⟩
                      case round =>
                        obtain ⟨k, rfl, hk, hfe, hbe5⟩ := hrel
                        obtain ⟨p0, p1, p2, p3⟩ := cells4 ((hbe5.block _ hlt4).trans hbx)
                        have hb5 := hb4.trans (hbe5.mono hb4.size)
                        by_cases hlt : k < P.m
                        · obtain h0 | ⟨eb, eo, hep, hel, hec⟩ := (hE'.below hbel).below hbe5
                          · omega
                          have x0 := hec k hlt
                          have hm := meas0 hlt
                          have i0 : (0 : Int) ≤ (k : Int) := by omega
                          have i1 : (k : Int) < (P.m : Int) := by omega
                          rw [hep] at p3
                          have HEP : Hid (v.ep = some ⟨eb, eo, none⟩) := hep
                          clear hep
                          by_cases h1 : P.en k < -1
                          · have hz : entE P k ≠ 0 := by unfold entE; rw [if_neg (by omega)]; decide
                            have hfe2 : Hid (ferr (entE P) 0 P.m ≠ 0) := by rw [hfe, ferr_stop hlt hz]; exact hz
                            clear hI hE hI' hE' hec hfe hz hbox hbx
                            go_wp2
                            go_quiet (fail)
                            go_wp2
                            go_ret2
                            exact ⟨_, _, rfl, hb5.trans (below_drewNq _ _ _), (dcode_2 hs hfe0.out hfe2.out).symm, fun _ => rfl, fun h => by cases h⟩
                          · have h1' : decide (P.en k < -1) = false := by simp; omega
                            by_cases h2 : P.en k < P.n
                            · have hz : entE P k = 0 := by unfold entE; rw [if_pos (by omega)]
                              have hfe2 : Hid (ferr (entE P) 0 P.m = ferr (entE P) (k + 1) (P.m - (k + 1))) := hfe.trans (ferr_go hlt hz)
                              clear hI hE hI' hE' hec hfe hz hbox hbx
                              go_wp2
                              go_quiet (fail)
                              go_wp2
                              exact ⟨⟨k + 1, rfl, hlt, hfe2.out, hbe5.trans (below_drewNq _ _ _)⟩, hm⟩
                            · have hz : entE P k ≠ 0 := by unfold entE; rw [if_neg (by omega)]; decide
                              have hfe2 : Hid (ferr (entE P) 0 P.m ≠ 0) := by rw [hfe, ferr_stop hlt hz]; exact hz
                              clear hI hE hI' hE' hec hfe hz hbox hbx
                              go_wp2
                              go_quiet (fail)
                              go_wp2
                              go_ret2
                              exact ⟨_, _, rfl, hb5.trans (below_drewNq _ _ _), (dcode_2 hs hfe0.out hfe2.out).symm, fun _ => rfl, fun h => by cases h⟩
                        · obtain rfl : k = P.m := by omega
                          have hfe1 : Hid (ferr (entE P) 0 P.m = 0) := by rw [Nat.sub_self] at hfe; exact hfe
                          have dl : decide ((P.m : Int) < P.m) = false := by simp
                          have hI5 := (hI'.below hbel).below hbe5
                          have hE5 := (hE'.below hbel).below hbe5
                          have gd := gd_of hfe0.out hfe1.out
                          have HR := reached_any P gd hs v wr hI5 hE5
                          have hlt5 : w.heap.size < wr.heap.size := Nat.lt_of_lt_of_le hlt4 hbe5.size
                          have hbx5 := (hbe5.block _ hlt4).trans hbx
                          clear hfe hI hE hI' hE' hbox hbx
                          have j0 : (0 : Int) ≤ (P.n : Int) := by omega
                          have j1 : (P.n : Int) < (P.n : Int) + 1 := by omega
                          by_cases hR : Rch P P.n
                          · go_wp2_with (go_at_call 47; (with_reducible refine HR.mono ?_); rintro e w2 ⟨lb, rfl, z1, L, z2, z3⟩; have hLt : L = true := z3.2 hR; clear z3; subst hLt; obtain ⟨u0, u1, u2, u3⟩ := cells4 ((z1.block _ hlt5).trans hbx5))
                            go_ret2
                            exact ⟨_, _, rfl, hb5.trans (z1.mono hb5.size), (dcode_3 hs hfe0.out hfe1.out hR).symm, fun _ => rfl, fun h => by cases h⟩
                          · by_cases hB : BadD P
                            · go_wp2_with (first | (go_at_call 47; (with_reducible refine HR.mono ?_); rintro e w2 ⟨lb, rfl, z1, L, z2, z3⟩; have hLt : L = false := Bool.eq_false_iff.2 (fun e => hR (z3.1 e)); clear z3; subst hLt; obtain ⟨u0, u1, u2, u3⟩ := cells4 ((z1.block _ hlt5).trans hbx5); have HD := rdepths_any P gd hs hR v w2 (hI5.below z1) (hE5.below z1)) | (go_at_call 48; (with_reducible refine HD.mono ?_); rintro e w3 ⟨av, ok, rfl, y1, y2, y3⟩; have hLt2 : ok = false := Bool.eq_false_iff.2 (fun e => (y2.1 e) hB); clear y2; subst hLt2))
                              go_ret2
                              exact ⟨_, _, rfl, (hb5.trans (z1.mono hb5.size)).trans (y1.mono (Nat.le_trans hb5.size z1.size)), (dcode_4 hs hfe0.out hfe1.out hR hB).symm, fun _ => rfl, fun h => by cases h⟩
                            · go_wp2_with (first | (go_at_call 47; (with_reducible refine HR.mono ?_); rintro e w2 ⟨lb, rfl, z1, L, z2, z3⟩; have hLt : L = false := Bool.eq_false_iff.2 (fun e => hR (z3.1 e)); clear z3; subst hLt; obtain ⟨u0, u1, u2, u3⟩ := cells4 ((z1.block _ hlt5).trans hbx5); have HD := rdepths_any P gd hs hR v w2 (hI5.below z1) (hE5.below z1)) | (go_at_call 48; (with_reducible refine HD.mono ?_); rintro e w3 ⟨av, ok, rfl, y1, y2, y3⟩; have hLt2 : ok = true := y2.2 hB; clear y2; subst hLt2; have y4 := y3 rfl; clear y3))
                              go_ret2
                              exact ⟨_, _, rfl, (hb5.trans (z1.mono hb5.size)).trans (y1.mono (Nat.le_trans hb5.size z1.size)), (dcode_5 hs hfe0.out hfe1.out hR hB).symm, fun h => by simp at h, fun _ => y4.low (Nat.le_trans hb5.size z1.size)⟩
                · have q7' : ((P.m : Int) == kinds) = false := by simp; omega
                  have hc : Hid (dcode P kinds = 60) := dcode_0 (fun h => by exact q7 h.1)
                  clear hI hE
                  go_wp2
                  go_ret2
                  exact ⟨_, _, rfl, hb0, hc.out.symm, fun _ => rfl, fun h => by cases h⟩
              · have q6' : decide ((4096 : Int) < (P.n : Int)) = true := by simp; omega
                have hc : Hid (dcode P kinds = 60) := dcode_0 (fun h => by exact q6 h.2.2.2.1)
                clear hI hE
                go_wp2
                go_ret2
                exact ⟨_, _, rfl, hb0, hc.out.symm, fun _ => rfl, fun h => by cases h⟩
            · have hc : Hid (dcode P kinds = 60) := dcode_0 (fun h => by exact q5 h.2.2.1.2)
              clear hI hE
              go_wp2
              go_ret2
              exact ⟨_, _, rfl, hb0, hc.out.symm, fun _ => rfl, fun h => by cases h⟩
          · have hc : Hid (dcode P kinds = 60) := dcode_0 (fun h => by exact q4 h.2.2.1.1)
            clear hI hE
            go_wp2
            go_ret2
            exact ⟨_, _, rfl, hb0, hc.out.symm, fun _ => rfl, fun h => by cases h⟩
        · have hc : Hid (dcode P kinds = 60) := dcode_0 (fun h => by exact q3 h.2.1.2)
          clear hI hE
          go_wp2
          go_ret2
          exact ⟨_, _, rfl, hb0, hc.out.symm, fun _ => rfl, fun h => by cases h⟩
      · have hc : Hid (dcode P kinds = 60) := dcode_0 (fun h => by exact q2 h.2.1.1)
        clear hI hE
        go_wp2
        go_ret2
        exact ⟨_, _, rfl, hb0, hc.out.symm, fun _ => rfl, fun h => by cases h⟩
    · have hc : Hid (dcode P kinds = 60) := dcode_0 (fun h => by have := h.2.2.2.2; omega)
      clear hI hE
      go_wp2
      go_ret2
      exact ⟨_, _, rfl, hb0, hc.out.symm, fun _ => rfl, fun h => by cases h⟩
  · have hc : Hid (dcode P kinds = 60) := dcode_0 (fun h => by omega)
    clear hI hE
    go_wp2
    go_ret2
    exact ⟨_, _, rfl, hb0, hc.out.symm, fun _ => rfl, fun h => by cases h⟩
end Go.Proofs.YtopggemomcoalaaGreat
