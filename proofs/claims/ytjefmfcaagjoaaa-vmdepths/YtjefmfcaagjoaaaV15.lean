import Derived.Test.YtjefmfcaagjoaaaV7
import Derived.Test.YtjefmfcaagjoaaaV13
import Derived.Test.YtjefmfcaagjoaaaV14
namespace Go.Proofs.Ytjefmfcaagjoaaa
open Go.ChangeShapes Go.WideShapes Go.ChangeAt Go.RowKit
set_option linter.unusedVariables false

theorem boxed (w : World) (o : Obj) (wp : World) (h : w.alloc o = wp) : Below w.heap.size w wp ∧ wp.heap[w.heap.size]? = some o ∧ wp.heap.size = w.heap.size + 1 := by
  subst h
  exact ⟨(Below.refl _ w).alloc (Nat.le_refl _) _, World.alloc_heap_new w _, World.size_alloc w _⟩
set_option maxRecDepth 100000 in
theorem rverify_any (P : Pg) (v : PgV) (kinds : Int) (w : World) (h : PAt w P v) :
    Calls Try.prog 15 #[.agg #[.int .i64 P.words, .int .i64 P.locals, .slice v.cp P.n v.cc, .slice v.ep P.m v.ec], .int .i64 kinds] w fun e w' => e = .returned (.int .i64 (dcode P kinds)) ∧ Below w.heap.size w w' := by
  have hb0 : Below w.heap.size w (w.alloc (.cells #[.int .i64 P.words, .int .i64 P.locals, .slice v.cp P.n v.cc, .slice v.ep P.m v.ec] 25)) := (Below.refl _ w).alloc (Nat.le_refl _) _
  have HD := rDepths_any P v kinds _ (h.1.below hb0) (h.2.below hb0)
  clear h
  go_enter Try.func15, Try.ntmps15
  go_wp2_with (go_at_call 11; (with_reducible refine HD.mono ?_); rintro e w1 ⟨r, c, rfl, z1, z2⟩)
  go_ret
  exact ⟨by rw [← z2.1]; rfl, hb0.trans (z1.mono hb0.size)⟩
set_option maxRecDepth 100000 in
set_option maxHeartbeats 4000000 in
theorem law_verifies (P : Pg) (v : PgV) (kinds : Int) (w : World) (h : PAt w P v) (hs : roomyP P) :
    Calls Try.prog 4 #[.agg #[.int .i64 P.words, .int .i64 P.locals, .slice v.cp P.n v.cc, .slice v.ep P.m v.ec], .int .i64 kinds] w fun e w' => e = .returned (.bool true) ∧ Below w.heap.size w w' := by
  obtain ⟨wp, hwp⟩ : ∃ wp, w.alloc (.cells #[.int .i64 P.words, .int .i64 P.locals, .slice v.cp P.n v.cc, .slice v.ep P.m v.ec] 25) = wp := ⟨_, rfl⟩
  obtain ⟨hb0, hbox, hszp⟩ := boxed w (.cells #[.int .i64 P.words, .int .i64 P.locals, .slice v.cp P.n v.cc, .slice v.ep P.m v.ec] 25) wp hwp
  have HB : Hid (w.alloc (.cells #[.int .i64 P.words, .int .i64 P.locals, .slice v.cp P.n v.cc, .slice v.ep P.m v.ec] 25) = wp) := hwp
  have hp0 := h.below hb0
  have HC := copyProgram_any P v wp hp0 hs
  clear hwp h
  go_enter Try.func4, Try.ntmps4
  go_wp2_with (first | (go_at_call 9; rw [HB.out]; (with_reducible refine HC.mono ?_); rintro e w1 ⟨v', rfl, hp1, z1⟩; obtain ⟨wg, hwg⟩ : ∃ wg, w1.alloc (.cells #[.int .i64 P.words, .int .i64 P.locals, .slice v'.cp P.n v'.cc, .slice v'.ep P.m v'.ec] 25) = wg := ⟨_, rfl⟩; obtain ⟨hbg, hgbx, hgsz⟩ := boxed w1 (.cells #[.int .i64 P.words, .int .i64 P.locals, .slice v'.cp P.n v'.cc, .slice v'.ep P.m v'.ec] 25) wg hwg; have HG : Hid (w1.alloc (.cells #[.int .i64 P.words, .int .i64 P.locals, .slice v'.cp P.n v'.cc, .slice v'.ep P.m v'.ec] 25) = wg) := hwg; clear hwg; have hpg := hp1.below hbg; have hpp := (hp0.below z1).below hbg; have hpb := (hbg.block _ (by have := z1.size; omega)).trans ((z1.block _ (by omega)).trans hbox); have hbw := (hb0.trans (z1.mono hb0.size)).trans (hbg.mono (Nat.le_trans hb0.size z1.size)); obtain ⟨g0, g1, g2, g3⟩ := cells4 hgbx; obtain ⟨o0, o1, o2, o3⟩ := cells4 hpb; have hlt1 : w1.heap.size < wg.heap.size := (by omega); have hlt2 : w.heap.size < wg.heap.size := (by have := z1.size; omega); have HV := verify_any P v' kinds wg hpg.1 hpg.2) | (go_at_call 14; rw [HG.out]; (with_reducible refine HV.mono ?_); rintro e w2 ⟨rfl, y1⟩; obtain ⟨a0, a1, a2, a3⟩ := cells4 ((y1.block _ hlt2).trans hpb); have HR := rverify_any P v kinds w2 (hpp.below y1)) | (go_at_call 15; (with_reducible refine HR.mono ?_); rintro e w3 ⟨rfl, x1⟩; have hl3 := y1.size; obtain ⟨c0, c1, c2, c3⟩ := cells4 ((x1.block _ (by omega)).trans ((y1.block _ hlt2).trans hpb)); obtain ⟨k0, k1, k2, k3⟩ := cells4 ((x1.block _ (by omega)).trans ((y1.block _ hlt1).trans hgbx)); have HS := sameProgram_yes P v' v w3 ((hpg.below y1).below x1) ((hpp.below y1).below x1) hs) | (go_at_call 13; (with_reducible refine HS.mono ?_); rintro e w4 ⟨rfl, s1⟩))
  go_ret
  exact ⟨rfl, ((hbw.trans (y1.mono hbw.size)).trans (x1.mono (Nat.le_trans hbw.size y1.size))).trans (s1.mono (Nat.le_trans hbw.size (Nat.le_trans y1.size x1.size)))⟩
theorem kat_own {W : World} {base n : Nat} {v : Value} {K : Nat → Int} (h : Own W base 3 1 v n (iv K)) : ∃ p c, v = .slice p n c ∧ KAt W p n K := by
  rcases h.form with ⟨h1, h2⟩ | ⟨g, c, h1, h2, h3⟩
  · exact ⟨none, 0, by rw [h1, h2], .inl h2⟩
  · subst h1
    exact ⟨_, _, rfl, .inr ⟨g, 0, rfl, h3, fun j hj => by rw [Nat.zero_add]; exact h.cell (by omega)⟩⟩
theorem rows_same {P : Pg} {kinds : Int} {wg w2 w3 : World} {r r' : Value} {c c' : Int} (y1 : Below wg.heap.size wg w2) (x1 : Below w2.heap.size w2 w3) (y2 : dAns P kinds w2 wg.heap.size r c) (x2 : rAns P kinds w3 w2.heap.size r' c') (hs : roomyP P) :
    ∃ (pp : Option Addr) (pm pc : Nat) (qp : Option Addr) (qc : Nat), r = .slice pp pm pc ∧ r' = .slice qp pm qc ∧ c' = c ∧ Calls Try.prog 12 #[.slice pp pm pc, .slice qp pm qc] w3 fun e w' => e = .returned (.bool true) ∧ Below w3.heap.size w3 w' := by
  have hc : c' = c := x2.1.trans y2.1.symm
  by_cases h0 : c = 0
  · obtain ⟨db, hr, ho⟩ := y2.2.2 h0
    have ho3 : Own w3 wg.heap.size 3 1 r P.n (iv (dL P)) := ho.far fun k hk => by
      rw [hr] at hk ho
      cases hk
      obtain ⟨cur, k1, _⟩ := ho.block
      exact x1.block _ (Array.getElem?_eq_some_iff.1 k1).1
    have hr2 := x2.2.2 (hc.trans h0)
    obtain ⟨p, c1, e1, k1⟩ := kat_own ho3
    obtain ⟨q, c2, e2, k2⟩ := kat_own hr2
    have HI := sameInts_any p q P.n P.n c1 c2 (dL P) (dL P) (by have := hs.1; omega) w3 k1 k2
    rw [decide_eq_true rfl, sameF_yes (fun _ _ => rfl)] at HI
    exact ⟨p, P.n, c1, q, c2, e1, e2, hc, HI⟩
  · have HI := sameInts_any none none 0 0 0 0 (fun _ => 0) (fun _ => 0) (by omega) w3 (.inl rfl) (.inl rfl)
    rw [decide_eq_true rfl, sameF_yes (fun _ _ => rfl)] at HI
    exact ⟨none, 0, 0, none, 0, y2.2.1 h0, x2.2.1 (by rw [hc]; exact h0), hc, HI⟩
set_option maxRecDepth 100000 in
set_option maxHeartbeats 4000000 in
theorem law_depths (P : Pg) (v : PgV) (kinds : Int) (w : World) (h : PAt w P v) (hs : roomyP P) :
    Calls Try.prog 3 #[.agg #[.int .i64 P.words, .int .i64 P.locals, .slice v.cp P.n v.cc, .slice v.ep P.m v.ec], .int .i64 kinds] w fun e w' => e = .returned (.bool true) ∧ Below w.heap.size w w' := by
  obtain ⟨wp, hwp⟩ : ∃ wp, w.alloc (.cells #[.int .i64 P.words, .int .i64 P.locals, .slice v.cp P.n v.cc, .slice v.ep P.m v.ec] 25) = wp := ⟨_, rfl⟩
  obtain ⟨hb0, hbox, hszp⟩ := boxed w (.cells #[.int .i64 P.words, .int .i64 P.locals, .slice v.cp P.n v.cc, .slice v.ep P.m v.ec] 25) wp hwp
  have HB : Hid (w.alloc (.cells #[.int .i64 P.words, .int .i64 P.locals, .slice v.cp P.n v.cc, .slice v.ep P.m v.ec] 25) = wp) := hwp
  have hp0 := h.below hb0
  have HC := copyProgram_any P v wp hp0 hs
  clear hwp h
  go_enter Try.func3, Try.ntmps3
  go_wp2_with (first | (go_at_call 9; rw [HB.out]; (with_reducible refine HC.mono ?_); rintro e w1 ⟨v', rfl, hp1, z1⟩; obtain ⟨wg, hwg⟩ : ∃ wg, w1.alloc (.cells #[.int .i64 P.words, .int .i64 P.locals, .slice v'.cp P.n v'.cc, .slice v'.ep P.m v'.ec] 25) = wg := ⟨_, rfl⟩; obtain ⟨hbg, hgbx, hgsz⟩ := boxed w1 (.cells #[.int .i64 P.words, .int .i64 P.locals, .slice v'.cp P.n v'.cc, .slice v'.ep P.m v'.ec] 25) wg hwg; have HG : Hid (w1.alloc (.cells #[.int .i64 P.words, .int .i64 P.locals, .slice v'.cp P.n v'.cc, .slice v'.ep P.m v'.ec] 25) = wg) := hwg; clear hwg; have hpg := hp1.below hbg; have hpp := (hp0.below z1).below hbg; have hpb := (hbg.block _ (by have := z1.size; omega)).trans ((z1.block _ (by omega)).trans hbox); have hbw := (hb0.trans (z1.mono hb0.size)).trans (hbg.mono (Nat.le_trans hb0.size z1.size)); obtain ⟨g0, g1, g2, g3⟩ := cells4 hgbx; obtain ⟨o0, o1, o2, o3⟩ := cells4 hpb; have hlt1 : w1.heap.size < wg.heap.size := (by omega); have hlt2 : w.heap.size < wg.heap.size := (by have := z1.size; omega); have HV := depths_any P v' kinds wg hpg.1 hpg.2) | (go_at_call 10; rw [HG.out]; (with_reducible refine HV.mono ?_); rintro e w2 ⟨r, c, rfl, y1, y2⟩; obtain ⟨a0, a1, a2, a3⟩ := cells4 ((y1.block _ hlt2).trans hpb); have HR := rDepths_any P v kinds w2 (hpp.below y1).1 (hpp.below y1).2) | (go_at_call 11; (with_reducible refine HR.mono ?_); rintro e w3 ⟨r', c', rfl, x1, x2⟩; have hl3 := y1.size; obtain ⟨c0, c1, c2, c3⟩ := cells4 ((x1.block _ (by omega)).trans ((y1.block _ hlt2).trans hpb)); obtain ⟨k0, k1, k2, k3⟩ := cells4 ((x1.block _ (by omega)).trans ((y1.block _ hlt1).trans hgbx)); obtain ⟨pp, pm, pc, qp, qc, hr, hr', hcc, HI⟩ := rows_same y1 x1 y2 x2 hs; subst hr; subst hr'; subst hcc) | (go_at_call 12; (with_reducible refine HI.mono ?_); rintro e w4 ⟨rfl, t1⟩; have hl4 := x1.size; obtain ⟨d0, d1, d2, d3⟩ := cells4 ((t1.block _ (by omega)).trans ((x1.block _ (by omega)).trans ((y1.block _ hlt2).trans hpb))); obtain ⟨f0, f1, f2, f3⟩ := cells4 ((t1.block _ (by omega)).trans ((x1.block _ (by omega)).trans ((y1.block _ hlt1).trans hgbx))); have HS := sameProgram_yes P v' v w4 (((hpg.below y1).below x1).below t1) (((hpp.below y1).below x1).below t1) hs) | (go_at_call 13; (with_reducible refine HS.mono ?_); rintro e w5 ⟨rfl, s1⟩))
  go_ret
  exact ⟨rfl, (((hbw.trans (y1.mono hbw.size)).trans (x1.mono (Nat.le_trans hbw.size y1.size))).trans (t1.mono (Nat.le_trans hbw.size (Nat.le_trans y1.size x1.size)))).trans (s1.mono (Nat.le_trans hbw.size (Nat.le_trans y1.size (Nat.le_trans x1.size t1.size))))⟩
end Go.Proofs.Ytjefmfcaagjoaaa
