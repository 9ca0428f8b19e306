import Derived.Test.YthbngffonbhakaaDoorVL5
import Derived.BigQuiet
import Derived.Deep.RegionLaw
import Derived.Deep.RegionHeld3
import Derived.Deep.Cut
import Derived.Deep.DeepCutAuto
import Derived.Deep.CutBlock
import Derived.Deep.CutRange
import Derived.Handy
namespace Go.Proofs.YthbngffonbhakaaDoor
open Go.ChangeShapes Go.WideShapes Go.ChangeAt Go.RowKit Go.Sort
set_option linter.unusedVariables false
set_option linter.unusedSimpArgs false


theorem N64.one (w : World) (x : Int) : N64 (w.alloc (.cells #[.int .i64 x] 2)) (some ⟨w.heap.size, 0, none⟩) 1 (fun _ => x) := .inr ⟨w.heap.size, #[.int .i64 x], rfl, World.alloc_heap_new _ _, fun i hi => by obtain rfl : i = 0 := (by omega); rfl⟩
theorem N64.two (w : World) (x y : Int) : N64 (w.alloc (.cells #[.int .i64 x, .int .i64 y] 2)) (some ⟨w.heap.size, 0, none⟩) 2 (abF x y) := .inr ⟨w.heap.size, #[.int .i64 x, .int .i64 y], rfl, World.alloc_heap_new _ _, fun i hi => by rcases (by omega : i = 0 ∨ i = 1) with rfl | rfl <;> rfl⟩
theorem N64.few {W : World} {q : Option Addr} {k k' : Nat} {f : Nat → Int} (h : N64 W q k f) (hk : k' ≤ k) : N64 W q k' f := by
  rcases h with h | ⟨g, cs, h1, h2, h3⟩
  · exact .inl (by omega)
  · exact .inr ⟨g, cs, h1, h2, fun i hi => h3 i (by omega)⟩
theorem Nms.fr {B : Nat} {w w' : World} (h : Nms w) (hB : 0 < B) (hb : Below B w w') : Nms w' := fun k hk => by
  rw [hb.cell (p := ⟨0, k, none⟩) hB]
  exact h k hk
def abP (P : Pg) : Prop := ∀ i, i < P.n → I64 (P.a i) ∧ I64 (P.b i)
set_option maxRecDepth 100000 in
set_option maxHeartbeats 4000000 in
theorem list_any (P : Pg) (v : PgV) (hab : abP P) (w : World) (h : PAt w P v) (htab : Tb w.heap.size w) (hnm : Nms w) (hG : 0 < w.heap.size) :
    Calls Tryd.prog 5 #[.agg #[.int .i64 P.words, .int .i64 P.locals, .slice v.cp P.n v.cc, .slice v.ep P.m v.ec]] w fun e w' => (wrP P → e = .returned (bst (lsB P))) ∧ (¬ wrP P → e = .returned (bst [])) ∧ Fr w.heap.size w w' := by
  obtain ⟨B, hBB⟩ : ∃ B, w.heap.size = B := ⟨_, rfl⟩
  rw [hBB] at htab hG ⊢
  obtain ⟨wb, hwb⟩ : ∃ wb, w.alloc (.cells #[.int .i64 P.words, .int .i64 P.locals, .slice v.cp P.n v.cc, .slice v.ep P.m v.ec] 25) = wb := ⟨_, rfl⟩
  have hb0 : Fr B w wb := by rw [← hwb]; exact Fr.alloc (by omega) _
  have hbox : wb.heap[w.heap.size]? = some (.cells #[.int .i64 P.words, .int .i64 P.locals, .slice v.cp P.n v.cc, .slice v.ep P.m v.ec] 25 (0, 0)) := by rw [← hwb]; exact World.alloc_heap_new w _
  have HW : Hid (w.alloc (.cells #[.int .i64 P.words, .int .i64 P.locals, .slice v.cp P.n v.cc, .slice v.ep P.m v.ec] 25) = wb) := hwb
  have hpb : PAt wb P v := h.below (by rw [hBB]; exact hb0.bel)
  have HCB := cbw_any P v wb hpb
  have hbs : B ≤ wb.heap.size := by have := hb0.size; omega
  obtain ⟨c0, c1, c2, c3⟩ := cells4 hbox
  have HP : Hid (∀ W, Fr B wb W → (W.cell? ⟨B, 0, none⟩ = some (.int .i64 P.words) ∧ W.cell? ⟨B, 1, none⟩ = some (.int .i64 P.locals) ∧ W.cell? ⟨B, 2, none⟩ = some (.slice v.cp P.n v.cc) ∧ W.cell? ⟨B, 3, none⟩ = some (.slice v.ep P.m v.ec)) ∧ IAt W v.cp P.n P.op P.a P.b ∧ KAt W v.ep P.m P.en ∧ Tb B W ∧ Nms W ∧ B ≤ W.heap.size) := fun W hW => by
    have hq := h.below (W' := W) (by rw [hBB]; exact (hb0.trans hW).bel)
    exact ⟨cells4 (hW.block (by rw [← hBB]; exact hbox) (by decide)), hq.1, hq.2, htab.on (hb0.trans hW).bel, hnm.fr hG (hb0.trans hW).bel, Nat.le_trans hbs hW.size⟩
  rw [← hwb] at c0 c1 c2 c3
  have H0 : Hid (Fr B w wb ∧ B ≤ wb.heap.size) := ⟨hb0, hbs⟩
  have HAB : Hid (abP P) := hab
  clear h hwb hb0 hbox hpb hbs htab hnm hab
  by_cases hs : wrP P
  case neg =>
    have HS := hid hs
    clear hs
    go_enter Tryd.func5, Tryd.ntmps5
    go_wp2_with (go_at_call 9; rw [HW.out]; (with_reducible refine HCB.mono ?_); rintro r w1 ⟨bz, rfl, h5, h6⟩; obtain rfl : bz = false := (by cases bz; rfl; exact absurd (h5.1 rfl) HS.out); have H1 := hid h6; clear h5 h6)
    go_ret
    exact ⟨fun h9 => absurd h9 HS.out, fun _ => rfl, H0.out.1.trans (Fr.below H0.out.2 H1.out)⟩
  case pos =>
  have HS := hid hs
  clear hs
  go_enter Tryd.func5, Tryd.ntmps5
  go_upto_region 4 with (go_at_call 9; rw [HW.out]; (with_reducible refine HCB.mono ?_); rintro r w1 ⟨bz, rfl, h5, h6⟩; obtain rfl : bz = true := h5.2 HS.out; have H1 : Hid (Fr B wb w1) := (Fr.below H0.out.2 h6); clear h5 h6)
  clear c0 c1 c2 c3 HCB
  clear HW hBB hG
  have hsz := HS.out.1
  have hwI : I64 P.words := ⟨by have := hsz.1; omega, by have := hsz.1; omega⟩
  have hlI : I64 P.locals := ⟨by have := hsz.2.1; omega, by have := hsz.2.1; omega⟩
  obtain ⟨⟨c0, c1, c2, c3⟩, hI, hK, hT, hN, hB1⟩ := HP.out w1 H1.out
  have HA := aline_any B [119, 111, 114, 100, 115] (by decide) (some ⟨w1.heap.size, 0, none⟩) 1 1 (fun _ => P.words) (by omega) (fun _ _ => hwI) (.slice none 0 0) [] (by simp) (w1.alloc (.cells #[.int .i64 P.words] 2)) (br_nil _ _) (N64.one _ _) (by have := (Fr.alloc hB1 (.cells #[.int .i64 P.words] 2)).size; omega) (hT.on (Fr.alloc hB1 _).bel)
  have HB1 := hid hB1
  clear hsz hI hK hT hN hB1
  go_upto_region 5 with (go_at_call 10; (with_reducible refine HA.mono ?_); rintro r w2 ⟨x2, rfl, b2, f2⟩)
  have H2 : Hid (BR B w2 x2 ([119, 111, 114, 100, 115] ++ numB P.words ++ [10]) ∧ Fr B wb w2) := ⟨by simpa [nsB] using b2, H1.out.trans ((Fr.alloc HB1.out _).trans f2)⟩
  clear HA b2 f2 c0 c1 c2 c3 HB1
  obtain ⟨⟨c0, c1, c2, c3⟩, hI, hK, hT, hN, hB1⟩ := HP.out w2 H2.out.2
  have l2 := numB_len hwI
  have HA := aline_any B [108, 111, 99, 97, 108, 115] (by decide) (some ⟨w2.heap.size, 0, none⟩) 1 1 (fun _ => P.locals) (by omega) (fun _ _ => hlI) x2 _ (by simp only [List.length_append, List.length_cons, List.length_nil]; omega) (w2.alloc (.cells #[.int .i64 P.locals] 2)) (H2.out.1.alloc _) (N64.one _ _) (by have := (Fr.alloc hB1 (.cells #[.int .i64 P.locals] 2)).size; omega) (hT.on (Fr.alloc hB1 _).bel)
  have HB1 := hid hB1
  clear hI hK hT hN hB1
  go_upto_region 6 with (go_at_call 10; (with_reducible refine HA.mono ?_); rintro r w3 ⟨x3, rfl, b3, f3⟩)
  have H3 : Hid (BR B w3 x3 ([119, 111, 114, 100, 115] ++ numB P.words ++ [10] ++ ([108, 111, 99, 97, 108, 115] ++ numB P.locals ++ [10])) ∧ Fr B wb w3) := ⟨by simpa [nsB] using b3, H2.out.2.trans ((Fr.alloc HB1.out _).trans f3)⟩
  clear HA b3 f3 c0 c1 c2 c3 HB1
  obtain ⟨⟨c0, c1, c2, c3⟩, hI, hK, hT, hN, hB1⟩ := HP.out w3 H3.out.2
  have l3 := numB_len hlI
  have HA := aent_any B v.ep P.m v.ec P.en HS.out.1.2.2.2 HS.out.2.1 x3 _ (by simp only [List.length_append, List.length_cons, List.length_nil]; omega) w3 H3.out.1 (fun W hW => (HP.out W (H3.out.2.trans hW)).2.2.1) hB1 hT
  clear hI hK hT hN hB1
  go_upto_region 7 with (go_at_call 11; (with_reducible refine HA.mono ?_); rintro r w4 ⟨x4, rfl, b4, f4⟩)
  obtain ⟨L, hL⟩ : ∃ L, hdB P ++ enB P.en P.m ++ [10] = L := ⟨_, rfl⟩
  have eL : [119, 111, 114, 100, 115] ++ numB P.words ++ [10] ++ ([108, 111, 99, 97, 108, 115] ++ numB P.locals ++ [10]) ++ ([101, 110, 116, 114, 121] ++ enB P.en P.m ++ [10]) = L := by rw [← hL]; simp [hdB]
  rw [eL] at b4
  have l4 : L.length ≤ 1000 := by
    have z1 := hdB_len HS.out.1
    have z2 := enB_len (e := P.en) (m := P.m) HS.out.2.1 P.m (Nat.le_refl _)
    have z3 := HS.out.1.2.2.2
    rw [← hL]
    simp only [List.length_append, List.length_singleton]
    omega
  have H4 : Hid (BR B w4 x4 L ∧ Fr B wb w4) := ⟨b4, H3.out.2.trans f4⟩
  have HL := hid hL
  have HL4 := hid l4
  clear HA b4 f4 c0 c1 c2 c3 eL hL l4 l3 l2 hwI hlI
  obtain ⟨⟨c0, c1, c2, c3⟩, hI, hK, hT, hN, hB1⟩ := HP.out w4 H4.out.2
  clear hI hK hT hN hB1
  go_upto_region 8 with fail
  clear c0 c1 c2 c3
  go_loopw [3, 27] (fun x y wr => ∃ j : Nat, y = .int .i64 (j : Int) ∧ j ≤ P.n ∧ BR B wr x (L ++ coB P j) ∧ Fr B wb wr) (fun _ y _ => P.n - (intOf y).toNat)
  case atStart => exact ⟨0, rfl, Nat.zero_le _, by simpa [coB] using H4.out.1, H4.out.2⟩
  case round =>
  obtain ⟨j, rfl, hj, hb, hfr⟩ := hrel
  clear H4
  have hsz := HS.out.1.2.2.1
  by_cases hlt : j < P.n
  case pos =>
    have dlt : decide ((j : Int) < (P.n : Int)) = true := by simp; omega
    have hme := vmeas hlt
    have ei : IntKind.i64.wrap ((j : Int) + 1) = (j : Int) + 1 := by rw [IntKind.wrap_i64]; omega
    have i0 : (0 : Int) ≤ (j : Int) := by omega
    have i1 : (j : Int) < (P.n : Int) := by omega
    obtain ⟨-, hI, -, hT, hN, hB1⟩ := HP.out wr hfr
    rcases hI with h0 | ⟨g, o, hq, _, hc⟩
    · omega
    obtain ⟨y0, y1, y2⟩ := hc j hlt
    rw [hq]
    have hop := HS.out.2.2 j hlt
    obtain ⟨ok, hok⟩ : ∃ ok : Nat, P.op j = (ok : Int) := ⟨(P.op j).toNat, by omega⟩
    obtain ⟨aj, haj⟩ : ∃ aj, P.a j = aj := ⟨_, rfl⟩
    obtain ⟨bj, hbj⟩ : ∃ bj, P.b j = bj := ⟨_, rfl⟩
    have hab := HAB.out j hlt
    have hco : coB P (j + 1) = coB P j ++ lnB ok aj bj := by rw [← haj, ← hbj, ← hok]; rfl
    rw [hok] at y0 hop
    rw [haj] at y1 hab
    rw [hbj] at y2 hab
    have hlen : (L ++ coB P j).length ≤ 1000000 := by
      have z1 := coB_len (P := P) HAB.out j hj
      have z2 := HL4.out
      simp only [List.length_append]
      omega
    have HCO := hid hco
    have HX : Hid (BR B wr u3 (L ++ coB P j) ∧ Fr B wb wr ∧ Tb B wr ∧ Nms wr ∧ B ≤ wr.heap.size) := ⟨hb, hfr, hT, hN, hB1⟩
    clear hb hfr hT hN hB1 hc hq hok haj hbj hco hsz
    go_upto_region 11 with fail
    have htl := tlN_le ok aj bj
    obtain ⟨wz, hwz⟩ : ∃ wz, (wr.alloc (.cells #[.int .i64 (ok : Int), .int .i64 aj, .int .i64 bj] 35)).alloc (.cells #[.int .i64 aj, .int .i64 bj] 2) = wz := ⟨_, rfl⟩
    rw [hwz]
    have hz1 : Fr B wr wz := by
      have z0 := HX.out.2.2.2.2
      have z1 := Fr.alloc z0 (.cells #[.int .i64 (ok : Int), .int .i64 aj, .int .i64 bj] 35)
      rw [← hwz]
      exact z1.trans (Fr.alloc (Nat.le_trans z0 z1.size) _)
    have hz2 : wz.heap[wr.heap.size]? = some (.cells #[.int .i64 (ok : Int), .int .i64 aj, .int .i64 bj] 35 (0, 0)) := by
      rw [← hwz]
      exact (Fr.alloc (B := 0) (Nat.zero_le _) _).block (World.alloc_heap_new wr _) (by decide)
    have hz3 : N64 wz (some ⟨wr.heap.size + 1, 0, none⟩) 2 (abF aj bj) := by
      have z1 := N64.two (wr.alloc (.cells #[.int .i64 (ok : Int), .int .i64 aj, .int .i64 bj] 35)) aj bj
      rw [hwz] at z1
      have e : (wr.alloc (.cells #[.int .i64 (ok : Int), .int .i64 aj, .int .i64 bj] 35)).heap.size = wr.heap.size + 1 := Array.size_push _
      rw [e] at z1
      exact z1
    have hz4 : BR B wz u3 (L ++ coB P j) := by rw [← hwz]; exact (HX.out.1.alloc _).alloc _
    have HZ : Hid (∀ W, Fr B wz W → (W.cell? ⟨wr.heap.size, 0, none⟩ = some (.int .i64 (ok : Int)) ∧ W.cell? ⟨wr.heap.size, 1, none⟩ = some (.int .i64 aj) ∧ W.cell? ⟨wr.heap.size, 2, none⟩ = some (.int .i64 bj)) ∧ W.cell? ⟨0, ok, none⟩ = some (.string ⟨(nm ok).toArray⟩) ∧ N64 W (some ⟨wr.heap.size + 1, 0, none⟩) 2 (abF aj bj) ∧ Tb B W ∧ B ≤ W.heap.size) := fun W hW => by
      have z := HP.out W (HX.out.2.1.trans (hz1.trans hW))
      have z9 := z.2.2.2.2.1 ok (by omega)
      exact ⟨cells3v (hW.block hz2 (by decide)), by simpa [nm] using z9, hz3.fr hW, z.2.2.2.1, z.2.2.2.2.2⟩
    obtain ⟨⟨q0, q1, q2⟩, n0, -, -, hBz⟩ := HZ.out wz (Fr.refl _ _)
    have HX4 : Hid (BR B wz u3 (L ++ coB P j) ∧ Fr B wr wz ∧ B ≤ wz.heap.size) := ⟨hz4, hz1, hBz⟩
    have HTO : Calls Tryd.prog 12 #[.agg #[.int .i64 (ok : Int), .int .i64 aj, .int .i64 bj]] wz.drew fun e w5 => e = .returned (.int .i64 (tlN ok aj bj : Int)) ∧ BR B w5 u3 (L ++ coB P j) ∧ Fr B wz w5 := (told_any ok aj bj hop wz.drew).mono fun e w5 h5 => ⟨h5.1, (hz4.below (drewV wz)).below h5.2, ((Fr.refl B wz).drew).trans (Fr.below hBz h5.2)⟩
    have HAL := fun (W : World) (hW : Fr B wz W) (hb : BR B W u3 (L ++ coB P j)) => aline_any B (nm ok) (by have := nm_len ok; omega) (some ⟨wr.heap.size + 1, 0, none⟩) (tlN ok aj bj) 2 (abF aj bj) htl (fun i _ => by unfold abF; split; exact hab.1; exact hab.2) u3 _ hlen W hb ((HZ.out W hW).2.2.1.few htl) (HZ.out W hW).2.2.2.2 (HZ.out W hW).2.2.2.1
    have eLn : L ++ coB P j ++ (nm ok ++ nsB (abF aj bj) (tlN ok aj bj) ++ [10]) = L ++ coB P (j + 1) := by rw [HCO.out]; simp [lnB]
    rw [eLn] at HAL
    clear eLn
    generalize tlN ok aj bj = tl at HTO HAL htl
    have t0 : (0 : Int) ≤ (tl : Int) := by omega
    have t1 : (tl : Int) ≤ 2 := by omega
    have o0 : (0 : Int) ≤ (ok : Int) := by omega
    have o1 : (ok : Int) < 42 := by omega
    clear hz1 hz2 hz3 hz4 hwz hBz htl hop hab hlen y0 y1 y2
    go_region_with (first | (go_at_call 12; (with_reducible refine HTO.mono ?_); rintro e w5 ⟨rfl, b5, f5⟩; have B5 := hid (And.intro b5 f5); obtain ⟨⟨q0, q1, q2⟩, n0, -, -, -⟩ := HZ.out w5 f5; clear b5 f5) | (go_at_call 10; (with_reducible refine (HAL _ B5.out.2 B5.out.1).mono ?_); rintro e w6 ⟨x6, rfl, b6, f6⟩))
    all_goals (go_wp2_with fail)
    all_goals exact ⟨⟨j + 1, rfl, hlt, b6, HX.out.2.1.trans (HX4.out.2.1.trans (B5.out.2.trans f6))⟩, hme⟩
  case neg =>
    have dlt : decide ((j : Int) < (P.n : Int)) = false := by simp; omega
    obtain rfl : j = P.n := by omega
    have eL : L ++ coB P P.n = lsB P := by rw [← HL.out]; rfl
    have hpos : 0 < (lsB P).length := by simp [lsB, hdB]
    rw [eL] at hb
    obtain ⟨M, hM⟩ : ∃ M, lsB P = M := ⟨_, rfl⟩
    rw [hM] at hb hpos
    obtain ⟨g, cap, rfl, hcv⟩ := br_conv hb hpos
    have HF := hid hfr
    have HM := hid hM
    clear hb hfr hsz hM eL
    go_wp2_with fail
    go_ret
    exact ⟨fun _ => by rw [HM.out]; rfl, fun h9 => absurd HS.out h9, H0.out.1.trans HF.out⟩
end Go.Proofs.YthbngffonbhakaaDoor
