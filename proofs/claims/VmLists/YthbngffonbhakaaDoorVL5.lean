import Derived.Test.YthbngffonbhakaaDoorVL4
import Derived.BigQuiet
import Derived.Deep.RegionLaw
import Derived.Deep.RegionHeld3
import Derived.Deep.Cut
import Derived.Deep.DeepCutAuto
import Derived.Deep.CutBlock
import Derived.Deep.CutRange
import Derived.Handy
namespace Go.Proofs.YthbngffonbhakaaDoor
open Go.ChangeShapes Go.WideShapes Go.ChangeAt Go.RowKit Go.Sort
set_option linter.unusedVariables false
set_option linter.unusedSimpArgs false


set_option maxRecDepth 100000 in
set_option maxHeartbeats 2000000 in
theorem aent_any (B : Nat) (q : Option Addr) (m cq : Nat) (e : Nat → Int) (hm32 : m ≤ 32) (he : ∀ i, i < m → -1 ≤ e i ∧ e i < 4096) (x : Value) (l : List UInt8) (hl : l.length ≤ 1000) (w : World) (hx : BR B w x l) (hK : ∀ W, Fr B w W → KAt W q m e) (hB : B ≤ w.heap.size) (htab : Tb B w) :
    Calls Tryd.prog 11 #[x, .slice q m cq] w fun r w' => ∃ x', r = .returned x' ∧ BR B w' x' (l ++ ([101, 110, 116, 114, 121] ++ enB e m ++ [10])) ∧ Fr B w w' := by
  have HT : Hid (Tb B w) := htab
  have HK : Hid (∀ W, Fr B w W → KAt W q m e) := hK
  have HX : Hid (BR B w x l) := hx
  have HE : Hid (∀ i, i < m → -1 ≤ e i ∧ e i < 4096) := he
  clear htab hK hx he
  go_enter Tryd.func11, Tryd.ntmps11
  go_wp2_with (at_builtin; refine app_str rfl _ _ rfl B x l rfl HX.out [101, 110, 116, 114, 121] rfl (by simp; omega) hB ?_; intro v1 w1 b1 f1)
  have H1 : Hid (BR B w1 v1 (l ++ [101, 110, 116, 114, 121]) ∧ Fr B w w1) := ⟨b1, f1⟩
  clear b1 f1
  go_loopw [0, 11] (fun v y wr => ∃ j : Nat, y = .int .i64 (j : Int) ∧ j ≤ m ∧ BR B wr v (l ++ [101, 110, 116, 114, 121] ++ enB e j) ∧ Fr B w wr) (fun _ y _ => m - (intOf y).toNat)
  case atStart => exact ⟨0, rfl, Nat.zero_le _, by simpa [enB] using H1.out.1, H1.out.2⟩
  case round =>
    obtain ⟨j, rfl, hj, hb, hfr⟩ := hrel
    clear H1
    have hlen := enB_len (e := e) (m := m) HE.out j hj
    have HB0 : Hid (BR B wr u0 (l ++ [101, 110, 116, 114, 121] ++ enB e j) ∧ Fr B w wr) := ⟨hb, hfr⟩
    have hsz : B ≤ wr.heap.size := Nat.le_trans hB hfr.size
    have hlim : (l ++ [101, 110, 116, 114, 121] ++ enB e j).length ≤ 2000 := by simp only [List.length_append, List.length_cons, List.length_nil]; omega
    by_cases hlt : j < m
    · have dlt : decide ((j : Int) < (m : Int)) = true := by simp; omega
      have hme := vmeas hlt
      have ei : IntKind.i64.wrap ((j : Int) + 1) = (j : Int) + 1 := by rw [IntKind.wrap_i64]; omega
      have i0 : (0 : Int) ≤ (j : Int) := by omega
      have i1 : (j : Int) < (m : Int) := by omega
      rcases HK.out wr hfr with h0 | ⟨g, o, hq, _, hc⟩
      · omega
      subst hq
      have y0 := hc j hlt
      have hej := HE.out j hlt
      have hst : enB e (j + 1) = enB e j ++ (32 :: (if e j = -1 then [45] else Lib.itoa (e j))) := rfl
      obtain ⟨ej, hee⟩ : ∃ ej, e j = ej := ⟨_, rfl⟩
      rw [hee] at y0 hej hst
      have HST := hid hst
      clear hb hfr hlen hc hee hst
      go_upto_region 6 with (at_builtin; refine app_one rfl _ _ rfl B u0 _ rfl HB0.out.1 32 32 rfl rfl (by omega) hsz ?_; intro v2 w2 b2 f2)
      have HB2 : Hid (BR B w2 v2 (l ++ [101, 110, 116, 114, 121] ++ enB e j ++ [32]) ∧ Fr B wr w2) := ⟨b2, f2⟩
      have hsz2 : B ≤ w2.heap.size := Nat.le_trans hsz f2.size
      clear b2 f2
      by_cases h1 : ej = -1
      · have d1 : (ej == -1) = true := by simp [h1]
        go_wp2_with (at_builtin; refine app_str rfl _ _ rfl B v2 _ rfl HB2.out.1 [45] rfl (by simp only [List.length_append, List.length_cons, List.length_nil] at hlim ⊢; omega) hsz2 ?_; intro v3 w3 b3 f3)
        refine ⟨⟨j + 1, rfl, hlt, ?_, HB0.out.2.trans (HB2.out.2.trans f3)⟩, hme⟩
        rw [HST.out, if_pos h1]
        simpa using b3
      · have d1 : (ej == -1) = false := by simp [h1]
        have HA := apI_any B ej ⟨by omega, by omega⟩ v2 _ w2 HB2.out.1 hsz2 (by simp only [List.length_append, List.length_cons, List.length_nil] at hlim ⊢; omega) (HT.out.on (HB0.out.2.trans HB2.out.2).bel)
        go_wp2_with (go_at_call 21; (with_reducible refine HA.mono ?_); rintro r9 w3 ⟨v3, rfl, b3, f3⟩)
        refine ⟨⟨j + 1, rfl, hlt, ?_, HB0.out.2.trans (HB2.out.2.trans f3)⟩, hme⟩
        rw [HST.out, if_neg h1]
        simpa using b3
    · have dlt : decide ((j : Int) < (m : Int)) = false := by simp; omega
      obtain rfl : m = j := by omega
      clear hb hfr hlen
      go_wp2_with (at_builtin; refine app_one rfl _ _ rfl B u0 _ rfl HB0.out.1 10 10 rfl rfl (by omega) hsz ?_; intro v2 w2 b2 f2)
      go_ret
      refine ⟨v2, rfl, ?_, HB0.out.2.trans f2⟩
      simpa using b2
theorem cells3v {W : World} {b : Nat} {c0 c1 c2 : Value} {t : TypeId} (h : W.heap[b]? = some (.cells #[c0, c1, c2] t (0, 0))) : W.cell? ⟨b, 0, none⟩ = some c0 ∧ W.cell? ⟨b, 1, none⟩ = some c1 ∧ W.cell? ⟨b, 2, none⟩ = some c2 := by
  refine ⟨?_, ?_, ?_⟩
  all_goals (unfold World.cell?; rw [h]; rfl)
set_option maxRecDepth 100000 in
set_option maxHeartbeats 2000000 in
theorem cbw_any (P : Pg) (v : PgV) (w : World) (h : PAt w P v) : Calls Tryd.prog 9 #[.agg #[.int .i64 P.words, .int .i64 P.locals, .slice v.cp P.n v.cc, .slice v.ep P.m v.ec]] w fun e w' => ∃ b, e = .returned (.bool b) ∧ (b = true ↔ wrP P) ∧ Below w.heap.size w w' := by
  obtain ⟨wb, hwb⟩ : ∃ wb, w.alloc (.cells #[.int .i64 P.words, .int .i64 P.locals, .slice v.cp P.n v.cc, .slice v.ep P.m v.ec] 25) = wb := ⟨_, rfl⟩
  have hb0 : Below w.heap.size w wb := by rw [← hwb]; exact (Below.refl _ w).alloc (Nat.le_refl _) _
  have hbox : wb.heap[w.heap.size]? = some (.cells #[.int .i64 P.words, .int .i64 P.locals, .slice v.cp P.n v.cc, .slice v.ep P.m v.ec] 25 (0, 0)) := by rw [← hwb]; exact World.alloc_heap_new w _
  have HW : Hid (w.alloc (.cells #[.int .i64 P.words, .int .i64 P.locals, .slice v.cp P.n v.cc, .slice v.ep P.m v.ec] 25) = wb) := hwb
  have HSZ := sized_any P v wb
  have HB : Hid (Below w.heap.size w wb ∧ wb.heap[w.heap.size]? = some (.cells #[.int .i64 P.words, .int .i64 P.locals, .slice v.cp P.n v.cc, .slice v.ep P.m v.ec] 25 (0, 0)) ∧ PAt wb P v ∧ w.heap.size < wb.heap.size) := ⟨hb0, hbox, ⟨h.1.below hb0, h.2.below hb0⟩, lt_of_block hbox⟩
  obtain ⟨c0, c1, c2, c3⟩ := cells4 hbox
  rw [← hwb] at c0 c1 c2 c3
  have HOP := isOp_any
  clear h hwb hb0 hbox
  by_cases hs : sizedP P
  case neg =>
    go_enter Tryd.func9, Tryd.ntmps9
    go_wp2_with (go_at_call 19; rw [HW.out]; (with_reducible refine HSZ.mono ?_); rintro r w1 ⟨bz, rfl, h5, h6⟩; obtain rfl : bz = false := (by cases bz; rfl; exact absurd (h5.1 rfl) hs); have H1 : Hid (Below wb.heap.size wb w1) := (by rw [h6]; exact (Below.refl _ wb).alloc (Nat.le_refl _) _); clear h5 h6)
    go_ret
    first | exact ⟨false, rfl, ⟨fun e => (by cases e), fun h9 => absurd h9.1 hs⟩, HB.out.1.trans (H1.out.mono HB.out.1.size)⟩ | exact .inl ⟨rfl, fun h9 => hs h9.1, HB.out.1.trans (H1.out.mono HB.out.1.size)⟩
  case pos =>
  go_enter Tryd.func9, Tryd.ntmps9
  go_upto_region 3 with (go_at_call 19; rw [HW.out]; (with_reducible refine HSZ.mono ?_); rintro r w1 ⟨bz, rfl, h5, h6⟩; obtain rfl : bz = true := h5.2 hs; have H1 : Hid (Below wb.heap.size wb w1) := (by rw [h6]; exact (Below.refl _ wb).alloc (Nat.le_refl _) _); clear h5 h6)
  clear c0 c1 c2 c3 HSZ
  have HP : Hid (∀ W, Below wb.heap.size wb W → (W.cell? ⟨w.heap.size, 2, none⟩ = some (.slice v.cp P.n v.cc) ∧ W.cell? ⟨w.heap.size, 3, none⟩ = some (.slice v.ep P.m v.ec)) ∧ IAt W v.cp P.n P.op P.a P.b ∧ KAt W v.ep P.m P.en) := fun W hW => by
    obtain ⟨c0, c1, c2, c3⟩ := cells4 ((hW.block _ HB.out.2.2.2).trans HB.out.2.1)
    exact ⟨⟨c2, c3⟩, HB.out.2.2.1.1.below hW, HB.out.2.2.1.2.below hW⟩
  obtain ⟨⟨c2, c3⟩, -, -⟩ := HP.out w1 H1.out
  have hs3 := hs.2.2
  go_wp2_with fail
  clear c2 c3
  go_loopw [13] (fun y wr => ∃ j : Nat, y = .int .i64 (j : Int) ∧ j ≤ P.m ∧ (∀ i, i < j → -1 ≤ P.en i ∧ P.en i < 4096) ∧ wr = w1) (fun y _ => P.m - (intOf y).toNat)
  case atStart => exact ⟨0, rfl, Nat.zero_le _, fun i hi => by omega, rfl⟩
  case round =>
  obtain ⟨j, rfl, hj, hall, hwr⟩ := hrel
  subst wr
  obtain ⟨⟨c2, c3⟩, -, hK⟩ := HP.out w1 H1.out
  have HA : Hid (∀ i, i < j → -1 ≤ P.en i ∧ P.en i < 4096) := hall
  clear hall
  by_cases hlt : j < P.m
  case pos =>
    have dlt : decide ((j : Int) < (P.m : Int)) = true := by simp; omega
    have hm := vmeas hlt
    have ei : IntKind.i64.wrap ((j : Int) + 1) = (j : Int) + 1 := by rw [IntKind.wrap_i64]; omega
    have i0 : (0 : Int) ≤ (j : Int) := by omega
    have i1 : (j : Int) < (P.m : Int) := by omega
    rcases hK with h0 | ⟨g, o, hq, _, hc⟩
    · omega
    have y0 := hc j hlt
    rw [hq]
    obtain ⟨ej, hee⟩ : ∃ ej, P.en j = ej := ⟨_, rfl⟩
    rw [hee] at y0
    have HEE := hid hee
    clear hc hq hee c2 c3
    by_cases g1 : ej < -1
    · have d1 : decide (ej < -1) = true := by simpa using g1
      clear g1
      go_wp2_with fail
      go_ret
      have hno : ¬ wrP P := fun h9 => by have h8 := h9.2.1 j hlt; rw [HEE.out] at h8; have := of_decide_eq_true d1; omega
      first | exact ⟨false, rfl, ⟨fun e => (by cases e), fun h9 => absurd h9 hno⟩, HB.out.1.trans (H1.out.mono HB.out.1.size)⟩ | exact .inl ⟨rfl, hno, HB.out.1.trans (H1.out.mono HB.out.1.size)⟩
    · have d1 : decide (ej < -1) = false := by simpa using g1
      by_cases g2 : 4096 ≤ ej
      · have d2 : decide (4096 ≤ ej) = true := by simpa using g2
        clear g1 g2
        go_wp2_with fail
        go_ret
        have hno : ¬ wrP P := fun h9 => by have h8 := h9.2.1 j hlt; rw [HEE.out] at h8; have := of_decide_eq_true d2; omega
        first | exact ⟨false, rfl, ⟨fun e => (by cases e), fun h9 => absurd h9 hno⟩, HB.out.1.trans (H1.out.mono HB.out.1.size)⟩ | exact .inl ⟨rfl, hno, HB.out.1.trans (H1.out.mono HB.out.1.size)⟩
      · have d2 : decide (4096 ≤ ej) = false := by simpa using g2
        have HOK : Hid (-1 ≤ ej ∧ ej < 4096) := ⟨by omega, by omega⟩
        clear g1 g2
        go_wp2_with fail
        exact ⟨⟨j + 1, rfl, hlt, fun i hi => by
          by_cases e : i = j
          · rw [e, HEE.out]; exact HOK.out
          · exact HA.out i (by omega), (by first | exact rfl | exact trivial)⟩, hm⟩
  case neg =>
  have dlt : decide ((j : Int) < (P.m : Int)) = false := by simp; omega
  obtain rfl : j = P.m := by omega
  clear hK
  go_wp2_with fail
  clear c2 c3
  go_loopw [27] (fun y wr => ∃ j : Nat, y = .int .i64 (j : Int) ∧ j ≤ P.n ∧ (∀ i, i < j → 0 ≤ P.op i ∧ P.op i < 42) ∧ Below w1.heap.size w1 wr) (fun y _ => P.n - (intOf y).toNat)
  case atStart => exact ⟨0, rfl, Nat.zero_le _, fun i hi => by omega, Below.refl _ _⟩
  case round =>
  obtain ⟨k, rfl, hk, hall, hbr⟩ := hrel
  have hbw : Below wb.heap.size wb wr := H1.out.trans (hbr.mono H1.out.size)
  obtain ⟨⟨c2, c3⟩, hI, -⟩ := HP.out wr hbw
  have HO : Hid ((∀ i, i < k → 0 ≤ P.op i ∧ P.op i < 42) ∧ Below w1.heap.size w1 wr ∧ Below w.heap.size w wr) := ⟨hall, hbr, HB.out.1.trans (hbw.mono HB.out.1.size)⟩
  clear hall hbr hbw c2 c3
  by_cases hlt2 : k < P.n
  case pos =>
    have dlt2 : decide ((k : Int) < (P.n : Int)) = true := by simp; omega
    have hm := vmeas hlt2
    have ei : IntKind.i64.wrap ((k : Int) + 1) = (k : Int) + 1 := by rw [IntKind.wrap_i64]; omega
    have i0 : (0 : Int) ≤ (k : Int) := by omega
    have i1 : (k : Int) < (P.n : Int) := by omega
    rcases hI with h0 | ⟨g, o, hq, _, hc⟩
    · omega
    obtain ⟨y0, y1, y2⟩ := hc k hlt2
    rw [hq]
    obtain ⟨ok, hok⟩ : ∃ ok, P.op k = ok := ⟨_, rfl⟩
    rw [hok] at y0
    have HOK := hid hok
    have HI := HOP ok
    clear hc hq hok
    by_cases g1 : 0 ≤ ok ∧ ok < 42
    · have e1 : (decide (0 ≤ ok) && decide (ok < 42)) = true := by simp [g1.1, g1.2]
      rw [e1] at HI
      have HG := hid g1
      clear e1 g1
      go_wp2_with (go_at_call 20; (with_reducible refine (HI _).mono ?_); rintro r9 w2 ⟨rfl, rfl⟩)
      exact ⟨⟨k + 1, rfl, hlt2, fun i hi => by
        by_cases e : i = k
        · rw [e, HOK.out]; exact HG.out
        · exact HO.out.1 i (by omega), HO.out.2.1.alloc HO.out.2.1.size _⟩, hm⟩
    · have e1 : (decide (0 ≤ ok) && decide (ok < 42)) = false := by
        by_cases z1 : 0 ≤ ok
        · have z2 : ¬ ok < 42 := fun z => g1 ⟨z1, z⟩
          simp [z2]
        · simp [z1]
      rw [e1] at HI
      have HG := hid g1
      clear e1 g1
      go_wp2_with (go_at_call 20; (with_reducible refine (HI _).mono ?_); rintro r9 w2 ⟨rfl, rfl⟩)
      go_ret
      have hno : ¬ wrP P := fun h9 => by have h8 := h9.2.2 k hlt2; rw [HOK.out] at h8; exact HG.out h8
      have hbf := HO.out.2.2.alloc HO.out.2.2.size
      first | exact ⟨false, rfl, ⟨fun e => (by cases e), fun h9 => absurd h9 hno⟩, hbf _⟩ | exact .inl ⟨rfl, hno, hbf _⟩
  case neg =>
  have dlt2 : decide ((k : Int) < (P.n : Int)) = false := by simp; omega
  obtain rfl : k = P.n := by omega
  clear hI
  go_wp2_with fail
  go_ret
  have hyes : wrP P := ⟨hs, HA.out, HO.out.1⟩
  first | exact ⟨true, rfl, ⟨fun _ => hyes, fun _ => rfl⟩, HO.out.2.2⟩ | exact .inr ⟨rfl, hyes, HO.out.2.2⟩
end Go.Proofs.YthbngffonbhakaaDoor
