import Derived.Test.YtoihddhjpbahlaaMC4
import Derived.BigQuiet
import Derived.Deep.RegionLaw
import Derived.Deep.RegionHeld3
import Derived.Deep.Cut
import Derived.Deep.DeepCutAuto
import Derived.Deep.CutBlock
import Derived.Deep.CutRange
import Derived.Deep.AppendLies
import Derived.Handy
import Derived.Lib.RabinKarpLaws
namespace Go.Proofs.Ytoihddhjpbahlaa
open Go.ChangeShapes Go.WideShapes Go.ChangeAt Go.RowKit
set_option linter.unusedVariables false
set_option linter.unusedSimpArgs false


structure OpV where
  p : Int
  kd : Int
  a : Int
  b : Int
  k : Int
/-- a script's calls, where they lie -/
def OpIn (W : World) (p : Option Addr) (N : Nat) (X : Nat → OpV) : Prop := N = 0 ∨ ∃ b off, p = some ⟨b, off, none⟩ ∧ b < W.heap.size ∧ ∀ i, i < N → W.cell? ⟨b, off + i * 5, none⟩ = some (.int .i64 (X i).p) ∧ W.cell? ⟨b, off + i * 5 + 1, none⟩ = some (.int .i64 (X i).kd) ∧ W.cell? ⟨b, off + i * 5 + 2, none⟩ = some (.int .i64 (X i).a) ∧ W.cell? ⟨b, off + i * 5 + 3, none⟩ = some (.int .i64 (X i).b) ∧ W.cell? ⟨b, off + i * 5 + 4, none⟩ = some (.int .i64 (X i).k)
theorem OpIn.later {W W' : World} {p : Option Addr} {N : Nat} {X : Nat → OpV} (h : OpIn W p N X) (hb : Below W.heap.size W W') : OpIn W' p N X := by
  rcases h with h | ⟨b, off, h1, h2, h3⟩
  · exact .inl h
  · refine .inr ⟨b, off, h1, Nat.lt_of_lt_of_le h2 hb.size, fun i hi => ?_⟩
    obtain ⟨k0, k1, k2, k3, k4⟩ := h3 i hi
    exact ⟨(hb.cell (p := ⟨b, off + i * 5, none⟩) h2).trans k0, (hb.cell (p := ⟨b, off + i * 5 + 1, none⟩) h2).trans k1, (hb.cell (p := ⟨b, off + i * 5 + 2, none⟩) h2).trans k2, (hb.cell (p := ⟨b, off + i * 5 + 3, none⟩) h2).trans k3, (hb.cell (p := ⟨b, off + i * 5 + 4, none⟩) h2).trans k4⟩
/-- a script in a box -/
def ScAt (W : World) (b : Nat) (w0 w1 r0 r1 : Int) (p : Option Addr) (N c : Nat) : Prop := W.heap[b]? = some (.cells #[.int .i64 w0, .int .i64 w1, .int .i64 r0, .int .i64 r1, .slice p N c] 25 (0, 0))
theorem ScAt.cells {W : World} {b : Nat} {w0 w1 r0 r1 : Int} {p : Option Addr} {N c : Nat} (h : ScAt W b w0 w1 r0 r1 p N c) : W.cell? ⟨b, 0, none⟩ = some (.int .i64 w0) ∧ W.cell? ⟨b, 1, none⟩ = some (.int .i64 w1) ∧ W.cell? ⟨b, 2, none⟩ = some (.int .i64 r0) ∧ W.cell? ⟨b, 3, none⟩ = some (.int .i64 r1) ∧ W.cell? ⟨b, 4, none⟩ = some (.slice p N c) := by
  unfold ScAt at h
  refine ⟨?_, ?_, ?_, ?_, ?_⟩
  all_goals (unfold World.cell?; rw [h]; rfl)
theorem sentP_eq {H H' : Nat → Nat → Nat → Hf} (he : ∀ i j k, (H' i j k).l = (H i j k).l) (n x : Nat) (p : Int) : sentP H' n x p ↔ sentP H n x p := by
  unfold sentP
  simp only [he]
theorem dueP_eq {H H' : Nat → Nat → Nat → Hf} (he : ∀ i j k, (H' i j k).l = (H i j k).l) (ph : Nat → Int) (n x : Nat) : dueP H' ph n x ↔ dueP H ph n x := by
  unfold dueP
  simp only [he]
abbrev byKv : Value := .func (.func 14) #[] #[]
set_option maxRecDepth 100000 in
set_option maxHeartbeats 8000000 in
theorem moves_bad (w0 w1 r0 r1 : Int) (p : Option Addr) (N c : Nat) (W : World) (h : (w0 < 1 ∨ 64 < w0) ∨ (r0 < 1 ∨ 1024 < r0)) :
    Calls Try.prog 3 #[.agg #[.int .i64 w0, .int .i64 w1, .int .i64 r0, .int .i64 r1, .slice p N c]] W fun e W' => e = .returned (.bool true) ∧ Below W.heap.size W W' := by
  have hb : Below W.heap.size W (W.alloc (.cells #[.int .i64 w0, .int .i64 w1, .int .i64 r0, .int .i64 r1, .slice p N c] 25)) := (Below.refl _ W).alloc (Nat.le_refl _) _
  have HB := mhid hb
  clear hb
  by_cases h1 : w0 < 1
  · have d1 : decide (w0 < 1) = true := by simpa using h1
    clear h h1
    go_enter Try.func3, Try.ntmps3
    go_wp2
    go_ret
    exact ⟨rfl, HB.out⟩
  · have d1 : decide (w0 < 1) = false := by simpa using h1
    by_cases h2 : 64 < w0
    · have d2 : decide (64 < w0) = true := by simpa using h2
      clear h h1 h2
      go_enter Try.func3, Try.ntmps3
      go_wp2
      go_ret
      exact ⟨rfl, HB.out⟩
    · have d2 : decide (64 < w0) = false := by simpa using h2
      by_cases h3 : r0 < 1
      · have d3 : decide (r0 < 1) = true := by simpa using h3
        clear h h1 h2 h3
        go_enter Try.func3, Try.ntmps3
        go_wp2
        go_ret
        exact ⟨rfl, HB.out⟩
      · have d3 : decide (r0 < 1) = false := by simpa using h3
        have d4 : decide (1024 < r0) = true := by simp; omega
        clear h h1 h2 h3
        go_enter Try.func3, Try.ntmps3
        go_wp2
        go_ret
        exact ⟨rfl, HB.out⟩
set_option maxRecDepth 100000 in
set_option maxHeartbeats 8000000 in
theorem moves_law (w0 w1 r0 r1 : Int) (p : Option Addr) (N c : Nat) (X : Nat → OpV) (W : World) (h : OpIn W p N X) :
    Calls Try.prog 3 #[.agg #[.int .i64 w0, .int .i64 w1, .int .i64 r0, .int .i64 r1, .slice p N c]] W fun e W' => e = .returned (.bool true) ∧ Below W.heap.size W W' := by
  by_cases hbad : (w0 < 1 ∨ 64 < w0) ∨ (r0 < 1 ∨ 1024 < r0)
  · exact moves_bad w0 w1 r0 r1 p N c W hbad
  obtain ⟨n, rfl⟩ : ∃ n : Nat, w0 = (n : Int) := ⟨w0.toNat, by omega⟩
  have hn0 : 0 < n := by omega
  have hn : n ≤ 64 := by omega
  have hr : 1 ≤ r0 ∧ r0 ≤ 1024 := by omega
  have d1 : decide ((n : Int) < 1) = false := by simp; omega
  have d2 : decide (64 < (n : Int)) = false := by simp; omega
  have d3 : decide (r0 < 1) = false := by simp; omega
  have d4 : decide (1024 < r0) = false := by simp; omega
  obtain ⟨W1, hW1⟩ : ∃ W1, W.alloc (.cells #[.int .i64 (n : Int), .int .i64 w1, .int .i64 r0, .int .i64 r1, .slice p N c] 25) = W1 := ⟨_, rfl⟩
  have hb1 : Below W.heap.size W W1 := by rw [← hW1]; exact (Below.refl _ W).alloc (Nat.le_refl _) _
  have hs1 : ScAt W1 W.heap.size n w1 r0 r1 p N c := by rw [← hW1]; exact World.alloc_heap_new W _
  have HNEW := mb_newC 14 #[] n r0 (by omega) hn hr.1 hr.2 W1
  have HOP := mhid (h.later hb1)
  have HSC := mhid hs1
  have HB1 := mhid hb1
  have HR := mhid (And.intro hn0 (And.intro hn hr))
  have HW1 := mhid hW1
  obtain ⟨SB, hSB⟩ : ∃ SB, W.heap.size = SB := ⟨_, rfl⟩
  rw [hSB] at HSC hs1
  have HSB := mhid hSB
  have HSL := mhid (lt_of_block hs1)
  obtain ⟨c0, c1, c2, c3, c4⟩ := hs1.cells
  clear h hbad hn0 hn hr hs1 hb1 hW1
  go_enter Try.func3, Try.ntmps3
  go_upto_region 4 with fail
  rw [HW1.out]
  clear hSB
  go_upto_region 7 with (go_at_call 13; (with_reducible refine HNEW.mono ?_); rintro e w2 ⟨hb, wb, bb, R, rfl, np, b2⟩; have HNP := mhid (And.intro np.mp b2); clear np b2)
  clear HNEW c0 c1 c2 c3 c4 d1 d2 d3 d4
  have HLA : Hid (∀ wr, Below W1.heap.size W1 wr → ScAt wr SB n w1 r0 r1 p N c ∧ OpIn wr p N X) := fun wr hb => ⟨(hb.block _ HSL.out).trans HSC.out, HOP.out.later hb⟩
  clear HOP HSC
  obtain ⟨B, hB⟩ : ∃ B, W1.heap.size = B := ⟨_, rfl⟩
  rw [hB] at HNP HLA HSL
  have HBB := mhid hB
  clear hB
  go_wp2_with fail
  go_loopw [6] (fun a wr => ∃ (k : Nat) (ph fl : Nat → Int) (H : Nat → Nat → Nat → Hf), a = .int .i64 (k : Int) ∧ k ≤ N ∧ k ≤ 400 ∧ MP (fun _ => none) wr B hb wb bb n r0 byKv R ph fl H ∧ MI n r0 ph H k ∧ Below B W1 wr) (fun a _ => N - (intOf a).toNat)
  case atStart => exact ⟨0, _, _, _, rfl, Nat.zero_le _, Nat.zero_le _, HNP.out.1, MI.new n r0 (by have := HR.out.2.2; omega), HNP.out.2⟩
  case round =>
    obtain ⟨k, ph, fl, H, rfl, hk, hk4, hm, hi, hbr⟩ := hrel
    have HM := mhid (And.intro hm (And.intro hi hbr))
    have hsz : B ≤ wr.heap.size := by have := hbr.size; have := HBB.out; omega
    obtain ⟨hsc, hop⟩ := HLA.out wr hbr
    obtain ⟨c0, c1, c2, c3, c4⟩ := hsc.cells
    by_cases hlt : k < N ∧ k < 400
    · have dl : decide ((k : Int) < (N : Int)) = true := by simp; omega
      have dl4 : decide ((k : Int) < 400) = true := by simp; omega
      have hme := meas hlt.1
      have ek : IntKind.i64.wrap ((k : Int) + 1) = (k : Int) + 1 := by rw [IntKind.wrap_i64]; omega
      have k0 : (0 : Int) ≤ (k : Int) := by omega
      have k1 : (k : Int) < (N : Int) := by omega
      rcases hop with h0 | ⟨ob, off, hp, hob, hcs⟩
      · omega
      obtain ⟨y0, y1, y2, y3, y4⟩ := hcs k hlt.1
      obtain ⟨⟨op, kd, oa, ob2, ok⟩, hX⟩ : ∃ o, X k = o := ⟨_, rfl⟩
      rw [hX] at y0 y1 y2 y3 y4
      simp only at y0 y1 y2 y3 y4
      subst hp
      have HLT := mhid hlt
      have HSZ := mhid hsz
      clear hsc hcs hX hm hi hbr hlt hk hk4 hsz hob
      go_upto_region 11 with fail
      clear y0 y1 y2 y3 y4 c0 c1 c2 c3 c4
      obtain ⟨wz, hwz⟩ : ∃ wz, wr.alloc (.cells #[.int .i64 op, .int .i64 kd, .int .i64 oa, .int .i64 ob2, .int .i64 ok] 34) = wz := ⟨_, rfl⟩
      rw [hwz]
      have hnew : wz.heap[wr.heap.size]? = some (.cells #[.int .i64 op, .int .i64 kd, .int .i64 oa, .int .i64 ob2, .int .i64 ok] 34 (0, 0)) := by rw [← hwz]; exact World.alloc_heap_new wr _
      have hbz : Below wr.heap.size wr wz := by rw [← hwz]; exact (Below.refl _ wr).alloc (Nat.le_refl _) _
      have z1 : wz.cell? ⟨wr.heap.size, 1, none⟩ = some (.int .i64 kd) := by unfold World.cell?; rw [hnew]; rfl
      have z2 : wz.cell? ⟨wr.heap.size, 2, none⟩ = some (.int .i64 oa) := by unfold World.cell?; rw [hnew]; rfl
      have z3 : wz.cell? ⟨wr.heap.size, 3, none⟩ = some (.int .i64 ob2) := by unfold World.cell?; rw [hnew]; rfl
      have z4 : wz.cell? ⟨wr.heap.size, 4, none⟩ = some (.int .i64 ok) := by unfold World.cell?; rw [hnew]; rfl
      have hmz := HM.out.1.later hbz
      have hbb : Below B W1 wz := HM.out.2.2.trans (hbz.mono HSZ.out)
      have hzs : B ≤ wz.heap.size := Nat.le_trans HSZ.out hbz.size
      have HBB2 := mhid hbb
      have ht : k ≤ 1000 := by have := HLT.out; omega
      obtain ⟨hn0, hn, hr⟩ := HR.out
      have HS := send_mi oa ob2 ok (k : Int) hn hr ht HM.out.2.1 wz hmz hzs
      have HF := flip_mi oa hn hr ht HM.out.2.1 wz hmz hzs
      have HD := drop_mi oa hn hr ht HM.out.2.1 wz hmz hzs
      have HN := drain_mi oa hn hr ht HM.out.2.1 wz hmz hzs byK_sorts
      have HZ := mhid hmz
      clear hwz hnew hbz hmz hbb hzs ht hn0 hn hr
      by_cases e1 : kd = 1
      · subst e1
        clear HF HD HN
        go_wp2_with (go_at_call 15; (with_reducible refine HS.mono ?_); rintro e9 w9 ⟨⟨zz, rfl⟩, ⟨fl', H', m9, i9⟩, b9⟩)
        exact ⟨⟨k + 1, ph, fl', H', rfl, HLT.out.1, HLT.out.2, m9, i9.up, HBB2.out.trans b9⟩, hme⟩
      · have q1 : (kd == 1) = false := by simpa using e1
        by_cases e2 : kd = 2
        · subst e2
          clear HS HD HN
          go_wp2_with (go_at_call 16; (with_reducible refine HF.mono ?_); rintro e9 w9 ⟨⟨zz, rfl⟩, ⟨ph', m9, i9⟩, b9⟩)
          exact ⟨⟨k + 1, ph', fl, H, rfl, HLT.out.1, HLT.out.2, m9, i9, HBB2.out.trans b9⟩, hme⟩
        · have q2 : (kd == 2) = false := by simpa using e2
          by_cases e3 : kd = 4
          · subst e3
            clear HS HF HD
            go_wp2_with (go_at_call 17; (with_reducible refine HN.mono ?_); rintro e9 w9 ⟨⟨zz, rfl⟩, ⟨H', m9, i9⟩, b9⟩)
            exact ⟨⟨k + 1, ph, fl, H', rfl, HLT.out.1, HLT.out.2, m9, i9.up, HBB2.out.trans b9⟩, hme⟩
          · have q3 : (kd == 4) = false := by simpa using e3
            by_cases e4 : kd = 5
            · subst e4
              clear HS HF HN
              go_wp2_with (go_at_call 18; (with_reducible refine HD.mono ?_); rintro e9 w9 ⟨⟨zz, rfl⟩, ⟨fl', H', m9, i9⟩, b9⟩)
              exact ⟨⟨k + 1, ph, fl', H', rfl, HLT.out.1, HLT.out.2, m9, i9.up, HBB2.out.trans b9⟩, hme⟩
            · have q4 : (kd == 5) = false := by simpa using e4
              clear HS HF HN HD
              go_wp2_with fail
              exact ⟨⟨k + 1, ph, fl, H, rfl, HLT.out.1, HLT.out.2, HZ.out, HM.out.2.1.up, HBB2.out⟩, hme⟩
    · have HT := mhid (And.intro hk hk4)
      obtain ⟨hn0, hn, hr⟩ := HR.out
      have ht : k ≤ 400 := hk4
      clear hsc hop hm hi hbr hk hk4
      have stop : (decide ((k : Int) < (N : Int)) = false ∧ decide (k < N) = false) ∨ ((decide ((k : Int) < (N : Int)) = true ∧ decide (k < N) = true) ∧ (decide ((k : Int) < 400) = false ∧ decide (k < 400) = false)) := by
        by_cases h8 : k < N
        · exact .inr ⟨⟨by simp; omega, by simp; omega⟩, by simp; omega, by simp; omega⟩
        · exact .inl ⟨by simp; omega, by simp; omega⟩
      have HPH0 := phase_yes hb wb bb n r0 0 hn0 byKv ph fl wr HM.out.1.p HM.out.1.wk
      rw [show ((0 : Nat) : Int) = 0 from rfl] at HPH0
      have HLO := mhid (And.intro hn0 (And.intro hn (And.intro hr ht)))
      clear hlt hn0 hn hr ht
      rcases stop with ⟨dl, dln⟩ | ⟨⟨dl, dln⟩, dl4, dl4n⟩
      all_goals (
        go_upto_region 21 with (go_at_call 19; (with_reducible refine HPH0.mono ?_); rintro e9 w9 ⟨rfl, h9⟩; subst h9)
        have HM2 := mhid (And.intro HM.out.1 (And.intro HM.out.2.1 HM.out.2.2))
        clear HPH0 HM
        clear dl dln
        try clear dl4 dl4n
        go_wp2_with fail
        go_loopw [8, 9, 10] (fun lo hi a wr => ∃ (j : Nat) (fl2 : Nat → Int) (H2 : Nat → Nat → Nat → Hf) (i1 i2 : Nat), lo = .int .i64 (ph i1) ∧ hi = .int .i64 (ph i2) ∧ i1 < n ∧ i2 < n ∧ a = .int .i64 (j : Int) ∧ j ≤ n ∧ MP (fun _ => none) wr B hb wb bb n r0 byKv R ph fl2 H2 ∧ MI n r0 ph H2 k ∧ (∀ i, i < j → fl2 i = 0) ∧ Below B W1 wr) (fun _ _ a _ => n - (intOf a).toNat)
        case atStart => exact ⟨0, fl, H, 0, 0, rfl, rfl, HLO.out.1, HLO.out.1, rfl, Nat.zero_le _, HM2.out.1, HM2.out.2.1, fun i hi => absurd hi (Nat.not_lt_zero _), HM2.out.2.2⟩
        case round =>
          obtain ⟨j, fl2, H2, i1, i2, rfl, rfl, hi1, hi2, rfl, hj, hm, hi, hf0, hbr⟩ := hrel
          have HM := mhid (And.intro hm (And.intro hi (And.intro hf0 (And.intro hbr (And.intro hi1 hi2)))))
          have hsz : B ≤ wr.heap.size := by have := hbr.size; have := HBB.out; omega
          by_cases hlt : j < n
          · have dl : decide ((j : Int) < (n : Int)) = true := by simp; omega
            have hme := meas hlt
            have ek : IntKind.i64.wrap ((j : Int) + 1) = (j : Int) + 1 := by have := HLO.out.2.1; rw [IntKind.wrap_i64]; omega
            have HPH := phase_yes hb wb bb n r0 j hlt byKv ph fl2 wr hm.p hm.wk
            have HDR := drop_any j hlt HLO.out.2.1 ⟨hi.lo j hlt, by have := hi.hi j hlt; have := HLO.out.2.2.2; omega⟩ wr hm hsz
            have HER : Hid (∀ w5 H5, MP (fun _ => none) w5 B hb wb bb n r0 byKv R ph (fun i => if i = j then 0 else fl2 i) H5 → Calls Try.prog 20 #[.pointer (some ⟨hb, 0, none⟩), .int .i64 (j : Int)] w5 fun e W' => e = .returned (.int .i64 0) ∧ W' = w5) := fun w5 H5 h5 => (err_yes hb wb bb n r0 j hlt byKv _ _ w5 h5.p h5.wk).mono fun e W' h9 => ⟨by rw [h9.1]; simp, h9.2⟩
            have HLT := mhid hlt
            obtain ⟨pj, hpj⟩ : ∃ pj, ph j = pj := ⟨_, rfl⟩
            obtain ⟨p1, hp1⟩ : ∃ p1, ph i1 = p1 := ⟨_, rfl⟩
            obtain ⟨p2, hp2⟩ : ∃ p2, ph i2 = p2 := ⟨_, rfl⟩
            rw [hpj] at HPH
            rw [hp1, hp2]
            have HP := mhid (And.intro hpj (And.intro hp1 hp2))
            clear hm hi hf0 hbr hi1 hi2 hj hlt hsz hpj hp1 hp2
            have fin : ∀ (w9 : World) (H9 : Nat → Nat → Nat → Hf) (q1 q2 : Int), (∃ a, a < n ∧ q1 = ph a) → (∃ a, a < n ∧ q2 = ph a) → MP (fun _ => none) w9 B hb wb bb n r0 byKv R ph (fun i => if i = j then 0 else fl2 i) H9 → MI n r0 ph H9 k → Below B wr w9 → ∃ (j' : Nat) (fl2 : Nat → Int) (H2 : Nat → Nat → Nat → Hf) (i1 i2 : Nat), Value.int .i64 q1 = .int .i64 (ph i1) ∧ Value.int .i64 q2 = .int .i64 (ph i2) ∧ i1 < n ∧ i2 < n ∧ Value.int .i64 ((j : Int) + 1) = .int .i64 (j' : Int) ∧ j' ≤ n ∧ MP (fun _ => none) w9 B hb wb bb n r0 byKv R ph fl2 H2 ∧ MI n r0 ph H2 k ∧ (∀ i, i < j' → fl2 i = 0) ∧ Below B W1 w9 := fun w9 H9 q1 q2 ⟨a1, h1, e1⟩ ⟨a2, h2, e2⟩ h3 h4 h5 => ⟨j + 1, _, H9, a1, a2, by rw [e1], by rw [e2], h1, h2, rfl, HLT.out, h3, h4, fun i hi => by
              show (if i = j then 0 else fl2 i) = 0
              by_cases e : i = j
              · rw [if_pos e]
              · rw [if_neg e]; exact HM.out.2.2.1 i (by omega), HM.out.2.2.2.1.trans h5⟩
            have FIN := mhid fin
            clear fin
            by_cases b1 : pj < p1
            · have q1 : decide (pj < p1) = true := by simpa using b1
              by_cases b2 : p2 < pj
              · have q2 : decide (p2 < pj) = true := by simpa using b2
                clear b1 b2
                go_wp2_with (first | (go_at_call 19; (with_reducible refine HPH.mono ?_); rintro e9 w9 ⟨rfl, h9⟩; subst h9) | (go_at_call 18; (with_reducible refine HDR.mono ?_); rintro e9 w9 ⟨b9, rfl, m9⟩; have HE := HER.out w9 _ m9; have M9 := mhid (And.intro m9 b9); clear m9 b9) | (go_at_call 20; (with_reducible refine HE.mono ?_); rintro e9 w8 ⟨rfl, h9⟩; subst h9))
                exact ⟨FIN.out _ _ _ _ ⟨j, HLT.out, HP.out.1.symm⟩ ⟨j, HLT.out, HP.out.1.symm⟩ M9.out.1 (HM.out.2.1.less (dropH_le _ _ _ _)) M9.out.2, hme⟩
              · have q2 : decide (p2 < pj) = false := by simpa using b2
                clear b1 b2
                go_wp2_with (first | (go_at_call 19; (with_reducible refine HPH.mono ?_); rintro e9 w9 ⟨rfl, h9⟩; subst h9) | (go_at_call 18; (with_reducible refine HDR.mono ?_); rintro e9 w9 ⟨b9, rfl, m9⟩; have HE := HER.out w9 _ m9; have M9 := mhid (And.intro m9 b9); clear m9 b9) | (go_at_call 20; (with_reducible refine HE.mono ?_); rintro e9 w8 ⟨rfl, h9⟩; subst h9))
                exact ⟨FIN.out _ _ _ _ ⟨j, HLT.out, HP.out.1.symm⟩ ⟨i2, HM.out.2.2.2.2.2, HP.out.2.2.symm⟩ M9.out.1 (HM.out.2.1.less (dropH_le _ _ _ _)) M9.out.2, hme⟩
            · have q1 : decide (pj < p1) = false := by simpa using b1
              by_cases b2 : p2 < pj
              · have q2 : decide (p2 < pj) = true := by simpa using b2
                clear b1 b2
                go_wp2_with (first | (go_at_call 19; (with_reducible refine HPH.mono ?_); rintro e9 w9 ⟨rfl, h9⟩; subst h9) | (go_at_call 18; (with_reducible refine HDR.mono ?_); rintro e9 w9 ⟨b9, rfl, m9⟩; have HE := HER.out w9 _ m9; have M9 := mhid (And.intro m9 b9); clear m9 b9) | (go_at_call 20; (with_reducible refine HE.mono ?_); rintro e9 w8 ⟨rfl, h9⟩; subst h9))
                exact ⟨FIN.out _ _ _ _ ⟨i1, HM.out.2.2.2.2.1, HP.out.2.1.symm⟩ ⟨j, HLT.out, HP.out.1.symm⟩ M9.out.1 (HM.out.2.1.less (dropH_le _ _ _ _)) M9.out.2, hme⟩
              · have q2 : decide (p2 < pj) = false := by simpa using b2
                clear b1 b2
                go_wp2_with (first | (go_at_call 19; (with_reducible refine HPH.mono ?_); rintro e9 w9 ⟨rfl, h9⟩; subst h9) | (go_at_call 18; (with_reducible refine HDR.mono ?_); rintro e9 w9 ⟨b9, rfl, m9⟩; have HE := HER.out w9 _ m9; have M9 := mhid (And.intro m9 b9); clear m9 b9) | (go_at_call 20; (with_reducible refine HE.mono ?_); rintro e9 w8 ⟨rfl, h9⟩; subst h9))
                exact ⟨FIN.out _ _ _ _ ⟨i1, HM.out.2.2.2.2.1, HP.out.2.1.symm⟩ ⟨i2, HM.out.2.2.2.2.2, HP.out.2.2.symm⟩ M9.out.1 (HM.out.2.1.less (dropH_le _ _ _ _)) M9.out.2, hme⟩
          · have dl : decide ((j : Int) < (n : Int)) = false := by simp; omega
            obtain rfl : n = j := by omega
            have hlo := hi.lo i1 hi1
            have hhi := hi.hi i1 hi1
            have h12 := hi.one i2 i1 hi2 hi1
            have hT := HLO.out.2.2.2
            obtain ⟨p1, hp1⟩ : ∃ p1, ph i1 = p1 := ⟨_, rfl⟩
            obtain ⟨p2, hp2⟩ : ∃ p2, ph i2 = p2 := ⟨_, rfl⟩
            rw [hp1] at hlo hhi h12
            rw [hp2] at h12
            rw [hp1, hp2]
            have b1 : decide (p1 < 0) = false := by simp; omega
            have e1 : IntKind.i64.wrap (p1 + 1) = p1 + 1 := by rw [IntKind.wrap_i64]; omega
            have b2 : decide (p1 + 1 < p2) = false := by simp; omega
            clear hp1 hp2 hm hi hf0 hbr hi1 hi2 hj hlt hsz hlo hhi h12 hT
            go_upto_region 34 with fail
            clear dl b1 b2 e1
            go_wp2_with fail
            go_loopw [12, 13] (fun mv a wr => ∃ (j m : Nat) (ph3 fl3 : Nat → Int) (H3 : Nat → Nat → Nat → Hf), mv = .int .i64 (m : Int) ∧ m ≤ 2 * j ∧ a = .int .i64 (j : Int) ∧ j ≤ n ∧ MP (fun _ => none) wr B hb wb bb n r0 byKv R ph3 fl3 H3 ∧ MI n r0 ph3 H3 (k + j) ∧ (∀ i, i < n → fl3 i = 0) ∧ Below B W1 wr ∧ (m = 0 → ∀ i, i < j → ¬ Low ph3 n i → ¬ dueP H3 ph3 n i ∧ sentP H3 n i (ph3 i - 1))) (fun _ a _ => n - (intOf a).toNat)
            case atStart => exact ⟨0, 0, ph, fl2, H2, rfl, Nat.le_refl _, rfl, Nat.zero_le _, HM.out.1, HM.out.2.1, HM.out.2.2.1, HM.out.2.2.2.1, fun _ i hi => absurd hi (Nat.not_lt_zero _)⟩
            case round =>
              clear HM
              obtain ⟨j, m, ph3, fl3, H3, rfl, hm2, rfl, hj, hm, hi, hf0, hbr, hno⟩ := hrel
              have HM := mhid (And.intro hm (And.intro hi (And.intro hf0 (And.intro hbr (And.intro hno hm2)))))
              have hsz : B ≤ wr.heap.size := by have := hbr.size; have := HBB.out; omega
              by_cases hlt : j < n
              · have dl : decide ((j : Int) < (n : Int)) = true := by simp; omega
                have hme := meas hlt
                have hn64 := HLO.out.2.1
                have hT := HLO.out.2.2.2
                have ek : IntKind.i64.wrap ((j : Int) + 1) = (j : Int) + 1 := by rw [IntKind.wrap_i64]; omega
                have em1 : IntKind.i64.wrap ((m : Int) + 1) = ((m + 1 : Nat) : Int) := by rw [IntKind.wrap_i64]; omega
                have em2 : IntKind.i64.wrap ((m : Int) + 1 + 1) = ((m + 2 : Nat) : Int) := by rw [IntKind.wrap_i64]; omega
                have HDN := drain_mi2 j hlt hn64 HLO.out.2.2.1 (by omega) hi wr hm hsz byK_sorts
                have HPH : Hid (∀ w5 ph5 H5, MP (fun _ => none) w5 B hb wb bb n r0 byKv R ph5 fl3 H5 → Calls Try.prog 19 #[.pointer (some ⟨hb, 0, none⟩), .int .i64 (j : Int)] w5 fun e W' => e = .returned (.int .i64 (ph5 j)) ∧ W' = w5) := fun w5 ph5 H5 h5 => phase_yes hb wb bb n r0 j hlt byKv ph5 fl3 w5 h5.p h5.wk
                have HFL : Hid (∀ w5 H5, MP (fun _ => none) w5 B hb wb bb n r0 byKv R ph3 fl3 H5 → B ≤ w5.heap.size → Calls Try.prog 16 #[.pointer (some ⟨hb, 0, none⟩), .int .i64 (j : Int)] w5 fun r W' => Below B w5 W' ∧ (((Low ph3 n j ∨ sentP H5 n j (ph3 j - 1) ∨ dueP H5 ph3 n j) ∧ r = .returned (.int .i64 92) ∧ MP (fun _ => none) W' B hb wb bb n r0 byKv R ph3 fl3 H5) ∨ (¬ (Low ph3 n j ∨ sentP H5 n j (ph3 j - 1) ∨ dueP H5 ph3 n j) ∧ r = .returned (.int .i64 0) ∧ MP (fun _ => none) W' B hb wb bb n r0 byKv R (fun i => if i = j then ph3 j + 1 else ph3 i) fl3 H5))) := fun w5 H5 h5 h6 => (flip_any j hlt hn64 ⟨hi.lo j hlt, by have := hi.hi j hlt; omega⟩ w5 h5 h6).mono fun r W' ⟨h7, h8⟩ => by
                  refine ⟨h7, ?_⟩
                  rcases h8 with ⟨h9, _⟩ | ⟨_, h9⟩ | ⟨_, h9⟩
                  · exact absurd (hf0 j hlt) h9
                  · exact .inl h9
                  · exact .inr h9
                obtain ⟨pj, hpj⟩ : ∃ pj, ph3 j = pj := ⟨_, rfl⟩
                have epj : IntKind.i64.wrap (pj + 1) = pj + 1 := by have := hi.lo j hlt; have := hi.hi j hlt; rw [IntKind.wrap_i64]; omega
                have HPJ := mhid hpj
                have HLT := mhid hlt
                clear hm hi hf0 hbr hno hm2 hj hlt hsz hn64 hT hpj
                have mk : ∀ (w9 : World) (ph9 : Nat → Int) (H9 : Nat → Nat → Nat → Hf) (m9 : Nat), m9 ≤ m + 2 → MP (fun _ => none) w9 B hb wb bb n r0 byKv R ph9 fl3 H9 → MI n r0 ph9 H9 (k + j + 1) → Below B wr w9 → (m9 = 0 → ∀ i, i < j + 1 → ¬ Low ph9 n i → ¬ dueP H9 ph9 n i ∧ sentP H9 n i (ph9 i - 1)) → ∃ (j' m : Nat) (ph3 fl3 : Nat → Int) (H3 : Nat → Nat → Nat → Hf), Value.int .i64 (m9 : Int) = .int .i64 (m : Int) ∧ m ≤ 2 * j' ∧ Value.int .i64 ((j : Int) + 1) = .int .i64 (j' : Int) ∧ j' ≤ n ∧ MP (fun _ => none) w9 B hb wb bb n r0 byKv R ph3 fl3 H3 ∧ MI n r0 ph3 H3 (k + j') ∧ (∀ i, i < n → fl3 i = 0) ∧ Below B W1 w9 ∧ (m = 0 → ∀ i, i < j' → ¬ Low ph3 n i → ¬ dueP H3 ph3 n i ∧ sentP H3 n i (ph3 i - 1)) := fun w9 ph9 H9 m9 a1 a2 a3 a4 a5 => ⟨j + 1, m9, ph9, fl3, H9, rfl, by have := HM.out.2.2.2.2.2; omega, rfl, HLT.out, a2, a3, HM.out.2.2.1, HM.out.2.2.2.1.trans a4, a5⟩
                have MK := mhid mk
                clear mk
                go_upto_region 39 with (go_at_call 17; (with_reducible refine HDN.mono ?_); rintro e9 w5 ⟨⟨q, S, c, z, rfl, H5, m5, i5, himp⟩, b5⟩; have M5 := mhid (And.intro m5 (And.intro i5 (And.intro himp b5))); clear m5 i5 himp b5)
                have HP5 := HPH.out w5 ph3 H5 M5.out.1
                rw [HPJ.out] at HP5
                have HF5 := HFL.out w5 H5 M5.out.1 (by have h1 := M5.out.2.2.2.size; have h2 := HM.out.2.2.2.1.size; have := HBB.out; omega)
                clear HDN HFL
                have hsame : ¬ (z = 0 ∧ 0 < S) → (Low ph3 n j ∨ sentP H5 n j (ph3 j - 1) ∨ dueP H5 ph3 n j) → m = 0 → ∀ i, i < j + 1 → ¬ Low ph3 n i → ¬ dueP H5 ph3 n i ∧ sentP H5 n i (ph3 i - 1) := fun h1 h2 h3 i h4 h5 => by
                  obtain ⟨k1, k2⟩ := M5.out.2.2.1 h1
                  rw [dueP_eq k1, sentP_eq k1]
                  by_cases e : i = j
                  · subst e
                    have k3 := k2 h5
                    refine ⟨k3, ?_⟩
                    rcases h2 with h6 | h6 | h6
                    · exact absurd h6 h5
                    · exact (sentP_eq k1 _ _ _).1 h6
                    · exact absurd ((dueP_eq k1 _ _ _).1 h6) k3
                  · exact HM.out.2.2.2.2.1 h3 i (by omega) h5
                have HSAME := mhid hsame
                clear hsame
                by_cases hP : Low ph3 n j ∨ sentP H5 n j (ph3 j - 1) ∨ dueP H5 ph3 n j
                · have HF6 : Calls Try.prog 16 #[.pointer (some ⟨hb, 0, none⟩), .int .i64 (j : Int)] w5 fun r W' => r = .returned (.int .i64 92) ∧ MP (fun _ => none) W' B hb wb bb n r0 byKv R ph3 fl3 H5 ∧ Below B w5 W' := HF5.mono fun r W' ⟨h1, h2⟩ => by
                    rcases h2 with ⟨_, h3, h4⟩ | ⟨h3, _⟩
                    · exact ⟨h3, h4, h1⟩
                    · exact absurd hP h3
                  have HPP := mhid hP
                  clear hP HF5
                  by_cases hz : z = 0 ∧ 0 < S
                  · have z1 : (z == 0) = true := by simp [hz.1]
                    have z2 : decide ((0 : Int) < (S : Int)) = true := by simp; omega
                    have z3 : decide (0 < S) = true := by simp; omega
                    clear hz
                    go_wp2_with (first | (go_at_call 19; (with_reducible refine HP5.mono ?_); rintro e9 w6 ⟨rfl, h9⟩; subst h9) | (go_at_call 16; (with_reducible refine HF6.mono ?_); rintro e9 w7 ⟨rfl, m7, b7⟩; have HP7 := HPH.out w7 _ _ m7; have M7 := mhid (And.intro m7 b7); rw [HPJ.out] at HP7; clear m7 b7 HP5) | (go_at_call 19; (with_reducible refine HP7.mono ?_); rintro e9 w8 ⟨rfl, h9⟩; subst h9))
                    exact ⟨MK.out _ _ _ (m + 1) (by omega) M7.out.1 M5.out.2.1.up (M5.out.2.2.2.trans M7.out.2) (fun h9 => absurd h9 (by omega)), hme⟩
                  · have HZ0 := mhid hz
                    by_cases hz0 : z = 0
                    · have z1 : (z == 0) = true := by simp [hz0]
                      obtain rfl : S = 0 := by omega
                      clear hz0
                      clear hz
                      go_wp2_with (first | (go_at_call 19; (with_reducible refine HP5.mono ?_); rintro e9 w6 ⟨rfl, h9⟩; subst h9) | (go_at_call 16; (with_reducible refine HF6.mono ?_); rintro e9 w7 ⟨rfl, m7, b7⟩; have HP7 := HPH.out w7 _ _ m7; have M7 := mhid (And.intro m7 b7); rw [HPJ.out] at HP7; clear m7 b7 HP5) | (go_at_call 19; (with_reducible refine HP7.mono ?_); rintro e9 w8 ⟨rfl, h9⟩; subst h9))
                      exact ⟨MK.out _ _ _ m (by omega) M7.out.1 M5.out.2.1.up (M5.out.2.2.2.trans M7.out.2) (fun h9 => HSAME.out HZ0.out HPP.out h9), hme⟩
                    · have z1 : (z == 0) = false := by simp [hz0]
                      clear hz0
                      clear hz
                      go_wp2_with (first | (go_at_call 19; (with_reducible refine HP5.mono ?_); rintro e9 w6 ⟨rfl, h9⟩; subst h9) | (go_at_call 16; (with_reducible refine HF6.mono ?_); rintro e9 w7 ⟨rfl, m7, b7⟩; have HP7 := HPH.out w7 _ _ m7; have M7 := mhid (And.intro m7 b7); rw [HPJ.out] at HP7; clear m7 b7 HP5) | (go_at_call 19; (with_reducible refine HP7.mono ?_); rintro e9 w8 ⟨rfl, h9⟩; subst h9))
                      exact ⟨MK.out _ _ _ m (by omega) M7.out.1 M5.out.2.1.up (M5.out.2.2.2.trans M7.out.2) (fun h9 => HSAME.out HZ0.out HPP.out h9), hme⟩
                · have HF6 : Calls Try.prog 16 #[.pointer (some ⟨hb, 0, none⟩), .int .i64 (j : Int)] w5 fun r W' => r = .returned (.int .i64 0) ∧ MP (fun _ => none) W' B hb wb bb n r0 byKv R (fun i => if i = j then ph3 j + 1 else ph3 i) fl3 H5 ∧ Below B w5 W' := HF5.mono fun r W' ⟨h1, h2⟩ => by
                    rcases h2 with ⟨h3, _⟩ | ⟨_, h3, h4⟩
                    · exact absurd h3 hP
                    · exact ⟨h3, h4, h1⟩
                  have HPP := mhid hP
                  clear hP HF5
                  by_cases hz : z = 0 ∧ 0 < S
                  · have z1 : (z == 0) = true := by simp [hz.1]
                    have z2 : decide ((0 : Int) < (S : Int)) = true := by simp; omega
                    have z3 : decide (0 < S) = true := by simp; omega
                    clear hz
                    go_wp2_with (first | (go_at_call 19; (with_reducible refine HP5.mono ?_); rintro e9 w6 ⟨rfl, h9⟩; subst h9) | (go_at_call 16; (with_reducible refine HF6.mono ?_); rintro e9 w7 ⟨rfl, m7, b7⟩; have HP7 := HPH.out w7 _ _ m7; have M7 := mhid (And.intro m7 b7); simp only [if_true] at HP7; rw [HPJ.out] at HP7; clear m7 b7 HP5) | (go_at_call 19; (with_reducible refine HP7.mono ?_); rintro e9 w8 ⟨rfl, h9⟩; subst h9))
                    exact ⟨MK.out _ _ _ (m + 2) (by omega) M7.out.1 (M5.out.2.1.flip j HLT.out HPP.out) (M5.out.2.2.2.trans M7.out.2) (fun h9 => absurd h9 (by omega)), hme⟩
                  · have HZ0 := mhid hz
                    by_cases hz0 : z = 0
                    · have z1 : (z == 0) = true := by simp [hz0]
                      obtain rfl : S = 0 := by omega
                      clear hz0
                      clear hz
                      go_wp2_with (first | (go_at_call 19; (with_reducible refine HP5.mono ?_); rintro e9 w6 ⟨rfl, h9⟩; subst h9) | (go_at_call 16; (with_reducible refine HF6.mono ?_); rintro e9 w7 ⟨rfl, m7, b7⟩; have HP7 := HPH.out w7 _ _ m7; have M7 := mhid (And.intro m7 b7); simp only [if_true] at HP7; rw [HPJ.out] at HP7; clear m7 b7 HP5) | (go_at_call 19; (with_reducible refine HP7.mono ?_); rintro e9 w8 ⟨rfl, h9⟩; subst h9))
                      exact ⟨MK.out _ _ _ (m + 1) (by omega) M7.out.1 (M5.out.2.1.flip j HLT.out HPP.out) (M5.out.2.2.2.trans M7.out.2) (fun h9 => absurd h9 (by omega)), hme⟩
                    · have z1 : (z == 0) = false := by simp [hz0]
                      clear hz0
                      clear hz
                      go_wp2_with (first | (go_at_call 19; (with_reducible refine HP5.mono ?_); rintro e9 w6 ⟨rfl, h9⟩; subst h9) | (go_at_call 16; (with_reducible refine HF6.mono ?_); rintro e9 w7 ⟨rfl, m7, b7⟩; have HP7 := HPH.out w7 _ _ m7; have M7 := mhid (And.intro m7 b7); simp only [if_true] at HP7; rw [HPJ.out] at HP7; clear m7 b7 HP5) | (go_at_call 19; (with_reducible refine HP7.mono ?_); rintro e9 w8 ⟨rfl, h9⟩; subst h9))
                      exact ⟨MK.out _ _ _ (m + 1) (by omega) M7.out.1 (M5.out.2.1.flip j HLT.out HPP.out) (M5.out.2.2.2.trans M7.out.2) (fun h9 => absurd h9 (by omega)), hme⟩
              · have dl : decide ((j : Int) < (n : Int)) = false := by simp; omega
                obtain rfl : n = j := by omega
                have hpos : 0 < m := by
                  rcases Nat.eq_zero_or_pos m with h0 | h0
                  · exact (hi.moves HLO.out.1 (hno h0)).elim
                  · exact h0
                have z2 : decide ((0 : Int) < (m : Int)) = true := by simp; omega
                have z3 : decide (0 < m) = true := by simp; omega
                clear hm hi hf0 hbr hno hm2 hj hlt hsz hpos
                go_wp2_with fail
                go_ret
                exact ⟨rfl, HB1.out.trans (HM.out.2.2.2.1.mono (by have := HBB.out; have := HB1.out.size; omega))⟩)
end Go.Proofs.Ytoihddhjpbahlaa
