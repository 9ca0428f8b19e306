import Derived.Test.YtopggemomcoalaaGreatJV5
namespace Go.Proofs.YtopggemomcoalaaGreat
open Go.ChangeShapes Go.WideShapes Go.ChangeAt Go.RowKit
set_option linter.unusedVariables false

/-- the first that is not 0 -/
def ferr (f : Nat → Int) : Nat → Nat → Int
  | _, 0 => 0
  | i, k + 1 => if f i ≠ 0 then f i else ferr f (i + 1) k
theorem ferr_zero {f : Nat → Int} : ∀ {k i : Nat}, ferr f i k = 0 → ∀ j, i ≤ j → j < i + k → f j = 0
  | 0, i, _, j, h1, h2 => by omega
  | k + 1, i, h, j, h1, h2 => by
    unfold ferr at h
    by_cases h0 : f i = 0
    · rw [if_neg (by simpa using h0)] at h
      by_cases e : j = i
      · subst e; exact h0
      · exact ferr_zero h j (by omega) (by omega)
    · rw [if_pos h0] at h
      exact absurd h h0
theorem ferr_stop {f : Nat → Int} {n i : Nat} (hi : i < n) (h : f i ≠ 0) : ferr f i (n - i) = f i := by
  rw [show n - i = (n - i - 1) + 1 by omega]
  unfold ferr
  rw [if_pos h]
theorem ferr_go {f : Nat → Int} {n i : Nat} (hi : i < n) (h : f i = 0) : ferr f i (n - i) = ferr f (i + 1) (n - (i + 1)) := by
  rw [show n - i = (n - (i + 1)) + 1 by omega]
  conv => lhs; unfold ferr
  rw [if_neg (by simpa using h)]
def insE (P : Pg) (i : Nat) : Int := insErr P (P.op i) (P.a i) (P.b i)
def entE (P : Pg) (j : Nat) : Int := if -1 ≤ P.en j ∧ P.en j < P.n then 0 else 62
open Classical in
/-- what Depths tells -/
noncomputable def dcode (P : Pg) (kinds : Int) : Int :=
  if ¬ (kinds = P.m ∧ sizedP P) then 60
  else if ferr (insE P) 0 P.n ≠ 0 then ferr (insE P) 0 P.n
  else if ferr (entE P) 0 P.m ≠ 0 then 62
  else if Rch P P.n then 62
  else if BadD P then 61 else 0
theorem ins_good {P : Pg} {i : Nat} (h : insE P i = 0) : (0 ≤ P.op i ∧ P.op i < 42) ∧ (jmp (P.op i) = true → 0 ≤ P.a i ∧ P.a i < P.n) := by
  unfold insE insErr at h
  by_cases h1 : 0 ≤ P.op i ∧ P.op i < 42
  · rw [if_neg (by simpa using h1)] at h
    refine ⟨h1, fun hj => ?_⟩
    have hw : wantsI (P.op i) ≠ 2 := fun hw => by rw [(wants2 hw).2] at hj; cases hj
    rw [if_neg hw] at h
    by_cases hb : P.b i = 0
    · rw [if_neg (by simpa using hb)] at h
      have ho : P.op i = 35 ∨ P.op i = 36 := by unfold jmp at hj; simpa using hj
      have hl : limI P (P.op i) = P.n := by
        unfold limI
        rw [if_neg (by omega), if_neg (by omega), if_pos ho]
      rw [hl] at h
      by_cases hc : P.op i = 1 ∨ (0 ≤ P.a i ∧ P.a i ≤ (P.n : Int) - 1)
      · omega
      · rw [if_neg hc, if_pos hj] at h
        cases h
    · rw [if_pos hb] at h
      cases h
  · rw [if_pos h1] at h
    cases h
theorem gd_of {P : Pg} (h1 : ferr (insE P) 0 P.n = 0) (h2 : ferr (entE P) 0 P.m = 0) : Gd P := by
  refine ⟨fun i hi => (ins_good (ferr_zero h1 i (by omega) (by omega))).1, fun i hi => (ins_good (ferr_zero h1 i (by omega) (by omega))).2, fun j hj => ?_⟩
  have := ferr_zero h2 j (by omega) (by omega)
  unfold entE at this
  by_cases h : -1 ≤ P.en j ∧ P.en j < P.n
  · exact h
  · rw [if_neg h] at this; cases this
def dAns (P : Pg) (kinds : Int) (W : World) (base : Nat) (r : Value) (c : Int) : Prop :=
  c = dcode P kinds ∧ (c ≠ 0 → r = .slice none 0 0) ∧ (c = 0 → ∃ db, r = .slice (some ⟨db, 0, none⟩) P.n P.n ∧ Own W base 3 1 r P.n (iv (dL P)))
theorem dcode_1 {P : Pg} (hs : sizedP P) (h : ferr (insE P) 0 P.n ≠ 0) : dcode P P.m = ferr (insE P) 0 P.n := by
  unfold dcode
  rw [if_neg (by simp; exact hs), if_pos h]
theorem dcode_2 {P : Pg} (hs : sizedP P) (h : ferr (insE P) 0 P.n = 0) (h2 : ferr (entE P) 0 P.m ≠ 0) : dcode P P.m = 62 := by
  unfold dcode
  rw [if_neg (by simp; exact hs), if_neg (by simpa using h), if_pos h2]
theorem dcode_3 {P : Pg} (hs : sizedP P) (h : ferr (insE P) 0 P.n = 0) (h2 : ferr (entE P) 0 P.m = 0) (h3 : Rch P P.n) : dcode P P.m = 62 := by
  unfold dcode
  rw [if_neg (by simp; exact hs), if_neg (by simpa using h), if_neg (by simpa using h2), if_pos h3]
theorem dcode_4 {P : Pg} (hs : sizedP P) (h : ferr (insE P) 0 P.n = 0) (h2 : ferr (entE P) 0 P.m = 0) (h3 : ¬ Rch P P.n) (h4 : BadD P) : dcode P P.m = 61 := by
  unfold dcode
  rw [if_neg (by simp; exact hs), if_neg (by simpa using h), if_neg (by simpa using h2), if_neg h3, if_pos h4]
theorem dcode_5 {P : Pg} (hs : sizedP P) (h : ferr (insE P) 0 P.n = 0) (h2 : ferr (entE P) 0 P.m = 0) (h3 : ¬ Rch P P.n) (h4 : ¬ BadD P) : dcode P P.m = 0 := by
  unfold dcode
  rw [if_neg (by simp; exact hs), if_neg (by simpa using h), if_neg (by simpa using h2), if_neg h3, if_neg h4]
theorem dcode_zero {P : Pg} {kinds : Int} (h : dcode P kinds = 0) : kinds = P.m ∧ sizedP P ∧ ferr (insE P) 0 P.n = 0 ∧ Gd P ∧ ¬ Rch P P.n ∧ ¬ BadD P := by
  unfold dcode at h
  by_cases h1 : kinds = P.m ∧ sizedP P
  · rw [if_neg (by simpa using h1)] at h
    by_cases h2 : ferr (insE P) 0 P.n = 0
    · rw [if_neg (by simpa using h2)] at h
      by_cases h3 : ferr (entE P) 0 P.m = 0
      · rw [if_neg (by simpa using h3)] at h
        by_cases h4 : Rch P P.n
        · rw [if_pos h4] at h; cases h
        · rw [if_neg h4] at h
          by_cases h5 : BadD P
          · rw [if_pos h5] at h; cases h
          · exact ⟨h1.1, h1.2, h2, gd_of h2 h3, h4, h5⟩
      · rw [if_pos h3] at h; cases h
    · rw [if_pos h2] at h; exact absurd h h2
  · rw [if_pos h1] at h; cases h
set_option maxRecDepth 100000 in
set_option maxHeartbeats 4000000 in
theorem depths_any (P : Pg) (v : PgV) (kinds : Int) (w : World) (hI : IAt w v.cp P.n P.op P.a P.b) (hE : KAt w v.ep P.m P.en) :
    Calls Tryz.prog 10 #[.agg #[.int .i64 P.words, .int .i64 P.locals, .slice v.cp P.n v.cc, .slice v.ep P.m v.ec], .int .i64 kinds] w fun e w' => ∃ r c, e = .returned (.tuple #[r, .int .i64 c]) ∧ Below w.heap.size w w' ∧ dAns P kinds w' w.heap.size r c := by
  have HS := sized_any P v
  have hb0 : Below w.heap.size w (w.alloc (.cells #[.int .i64 P.words, .int .i64 P.locals, .slice v.cp P.n v.cc, .slice v.ep P.m v.ec] 25)) := (Below.refl _ w).alloc (Nat.le_refl _) _
  have hb1 := hb0.alloc (by simp) (.cells #[.int .i64 P.words, .int .i64 P.locals, .slice v.cp P.n v.cc, .slice v.ep P.m v.ec] 25)
  go_enter Tryz.func10, Tryz.ntmps10
  by_cases hk : kinds = P.m
  · by_cases hs : sizedP P
    · rw [decide_eq_true hs] at HS
      subst hk
      go_wp2_with (go_at_call 27; (with_reducible refine (HS _).mono ?_); rintro e w1 ⟨rfl, rfl⟩)
      obtain ⟨wq, hwq⟩ : ∃ wq, (w.alloc (.cells #[.int .i64 P.words, .int .i64 P.locals, .slice v.cp P.n v.cc, .slice v.ep P.m v.ec] 25)).alloc (.cells #[.int .i64 P.words, .int .i64 P.locals, .slice v.cp P.n v.cc, .slice v.ep P.m v.ec] 25) = wq := ⟨_, rfl⟩
      have hbox : wq.heap[w.heap.size]? = some (.cells #[.int .i64 P.words, .int .i64 P.locals, .slice v.cp P.n v.cc, .slice v.ep P.m v.ec] 25 (0, 0)) := by
        rw [← hwq, Below.heap_alloc _ _ _ (by simp)]
        exact World.alloc_heap_new w _
      rw [hwq] at hb1 ⊢
      have hszq : w.heap.size < wq.heap.size := by rw [← hwq]; simp; omega
      clear hwq hb0 HS
      have hn : P.n ≤ 4096 := hs.2.2.1
      have hm32 : P.m ≤ 32 := hs.2.2.2
      have hI' := hI.below hb1
      have hE' := hE.below hb1
      go_loopw [24] (fun x wr => ∃ k : Nat, x = .int .i64 k ∧ k ≤ P.n ∧ ferr (insE P) 0 P.n = ferr (insE P) k (P.n - k) ∧ Below wq.heap.size wq wr) (fun x _ => P.n - (intOf x).toNat)
      case atStart => exact ⟨0, rfl, Nat.zero_le _, rfl, Below.refl _ _⟩
      case round =>
        obtain ⟨k, rfl, hk, hfe, hbel⟩ := hrel
        by_cases hlt : k < P.n
        · obtain h0 | ⟨cb, co, hcp, hcl, hcc⟩ := hI'.below hbel
          · omega
          obtain ⟨x0, x1, x2⟩ := hcc k hlt
          have hm := meas0 hlt
          have i0 : (0 : Int) ≤ (k : Int) := by omega
          have i1 : (k : Int) < (P.n : Int) := by omega
          have hbx := (hbel.block w.heap.size hszq).trans hbox
          have hsz2 : wq.heap.size ≤ wr.heap.size := hbel.size
          have hba : Below wr.heap.size wr (wr.alloc (.cells #[.int .i64 (P.op k), .int .i64 (P.a k), .int .i64 (P.b k)] 36)) := (Below.refl _ wr).alloc (Nat.le_refl _) _
          have hbx2 := (hba.block w.heap.size (by omega)).trans hbx
          obtain ⟨p0, p1, p2, p3⟩ := cells4 hbx2
          have HC := check_any P v (P.op k) (P.a k) (P.b k) hs (wr.alloc (.cells #[.int .i64 (P.op k), .int .i64 (P.a k), .int .i64 (P.b k)] 36))
          rw [show insErr P (P.op k) (P.a k) (P.b k) = insE P k from rfl] at HC
          by_cases hz : insE P k = 0
          · rw [hz] at HC
            have hfe2 : Hid (ferr (insE P) 0 P.n = ferr (insE P) (k + 1) (P.n - (k + 1))) := hfe.trans (ferr_go hlt hz)
            rw [hcp]
            rw [hcp] at p2 HC
            clear hI hE hI' hE' hcc hfe hz hbox hbx hbx2
            go_wp2_with (go_at_call 28; (with_reducible refine HC.mono ?_); rintro e w2 ⟨rfl, z1⟩)
            exact ⟨⟨k + 1, rfl, hlt, hfe2.out, hbel.trans ((hba.trans (z1.mono hba.size)).mono hsz2)⟩, hm⟩
          · have dz : (insE P k == 0) = false := by simpa using hz
            have hfe2 : Hid (ferr (insE P) 0 P.n = insE P k) := hfe.trans (ferr_stop hlt hz)
            rw [hcp]
            rw [hcp] at p2 HC
            have HZ : Hid (insE P k ≠ 0) := hz
            clear hI hE hI' hE' hcc hfe hbox hbx hbx2 hz
            go_wp2_with (go_at_call 28; (with_reducible refine HC.mono ?_); rintro e w2 ⟨rfl, z1⟩)
            go_ret2
            exact ⟨_, _, rfl, hb1.trans ((hbel.trans ((hba.trans (z1.mono hba.size)).mono hsz2)).mono hb1.size), hfe2.out.symm.trans (dcode_1 hs (by rw [hfe2.out]; exact HZ.out)).symm, fun _ => rfl, fun h => absurd h HZ.out⟩
        · obtain rfl : k = P.n := by omega
          have hfe0 : Hid (ferr (insE P) 0 P.n = 0) := by rw [Nat.sub_self] at hfe; exact hfe
          have hbx := (hbel.block w.heap.size hszq).trans hbox
          obtain ⟨p0, p1, p2, p3⟩ := cells4 hbx
          have dl : decide ((P.n : Int) < P.n) = false := by simp
          clear hfe
          go_wp2
          clear p0 p1 p2 p3
          obtain ⟨w4, hw4⟩ : ∃ w4, wr = w4 := ⟨_, rfl⟩
          rw [hw4] at hbel hbx ⊢
          clear hw4 wr
          have hb4 := hb1.trans (hbel.mono hb1.size)
          have hlt4 : w.heap.size < w4.heap.size := Nat.lt_of_lt_of_le hszq hbel.size
          go_loopw [38] (fun x wr => ∃ k : Nat, x = .int .i64 k ∧ k ≤ P.m ∧ ferr (entE P) 0 P.m = ferr (entE P) k (P.m - k) ∧ wr = w4) (fun x _ => P.m - (intOf x).toNat)
          case atStart => exact ⟨0, rfl, Nat.zero_le _, rfl, rfl⟩
          case round =>
            obtain ⟨k, rfl, hk, hfe, rfl⟩ := hrel
            obtain ⟨p0, p1, p2, p3⟩ := cells4 hbx
            by_cases hlt : k < P.m
            · obtain h0 | ⟨eb, eo, hep, hel, hec⟩ := hE'.below hbel
              · omega
              have x0 := hec k hlt
              have hm := meas0 hlt
              have i0 : (0 : Int) ≤ (k : Int) := by omega
              have i1 : (k : Int) < (P.m : Int) := by omega
              rw [hep]
              by_cases h1 : P.en k < -1
              · have hz : entE P k ≠ 0 := by unfold entE; rw [if_neg (by omega)]; decide
                have hfe2 : Hid (ferr (entE P) 0 P.m ≠ 0) := by rw [hfe, ferr_stop hlt hz]; exact hz
                clear hI hE hI' hE' hec hfe hz hbox hbx
                go_wp2
                go_ret2
                exact ⟨_, _, rfl, hb4, (dcode_2 hs hfe0.out hfe2.out).symm, fun _ => rfl, fun h => by cases h⟩
              · by_cases h2 : P.en k < P.n
                · have hz : entE P k = 0 := by unfold entE; rw [if_pos (by omega)]
                  have hfe2 : Hid (ferr (entE P) 0 P.m = ferr (entE P) (k + 1) (P.m - (k + 1))) := hfe.trans (ferr_go hlt hz)
                  clear hI hE hI' hE' hec hfe hz hbox hbx
                  go_wp2
                  exact ⟨⟨k + 1, rfl, hlt, hfe2.out, by first | rfl | trivial⟩, hm⟩
                · have hz : entE P k ≠ 0 := by unfold entE; rw [if_neg (by omega)]; decide
                  have hfe2 : Hid (ferr (entE P) 0 P.m ≠ 0) := by rw [hfe, ferr_stop hlt hz]; exact hz
                  clear hI hE hI' hE' hec hfe hz hbox hbx
                  go_wp2
                  go_ret2
                  exact ⟨_, _, rfl, hb4, (dcode_2 hs hfe0.out hfe2.out).symm, fun _ => rfl, fun h => by cases h⟩
            · obtain rfl : k = P.m := by omega
              have hfe1 : Hid (ferr (entE P) 0 P.m = 0) := by rw [Nat.sub_self] at hfe; exact hfe
              have dl : decide ((P.m : Int) < P.m) = false := by simp
              have HM := measure_any P (gd_of hfe0.out hfe1.out) hs v wr (hI'.below hbel) (hE'.below hbel)
              clear hfe hI hE hI' hE' hbox hbx
              go_wp2_with (go_at_call 29; (with_reducible refine HM.mono ?_); rintro e w2 ⟨r, c, rfl, z1, z2⟩)
              go_ret2
              refine ⟨_, _, rfl, hb4.trans (z1.mono hb4.size), ?_⟩
              rcases z2 with ⟨h1, rfl, rfl⟩ | ⟨h1, h2, rfl, rfl⟩ | ⟨h1, h2, rfl, db, rfl, h3⟩
              · exact ⟨(dcode_3 hs hfe0.out hfe1.out h1).symm, fun _ => rfl, fun h => by cases h⟩
              · exact ⟨(dcode_4 hs hfe0.out hfe1.out h1 h2).symm, fun _ => rfl, fun h => by cases h⟩
              · refine ⟨(dcode_5 hs hfe0.out hfe1.out h1 h2).symm, fun h => by simp at h, fun _ => ⟨db, rfl, ?_⟩⟩
                obtain ⟨cur, k1, k2, k3, k4, k5, k6⟩ := h3.block
                exact Own.mk' k1 k2 k3 k4 (Nat.le_trans hb4.size k5) k6
    · rw [decide_eq_false hs] at HS
      subst hk
      go_wp2_with (go_at_call 27; (with_reducible refine (HS _).mono ?_); rintro e w1 ⟨rfl, rfl⟩)
      go_ret2
      exact ⟨_, _, rfl, hb1, by unfold dcode; rw [if_pos (fun h => hs h.2)], fun _ => rfl, fun h => by cases h⟩
  · have dk : (kinds == (P.m : Int)) = false := by simpa using hk
    go_wp2
    go_ret2
    exact ⟨_, _, rfl, hb0, by unfold dcode; rw [if_pos (fun h => hk h.1)], fun _ => rfl, fun h => by cases h⟩
end Go.Proofs.YtopggemomcoalaaGreat
namespace Go.Proofs.YtopggemomcoalaaGreat
open Go.ChangeShapes Go.WideShapes Go.ChangeAt Go.RowKit
set_option linter.unusedVariables false

set_option maxRecDepth 100000 in
theorem verify_any (P : Pg) (v : PgV) (kinds : Int) (w : World) (hI : IAt w v.cp P.n P.op P.a P.b) (hE : KAt w v.ep P.m P.en) :
    Calls Tryz.prog 17 #[.agg #[.int .i64 P.words, .int .i64 P.locals, .slice v.cp P.n v.cc, .slice v.ep P.m v.ec], .int .i64 kinds] w fun e w' => e = .returned (.int .i64 (dcode P kinds)) ∧ Below w.heap.size w w' := by
  have hb0 : Below w.heap.size w (w.alloc (.cells #[.int .i64 P.words, .int .i64 P.locals, .slice v.cp P.n v.cc, .slice v.ep P.m v.ec] 25)) := (Below.refl _ w).alloc (Nat.le_refl _) _
  have HD := depths_any P v kinds _ (hI.below hb0) (hE.below hb0)
  clear hI hE
  go_enter Tryz.func17, Tryz.ntmps17
  go_wp2_with (go_at_call 10; (with_reducible refine HD.mono ?_); rintro e w1 ⟨r, c, rfl, z1, z2⟩)
  go_ret
  exact ⟨by rw [← z2.1]; rfl, hb0.trans (z1.mono hb0.size)⟩
end Go.Proofs.YtopggemomcoalaaGreat
