import Derived.Test.YtmekcccmnkgodaaGreatDoorFGF2
import Derived.Deep.RegionHeld3
import Derived.BigQuiet
namespace Go.Proofs.YtmekcccmnkgodaaGreatDoor
open Go.ChangeShapes Go.WideShapes Go.ChangeAt Go.RowKit
set_option linter.unusedVariables false
set_option linter.unusedSimpArgs false
set_option maxRecDepth 100000 in
set_option maxHeartbeats 40000000 in
theorem fits_any (src : Bs) (cut : Int) (hmx : src.length ≤ maxLen) (w : World) (g : Gr w) (he : Et w) : Calls Tryz.prog 3 #[.string ⟨src.toArray⟩, .int .i64 cut] w fun e w' => e = .returned (.bool true) ∧ Below w.heap.size w w' := by
  obtain ⟨ts, er, hR⟩ : ∃ ts er, scanT src = (ts, er) := ⟨_, _, rfl⟩
  have HP : Hid (Calls Tryz.prog 7 #[.string ⟨#[99, 111, 110, 115, 116, 32, 65, 32, 61, 32, 61, 32, 49]⟩] w fun e w' => ∃ tp tm tc ev, e = .returned (.tuple #[.agg #[.slice tp tm tc], ev]) ∧ EvAt w' ev (.er 40 1 11) ∧ Below w.heap.size w w') := f_parse w g he
  have HK : Hid (∀ W ev, EvAt W ev (.er 40 1 11) → Calls Tryz.prog 8 #[ev] W fun e w' => e = .returned (.agg #[.int .i64 2, .int .i64 40, .int .i64 1, .int .i64 11, .int .u64 0, .int .i64 0, .int .u64 0]) ∧ Below W.heap.size W w') := fun W ev h => see_any W h
  have HG : Hid (∀ W, Below w.heap.size w W → Gr W ∧ Et W) := fun W h => ⟨g.keep h, he.keep h⟩
  clear g he
  cases er with
  | some er =>
    have HS : Hid (∀ W, Below w.heap.size w W → Calls Tryz.prog 9 #[.string ⟨src.toArray⟩] W fun e w' => ∃ b, e = .returned (.tuple #[.slice none 0 0, .iface 56 (.pointer (some ⟨b, 0, none⟩))]) ∧ Below W.heap.size W w') := fun W hW => (scan_any src hmx W (HG.out W hW).1).mono fun e w' ⟨hb, h⟩ => by
      rw [hR] at h
      rcases h with ⟨h0, _⟩ | ⟨_, b, _, rfl, _⟩
      · cases h0
      · exact ⟨b, rfl, hb⟩
    clear hR hmx
    go_enter Tryz.func3, Tryz.ntmps3
    go_wp2_with (first
      | (go_at_call 7; (with_reducible refine (HP.out).mono ?_); rintro e w1 ⟨tp, tm, tc, ev, rfl, hev, hb⟩; have H1 := mhid (And.intro (hev.below ((Below.refl _ w1).alloc (Nat.le_refl _) (.cells #[.slice tp tm tc] 24))) (hb.trans (((Below.refl _ w1).alloc (Nat.le_refl _) (.cells #[.slice tp tm tc] 24)).mono hb.size))); clear hev hb)
      | (go_at_call 8; (with_reducible refine (HK.out _ _ H1.out.1).mono ?_); rintro e w2 ⟨rfl, hb⟩; have H2 := mhid (H1.out.2.trans (hb.mono H1.out.2.size)); clear hb)
      | (go_at_call 9; (with_reducible refine (HS.out _ H2.out).mono ?_); rintro e w3 ⟨b, rfl, hb⟩; have H3 := mhid (H2.out.trans (hb.mono H2.out.size)); clear hb))
    go_ret
    exact ⟨rfl, H3.out⟩
  | none =>
    have hn : ts.length ≤ 16384 := by
      have := scanT_count src
      rw [hR] at this
      exact this
    obtain ⟨X, hX⟩ : ∃ X : Nat → Tk, (fun i => ts.getD i nT) = X := ⟨_, rfl⟩
    obtain ⟨a, hA⟩ := fits_pure (X := X) hn (fun i j hi hj h1 h2 => scanT_place hR hi hj (by subst hX; exact h1) (by subst hX; exact h2))
    have HB0 : ∀ W p m c, m ≤ ts.length → Below w.heap.size w W → TX W p ts.length X → Calls Tryz.prog 10 #[.slice p m c] W fun e w' => ∃ tp tm tc ev, e = .returned (.tuple #[.agg #[.slice tp tm tc], ev]) ∧ EvAt w' ev (RM X m) ∧ Below W.heap.size W w' := fun W p m c hm hW hT => (buildR_any (F := 400000) W (hT.le hm) (by unfold maxLen; omega) (fun i hi => by have := scanT_tkR hR i (by omega); subst hX; exact this) (HG.out W hW).1.sp (HG.out W hW).2 (by omega)).mono fun e w' h => h.ev
    have HS : Hid (∀ W, Below w.heap.size w W → Calls Tryz.prog 9 #[.string ⟨src.toArray⟩] W fun e w' => ∃ p c, e = .returned (.tuple #[.slice p ts.length c, .nilIface]) ∧ TX w' p ts.length X ∧ Below W.heap.size W w' ∧ ts.length ≤ c) := fun W hW => (scan_any src hmx W (HG.out W hW).1).mono fun e w' ⟨hb, h⟩ => by
      rw [hR] at h
      rcases h with ⟨_, v, rfl, ho⟩ | ⟨_, b, h0, _⟩
      · have hO := own_tks.2 ho
        obtain ⟨p, c, rfl, hp⟩ := own_form' hO
        refine ⟨p, c, rfl, by have := own_txs hO; rw [hX] at this; exact this, hb, ?_⟩
        rcases hO.2 with ⟨h1, h2⟩ | ⟨g, cap, cur, h1, _, _, h2, _⟩
        · injection h1 with _ h1 _
          rw [h1]
          exact Nat.zero_le _
        · injection h1 with _ h3 h4
          rw [h4]
          first | exact h2 | omega
      · cases h0
    have HTR : Hid (∀ i, i < ts.length → TkR (X i)) := fun i hi => by have := scanT_tkR hR i hi; subst hX; exact this
    obtain ⟨n, hnn⟩ : ∃ n, ts.length = n := ⟨_, rfl⟩
    rw [hnn] at hA HB0 HS hn HTR
    clear hR hmx hX hnn
    have HV : Hid (∀ W ev m k c l o, seeK (RM X m) = k → seeC (RM X m) = c → seeL (RM X m) = l → seeO (RM X m) = o → EvAt W ev (RM X m) → Calls Tryz.prog 8 #[ev] W fun e w' => e = .returned (.agg #[.int .i64 k, .int .i64 c, .int .i64 l, .int .i64 o, .int .u64 0, .int .i64 0, .int .u64 0]) ∧ Below W.heap.size W w') := fun W ev m k c l o h1 h2 h3 h4 h => by
      rw [← h1, ← h2, ← h3, ← h4]
      exact see_any W h
    generalize RM X = Y at hA HB0 HV
    have HB := mhid HB0
    clear HB0
    obtain ⟨k, hk⟩ : ∃ k, seeK (Y n) = k := ⟨_, rfl⟩
    obtain ⟨c, hc⟩ : ∃ c, seeC (Y n) = c := ⟨_, rfl⟩
    obtain ⟨l, hl⟩ : ∃ l, seeL (Y n) = l := ⟨_, rfl⟩
    obtain ⟨o, ho⟩ : ∃ o, seeO (Y n) = o := ⟨_, rfl⟩
    have HN := mhid (And.intro hk (And.intro hc (And.intro hl ho)))
    have nss := neq_seen_same
    have ess := eql_seen_same
    have HA := mhid hA
    by_cases hz : n = 0
    · subst hz
      have hc4 : seeC (Y 0) ≠ 40 ∧ seeC (Y 0) ≠ 42 := by
        rcases hA.how with ⟨_, h1, h2⟩ | ⟨h0, _⟩
        · exact ⟨h1, h2⟩
        · omega
      rw [hc] at hc4
      have c40 : (c == 40) = false := by simpa using hc4.1
      have c42 : (c == 42) = false := by simpa using hc4.2
      have hc0 := HN
      clear hk hc hl ho hA hc4
      go_enter Tryz.func3, Tryz.ntmps3
      go_wp2_with (first
        | (go_at_call 7; (with_reducible refine (HP.out).mono ?_); rintro e w1 ⟨tp, tm, tc, ev, rfl, hev, hb⟩; have H1 := mhid (And.intro (hev.below ((Below.refl _ w1).alloc (Nat.le_refl _) (.cells #[.slice tp tm tc] 24))) (hb.trans (((Below.refl _ w1).alloc (Nat.le_refl _) (.cells #[.slice tp tm tc] 24)).mono hb.size))); clear hev hb)
        | (go_at_call 8; (with_reducible refine (HK.out _ _ H1.out.1).mono ?_); rintro e w2 ⟨rfl, hb⟩; have H2 := mhid (H1.out.2.trans (hb.mono H1.out.2.size)); clear hb H1)
        | (go_at_call 9; (with_reducible refine (HS.out _ H2.out).mono ?_); rintro e w3 ⟨p, cc, rfl, hT, hb, hcap⟩; have H3 := mhid (And.intro hT (H2.out.trans (hb.mono H2.out.size))); clear hb hT H2)
        | (go_at_call 10; (with_reducible refine (HB.out _ _ 0 _ (Nat.le_refl _) H3.out.2 H3.out.1).mono ?_); rintro e w4 ⟨tp4, tm4, tc4, ev4, rfl, hev, hb⟩; have H4 := mhid (And.intro (H3.out.1.below hb) (And.intro hev (H3.out.2.trans (hb.mono H3.out.2.size)))); clear hev hb H3)
        | (go_at_call 8; (with_reducible refine (HV.out _ _ 0 k c l o HN.out.1 HN.out.2.1 HN.out.2.2.1 HN.out.2.2.2 H4.out.2.1).mono ?_); rintro e w5 ⟨rfl, hb⟩; have H5 := mhid (And.intro (((H4.out.1.below hb)).below ((Below.refl _ w5).alloc (Nat.le_refl _) (.cells #[.int .i64 k, .int .i64 c, .int .i64 l, .int .i64 o, .int .u64 0, .int .i64 0, .int .u64 0] 33))) ((H4.out.2.2.trans (hb.mono H4.out.2.2.size)).trans (((Below.refl _ w5).alloc (Nat.le_refl _) (.cells #[.int .i64 k, .int .i64 c, .int .i64 l, .int .i64 o, .int .u64 0, .int .i64 0, .int .u64 0] 33)).mono (H4.out.2.2.trans (hb.mono H4.out.2.2.size)).size))); clear hb H4; have HE := mhid (World.alloc_heap_new w5 (.cells #[.int .i64 k, .int .i64 c, .int .i64 l, .int .i64 o, .int .u64 0, .int .i64 0, .int .u64 0] 33 (0, 0))))
        | (go_at_call 10; (with_reducible refine (HB.out _ _ 0 _ (Nat.le_refl _) H5.out.2 H5.out.1).mono ?_); rintro e w6 ⟨tp6, tm6, tc6, ev6, rfl, hev, hb⟩; have H6 := mhid (And.intro (H5.out.1.below hb) (And.intro hev (H5.out.2.trans (hb.mono H5.out.2.size)))); have HE2 := mhid ((hb.block _ (Array.getElem?_eq_some_iff.1 HE.out).1).trans HE.out); clear HE; have HE := HE2; clear HE2; clear hev hb H5)
        | (go_at_call 8; (with_reducible refine (HV.out _ _ 0 k c l o HN.out.1 HN.out.2.1 HN.out.2.2.1 HN.out.2.2.2 H6.out.2.1).mono ?_); rintro e w7 ⟨rfl, hb⟩; have H7 := mhid (And.intro (((H6.out.1.below hb)).below ((Below.refl _ w7).alloc (Nat.le_refl _) (.cells #[.int .i64 k, .int .i64 c, .int .i64 l, .int .i64 o, .int .u64 0, .int .i64 0, .int .u64 0] 33))) ((H6.out.2.2.trans (hb.mono H6.out.2.2.size)).trans (((Below.refl _ w7).alloc (Nat.le_refl _) (.cells #[.int .i64 k, .int .i64 c, .int .i64 l, .int .i64 o, .int .u64 0, .int .i64 0, .int .u64 0] 33)).mono (H6.out.2.2.trans (hb.mono H6.out.2.2.size)).size))); have hbx := (hb.block _ (Array.getElem?_eq_some_iff.1 HE.out).1).trans HE.out; obtain ⟨y0, y1, y2, y3, y4, y5, y6⟩ := box7z hbx; clear hbx; clear hb H6))
      go_ret
      exact ⟨rfl, H7.out.2⟩
    have hn0 : 0 < n := Nat.pos_of_ne_zero hz
    have HS2 : Hid (∀ W, Below w.heap.size w W → Calls Tryz.prog 9 #[.string ⟨src.toArray⟩] W fun e w' => ∃ b oo c, e = .returned (.tuple #[.slice (some ⟨b, oo, none⟩) n c, .nilIface]) ∧ TX w' (some ⟨b, oo, none⟩) n X ∧ Below W.heap.size W w' ∧ n ≤ c) := fun W hW => (HS.out W hW).mono fun e w' ⟨p, c, h1, h2, h3⟩ => by
      obtain ⟨b, oo, rfl⟩ := h2.some hn0
      exact ⟨b, oo, c, h1, h2, h3⟩
    clear HS
    have HS := HS2
    clear HS2
    have dn1 : decide ((n : Int) > 0) = true := decide_eq_true (by omega)
    have dn2 : decide ((0 : Int) < (n : Int)) = true := decide_eq_true (by omega)
    have dn3 : decide (0 < n) = true := decide_eq_true hn0
    rcases hA.how with ⟨han, h40, h42⟩ | ⟨han, hcc, hra, hpl⟩
    · obtain rfl := han.symm
      rw [hc] at h40 h42
      have c40 : (c == 40) = false := by simpa using h40
      have c42 : (c == 42) = false := by simpa using h42
      obtain ⟨m, hma, em⟩ := cut_mod cut n hn
      have hfine := hA.fine m hma
      clear hk hc hl ho hA h40 h42 HA
      have h3 : m = n ∨ (m < n ∧ (seeK (Y m) = 0 ∧ seeC (Y m) = 0)) ∨ (m < n ∧ seeK (Y m) = 2 ∧ seeC (Y m) = 41 ∧ 0 < m ∧ seeL (Y m) = (X (m - 1)).line ∧ seeO (Y m) = wrap64 ((X (m - 1)).col + ((X (m - 1)).text.length : Int))) := by
        by_cases q : m = n
        · exact .inl q
        · rcases hfine (by omega) with h | h
          · exact .inr (.inl ⟨by omega, h⟩)
          · exact .inr (.inr ⟨by omega, h⟩)
      rcases h3 with hq | ⟨hlt, hk2⟩ | ⟨hlt, hk2⟩
      · as_aux_lemma =>
        have HM : Hid (seeK (Y m) = k ∧ seeC (Y m) = c ∧ seeL (Y m) = l ∧ seeO (Y m) = o) := by rw [hq]; exact HN.out
        have q1 : ((m : Int) == (n : Int)) = true := by rw [hq]; simp
        have q2 : (m == n) = true := by rw [hq]; simp
        clear hq
        have hmn : m ≤ n := by omega
        have hm9 : (0 : Int) ≤ (m : Int) := by omega
        try clear hfine
        go_enter Tryz.func3, Tryz.ntmps3
        go_wp2_with (first
          | (go_at_call 7; (with_reducible refine (HP.out).mono ?_); rintro e w1 ⟨tp, tm, tc, ev, rfl, hev, hb⟩; have H1 := mhid (And.intro (hev.below ((Below.refl _ w1).alloc (Nat.le_refl _) (.cells #[.slice tp tm tc] 24))) (hb.trans (((Below.refl _ w1).alloc (Nat.le_refl _) (.cells #[.slice tp tm tc] 24)).mono hb.size))); clear hev hb)
          | (go_at_call 8; (with_reducible refine (HK.out _ _ H1.out.1).mono ?_); rintro e w2 ⟨rfl, hb⟩; have H2 := mhid (H1.out.2.trans (hb.mono H1.out.2.size)); clear hb H1)
          | (go_at_call 9; (with_reducible refine (HS.out _ H2.out).mono ?_); rintro e w3 ⟨b, oo, cc, rfl, hT, hb, hcap⟩; have hcm : (m : Int) ≤ (cc : Int) := (by omega); have H3 := mhid (And.intro hT (H2.out.trans (hb.mono H2.out.size))); clear hb hT H2)
          | (go_at_call 10; (with_reducible refine (HB.out _ _ n _ (Nat.le_refl _) H3.out.2 H3.out.1).mono ?_); rintro e w4 ⟨tp4, tm4, tc4, ev4, rfl, hev, hb⟩; have H4 := mhid (And.intro (H3.out.1.below hb) (And.intro hev (H3.out.2.trans (hb.mono H3.out.2.size)))); clear hev hb H3)
          | (go_at_call 8; (with_reducible refine (HV.out _ _ n k c l o HN.out.1 HN.out.2.1 HN.out.2.2.1 HN.out.2.2.2 H4.out.2.1).mono ?_); rintro e w5 ⟨rfl, hb⟩; have HX := mhid (And.intro (((H4.out.1.below hb)).below ((Below.refl _ w5).alloc (Nat.le_refl _) (.cells #[.int .i64 k, .int .i64 c, .int .i64 l, .int .i64 o, .int .u64 0, .int .i64 0, .int .u64 0] 33))) ((H4.out.2.2.trans (hb.mono H4.out.2.2.size)).trans (((Below.refl _ w5).alloc (Nat.le_refl _) (.cells #[.int .i64 k, .int .i64 c, .int .i64 l, .int .i64 o, .int .u64 0, .int .i64 0, .int .u64 0] 33)).mono (H4.out.2.2.trans (hb.mono H4.out.2.2.size)).size))); clear hb H4; have HE := mhid (World.alloc_heap_new w5 (.cells #[.int .i64 k, .int .i64 c, .int .i64 l, .int .i64 o, .int .u64 0, .int .i64 0, .int .u64 0] 33 (0, 0))))
          | (go_at_call 10; (with_reducible refine (HB.out _ _ m _ hmn HX.out.2 HX.out.1).mono ?_); rintro e w8 ⟨tp8, tm8, tc8, ev8, rfl, hev, hb⟩; have H8 := mhid (And.intro (HX.out.1.below hb) (And.intro hev (HX.out.2.trans (hb.mono HX.out.2.size)))); have HE2 := mhid ((hb.block _ (Array.getElem?_eq_some_iff.1 HE.out).1).trans HE.out); clear HE; have HE := HE2; clear HE2; clear hev hb HX)
          | (go_at_call 8; (with_reducible refine (HV.out _ _ m k c l o HM.out.1 HM.out.2.1 HM.out.2.2.1 HM.out.2.2.2 H8.out.2.1).mono ?_); rintro e w9 ⟨rfl, hb⟩; have H9 := mhid (And.intro (((H8.out.1.below hb)).below ((Below.refl _ w9).alloc (Nat.le_refl _) (.cells #[.int .i64 k, .int .i64 c, .int .i64 l, .int .i64 o, .int .u64 0, .int .i64 0, .int .u64 0] 33))) ((H8.out.2.2.trans (hb.mono H8.out.2.2.size)).trans (((Below.refl _ w9).alloc (Nat.le_refl _) (.cells #[.int .i64 k, .int .i64 c, .int .i64 l, .int .i64 o, .int .u64 0, .int .i64 0, .int .u64 0] 33)).mono (H8.out.2.2.trans (hb.mono H8.out.2.2.size)).size))); have hbx := (hb.block _ (Array.getElem?_eq_some_iff.1 HE.out).1).trans HE.out; obtain ⟨y0, y1, y2, y3, y4, y5, y6⟩ := box7z hbx; clear hbx; clear hb H8))
        go_ret
        exact ⟨rfl, H9.out.2⟩

      · as_aux_lemma =>
        have q1 : ((m : Int) == (n : Int)) = false := by simp; omega
        have q2 : (m == n) = false := by simp; omega
        obtain ⟨l2, hl2⟩ : ∃ l2, seeL (Y m) = l2 := ⟨_, rfl⟩
        obtain ⟨o2, ho2⟩ : ∃ o2, seeO (Y m) = o2 := ⟨_, rfl⟩
        have HM := mhid (And.intro hk2.1 (And.intro hk2.2 (And.intro hl2 ho2)))
        clear hk2 hl2 ho2
        have hmn : m ≤ n := by omega
        have hm9 : (0 : Int) ≤ (m : Int) := by omega
        try clear hfine
        go_enter Tryz.func3, Tryz.ntmps3
        go_wp2_with (first
          | (go_at_call 7; (with_reducible refine (HP.out).mono ?_); rintro e w1 ⟨tp, tm, tc, ev, rfl, hev, hb⟩; have H1 := mhid (And.intro (hev.below ((Below.refl _ w1).alloc (Nat.le_refl _) (.cells #[.slice tp tm tc] 24))) (hb.trans (((Below.refl _ w1).alloc (Nat.le_refl _) (.cells #[.slice tp tm tc] 24)).mono hb.size))); clear hev hb)
          | (go_at_call 8; (with_reducible refine (HK.out _ _ H1.out.1).mono ?_); rintro e w2 ⟨rfl, hb⟩; have H2 := mhid (H1.out.2.trans (hb.mono H1.out.2.size)); clear hb H1)
          | (go_at_call 9; (with_reducible refine (HS.out _ H2.out).mono ?_); rintro e w3 ⟨b, oo, cc, rfl, hT, hb, hcap⟩; have hcm : (m : Int) ≤ (cc : Int) := (by omega); have H3 := mhid (And.intro hT (H2.out.trans (hb.mono H2.out.size))); clear hb hT H2)
          | (go_at_call 10; (with_reducible refine (HB.out _ _ n _ (Nat.le_refl _) H3.out.2 H3.out.1).mono ?_); rintro e w4 ⟨tp4, tm4, tc4, ev4, rfl, hev, hb⟩; have H4 := mhid (And.intro (H3.out.1.below hb) (And.intro hev (H3.out.2.trans (hb.mono H3.out.2.size)))); clear hev hb H3)
          | (go_at_call 8; (with_reducible refine (HV.out _ _ n k c l o HN.out.1 HN.out.2.1 HN.out.2.2.1 HN.out.2.2.2 H4.out.2.1).mono ?_); rintro e w5 ⟨rfl, hb⟩; have HX := mhid (And.intro (((H4.out.1.below hb)).below ((Below.refl _ w5).alloc (Nat.le_refl _) (.cells #[.int .i64 k, .int .i64 c, .int .i64 l, .int .i64 o, .int .u64 0, .int .i64 0, .int .u64 0] 33))) ((H4.out.2.2.trans (hb.mono H4.out.2.2.size)).trans (((Below.refl _ w5).alloc (Nat.le_refl _) (.cells #[.int .i64 k, .int .i64 c, .int .i64 l, .int .i64 o, .int .u64 0, .int .i64 0, .int .u64 0] 33)).mono (H4.out.2.2.trans (hb.mono H4.out.2.2.size)).size))); clear hb H4; have HE := mhid (World.alloc_heap_new w5 (.cells #[.int .i64 k, .int .i64 c, .int .i64 l, .int .i64 o, .int .u64 0, .int .i64 0, .int .u64 0] 33 (0, 0))))
          | (go_at_call 10; (with_reducible refine (HB.out _ _ m _ hmn HX.out.2 HX.out.1).mono ?_); rintro e w8 ⟨tp8, tm8, tc8, ev8, rfl, hev, hb⟩; have H8 := mhid (And.intro (HX.out.1.below hb) (And.intro hev (HX.out.2.trans (hb.mono HX.out.2.size)))); clear hev hb HX)
          | (go_at_call 8; (with_reducible refine (HV.out _ _ m 0 0 l2 o2 HM.out.1 HM.out.2.1 HM.out.2.2.1 HM.out.2.2.2 H8.out.2.1).mono ?_); rintro e w9 ⟨rfl, hb⟩; have H9 := mhid (And.intro (((H8.out.1.below hb)).below ((Below.refl _ w9).alloc (Nat.le_refl _) (.cells #[.int .i64 0, .int .i64 0, .int .i64 l2, .int .i64 o2, .int .u64 0, .int .i64 0, .int .u64 0] 33))) ((H8.out.2.2.trans (hb.mono H8.out.2.2.size)).trans (((Below.refl _ w9).alloc (Nat.le_refl _) (.cells #[.int .i64 0, .int .i64 0, .int .i64 l2, .int .i64 o2, .int .u64 0, .int .i64 0, .int .u64 0] 33)).mono (H8.out.2.2.trans (hb.mono H8.out.2.2.size)).size))); clear hb H8))
        go_quiet (fail)
        go_wp2
        go_ret
        exact ⟨rfl, below_drewN H9.out.2 _⟩

      · as_aux_lemma =>
        have q1 : ((m : Int) == (n : Int)) = false := by simp; omega
        have q2 : (m == n) = false := by simp; omega
        obtain ⟨hk21, hk22, hm0, hl2, ho2⟩ := hk2
        obtain ⟨j, hj⟩ : ∃ j, m = j + 1 := ⟨m - 1, by omega⟩
        have hjn : j < n := by omega
        rw [show m - 1 = j by omega] at hl2 ho2
        have HM := mhid (And.intro hk21 (And.intro hk22 (And.intro hl2 ho2)))
        have hjm : IntKind.i64.wrap ((m : Int) - 1) = (j : Int) := by rw [IntKind.wrap_i64]; omega
        have hjw : wrap64 ((m : Int) - 1) = (j : Int) := by rw [w64_in _ (by omega)]; omega
        have hj3 : (m : Int) - 1 = (j : Int) := by omega
        have j1 : (0 : Int) ≤ (j : Int) := by omega
        have j2 : (j : Int) < (n : Int) := by omega
        have m1 : decide ((m : Int) > 0) = true := decide_eq_true (by omega)
        have m2 : decide ((0 : Int) < (m : Int)) = true := decide_eq_true (by omega)
        have m3 : decide (0 < m) = true := decide_eq_true hm0
        obtain ⟨tx, htx⟩ : ∃ tx, (X j).text.length = tx := ⟨_, rfl⟩
        have z1 : (⟨(X j).text.toArray⟩ : ByteArray).size = tx := by rw [← htx]; simp [ByteArray.size]
        have zl : ((X j).line == (X j).line) = true := by simp
        rw [htx] at HM
        have zo : (wrap64 ((X j).col + (tx : Int)) == wrap64 ((X j).col + (tx : Int))) = true := by simp
        clear hl2 ho2 hk21 hk22 hj htx
        have hmn : m ≤ n := by omega
        have hm9 : (0 : Int) ≤ (m : Int) := by omega
        try clear hfine
        go_enter Tryz.func3, Tryz.ntmps3
        go_wp2_with (first
          | (go_at_call 7; (with_reducible refine (HP.out).mono ?_); rintro e w1 ⟨tp, tm, tc, ev, rfl, hev, hb⟩; have H1 := mhid (And.intro (hev.below ((Below.refl _ w1).alloc (Nat.le_refl _) (.cells #[.slice tp tm tc] 24))) (hb.trans (((Below.refl _ w1).alloc (Nat.le_refl _) (.cells #[.slice tp tm tc] 24)).mono hb.size))); clear hev hb)
          | (go_at_call 8; (with_reducible refine (HK.out _ _ H1.out.1).mono ?_); rintro e w2 ⟨rfl, hb⟩; have H2 := mhid (H1.out.2.trans (hb.mono H1.out.2.size)); clear hb H1)
          | (go_at_call 9; (with_reducible refine (HS.out _ H2.out).mono ?_); rintro e w3 ⟨b, oo, cc, rfl, hT, hb, hcap⟩; have hcm : (m : Int) ≤ (cc : Int) := (by omega); have H3 := mhid (And.intro hT (H2.out.trans (hb.mono H2.out.size))); clear hb hT H2)
          | (go_at_call 10; (with_reducible refine (HB.out _ _ n _ (Nat.le_refl _) H3.out.2 H3.out.1).mono ?_); rintro e w4 ⟨tp4, tm4, tc4, ev4, rfl, hev, hb⟩; have H4 := mhid (And.intro (H3.out.1.below hb) (And.intro hev (H3.out.2.trans (hb.mono H3.out.2.size)))); clear hev hb H3)
          | (go_at_call 8; (with_reducible refine (HV.out _ _ n k c l o HN.out.1 HN.out.2.1 HN.out.2.2.1 HN.out.2.2.2 H4.out.2.1).mono ?_); rintro e w5 ⟨rfl, hb⟩; have HX := mhid (And.intro (((H4.out.1.below hb)).below ((Below.refl _ w5).alloc (Nat.le_refl _) (.cells #[.int .i64 k, .int .i64 c, .int .i64 l, .int .i64 o, .int .u64 0, .int .i64 0, .int .u64 0] 33))) ((H4.out.2.2.trans (hb.mono H4.out.2.2.size)).trans (((Below.refl _ w5).alloc (Nat.le_refl _) (.cells #[.int .i64 k, .int .i64 c, .int .i64 l, .int .i64 o, .int .u64 0, .int .i64 0, .int .u64 0] 33)).mono (H4.out.2.2.trans (hb.mono H4.out.2.2.size)).size))); clear hb H4; have HE := mhid (World.alloc_heap_new w5 (.cells #[.int .i64 k, .int .i64 c, .int .i64 l, .int .i64 o, .int .u64 0, .int .i64 0, .int .u64 0] 33 (0, 0))))
          | (go_at_call 10; (with_reducible refine (HB.out _ _ m _ hmn HX.out.2 HX.out.1).mono ?_); rintro e w8 ⟨tp8, tm8, tc8, ev8, rfl, hev, hb⟩; have H8 := mhid (And.intro (HX.out.1.below hb) (And.intro hev (HX.out.2.trans (hb.mono HX.out.2.size)))); clear hev hb HX)
          | (go_at_call 8; (with_reducible refine (HV.out _ _ m 2 41 (X j).line (wrap64 ((X j).col + (tx : Int))) HM.out.1 HM.out.2.1 HM.out.2.2.1 HM.out.2.2.2 H8.out.2.1).mono ?_); rintro e w9 ⟨rfl, hb⟩; have H9 := mhid (And.intro (((H8.out.1.below hb)).below ((Below.refl _ w9).alloc (Nat.le_refl _) (.cells #[.int .i64 2, .int .i64 41, .int .i64 (X j).line, .int .i64 (wrap64 ((X j).col + (tx : Int))), .int .u64 0, .int .i64 0, .int .u64 0] 33))) ((H8.out.2.2.trans (hb.mono H8.out.2.2.size)).trans (((Below.refl _ w9).alloc (Nat.le_refl _) (.cells #[.int .i64 2, .int .i64 41, .int .i64 (X j).line, .int .i64 (wrap64 ((X j).col + (tx : Int))), .int .u64 0, .int .i64 0, .int .u64 0] 33)).mono (H8.out.2.2.trans (hb.mono H8.out.2.2.size)).size))); clear hb H8))
        obtain ⟨t0, t1, t2, t3, t4⟩ := H9.out.1.cells hjn
        go_quiet (fail)
        go_wp2
        go_ret
        exact ⟨rfl, below_drewN H9.out.2 _⟩

    · rw [hc] at hcc
      rw [hl, ho] at hpl
      have HPL := mhid hpl
      obtain ⟨a1, ha1⟩ : ∃ a1, a + 1 = a1 := ⟨_, rfl⟩
      have ha1n : a1 ≤ n := by omega
      have hai : (a : Int) + 1 = (a1 : Int) := by omega
      have HN1 : Hid (seeK (Y a1) = k ∧ seeC (Y a1) = c ∧ seeL (Y a1) = l ∧ seeO (Y a1) = o) := by rw [← ha1, hra]; exact HN.out
      have da1 : decide ((a : Int) < 0) = false := decide_eq_false (by omega)
      have haw : wrap64 ((a : Int) + 1) = (a1 : Int) := by rw [w64_in _ (by omega)]; exact hai
      have hcd : (c == 40) = true ∨ ((c == 40) = false ∧ (c == 42) = true) := by rcases hcc with h9 | h9 <;> rw [h9]; exact .inl rfl; exact .inr ⟨rfl, rfl⟩
      clear hk hc hl ho HA hcc hpl hra
      by_cases ha0 : a = 0
      · have hk2 : seeK (Y 0) = 0 ∧ seeC (Y 0) = 0 := by
          rcases hA.fine 0 (Nat.zero_le _) hn0 with h | h
          · exact h
          · omega
        have d1 : decide ((a : Int) > 0) = false := decide_eq_false (by omega)
        have d2 : decide ((0 : Int) < (a : Int)) = false := decide_eq_false (by omega)
        have d3 : decide (0 < a) = false := decide_eq_false (by omega)
        have hlt : a < n := by omega
        rw [← ha0] at hk2
        clear hA ha0
        rcases hcd with c40 | ⟨c40, c42⟩
        · as_aux_lemma =>
          have q1 : ((a : Int) == (n : Int)) = false := by simp; omega
          have q2 : (a == n) = false := by simp; omega
          obtain ⟨l2, hl2⟩ : ∃ l2, seeL (Y a) = l2 := ⟨_, rfl⟩
          obtain ⟨o2, ho2⟩ : ∃ o2, seeO (Y a) = o2 := ⟨_, rfl⟩
          have HM := mhid (And.intro hk2.1 (And.intro hk2.2 (And.intro hl2 ho2)))
          clear hk2 hl2 ho2
          have hmn : a ≤ n := by omega
          have hm9 : (0 : Int) ≤ (a : Int) := by omega
          try clear hfine
          go_enter Tryz.func3, Tryz.ntmps3
          go_wp2_with (first
            | (go_at_call 7; (with_reducible refine (HP.out).mono ?_); rintro e w1 ⟨tp, tm, tc, ev, rfl, hev, hb⟩; have H1 := mhid (And.intro (hev.below ((Below.refl _ w1).alloc (Nat.le_refl _) (.cells #[.slice tp tm tc] 24))) (hb.trans (((Below.refl _ w1).alloc (Nat.le_refl _) (.cells #[.slice tp tm tc] 24)).mono hb.size))); clear hev hb)
            | (go_at_call 8; (with_reducible refine (HK.out _ _ H1.out.1).mono ?_); rintro e w2 ⟨rfl, hb⟩; have H2 := mhid (H1.out.2.trans (hb.mono H1.out.2.size)); clear hb H1)
            | (go_at_call 9; (with_reducible refine (HS.out _ H2.out).mono ?_); rintro e w3 ⟨b, oo, cc, rfl, hT, hb, hcap⟩; have hca : (a1 : Int) ≤ (cc : Int) := (by omega); have H3 := mhid (And.intro hT (H2.out.trans (hb.mono H2.out.size))); clear hb hT H2)
            | (go_at_call 10; (with_reducible refine (HB.out _ _ n _ (Nat.le_refl _) H3.out.2 H3.out.1).mono ?_); rintro e w4 ⟨tp4, tm4, tc4, ev4, rfl, hev, hb⟩; have H4 := mhid (And.intro (H3.out.1.below hb) (And.intro hev (H3.out.2.trans (hb.mono H3.out.2.size)))); clear hev hb H3)
            | (go_at_call 8; (with_reducible refine (HV.out _ _ n k c l o HN.out.1 HN.out.2.1 HN.out.2.2.1 HN.out.2.2.2 H4.out.2.1).mono ?_); rintro e w5 ⟨rfl, hb⟩; have HX := mhid (And.intro (((H4.out.1.below hb)).below ((Below.refl _ w5).alloc (Nat.le_refl _) (.cells #[.int .i64 k, .int .i64 c, .int .i64 l, .int .i64 o, .int .u64 0, .int .i64 0, .int .u64 0] 33))) ((H4.out.2.2.trans (hb.mono H4.out.2.2.size)).trans (((Below.refl _ w5).alloc (Nat.le_refl _) (.cells #[.int .i64 k, .int .i64 c, .int .i64 l, .int .i64 o, .int .u64 0, .int .i64 0, .int .u64 0] 33)).mono (H4.out.2.2.trans (hb.mono H4.out.2.2.size)).size))); clear hb H4; have HE := mhid (World.alloc_heap_new w5 (.cells #[.int .i64 k, .int .i64 c, .int .i64 l, .int .i64 o, .int .u64 0, .int .i64 0, .int .u64 0] 33 (0, 0)))))
          go_loopw [10, 48] (fun v10 v48 wr => ∃ (i : Nat) (z : Int), v48 = .int .i64 (i : Int) ∧ v10 = .int .i64 z ∧ i ≤ n ∧ Hid ((i ≤ a → z = -1) ∧ (a < i → z = (a : Int))) ∧ Hid (TX wr (some ⟨b, oo, none⟩) n X ∧ Below w.heap.size w wr ∧ wr.heap[w5.heap.size]? = some (.cells #[.int .i64 k, .int .i64 c, .int .i64 l, .int .i64 o, .int .u64 0, .int .i64 0, .int .u64 0] 33 (0, 0)))) (fun _ v48 _ => n - (intOf v48).toNat)
          case atStart => exact ⟨0, -1, rfl, rfl, Nat.zero_le _, mhid ⟨fun _ => rfl, fun h => absurd h (by omega)⟩, mhid ⟨HX.out.1, HX.out.2, HE.out⟩⟩
          case round =>
            obtain ⟨i, z, rfl, rfl, hi, hz, hw⟩ := hrel
            clear HX HE
            by_cases hlt : i < n
            · obtain ⟨t0, t1, t2, t3, t4⟩ := hw.out.1.cells hlt
              obtain ⟨y0, y1, y2, y3, y4, y5, y6⟩ := box7z hw.out.2.2
              have dl : decide ((i : Int) < (n : Int)) = true := decide_eq_true (by omega)
              have dl2 : decide (i < n) = true := decide_eq_true hlt
              have i0 : (0 : Int) ≤ (i : Int) := by omega
              have i1 : (i : Int) < (n : Int) := by omega
              have hm := meas0 hlt
              have hw2 : ∀ z, Hid (TX (wr.alloc z) (some ⟨b, oo, none⟩) n X ∧ Below w.heap.size w (wr.alloc z) ∧ (wr.alloc z).heap[w5.heap.size]? = some (.cells #[.int .i64 k, .int .i64 c, .int .i64 l, .int .i64 o, .int .u64 0, .int .i64 0, .int .u64 0] 33 (0, 0))) := fun z => ⟨hw.out.1.below ((Below.refl _ _).alloc (Nat.le_refl _) _), hw.out.2.1.trans (((Below.refl _ _).alloc (Nat.le_refl _) _).mono hw.out.2.1.size), (Below.heap_alloc wr z _ (Array.getElem?_eq_some_iff.1 hw.out.2.2).1).trans hw.out.2.2⟩
              have hp3 := HPL.out i hlt
              by_cases hia : i = a
              · have z1 : ((X i).line == l) = true := by have := (hp3.2 hia).1; simp [this]
                have z2 : ((X i).col == o) = true := by have := (hp3.2 hia).2; simp [this]
                have hz2 : Hid ((i + 1 ≤ a → (i : Int) = -1) ∧ (a < i + 1 → (i : Int) = (a : Int))) := ⟨fun h => absurd h (by omega), fun _ => by rw [hia]⟩
                clear hp3 hia
                go_wp2
                exact ⟨⟨i + 1, (i : Int), rfl, rfl, hlt, hz2, hw2 _⟩, hm⟩
              · have hz2 : Hid ((i + 1 ≤ a → z = -1) ∧ (a < i + 1 → z = (a : Int))) := ⟨fun h => hz.out.1 (by omega), fun h => hz.out.2 (by omega)⟩
                by_cases hq3 : (X i).line = l
                · have z1 : ((X i).line == l) = true := by simp [hq3]
                  have z2 : ((X i).col == o) = false := by have : ¬ (X i).col = o := fun h => hia (hp3.1 ⟨hq3, h⟩); simpa using this
                  clear hp3 hia hq3
                  go_wp2
                  exact ⟨⟨i + 1, z, rfl, rfl, hlt, hz2, hw2 _⟩, hm⟩
                · have z1 : ((X i).line == l) = false := by simpa using hq3
                  clear hp3 hia hq3
                  go_wp2
                  exact ⟨⟨i + 1, z, rfl, rfl, hlt, hz2, hw2 _⟩, hm⟩
            · have hza := hz.out.2 (by omega)
              subst hza
              have dl : decide ((i : Int) < (n : Int)) = false := decide_eq_false (by omega)
              have dl2 : decide (i < n) = false := decide_eq_false hlt
              have HL := mhid (And.intro hw.out.1 hw.out.2.1)
              have HE := mhid hw.out.2.2
              clear hz hw
              go_upto_region 21 with (first
                | (go_at_call 10; (with_reducible refine (HB.out _ _ a1 _ ha1n HL.out.2 HL.out.1).mono ?_); rintro e w6 ⟨tp6, tm6, tc6, ev6, rfl, hev, hb⟩; have H6 := mhid (And.intro (HL.out.1.below hb) (And.intro hev (HL.out.2.trans (hb.mono HL.out.2.size)))); have HE2 := mhid ((hb.block _ (Array.getElem?_eq_some_iff.1 HE.out).1).trans HE.out); clear HE; have HE := HE2; clear HE2; clear hev hb HL))
              obtain ⟨⟨x0, x1, x2, x3, x4, x5, x6⟩, -⟩ := cells7 HE.out
              go_region_with (go_at_call 8; (with_reducible refine (HV.out _ _ a1 k c l o HN1.out.1 HN1.out.2.1 HN1.out.2.2.1 HN1.out.2.2.2 ?_).mono ?_); (first | with_reducible exact H6.out.2.1 | exact H6.out.2.1.below (Below.refl _ _).drew); rintro e w7 ⟨rfl, hb⟩; have H7 := mhid (And.intro ((H6.out.1.below (Below.refl _ _).drew).below hb) ((Below.drew H6.out.2.2).trans (hb.mono H6.out.2.2.size))); obtain ⟨⟨g0, g1, g2, g3, g4, g5, g6⟩, -⟩ := cells7 ((hb.block _ (Array.getElem?_eq_some_iff.1 HE.out).1).trans HE.out); clear hb)
              all_goals
                clear H6 HE x0 x1 x2 x3 x4 x5 x6 g0 g1 g2 g3 g4 g5 g6
                go_wp2_with (first
                  | (go_at_call 10; (with_reducible refine (HB.out _ _ a _ hmn H7.out.2 H7.out.1).mono ?_); rintro e w8 ⟨tp8, tm8, tc8, ev8, rfl, hev, hb⟩; have H8 := mhid (And.intro (H7.out.1.below hb) (And.intro hev (H7.out.2.trans (hb.mono H7.out.2.size)))); clear hev hb H7)
                  | (go_at_call 8; (with_reducible refine (HV.out _ _ a 0 0 l2 o2 HM.out.1 HM.out.2.1 HM.out.2.2.1 HM.out.2.2.2 H8.out.2.1).mono ?_); rintro e w9 ⟨rfl, hb⟩; have H9 := mhid (And.intro (((H8.out.1.below hb)).below ((Below.refl _ w9).alloc (Nat.le_refl _) (.cells #[.int .i64 0, .int .i64 0, .int .i64 l2, .int .i64 o2, .int .u64 0, .int .i64 0, .int .u64 0] 33))) ((H8.out.2.2.trans (hb.mono H8.out.2.2.size)).trans (((Below.refl _ w9).alloc (Nat.le_refl _) (.cells #[.int .i64 0, .int .i64 0, .int .i64 l2, .int .i64 o2, .int .u64 0, .int .i64 0, .int .u64 0] 33)).mono (H8.out.2.2.trans (hb.mono H8.out.2.2.size)).size))); clear hb H8))
                go_quiet (fail)
                go_wp2
                go_ret
                exact ⟨rfl, below_drewN H9.out.2 _⟩

        · as_aux_lemma =>
          have q1 : ((a : Int) == (n : Int)) = false := by simp; omega
          have q2 : (a == n) = false := by simp; omega
          obtain ⟨l2, hl2⟩ : ∃ l2, seeL (Y a) = l2 := ⟨_, rfl⟩
          obtain ⟨o2, ho2⟩ : ∃ o2, seeO (Y a) = o2 := ⟨_, rfl⟩
          have HM := mhid (And.intro hk2.1 (And.intro hk2.2 (And.intro hl2 ho2)))
          clear hk2 hl2 ho2
          have hmn : a ≤ n := by omega
          have hm9 : (0 : Int) ≤ (a : Int) := by omega
          try clear hfine
          go_enter Tryz.func3, Tryz.ntmps3
          go_wp2_with (first
            | (go_at_call 7; (with_reducible refine (HP.out).mono ?_); rintro e w1 ⟨tp, tm, tc, ev, rfl, hev, hb⟩; have H1 := mhid (And.intro (hev.below ((Below.refl _ w1).alloc (Nat.le_refl _) (.cells #[.slice tp tm tc] 24))) (hb.trans (((Below.refl _ w1).alloc (Nat.le_refl _) (.cells #[.slice tp tm tc] 24)).mono hb.size))); clear hev hb)
            | (go_at_call 8; (with_reducible refine (HK.out _ _ H1.out.1).mono ?_); rintro e w2 ⟨rfl, hb⟩; have H2 := mhid (H1.out.2.trans (hb.mono H1.out.2.size)); clear hb H1)
            | (go_at_call 9; (with_reducible refine (HS.out _ H2.out).mono ?_); rintro e w3 ⟨b, oo, cc, rfl, hT, hb, hcap⟩; have hca : (a1 : Int) ≤ (cc : Int) := (by omega); have H3 := mhid (And.intro hT (H2.out.trans (hb.mono H2.out.size))); clear hb hT H2)
            | (go_at_call 10; (with_reducible refine (HB.out _ _ n _ (Nat.le_refl _) H3.out.2 H3.out.1).mono ?_); rintro e w4 ⟨tp4, tm4, tc4, ev4, rfl, hev, hb⟩; have H4 := mhid (And.intro (H3.out.1.below hb) (And.intro hev (H3.out.2.trans (hb.mono H3.out.2.size)))); clear hev hb H3)
            | (go_at_call 8; (with_reducible refine (HV.out _ _ n k c l o HN.out.1 HN.out.2.1 HN.out.2.2.1 HN.out.2.2.2 H4.out.2.1).mono ?_); rintro e w5 ⟨rfl, hb⟩; have HX := mhid (And.intro (((H4.out.1.below hb)).below ((Below.refl _ w5).alloc (Nat.le_refl _) (.cells #[.int .i64 k, .int .i64 c, .int .i64 l, .int .i64 o, .int .u64 0, .int .i64 0, .int .u64 0] 33))) ((H4.out.2.2.trans (hb.mono H4.out.2.2.size)).trans (((Below.refl _ w5).alloc (Nat.le_refl _) (.cells #[.int .i64 k, .int .i64 c, .int .i64 l, .int .i64 o, .int .u64 0, .int .i64 0, .int .u64 0] 33)).mono (H4.out.2.2.trans (hb.mono H4.out.2.2.size)).size))); clear hb H4; have HE := mhid (World.alloc_heap_new w5 (.cells #[.int .i64 k, .int .i64 c, .int .i64 l, .int .i64 o, .int .u64 0, .int .i64 0, .int .u64 0] 33 (0, 0)))))
          go_loopw [10, 48] (fun v10 v48 wr => ∃ (i : Nat) (z : Int), v48 = .int .i64 (i : Int) ∧ v10 = .int .i64 z ∧ i ≤ n ∧ Hid ((i ≤ a → z = -1) ∧ (a < i → z = (a : Int))) ∧ Hid (TX wr (some ⟨b, oo, none⟩) n X ∧ Below w.heap.size w wr ∧ wr.heap[w5.heap.size]? = some (.cells #[.int .i64 k, .int .i64 c, .int .i64 l, .int .i64 o, .int .u64 0, .int .i64 0, .int .u64 0] 33 (0, 0)))) (fun _ v48 _ => n - (intOf v48).toNat)
          case atStart => exact ⟨0, -1, rfl, rfl, Nat.zero_le _, mhid ⟨fun _ => rfl, fun h => absurd h (by omega)⟩, mhid ⟨HX.out.1, HX.out.2, HE.out⟩⟩
          case round =>
            obtain ⟨i, z, rfl, rfl, hi, hz, hw⟩ := hrel
            clear HX HE
            by_cases hlt : i < n
            · obtain ⟨t0, t1, t2, t3, t4⟩ := hw.out.1.cells hlt
              obtain ⟨y0, y1, y2, y3, y4, y5, y6⟩ := box7z hw.out.2.2
              have dl : decide ((i : Int) < (n : Int)) = true := decide_eq_true (by omega)
              have dl2 : decide (i < n) = true := decide_eq_true hlt
              have i0 : (0 : Int) ≤ (i : Int) := by omega
              have i1 : (i : Int) < (n : Int) := by omega
              have hm := meas0 hlt
              have hw2 : ∀ z, Hid (TX (wr.alloc z) (some ⟨b, oo, none⟩) n X ∧ Below w.heap.size w (wr.alloc z) ∧ (wr.alloc z).heap[w5.heap.size]? = some (.cells #[.int .i64 k, .int .i64 c, .int .i64 l, .int .i64 o, .int .u64 0, .int .i64 0, .int .u64 0] 33 (0, 0))) := fun z => ⟨hw.out.1.below ((Below.refl _ _).alloc (Nat.le_refl _) _), hw.out.2.1.trans (((Below.refl _ _).alloc (Nat.le_refl _) _).mono hw.out.2.1.size), (Below.heap_alloc wr z _ (Array.getElem?_eq_some_iff.1 hw.out.2.2).1).trans hw.out.2.2⟩
              have hp3 := HPL.out i hlt
              by_cases hia : i = a
              · have z1 : ((X i).line == l) = true := by have := (hp3.2 hia).1; simp [this]
                have z2 : ((X i).col == o) = true := by have := (hp3.2 hia).2; simp [this]
                have hz2 : Hid ((i + 1 ≤ a → (i : Int) = -1) ∧ (a < i + 1 → (i : Int) = (a : Int))) := ⟨fun h => absurd h (by omega), fun _ => by rw [hia]⟩
                clear hp3 hia
                go_wp2
                exact ⟨⟨i + 1, (i : Int), rfl, rfl, hlt, hz2, hw2 _⟩, hm⟩
              · have hz2 : Hid ((i + 1 ≤ a → z = -1) ∧ (a < i + 1 → z = (a : Int))) := ⟨fun h => hz.out.1 (by omega), fun h => hz.out.2 (by omega)⟩
                by_cases hq3 : (X i).line = l
                · have z1 : ((X i).line == l) = true := by simp [hq3]
                  have z2 : ((X i).col == o) = false := by have : ¬ (X i).col = o := fun h => hia (hp3.1 ⟨hq3, h⟩); simpa using this
                  clear hp3 hia hq3
                  go_wp2
                  exact ⟨⟨i + 1, z, rfl, rfl, hlt, hz2, hw2 _⟩, hm⟩
                · have z1 : ((X i).line == l) = false := by simpa using hq3
                  clear hp3 hia hq3
                  go_wp2
                  exact ⟨⟨i + 1, z, rfl, rfl, hlt, hz2, hw2 _⟩, hm⟩
            · have hza := hz.out.2 (by omega)
              subst hza
              have dl : decide ((i : Int) < (n : Int)) = false := decide_eq_false (by omega)
              have dl2 : decide (i < n) = false := decide_eq_false hlt
              have HL := mhid (And.intro hw.out.1 hw.out.2.1)
              have HE := mhid hw.out.2.2
              clear hz hw
              go_upto_region 21 with (first
                | (go_at_call 10; (with_reducible refine (HB.out _ _ a1 _ ha1n HL.out.2 HL.out.1).mono ?_); rintro e w6 ⟨tp6, tm6, tc6, ev6, rfl, hev, hb⟩; have H6 := mhid (And.intro (HL.out.1.below hb) (And.intro hev (HL.out.2.trans (hb.mono HL.out.2.size)))); have HE2 := mhid ((hb.block _ (Array.getElem?_eq_some_iff.1 HE.out).1).trans HE.out); clear HE; have HE := HE2; clear HE2; clear hev hb HL))
              obtain ⟨⟨x0, x1, x2, x3, x4, x5, x6⟩, -⟩ := cells7 HE.out
              go_region_with (go_at_call 8; (with_reducible refine (HV.out _ _ a1 k c l o HN1.out.1 HN1.out.2.1 HN1.out.2.2.1 HN1.out.2.2.2 ?_).mono ?_); (first | with_reducible exact H6.out.2.1 | exact H6.out.2.1.below (Below.refl _ _).drew); rintro e w7 ⟨rfl, hb⟩; have H7 := mhid (And.intro ((H6.out.1.below (Below.refl _ _).drew).below hb) ((Below.drew H6.out.2.2).trans (hb.mono H6.out.2.2.size))); obtain ⟨⟨g0, g1, g2, g3, g4, g5, g6⟩, -⟩ := cells7 ((hb.block _ (Array.getElem?_eq_some_iff.1 HE.out).1).trans HE.out); clear hb)
              all_goals
                clear H6 HE x0 x1 x2 x3 x4 x5 x6 g0 g1 g2 g3 g4 g5 g6
                go_wp2_with (first
                  | (go_at_call 10; (with_reducible refine (HB.out _ _ a _ hmn H7.out.2 H7.out.1).mono ?_); rintro e w8 ⟨tp8, tm8, tc8, ev8, rfl, hev, hb⟩; have H8 := mhid (And.intro (H7.out.1.below hb) (And.intro hev (H7.out.2.trans (hb.mono H7.out.2.size)))); clear hev hb H7)
                  | (go_at_call 8; (with_reducible refine (HV.out _ _ a 0 0 l2 o2 HM.out.1 HM.out.2.1 HM.out.2.2.1 HM.out.2.2.2 H8.out.2.1).mono ?_); rintro e w9 ⟨rfl, hb⟩; have H9 := mhid (And.intro (((H8.out.1.below hb)).below ((Below.refl _ w9).alloc (Nat.le_refl _) (.cells #[.int .i64 0, .int .i64 0, .int .i64 l2, .int .i64 o2, .int .u64 0, .int .i64 0, .int .u64 0] 33))) ((H8.out.2.2.trans (hb.mono H8.out.2.2.size)).trans (((Below.refl _ w9).alloc (Nat.le_refl _) (.cells #[.int .i64 0, .int .i64 0, .int .i64 l2, .int .i64 o2, .int .u64 0, .int .i64 0, .int .u64 0] 33)).mono (H8.out.2.2.trans (hb.mono H8.out.2.2.size)).size))); clear hb H8))
                go_quiet (fail)
                go_wp2
                go_ret
                exact ⟨rfl, below_drewN H9.out.2 _⟩

      · obtain ⟨m, hma, em⟩ := cut_mod cut a (by omega)
        have hfine := hA.fine m hma (by omega)
        have hlt : m < n := by omega
        rw [hai] at em
        have d1 : decide ((a : Int) > 0) = true := decide_eq_true (by omega)
        have d2 : decide ((0 : Int) < (a : Int)) = true := decide_eq_true (by omega)
        have d3 : decide (0 < a) = true := decide_eq_true (by omega)
        clear hA
        rcases hcd with c40 | ⟨c40, c42⟩
        · rcases hfine with hk2 | hk2
          · as_aux_lemma =>
            have q1 : ((m : Int) == (n : Int)) = false := by simp; omega
            have q2 : (m == n) = false := by simp; omega
            obtain ⟨l2, hl2⟩ : ∃ l2, seeL (Y m) = l2 := ⟨_, rfl⟩
            obtain ⟨o2, ho2⟩ : ∃ o2, seeO (Y m) = o2 := ⟨_, rfl⟩
            have HM := mhid (And.intro hk2.1 (And.intro hk2.2 (And.intro hl2 ho2)))
            clear hk2 hl2 ho2
            have hmn : m ≤ n := by omega
            have hm9 : (0 : Int) ≤ (m : Int) := by omega
            try clear hfine
            go_enter Tryz.func3, Tryz.ntmps3
            go_wp2_with (first
              | (go_at_call 7; (with_reducible refine (HP.out).mono ?_); rintro e w1 ⟨tp, tm, tc, ev, rfl, hev, hb⟩; have H1 := mhid (And.intro (hev.below ((Below.refl _ w1).alloc (Nat.le_refl _) (.cells #[.slice tp tm tc] 24))) (hb.trans (((Below.refl _ w1).alloc (Nat.le_refl _) (.cells #[.slice tp tm tc] 24)).mono hb.size))); clear hev hb)
              | (go_at_call 8; (with_reducible refine (HK.out _ _ H1.out.1).mono ?_); rintro e w2 ⟨rfl, hb⟩; have H2 := mhid (H1.out.2.trans (hb.mono H1.out.2.size)); clear hb H1)
              | (go_at_call 9; (with_reducible refine (HS.out _ H2.out).mono ?_); rintro e w3 ⟨b, oo, cc, rfl, hT, hb, hcap⟩; have hcm : (m : Int) ≤ (cc : Int) := (by omega); have hca : (a1 : Int) ≤ (cc : Int) := (by omega); have H3 := mhid (And.intro hT (H2.out.trans (hb.mono H2.out.size))); clear hb hT H2)
              | (go_at_call 10; (with_reducible refine (HB.out _ _ n _ (Nat.le_refl _) H3.out.2 H3.out.1).mono ?_); rintro e w4 ⟨tp4, tm4, tc4, ev4, rfl, hev, hb⟩; have H4 := mhid (And.intro (H3.out.1.below hb) (And.intro hev (H3.out.2.trans (hb.mono H3.out.2.size)))); clear hev hb H3)
              | (go_at_call 8; (with_reducible refine (HV.out _ _ n k c l o HN.out.1 HN.out.2.1 HN.out.2.2.1 HN.out.2.2.2 H4.out.2.1).mono ?_); rintro e w5 ⟨rfl, hb⟩; have HX := mhid (And.intro (((H4.out.1.below hb)).below ((Below.refl _ w5).alloc (Nat.le_refl _) (.cells #[.int .i64 k, .int .i64 c, .int .i64 l, .int .i64 o, .int .u64 0, .int .i64 0, .int .u64 0] 33))) ((H4.out.2.2.trans (hb.mono H4.out.2.2.size)).trans (((Below.refl _ w5).alloc (Nat.le_refl _) (.cells #[.int .i64 k, .int .i64 c, .int .i64 l, .int .i64 o, .int .u64 0, .int .i64 0, .int .u64 0] 33)).mono (H4.out.2.2.trans (hb.mono H4.out.2.2.size)).size))); clear hb H4; have HE := mhid (World.alloc_heap_new w5 (.cells #[.int .i64 k, .int .i64 c, .int .i64 l, .int .i64 o, .int .u64 0, .int .i64 0, .int .u64 0] 33 (0, 0)))))
            go_loopw [10, 48] (fun v10 v48 wr => ∃ (i : Nat) (z : Int), v48 = .int .i64 (i : Int) ∧ v10 = .int .i64 z ∧ i ≤ n ∧ Hid ((i ≤ a → z = -1) ∧ (a < i → z = (a : Int))) ∧ Hid (TX wr (some ⟨b, oo, none⟩) n X ∧ Below w.heap.size w wr ∧ wr.heap[w5.heap.size]? = some (.cells #[.int .i64 k, .int .i64 c, .int .i64 l, .int .i64 o, .int .u64 0, .int .i64 0, .int .u64 0] 33 (0, 0)))) (fun _ v48 _ => n - (intOf v48).toNat)
            case atStart => exact ⟨0, -1, rfl, rfl, Nat.zero_le _, mhid ⟨fun _ => rfl, fun h => absurd h (by omega)⟩, mhid ⟨HX.out.1, HX.out.2, HE.out⟩⟩
            case round =>
              obtain ⟨i, z, rfl, rfl, hi, hz, hw⟩ := hrel
              clear HX HE
              by_cases hlt : i < n
              · obtain ⟨t0, t1, t2, t3, t4⟩ := hw.out.1.cells hlt
                obtain ⟨y0, y1, y2, y3, y4, y5, y6⟩ := box7z hw.out.2.2
                have dl : decide ((i : Int) < (n : Int)) = true := decide_eq_true (by omega)
                have dl2 : decide (i < n) = true := decide_eq_true hlt
                have i0 : (0 : Int) ≤ (i : Int) := by omega
                have i1 : (i : Int) < (n : Int) := by omega
                have hm := meas0 hlt
                have hw2 : ∀ z, Hid (TX (wr.alloc z) (some ⟨b, oo, none⟩) n X ∧ Below w.heap.size w (wr.alloc z) ∧ (wr.alloc z).heap[w5.heap.size]? = some (.cells #[.int .i64 k, .int .i64 c, .int .i64 l, .int .i64 o, .int .u64 0, .int .i64 0, .int .u64 0] 33 (0, 0))) := fun z => ⟨hw.out.1.below ((Below.refl _ _).alloc (Nat.le_refl _) _), hw.out.2.1.trans (((Below.refl _ _).alloc (Nat.le_refl _) _).mono hw.out.2.1.size), (Below.heap_alloc wr z _ (Array.getElem?_eq_some_iff.1 hw.out.2.2).1).trans hw.out.2.2⟩
                have hp3 := HPL.out i hlt
                by_cases hia : i = a
                · have z1 : ((X i).line == l) = true := by have := (hp3.2 hia).1; simp [this]
                  have z2 : ((X i).col == o) = true := by have := (hp3.2 hia).2; simp [this]
                  have hz2 : Hid ((i + 1 ≤ a → (i : Int) = -1) ∧ (a < i + 1 → (i : Int) = (a : Int))) := ⟨fun h => absurd h (by omega), fun _ => by rw [hia]⟩
                  clear hp3 hia
                  go_wp2
                  exact ⟨⟨i + 1, (i : Int), rfl, rfl, hlt, hz2, hw2 _⟩, hm⟩
                · have hz2 : Hid ((i + 1 ≤ a → z = -1) ∧ (a < i + 1 → z = (a : Int))) := ⟨fun h => hz.out.1 (by omega), fun h => hz.out.2 (by omega)⟩
                  by_cases hq3 : (X i).line = l
                  · have z1 : ((X i).line == l) = true := by simp [hq3]
                    have z2 : ((X i).col == o) = false := by have : ¬ (X i).col = o := fun h => hia (hp3.1 ⟨hq3, h⟩); simpa using this
                    clear hp3 hia hq3
                    go_wp2
                    exact ⟨⟨i + 1, z, rfl, rfl, hlt, hz2, hw2 _⟩, hm⟩
                  · have z1 : ((X i).line == l) = false := by simpa using hq3
                    clear hp3 hia hq3
                    go_wp2
                    exact ⟨⟨i + 1, z, rfl, rfl, hlt, hz2, hw2 _⟩, hm⟩
              · have hza := hz.out.2 (by omega)
                subst hza
                have dl : decide ((i : Int) < (n : Int)) = false := decide_eq_false (by omega)
                have dl2 : decide (i < n) = false := decide_eq_false hlt
                have HL := mhid (And.intro hw.out.1 hw.out.2.1)
                have HE := mhid hw.out.2.2
                clear hz hw
                go_upto_region 21 with (first
                  | (go_at_call 10; (with_reducible refine (HB.out _ _ a1 _ ha1n HL.out.2 HL.out.1).mono ?_); rintro e w6 ⟨tp6, tm6, tc6, ev6, rfl, hev, hb⟩; have H6 := mhid (And.intro (HL.out.1.below hb) (And.intro hev (HL.out.2.trans (hb.mono HL.out.2.size)))); have HE2 := mhid ((hb.block _ (Array.getElem?_eq_some_iff.1 HE.out).1).trans HE.out); clear HE; have HE := HE2; clear HE2; clear hev hb HL))
                obtain ⟨⟨x0, x1, x2, x3, x4, x5, x6⟩, -⟩ := cells7 HE.out
                go_region_with (go_at_call 8; (with_reducible refine (HV.out _ _ a1 k c l o HN1.out.1 HN1.out.2.1 HN1.out.2.2.1 HN1.out.2.2.2 ?_).mono ?_); (first | with_reducible exact H6.out.2.1 | exact H6.out.2.1.below (Below.refl _ _).drew); rintro e w7 ⟨rfl, hb⟩; have H7 := mhid (And.intro ((H6.out.1.below (Below.refl _ _).drew).below hb) ((Below.drew H6.out.2.2).trans (hb.mono H6.out.2.2.size))); obtain ⟨⟨g0, g1, g2, g3, g4, g5, g6⟩, -⟩ := cells7 ((hb.block _ (Array.getElem?_eq_some_iff.1 HE.out).1).trans HE.out); clear hb)
                all_goals
                  clear H6 HE x0 x1 x2 x3 x4 x5 x6 g0 g1 g2 g3 g4 g5 g6
                  go_wp2_with (first
                    | (go_at_call 10; (with_reducible refine (HB.out _ _ m _ hmn H7.out.2 H7.out.1).mono ?_); rintro e w8 ⟨tp8, tm8, tc8, ev8, rfl, hev, hb⟩; have H8 := mhid (And.intro (H7.out.1.below hb) (And.intro hev (H7.out.2.trans (hb.mono H7.out.2.size)))); clear hev hb H7)
                    | (go_at_call 8; (with_reducible refine (HV.out _ _ m 0 0 l2 o2 HM.out.1 HM.out.2.1 HM.out.2.2.1 HM.out.2.2.2 H8.out.2.1).mono ?_); rintro e w9 ⟨rfl, hb⟩; have H9 := mhid (And.intro (((H8.out.1.below hb)).below ((Below.refl _ w9).alloc (Nat.le_refl _) (.cells #[.int .i64 0, .int .i64 0, .int .i64 l2, .int .i64 o2, .int .u64 0, .int .i64 0, .int .u64 0] 33))) ((H8.out.2.2.trans (hb.mono H8.out.2.2.size)).trans (((Below.refl _ w9).alloc (Nat.le_refl _) (.cells #[.int .i64 0, .int .i64 0, .int .i64 l2, .int .i64 o2, .int .u64 0, .int .i64 0, .int .u64 0] 33)).mono (H8.out.2.2.trans (hb.mono H8.out.2.2.size)).size))); clear hb H8))
                  go_quiet (fail)
                  go_wp2
                  go_ret
                  exact ⟨rfl, below_drewN H9.out.2 _⟩

          · as_aux_lemma =>
            have q1 : ((m : Int) == (n : Int)) = false := by simp; omega
            have q2 : (m == n) = false := by simp; omega
            obtain ⟨hk21, hk22, hm0, hl2, ho2⟩ := hk2
            obtain ⟨j, hj⟩ : ∃ j, m = j + 1 := ⟨m - 1, by omega⟩
            have hjn : j < n := by omega
            rw [show m - 1 = j by omega] at hl2 ho2
            have HM := mhid (And.intro hk21 (And.intro hk22 (And.intro hl2 ho2)))
            have hjm : IntKind.i64.wrap ((m : Int) - 1) = (j : Int) := by rw [IntKind.wrap_i64]; omega
            have hjw : wrap64 ((m : Int) - 1) = (j : Int) := by rw [w64_in _ (by omega)]; omega
            have hj3 : (m : Int) - 1 = (j : Int) := by omega
            have j1 : (0 : Int) ≤ (j : Int) := by omega
            have j2 : (j : Int) < (n : Int) := by omega
            have m1 : decide ((m : Int) > 0) = true := decide_eq_true (by omega)
            have m2 : decide ((0 : Int) < (m : Int)) = true := decide_eq_true (by omega)
            have m3 : decide (0 < m) = true := decide_eq_true hm0
            obtain ⟨tx, htx⟩ : ∃ tx, (X j).text.length = tx := ⟨_, rfl⟩
            have z1 : (⟨(X j).text.toArray⟩ : ByteArray).size = tx := by rw [← htx]; simp [ByteArray.size]
            have zl : ((X j).line == (X j).line) = true := by simp
            rw [htx] at HM
            have zo : (wrap64 ((X j).col + (tx : Int)) == wrap64 ((X j).col + (tx : Int))) = true := by simp
            clear hl2 ho2 hk21 hk22 hj htx
            have hmn : m ≤ n := by omega
            have hm9 : (0 : Int) ≤ (m : Int) := by omega
            try clear hfine
            go_enter Tryz.func3, Tryz.ntmps3
            go_wp2_with (first
              | (go_at_call 7; (with_reducible refine (HP.out).mono ?_); rintro e w1 ⟨tp, tm, tc, ev, rfl, hev, hb⟩; have H1 := mhid (And.intro (hev.below ((Below.refl _ w1).alloc (Nat.le_refl _) (.cells #[.slice tp tm tc] 24))) (hb.trans (((Below.refl _ w1).alloc (Nat.le_refl _) (.cells #[.slice tp tm tc] 24)).mono hb.size))); clear hev hb)
              | (go_at_call 8; (with_reducible refine (HK.out _ _ H1.out.1).mono ?_); rintro e w2 ⟨rfl, hb⟩; have H2 := mhid (H1.out.2.trans (hb.mono H1.out.2.size)); clear hb H1)
              | (go_at_call 9; (with_reducible refine (HS.out _ H2.out).mono ?_); rintro e w3 ⟨b, oo, cc, rfl, hT, hb, hcap⟩; have hcm : (m : Int) ≤ (cc : Int) := (by omega); have hca : (a1 : Int) ≤ (cc : Int) := (by omega); have H3 := mhid (And.intro hT (H2.out.trans (hb.mono H2.out.size))); clear hb hT H2)
              | (go_at_call 10; (with_reducible refine (HB.out _ _ n _ (Nat.le_refl _) H3.out.2 H3.out.1).mono ?_); rintro e w4 ⟨tp4, tm4, tc4, ev4, rfl, hev, hb⟩; have H4 := mhid (And.intro (H3.out.1.below hb) (And.intro hev (H3.out.2.trans (hb.mono H3.out.2.size)))); clear hev hb H3)
              | (go_at_call 8; (with_reducible refine (HV.out _ _ n k c l o HN.out.1 HN.out.2.1 HN.out.2.2.1 HN.out.2.2.2 H4.out.2.1).mono ?_); rintro e w5 ⟨rfl, hb⟩; have HX := mhid (And.intro (((H4.out.1.below hb)).below ((Below.refl _ w5).alloc (Nat.le_refl _) (.cells #[.int .i64 k, .int .i64 c, .int .i64 l, .int .i64 o, .int .u64 0, .int .i64 0, .int .u64 0] 33))) ((H4.out.2.2.trans (hb.mono H4.out.2.2.size)).trans (((Below.refl _ w5).alloc (Nat.le_refl _) (.cells #[.int .i64 k, .int .i64 c, .int .i64 l, .int .i64 o, .int .u64 0, .int .i64 0, .int .u64 0] 33)).mono (H4.out.2.2.trans (hb.mono H4.out.2.2.size)).size))); clear hb H4; have HE := mhid (World.alloc_heap_new w5 (.cells #[.int .i64 k, .int .i64 c, .int .i64 l, .int .i64 o, .int .u64 0, .int .i64 0, .int .u64 0] 33 (0, 0)))))
            go_loopw [10, 48] (fun v10 v48 wr => ∃ (i : Nat) (z : Int), v48 = .int .i64 (i : Int) ∧ v10 = .int .i64 z ∧ i ≤ n ∧ Hid ((i ≤ a → z = -1) ∧ (a < i → z = (a : Int))) ∧ Hid (TX wr (some ⟨b, oo, none⟩) n X ∧ Below w.heap.size w wr ∧ wr.heap[w5.heap.size]? = some (.cells #[.int .i64 k, .int .i64 c, .int .i64 l, .int .i64 o, .int .u64 0, .int .i64 0, .int .u64 0] 33 (0, 0)))) (fun _ v48 _ => n - (intOf v48).toNat)
            case atStart => exact ⟨0, -1, rfl, rfl, Nat.zero_le _, mhid ⟨fun _ => rfl, fun h => absurd h (by omega)⟩, mhid ⟨HX.out.1, HX.out.2, HE.out⟩⟩
            case round =>
              obtain ⟨i, z, rfl, rfl, hi, hz, hw⟩ := hrel
              clear HX HE
              by_cases hlt : i < n
              · obtain ⟨t0, t1, t2, t3, t4⟩ := hw.out.1.cells hlt
                obtain ⟨y0, y1, y2, y3, y4, y5, y6⟩ := box7z hw.out.2.2
                have dl : decide ((i : Int) < (n : Int)) = true := decide_eq_true (by omega)
                have dl2 : decide (i < n) = true := decide_eq_true hlt
                have i0 : (0 : Int) ≤ (i : Int) := by omega
                have i1 : (i : Int) < (n : Int) := by omega
                have hm := meas0 hlt
                have hw2 : ∀ z, Hid (TX (wr.alloc z) (some ⟨b, oo, none⟩) n X ∧ Below w.heap.size w (wr.alloc z) ∧ (wr.alloc z).heap[w5.heap.size]? = some (.cells #[.int .i64 k, .int .i64 c, .int .i64 l, .int .i64 o, .int .u64 0, .int .i64 0, .int .u64 0] 33 (0, 0))) := fun z => ⟨hw.out.1.below ((Below.refl _ _).alloc (Nat.le_refl _) _), hw.out.2.1.trans (((Below.refl _ _).alloc (Nat.le_refl _) _).mono hw.out.2.1.size), (Below.heap_alloc wr z _ (Array.getElem?_eq_some_iff.1 hw.out.2.2).1).trans hw.out.2.2⟩
                have hp3 := HPL.out i hlt
                by_cases hia : i = a
                · have z1 : ((X i).line == l) = true := by have := (hp3.2 hia).1; simp [this]
                  have z2 : ((X i).col == o) = true := by have := (hp3.2 hia).2; simp [this]
                  have hz2 : Hid ((i + 1 ≤ a → (i : Int) = -1) ∧ (a < i + 1 → (i : Int) = (a : Int))) := ⟨fun h => absurd h (by omega), fun _ => by rw [hia]⟩
                  clear hp3 hia
                  go_wp2
                  exact ⟨⟨i + 1, (i : Int), rfl, rfl, hlt, hz2, hw2 _⟩, hm⟩
                · have hz2 : Hid ((i + 1 ≤ a → z = -1) ∧ (a < i + 1 → z = (a : Int))) := ⟨fun h => hz.out.1 (by omega), fun h => hz.out.2 (by omega)⟩
                  by_cases hq3 : (X i).line = l
                  · have z1 : ((X i).line == l) = true := by simp [hq3]
                    have z2 : ((X i).col == o) = false := by have : ¬ (X i).col = o := fun h => hia (hp3.1 ⟨hq3, h⟩); simpa using this
                    clear hp3 hia hq3
                    go_wp2
                    exact ⟨⟨i + 1, z, rfl, rfl, hlt, hz2, hw2 _⟩, hm⟩
                  · have z1 : ((X i).line == l) = false := by simpa using hq3
                    clear hp3 hia hq3
                    go_wp2
                    exact ⟨⟨i + 1, z, rfl, rfl, hlt, hz2, hw2 _⟩, hm⟩
              · have hza := hz.out.2 (by omega)
                subst hza
                have dl : decide ((i : Int) < (n : Int)) = false := decide_eq_false (by omega)
                have dl2 : decide (i < n) = false := decide_eq_false hlt
                have HL := mhid (And.intro hw.out.1 hw.out.2.1)
                have HE := mhid hw.out.2.2
                clear hz hw
                go_upto_region 21 with (first
                  | (go_at_call 10; (with_reducible refine (HB.out _ _ a1 _ ha1n HL.out.2 HL.out.1).mono ?_); rintro e w6 ⟨tp6, tm6, tc6, ev6, rfl, hev, hb⟩; have H6 := mhid (And.intro (HL.out.1.below hb) (And.intro hev (HL.out.2.trans (hb.mono HL.out.2.size)))); have HE2 := mhid ((hb.block _ (Array.getElem?_eq_some_iff.1 HE.out).1).trans HE.out); clear HE; have HE := HE2; clear HE2; clear hev hb HL))
                obtain ⟨⟨x0, x1, x2, x3, x4, x5, x6⟩, -⟩ := cells7 HE.out
                go_region_with (go_at_call 8; (with_reducible refine (HV.out _ _ a1 k c l o HN1.out.1 HN1.out.2.1 HN1.out.2.2.1 HN1.out.2.2.2 ?_).mono ?_); (first | with_reducible exact H6.out.2.1 | exact H6.out.2.1.below (Below.refl _ _).drew); rintro e w7 ⟨rfl, hb⟩; have H7 := mhid (And.intro ((H6.out.1.below (Below.refl _ _).drew).below hb) ((Below.drew H6.out.2.2).trans (hb.mono H6.out.2.2.size))); obtain ⟨⟨g0, g1, g2, g3, g4, g5, g6⟩, -⟩ := cells7 ((hb.block _ (Array.getElem?_eq_some_iff.1 HE.out).1).trans HE.out); clear hb)
                all_goals
                  clear H6 HE x0 x1 x2 x3 x4 x5 x6 g0 g1 g2 g3 g4 g5 g6
                  go_wp2_with (first
                    | (go_at_call 10; (with_reducible refine (HB.out _ _ m _ hmn H7.out.2 H7.out.1).mono ?_); rintro e w8 ⟨tp8, tm8, tc8, ev8, rfl, hev, hb⟩; have H8 := mhid (And.intro (H7.out.1.below hb) (And.intro hev (H7.out.2.trans (hb.mono H7.out.2.size)))); clear hev hb H7)
                    | (go_at_call 8; (with_reducible refine (HV.out _ _ m 2 41 (X j).line (wrap64 ((X j).col + (tx : Int))) HM.out.1 HM.out.2.1 HM.out.2.2.1 HM.out.2.2.2 H8.out.2.1).mono ?_); rintro e w9 ⟨rfl, hb⟩; have H9 := mhid (And.intro (((H8.out.1.below hb)).below ((Below.refl _ w9).alloc (Nat.le_refl _) (.cells #[.int .i64 2, .int .i64 41, .int .i64 (X j).line, .int .i64 (wrap64 ((X j).col + (tx : Int))), .int .u64 0, .int .i64 0, .int .u64 0] 33))) ((H8.out.2.2.trans (hb.mono H8.out.2.2.size)).trans (((Below.refl _ w9).alloc (Nat.le_refl _) (.cells #[.int .i64 2, .int .i64 41, .int .i64 (X j).line, .int .i64 (wrap64 ((X j).col + (tx : Int))), .int .u64 0, .int .i64 0, .int .u64 0] 33)).mono (H8.out.2.2.trans (hb.mono H8.out.2.2.size)).size))); clear hb H8))
                  obtain ⟨t0, t1, t2, t3, t4⟩ := H9.out.1.cells hjn
                  go_quiet (fail)
                  go_wp2
                  go_ret
                  exact ⟨rfl, below_drewN H9.out.2 _⟩

        · rcases hfine with hk2 | hk2
          · as_aux_lemma =>
            have q1 : ((m : Int) == (n : Int)) = false := by simp; omega
            have q2 : (m == n) = false := by simp; omega
            obtain ⟨l2, hl2⟩ : ∃ l2, seeL (Y m) = l2 := ⟨_, rfl⟩
            obtain ⟨o2, ho2⟩ : ∃ o2, seeO (Y m) = o2 := ⟨_, rfl⟩
            have HM := mhid (And.intro hk2.1 (And.intro hk2.2 (And.intro hl2 ho2)))
            clear hk2 hl2 ho2
            have hmn : m ≤ n := by omega
            have hm9 : (0 : Int) ≤ (m : Int) := by omega
            try clear hfine
            go_enter Tryz.func3, Tryz.ntmps3
            go_wp2_with (first
              | (go_at_call 7; (with_reducible refine (HP.out).mono ?_); rintro e w1 ⟨tp, tm, tc, ev, rfl, hev, hb⟩; have H1 := mhid (And.intro (hev.below ((Below.refl _ w1).alloc (Nat.le_refl _) (.cells #[.slice tp tm tc] 24))) (hb.trans (((Below.refl _ w1).alloc (Nat.le_refl _) (.cells #[.slice tp tm tc] 24)).mono hb.size))); clear hev hb)
              | (go_at_call 8; (with_reducible refine (HK.out _ _ H1.out.1).mono ?_); rintro e w2 ⟨rfl, hb⟩; have H2 := mhid (H1.out.2.trans (hb.mono H1.out.2.size)); clear hb H1)
              | (go_at_call 9; (with_reducible refine (HS.out _ H2.out).mono ?_); rintro e w3 ⟨b, oo, cc, rfl, hT, hb, hcap⟩; have hcm : (m : Int) ≤ (cc : Int) := (by omega); have hca : (a1 : Int) ≤ (cc : Int) := (by omega); have H3 := mhid (And.intro hT (H2.out.trans (hb.mono H2.out.size))); clear hb hT H2)
              | (go_at_call 10; (with_reducible refine (HB.out _ _ n _ (Nat.le_refl _) H3.out.2 H3.out.1).mono ?_); rintro e w4 ⟨tp4, tm4, tc4, ev4, rfl, hev, hb⟩; have H4 := mhid (And.intro (H3.out.1.below hb) (And.intro hev (H3.out.2.trans (hb.mono H3.out.2.size)))); clear hev hb H3)
              | (go_at_call 8; (with_reducible refine (HV.out _ _ n k c l o HN.out.1 HN.out.2.1 HN.out.2.2.1 HN.out.2.2.2 H4.out.2.1).mono ?_); rintro e w5 ⟨rfl, hb⟩; have HX := mhid (And.intro (((H4.out.1.below hb)).below ((Below.refl _ w5).alloc (Nat.le_refl _) (.cells #[.int .i64 k, .int .i64 c, .int .i64 l, .int .i64 o, .int .u64 0, .int .i64 0, .int .u64 0] 33))) ((H4.out.2.2.trans (hb.mono H4.out.2.2.size)).trans (((Below.refl _ w5).alloc (Nat.le_refl _) (.cells #[.int .i64 k, .int .i64 c, .int .i64 l, .int .i64 o, .int .u64 0, .int .i64 0, .int .u64 0] 33)).mono (H4.out.2.2.trans (hb.mono H4.out.2.2.size)).size))); clear hb H4; have HE := mhid (World.alloc_heap_new w5 (.cells #[.int .i64 k, .int .i64 c, .int .i64 l, .int .i64 o, .int .u64 0, .int .i64 0, .int .u64 0] 33 (0, 0)))))
            go_loopw [10, 48] (fun v10 v48 wr => ∃ (i : Nat) (z : Int), v48 = .int .i64 (i : Int) ∧ v10 = .int .i64 z ∧ i ≤ n ∧ Hid ((i ≤ a → z = -1) ∧ (a < i → z = (a : Int))) ∧ Hid (TX wr (some ⟨b, oo, none⟩) n X ∧ Below w.heap.size w wr ∧ wr.heap[w5.heap.size]? = some (.cells #[.int .i64 k, .int .i64 c, .int .i64 l, .int .i64 o, .int .u64 0, .int .i64 0, .int .u64 0] 33 (0, 0)))) (fun _ v48 _ => n - (intOf v48).toNat)
            case atStart => exact ⟨0, -1, rfl, rfl, Nat.zero_le _, mhid ⟨fun _ => rfl, fun h => absurd h (by omega)⟩, mhid ⟨HX.out.1, HX.out.2, HE.out⟩⟩
            case round =>
              obtain ⟨i, z, rfl, rfl, hi, hz, hw⟩ := hrel
              clear HX HE
              by_cases hlt : i < n
              · obtain ⟨t0, t1, t2, t3, t4⟩ := hw.out.1.cells hlt
                obtain ⟨y0, y1, y2, y3, y4, y5, y6⟩ := box7z hw.out.2.2
                have dl : decide ((i : Int) < (n : Int)) = true := decide_eq_true (by omega)
                have dl2 : decide (i < n) = true := decide_eq_true hlt
                have i0 : (0 : Int) ≤ (i : Int) := by omega
                have i1 : (i : Int) < (n : Int) := by omega
                have hm := meas0 hlt
                have hw2 : ∀ z, Hid (TX (wr.alloc z) (some ⟨b, oo, none⟩) n X ∧ Below w.heap.size w (wr.alloc z) ∧ (wr.alloc z).heap[w5.heap.size]? = some (.cells #[.int .i64 k, .int .i64 c, .int .i64 l, .int .i64 o, .int .u64 0, .int .i64 0, .int .u64 0] 33 (0, 0))) := fun z => ⟨hw.out.1.below ((Below.refl _ _).alloc (Nat.le_refl _) _), hw.out.2.1.trans (((Below.refl _ _).alloc (Nat.le_refl _) _).mono hw.out.2.1.size), (Below.heap_alloc wr z _ (Array.getElem?_eq_some_iff.1 hw.out.2.2).1).trans hw.out.2.2⟩
                have hp3 := HPL.out i hlt
                by_cases hia : i = a
                · have z1 : ((X i).line == l) = true := by have := (hp3.2 hia).1; simp [this]
                  have z2 : ((X i).col == o) = true := by have := (hp3.2 hia).2; simp [this]
                  have hz2 : Hid ((i + 1 ≤ a → (i : Int) = -1) ∧ (a < i + 1 → (i : Int) = (a : Int))) := ⟨fun h => absurd h (by omega), fun _ => by rw [hia]⟩
                  clear hp3 hia
                  go_wp2
                  exact ⟨⟨i + 1, (i : Int), rfl, rfl, hlt, hz2, hw2 _⟩, hm⟩
                · have hz2 : Hid ((i + 1 ≤ a → z = -1) ∧ (a < i + 1 → z = (a : Int))) := ⟨fun h => hz.out.1 (by omega), fun h => hz.out.2 (by omega)⟩
                  by_cases hq3 : (X i).line = l
                  · have z1 : ((X i).line == l) = true := by simp [hq3]
                    have z2 : ((X i).col == o) = false := by have : ¬ (X i).col = o := fun h => hia (hp3.1 ⟨hq3, h⟩); simpa using this
                    clear hp3 hia hq3
                    go_wp2
                    exact ⟨⟨i + 1, z, rfl, rfl, hlt, hz2, hw2 _⟩, hm⟩
                  · have z1 : ((X i).line == l) = false := by simpa using hq3
                    clear hp3 hia hq3
                    go_wp2
                    exact ⟨⟨i + 1, z, rfl, rfl, hlt, hz2, hw2 _⟩, hm⟩
              · have hza := hz.out.2 (by omega)
                subst hza
                have dl : decide ((i : Int) < (n : Int)) = false := decide_eq_false (by omega)
                have dl2 : decide (i < n) = false := decide_eq_false hlt
                have HL := mhid (And.intro hw.out.1 hw.out.2.1)
                have HE := mhid hw.out.2.2
                clear hz hw
                go_upto_region 21 with (first
                  | (go_at_call 10; (with_reducible refine (HB.out _ _ a1 _ ha1n HL.out.2 HL.out.1).mono ?_); rintro e w6 ⟨tp6, tm6, tc6, ev6, rfl, hev, hb⟩; have H6 := mhid (And.intro (HL.out.1.below hb) (And.intro hev (HL.out.2.trans (hb.mono HL.out.2.size)))); have HE2 := mhid ((hb.block _ (Array.getElem?_eq_some_iff.1 HE.out).1).trans HE.out); clear HE; have HE := HE2; clear HE2; clear hev hb HL))
                obtain ⟨⟨x0, x1, x2, x3, x4, x5, x6⟩, -⟩ := cells7 HE.out
                go_region_with (go_at_call 8; (with_reducible refine (HV.out _ _ a1 k c l o HN1.out.1 HN1.out.2.1 HN1.out.2.2.1 HN1.out.2.2.2 ?_).mono ?_); (first | with_reducible exact H6.out.2.1 | exact H6.out.2.1.below (Below.refl _ _).drew); rintro e w7 ⟨rfl, hb⟩; have H7 := mhid (And.intro ((H6.out.1.below (Below.refl _ _).drew).below hb) ((Below.drew H6.out.2.2).trans (hb.mono H6.out.2.2.size))); obtain ⟨⟨g0, g1, g2, g3, g4, g5, g6⟩, -⟩ := cells7 ((hb.block _ (Array.getElem?_eq_some_iff.1 HE.out).1).trans HE.out); clear hb)
                all_goals
                  clear H6 HE x0 x1 x2 x3 x4 x5 x6 g0 g1 g2 g3 g4 g5 g6
                  go_wp2_with (first
                    | (go_at_call 10; (with_reducible refine (HB.out _ _ m _ hmn H7.out.2 H7.out.1).mono ?_); rintro e w8 ⟨tp8, tm8, tc8, ev8, rfl, hev, hb⟩; have H8 := mhid (And.intro (H7.out.1.below hb) (And.intro hev (H7.out.2.trans (hb.mono H7.out.2.size)))); clear hev hb H7)
                    | (go_at_call 8; (with_reducible refine (HV.out _ _ m 0 0 l2 o2 HM.out.1 HM.out.2.1 HM.out.2.2.1 HM.out.2.2.2 H8.out.2.1).mono ?_); rintro e w9 ⟨rfl, hb⟩; have H9 := mhid (And.intro (((H8.out.1.below hb)).below ((Below.refl _ w9).alloc (Nat.le_refl _) (.cells #[.int .i64 0, .int .i64 0, .int .i64 l2, .int .i64 o2, .int .u64 0, .int .i64 0, .int .u64 0] 33))) ((H8.out.2.2.trans (hb.mono H8.out.2.2.size)).trans (((Below.refl _ w9).alloc (Nat.le_refl _) (.cells #[.int .i64 0, .int .i64 0, .int .i64 l2, .int .i64 o2, .int .u64 0, .int .i64 0, .int .u64 0] 33)).mono (H8.out.2.2.trans (hb.mono H8.out.2.2.size)).size))); clear hb H8))
                  go_quiet (fail)
                  go_wp2
                  go_ret
                  exact ⟨rfl, below_drewN H9.out.2 _⟩

          · as_aux_lemma =>
            have q1 : ((m : Int) == (n : Int)) = false := by simp; omega
            have q2 : (m == n) = false := by simp; omega
            obtain ⟨hk21, hk22, hm0, hl2, ho2⟩ := hk2
            obtain ⟨j, hj⟩ : ∃ j, m = j + 1 := ⟨m - 1, by omega⟩
            have hjn : j < n := by omega
            rw [show m - 1 = j by omega] at hl2 ho2
            have HM := mhid (And.intro hk21 (And.intro hk22 (And.intro hl2 ho2)))
            have hjm : IntKind.i64.wrap ((m : Int) - 1) = (j : Int) := by rw [IntKind.wrap_i64]; omega
            have hjw : wrap64 ((m : Int) - 1) = (j : Int) := by rw [w64_in _ (by omega)]; omega
            have hj3 : (m : Int) - 1 = (j : Int) := by omega
            have j1 : (0 : Int) ≤ (j : Int) := by omega
            have j2 : (j : Int) < (n : Int) := by omega
            have m1 : decide ((m : Int) > 0) = true := decide_eq_true (by omega)
            have m2 : decide ((0 : Int) < (m : Int)) = true := decide_eq_true (by omega)
            have m3 : decide (0 < m) = true := decide_eq_true hm0
            obtain ⟨tx, htx⟩ : ∃ tx, (X j).text.length = tx := ⟨_, rfl⟩
            have z1 : (⟨(X j).text.toArray⟩ : ByteArray).size = tx := by rw [← htx]; simp [ByteArray.size]
            have zl : ((X j).line == (X j).line) = true := by simp
            rw [htx] at HM
            have zo : (wrap64 ((X j).col + (tx : Int)) == wrap64 ((X j).col + (tx : Int))) = true := by simp
            clear hl2 ho2 hk21 hk22 hj htx
            have hmn : m ≤ n := by omega
            have hm9 : (0 : Int) ≤ (m : Int) := by omega
            try clear hfine
            go_enter Tryz.func3, Tryz.ntmps3
            go_wp2_with (first
              | (go_at_call 7; (with_reducible refine (HP.out).mono ?_); rintro e w1 ⟨tp, tm, tc, ev, rfl, hev, hb⟩; have H1 := mhid (And.intro (hev.below ((Below.refl _ w1).alloc (Nat.le_refl _) (.cells #[.slice tp tm tc] 24))) (hb.trans (((Below.refl _ w1).alloc (Nat.le_refl _) (.cells #[.slice tp tm tc] 24)).mono hb.size))); clear hev hb)
              | (go_at_call 8; (with_reducible refine (HK.out _ _ H1.out.1).mono ?_); rintro e w2 ⟨rfl, hb⟩; have H2 := mhid (H1.out.2.trans (hb.mono H1.out.2.size)); clear hb H1)
              | (go_at_call 9; (with_reducible refine (HS.out _ H2.out).mono ?_); rintro e w3 ⟨b, oo, cc, rfl, hT, hb, hcap⟩; have hcm : (m : Int) ≤ (cc : Int) := (by omega); have hca : (a1 : Int) ≤ (cc : Int) := (by omega); have H3 := mhid (And.intro hT (H2.out.trans (hb.mono H2.out.size))); clear hb hT H2)
              | (go_at_call 10; (with_reducible refine (HB.out _ _ n _ (Nat.le_refl _) H3.out.2 H3.out.1).mono ?_); rintro e w4 ⟨tp4, tm4, tc4, ev4, rfl, hev, hb⟩; have H4 := mhid (And.intro (H3.out.1.below hb) (And.intro hev (H3.out.2.trans (hb.mono H3.out.2.size)))); clear hev hb H3)
              | (go_at_call 8; (with_reducible refine (HV.out _ _ n k c l o HN.out.1 HN.out.2.1 HN.out.2.2.1 HN.out.2.2.2 H4.out.2.1).mono ?_); rintro e w5 ⟨rfl, hb⟩; have HX := mhid (And.intro (((H4.out.1.below hb)).below ((Below.refl _ w5).alloc (Nat.le_refl _) (.cells #[.int .i64 k, .int .i64 c, .int .i64 l, .int .i64 o, .int .u64 0, .int .i64 0, .int .u64 0] 33))) ((H4.out.2.2.trans (hb.mono H4.out.2.2.size)).trans (((Below.refl _ w5).alloc (Nat.le_refl _) (.cells #[.int .i64 k, .int .i64 c, .int .i64 l, .int .i64 o, .int .u64 0, .int .i64 0, .int .u64 0] 33)).mono (H4.out.2.2.trans (hb.mono H4.out.2.2.size)).size))); clear hb H4; have HE := mhid (World.alloc_heap_new w5 (.cells #[.int .i64 k, .int .i64 c, .int .i64 l, .int .i64 o, .int .u64 0, .int .i64 0, .int .u64 0] 33 (0, 0)))))
            go_loopw [10, 48] (fun v10 v48 wr => ∃ (i : Nat) (z : Int), v48 = .int .i64 (i : Int) ∧ v10 = .int .i64 z ∧ i ≤ n ∧ Hid ((i ≤ a → z = -1) ∧ (a < i → z = (a : Int))) ∧ Hid (TX wr (some ⟨b, oo, none⟩) n X ∧ Below w.heap.size w wr ∧ wr.heap[w5.heap.size]? = some (.cells #[.int .i64 k, .int .i64 c, .int .i64 l, .int .i64 o, .int .u64 0, .int .i64 0, .int .u64 0] 33 (0, 0)))) (fun _ v48 _ => n - (intOf v48).toNat)
            case atStart => exact ⟨0, -1, rfl, rfl, Nat.zero_le _, mhid ⟨fun _ => rfl, fun h => absurd h (by omega)⟩, mhid ⟨HX.out.1, HX.out.2, HE.out⟩⟩
            case round =>
              obtain ⟨i, z, rfl, rfl, hi, hz, hw⟩ := hrel
              clear HX HE
              by_cases hlt : i < n
              · obtain ⟨t0, t1, t2, t3, t4⟩ := hw.out.1.cells hlt
                obtain ⟨y0, y1, y2, y3, y4, y5, y6⟩ := box7z hw.out.2.2
                have dl : decide ((i : Int) < (n : Int)) = true := decide_eq_true (by omega)
                have dl2 : decide (i < n) = true := decide_eq_true hlt
                have i0 : (0 : Int) ≤ (i : Int) := by omega
                have i1 : (i : Int) < (n : Int) := by omega
                have hm := meas0 hlt
                have hw2 : ∀ z, Hid (TX (wr.alloc z) (some ⟨b, oo, none⟩) n X ∧ Below w.heap.size w (wr.alloc z) ∧ (wr.alloc z).heap[w5.heap.size]? = some (.cells #[.int .i64 k, .int .i64 c, .int .i64 l, .int .i64 o, .int .u64 0, .int .i64 0, .int .u64 0] 33 (0, 0))) := fun z => ⟨hw.out.1.below ((Below.refl _ _).alloc (Nat.le_refl _) _), hw.out.2.1.trans (((Below.refl _ _).alloc (Nat.le_refl _) _).mono hw.out.2.1.size), (Below.heap_alloc wr z _ (Array.getElem?_eq_some_iff.1 hw.out.2.2).1).trans hw.out.2.2⟩
                have hp3 := HPL.out i hlt
                by_cases hia : i = a
                · have z1 : ((X i).line == l) = true := by have := (hp3.2 hia).1; simp [this]
                  have z2 : ((X i).col == o) = true := by have := (hp3.2 hia).2; simp [this]
                  have hz2 : Hid ((i + 1 ≤ a → (i : Int) = -1) ∧ (a < i + 1 → (i : Int) = (a : Int))) := ⟨fun h => absurd h (by omega), fun _ => by rw [hia]⟩
                  clear hp3 hia
                  go_wp2
                  exact ⟨⟨i + 1, (i : Int), rfl, rfl, hlt, hz2, hw2 _⟩, hm⟩
                · have hz2 : Hid ((i + 1 ≤ a → z = -1) ∧ (a < i + 1 → z = (a : Int))) := ⟨fun h => hz.out.1 (by omega), fun h => hz.out.2 (by omega)⟩
                  by_cases hq3 : (X i).line = l
                  · have z1 : ((X i).line == l) = true := by simp [hq3]
                    have z2 : ((X i).col == o) = false := by have : ¬ (X i).col = o := fun h => hia (hp3.1 ⟨hq3, h⟩); simpa using this
                    clear hp3 hia hq3
                    go_wp2
                    exact ⟨⟨i + 1, z, rfl, rfl, hlt, hz2, hw2 _⟩, hm⟩
                  · have z1 : ((X i).line == l) = false := by simpa using hq3
                    clear hp3 hia hq3
                    go_wp2
                    exact ⟨⟨i + 1, z, rfl, rfl, hlt, hz2, hw2 _⟩, hm⟩
              · have hza := hz.out.2 (by omega)
                subst hza
                have dl : decide ((i : Int) < (n : Int)) = false := decide_eq_false (by omega)
                have dl2 : decide (i < n) = false := decide_eq_false hlt
                have HL := mhid (And.intro hw.out.1 hw.out.2.1)
                have HE := mhid hw.out.2.2
                clear hz hw
                go_upto_region 21 with (first
                  | (go_at_call 10; (with_reducible refine (HB.out _ _ a1 _ ha1n HL.out.2 HL.out.1).mono ?_); rintro e w6 ⟨tp6, tm6, tc6, ev6, rfl, hev, hb⟩; have H6 := mhid (And.intro (HL.out.1.below hb) (And.intro hev (HL.out.2.trans (hb.mono HL.out.2.size)))); have HE2 := mhid ((hb.block _ (Array.getElem?_eq_some_iff.1 HE.out).1).trans HE.out); clear HE; have HE := HE2; clear HE2; clear hev hb HL))
                obtain ⟨⟨x0, x1, x2, x3, x4, x5, x6⟩, -⟩ := cells7 HE.out
                go_region_with (go_at_call 8; (with_reducible refine (HV.out _ _ a1 k c l o HN1.out.1 HN1.out.2.1 HN1.out.2.2.1 HN1.out.2.2.2 ?_).mono ?_); (first | with_reducible exact H6.out.2.1 | exact H6.out.2.1.below (Below.refl _ _).drew); rintro e w7 ⟨rfl, hb⟩; have H7 := mhid (And.intro ((H6.out.1.below (Below.refl _ _).drew).below hb) ((Below.drew H6.out.2.2).trans (hb.mono H6.out.2.2.size))); obtain ⟨⟨g0, g1, g2, g3, g4, g5, g6⟩, -⟩ := cells7 ((hb.block _ (Array.getElem?_eq_some_iff.1 HE.out).1).trans HE.out); clear hb)
                all_goals
                  clear H6 HE x0 x1 x2 x3 x4 x5 x6 g0 g1 g2 g3 g4 g5 g6
                  go_wp2_with (first
                    | (go_at_call 10; (with_reducible refine (HB.out _ _ m _ hmn H7.out.2 H7.out.1).mono ?_); rintro e w8 ⟨tp8, tm8, tc8, ev8, rfl, hev, hb⟩; have H8 := mhid (And.intro (H7.out.1.below hb) (And.intro hev (H7.out.2.trans (hb.mono H7.out.2.size)))); clear hev hb H7)
                    | (go_at_call 8; (with_reducible refine (HV.out _ _ m 2 41 (X j).line (wrap64 ((X j).col + (tx : Int))) HM.out.1 HM.out.2.1 HM.out.2.2.1 HM.out.2.2.2 H8.out.2.1).mono ?_); rintro e w9 ⟨rfl, hb⟩; have H9 := mhid (And.intro (((H8.out.1.below hb)).below ((Below.refl _ w9).alloc (Nat.le_refl _) (.cells #[.int .i64 2, .int .i64 41, .int .i64 (X j).line, .int .i64 (wrap64 ((X j).col + (tx : Int))), .int .u64 0, .int .i64 0, .int .u64 0] 33))) ((H8.out.2.2.trans (hb.mono H8.out.2.2.size)).trans (((Below.refl _ w9).alloc (Nat.le_refl _) (.cells #[.int .i64 2, .int .i64 41, .int .i64 (X j).line, .int .i64 (wrap64 ((X j).col + (tx : Int))), .int .u64 0, .int .i64 0, .int .u64 0] 33)).mono (H8.out.2.2.trans (hb.mono H8.out.2.2.size)).size))); clear hb H8))
                  obtain ⟨t0, t1, t2, t3, t4⟩ := H9.out.1.cells hjn
                  go_quiet (fail)
                  go_wp2
                  go_ret
                  exact ⟨rfl, below_drewN H9.out.2 _⟩

end Go.Proofs.YtmekcccmnkgodaaGreatDoor
