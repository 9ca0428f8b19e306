import Derived.Test.YtmekcccmnkgodaaGreatDoorFGN4
namespace Go.Proofs.YtmekcccmnkgodaaGreatDoor
open Go.ChangeShapes Go.WideShapes Go.ChangeAt Go.RowKit
set_option linter.unusedVariables false
set_option linter.unusedSimpArgs false
set_option maxRecDepth 100000
set_option maxHeartbeats 40000000 in
theorem binds_ge (o p u0 : Int) (x y u : Nat) (hx : x < 18) (hy : y < 18) (hu : u < 3) (ex : (IntKind.u64.wrap o).tmod 18 = (x : Int)) (ey : (IntKind.u64.wrap p).tmod 18 = (y : Int)) (eu : (IntKind.u64.wrap u0).tmod 3 = (u : Int)) (w : World) (g : Gr w) (he : Et w) (hs : Sg18 w) (hb : (bToks x y u).2 = none ∧ (bToks x y u).1.length = 9) (h3 : ¬ (strong x = 3 ∧ strong y = 3)) (hlt : ¬ strong x < strong y) {T : List Nd} (hR : prsR (bText x y u) 219 = .tr T) (hT : T.length = 8) (hM : T.map (fun d => (d.kind, d.op)) = bKO x y u) : Calls Tryz.prog 5 #[.int .i64 o, .int .i64 p, .int .i64 u0] w fun e w' => e = .returned (.bool true) ∧ Below w.heap.size w w' := by
  obtain ⟨m1, m2, m3, s1, s2, s3, s4, s5, s6, T⟩ := txt_of x y u hx hy hu
  obtain ⟨e1, e2, e3, e4, e5, e6, k1, k2, k3, tx⟩ := T
  have HP : Hid (∀ W, Below w.heap.size w W → Calls Tryz.prog 7 #[.string ⟨s6.toArray⟩] W fun e w' => ∃ b oo tc N, e = .returned (.tuple #[.agg #[.slice (some ⟨b, oo, none⟩) 8 tc], .nilIface]) ∧ NAt w' (some ⟨b, oo, none⟩) 8 N ∧ (∀ i, i < 8 → (N i).kind = ((bKO x y u).getD i (0, 0)).1 ∧ (N i).op = ((bKO x y u).getD i (0, 0)).2) ∧ Below W.heap.size W w') := fun W hW => by
    have h := parse_any (bText x y u) (by have := bText_len x y u hx hy hu; unfold maxLen; omega) 219 (fun ts h => by rw [bind_scan x y u hx hy hu] at h; have e : (bToks x y u).1 = ts := congrArg Prod.fst h; have e2 := hb.2; rw [e] at e2; omega) W (g.keep hW) (he.keep hW)
    rw [hR] at h
    rw [tx]
    refine h.mono fun e w' h => ?_
    obtain ⟨hbl, tp, tc, vs, h1, h2, h4, h5, h6⟩ := h
    have hn := h2.nat h6
    have hne : ∃ b oo, tp = some ⟨b, oo, none⟩ := by
      rcases hn with h0 | ⟨b, oo, e, _⟩
      · omega
      · exact ⟨b, oo, e⟩
    obtain ⟨b, oo, rfl⟩ := hne
    rw [hT] at h1 hn
    refine ⟨b, oo, tc, nf T vs, h1, hn, fun i hi => ?_, hbl⟩
    rw [← hM]
    have e : (T.map (fun d => (d.kind, d.op))).getD i (0, 0) = ((T.getD i nT1).kind, (T.getD i nT1).op) := by
      rw [List.getD_eq_getElem?_getD, List.getD_eq_getElem?_getD, List.getElem?_map, List.getElem?_eq_getElem (by omega)]
      rfl
    rw [e]
    exact ⟨rfl, rfl⟩
  have K1 : Hid (∀ W, Below w.heap.size w W → Calls Tryz.prog 12 #[.int .i64 ((unO u : Nat) : Int)] W fun e w' => e = .returned (.string ⟨m1.toArray⟩) ∧ w' = W) := fun W h => k1 W (g.keep h).sp
  obtain ⟨xx, hxx⟩ : ∃ xx : Nat, 60 + x = xx := ⟨_, rfl⟩
  obtain ⟨yy, hyy⟩ : ∃ yy : Nat, 60 + y = yy := ⟨_, rfl⟩
  obtain ⟨un, hun⟩ : ∃ un : Nat, unO u = un := ⟨_, rfl⟩
  have K2 : Hid (∀ W, Below w.heap.size w W → Calls Tryz.prog 12 #[.int .i64 (xx : Int)] W fun e w' => e = .returned (.string ⟨m2.toArray⟩) ∧ w' = W) := fun W h => by rw [← hxx]; exact k2 W (g.keep h).sp
  have K3 : Hid (∀ W, Below w.heap.size w W → Calls Tryz.prog 12 #[.int .i64 (yy : Int)] W fun e w' => e = .returned (.string ⟨m3.toArray⟩) ∧ w' = W) := fun W h => by rw [← hyy]; exact k3 W (g.keep h).sp
  rw [hun] at K1
  have cu : ∀ W : World, (W.alloc (.cells #[.int .i64 74, .int .i64 78, .int .i64 79] 3)).cell? ⟨W.heap.size, u, none⟩ = some (.int .i64 (un : Int)) := fun W => by rw [← hun]; exact un_cell u hu W
  have hK : ∀ j, j < 8 → ((bKO x y u).getD j (0, 0)).1 = ([1, 3, 43, 43, 44, 41, 41, 41] : List Int).getD j 0 := fun j hj => by
    unfold bKO
    rw [if_neg hlt]
    rcases (by omega : j = 0 ∨ j = 1 ∨ j = 2 ∨ j = 3 ∨ j = 4 ∨ j = 5 ∨ j = 6 ∨ j = 7) with rfl | rfl | rfl | rfl | rfl | rfl | rfl | rfl <;> rfl
  have hO : ∀ j, j < 8 → ((bKO x y u).getD j (0, 0)).2 = ([0, 0, (yy : Int), (xx : Int), (un : Int), 0, 0, 0] : List Int).getD j 0 := fun j hj => by
    unfold bKO
    rw [if_neg hlt, hxx, hyy, hun]
    rcases (by omega : j = 0 ∨ j = 1 ∨ j = 2 ∨ j = 3 ∨ j = 4 ∨ j = 5 ∨ j = 6 ∨ j = 7) with rfl | rfl | rfl | rfl | rfl | rfl | rfl | rfl <;> rfl
  obtain ⟨K, hKe⟩ : ∃ K : Nat → Int, (fun j => ((bKO x y u).getD j (0, 0)).1) = K := ⟨_, rfl⟩
  obtain ⟨O, hOe⟩ : ∃ O : Nat → Int, (fun j => ((bKO x y u).getD j (0, 0)).2) = O := ⟨_, rfl⟩
  have HKE : Hid ((∀ j, j < 8 → K j = ([1, 3, 43, 43, 44, 41, 41, 41] : List Int).getD j 0) ∧ ∀ j, j < 8 → O j = ([0, 0, (yy : Int), (xx : Int), (un : Int), 0, 0, 0] : List Int).getD j 0) := ⟨fun j hj => by rw [← hKe]; exact hK j hj, fun j hj => by rw [← hOe]; exact hO j hj⟩
  have HP2 : Hid (∀ W, Below w.heap.size w W → Calls Tryz.prog 7 #[.string ⟨s6.toArray⟩] W fun e w' => ∃ b oo tc N, e = .returned (.tuple #[.agg #[.slice (some ⟨b, oo, none⟩) 8 tc], .nilIface]) ∧ NAt w' (some ⟨b, oo, none⟩) 8 N ∧ (∀ i, i < 8 → (N i).kind = K i ∧ (N i).op = O i) ∧ Below W.heap.size W w') := fun W hW => by subst hKe; subst hOe; exact HP.out W hW
  have HSI : Hid (∀ W p c q d A B, KAt W p 8 A → KAt W q 8 B → (∀ j, j < 8 → A j = B j) → Calls Tryz.prog 13 #[.slice p 8 c, .slice q 8 d] W fun e w' => e = .returned (.bool true) ∧ Below W.heap.size W w') := fun W p c q d A B h1 h2 h4 => by
    have h := sameInts_any p q 8 8 c d A B (by decide) W h1 h2
    rw [sameF_yes h4] at h
    exact h
  obtain ⟨a, hax⟩ : ∃ a : Nat, strong x = a := ⟨_, rfl⟩
  obtain ⟨b9, hay⟩ : ∃ b9 : Nat, strong y = b9 := ⟨_, rfl⟩
  have ax : ∀ W, Below w.heap.size w W → W.cell? ⟨0, x, none⟩ = some (.int .i64 (a : Int)) := fun W h => by have := (hs.keep h) x hx; rw [hax] at this; exact this
  have ay : ∀ W, Below w.heap.size w W → W.cell? ⟨0, y, none⟩ = some (.int .i64 (b9 : Int)) := fun W h => by have := (hs.keep h) y hy; rw [hay] at this; exact this
  have HA := mhid (And.intro ax ay)
  rw [hax, hay] at h3 hlt
  have l1 : decide ((a : Int) < (b9 : Int)) = false := decide_eq_false (by omega)
  have l2 : decide (a < b9) = false := decide_eq_false hlt
  have h33 : (((a : Int) == 3) = true ∧ ((b9 : Int) == 3) = false) ∨ ((a : Int) == 3) = false := by
    by_cases q : a = 3
    · have q2 : ¬ ((b9 : Int) = 3) := by omega
      exact .inl ⟨by rw [q]; rfl, by simpa using q2⟩
    · have q2 : ¬ ((a : Int) = 3) := by omega
      exact .inr (by simpa using q2)
  obtain ⟨wx, x0, x1, wxx, sx⟩ := sml x 18 hx (by decide)
  obtain ⟨wy, y0, y1, wyy, sy⟩ := sml y 18 hy (by decide)
  obtain ⟨-, u1, u2, -, -⟩ := sml u 3 hu (by decide)
  rw [hxx] at wxx sx
  rw [hyy] at wyy sy
  clear hxx hyy hun hb h3 hR tx k1 k2 k3 ax ay g he hs hK hO hKe hOe HP hM hT hax hay hlt hx hy hu
  rcases h33 with ⟨a3, b3⟩ | a3
  all_goals
    go_enter Tryz.func5, Tryz.ntmps5
    go_wp2_with (first
      | (go_at_call 12; (with_reducible refine (K1.out _ ((Below.refl _ w).alloc (Nat.le_refl _) _)).mono ?_); rintro e w1 ⟨rfl, hw1⟩; subst hw1; clear K1)
      | (go_at_call 12; (with_reducible refine (K2.out _ ((Below.refl _ w).alloc (Nat.le_refl _) _)).mono ?_); rintro e w1 ⟨rfl, hw1⟩; subst hw1; clear K2)
      | (go_at_call 12; (with_reducible refine (K3.out _ ((Below.refl _ w).alloc (Nat.le_refl _) _)).mono ?_); rintro e w1 ⟨rfl, hw1⟩; subst hw1; clear K3)
      | (go_at_call 7; (with_reducible refine (HP2.out _ ((Below.refl _ w).alloc (Nat.le_refl _) _)).mono ?_); rintro e w1 ⟨b, oo, tc, N, rfl, hN, hNK, hb⟩; have hb2 := ((Below.refl _ w).alloc (Nat.le_refl _) (.cells #[.int .i64 74, .int .i64 78, .int .i64 79] 3)).trans (hb.mono (by simp)); have H1 := mhid (And.intro (hN.below ((Below.refl _ w1).alloc (Nat.le_refl _) (.cells #[.slice (some ⟨b, oo, none⟩) 8 tc] 24))) (And.intro hNK (hb2.trans (((Below.refl _ w1).alloc (Nat.le_refl _) (.cells #[.slice (some ⟨b, oo, none⟩) 8 tc] 24)).mono hb2.size)))); have cx := HA.out.1 _ H1.out.2.2; have cy := HA.out.2 _ H1.out.2.2; clear hN hNK hb hb2))
    obtain ⟨W0, hW0⟩ : ∃ W0, w1.alloc (.cells #[.slice (some ⟨b, oo, none⟩) 8 tc] 24) = W0 := ⟨_, rfl⟩
    have HW0 := mhid hW0
    have H2 : Hid (NAt W0 (some ⟨b, oo, none⟩) 8 N ∧ (∀ i, i < 8 → (N i).kind = K i ∧ (N i).op = O i) ∧ Below w.heap.size w W0) := by rw [← hW0]; exact H1.out
    clear H1 cx cy
    rw [hW0]
    clear hW0
    go_loopw [13, 14, 77] (fun v13 v14 v77 wr => ∃ (i : Nat) (p1 : Option Addr) (c1 : Nat) (p2 : Option Addr) (c2 : Nat), v13 = .slice p1 i c1 ∧ v14 = .slice p2 i c2 ∧ v77 = .int .i64 (i : Int) ∧ i ≤ 8 ∧ Hid (R2 W0.heap.size K O i i p1 c1 p2 c2 W0 wr)) (fun _ _ v _ => 8 - (intOf v).toNat)
    case atStart => exact ⟨0, none, 0, none, 0, rfl, rfl, rfl, by omega, ⟨⟨by simp [cellsF], .inl ⟨rfl, rfl⟩⟩, ⟨by simp [cellsF], .inl ⟨rfl, rfl⟩⟩, (fun b h => by cases h), Below.refl _ _, Nat.le_refl _⟩⟩
    case round =>
      obtain ⟨i, p1, c1, p2, c2, rfl, rfl, rfl, hi, hr⟩ := hrel
      by_cases hlt : i < 8
      · have hn2 := H2.out.1.below (hr.out.be)
        obtain h0 | ⟨b', o', e', hl', hc'⟩ := hn2
        · omega
        injection e' with e'
        injection e' with e1' e2' _
        subst e1' e2'
        obtain ⟨⟨t0, t1, t2, t3, t4, t5, t6⟩, -⟩ := hc' i hlt
        have hkk := (H2.out.2.1 i hlt).1
        have hoo := (H2.out.2.1 i hlt).2
        rw [hkk] at t0
        rw [hoo] at t3
        have dl : decide ((i : Int) < 8) = true := decide_eq_true (by omega)
        have dl2 : decide (i < 8) = true := decide_eq_true hlt
        have i0 : (0 : Int) ≤ (i : Int) := by omega
        have i1 : (i : Int) < 8 := by omega
        have hm := meas0 hlt
        have HR := hr
        clear hc' hkk hoo hr hl'
        have HB : ∀ ob, Hid (R2 W0.heap.size K O i i p1 c1 p2 c2 W0 (wr.alloc ob)) := fun ob => HR.out.below ((Below.refl _ _).alloc (Nat.le_refl _) _)
        have ile : i ≤ 100 := by omega
        go_wp2_with (first
          | (at_builtin; refine int_grow K i ile (.slice p1 i c1) (HB _).out.o1 (HB _).out.sz rfl (.tmp 81) (.tmp 84) rfl rfl (K i) rfl _ rfl (by simp) ?_; intro q1 d1 w2 h1 h2 h4; obtain ⟨hp1, hp2⟩ := (HB _).out.put h1 h2 h4; have tb := hp2 wr.heap.size _ _ (World.alloc_heap_new wr _) (by decide); obtain ⟨⟨f0, f1, f2, f3, f4, f5, f6⟩, -⟩ := cells7 tb; have HQ := mhid hp1; clear h1 h2 h4 hp1 hp2 tb HB)
          | (at_builtin; refine int_grow O i ile (.slice p2 i c2) HQ.out.o2 HQ.out.sz rfl (.tmp 86) (.tmp 89) rfl rfl (O i) rfl _ rfl (by simp) ?_; intro q2 d2 w3 h1 h2 h4; obtain ⟨hp1, hp2⟩ := HQ.out.swap.put h1 h2 h4; have HZ := mhid hp1.swap; clear h1 h2 h4 hp1 hp2))
        exact ⟨⟨i + 1, q1, d1, q2, d2, rfl, rfl, rfl, hlt, HZ⟩, hm⟩
      · obtain rfl : i = 8 := by omega
        have HR := hr
        have hbw := H2.out.2.2.trans (hr.out.be.mono H2.out.2.2.size)
        have cx := HA.out.1 _ hbw
        have cy := HA.out.2 _ hbw
        have HBW := mhid hbw
        have dl : decide (((8 : Nat) : Int) < 8) = false := by decide
        clear hr hbw
        go_upto_region 17 with fail
        go_quiet (fail)
        go_wp2_with (first
          | (go_at_call 13; (with_reducible refine (HSI.out _ _ _ _ _ K _ ?_ ?_ HKE.out.1).mono ?_); (exact ((own_kat HR.out.o1).below (below_drewN (Below.refl _ _) _)).below ((Below.refl _ _).alloc (Nat.le_refl _) _)); (exact new_kat _ [1, 3, 43, 43, 44, 41, 41, 41] 8 rfl _ rfl); rintro e w5 ⟨rfl, hb5⟩; have HC5 := mhid (And.intro ((((own_kat HR.out.o2).below (below_drewN (Below.refl _ _) _)).below ((Below.refl _ _).alloc (Nat.le_refl _) _)).below hb5) (((below_drewN HBW.out _).alloc (below_drewN HBW.out _).size _).trans (hb5.mono ((below_drewN HBW.out _).alloc (below_drewN HBW.out _).size _).size))); clear hb5)
          | (go_at_call 13; (with_reducible refine (HSI.out _ _ _ _ _ O _ ?_ ?_ HKE.out.2).mono ?_); (exact HC5.out.1.below ((Below.refl _ _).alloc (Nat.le_refl _) _)); (exact new_kat _ [0, 0, (yy : Int), (xx : Int), (un : Int), 0, 0, 0] 8 rfl _ rfl); rintro e w6 ⟨rfl, hb6⟩; have HC6 := mhid ((HC5.out.2.alloc HC5.out.2.size _).trans (hb6.mono (HC5.out.2.alloc HC5.out.2.size _).size)); clear hb6))
        go_ret
        exact ⟨rfl, HC6.out⟩
end Go.Proofs.YtmekcccmnkgodaaGreatDoor
