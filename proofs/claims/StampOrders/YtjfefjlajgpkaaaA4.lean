import Derived.Test.YtjfefjlajgpkaaaA2
namespace Go.Proofs.Ytjfefjlajgpkaaa
open Go.ChangeShapes Go.WideShapes Go.ChangeAt Go.RowKit
set_option linter.unusedVariables false

set_option maxRecDepth 100000 in
set_option maxHeartbeats 4000000 in
theorem apartEv (n c Lb base : Nat) (hn : n ≤ 1000) (V : Nat → Value) (M : Nat → Nat) (F0 : Nat → Nat → Value) (hM : ∀ k, k < n → M k ≤ 1000000000) (w : World) (hLb : Lb < w.heap.size) (hL : ∀ k, k < n → w.cell? ⟨Lb, k, none⟩ = some (V k)) (hLt : ∃ cur fr, w.heap[Lb]? = some (.cells cur 23 fr)) (hO : Lists w base 51 6 n V M F0) (hB : base ≤ w.heap.size) :
    Calls Try.prog 13 #[.slice (some ⟨Lb, 0, none⟩) n c] w fun e w' => e = .returned (.bool true) ∧ Below base w w' := by
  have hLo' : Hid (∀ k, k < n → (V k).ownBlock ≠ some Lb) := fun k hk => by
    obtain ⟨cur, fr, h1⟩ := hLt
    exact (hO.own k hk).other h1 neT
  have HLT : Hid (∃ cur fr, w.heap[Lb]? = some (.cells cur 23 fr)) := hLt
  have HL : Hid (∀ k, k < n → w.cell? ⟨Lb, k, none⟩ = some (V k)) := hL
  have HM : Hid (∀ k, k < n → M k ≤ 1000000000) := hM
  clear hLt hL hM
  have hp0 : Hid (P1 w w base Lb n 0 V M F0) := ⟨hO, fun j hj => by omega, Below.refl _ _, rfl⟩
  clear hO
  go_enter Try.func13, Try.ntmps13
  go_wp2
  go_loopw [17] (fun v wr => ∃ (k : Nat) (F : Nat → Nat → Value), v = .int .i64 k ∧ k ≤ n ∧ P1 w wr base Lb n k V M F) (fun v _ => n - (intOf v).toNat)
  case atStart => exact ⟨0, F0, rfl, Nat.zero_le _, hp0.out⟩
  case round =>
    obtain ⟨k, F, rfl, hk, hp⟩ := hrel
    by_cases hlt : k < n
    · have dl : decide ((k : Int) < n) = true := decide_eq_true (by omega)
      have hm := meas hlt
      have cL : wr.cell? ⟨Lb, k, none⟩ = some (V k) := (World.cell?_of_block (a := ⟨Lb, k, none⟩) hp.keep).trans (HL.out k hlt)
      have hform := (hp.ls.own k hlt).form
      have hMk := HM.out k hlt
      obtain ⟨p, ck, hv, hpp⟩ : ∃ p ck, V k = .slice p (M k) ck ∧ (M k = 0 ∨ ∃ g, p = some ⟨g, 0, none⟩) := by
        rcases hform with ⟨h1, h2⟩ | ⟨g, c', h1, _⟩
        · exact ⟨none, 0, by rw [h1, h2], .inl h2⟩
        · exact ⟨_, _, h1, .inr ⟨g, rfl⟩⟩
      rw [hv] at cL
      have HV : Hid (V k = .slice p (M k) ck) := hv
      have HP : Hid (P1 w wr base Lb n k V M F) := hp
      clear hp0 hform hp hv
      obtain ⟨mk, hmk⟩ : ∃ mk, M k = mk := ⟨_, rfl⟩
      rw [hmk] at cL hMk hpp
      have HMK : Hid (M k = mk) := hmk
      clear hmk
      go_wp2
      go_loopw [24] (fun v wr => ∃ (i : Nat) (F : Nat → Nat → Value), v = .int .i64 i ∧ i ≤ mk ∧ P1 w wr base Lb n k V M F ∧ ∀ x, x < i * 6 → F k x = markC k x) (fun v _ => mk - (intOf v).toNat)
      case atStart => exact ⟨0, F, rfl, Nat.zero_le _, HP.out, fun x hx => by omega⟩
      case round =>
        obtain ⟨i, F2, rfl, hi, hp, hF⟩ := hrel
        by_cases hlt2 : i < mk
        · have dl2 : decide ((i : Int) < mk) = true := decide_eq_true (by omega)
          have hm2 := meas hlt2
          obtain ⟨g, rfl⟩ : ∃ g, p = some ⟨g, 0, none⟩ := by
            rcases hpp with h | h
            · omega
            · exact h
          have hv := HV.out
          have hth : wr.there g (i * 6) 6 := by
            have h1 := hp.ls.own k hlt
            rw [hv] at h1
            exact h1.there (by rw [HMK.out]; omega)
          have hgl : g < wr.heap.size := by
            have h1 := hp.ls.own k hlt
            rw [hv] at h1
            obtain ⟨_, h2, _⟩ := h1.block
            exact (Array.getElem?_eq_some_iff.1 h2).1
          have hst := hp.step hlt (by rw [HMK.out]; exact hlt2) hF hv hLo'.out
          have HST : Hid (∃ F', P1 w (wr.setCells g (i * 6) [.int .u64 0, .int .i64 0, .int .u64 0, .int .i64 (-1 - (k : Int)), .int .i64 (-1 - (i : Int)), .int .i64 0]) base Lb n k V M F' ∧ ∀ x, x < (i + 1) * 6 → F' k x = markC k x) := hst
          have HTH : Hid (wr.there g (i * 6) 6) := hth
          clear hst hth hp hF hv
          go_wp2_with (refine store_ev rfl (.tmp 34) (.tmp 33) rfl g (i * 6) (-1 - (k : Int)) (-1 - (i : Int)) 0 rfl rfl HTH ?_; generalize wr.setCells g (i * 6) [.int .u64 0, .int .i64 0, .int .u64 0, .int .i64 (-1 - (k : Int)), .int .i64 (-1 - (i : Int)), .int .i64 0] = w4 at HST ⊢)
          obtain ⟨F', h1, h2⟩ := HST.out
          exact ⟨⟨i + 1, F', rfl, hlt2, h1, h2⟩, hm2⟩
        · have dl2 : decide ((i : Int) < mk) = false := decide_eq_false (by omega)
          obtain rfl : i = mk := by omega
          have hfull : Full n (k + 1) M F2 := fun j hj x hx => by
            by_cases e : j = k
            · subst e
              exact hF x (by rw [← HMK.out]; exact hx)
            · exact hp.full j (by omega) x hx
          have HP2 : Hid (P1 w wr base Lb n (k + 1) V M F2) := ⟨hp.ls, hfull, hp.bel, hp.keep⟩
          clear hp hF hfull
          go_wp2
          exact ⟨⟨k + 1, F2, rfl, hlt, HP2.out⟩, hm⟩
    · have dl : decide ((k : Int) < n) = false := decide_eq_false (by omega)
      obtain rfl : k = n := by omega
      have hq := hp.to HLT.out
      have HQ : Hid (P2 w wr base Lb 51 23 6 k 0 0 V M markC V M markC (.slice none 0 0)) := hq
      clear hp hq hp0
      obtain ⟨i27, hi27, hz27, hs27, hb27⟩ := infoP infoEvs'
      go_wp2
      go_loopw [6, 39] (fun v6 v39 wr => ∃ (j : Nat) (V' : Nat → Value) (M' : Nat → Nat) (F' : Nat → Nat → Value), v39 = .int .i64 j ∧ j ≤ k ∧ P2 w wr base Lb 51 23 6 k j j V M markC V' M' F' v6 ∧ Done j M M' F') (fun _ v _ => k - (intOf v).toNat)
      case atStart => exact ⟨0, V, M, markC, rfl, Nat.zero_le _, HQ.out, fun j hj => by omega⟩
      case round =>
        obtain ⟨j, V', M', F', rfl, hj, hp, hd⟩ := hrel
        by_cases hlt : j < k
        · have dl3 : decide ((j : Int) < k) = true := decide_eq_true (by omega)
          have hm3 := meas hlt
          have cL : wr.cell? ⟨Lb, j, none⟩ = some (V j) := (World.cell?_of_block (a := ⟨Lb, j, none⟩) hp.keep).trans (HL.out j hlt)
          have hMj := HM.out j hlt
          have hbs : base ≤ wr.heap.size := Nat.le_trans hB hp.bel.size
          obtain ⟨v', w1, hr, ⟨g, cg, rfl⟩, hsz1, hp1, hd1⟩ := hp.zeros hd hlt hMj hbs
          have hform := (hp.ls.own j hlt).form
          obtain ⟨p, cj, hv, hpp⟩ : ∃ p cj, V j = .slice p (M j) cj ∧ (M j = 0 ∨ ∃ g, p = some ⟨g, 0, none⟩) := by
            rcases hform with ⟨h1, h2⟩ | ⟨g, c', h1, _⟩
            · exact ⟨none, 0, by rw [h1, h2], .inl h2⟩
            · exact ⟨_, _, h1, .inr ⟨g, rfl⟩⟩
          rw [hv] at cL hr
          obtain ⟨mj, hmj⟩ : ∃ mj, M j = mj := ⟨_, rfl⟩
          rw [hmj] at cL hMj hpp hr
          have HMJ : Hid (M j = mj) := hmj
          have HP1 : Hid (P2 w w1 base Lb 51 23 6 k (j + 1) j V M markC (ext V' j (.slice (some ⟨g, 0, none⟩) (mj + 70) cg)) (ext M' j (mj + 70)) (ext F' j (partC mj j mj)) u6) := by rw [← hmj]; exact hp1
          have HD1 : Hid (Done j M (ext M' j (mj + 70)) (ext F' j (partC mj j mj))) := by rw [← hmj]; exact hd1
          clear hp hd hp1 hd1 hform hv hmj HQ
          go_wp2_with (at_builtin; refine Lib.wpList_append_run _ rfl _ _ 23 3 rfl _ _ rfl rfl _ _ hr ?_)
          go_loopw [10] (fun v wr => ∃ (i : Nat) (F'' : Nat → Nat → Value), v = .int .i64 i ∧ mj ≤ i ∧ i ≤ mj + 70 ∧ P2 w wr base Lb 51 23 6 k (j + 1) j V M markC (ext V' j (.slice (some ⟨g, 0, none⟩) (mj + 70) cg)) (ext M' j (mj + 70)) F'' u6 ∧ Done j M (ext M' j (mj + 70)) F'' ∧ ∀ x, x < (mj + 70) * 6 → F'' j x = partC mj j i x) (fun v _ => mj + 70 - (intOf v).toNat)
          case atStart => exact ⟨mj, _, rfl, Nat.le_refl _, Nat.le_add_right _ _, HP1.out, HD1.out, fun x _ => by rw [ext_at]⟩
          case round =>
            obtain ⟨i, F2, rfl, hi0, hi1, hp, hd, hF⟩ := hrel
            by_cases hlt2 : i < mj + 70
            · have dl4 : decide ((i : Int) < (mj : Int) + 70) = true := decide_eq_true (by omega)
              have hm4 := meas hlt2
              have h1 := hp.ls'.own j (Nat.lt_succ_self j)
              rw [ext_at, ext_at] at h1
              have x5 := h1.cell (j := i * 6 + 5) (by omega)
              have f5 := (h1.there (o := i * 6 + 5) (n := 1) (by omega) 0 (by decide)).2
              rw [Nat.add_zero] at f5
              have hgl : g < wr.heap.size := (h1.kind rfl).2.1
              have hst := hp.mark hd (g := g) (c := cg) (by rw [ext_at, ext_at]) (i := i) (by rw [HMJ.out]; exact hi0) (by rw [HMJ.out]; exact hF)
              rw [HMJ.out] at hst
              have HST : Hid (∃ F'', P2 w (wr.setCell ⟨g, i * 6 + 5, none⟩ (.int .i64 (1 + (j : Int)))) base Lb 51 23 6 k (j + 1) j V M markC (ext V' j (.slice (some ⟨g, 0, none⟩) (mj + 70) cg)) (ext M' j (mj + 70)) F'' u6 ∧ Done j M (ext M' j (mj + 70)) F'' ∧ ∀ x, x < (mj + 70) * 6 → F'' j x = partC mj j (i + 1) x) := hst
              generalize F2 j (i * 6 + 5) = y5 at x5
              clear hst hp hd hF h1 HP1 HD1 hr
              go_wp2
              obtain ⟨F'', h1, h2, h3⟩ := HST.out
              exact ⟨⟨i + 1, F'', rfl, by omega, by omega, h1, h2, h3⟩, hm4⟩
            · have dl4 : decide ((i : Int) < (mj : Int) + 70) = false := decide_eq_false (by omega)
              obtain rfl : i = mj + 70 := by omega
              have hbs2 : base ≤ wr.heap.size := Nat.le_trans hB hp.bel.size
              have hLs2 : Lb < wr.heap.size := Nat.lt_of_lt_of_le hLb hp.bel.size
              have hb1 : Below wr.heap.size wr (wr.alloc (.cells #[.slice (some ⟨g, 0, none⟩) (mj + 70) cg] 23)) := (Below.refl _ wr).alloc (Nat.le_refl _) _
              have hmo := hp.more.more hb1
              have hbs3 : base ≤ (wr.alloc (.cells #[.slice (some ⟨g, 0, none⟩) (mj + 70) cg] 23)).heap.size := Nat.le_trans hbs2 hb1.size
              have HMO : Hid ((wr.alloc (.cells #[.slice (some ⟨g, 0, none⟩) (mj + 70) cg] 23)).ownsRow base 23 1 u6 j (cellsF (ext V' j (.slice (some ⟨g, 0, none⟩) (mj + 70) cg)) (j * 1))) := hmo
              have HPX : Hid (P2 w wr base Lb 51 23 6 k (j + 1) j V M markC (ext V' j (.slice (some ⟨g, 0, none⟩) (mj + 70) cg)) (ext M' j (mj + 70)) F2 u6) := hp
              have HDX : Hid (Done (j + 1) M (ext M' j (mj + 70)) F2) := fun a ha => by
                by_cases e : a = j
                · subst e
                  rw [ext_at, HMJ.out]
                  exact ⟨rfl, hF⟩
                · exact hd a (by omega)
              have HB1 : Hid (Below wr.heap.size wr (wr.alloc (.cells #[.slice (some ⟨g, 0, none⟩) (mj + 70) cg] 23))) := hb1
              have p1 : j + 1 ≤ maxLen := by unfold maxLen; omega
              have p2 : (j + 1) * 24 ≤ 140737488355328 := by omega
              have hnew : Hid (∀ a u, [Value.slice (some ⟨g, 0, none⟩) (mj + 70) cg][a]? = some u → (wr.alloc (.cells #[.slice (some ⟨g, 0, none⟩) (mj + 70) cg] 23)).cell? ((⟨wr.heap.size, 0, none⟩ : Addr).add a) = some u) := fun a u ha => by
                have h0 : a = 0 := by
                  have := (List.getElem?_eq_some_iff.1 ha).1
                  simpa using this
                subst h0
                rw [addr_add0]
                unfold World.cell?
                rw [World.alloc_heap_new]
                exact ha
              clear hp hd hF HP1 HD1 hr hb1 hmo
              go_wp2_with (at_builtin; refine wpList_append_own_at _ rfl _ _ 22 rfl base 23 i27 _ 1 24 Try.underlying22 hi27 hz27 hs27 hb27 rfl (by decide) _ _ _ rfl HMO.out ⟨wr.heap.size, 0, none⟩ 1 1 [.slice (some ⟨g, 0, none⟩) (mj + 70) cg] rfl rfl hnew.out (by simp [Value.oneCell']) p1 p2 hbs3 ?_; intro mv' w5 hown5 hgrow5 _ hat5)
              have hown6 : Own w5 base 23 1 mv' (j + 1) (ext V' j (.slice (some ⟨g, 0, none⟩) (mj + 70) cg)) := by
                have e1 : [Value.slice (some ⟨g, 0, none⟩) (mj + 70) cg] = cellsF (fun _ => .slice (some ⟨g, 0, none⟩) (mj + 70) cg) 1 := rfl
                rw [e1, cellsF_append] at hown5
                have h7 : Own w5 base 23 1 mv' (j + 1) (fun a => if a < j * 1 then ext V' j (.slice (some ⟨g, 0, none⟩) (mj + 70) cg) a else .slice (some ⟨g, 0, none⟩) (mj + 70) cg) := by
                  unfold Own
                  rw [Nat.add_mul, Nat.one_mul]
                  exact hown5
                refine h7.congr fun a ha => ?_
                by_cases e : a < j * 1
                · rw [if_pos e]
                · rw [if_neg e]
                  obtain rfl : a = j := by omega
                  rw [ext_at]
              have hfin := HPX.out.push neT HB1.out hbs2 hLs2 hown6 hgrow5 hat5
              exact ⟨⟨j + 1, _, _, _, rfl, hlt, hfin, HDX.out⟩, hm3⟩
        · have dl3 : decide ((j : Int) < k) = false := decide_eq_false (by omega)
          obtain rfl : j = k := by omega
          have HPZ : Hid (P2 w wr base Lb 51 23 6 j j j V M markC V' M' F' u6) := hp
          have HDZ : Hid (Done j M M' F') := hd
          clear hp hd HQ
          go_wp2
          go_loopw [67] (fun v wr => ∃ (a : Nat), v = .int .i64 a ∧ a ≤ j ∧ P2 w wr base Lb 51 23 6 j j j V M markC V' M' F' u6) (fun v _ => j - (intOf v).toNat)
          case atStart => exact ⟨0, rfl, Nat.zero_le _, HPZ.out⟩
          case round =>
            obtain ⟨a, rfl, haj, hp⟩ := hrel
            by_cases hlt : a < j
            · have dl5 : decide ((a : Int) < j) = true := decide_eq_true (by omega)
              have hm5 := meas hlt
              have cL : wr.cell? ⟨Lb, a, none⟩ = some (V a) := (World.cell?_of_block (a := ⟨Lb, a, none⟩) hp.keep).trans (HL.out a hlt)
              have hMa := HM.out a hlt
              obtain ⟨hb, hc, g, cg, p, cl, hmv, hcell, hv, hr1, hr2⟩ := hp.reads HDZ.out hlt
              rw [hv] at cL
              obtain ⟨ma, hma⟩ : ∃ ma, M a = ma := ⟨_, rfl⟩
              rw [hma] at cL hMa
              have HV : Hid (V a = .slice p (M a) cl) := hv
              have HMA : Hid (M a = ma) := hma
              have HPY : Hid (P2 w wr base Lb 51 23 6 j j j V M markC V' M' F' u6) := hp
              clear hp hma hv hcell hmv hr1 hr2 HPZ
              go_wp2
              go_loopw [74] (fun v wr => ∃ (i : Nat), v = .int .i64 i ∧ i ≤ ma ∧ P2 w wr base Lb 51 23 6 j j j V M markC V' M' F' u6) (fun v _ => ma - (intOf v).toNat)
              case atStart => exact ⟨0, rfl, Nat.zero_le _, HPY.out⟩
              case round =>
                obtain ⟨i, rfl, hi, hp⟩ := hrel
                by_cases hlt2 : i < ma
                · have dl6 : decide ((i : Int) < ma) = true := decide_eq_true (by omega)
                  have hm6 := meas hlt2
                  obtain ⟨hb, hc, g, cg, p2, cl2, rfl, hcell, hv, hr1, hr2⟩ := hp.reads HDZ.out hlt
                  have hpe : p2 = p := by
                    have := hv.symm.trans HV.out
                    injection this
                  subst hpe
                  obtain ⟨gl, rfl, y0, y1, y2, y3, y4, y5, z0, z1, z2, z3, z4, z5⟩ := hr1 i (by rw [HMA.out]; exact hlt2)
                  rw [HMA.out] at hcell
                  have HPY2 : Hid (P2 w wr base Lb 51 23 6 j j j V M markC V' M' F' (.slice (some ⟨hb, 0, none⟩) j hc)) := hp
                  clear hp hv hr1 hr2 HPY
                  have ew1 := wr_small (-1 - (a : Int)) (by omega) (by omega)
                  have ew2 := wr_small (-1 - (i : Int)) (by omega) (by omega)
                  have ne1 := neq_ev (-1 - (a : Int)) (-1 - (i : Int)) 0
                  go_wp2
                  go_quiet (fail)
                  go_wp2
                  exact ⟨⟨i + 1, rfl, hlt2, HPY2.out.quiet _⟩, hm6⟩
                · have dl6 : decide ((i : Int) < ma) = false := decide_eq_false (by omega)
                  obtain rfl : i = ma := by omega
                  have HPY2 : Hid (P2 w wr base Lb 51 23 6 j j j V M markC V' M' F' u6) := hp
                  clear hp HPY
                  go_wp2
                  go_loopw [14] (fun v wr => ∃ (x : Nat), v = .int .i64 x ∧ i ≤ x ∧ x ≤ i + 70 ∧ P2 w wr base Lb 51 23 6 j j j V M markC V' M' F' u6) (fun v _ => i + 70 - (intOf v).toNat)
                  case atStart => exact ⟨i, rfl, Nat.le_refl _, Nat.le_add_right _ _, HPY2.out⟩
                  case round =>
                    obtain ⟨x, rfl, hx0, hx1, hp⟩ := hrel
                    obtain ⟨hb, hc, g, cg, p2, cl2, rfl, hcell, hv, hr1, hr2⟩ := hp.reads HDZ.out hlt
                    rw [HMA.out] at hcell
                    have HPY3 : Hid (P2 w wr base Lb 51 23 6 j j j V M markC V' M' F' (.slice (some ⟨hb, 0, none⟩) j hc)) := hp
                    by_cases hlt3 : x < i + 70
                    · have dl7 : decide ((x : Int) < (i : Int) + 70) = true := decide_eq_true (by omega)
                      have hm7 := meas hlt3
                      obtain ⟨z0, z1, z2, z3, z4, z5⟩ := hr2 x (by rw [HMA.out]; exact hx0) (by rw [HMA.out]; exact hlt3)
                      have ew1 := wr_small (1 + (a : Int)) (by omega) (by omega)
                      have ne1 := neq_ev 0 0 (1 + (a : Int))
                      have dn7 : decide (x < i + 70) = true := decide_eq_true hlt3
                      clear hp hv hr1 hr2 HPY2
                      go_wp2
                      exact ⟨⟨x + 1, rfl, by omega, by omega, HPY3.out⟩, hm7⟩
                    · have dl7 : decide ((x : Int) < (i : Int) + 70) = false := decide_eq_false (by omega)
                      have dn7 : decide (x < i + 70) = false := decide_eq_false hlt3
                      clear hp hv hr1 hr2 HPY2
                      go_wp2
                      exact ⟨⟨a + 1, rfl, hlt, HPY3.out⟩, hm5⟩
            · have dl5 : decide ((a : Int) < j) = false := decide_eq_false (by omega)
              obtain rfl : a = j := by omega
              have HPY : Hid (P2 w wr base Lb 51 23 6 a a a V M markC V' M' F' u6) := hp
              clear hp HPZ
              go_wp2
              go_ret
              exact ⟨rfl, HPY.out.bel⟩
end Go.Proofs.Ytjfefjlajgpkaaa
