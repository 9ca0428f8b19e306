import Derived.Test.YtcibmbcfpecgpaaK4
import Derived.OwnWalk
namespace Go.Proofs.Ytcibmbcfpecgpaa
open Go.ChangeShapes Go.WideShapes Go.ChangeAt Go.RowKit
set_option linter.unusedVariables false

theorem wrB (a : Int) (h0 : -9223372036854775808 ≤ a) (h1 : a ≤ 9223372036854775807) : IntKind.i64.wrap a = a := by
  rw [IntKind.wrap_i64]
  omega
theorem own_of_row {W : World} {base : Nat} {t : TypeId} {s m : Nat} {v : Value} {xs : List Value} (h : W.ownsRow base t s v m xs) : Own W base t s v m (fun j => xs.getD j undef) := by
  unfold Own
  rw [← h.1, ← cellsF_of xs]
  exact h
set_option maxRecDepth 100000 in
set_option maxHeartbeats 4000000 in
theorem apartB (n c Lb base : Nat) (hn : n ≤ 1000) (V : Nat → Value) (M : Nat → Nat) (F0 : Nat → Nat → Value) (hM : ∀ k, k < n → M k ≤ 1000000000) (w : World) (hLb : Lb < w.heap.size) (hL : ∀ k, k < n → w.cell? ⟨Lb, k, none⟩ = some (V k)) (hLt : ∃ cur fr, w.heap[Lb]? = some (.cells cur 29 fr)) (hO : Lists w base 5 1 n V M F0) (hB : base ≤ w.heap.size) :
    Calls Try.prog 12 #[.slice (some ⟨Lb, 0, none⟩) n c] w fun e w' => e = .returned (.bool true) ∧ Below base w w' := by
  have hLo' : Hid (∀ k, k < n → (V k).ownBlock ≠ some Lb) := fun k hk => by
    obtain ⟨cur, fr, h1⟩ := hLt
    exact (hO.own k hk).other h1 neB
  have HLT : Hid (∃ cur fr, w.heap[Lb]? = some (.cells cur 29 fr)) := hLt
  have HL : Hid (∀ k, k < n → w.cell? ⟨Lb, k, none⟩ = some (V k)) := hL
  have HM : Hid (∀ k, k < n → M k ≤ 1000000000) := hM
  clear hLt hL hM
  have hp0 : Hid (B1 w w base Lb n 0 V M F0) := ⟨hO, fun j hj => by omega, Below.refl _ _, rfl⟩
  clear hO
  go_enter Try.func12, Try.ntmps12
  go_wp2
  go_loopw [18] (fun v wr => ∃ (k : Nat) (F : Nat → Nat → Value), v = .int .i64 k ∧ k ≤ n ∧ B1 w wr base Lb n k V M F) (fun v _ => n - (intOf v).toNat)
  case atStart => exact ⟨0, F0, rfl, Nat.zero_le _, hp0.out⟩
  case round =>
    obtain ⟨k, F, rfl, hk, hp⟩ := hrel
    by_cases hlt : k < n
    · have dl : decide ((k : Int) < n) = true := decide_eq_true (by omega)
      have hm := measB hlt
      have cL : wr.cell? ⟨Lb, k, none⟩ = some (V k) := (World.cell?_of_block (a := ⟨Lb, k, none⟩) hp.keep).trans (HL.out k hlt)
      have hform := (hp.ls.own k hlt).form
      have hMk := HM.out k hlt
      obtain ⟨p, ck, hv, hpp⟩ : ∃ p ck, V k = .slice p (M k) ck ∧ (M k = 0 ∨ ∃ g, p = some ⟨g, 0, none⟩) := by
        rcases hform with ⟨h1, h2⟩ | ⟨g, c', h1, _⟩
        · exact ⟨none, 0, by rw [h1, h2], .inl h2⟩
        · exact ⟨_, _, h1, .inr ⟨g, rfl⟩⟩
      rw [hv] at cL
      have HV : Hid (V k = .slice p (M k) ck) := hv
      have HP : Hid (B1 w wr base Lb n k V M F) := hp
      clear hp0 hform hp hv
      obtain ⟨mk, hmk⟩ : ∃ mk, M k = mk := ⟨_, rfl⟩
      rw [hmk] at cL hMk hpp
      have HMK : Hid (M k = mk) := hmk
      clear hmk
      go_wp2
      go_loopw [25] (fun v wr => ∃ (i : Nat) (F : Nat → Nat → Value), v = .int .i64 i ∧ i ≤ mk ∧ B1 w wr base Lb n k V M F ∧ ∀ x, x < i → F k x = bMk k x) (fun v _ => mk - (intOf v).toNat)
      case atStart => exact ⟨0, F, rfl, Nat.zero_le _, HP.out, fun x hx => by omega⟩
      case round =>
        obtain ⟨i, F2, rfl, hi, hp, hF⟩ := hrel
        by_cases hlt2 : i < mk
        · have dl2 : decide ((i : Int) < mk) = true := decide_eq_true (by omega)
          have hm2 := measB hlt2
          obtain ⟨g, rfl⟩ : ∃ g, p = some ⟨g, 0, none⟩ := by
            rcases hpp with h | h
            · omega
            · exact h
          have hv := HV.out
          have h1 := hp.ls.own k hlt
          rw [hv] at h1
          have hth : wr.there g i 1 := h1.there (by rw [HMK.out]; omega)
          have x5 := h1.cell (j := i) (by rw [HMK.out]; omega)
          have f5 := (hth 0 (by decide)).2
          rw [Nat.add_zero] at f5
          have hgl : g < wr.heap.size := by
            obtain ⟨_, h2, _⟩ := h1.block
            exact (Array.getElem?_eq_some_iff.1 h2).1
          have hst := hp.step hlt (by rw [HMK.out]; exact hlt2) hF hv hLo'.out
          have HST : Hid (∃ F', B1 w (wr.setCell ⟨g, i, none⟩ (.int .u8 ((41 * (k : Int) + 7 * (i : Int) + 1) % 256))) base Lb n k V M F' ∧ ∀ x, x < i + 1 → F' k x = bMk k x) := hst
          have ew1 := wrB (41 * (k : Int)) (by omega) (by omega)
          have ew2 := wrB (7 * (i : Int)) (by omega) (by omega)
          have ew3 := wrB (41 * (k : Int) + 7 * (i : Int)) (by omega) (by omega)
          have ew4 := wrB (41 * (k : Int) + 7 * (i : Int) + 1) (by omega) (by omega)
          generalize F2 k i = y5 at x5
          clear hst hth hp hF hv h1
          go_wp2
          obtain ⟨F', h1, h2⟩ := HST.out
          exact ⟨⟨i + 1, F', rfl, hlt2, h1, h2⟩, hm2⟩
        · have dl2 : decide ((i : Int) < mk) = false := decide_eq_false (by omega)
          obtain rfl : i = mk := by omega
          have hfull : ∀ j, j < k + 1 → ∀ x, x < M j → F2 j x = bMk j x := fun j hj x hx => by
            by_cases e : j = k
            · subst e
              exact hF x (by rw [← HMK.out]; exact hx)
            · exact hp.full j (by omega) x hx
          have HP2 : Hid (B1 w wr base Lb n (k + 1) V M F2) := ⟨hp.ls, hfull, hp.bel, hp.keep⟩
          clear hp hF hfull
          go_wp2
          exact ⟨⟨k + 1, F2, rfl, hlt, HP2.out⟩, hm⟩
    · have dl : decide ((k : Int) < n) = false := decide_eq_false (by omega)
      obtain rfl : k = n := by omega
      have hq := hp.to HLT.out
      have HQ : Hid (P2 w wr base Lb 5 29 1 k 0 0 V M bMk V M bMk (.slice none 0 0)) := hq
      clear hp hq hp0
      obtain ⟨i27, hi27, hz27, hs27, hb27⟩ := infoQ infoB'
      obtain ⟨i5, hi5, ha5, hb5, hc5⟩ := infoQ Try.info5'
      go_wp2
      go_loopw [6, 42] (fun v6 v42 wr => ∃ (j : Nat) (V' : Nat → Value) (M' : Nat → Nat) (F' : Nat → Nat → Value), v42 = .int .i64 j ∧ j ≤ k ∧ P2 w wr base Lb 5 29 1 k j j V M bMk V' M' F' v6 ∧ DoneB j M M' F') (fun _ v _ => k - (intOf v).toNat)
      case atStart => exact ⟨0, V, M, bMk, rfl, Nat.zero_le _, HQ.out, fun j hj => by omega⟩
      case round =>
        obtain ⟨j, V', M', F', rfl, hj, hp, hd⟩ := hrel
        by_cases hlt : j < k
        · have dl3 : decide ((j : Int) < k) = true := decide_eq_true (by omega)
          have hm3 := measB hlt
          have cL : wr.cell? ⟨Lb, j, none⟩ = some (V j) := (World.cell?_of_block (a := ⟨Lb, j, none⟩) hp.keep).trans (HL.out j hlt)
          have hMj := HM.out j hlt
          have hbs : base ≤ wr.heap.size := Nat.le_trans hB hp.bel.size
          have hLs : Lb < wr.heap.size := Nat.lt_of_lt_of_le hLb hp.bel.size
          have hform := (hp.ls.own j hlt).form
          obtain ⟨p, cj, hv, hpp⟩ : ∃ p cj, V j = .slice p (M j) cj ∧ (M j = 0 ∨ ∃ g, p = some ⟨g, 0, none⟩) := by
            rcases hform with ⟨h1, h2⟩ | ⟨g, c', h1, _⟩
            · exact ⟨none, 0, by rw [h1, h2], .inl h2⟩
            · exact ⟨_, _, h1, .inr ⟨g, rfl⟩⟩
          rw [hv] at cL
          obtain ⟨mj, hmj⟩ : ∃ mj, M j = mj := ⟨_, rfl⟩
          rw [hmj] at cL hMj hpp
          have HMJ : Hid (M j = mj) := hmj
          have HV : Hid (V j = .slice p mj cj) := by rw [hv, hmj]; exact rfl
          have HP : Hid (P2 w wr base Lb 5 29 1 k j j V M bMk V' M' F' u6) := hp
          have HD : Hid (DoneB j M M' F') := hd
          clear hp hd hform hv hmj HQ
          obtain ⟨wo, rfl⟩ : ∃ wo, wo = wr := ⟨_, rfl⟩
          go_wp2_with (at_make; refine wpList_make_full _ rfl (.const (.int .i64 70)) (.const (.int .i64 70)) 29 rfl wo.heap.size 5 i5 (.int .u8 0) 1 Try.underlying29 hi5 ha5 hb5 .i64 .i64 70 70 70 rfl rfl rfl rfl ?c1 ?c2 ?c3 ?_)
          case c1 => rw [hc5]; decide
          case c2 => unfold maxLen; decide
          case c3 => exact Nat.le_refl _
          intro w1 hown hgrow
          have hb1 : Below wo.heap.size wo w1 := (Below.refl _ _).grown hgrow (Nat.le_refl _) (by simp)
          obtain ⟨T0, hT0⟩ : ∃ T0, Own w1 wo.heap.size 5 1 (.slice (some ⟨wo.heap.size, 0, none⟩) 70 70) 70 T0 := ⟨_, own_of_row hown⟩
          have HT : Hid (Own w1 wo.heap.size 5 1 (.slice (some ⟨wo.heap.size, 0, none⟩) 70 70) 70 T0) := hT0
          have HB1 : Hid (Below wo.heap.size wo w1) := hb1
          clear hown hgrow hT0 hb1
          have cL1 : w1.cell? ⟨Lb, j, none⟩ = some (.slice p mj cj) := (World.cell?_of_block (a := ⟨Lb, j, none⟩) (HB1.out.block Lb hLs)).trans cL
          go_wp2
          go_loopw [50] (fun v wr => ∃ (i : Nat) (T : Nat → Value), v = .int .i64 i ∧ i ≤ 70 ∧ Own wr wo.heap.size 5 1 (.slice (some ⟨wo.heap.size, 0, none⟩) 70 70) 70 T ∧ (∀ x, x < i → T x = bTl j) ∧ Below wo.heap.size wo wr) (fun v _ => 70 - (intOf v).toNat)
          case atStart => exact ⟨0, T0, rfl, by omega, HT.out, fun x hx => by omega, HB1.out⟩
          case round =>
            obtain ⟨i, T, rfl, hi, hT, hF, hb⟩ := hrel
            by_cases hlt2 : i < 70
            · have dl4 : decide ((i : Int) < 70) = true := decide_eq_true (by omega)
              have hm4 := measB hlt2
              have x5 := hT.cell (j := i) (by omega)
              have f5 := (hT.there (o := i) (n := 1) (by omega) 0 (by decide)).2
              rw [Nat.add_zero] at f5
              have hgl := (hT.kind rfl).2.1
              have ew1 := wrB (200 + (j : Int)) (by omega) (by omega)
              have hst := hT.put i [bTl j]
              have hbn := hb.setCell (p := ⟨wo.heap.size, i, none⟩) (Nat.le_refl _) (bTl j)
              have HST : Hid (Own (wr.setCell ⟨wo.heap.size, i, none⟩ (.int .u8 ((200 + (j : Int)) % 256))) wo.heap.size 5 1 (.slice (some ⟨wo.heap.size, 0, none⟩) 70 70) 70 (putF T i [bTl j])) := hst
              have HBN : Hid (Below wo.heap.size wo (wr.setCell ⟨wo.heap.size, i, none⟩ (.int .u8 ((200 + (j : Int)) % 256)))) := hbn
              have HFN : Hid (∀ x, x < i + 1 → putF T i [bTl j] x = bTl j) := fun x hx => by
                unfold putF
                by_cases hc : i ≤ x ∧ x < i + [bTl j].length
                · rw [if_pos hc]
                  simp only [List.length_singleton] at hc
                  obtain rfl : x = i := by omega
                  simp
                · rw [if_neg hc]
                  simp only [List.length_singleton] at hc
                  exact hF x (by omega)
              generalize T i = y5 at x5
              clear hst hbn hT hF hb HT HB1
              go_wp2
              exact ⟨⟨i + 1, _, rfl, by omega, HST.out, HFN.out, HBN.out⟩, hm4⟩
            · have dl4 : decide ((i : Int) < 70) = false := decide_eq_false (by omega)
              obtain rfl : i = 70 := by omega
              have hpt := HP.out.later hb hbs hLs
              have hbt : base ≤ wr.heap.size := Nat.le_trans hbs hb.size
              obtain ⟨v', w2, hr, ⟨g, cg, rfl⟩, hsz1, hp1, hd1⟩ := hpt.tails HD.out hlt (by rw [HMJ.out]; exact hMj) hbt (fun x hx => by rw [← hF x hx]; exact hT.cell (by omega))
              rw [HV.out, HMJ.out] at hr
              rw [HMJ.out] at hp1 hd1
              have HP1 : Hid (P2 w w2 base Lb 5 29 1 k (j + 1) j V M bMk (ext V' j (.slice (some ⟨g, 0, none⟩) (mj + 70) cg)) (ext M' j (mj + 70)) (ext F' j (bPart mj j)) u6) := hp1
              have HD1 : Hid (DoneB (j + 1) M (ext M' j (mj + 70)) (ext F' j (bPart mj j))) := hd1
              clear hp1 hd1 hpt hT hF HT HB1
              have hbs2 : base ≤ w2.heap.size := Nat.le_trans hB HP1.out.bel.size
              have hLs2 : Lb < w2.heap.size := Nat.lt_of_lt_of_le hLb HP1.out.bel.size
              have hb1 : Below w2.heap.size w2 (w2.alloc (.cells #[.slice (some ⟨g, 0, none⟩) (mj + 70) cg] 29)) := (Below.refl _ w2).alloc (Nat.le_refl _) _
              have hmo := HP1.out.more.more hb1
              have hbs3 : base ≤ (w2.alloc (.cells #[.slice (some ⟨g, 0, none⟩) (mj + 70) cg] 29)).heap.size := Nat.le_trans hbs2 hb1.size
              have HMO : Hid ((w2.alloc (.cells #[.slice (some ⟨g, 0, none⟩) (mj + 70) cg] 29)).ownsRow base 29 1 u6 j (cellsF (ext V' j (.slice (some ⟨g, 0, none⟩) (mj + 70) cg)) (j * 1))) := hmo
              have HB2 : Hid (Below w2.heap.size w2 (w2.alloc (.cells #[.slice (some ⟨g, 0, none⟩) (mj + 70) cg] 29))) := hb1
              have p1 : j + 1 ≤ maxLen := by unfold maxLen; omega
              have p2 : (j + 1) * 24 ≤ 140737488355328 := by omega
              have hnew : Hid (∀ a u, [Value.slice (some ⟨g, 0, none⟩) (mj + 70) cg][a]? = some u → (w2.alloc (.cells #[.slice (some ⟨g, 0, none⟩) (mj + 70) cg] 29)).cell? ((⟨w2.heap.size, 0, none⟩ : Addr).add a) = some u) := fun a u ha => by
                have h0 : a = 0 := by
                  have := (List.getElem?_eq_some_iff.1 ha).1
                  simpa using this
                subst h0
                rw [addr_add0]
                unfold World.cell?
                rw [World.alloc_heap_new]
                exact ha
              clear hb1 hmo hb
              go_wp2_with (at_builtin; first | refine Lib.wpList_append_run _ rfl _ _ 29 29 rfl _ _ rfl rfl _ _ hr ?_ | (refine wpList_append_own_at _ rfl _ _ 35 rfl base 29 i27 _ 1 24 Try.underlying35 hi27 hz27 hs27 hb27 rfl (by decide) _ _ _ rfl HMO.out ⟨w2.heap.size, 0, none⟩ 1 1 [.slice (some ⟨g, 0, none⟩) (mj + 70) cg] rfl rfl hnew.out (by simp [Value.oneCell']) p1 p2 hbs3 ?_; intro mv' w5 hown5 hgrow5 _ hat5))
              have hown6 : Own w5 base 29 1 mv' (j + 1) (ext V' j (.slice (some ⟨g, 0, none⟩) (mj + 70) cg)) := by
                have e1 : [Value.slice (some ⟨g, 0, none⟩) (mj + 70) cg] = cellsF (fun _ => .slice (some ⟨g, 0, none⟩) (mj + 70) cg) 1 := rfl
                rw [e1, cellsF_append] at hown5
                have h7 : Own w5 base 29 1 mv' (j + 1) (fun a => if a < j * 1 then ext V' j (.slice (some ⟨g, 0, none⟩) (mj + 70) cg) a else .slice (some ⟨g, 0, none⟩) (mj + 70) cg) := by
                  unfold Own
                  rw [Nat.add_mul, Nat.one_mul]
                  exact hown5
                refine h7.congr fun a ha => ?_
                by_cases e : a < j * 1
                · rw [if_pos e]
                · rw [if_neg e]
                  obtain rfl : a = j := by omega
                  rw [ext_at]
              have hfin := HP1.out.push neB HB2.out hbs2 hLs2 hown6 hgrow5 hat5
              exact ⟨⟨j + 1, _, _, _, rfl, hlt, hfin, HD1.out⟩, hm3⟩
        · have dl3 : decide ((j : Int) < k) = false := decide_eq_false (by omega)
          obtain rfl : j = k := by omega
          have HPZ : Hid (P2 w wr base Lb 5 29 1 j j j V M bMk V' M' F' u6) := hp
          have HDZ : Hid (DoneB j M M' F') := hd
          clear hp hd HQ
          go_wp2
          go_loopw [70] (fun v wr => ∃ (a : Nat), v = .int .i64 a ∧ a ≤ j ∧ P2 w wr base Lb 5 29 1 j j j V M bMk V' M' F' u6) (fun v _ => j - (intOf v).toNat)
          case atStart => exact ⟨0, rfl, Nat.zero_le _, HPZ.out⟩
          case round =>
            obtain ⟨a, rfl, haj, hp⟩ := hrel
            by_cases hlt : a < j
            · have dl5 : decide ((a : Int) < j) = true := decide_eq_true (by omega)
              have hm5 := measB hlt
              have cL : wr.cell? ⟨Lb, a, none⟩ = some (V a) := (World.cell?_of_block (a := ⟨Lb, a, none⟩) hp.keep).trans (HL.out a hlt)
              have hMa := HM.out a hlt
              obtain ⟨hb, hc, g, cg, p, cl, hmv, hcell, hv, hr1, hr2⟩ := hp.readsB HDZ.out hlt
              rw [hv] at cL
              obtain ⟨ma, hma⟩ : ∃ ma, M a = ma := ⟨_, rfl⟩
              rw [hma] at cL hMa
              have HV : Hid (V a = .slice p (M a) cl) := hv
              have HMA : Hid (M a = ma) := hma
              have HPY : Hid (P2 w wr base Lb 5 29 1 j j j V M bMk V' M' F' u6) := hp
              clear hp hma hv hcell hmv hr1 hr2 HPZ
              go_wp2
              go_loopw [77] (fun v wr => ∃ (i : Nat), v = .int .i64 i ∧ i ≤ ma ∧ P2 w wr base Lb 5 29 1 j j j V M bMk V' M' F' u6) (fun v _ => ma - (intOf v).toNat)
              case atStart => exact ⟨0, rfl, Nat.zero_le _, HPY.out⟩
              case round =>
                obtain ⟨i, rfl, hi, hp⟩ := hrel
                by_cases hlt2 : i < ma
                · have dl6 : decide ((i : Int) < ma) = true := decide_eq_true (by omega)
                  have hm6 := measB hlt2
                  obtain ⟨hb, hc, g, cg, p2, cl2, rfl, hcell, hv, hr1, hr2⟩ := hp.readsB HDZ.out hlt
                  have hpe : p2 = p := by
                    have := hv.symm.trans HV.out
                    injection this
                  subst hpe
                  obtain ⟨gl, rfl, y0, z0⟩ := hr1 i (by rw [HMA.out]; exact hlt2)
                  rw [HMA.out] at hcell
                  have HPY2 : Hid (P2 w wr base Lb 5 29 1 j j j V M bMk V' M' F' (.slice (some ⟨hb, 0, none⟩) j hc)) := hp
                  clear hp hv hr1 hr2 HPY
                  have ew1 := wrB (41 * (a : Int)) (by omega) (by omega)
                  have ew2 := wrB (7 * (i : Int)) (by omega) (by omega)
                  have ew3 := wrB (41 * (a : Int) + 7 * (i : Int)) (by omega) (by omega)
                  have ew4 := wrB (41 * (a : Int) + 7 * (i : Int) + 1) (by omega) (by omega)
                  have ew5 : IntKind.u8.wrap (41 * (a : Int) + 7 * (i : Int) + 1) = (41 * (a : Int) + 7 * (i : Int) + 1) % 256 := IntKind.wrap_u8 _
                  unfold bMk at y0 z0
                  go_wp2
                  go_quiet (fail)
                  go_wp2
                  exact ⟨⟨i + 1, rfl, hlt2, HPY2.out.still _⟩, hm6⟩
                · have dl6 : decide ((i : Int) < ma) = false := decide_eq_false (by omega)
                  obtain rfl : i = ma := by omega
                  have HPY2 : Hid (P2 w wr base Lb 5 29 1 j j j V M bMk V' M' F' u6) := hp
                  clear hp HPY
                  go_wp2
                  go_loopw [15] (fun v wr => ∃ (x : Nat), v = .int .i64 x ∧ i ≤ x ∧ x ≤ i + 70 ∧ P2 w wr base Lb 5 29 1 j j j V M bMk V' M' F' u6) (fun v _ => i + 70 - (intOf v).toNat)
                  case atStart => exact ⟨i, rfl, Nat.le_refl _, Nat.le_add_right _ _, HPY2.out⟩
                  case round =>
                    obtain ⟨x, rfl, hx0, hx1, hp⟩ := hrel
                    obtain ⟨hb, hc, g, cg, p2, cl2, rfl, hcell, hv, hr1, hr2⟩ := hp.readsB HDZ.out hlt
                    rw [HMA.out] at hcell
                    have HPY3 : Hid (P2 w wr base Lb 5 29 1 j j j V M bMk V' M' F' (.slice (some ⟨hb, 0, none⟩) j hc)) := hp
                    by_cases hlt3 : x < i + 70
                    · have dl7 : decide ((x : Int) < (i : Int) + 70) = true := decide_eq_true (by omega)
                      have hm7 := measB hlt3
                      have z0 := hr2 x (by rw [HMA.out]; exact hx0) (by rw [HMA.out]; exact hlt3)
                      have ew1 := wrB (200 + (a : Int)) (by omega) (by omega)
                      have ew5 : IntKind.u8.wrap (200 + (a : Int)) = (200 + (a : Int)) % 256 := IntKind.wrap_u8 _
                      have dn7 : decide (x < i + 70) = true := decide_eq_true hlt3
                      unfold bTl at z0
                      clear hp hv hr1 hr2 HPY2
                      go_wp2
                      exact ⟨⟨x + 1, rfl, by omega, by omega, HPY3.out⟩, hm7⟩
                    · have dl7 : decide ((x : Int) < (i : Int) + 70) = false := decide_eq_false (by omega)
                      have dn7 : decide (x < i + 70) = false := decide_eq_false hlt3
                      clear hp hv hr1 hr2 HPY2
                      go_wp2
                      exact ⟨⟨a + 1, rfl, hlt, HPY3.out⟩, hm5⟩
            · have dl5 : decide ((a : Int) < j) = false := decide_eq_false (by omega)
              obtain rfl : a = j := by omega
              have HPY : Hid (P2 w wr base Lb 5 29 1 a a a V M bMk V' M' F' u6) := hp
              clear hp HPZ
              go_wp2
              go_ret
              exact ⟨rfl, HPY.out.bel⟩
end Go.Proofs.Ytcibmbcfpecgpaa
