import Derived.Test.YtidffddmlaedcaaDoorLMadeL
namespace Go.Proofs.YtidffddmlaedcaaDoor
open Go.ChangeShapes Go.WideShapes Go.ChangeAt Go.RowKit
set_option linter.unusedVariables false

theorem byteAt (g : Bs) (k : Nat) (h : k < g.length) (h' : k < (⟨g.toArray⟩ : ByteArray).size) : (⟨g.toArray⟩ : ByteArray)[k]'h' = g[k] := rfl
set_option maxRecDepth 100000 in
set_option maxHeartbeats 8000000 in
theorem law_made (p : Option Addr) (n c : Nat) (X : Nat → Pv) (hX : ∀ i, i < n → (X i).num < 18446744073709551616) (w : World) (hP : PAt w p n X) (g : Gr w) :
    Calls Tryd.prog 4 #[.slice p n c] w fun e w' => e = .returned (.bool true) ∧ Below w.heap.size w w' := by
  by_cases h500 : n ≤ 500
  · obtain ⟨i0, hi, hz0, hz1, hz2⟩ := info_parts infoTk
    have d0 : decide ((n : Int) > 500) = false := decide_eq_false (by omega)
    have d1 : decide ((500 : Int) < n) = false := decide_eq_false (by omega)
    go_enter Tryd.func4, Tryd.ntmps4
    go_wp2
    go_loopw [3, 4, 5, 6, 7] (fun v3 v4 v5 v6 v7 wr => ∃ (i ln cl : Nat), v3 = .string ⟨(madeT (qs X i)).toArray⟩ ∧ v5 = .int .i64 ln ∧ v6 = .int .i64 cl ∧ v7 = .int .i64 i ∧ i ≤ n ∧ madeE (qs X i) 1 1 = (ln, cl) ∧ ln ≤ 41 * i + 1 ∧ cl ≤ 42 * i + 1 ∧ (madeT (qs X i)).length ≤ 41 * i ∧ wr.ownsRow w.heap.size 34 5 v4 i (tksCells (madeL (qs X i) 1 1)) ∧ Below w.heap.size w wr) (fun _ _ _ _ v _ => n - (intOf v).toNat)
    case atStart => exact ⟨0, 1, 1, rfl, rfl, rfl, rfl, Nat.zero_le _, rfl, by omega, by omega, Nat.le_refl _, World.ownsRow_nil _ _ _ _, Below.refl _ _⟩
    case round =>
      obtain ⟨i, ln, cl, rfl, rfl, rfl, rfl, hin, hE, hln, hcl, htl, hown, hbel⟩ := hrel
      obtain ⟨wq, hwq⟩ : ∃ wq, wq = wr := ⟨_, rfl⟩
      subst hwq
      obtain ⟨vp, vm, vc, rfl⟩ := own_slice hown
      have hvm := own_len' hown
      subst vm
      by_cases hlt : i < n
      · have dl : decide ((i : Int) < n) = true := decide_eq_true (by omega)
        obtain ⟨b, o, rfl, hbw, hcells⟩ : ∃ b o, p = some ⟨b, o, none⟩ ∧ b < w.heap.size ∧ ∀ i, i < n → w.cell? ⟨b, o + i * 3, none⟩ = some (.int .i64 (X i).wh) ∧ w.cell? ⟨b, o + i * 3 + 1, none⟩ = some (.int .i64 (X i).gp) ∧ w.cell? ⟨b, o + i * 3 + 2, none⟩ = some (.int .u64 (X i).num) := by
          rcases hP with h | h
          · omega
          · exact h
        have hok := (X i).ok (hX i hlt)
        have hcl3 : ∀ W, Below w.heap.size w W → W.cell? ⟨b, o + i * 3, none⟩ = some (.int .i64 (X i).wh) ∧ W.cell? ⟨b, o + i * 3 + 1, none⟩ = some (.int .i64 (X i).gp) ∧ W.cell? ⟨b, o + i * 3 + 2, none⟩ = some (.int .u64 (X i).num) := fun W hW => by
          rw [cell_below' hW hbw, cell_below' hW hbw, cell_below' hW hbw]
          exact hcells i hlt
        have hT : madeT (qs X (i + 1)) = madeT (qs X i) ++ (gapB (X i).q.g ++ (X i).q.text) := by rw [qs_succ, madeT_app]
        have hL : tksCells (madeL (qs X (i + 1)) 1 1) = tksCells (madeL (qs X i) 1 1) ++ tkCells (madeTk (X i).q ln cl) := by rw [qs_succ, madeL_app, hE]; simp [tksCells]
        have hE' : madeE (qs X (i + 1)) 1 1 = madeP (X i).q ln cl := by rw [qs_succ, madeE_app, hE]
        have htx := text_len (X i).q.w (X i).q.num hok.1 hok.2.2
        have hgl := gap_len (X i).q.g
        have HG : ∀ w', Hid (Calls Tryd.prog 13 #[.int .i64 (X i).gp] w' fun e w'' => e = .returned (.string ⟨(gapB (X i).q.g).toArray⟩) ∧ Below w'.heap.size w' w'') := fun w' => gapOf_any _ w'
        have HSp : ∀ w', Hid (Calls Tryd.prog 14 #[.agg #[.int .i64 (X i).wh, .int .i64 (X i).gp, .int .u64 (X i).num]] w' fun e w'' => e = .returned (.agg #[.int .i64 ((tok72 (X i).q.w (X i).q.num).1 : Nat), .string ⟨((X i).q.text).toArray⟩, .int .u64 ((tok72 (X i).q.w (X i).q.num).2.2 : Nat), .int .i64 0, .int .i64 0]) ∧ Below w'.heap.size w' w'') := fun w' => spelled_any (X i).wh (X i).gp (X i).num (X i).q.w _ rfl (tmod72 _) hok.1 hok.2.2 w'
        have htk : tkCells (madeTk (X i).q ln cl) = [.int .i64 ((tok72 (X i).q.w (X i).q.num).1 : Nat), .string ⟨((X i).q.text).toArray⟩, .int .u64 ((tok72 (X i).q.w (X i).q.num).2.2 : Nat), .int .i64 (pos (gapB (X i).q.g) ln cl).1, .int .i64 (pos (gapB (X i).q.g) ln cl).2] := rfl
        rw [htk] at hL
        have hPE : madeP (X i).q ln cl = ((pos (gapB (X i).q.g) ln cl).1, (pos (gapB (X i).q.g) ln cl).2 + (X i).q.text.length) := rfl
        rw [hPE] at hE'
        have htx' : (X i).q.text.length ≤ 31 := htx
        have hpl := pos_le (gapB (X i).q.g) ln cl
        clear htx htk hPE hok hcells hX hE
        generalize madeL (qs X i) 1 1 = L0 at *
        generalize madeT (qs X i) = s at *
        generalize (tok72 (X i).q.w (X i).q.num).1 = kd at *
        generalize (tok72 (X i).q.w (X i).q.num).2.2 = vl at *
        generalize (X i).q.text = t at *
        generalize gapB (X i).q.g = gp at *
        have HT : Hid (madeT (qs X (i + 1)) = s ++ (gp ++ t)) := hT
        have HL := (show Hid _ from hL)
        have HE := (show Hid _ from hE')
        clear hT hL hE'
        generalize (X i).wh = xw at *
        generalize (X i).gp = xg at *
        generalize (X i).num = xn at *
        obtain ⟨c0, c1, c2⟩ := hcl3 wq hbel
        go_wp2_with (go_at_call 13; (with_reducible refine ((HG _).out).mono ?_); rintro e w1 ⟨rfl, hb1⟩)
        have hbel1 := hbel.trans (hb1.mono hbel.size)
        obtain ⟨l9, hl9⟩ : ∃ l9, (pos gp ln cl).1 = l9 := ⟨_, rfl⟩
        obtain ⟨q9, hq9⟩ : ∃ q9, (pos gp ln cl).2 = q9 := ⟨_, rfl⟩
        go_loopw [5, 6, 9] (fun v5 v6 v9 wr' => ∃ k : Nat, v5 = .int .i64 (pos (gp.take k) ln cl).1 ∧ v6 = .int .i64 (pos (gp.take k) ln cl).2 ∧ v9 = .int .i64 k ∧ k ≤ gp.length ∧ wr' = w1) (fun _ _ v _ => gp.length - (intOf v).toNat)
        case atStart => exact ⟨0, rfl, rfl, rfl, Nat.zero_le _, rfl⟩
        case round =>
          obtain ⟨k, rfl, rfl, rfl, hk, hwr⟩ := hrel
          obtain ⟨w1', hw1'⟩ : ∃ w1', w1' = w1 := ⟨_, rfl⟩
          rw [← hw1'] at hwr
          subst hwr
          subst hw1'
          have hgz : (⟨gp.toArray⟩ : ByteArray).size = gp.length := by simp [ByteArray.size]
          by_cases hkl : k < gp.length
          · have dk : decide ((k : Int) < gp.length) = true := decide_eq_true (by omega)
            have hkb : k < (⟨gp.toArray⟩ : ByteArray).size := by omega
            obtain ⟨ch, hch⟩ : ∃ ch, gp[k] = ch := ⟨_, rfl⟩
            have hgk : ((⟨gp.toArray⟩ : ByteArray)[k]'hkb) = ch := by rw [← hch]; rfl
            have hpt := pos_take gp k hkl ln cl
            have hpb := pos_le (gp.take k) ln cl
            have htk' : (gp.take k).length ≤ 10 := by rw [List.length_take]; omega
            rw [hch] at hpt
            have hm' := meas hkl
            by_cases h10 : ch.toNat = 10
            · rw [if_pos h10] at hpt
              have e1 : ((ch.toNat : Int) == 10) = true := by simp; omega
              have HP1 : Hid ((pos (gp.take (k + 1)) ln cl).1 = (pos (gp.take k) ln cl).1 + 1) := by show _ = _; rw [hpt]
              have HP2 : Hid ((pos (gp.take (k + 1)) ln cl).2 = 1) := by show _ = _; rw [hpt]
              clear hpt hch
              generalize (pos (gp.take k) ln cl).1 = a1 at *
              generalize (pos (gp.take k) ln cl).2 = a2 at *
              go_wp2
              exact ⟨⟨k + 1, by rw [HP1.out]; rfl, by rw [HP2.out]; rfl, rfl, hkl, by trivial⟩, hm'⟩
            · rw [if_neg h10] at hpt
              have e1 : ((ch.toNat : Int) == 10) = false := by simp; omega
              have HP1 : Hid ((pos (gp.take (k + 1)) ln cl).1 = (pos (gp.take k) ln cl).1) := by show _ = _; rw [hpt]
              have HP2 : Hid ((pos (gp.take (k + 1)) ln cl).2 = (pos (gp.take k) ln cl).2 + 1) := by show _ = _; rw [hpt]
              clear hpt hch
              generalize (pos (gp.take k) ln cl).1 = a1 at *
              generalize (pos (gp.take k) ln cl).2 = a2 at *
              go_wp2
              exact ⟨⟨k + 1, by rw [HP1.out], by rw [HP2.out]; rfl, rfl, hkl, by trivial⟩, hm'⟩
          · have dk : decide ((k : Int) < gp.length) = false := decide_eq_false (by omega)
            obtain rfl : k = gp.length := by omega
            rw [List.take_length, hl9, hq9]
            rw [hl9, hq9] at hpl
            have hE2 := HE.out
            have hL2 := HL.out
            rw [hl9, hq9] at hE2 hL2
            clear HE HL
            have HE := (show Hid _ from hE2)
            have HL := (show Hid _ from hL2)
            clear hE2 hL2 hl9 hq9 HG
            obtain ⟨z0, z1, z2⟩ := hcl3 wr hbel1
            have hmore : ∀ w2, Below wr.heap.size wr w2 → Hid (((w2.alloc (.cells #[.int .i64 kd, .string ⟨t.toArray⟩, .int .u64 vl, .int .i64 l9, .int .i64 q9] 34)).alloc (.cells #[.int .i64 kd, .string ⟨t.toArray⟩, .int .u64 vl, .int .i64 l9, .int .i64 q9] 34)).ownsRow w.heap.size 34 5 (.slice vp i vc) i (tksCells L0) ∧ w.heap.size ≤ ((w2.alloc (.cells #[.int .i64 kd, .string ⟨t.toArray⟩, .int .u64 vl, .int .i64 l9, .int .i64 q9] 34)).alloc (.cells #[.int .i64 kd, .string ⟨t.toArray⟩, .int .u64 vl, .int .i64 l9, .int .i64 q9] 34)).heap.size ∧ (∀ j u, [.int .i64 kd, .string ⟨t.toArray⟩, .int .u64 vl, .int .i64 l9, .int .i64 q9][j]? = some u → ((w2.alloc (.cells #[.int .i64 kd, .string ⟨t.toArray⟩, .int .u64 vl, .int .i64 l9, .int .i64 q9] 34)).alloc (.cells #[.int .i64 kd, .string ⟨t.toArray⟩, .int .u64 vl, .int .i64 l9, .int .i64 q9] 34)).cell? ((⟨w2.heap.size + 1, 0, none⟩ : Addr).add j) = some u) ∧
                ∀ w3, ((w2.alloc (.cells #[.int .i64 kd, .string ⟨t.toArray⟩, .int .u64 vl, .int .i64 l9, .int .i64 q9] 34)).alloc (.cells #[.int .i64 kd, .string ⟨t.toArray⟩, .int .u64 vl, .int .i64 l9, .int .i64 q9] 34)).grownBy w3 (Value.ownBlock (.slice vp i vc)) → Below w.heap.size w w3) := by
              intro w2 hb2
              have hb12 := hb1.trans (hb2.mono hb1.size)
              have hbb : Below wq.heap.size wq ((w2.alloc (.cells #[.int .i64 kd, .string ⟨t.toArray⟩, .int .u64 vl, .int .i64 l9, .int .i64 q9] 34)).alloc (.cells #[.int .i64 kd, .string ⟨t.toArray⟩, .int .u64 vl, .int .i64 l9, .int .i64 q9] 34)) := (hb12.trans ((Below.refl _ w2).alloc hb12.size _)).trans ((Below.refl _ _).alloc (by have := hb12.size; simp; omega) _)
              have hb3 : Below w.heap.size w ((w2.alloc (.cells #[.int .i64 kd, .string ⟨t.toArray⟩, .int .u64 vl, .int .i64 l9, .int .i64 q9] 34)).alloc (.cells #[.int .i64 kd, .string ⟨t.toArray⟩, .int .u64 vl, .int .i64 l9, .int .i64 q9] 34)) := hbel.trans (hbb.mono hbel.size)
              refine ⟨own_more' hown hbb, hb3.size, ?_, ?_⟩
              · have := cell_five_new (w2.alloc (.cells #[.int .i64 kd, .string ⟨t.toArray⟩, .int .u64 vl, .int .i64 l9, .int .i64 q9] 34)) (.int .i64 kd) (.string ⟨t.toArray⟩) (.int .u64 vl) (.int .i64 l9) (.int .i64 q9) 34
                rw [World.size_alloc] at this
                exact this
              · intro w3 hgrow
                exact hb3.grown hgrow hb3.size (fun k e => own_base hown e)
            have p1 : i + 1 ≤ maxLen := by unfold maxLen; omega
            have p2 : (i + 1) * 48 ≤ 140737488355328 := by omega
            have htz : (⟨t.toArray⟩ : ByteArray).size = t.length := by simp [ByteArray.size]
            have hs1 : (⟨s.toArray⟩ : ByteArray).size + (⟨gp.toArray⟩ : ByteArray).size ≤ 9223372036854775807 := by simp [ByteArray.size]; omega
            have hs2 : (⟨(s ++ gp).toArray⟩ : ByteArray).size + (⟨t.toArray⟩ : ByteArray).size ≤ 9223372036854775807 := by simp [ByteArray.size]; omega
            have ha1 : ∀ W, (Op.stringOp .add ⟨s.toArray⟩ ⟨gp.toArray⟩).run Tryd.prog W = .ok (.string (⟨s.toArray⟩ ++ ⟨gp.toArray⟩)) W := fun W => run_string_add_sum (P := Tryd.prog) (w := W) _ _ hs1
            have hc1 : (⟨s.toArray⟩ ++ ⟨gp.toArray⟩ : ByteArray) = ⟨(s ++ gp).toArray⟩ := cat2 s gp
            rw [hc1] at ha1
            have hc2 : (⟨(s ++ gp).toArray⟩ ++ ⟨t.toArray⟩ : ByteArray) = ⟨(s ++ gp ++ t).toArray⟩ := cat2 (s ++ gp) t
            have ha2 : ∀ W, (Op.stringOp .add ⟨(s ++ gp).toArray⟩ ⟨t.toArray⟩).run Tryd.prog W = .ok (.string ⟨(s ++ gp ++ t).toArray⟩) W := fun W => by rw [← hc2]; exact run_string_add_sum (P := Tryd.prog) (w := W) _ _ hs2
            have hlen : (s ++ gp ++ t).length ≤ 41 * (i + 1) := by simp; omega
            have HT2 : Hid (madeT (qs X (i + 1)) = s ++ gp ++ t) := by show _ = _; rw [HT.out, List.append_assoc]
            have hq1 : q9 + t.length ≤ 42 * (i + 1) + 1 := by omega
            have hl1 : l9 ≤ 41 * (i + 1) + 1 := by omega
            have hq2 : (q9 : Int) + t.length ≤ 30000 := by omega
            have hm' := meas hlt
            clear hs1 hs2 hc1 hc2 HT htl
            generalize hsg : s ++ gp = sg at *
            generalize hsgt : sg ++ t = sgt at *
            clear hsg hsgt
            go_wp2_with (first | (go_at_call 14; (with_reducible refine ((HSp _).out).mono ?_); rintro e w2 ⟨rfl, hb2⟩) | (at_builtin; obtain ⟨m1, m2, m3, m4⟩ := (hmore w2 hb2).out; refine wpList_append_own_at _ rfl _ _ 24 rfl w.heap.size 34 i0 _ 5 48 Tryd.underlying24 hi hz0 hz1 hz2 rfl (by decide) _ _ _ rfl m1 ⟨w2.heap.size + 1, 0, none⟩ 1 1 [.int .i64 kd, .string ⟨t.toArray⟩, .int .u64 vl, .int .i64 l9, .int .i64 q9] rfl rfl m3 (by simp [Value.oneCell']) p1 p2 m2 ?_; intro v' w3 hown' hgrow _ _; obtain ⟨g', cap', rfl⟩ := ownsRow_succ hown'; have hb4 := m4 w3 hgrow; clear m1 m2 m3 m4 hmore))
            exact ⟨⟨i + 1, l9, q9 + t.length, by rw [HT2.out], rfl, rfl, rfl, hlt, HE.out, hl1, hq1, by rw [HT2.out]; exact hlen, by rw [HL.out]; exact hown', hb4⟩, hm'⟩
      · have dl : decide ((i : Int) < n) = false := decide_eq_false (by omega)
        obtain rfl : i = n := by omega
        have hscan : scanT (madeT (qs X i)) = (madeL (qs X i) 1 1, none) := by
          rw [scanT_fits _ (by omega)]
          refine scan_made _ (fun q hq => ?_) 1 1 0 ?_
          · unfold qs at hq
            obtain ⟨k, hk, rfl⟩ := List.mem_map.1 hq
            exact (X k).ok (hX k (List.mem_range.1 hk))
          · unfold qs; simp; omega
        have hLl : (madeL (qs X i) 1 1).length = i := by
          have : ∀ (a : List Pk) l c, (madeL a l c).length = a.length := by
            intro a
            induction a with
            | nil => intro l c; rfl
            | cons q a ih => intro l c; show (madeL a _ _).length + 1 = _; rw [ih]; rfl
          rw [this]
          unfold qs
          simp
        have HSc : Hid (Calls Tryd.prog 10 #[.string ⟨(madeT (qs X i)).toArray⟩] wq fun e w'' => ∃ p m c, e = .returned (.tuple #[.slice p m c, .nilIface]) ∧ w''.ownsRow wq.heap.size 34 5 (.slice p m c) (madeL (qs X i) 1 1).length (tksCells (madeL (qs X i) 1 1)) ∧ Below wq.heap.size wq w'') := by
          refine (scan_any _ (by unfold maxLen; omega) wq (g.keep hbel)).mono ?_
          rw [hscan]
          rintro e w'' ⟨hb, ⟨_, v, rfl, ho⟩ | ⟨er', q, hx, _⟩⟩
          · obtain ⟨p, m, c, rfl⟩ := own_slice ho
            exact ⟨p, m, c, rfl, ho, hb⟩
          · cases hx
        generalize madeL (qs X i) 1 1 = L0 at *
        have hown2 : wq.ownsRow w.heap.size 34 5 (.slice vp i vc) L0.length (tksCells L0) := by rw [hLl]; exact hown
        have HSm : ∀ pa ma ca w', Below wq.heap.size wq w' → w'.ownsRow wq.heap.size 34 5 (.slice pa ma ca) L0.length (tksCells L0) → Hid (Calls Tryd.prog 12 #[.slice pa ma ca, .slice vp i vc] w' fun e w'' => e = .returned (.bool true) ∧ Below w'.heap.size w' w'') := fun pa ma ca w' hb ho => same_yes _ _ _ _ L0 (by omega) w' ho (own_more' hown2 hb)
        have HA : ∀ w', Below w.heap.size w w' → Hid (Calls Tryd.prog 9 #[] w' fun e w'' => e = .returned (.bool true) ∧ Below w'.heap.size w' w'') := fun w' hb => awake_any w' (g.keep hb)
        generalize madeT (qs X i) = s at *
        clear hscan hE hown hown2 hX hP htl hLl
        go_wp2_with (first | (go_at_call 10; (with_reducible refine (HSc.out).mono ?_); rintro e w1 ⟨pa, ma, ca, rfl, oa, hb1⟩; have hc1 := hbel.trans (hb1.mono hbel.size)) | (go_at_call 12; (with_reducible refine ((HSm _ _ _ _ hb1 oa).out).mono ?_); rintro e w2 ⟨rfl, hb2⟩; have hc2 := hc1.trans (hb2.mono hc1.size)) | (go_at_call 9; (with_reducible refine ((HA _ hc2).out).mono ?_); rintro e w3 ⟨rfl, hb3⟩; have hc3 := hc2.trans (hb3.mono hc2.size)))
        go_ret
        exact ⟨rfl, hc3⟩
  · have d0 : decide ((n : Int) > 500) = true := decide_eq_true (by omega)
    have d1 : decide ((500 : Int) < n) = true := decide_eq_true (by omega)
    go_enter Tryd.func4, Tryd.ntmps4
    go_wp2
    go_ret
    exact ⟨rfl, Below.refl _ _⟩
end Go.Proofs.YtidffddmlaedcaaDoor
