import Derived.Test.YtmkchlhfcffdkaaPV1
import Derived.BigQuiet
import Derived.Deep.RegionLaw
import Derived.Deep.RegionHeld3
import Derived.Deep.Cut
import Derived.Deep.DeepCutAuto
import Derived.Deep.CutBlock
import Derived.Deep.CutRange
import Derived.Deep.AppendLies
import Derived.Handy
import Derived.Lib.RabinKarpLaws
import Derived.ArgAppend
import Derived.Lib.JoinLaws
namespace Go.Proofs.Ytmkchlhfcffdkaa
open Go.ChangeShapes Go.WideShapes Go.ChangeAt Go.RowKit
set_option linter.unusedVariables false
set_option linter.unusedSimpArgs false

theorem wpList_app9 {P : Program} {w : World} {ops : Array Oper} {rest : List Oper} {o : Oper} {a : Act} {Q : Exit → Act → World → Prop} (hgd : o.guard = none) (s x : Operand) (t : TypeId)
    (ho : o.op = .call { callee := .builtin .append, args := #[s, x], argTypes := #[t, t] }) (base : Nat) (e : TypeId) (i : TypeInfo) (z : Value) (size bytes : Nat) (ht : P.underlying t = some (.slice e)) (hi : P.info? e = some i) (hz : i.zero = some z)
    (hsize : i.size = size) (hby : i.bytes = bytes) (hzs : z.cells.size = size) (hsz : 0 < size) (v : Value) (n : Nat) (xs : List Value) (hs : a.eval s = v) (hown : w.ownsRow base e size v n xs)
    (ad : Addr) (m c : Nat) (news : List Value) (hx : a.eval x = .slice (some ad) m c) (hl : news.length = m * size) (hnews : ∀ j u, news[j]? = some u → w.cell? (ad.add j) = some u) (h1 : ∀ u ∈ news, u.oneCell' = true)
    (h63 : n + m ≤ maxLen) (hbytes : (n + m) * bytes ≤ 140737488355328) (hbase : base ≤ w.heap.size)
    (h : ∀ v' w', w'.ownsRow base e size v' (n + m) (xs ++ news) → w.grownBy w' v.ownBlock → (v'.ownBlock = v.ownBlock ∨ v'.ownBlock = some w.heap.size) → wpList P ops Q rest (a.put o.dst v') w') : wpList P ops Q (o :: rest) a w := by
  obtain ⟨v', w', hr, h2, h3, _, h5⟩ := run_append_own_at (P := P) w base t o.type e i z size bytes ht hi hz hsize hby hzs hsz v n xs hown ad m c news hl hnews h1 h63 hbytes hbase
  refine wpList_plain hgd fun K hK => ?_
  unfold Oper.wp
  simp [execOp, ho, resolve, invoke, builtin, hs, hx, hr, Result.andThen]
  exact hK _ _ (h _ _ h2 h3 h5)

theorem SIn.ev {W : World} {lb lo m : Nat} {X : Nat → Se} (h : ∀ j, j < m * 6 → W.cell? ⟨lb, lo + j, none⟩ = some (seF X j)) (k : Nat) (hk : k < m) : W.cell? ⟨lb, lo + k * 6, none⟩ = some (.int .u64 (X k).t) ∧ W.cell? ⟨lb, lo + k * 6 + 1, none⟩ = some (.int .i64 (X k).s) ∧ W.cell? ⟨lb, lo + k * 6 + 2, none⟩ = some (.int .u64 (X k).q) ∧ W.cell? ⟨lb, lo + k * 6 + 3, none⟩ = some (.int .i64 (X k).d) ∧ W.cell? ⟨lb, lo + k * 6 + 4, none⟩ = some (.int .i64 (X k).k) ∧ W.cell? ⟨lb, lo + k * 6 + 5, none⟩ = some (.int .i64 (X k).v) := by
  have hh : ∀ r, r < 6 → W.cell? ⟨lb, lo + k * 6 + r, none⟩ = some (seC (X k) r) := fun r hr => by
    have := h (k * 6 + r) (by omega)
    rw [seF_at _ _ _ hr] at this
    rw [Nat.add_assoc]
    exact this
  exact ⟨hh 0 (by decide), hh 1 (by decide), hh 2 (by decide), hh 3 (by decide), hh 4 (by decide), hh 5 (by decide)⟩
theorem infoLS : (Try.prog.info? 47).map (fun i => (i.zero, i.size, i.bytes)) = some (some (.slice none 0 0), 1, 24) := by kernel_rfl
set_option maxRecDepth 100000 in
set_option maxHeartbeats 4000000 in
theorem events_bad (p : Option Addr) (N c : Nat) (W : World) (h : ¬ (1 ≤ N ∧ N ≤ 6)) : Calls Try.prog 4 #[.slice p N c] W fun e W' => e = .returned (.bool true) ∧ Below W.heap.size W W' := by
  have hc : (decide ((N : Int) < 1) = true ∧ decide (N < 1) = true) ∨ (decide ((N : Int) < 1) = false ∧ decide (N < 1) = false ∧ decide (6 < (N : Int)) = true ∧ decide (6 < N) = true) := by
    by_cases h1 : N < 1
    · exact .inl ⟨by simp; omega, by simp; omega⟩
    · exact .inr ⟨by simp; omega, by simp; omega, by simp; omega, by simp; omega⟩
  clear h
  rcases hc with ⟨d1, d2⟩ | ⟨d1, d2, d3, d4⟩
  all_goals (
    go_enter Try.func4, Try.ntmps4
    go_wp2_with fail
    go_ret
    exact ⟨rfl, Below.refl _ _⟩)
theorem phS (x : Nat) : (fun i => if i = x then (1 : Int) else if i < x then 1 else 0) = fun i => if i < x + 1 then (1 : Int) else 0 := by
  funext i
  by_cases e : i = x
  · rw [if_pos e, if_pos (by omega)]
  · rw [if_neg e]
    by_cases e2 : i < x
    · rw [if_pos e2, if_pos (by omega)]
    · rw [if_neg e2, if_neg (by omega)]
set_option maxRecDepth 100000 in
set_option maxHeartbeats 16000000 in
theorem events_good (n : Nat) (hn1 : 1 ≤ n) (hn6 : n ≤ 6) (p : Option Addr) (c : Nat) (L : Nat → LsP) (W : World) (h : LsIn W p n L) : Calls Try.prog 4 #[.slice p n c] W fun e W' => e = .returned (.bool true) ∧ Below W.heap.size W W' := by
  have d1 : decide ((n : Int) < 1) = false := by simp; omega
  have d1n : decide (n < 1) = false := by simp; omega
  have d2 : decide (6 < (n : Int)) = false := by simp; omega
  have d2n : decide (6 < n) = false := by simp; omega
  have HNW : Calls Try.prog 12 #[.int .i64 (n : Int), .int .i64 1024, cvE] W fun e w' => ∃ hb wb bb R, e = .returned (.tuple #[.pointer (some ⟨hb, 0, none⟩), .int .i64 0]) ∧ NP w' W.heap.size hb wb bb n 1024 cvE R n ∧ Below W.heap.size W w' := mb_newC 13 #[] n 1024 (by omega) (by omega) (by decide) (by decide) W
  obtain ⟨B, hB⟩ : ∃ B, W.heap.size = B := ⟨_, rfl⟩
  rw [hB] at HNW ⊢
  obtain ⟨iT, hT1, hT2, hT3, hT4⟩ := binfo infoTH
  obtain ⟨iL, hL1, hL2, hL3, hL4⟩ := binfo infoLS
  rcases h.1 with h0 | ⟨b0, o0, rfl, hb0, hc0⟩
  · omega
  have HH := mhid (And.intro h.2 (And.intro hB (And.intro hn1 (And.intro hn6 (And.intro hb0 hc0)))))
  clear h hB hn1 hn6 hb0 hc0
  go_enter Try.func4, Try.ntmps4
  go_wp2_with (go_at_call 12; (with_reducible refine HNW.mono ?_); rintro e9 w1 ⟨hb, wb, bb, R, rfl, np, b1⟩; have HNP := mhid (And.intro np b1); clear np b1)
  clear HNW d1 d1n d2 d2n
  go_loopw [6, 7] (fun a y wr => ∃ (i : Nat) (H : Nat → Nat → Nat → Hf) (Y : Nat → LsP), y = .int .i64 (i : Int) ∧ i ≤ n ∧ ES wr B hb wb bb n R (fun _ => 0) H a i Y ∧ Below B W wr) (fun _ y _ => n - (intOf y).toNat)
  case atStart =>
    refine ⟨0, noH, L, rfl, Nat.zero_le _, ⟨HNP.out.1.mp, fun j hj => absurd hj (Nat.not_lt_zero _), fun _ _ _ _ _ _ _ => rfl, ⟨rfl, .inl ⟨rfl, rfl⟩⟩, fun j hj => absurd hj (Nat.not_lt_zero _), fun k hk => by simp [Value.ownBlock] at hk, fun j hj => absurd hj (Nat.not_lt_zero _), ?_⟩, HNP.out.2⟩
    have h8 := HNP.out.2.size
    rw [HH.out.2.1] at h8
    exact h8
  case round =>
    obtain ⟨i, H, Y, rfl, hi, hes, hbr⟩ := hrel
    obtain ⟨hin, hB, hn1, hn6, hb0, hc0⟩ := HH.out
    by_cases hlt : i < n
    · have dl : decide ((i : Int) < (n : Int)) = true := by simp; omega
      have dln : decide (i < n) = true := by simp; omega
      have hme := meas hlt
      have ei : IntKind.i64.wrap ((i : Int) + 1) = (i : Int) + 1 := by rw [IntKind.wrap_i64]; omega
      have i0 : (0 : Int) ≤ (i : Int) := by omega
      have i1 : (i : Int) < (n : Int) := by omega
      obtain ⟨⟨lp, lc, ln, LX⟩, hL⟩ : ∃ Z, L i = Z := ⟨_, rfl⟩
      have hli := hin i hlt
      have hci := hc0 i hlt
      rw [hL] at hli hci
      simp only at hli hci
      have HCI : Hid (∀ w', Below B W w' → w'.cell? ⟨b0, o0 + i, none⟩ = some (.slice lp ln lc)) := fun w' hw' => (hw'.cell (p := ⟨b0, o0 + i, none⟩) (by rw [← hB]; exact hb0)).trans hci
      have HLI : Hid (ln = 0 ∨ ∃ lb lo, lp = some ⟨lb, lo, none⟩ ∧ ∀ k, k < ln → ∀ w', Below B W w' → w'.cell? ⟨lb, lo + k * 6, none⟩ = some (.int .u64 (LX k).t) ∧ w'.cell? ⟨lb, lo + k * 6 + 1, none⟩ = some (.int .i64 (LX k).s) ∧ w'.cell? ⟨lb, lo + k * 6 + 2, none⟩ = some (.int .u64 (LX k).q) ∧ w'.cell? ⟨lb, lo + k * 6 + 3, none⟩ = some (.int .i64 (LX k).d) ∧ w'.cell? ⟨lb, lo + k * 6 + 4, none⟩ = some (.int .i64 (LX k).k) ∧ w'.cell? ⟨lb, lo + k * 6 + 5, none⟩ = some (.int .i64 (LX k).v)) := by
        rcases hli with h8 | ⟨lb, lo, h8, h9, h7⟩
        · exact .inl h8
        · refine .inr ⟨lb, lo, h8, fun k hk w' hw' => ?_⟩
          obtain ⟨x0, x1, x2, x3, x4, x5⟩ := SIn.ev h7 k hk
          have hl : lb < B := by rw [← hB]; exact h9
          exact ⟨(hw'.cell (p := ⟨lb, lo + k * 6, none⟩) hl).trans x0, (hw'.cell (p := ⟨lb, lo + k * 6 + 1, none⟩) hl).trans x1, (hw'.cell (p := ⟨lb, lo + k * 6 + 2, none⟩) hl).trans x2, (hw'.cell (p := ⟨lb, lo + k * 6 + 3, none⟩) hl).trans x3, (hw'.cell (p := ⟨lb, lo + k * 6 + 4, none⟩) hl).trans x4, (hw'.cell (p := ⟨lb, lo + k * 6 + 5, none⟩) hl).trans x5⟩
      have HE := mhid (And.intro hes (And.intro hbr hlt))
      obtain ⟨B2, hB2⟩ : ∃ B2, wr.heap.size = B2 := ⟨_, rfl⟩
      have HEO := mhid (hes.open hlt LX)
      rw [hB2] at HEO
      have HB2 := mhid hB2
      clear hin hc0 hL hli hci hes hbr hlt hi hB hn1 hn6 hb0 hB2
      go_wp2_with fail
      go_loopw [8, 9] (fun a y wr' => ∃ (k : Nat) (H : Nat → Nat → Nat → Hf), y = .int .i64 (k : Int) ∧ k ≤ ln ∧ k ≤ 200 ∧ EI wr' B hb wb bb n R H u6 i Y B2 a k LX ∧ Below B W wr') (fun _ y _ => ln - (intOf y).toNat)
      case atStart => exact ⟨0, H, rfl, Nat.zero_le _, Nat.zero_le _, HEO.out, HE.out.2.1⟩
      case round =>
        obtain ⟨k, H, rfl, hk, hk2, hei, hbr⟩ := hrel
        have hciR := HCI.out wr hbr
        by_cases hgo : k < ln ∧ k < 200
        · have dk : decide ((k : Int) < (ln : Int)) = true := by simp; omega
          have dkn : decide (k < ln) = true := by simp; omega
          have dk2 : decide ((k : Int) < 200) = true := by simp; omega
          have dk2n : decide (k < 200) = true := by simp; omega
          have hmk := meas hgo.1
          have ek : IntKind.i64.wrap ((k : Int) + 1) = (k : Int) + 1 := by rw [IntKind.wrap_i64]; omega
          have k0 : (0 : Int) ≤ (k : Int) := by omega
          have k1 : (k : Int) < (ln : Int) := by omega
          rcases HLI.out with h8 | ⟨lb, lo, hlp, hlc⟩
          · omega
          have HLC := mhid (hlc k hgo.1)
          obtain ⟨x0, x1, x2, x3, x4, x5⟩ := hlc k hgo.1 wr hbr
          have HS := hei.send HE.out.2.2 hgo.2
          obtain ⟨E, hE⟩ : ∃ E, LX k = E := ⟨_, rfl⟩
          rw [hE] at HS HLC x0 x1 x2 x3 x4 x5
          obtain ⟨oq, oc, hov⟩ : ∃ q c, u8 = .slice q k c := by
            rcases hei.ow.form with ⟨a, b⟩ | ⟨g, c, a, _⟩
            · exact ⟨none, 0, by rw [a, b]⟩
            · exact ⟨_, _, a⟩
          rw [hov] at hei HS ⊢
          have HEI := mhid (And.intro hei (And.intro hbr (And.intro hgo hE)))
          clear hei hbr hgo hE hov hk hk2 hlc
          subst hlp
          go_upto_region 17 with (go_at_call 15; (with_reducible refine HS.mono ?_); rintro e9 w9 ⟨rfl, b9, z9, H', m9, hl9, li9, h09, sn9, rr9, ow9, sa9, ar9, ao9⟩)
          have B9 : Below B W w9 := HEI.out.2.1.trans b9
          have y0 := HCI.out w9 B9
          obtain ⟨t0, t1, t2, t3, t4, t5⟩ := HLC.out w9 B9
          have hbs : B2 ≤ w9.heap.size := Nat.le_trans HEI.out.1.bs z9
          have H9 := mhid (And.intro m9 (And.intro hl9 (And.intro li9 (And.intro h09 (And.intro sn9 (And.intro rr9 (And.intro ow9 (And.intro sa9 (And.intro ar9 (And.intro ao9 (And.intro B9 hbs)))))))))))
          clear HS hciR x0 x1 x2 x3 x4 x5 b9 z9 m9 hl9 li9 h09 sn9 rr9 ow9 sa9 ar9 ao9 B9 hbs
          go_upto_region 14 with (at_builtin; refine wpList_app9 rfl (.tmp 61) (.tmp 69) 47 rfl B2 44 iT _ 6 48 Try.underlying47 hT1 hT2 hT3 hT4 rfl (by decide) (.slice oq k oc) k (cellsF (seF LX) (k * 6)) rfl (H9.out.2.2.2.2.2.2.1.later ((Below.refl _ w9).alloc (Nat.le_refl _) _)) ⟨w9.heap.size, 0, none⟩ 1 1 [.int .u64 E.t, .int .i64 E.s, .int .u64 E.q, .int .i64 E.d, .int .i64 E.k, .int .i64 E.v] rfl rfl (cells_new9 w9 [.int .u64 E.t, .int .i64 E.s, .int .u64 E.q, .int .i64 E.d, .int .i64 E.k, .int .i64 E.v] 44) (by simp [Value.oneCell']) (by have h8 := HEI.out.2.2.1.2; unfold maxLen; omega) (by have h8 := HEI.out.2.2.1.2; omega) (by rw [World.size_alloc]; exact Nat.le_succ_of_le H9.out.2.2.2.2.2.2.2.2.2.2.2) ?_; intro v6 w6 hown' hgrow hat)
          have hbA : Below w9.heap.size w9 (w9.alloc (.cells #[.int .u64 E.t, .int .i64 E.s, .int .u64 E.q, .int .i64 E.d, .int .i64 E.k, .int .i64 E.v] 44)) := (Below.refl _ w9).alloc (Nat.le_refl _) _
          have ow6 : Own w6 B2 44 6 v6 (k + 1) (seF LX) := by
            refine (own_of_row hown').congr fun j hj => ?_
            rw [thF_app LX k E _ rfl j hj]
            show seC (if j / 6 = k then E else LX (j / 6)) (j % 6) = seC (LX (j / 6)) (j % 6)
            by_cases e : j / 6 = k
            · rw [if_pos e, e, HEI.out.2.2.2]
            · rw [if_neg e]
          obtain ⟨m9, hl9, li9, h09, sn9, rr9, ow9, sa9, ar9, ao9, B9, hbs⟩ := H9.out
          have hei := EI.grow (W' := w6) (own' := v6) (m9.later hbA) hl9 li9 h09 (sn9.later hbA) (fun j hj => ⟨(rr9 j hj).1.later hbA, (rr9 j hj).2⟩) HEI.out.1.lo (ow9.later hbA) sa9 ar9 ao9 HEI.out.1.b2 (Nat.le_trans hbs hbA.size) hgrow ow6 hat
          have B6 : Below B W w6 := (B9.trans (hbA.mono (Nat.le_trans HEI.out.1.b2 hbs))).trans ((Below.refl B _).grown hgrow (Nat.le_trans (Nat.le_trans HEI.out.1.b2 hbs) hbA.size) fun k hk => Nat.le_trans HEI.out.1.b2 (ow9.lt k hk).1)
          have H6 := mhid (And.intro hei B6)
          clear hei B6 ow6 hbA hown' hgrow hat m9 hl9 li9 h09 sn9 rr9 ow9 sa9 ar9 ao9 B9 hbs y0 t0 t1 t2 t3 t4 t5
          go_wp2_with fail
          exact ⟨⟨k + 1, H', rfl, HEI.out.2.2.1.1, HEI.out.2.2.1.2, H6.out.1, H6.out.2⟩, hmk⟩
        · have stop : (decide ((k : Int) < (ln : Int)) = false ∧ decide (k < ln) = false) ∨ ((decide ((k : Int) < (ln : Int)) = true ∧ decide (k < ln) = true) ∧ (decide ((k : Int) < 200) = false ∧ decide (k < 200) = false)) := by
            by_cases h8 : k < ln
            · exact .inr ⟨⟨by simp; omega, by simp; omega⟩, by simp; omega, by simp; omega⟩
            · exact .inl ⟨by simp; omega, by simp; omega⟩
          obtain ⟨oq, oc, hov⟩ : ∃ q c, u8 = .slice q k c := by
            rcases hei.ow.form with ⟨a, b⟩ | ⟨g, c, a, _⟩
            · exact ⟨none, 0, by rw [a, b]⟩
            · exact ⟨_, _, a⟩
          rw [hov] at hei ⊢
          have HEI := mhid (And.intro hei (And.intro hbr (And.intro hk2 HH.out.2.2.2.1)))
          clear hei hbr hgo hov hk hk2
          rcases stop with ⟨dk, dkn⟩ | ⟨⟨dk, dkn⟩, dk2, dk2n⟩
          all_goals (
            go_upto_region 10 with (at_builtin; refine wpList_app9 rfl (.tmp 71) (.tmp 73) 36 rfl B 47 iL _ 1 24 Try.underlying36 hL1 hL2 hL3 hL4 rfl (by decide) u6 i (cellsF (fun j => (Y j).v) (i * 1)) rfl (HEI.out.1.sn.later ((Below.refl _ wr).alloc (Nat.le_refl _) _)) ⟨wr.heap.size, 0, none⟩ 1 1 [.slice oq k oc] rfl rfl (cells_new9 wr [.slice oq k oc] 47) (by simp [Value.oneCell']) (by have h8 := HEI.out.2.2.2; have h9 := HE.out.2.2; unfold maxLen; omega) (by have h8 := HEI.out.2.2.2; have h9 := HE.out.2.2; omega) (by rw [World.size_alloc]; exact Nat.le_succ_of_le (Nat.le_trans HEI.out.1.b2 HEI.out.1.bs)) ?_; intro v6 w6 hown' hgrow hat)
            have hbA : Below wr.heap.size wr (wr.alloc (.cells #[.slice oq k oc] 47)) := (Below.refl _ wr).alloc (Nat.le_refl _) _
            obtain ⟨hei, hbr, hk2, hn6⟩ := HEI.out
            have heA : EI (wr.alloc (.cells #[.slice oq k oc] 47)) B hb wb bb n R H u6 i Y B2 (.slice oq k oc) k LX := ⟨hei.mp.later hbA, hei.hl, hei.li, hei.h0, hei.sn.later hbA, fun j hj => ⟨(hei.rr j hj).1.later hbA, (hei.rr j hj).2⟩, hei.lo, hei.ow.later hbA, hei.sa, hei.ar, hei.ao, hei.b2, Nat.le_trans hei.bs hbA.size⟩
            have ow6 : Own w6 B 47 1 v6 (i + 1) (fun j => if j = i then .slice oq k oc else (Y j).v) := by
              refine (own_of_row hown').congr fun j hj => ?_
              rw [List.getD_eq_getElem?_getD]
              by_cases e : j = i
              · rw [if_pos e, List.getElem?_append_right (by rw [cellsF_len]; omega), cellsF_len, show j - i * 1 = 0 by omega]
                rfl
              · rw [if_neg e, List.getElem?_append_left (by rw [cellsF_len]; omega), cellsF_at _ (by omega)]
                rfl
            have hes := heA.close hk2 hgrow ow6 hat
            have hBw := Nat.le_trans hei.b2 hei.bs
            have B6 : Below B W w6 := (hbr.trans (hbA.mono hBw)).trans ((Below.refl B _).grown hgrow (Nat.le_trans hBw hbA.size) fun k hk => (hei.sn.lt k hk).1)
            have H6 := mhid (And.intro hes B6)
            clear hes B6 ow6 heA hei hbr hk2 hn6 hbA hown' hgrow hat hBw hciR
            go_wp2_with fail
            exact ⟨⟨i + 1, H, _, rfl, HE.out.2.2, H6.out.1, H6.out.2⟩, hme⟩)
    · have dl : decide ((i : Int) < (n : Int)) = false := by simp; omega
      have dln : decide (i < n) = false := by simp; omega
      obtain rfl : i = n := by omega
      have HE := mhid (And.intro hes (And.intro hbr (And.intro hn1 hn6)))
      clear hin hB hn1 hn6 hb0 hc0 hes hbr hlt hi
      go_wp2_with fail
      clear dl dln
      go_loopw [10] (fun y wr => ∃ x : Nat, y = .int .i64 (x : Int) ∧ x ≤ i ∧ ES wr B hb wb bb i R (fun j => if j < x then 1 else 0) H u6 i Y ∧ Below B W wr) (fun y _ => i - (intOf y).toNat)
      case atStart => exact ⟨0, rfl, Nat.zero_le _, HE.out.1, HE.out.2.1⟩
      case round =>
        obtain ⟨x, rfl, hx, hes, hbr⟩ := hrel
        obtain ⟨-, -, hn1, hn6⟩ := HE.out
        by_cases hlt : x < i
        · have dl : decide ((x : Int) < (i : Int)) = true := by simp; omega
          have dln : decide (x < i) = true := by simp; omega
          have hme := meas hlt
          have ex : IntKind.i64.wrap ((x : Int) + 1) = (x : Int) + 1 := by rw [IntKind.wrap_i64]; omega
          have HF := hes.flip (by omega) x hlt (by show (if x < x then (1 : Int) else 0) = 0; rw [if_neg (by omega)]) (fun j _ => by show 0 ≤ (if j < x then (1 : Int) else 0); split <;> omega)
          rw [phS] at HF
          have HX := mhid (And.intro hlt hbr)
          clear hes hbr hlt hx hn1 hn6
          go_wp2_with (go_at_call 16; (with_reducible refine HF.mono ?_); rintro e9 w9 ⟨rfl, b9, t9⟩; have H9 := mhid (And.intro b9 t9); clear b9 t9)
          exact ⟨⟨x + 1, rfl, HX.out.1, H9.out.2, HX.out.2.trans H9.out.1⟩, hme⟩
        · have dl : decide ((x : Int) < (i : Int)) = false := by simp; omega
          have dln : decide (x < i) = false := by simp; omega
          obtain rfl : x = i := by omega
          have HD := hes.drain (by omega) hn1 (fun j hj => if_pos hj)
          have hoff : ∀ m, m ≤ x → offL Y m ≤ 200 * m := fun m hm => by
            induction m with
            | zero => exact Nat.le_refl _
            | succ m ih =>
              have h1 := ih (by omega)
              have h2 := (hes.rr m (by omega)).2
              show offL Y m + (Y m).n ≤ _
              omega
          have hof := hoff x (Nat.le_refl _)
          have HX : Hid (Below B W wr ∧ (x ≤ 6 ∧ offL Y x ≤ 1200) ∧ B ≤ wr.heap.size) := ⟨hbr, ⟨hn6, by omega⟩, hes.bs⟩
          clear hoff hof hes hbr hlt hx hn1 hn6
          go_upto_region 25 with (go_at_call 17; (with_reducible refine HD.mono ?_); rintro e9 w4 ⟨g, d2, rfl, b4, s4, ⟨sp, sc, hsv, ls4⟩, st4, so4⟩)
          have HMG := merge_any sp x sc Y (by have h8 := HX.out.2.1; omega) (by have h8 := HX.out.2.1; omega) w4 ls4
          have HSM : Hid (∀ w5 g5 d5, SRow w5 w4.heap.size g5 (offL Y x) (offL Y x) d5 → Stb klt 0 (offL Y x) (catL Y x) d5 → Srt klt 0 (offL Y x) d5 → Below w4.heap.size w4 w5 → Calls Try.prog 18 #[.slice (some ⟨g, 0, none⟩) (offL Y x) (offL Y x), .slice (some ⟨g5, 0, none⟩) (offL Y x) (offL Y x)] w5 fun e W' => e = .returned (.bool true) ∧ Below B W W') := fun w5 g5 d5 r5 st5 so5 b5 => by
            have h5 : SIn w5 (some ⟨g5, 0, none⟩) (offL Y x) d5 := own_sin0 r5
            have heq := stable_one klt_ord st4 so4 st5 so5
            have hs := sEvents_yes (offL Y x) d5 (some ⟨g, 0, none⟩) (some ⟨g5, 0, none⟩) (offL Y x) (offL Y x) (by have h8 := HX.out.2.1; omega) w5 ((s4.below b5).congr fun j hj => heq j hj) h5
            exact hs.mono fun e W' ⟨a1, a2⟩ => ⟨a1, ((HX.out.1.trans b4).trans (b5.mono (Nat.le_trans HX.out.2.2 b4.size))).trans (a2.mono (Nat.le_trans (Nat.le_trans HX.out.2.2 b4.size) b5.size))⟩
          try rw [hsv]
          obtain ⟨q, hq⟩ : ∃ q, offL Y x = q := ⟨_, rfl⟩
          rw [hq] at HMG HSM ⊢
          clear HD b4 s4 hsv ls4 st4 so4 hq
          go_wp2_with (first | (go_at_call 19; (with_reducible refine HMG.mono ?_); rintro e5 w5 ⟨g5, d5, rfl, r5, st5, so5, b5⟩; have HS5 := HSM.out w5 g5 d5 r5 st5 so5 b5; clear r5 st5 so5 b5) | (go_at_call 18; (with_reducible refine HS5.mono ?_); rintro e8 w8 ⟨rfl, b8⟩; have H8 := mhid b8; clear b8))
          go_ret
          exact ⟨rfl, H8.out⟩
theorem events_law (p : Option Addr) (N c : Nat) (L : Nat → LsP) (W : World) (h : LsIn W p N L) : Calls Try.prog 4 #[.slice p N c] W fun e W' => e = .returned (.bool true) ∧ Below W.heap.size W W' := by
  by_cases hg : 1 ≤ N ∧ N ≤ 6
  · exact events_good N hg.1 hg.2 p c L W h
  · exact events_bad p N c W hg
end Go.Proofs.Ytmkchlhfcffdkaa
