import Derived.Test.YtmkchlhfcffdkaaPT2
import Derived.BigQuiet
import Derived.Deep.RegionLaw
import Derived.Deep.RegionHeld3
import Derived.Deep.Cut
import Derived.Deep.DeepCutAuto
import Derived.Deep.CutBlock
import Derived.Deep.CutRange
import Derived.Deep.AppendLies
import Derived.Handy
import Derived.Lib.RabinKarpLaws
import Derived.ArgAppend
import Derived.Lib.JoinLaws
namespace Go.Proofs.Ytmkchlhfcffdkaa
open Go.ChangeShapes Go.WideShapes Go.ChangeAt Go.RowKit
set_option linter.unusedVariables false
set_option linter.unusedSimpArgs false


set_option maxRecDepth 100000 in
set_option maxHeartbeats 4000000 in
theorem texts_bad (room : Int) (p : Option Addr) (N c : Nat) (W : World) (h : ¬ (1 ≤ room ∧ room ≤ 1024 ∧ N ≤ 300)) : Calls Try.prog 3 #[.slice p N c, .int .i64 room] W fun e W' => e = .returned (.bool true) ∧ Below W.heap.size W W' := by
  have hc : decide (room < 1) = true ∨ (decide (room < 1) = false ∧ decide (1024 < room) = true) ∨ (decide (room < 1) = false ∧ decide (1024 < room) = false ∧ decide (300 < (N : Int)) = true ∧ decide (300 < N) = true) := by
    by_cases h1 : room < 1
    · exact .inl (by simpa using h1)
    · by_cases h2 : 1024 < room
      · exact .inr (.inl ⟨by simpa using h1, by simpa using h2⟩)
      · exact .inr (.inr ⟨by simpa using h1, by simpa using h2, by simp; omega, by simp; omega⟩)
  clear h
  rcases hc with d1 | ⟨d1, d2⟩ | ⟨d1, d2, d3, d4⟩
  all_goals (
    go_enter Try.func3, Try.ntmps3
    go_wp2_with fail
    go_ret
    exact ⟨rfl, Below.refl _ _⟩)
set_option maxRecDepth 100000 in
set_option maxHeartbeats 16000000 in
theorem texts_good (r : Nat) (hr1 : 1 ≤ r) (hr2 : r ≤ 1024) (p : Option Addr) (N c : Nat) (hN : N ≤ 300) (X : Nat → Tx) (W : World) (h : TIn W p N X) : Calls Try.prog 3 #[.slice p N c, .int .i64 (r : Int)] W fun e W' => e = .returned (.bool true) ∧ Below W.heap.size W W' := by
  have d1 : decide ((r : Int) < 1) = false := by simp; omega
  have d1n : decide (r < 1) = false := by simp; omega
  have d2 : decide (1024 < (r : Int)) = false := by simp; omega
  have d2n : decide (1024 < r) = false := by simp; omega
  have d3 : decide (300 < (N : Int)) = false := by simp; omega
  have d3n : decide (300 < N) = false := by simp; omega
  have HNW : Calls Try.prog 5 #[.int .i64 2, .int .i64 (r : Int), cvT] W fun e w' => ∃ hb wb bb R, e = .returned (.tuple #[.pointer (some ⟨hb, 0, none⟩), .int .i64 0]) ∧ NP w' W.heap.size hb wb bb 2 (r : Int) cvT R 2 ∧ Below W.heap.size W w' := mb_newC 6 #[] 2 (r : Int) (by decide) (by decide) (by omega) (by omega) W
  obtain ⟨B, hB⟩ : ∃ B, W.heap.size = B := ⟨_, rfl⟩
  rw [hB] at HNW ⊢
  obtain ⟨iT, hT1, hT2, hT3, hT4⟩ := binfo infoTH
  have HH := mhid (And.intro h (And.intro hB (And.intro hr1 (And.intro hr2 hN))))
  clear h hB hr1 hr2 hN
  go_enter Try.func3, Try.ntmps3
  go_wp2_with (go_at_call 5; (with_reducible refine HNW.mono ?_); rintro e9 w1 ⟨hb, wb, bb, R, rfl, np, b1⟩; have HNP := mhid (And.intro np b1); clear np b1)
  clear HNW d1 d1n d2 d2n d3 d3n
  go_loopw [7, 8] (fun a y wr => ∃ (i m : Nat) (fl : Nat → Int) (H : Nat → Nat → Nat → Hf) (d : Nat → Tx), y = .int .i64 (i : Int) ∧ i ≤ N ∧ ((i ≤ r → m = i) ∧ (r ≤ i → m = r)) ∧ TS wr B hb wb bb r R fl H X a m i d ∧ Below B W wr) (fun _ y _ => N - (intOf y).toNat)
  case atStart =>
    refine ⟨0, 0, fun _ => 0, noH, X, rfl, Nat.zero_le _, ⟨fun _ => rfl, fun h => by have := HH.out.2.2.1; omega⟩, ⟨HNP.out.1.mp, rfl, by rw [if_pos (Nat.zero_le _)], rfl, fun j hj => absurd hj (Nat.not_lt_zero _), fun _ _ _ _ _ _ _ => rfl, ⟨rfl, .inl ⟨rfl, rfl⟩⟩, fun k hk => by simp [Value.ownBlock] at hk, Stb.refl _ _ _, fun i j _ _ hj => absurd hj (Nat.not_lt_zero _), ?_⟩, HNP.out.2⟩
    have h8 := HNP.out.2.size
    rw [HH.out.2.1] at h8
    exact h8
  case round =>
    obtain ⟨i, m, fl, H, d, rfl, hi, hm, hts, hbr⟩ := hrel
    have hin := HH.out.1.later HH.out.2.1.symm hbr
    obtain ⟨-, -, hr1, hr2, hN⟩ := HH.out
    by_cases hlt : i < N
    · have dl : decide ((i : Int) < (N : Int)) = true := by simp; omega
      have dln : decide (i < N) = true := by simp; omega
      have hme := meas hlt
      have ek : IntKind.i64.wrap ((i : Int) + 1) = (i : Int) + 1 := by rw [IntKind.wrap_i64]; omega
      have k0 : (0 : Int) ≤ (i : Int) := by omega
      have k1 : (i : Int) < (N : Int) := by omega
      rcases hin with h0 | ⟨tb, off, hp, hob, hcs⟩
      · omega
      subst hp
      have y0 := hcs i hlt
      have hobW : tb < B := by
        rcases HH.out.1 with h0 | ⟨b2, o2, h1, h2, _⟩
        · omega
        · injection h1 with h1
          injection h1 with h1
          rw [h1, ← HH.out.2.1]
          exact h2
      obtain ⟨xs, hxs⟩ : ∃ xs, (X i).val = xs := ⟨_, rfl⟩
      rw [hxs] at y0
      have HXS := mhid hxs
      by_cases hir : i < r
      · have dr : decide ((r : Int) ≤ (i : Int)) = false := by simp; omega
        have drn : decide (r ≤ i) = false := by simp; omega
        obtain rfl : m = i := hm.1 (by omega)
        have HS := hts.send rfl hir hr2
        rw [hxs] at HS
        have hwf : ∃ q c, u7 = .slice q m c := by
          rcases hts.wn.form with ⟨a, b⟩ | ⟨g, c, a, _⟩
          · exact ⟨none, 0, by rw [a, b]⟩
          · exact ⟨_, _, a⟩
        obtain ⟨wq, wc, hwv⟩ := hwf
        rw [hwv] at hts HS ⊢
        have HTS := mhid (And.intro hts (And.intro hbr (And.intro hm (And.intro hobW (And.intro hlt hir)))))
        clear hts hbr hm hxs hcs hob hobW hlt hir hi hwv hr1 hr2 hN
        go_upto_region 11 with (go_at_call 7; (with_reducible refine HS.mono ?_); rintro e9 w9 ⟨rfl, b9, H', m9, l9, x9, o9, wn9, ap9⟩)
        have y9 : w9.cell? ⟨tb, off + m, none⟩ = some (.string xs) := (b9.cell (p := ⟨tb, off + m, none⟩) HTS.out.2.2.2.1).trans y0
        have H9 := mhid (And.intro b9 (And.intro m9 (And.intro l9 (And.intro x9 (And.intro o9 (And.intro wn9 ap9))))))
        have hB9 : B ≤ w9.heap.size := Nat.le_trans HTS.out.1.bs b9.size
        have HB9 := mhid hB9
        clear HS y0 b9 m9 l9 x9 o9 wn9 ap9 hB9
        have HM1 : Hid (m ≤ 300) := by have h1 := HTS.out.2.2.2.2.1; have h2 := HH.out.2.2.2.2; show m ≤ 300; omega
        go_upto_region 17 with (at_builtin; refine wpList_app9 rfl (.tmp 57) (.tmp 62) 22 rfl B 9 iT _ 1 16 Try.underlying22 hT1 hT2 hT3 hT4 rfl (by decide) (.slice wq m wc) m (cellsF (thF d) (m * 1)) rfl (H9.out.2.2.2.2.2.1.later ((Below.refl _ w9).alloc (Nat.le_refl _) _)) ⟨w9.heap.size, 0, none⟩ 1 1 [.string xs] rfl rfl (cells_new9 w9 [.string xs] 9) (by simp [Value.oneCell']) (by have h8 := HM1.out; unfold maxLen; omega) (by have h8 := HM1.out; omega) (by rw [World.size_alloc]; exact Nat.le_succ_of_le HB9.out) ?_; intro v6 w6 hown' hgrow hat)
        have ow6 : Own w6 B 9 1 v6 (m + 1) (thF d) := by
          refine (own_of_row hown').congr fun j hj => ?_
          rw [← HXS.out, thF_app d m (X m) _ rfl j hj]
          unfold thF
          show Value.string (if j = m then X m else d j).val = Value.string (d j).val
          by_cases e : j = m
          · rw [if_pos e, e, HTS.out.1.st.far (Nat.le_refl _)]
          · rw [if_neg e]
        obtain ⟨g, c6, rfl⟩ : ∃ g c, v6 = .slice (some ⟨g, 0, none⟩) (m + 1) c := by
          rcases ow6.form with ⟨_, h8⟩ | ⟨g6, c6, h8, _⟩
          · omega
          · exact ⟨_, _, h8⟩
        have hbA : Below w9.heap.size w9 (w9.alloc (.cells #[.string xs] 9)) := (Below.refl _ w9).alloc (Nat.le_refl _) _
        have mA := H9.out.2.1.later hbA
        have m6 := TS.aside mA (want := .slice wq m wc) H9.out.2.2.2.2.2.2 hgrow
        have ap6 : ¬ FP hb wb bb 2 R H' g := fun e => by
          rcases hat with h8 | h8
          · exact H9.out.2.2.2.2.2.2 g (h8.symm.trans rfl) e
          · have h7 := (H9.out.2.1.foot e).2
            have h6 : g = (w9.alloc (.cells #[.string xs] 9)).heap.size := by injection h8
            rw [World.size_alloc] at h6
            omega
        have b6 : Below B w9 w6 := (hbA.mono HB9.out).trans ((Below.refl B _).grown hgrow (by rw [World.size_alloc]; exact Nat.le_succ_of_le HB9.out) fun k hk => (H9.out.2.2.2.2.2.1.lt k hk).1)
        have B6 : Below B W w6 := (HTS.out.2.1.trans H9.out.1).trans b6
        obtain ⟨M, hM⟩ : ∃ M, m + 1 = M := ⟨_, rfl⟩
        have e17 : IntKind.i64.wrap ((M : Int) - 1) = (m : Int) := by have h8 := HM1.out; rw [IntKind.wrap_i64]; omega
        rw [hM] at ow6 ⊢
        have H6 := mhid (And.intro ow6 (And.intro m6 (And.intro ap6 B6)))
        have HMM := mhid hM
        clear ow6 m6 ap6 B6 b6 mA hbA hown' hgrow hat hM y9
        go_wp2_with fail
        go_loopw [10] (fun y wr' => ∃ j : Nat, y = .int .i64 (j : Int) ∧ j ≤ m ∧ Own wr' B 9 1 (.slice (some ⟨g, 0, none⟩) M c6) M (thF (rotF d j m M)) ∧ (∀ x, j ≤ x → x < m → ltT (d m) (d x) = true) ∧ MP No wr' B hb wb bb 2 (r : Int) cvT R (fun _ => 0) fl H' ∧ Below B W wr') (fun y _ => (intOf y).toNat)
        case atStart => exact ⟨m, rfl, Nat.le_refl _, by rw [← HMM.out, SS.rot_self, HMM.out]; exact H6.out.1, fun x h1 h2 => by omega, H6.out.2.1, H6.out.2.2.2⟩
        case round =>
          obtain ⟨j, rfl, hj, hrow, hall, hmp, hbr⟩ := hrel
          have hMM := HMM.out
          have hm3 := HM1.out
          have fg : ∀ k, wr.frozen? ⟨g, k, none⟩ = false := fun k => by obtain ⟨cr, hcr, _⟩ := hrow.block; exact frz hcr _
          have HR := mhid (And.intro hrow (And.intro hall (And.intro hmp (And.intro hbr hj))))
          have DONE : Hid (∀ w', Below wr.heap.size wr w' → (0 < j → ltT (d m) (d (j - 1)) = false) → ∃ (i m' : Nat) (fl : Nat → Int) (H : Nat → Nat → Nat → Hf) (d : Nat → Tx), Value.int .i64 ((m : Int) + 1) = .int .i64 (i : Int) ∧ i ≤ N ∧ ((i ≤ r → m' = i) ∧ (r ≤ i → m' = r)) ∧ TS w' B hb wb bb r R fl H X (.slice (some ⟨g, 0, none⟩) M c6) m' i d ∧ Below B W w') := fun w' hw' hstop => by
            have h8 := HTS.out.1
            have hir := HTS.out.2.2.2.2.2
            have hlt := HTS.out.2.2.2.2.1
            have hfar := h8.st.far (Nat.le_refl m)
            obtain ⟨s1, s2⟩ := ins_right ltT_ord (Nat.zero_le j) hj h8.so hall hstop
            have ho := hrow.later hw'
            rw [← hMM] at ho ⊢
            have hbs : B ≤ wr.heap.size := Nat.le_trans (by rw [← HH.out.2.1]; exact Nat.le_refl _) hbr.size
            exact ⟨m + 1, m + 1, fl, H', rotF d j m (m + 1), rfl, hlt, ⟨fun _ => rfl, fun _ => by omega⟩, ⟨hmp.later hw', h8.f0, by rw [h8.f1, if_pos (by omega), if_pos (by omega)], H9.out.2.2.1, H9.out.2.2.2.1, H9.out.2.2.2.2.1, ho, fun k hk => by simp [Value.ownBlock] at hk; subst hk; exact H6.out.2.2.1, (h8.st.widen (Nat.le_refl _) (Nat.le_succ _)).trans s1, s2, Nat.le_trans hbs hw'.size⟩, hbr.trans (hw'.mono hbs)⟩
          by_cases hj0 : 0 < j
          · have dj : decide ((0 : Int) < (j : Int)) = true := by simp; omega
            have dj2 : decide (0 < j) = true := by simp; omega
            have ej : IntKind.i64.wrap ((j : Int) - 1) = ((j - 1 : Nat) : Int) := by rw [IntKind.wrap_i64]; omega
            obtain ⟨q, hq⟩ : ∃ q, j - 1 = q := ⟨_, rfl⟩
            rw [hq] at ej DONE
            have j0 : (0 : Int) ≤ (j : Int) := by omega
            have j1 : (j : Int) < (M : Int) := by omega
            have q0 : (0 : Int) ≤ (q : Int) := by omega
            have q1 : (q : Int) < (M : Int) := by omega
            have nqj : q ≠ j := by omega
            have njq : j ≠ q := by omega
            have hX : rotF d j m M j = d m := by
              rw [← hMM, rotF_lo d (Nat.le_refl _) (by omega)]
              congr 1
              omega
            have hY : rotF d j m M q = d q := rotF_out d (by omega) hj (.inl (by omega))
            have z0 : wr.cell? ⟨g, j, none⟩ = some (.string (d m).val) := by rw [← hX]; exact hrow.cell (j := j) (by omega)
            have z1 : wr.cell? ⟨g, q, none⟩ = some (.string (d q).val) := by rw [← hY]; exact hrow.cell (j := q) (by omega)
            obtain ⟨bq, hbq⟩ : ∃ b, ltT (d m) (d q) = b := ⟨_, rfl⟩
            have SW : Hid (bq = true → ∀ w', Below wr.heap.size wr w' → Own ((w'.setCell ⟨g, j, none⟩ (.string (d q).val)).setCell ⟨g, q, none⟩ (.string (d m).val)) B 9 1 (.slice (some ⟨g, 0, none⟩) M c6) M (thF (rotF d q m M)) ∧ (∀ x, q ≤ x → x < m → ltT (d m) (d x) = true) ∧ MP No ((w'.setCell ⟨g, j, none⟩ (.string (d q).val)).setCell ⟨g, q, none⟩ (.string (d m).val)) B hb wb bb 2 (r : Int) cvT R (fun _ => 0) fl H' ∧ Below B W ((w'.setCell ⟨g, j, none⟩ (.string (d q).val)).setCell ⟨g, q, none⟩ (.string (d m).val))) := fun hb1 w' hw' => by
              have ho := own_set1 (own_set1 (hrow.later hw') j (d q)) q (d m)
              have hbs : B ≤ wr.heap.size := Nat.le_trans (by rw [← HH.out.2.1]; exact Nat.le_refl _) hbr.size
              have hgB := (hrow.lt g rfl).1
              refine ⟨ho.congr fun t ht => ?_, fun x x1 x2 => ?_, (hmp.later hw').keep fun k hk => ?_, ((hbr.trans (hw'.mono hbs)).setCell (p := ⟨g, j, none⟩) hgB _).setCell (p := ⟨g, q, none⟩) hgB _⟩
              · have hst := SS.ins_step d m j hj0 hj
                rw [hq, hMM] at hst
                rw [← hst]
                unfold thF SS.setS swp
                by_cases e1 : t = q
                · rw [if_pos e1, e1, if_neg nqj, if_pos rfl, hX]
                · rw [if_neg e1]
                  by_cases e2 : t = j
                  · rw [if_pos e2, e2, if_pos rfl, hY]
                  · rw [if_neg e2, if_neg e2, if_neg e1]
              · by_cases e : x = q
                · rw [e, hbq, hb1]
                · exact hall x (by omega) x2
              · have hkg : k ≠ g := fun e => H6.out.2.2.1 (e ▸ hk)
                exact (Below.heap_setCell _ _ _ _ hkg).trans (Below.heap_setCell _ _ _ _ hkg)
            have dq : decide (((d m).val.size : Int) < ((d q).val.size : Int)) = bq := by rw [← hbq, ltT_eq]; exact decide_eq_decide.2 (by omega)
            have dqn : decide ((d m).val.size < (d q).val.size) = bq := by rw [← hbq, ltT_eq]
            have HBQ := mhid hbq
            have HQ := mhid hq
            generalize (d m).val = xa at z0 dq dqn SW
            generalize (d q).val = xb at z1 dq dqn SW
            have HQJ : Hid (q < j ∧ j ≤ m) := ⟨by omega, hj⟩
            clear hrow hall hmp hbr hj hMM hm3 hX hY hbq hq hj0
            go_upto_region 18 with fail
            go_quiet (fail)
            cases bq
            · go_wp2_with fail
              exact ⟨DONE.out _ (below_drewNq _ _ _) (fun _ => HBQ.out), hme⟩
            · go_wp2_with fail
              exact ⟨⟨q, rfl, Nat.le_of_lt (Nat.lt_of_lt_of_le HQJ.out.1 HQJ.out.2), SW.out rfl _ (below_drewNq _ _ _)⟩, by have h8 := HQJ.out.1; simp only [intOf]; omega⟩
          · have dj : decide ((0 : Int) < (j : Int)) = false := by simp; omega
            have dj2 : decide (0 < j) = false := by simp; omega
            have HJ0 := mhid hj0
            clear hrow hall hmp hbr hj hMM hm3 hj0
            go_upto_region 18 with fail
            go_quiet (fail)
            go_wp2_with fail
            exact ⟨DONE.out _ (below_drewNq _ _ _) (fun e => absurd e HJ0.out), hme⟩
      · have dr : decide ((r : Int) ≤ (i : Int)) = true := by simp; omega
        have drn : decide (r ≤ i) = true := by simp; omega
        have hmr : m = r := hm.2 (by omega)
        have HS := hts.refuse (by omega) hmr
        rw [hxs] at HS
        have HTS := mhid (And.intro hbr (And.intro hm (And.intro hlt (And.intro hir hmr))))
        clear hts hbr hm hxs hcs hob hobW hlt hir hi hr1 hr2 hN hmr
        go_wp2_with (go_at_call 7; (with_reducible refine HS.mono ?_); rintro e9 w9 ⟨rfl, b9, fl9, t9⟩; have H9 := mhid (And.intro b9 t9); clear b9 t9)
        exact ⟨⟨i + 1, m, fl9, H, d, rfl, HTS.out.2.2.1, ⟨fun h8 => by have h7 := HTS.out.2.2.2.1; omega, fun _ => HTS.out.2.2.2.2⟩, H9.out.2, HTS.out.1.trans H9.out.1⟩, hme⟩
    · have dl : decide ((i : Int) < (N : Int)) = false := by simp; omega
      have dln : decide (i < N) = false := by simp; omega
      obtain rfl : i = N := by omega
      clear hin
      by_cases hrN : r < i
      · have dr : decide ((r : Int) < (i : Int)) = true := by simp; omega
        have drn : decide (r < i) = true := by simp; omega
        have hmr : m = r := hm.2 (by omega)
        have HD := hts.drop
        rw [hmr] at HD
        have e0 : ((r : Int) == (r : Int)) = true := by simp
        have HTS := mhid (And.intro hbr hts.bs)
        clear hts hbr hm hrN hlt hi hmr hr1 hr2 hN
        go_upto_region 25 with (go_at_call 8; (with_reducible refine HD.mono ?_); rintro e9 w9 ⟨rfl, b9, fl9, H9, m9, f9, l9⟩; have HF : Calls Try.prog 9 #[.pointer (some ⟨hb, 0, none⟩), .int .i64 1] w9 fun e W' => e = .returned (.int .i64 0) ∧ Below B W W' := (flip_ok (ph := fun _ => 0) 1 (by decide) m9 rfl (fun _ _ => Int.le_refl _) f9 (Nat.le_trans HTS.out.2 b9.size) l9).mono fun e W' ⟨a1, a2, _⟩ => ⟨a1, (HTS.out.1.trans b9).trans a2⟩; clear b9 m9 f9 l9)
        clear HD
        go_wp2_with (go_at_call 9; (with_reducible refine HF.mono ?_); rintro e8 w8 ⟨rfl, b8⟩; have H8 := mhid b8; clear b8)
        go_ret
        exact ⟨rfl, H8.out⟩
      · have dr : decide ((r : Int) < (i : Int)) = false := by simp; omega
        have drn : decide (r < i) = false := by simp; omega
        obtain rfl : m = i := hm.1 (by omega)
        have hf1 : fl 1 = 0 := by rw [hts.f1, if_pos (by omega)]
        have hh : ∀ i j, i < 2 → j < 2 → (H i j 1).l = 0 := fun i j hi hj => hts.h0 i j 1 hi hj (by decide) (by omega)
        have HF1 : Calls Try.prog 9 #[.pointer (some ⟨hb, 0, none⟩), .int .i64 1] wr _ := flip_ok (ph := fun _ => 0) 1 (by decide) hts.mp rfl (fun _ _ => Int.le_refl _) hf1 hts.bs hh
        have HF0 : Hid (∀ w', MP No w' B hb wb bb 2 (r : Int) cvT R (fun i => if i = 1 then 1 else 0) fl H → B ≤ w'.heap.size → Calls Try.prog 9 #[.pointer (some ⟨hb, 0, none⟩), .int .i64 0] w' fun e W' => e = .returned (.int .i64 0) ∧ Below B w' W' ∧ MP No W' B hb wb bb 2 (r : Int) cvT R (fun i => if i = 0 then 1 else if i = 1 then 1 else 0) fl H ∧ ∀ k, k < w'.heap.size → ¬ PBm wb 2 R H k → W'.heap[k]? = w'.heap[k]?) := fun w' h1 h2 => flip_ok (ph := fun i => if i = 1 then 1 else 0) 0 (by decide) h1 rfl (fun i _ => by show 0 ≤ (if i = 1 then (1 : Int) else 0); split <;> omega) hts.f0 h2 hh
        have HTS := mhid (And.intro hts hbr)
        have HMS : Hid (m ≤ 1000000) := by show m ≤ 1000000; omega
        clear hts hbr hm hrN hlt hi hf1 hh hr1 hr2 hN
        go_upto_region 28 with (first | (go_at_call 9; (with_reducible refine HF1.mono ?_); rintro e9 w2 ⟨rfl, b2, m2, f2⟩; have H2 := mhid (And.intro b2 (And.intro m2 f2)); have HF0' := HF0.out w2 m2 (Nat.le_trans HTS.out.1.bs b2.size); clear b2 m2 f2) | (go_at_call 9; (with_reducible refine HF0'.mono ?_); rintro e9 w3 ⟨rfl, b3, m3, f3⟩; have H3 := mhid (And.intro b3 (And.intro m3 f3)); clear b3 m3 f3))
        clear HF1 HF0 HF0'
        have hts := HTS.out.1
        have hb2 : B ≤ w2.heap.size := Nat.le_trans hts.bs H2.out.1.size
        have hb3 : B ≤ w3.heap.size := Nat.le_trans hb2 H3.out.1.size
        have hap : ∀ k, u7.ownBlock = some k → ¬ PBm wb 2 R H k := fun k hk e => hts.ap k hk (.inr (.inr e))
        have o2 := hts.wn.far (W' := w2) fun k hk => H2.out.2.2 k (hts.wn.lt k hk).2 (hap k hk)
        have o3 := o2.far (W' := w3) fun k hk => H3.out.2.2 k (o2.lt k hk).2 (hap k hk)
        have HDN := TS.drain H3.out.2.1 (fun i hi => by show (if i = 0 then (1 : Int) else if i = 1 then 1 else 0) = 1; rcases (by omega : i = 0 ∨ i = 1) with rfl | rfl <;> rfl) hts.l1 hts.k1 (hts.h0 0 0 0 (by decide) (by decide) (by decide) (by decide)) hb3 o3 hap hts.st hts.so
        have HB3 : Hid (Below B W w3) := (HTS.out.2.trans H2.out.1).trans H3.out.1
        have HB3b := mhid hb3
        clear hts hb2 hb3 hap o2 o3
        go_upto_region 29 with (go_at_call 10; (with_reducible refine HDN.mono ?_); rintro e9 w4 ⟨g, d2, rfl, b4, o4, o5, e4⟩; have HSM : Calls Try.prog 11 #[.slice (some ⟨g, 0, none⟩) m m, u7] w4 fun e W' => e = .returned (.bool true) ∧ Below B W W' := (sameTx_yes m d2 d (.slice (some ⟨g, 0, none⟩) m m) u7 w4 o4 o5 e4 HMS.out).mono fun e W' ⟨a1, a2⟩ => ⟨a1, (HB3.out.trans b4).trans (a2.mono (Nat.le_trans HB3b.out b4.size))⟩; clear b4 o4 o5 e4)
        clear HDN
        go_wp2_with (go_at_call 11; (with_reducible refine HSM.mono ?_); rintro e8 w8 ⟨rfl, b8⟩; have H8 := mhid b8; clear b8)
        go_ret
        exact ⟨rfl, H8.out⟩
theorem texts_law (room : Int) (p : Option Addr) (N c : Nat) (X : Nat → Tx) (W : World) (h : TIn W p N X) : Calls Try.prog 3 #[.slice p N c, .int .i64 room] W fun e W' => e = .returned (.bool true) ∧ Below W.heap.size W W' := by
  by_cases hg : 1 ≤ room ∧ room ≤ 1024 ∧ N ≤ 300
  · obtain ⟨r, rfl⟩ := Int.eq_ofNat_of_zero_le (by omega : 0 ≤ room)
    exact texts_good r (by omega) (by omega) p N c hg.2.2 X W h
  · exact texts_bad room p N c W hg
end Go.Proofs.Ytmkchlhfcffdkaa
