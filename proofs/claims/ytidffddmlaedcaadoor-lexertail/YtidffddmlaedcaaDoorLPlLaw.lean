import Derived.Test.YtidffddmlaedcaaDoorLPlaceC
import Derived.Test.YtidffddmlaedcaaDoorLAwake
import Derived.Test.YtidffddmlaedcaaDoorLScan
import Derived.Test.YtidffddmlaedcaaDoorLSame
import Derived.BigQuiet
import Derived.Laws.Strings2
namespace Go.Proofs.YtidffddmlaedcaaDoor
open Go.ChangeShapes Go.WideShapes Go.ChangeAt Go.RowKit
set_option linter.unusedVariables false

theorem ext_mid (s : Bs) (a b : Nat) : (⟨s.toArray⟩ : ByteArray).extract a b = ⟨((s.drop a).take (b - a)).toArray⟩ := by
  apply ByteArray.ext
  simp only [ByteArray.data_extract]
  simp
theorem take_plus (s : Bs) (a p : Nat) : s.take (a + p) = s.take a ++ (s.drop a).take p := by
  rw [List.take_add]
theorem headIs_at (p : UInt8 → Bool) (s : Bs) (n : Nat) (h : n < s.length) : headIs p (s.drop n) = p s[n] := by
  rw [List.drop_eq_getElem_cons h]; rfl
/-- one token further: what the round of LexerPlaces wants -/
theorem places_step (src : Bs) (at0 : Nat) (h0 : at0 ≤ src.length) (t : Tk) (ts : List Tk) (h : Places false (src.drop at0) (pos (src.take at0) 1 1).1 (pos (src.take at0) 1 1).2 (t :: ts)) :
    ∃ q, at0 ≤ q ∧ q + t.text.length ≤ src.length ∧ plc t.line t.col src 1 1 = some q ∧ bareN false ((src.drop at0).take (q - at0)) = true ∧ openN false ((src.drop at0).take (q - at0)) = false ∧
      (src.drop q).take t.text.length = t.text ∧ 1 ≤ t.text.length ∧ (t.kind < 50 → headIs pN (src.drop (q + t.text.length)) = false) ∧
      Places false (src.drop (q + t.text.length)) (pos (src.take (q + t.text.length)) 1 1).1 (pos (src.take (q + t.text.length)) 1 1).2 ts := by
  obtain ⟨p, h1, h2, h3, h4, h5, h6, ⟨x, r, h7, h10⟩, h8, h9⟩ := h
  rw [List.length_drop] at h1
  have e : src.take (at0 + p) = src.take at0 ++ (src.drop at0).take p := take_plus src at0 p
  have ep : pos (src.take (at0 + p)) 1 1 = pos ((src.drop at0).take p) (pos (src.take at0) 1 1).1 (pos (src.take at0) 1 1).2 := by rw [e, pos_app]
  refine ⟨at0 + p, by omega, by omega, ?_, ?_, ?_, ?_, by rw [h7]; simp, ?_, ?_⟩
  · rw [h4, h5, ← ep]
    exact plc_pos src (at0 + p) 1 1 (by omega)
  · rw [show at0 + p - at0 = p by omega]; exact h2
  · rw [show at0 + p - at0 = p by omega]; exact h3
  · rw [List.drop_drop] at h6; exact h6
  · intro hk
    have := h8 hk
    rw [List.drop_drop] at this
    rw [Nat.add_assoc]; exact this
  · rw [List.drop_drop] at h9
    have e2 : src.take (at0 + p + t.text.length) = src.take (at0 + p) ++ t.text := by
      rw [take_plus src (at0 + p), ← List.drop_drop, h6]
    rw [e2, pos_app, ep, pos_plain t.text h10, Nat.add_assoc]
    exact h9

theorem below_drewN {n : Nat} {A W : World} (k : Nat) (h : Below n A W) : Below n A (W.drewN k) := by
  induction k with
  | zero => exact h
  | succ k ih => exact ih.drew
theorem scanT_places (src : Bs) (hl : src.length ≤ 3000) (h : (scanT src).2 = none) : Places false src 1 1 (scanT src).1 := by
  rw [scanT_fits src (by omega)] at h ⊢
  exact scan_places src 1 1 0 h

set_option maxRecDepth 100000 in
set_option maxHeartbeats 4000000 in
theorem law_places (src : Bs) (hmx : src.length ≤ maxLen) (w : World) (g : Gr w) :
    Calls Tryd.prog 5 #[.string ⟨src.toArray⟩] w fun e w' => e = .returned (.bool true) ∧ Below w.heap.size w w' := by
  have hsz : (⟨src.toArray⟩ : ByteArray).size = src.length := by simp [ByteArray.size]
  by_cases h3 : src.length ≤ 3000
  · have d0 : decide ((src.length : Int) > 3000) = false := decide_eq_false (by omega)
    have d0' : decide ((3000 : Int) < src.length) = false := decide_eq_false (by omega)
    have HA : Hid (Calls Tryd.prog 9 #[] w fun e w' => e = .returned (.bool true) ∧ Below w.heap.size w w') := awake_any w g
    have HS0 : ∀ w', Below w.heap.size w w' → Calls Tryd.prog 10 #[.string ⟨src.toArray⟩] w' (ScanPost (scanT src) w') := fun w' h => scan_any _ hmx w' (g.keep h)
    have hcnt := scanT_count src
    cases hR : (scanT src).2 with
    | some er =>
      have HS : ∀ w', Below w.heap.size w w' → Hid (Calls Tryd.prog 10 #[.string ⟨src.toArray⟩] w' fun e w'' => ∃ q, e = .returned (.tuple #[.slice none 0 0, .iface 65 (.pointer (some ⟨q, 0, none⟩))]) ∧ Below w'.heap.size w' w'') := fun w' h => by
        refine (HS0 w' h).mono ?_
        rintro e w'' ⟨hb, ⟨hx, _⟩ | ⟨er', q, hx, rfl, hp⟩⟩
        · rw [hR] at hx; cases hx
        · exact ⟨q, rfl, hb⟩
      clear HS0 hR g hcnt
      go_enter Tryd.func5, Tryd.ntmps5
      go_wp2_with (first | (go_at_call 9; (with_reducible refine (HA.out).mono ?_); rintro e w1 ⟨rfl, hb1⟩) | (go_at_call 10; (with_reducible refine ((HS _ hb1).out).mono ?_); rintro e w2 ⟨q1, rfl, hb2⟩))
      go_ret
      exact ⟨rfl, hb1.trans (hb2.mono hb1.size)⟩
    | none =>
      have HP := scanT_places src h3 hR
      have HS : ∀ w', Below w.heap.size w w' → Hid (Calls Tryd.prog 10 #[.string ⟨src.toArray⟩] w' fun e w'' => ∃ p m c, e = .returned (.tuple #[.slice p m c, .nilIface]) ∧ w''.ownsRow w'.heap.size 34 5 (.slice p m c) (scanT src).1.length (tksCells (scanT src).1) ∧ Below w'.heap.size w' w'') := fun w' h => by
        refine (HS0 w' h).mono ?_
        rintro e w'' ⟨hb, ⟨_, v, rfl, ho⟩ | ⟨er', q, hx, _⟩⟩
        · obtain ⟨p, m, c, rfl⟩ := own_slice ho
          exact ⟨p, m, c, rfl, ho, hb⟩
        · rw [hR] at hx; cases hx
      have HB : ∀ (s : Bs) (hs : s.length ≤ 65536) w', Hid (Calls Tryd.prog 16 #[.string ⟨s.toArray⟩] w' fun e w'' => e = .returned (.bool (bareN false s)) ∧ w'' = w') := fun s hs w' => bare_any s hs w'
      have HO : ∀ (s : Bs) (hs : s.length ≤ 65536) w', Hid (Calls Tryd.prog 17 #[.string ⟨s.toArray⟩] w' fun e w'' => e = .returned (.bool (openN false s)) ∧ w'' = w') := fun s hs w' => open_any s hs w'
      have HPl : ∀ ln cl w', Hid (Calls Tryd.prog 15 #[.string ⟨src.toArray⟩, .int .i64 ln, .int .i64 cl] w' fun e w'' => e = .returned (.int .i64 (atV 0 (plc ln cl src 1 1))) ∧ w'' = w') := fun ln cl w' => place_any src (by omega) ln cl w'
      clear HS0 hR g
      generalize (scanT src).1 = l at *
      go_enter Tryd.func5, Tryd.ntmps5
      go_wp2_with (first | (go_at_call 9; (with_reducible refine (HA.out).mono ?_); rintro e w1 ⟨rfl, hb1⟩) | (go_at_call 10; (with_reducible refine ((HS _ hb1).out).mono ?_); rintro e w2 ⟨pw, mw, cw, rfl, ow, hb2⟩; have c2 := hb1.trans (hb2.mono hb1.size); have ew := own_len' ow; subst ew; clear HS))
      go_loopw [5, 6] (fun v5 v6 wr => ∃ at0 i : Nat, v5 = .int .i64 at0 ∧ v6 = .int .i64 i ∧ i ≤ l.length ∧ at0 ≤ src.length ∧ Hid (Places false (src.drop at0) (pos (src.take at0) 1 1).1 (pos (src.take at0) 1 1).2 (l.drop i)) ∧ Below w2.heap.size w2 wr) (fun _ v _ => l.length - (intOf v).toNat)
      case atStart => exact ⟨0, 0, rfl, rfl, Nat.zero_le _, Nat.zero_le _, HP, Below.refl _ _⟩
      case round =>
        obtain ⟨at0, i, rfl, rfl, hi, ha, hpl, hbel⟩ := hrel
        have ha3 : at0 ≤ 3000 := by omega
        by_cases hlt : i < l.length
        · obtain ⟨gw, rfl⟩ : ∃ gw, pw = some ⟨gw, 0, none⟩ := own_some ow (by omega)
          obtain ⟨x0, x1, x2, x3, x4⟩ := row_tok (own_more' ow hbel) i hlt
          have hd : l.drop i = l[i] :: l.drop (i + 1) := List.drop_eq_getElem_cons hlt
          rw [hd] at hpl
          obtain ⟨q, q1, q2, q3, q4, q5, q6, q7, q8, q9⟩ := places_step src at0 ha _ _ hpl
          have hq3 : q ≤ 3000 := by omega
          have dl : decide ((i : Int) < l.length) = true := decide_eq_true (by omega)
          have hm := meas hlt
          clear hpl hd
          generalize l[i] = t at *
          have ht3 : t.text.length ≤ 3000 := by omega
          have hts : (⟨t.text.toArray⟩ : ByteArray).size = t.text.length := by simp [ByteArray.size]
          have e1 : (⟨src.toArray⟩ : ByteArray).extract q (q + t.text.length) = ⟨t.text.toArray⟩ := by rw [ext_mid, show q + t.text.length - q = t.text.length by omega, q6]
          have e2 : (⟨src.toArray⟩ : ByteArray).extract at0 q = ⟨((src.drop at0).take (q - at0)).toArray⟩ := ext_mid src at0 q
          have hne : t.text ≠ [] := fun h => by rw [h] at q7; simp at q7
          have f1 : decide ((q : Int) < at0) = false := decide_eq_false (by omega)
          have f3 : decide ((q : Int) + t.text.length > src.length) = false := decide_eq_false (by omega)
          have f3' : decide ((src.length : Int) < (q : Int) + t.text.length) = false := decide_eq_false (by omega)
          have hgl : ((src.drop at0).take (q - at0)).length ≤ 65536 := by simp; omega
          have HB1 := HB _ hgl
          have HO1 := HO _ hgl
          have HP1 := HPl t.line t.col
          rw [q3, show atV 0 (some q) = (q : Int) by simp [atV]] at HP1
          have hn1 : t.text.isEmpty = false := by cases ht : t.text with | nil => exact absurd ht hne | cons _ _ => rfl
          have f1n : decide (q < at0) = false := decide_eq_false (by omega)
          have hwr : IntKind.i64.wrap ((q : Int) + (t.text.length : Int)) = ((q + t.text.length : Nat) : Int) := by rw [IntKind.wrap_i64]; omega
          have hs2 : (q : Int) + (t.text.length : Int) ≤ (src.length : Int) := by omega
          have hs3 : (at0 : Int) ≤ (q : Int) := by omega
          have hs4 : (q : Int) ≤ (src.length : Int) := by omega
          have htn : ((q : Int) + (t.text.length : Int)).toNat = q + t.text.length := by omega
          have hrun : ∀ W, (Instr.slice 9 (.string ⟨src.toArray⟩) (some (.int .i64 (q : Int))) (some (.int .i64 ((q : Int) + (t.text.length : Int)))) none).run Tryd.prog W = .ok (.string ⟨t.text.toArray⟩) W := by
            intro W
            rw [run_slice_string W 9 _ .i64 .i64 _ _ Tryd.underlying9 (by omega) (by omega) (by rw [hsz]; exact hs2), htn, Int.toNat_natCast, e1]
          have f3n : decide (src.length < q + t.text.length) = false := decide_eq_false (by omega)
          rw [q4] at HB1
          rw [q5] at HO1
          clear HB HO HPl q3 q4 q5 q6 ow
          generalize hG : (src.drop at0).take (q - at0) = gap at *
          go_wp2_with (go_at_call 15; (with_reducible refine ((HP1 _).out).mono ?_); rintro e w' ⟨rfl, hw⟩; subst w')
          go_quiet (fail)
          have hlen : q + t.text.length ≤ 3000 := by omega
          by_cases hend : q + t.text.length < src.length
          · obtain ⟨ch, hch⟩ : ∃ ch, src[q + t.text.length] = ch := ⟨_, rfl⟩
            have hltb : q + t.text.length < (⟨src.toArray⟩ : ByteArray).size := by omega
            have hgc : ((⟨src.toArray⟩ : ByteArray)[q + t.text.length]'hltb) = ch := by rw [← hch]; rfl
            have HI : ∀ w', Hid (Calls Tryd.prog 18 #[.int .u8 (ch.toNat : Nat)] w' fun e w'' => e = .returned (.bool (inN ch.toNat)) ∧ w'' = w') := fun w' => inNameL_any ch.toNat w'
            have d5 : decide (((q + t.text.length : Nat) : Int) < src.length) = true := decide_eq_true (by omega)
            have d5n : decide (q + t.text.length < src.length) = true := decide_eq_true hend
            by_cases hk : t.kind < 50
            · have d6 : decide (t.kind < 50) = true := decide_eq_true hk
              have hp := q8 hk
              rw [headIs_at pN src _ hend, hch] at hp
              have hp' : inN ch.toNat = false := hp
              rw [hp'] at HI
              clear q8 hp hp' hch
              go_wp2_with (first | (go_at_call 16; (with_reducible refine ((HB1 _).out).mono ?_); rintro e w' ⟨rfl, hw⟩; subst w') | (go_at_call 17; (with_reducible refine ((HO1 _).out).mono ?_); rintro e w' ⟨rfl, hw⟩; subst w') | (go_at_call 18; (with_reducible refine ((HI _).out).mono ?_); rintro e w' ⟨rfl, hw⟩; subst w'))
              exact ⟨⟨q + t.text.length, i + 1, rfl, rfl, hlt, q2, q9, below_drewN _ (hbel.trans ((Below.refl _ wr).alloc hbel.size _))⟩, hm⟩
            · have d6 : decide (t.kind < 50) = false := decide_eq_false hk
              clear q8 hch
              go_wp2_with (first | (go_at_call 16; (with_reducible refine ((HB1 _).out).mono ?_); rintro e w' ⟨rfl, hw⟩; subst w') | (go_at_call 17; (with_reducible refine ((HO1 _).out).mono ?_); rintro e w' ⟨rfl, hw⟩; subst w'))
              exact ⟨⟨q + t.text.length, i + 1, rfl, rfl, hlt, q2, q9, below_drewN _ (hbel.trans ((Below.refl _ wr).alloc hbel.size _))⟩, hm⟩
          · have d5 : decide (((q + t.text.length : Nat) : Int) < src.length) = false := decide_eq_false (by omega)
            have d5n : decide (q + t.text.length < src.length) = false := decide_eq_false hend
            clear q8
            go_wp2_with (first | (go_at_call 16; (with_reducible refine ((HB1 _).out).mono ?_); rintro e w' ⟨rfl, hw⟩; subst w') | (go_at_call 17; (with_reducible refine ((HO1 _).out).mono ?_); rintro e w' ⟨rfl, hw⟩; subst w'))
            exact ⟨⟨q + t.text.length, i + 1, rfl, rfl, hlt, q2, q9, below_drewN _ (hbel.trans ((Below.refl _ wr).alloc hbel.size _))⟩, hm⟩
        · have dl : decide ((i : Int) < l.length) = false := decide_eq_false (by omega)
          rw [List.drop_eq_nil_of_le (show l.length ≤ i by omega)] at hpl
          have hpb : bareN false (src.drop at0) = true := hpl
          have e2 : (⟨src.toArray⟩ : ByteArray).extract at0 src.length = ⟨(src.drop at0).toArray⟩ := ext_drop src at0
          have HB1 := HB (src.drop at0) (by simp; omega)
          rw [hpb] at HB1
          clear HB HO HPl ow hpl hpb
          generalize src.drop at0 = rest at *
          go_wp2_with (go_at_call 16; (with_reducible refine ((HB1 _).out).mono ?_); rintro e w' ⟨rfl, hw⟩; subst w')
          go_ret
          exact ⟨rfl, c2.trans (hbel.mono c2.size)⟩
  · have d0 : decide ((src.length : Int) > 3000) = true := decide_eq_true (by omega)
    have d0' : decide ((3000 : Int) < src.length) = true := decide_eq_true (by omega)
    go_enter Tryd.func5, Tryd.ntmps5
    go_wp2
    go_ret
    exact ⟨rfl, Below.refl _ _⟩
end Go.Proofs.YtidffddmlaedcaaDoor
