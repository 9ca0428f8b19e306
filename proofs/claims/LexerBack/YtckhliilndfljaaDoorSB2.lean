import Derived.Test.YtckhliilndfljaaDoorSB1
import Derived.Test.YtckhliilndfljaaDoorSB0
import Derived.Test.YtckhliilndfljaaDoorLAwake
namespace Go.Proofs.YtckhliilndfljaaDoor
open Go.ChangeShapes Go.WideShapes Go.ChangeAt Go.RowKit
set_option linter.unusedVariables false
set_option linter.unusedSimpArgs false
theorem scan_far : ∀ (n : Nat) (s : Bs) (l c cnt : Nat), s.length ≤ n → 1 ≤ c → ∀ t ∈ (scan s l c cnt).1, t.line ≤ ((l + s.length : Nat) : Int) ∧ t.col ≤ ((c + s.length : Nat) : Int) := by
  intro n
  induction n with
  | zero =>
    intro s l c cnt hs _ t ht
    obtain rfl : s = [] := List.eq_nil_of_length_eq_zero (by omega)
    rw [scan_nil] at ht
    cases ht
  | succ n ih =>
    intro s l c cnt hs hc1 t ht
    cases s with
    | nil =>
      rw [scan_nil] at ht
      cases ht
    | cons x r =>
      simp only [List.length_cons] at hs ⊢
      by_cases h1 : x.toNat = 10
      · rw [scan_nl _ _ _ _ _ h1] at ht
        have := ih r _ _ _ (by omega) (by omega) t ht
        omega
      · by_cases h2 : x.toNat = 32 ∨ x.toNat = 9 ∨ x.toNat = 13
        · rw [scan_bl _ _ _ _ _ h2] at ht
          have := ih r _ _ _ (by omega) (by omega) t ht
          omega
        · by_cases h3 : x.toNat = 35
          · rw [scan_cm _ _ _ _ _ h3] at ht
            have htl : (r.takeWhile pC).length ≤ r.length := by
              have := congrArg List.length (twp_split pC r)
              rw [List.length_append] at this
              omega
            have := ih _ _ _ _ (by rw [List.length_drop]; omega) (by omega) t ht
            rw [List.length_drop] at this
            omega
          · have hst : startT x := ⟨h1, fun e => h2 (.inl e), fun e => h2 (.inr (.inl e)), fun e => h2 (.inr (.inr e)), h3⟩
            cases hr : rd (x :: r) with
            | err e =>
              rw [scan_er _ _ _ _ _ _ hst hr] at ht
              cases ht
            | ok k u v =>
              by_cases hc : cnt = 16384
              · subst hc
                rw [scan_full _ _ _ _ _ _ _ hst hr] at ht
                cases ht
              · rw [scan_ok _ _ _ _ _ _ _ _ hst hr hc] at ht
                rcases List.mem_cons.1 ht with rfl | ht
                · show (l : Int) ≤ _ ∧ (c : Int) ≤ _
                  omega
                · have hlen := rd_len _ _ _ _ _ hr
                  have h1 := (rd_front _ _ _ _ _ hr).2
                  simp only [List.length_cons] at hlen
                  have := ih _ _ _ _ (by rw [List.length_drop]; omega) (by omega) t ht
                  rw [List.length_drop] at this
                  omega
theorem scanT_len {src : Bs} {ts : List Tk} (h : scanT src = (ts, none)) : src.length ≤ 65536 := by
  by_cases h1 : src.length > 65536
  · unfold scanT at h
    rw [if_pos h1] at h
    cases h
  · omega
theorem scanT_tkR {src : Bs} {ts : List Tk} (h : scanT src = (ts, none)) : ∀ i, i < ts.length → TkR (ts.getD i nT) := fun i hi => by
  have hl := scanT_len h
  have hs : scan src 1 1 0 = (ts, none) := by
    unfold scanT at h
    rw [if_neg (by omega)] at h
    exact h
  have hm : ts[i] ∈ (scan src 1 1 0).1 := by rw [hs]; exact List.getElem_mem hi
  have e : ts.getD i nT = ts[i] := by rw [List.getD_eq_getElem?_getD, List.getElem?_eq_getElem hi]; rfl
  rw [e]
  have h1 := scan_short _ src 1 1 0 (Nat.le_refl _) _ hm
  have h2 := scan_far _ src 1 1 0 (Nat.le_refl _) (Nat.le_refl _) _ hm
  have h3 := scan_after _ src 1 1 0 (Nat.le_refl _) _ hm
  obtain ⟨f, _⟩ := back src.length src 1 1 0 ts (Nat.le_refl _) hl hs (Nat.le_refl _) (Nat.le_refl _)
  obtain ⟨⟨a1, a2, _⟩, _⟩ := flw_at ts f i _ (List.getElem?_eq_getElem hi)
  exact ⟨by unfold maxLen; omega, by omega, by omega⟩
theorem tf_tk (ts : List Tk) : ∀ i r, i < ts.length → r < 5 → TF ts (i * 5 + r) = (tkCells ((fun i => ts.getD i nT) i)).getD r undef := fun i r hi hr => by
  have e : ts.getD i nT = ts[i] := by rw [List.getD_eq_getElem?_getD, List.getElem?_eq_getElem hi]; rfl
  show _ = (tkCells (ts.getD i nT)).getD r undef
  rw [e]
  exact tks_at ts i r _ (List.getElem?_eq_getElem hi) hr
theorem own_txs {W : World} {base : Nat} {p : Option Addr} {c : Nat} {ts : List Tk} (h : Own W base 34 5 (.slice p ts.length c) ts.length (TF ts)) : TX W p ts.length (fun i => ts.getD i nT) := by
  rcases TkIn.of_own h with h1 | ⟨b, o, h1, h2, h3⟩
  · exact .inl h1
  · refine .inr ⟨b, o, h1, h2, fun i r hi hr => ?_⟩
    rw [← tf_tk ts i r hi hr, Nat.add_assoc]
    exact h3 _ (by omega)
set_option maxRecDepth 100000 in
set_option maxHeartbeats 4000000 in
theorem back_law (src : Bs) (hmx : src.length ≤ maxLen) (w : World) (g : Gr w) : Calls Tryd.prog 4 #[.string ⟨src.toArray⟩] w fun e w' => e = .returned (.bool true) ∧ Below w.heap.size w w' := by
  have HA : Hid (Calls Tryd.prog 6 #[] w fun e w' => e = .returned (.bool true) ∧ Below w.heap.size w w') := awake_any w g
  have HG : Hid (∀ W, Below w.heap.size w W → Gr W) := fun W h => g.keep h
  clear g
  obtain ⟨ts, er, hR⟩ : ∃ ts er, scanT src = (ts, er) := ⟨_, _, rfl⟩
  cases er with
  | some er =>
    have HS1 : Hid (∀ W, Below w.heap.size w W → Calls Tryd.prog 7 #[.string ⟨src.toArray⟩] W fun e w' => ∃ b, e = .returned (.tuple #[.slice none 0 0, .iface 63 (.pointer (some ⟨b, 0, none⟩))]) ∧ Below W.heap.size W w') := fun W hW => (scan_any src hmx W (HG.out W hW)).mono fun e w' ⟨hb, h⟩ => by
      rw [hR] at h
      rcases h with ⟨h0, _⟩ | ⟨_, b, _, rfl, _⟩
      · cases h0
      · exact ⟨b, rfl, hb⟩
    clear hR hmx
    go_enter Tryd.func4, Tryd.ntmps4
    go_wp2_with (first
      | (go_at_call 6; (with_reducible refine (HA.out).mono ?_); rintro e w1 ⟨rfl, hb1⟩)
      | (go_at_call 7; (with_reducible refine (HS1.out _ hb1).mono ?_); rintro e w2 ⟨b2, rfl, hb2⟩))
    go_ret
    exact ⟨rfl, hb1.trans (hb2.mono hb1.size)⟩
  | none =>
    obtain ⟨s, hsp, hsl, hss⟩ := spell_back src ts hR
    have hl6 := scanT_len hR
    have hn : ts.length ≤ 16384 := by
      have := scanT_count src
      rw [hR] at this
      exact this
    have HS1 : Hid (∀ (x : Bs) W, (x = src ∨ x = s) → Below w.heap.size w W → Calls Tryd.prog 7 #[.string ⟨x.toArray⟩] W fun e w' => ∃ p c, e = .returned (.tuple #[.slice p ts.length c, .nilIface]) ∧ Own w' W.heap.size 34 5 (.slice p ts.length c) ts.length (TF ts) ∧ Below W.heap.size W w') := fun x W hx hW => by
      have hxx : scanT x = (ts, none) := by rcases hx with rfl | rfl; exact hR; exact hss
      refine (scan_any x (by have := scanT_len hxx; unfold maxLen; omega) W (HG.out W hW)).mono fun e w' ⟨hb, h⟩ => ?_
      rw [hxx] at h
      rcases h with ⟨_, v, rfl, ho⟩ | ⟨_, b, h0, _⟩
      · have hO := own_tks.2 ho
        obtain ⟨p, c, rfl, _⟩ := own_form' hO
        exact ⟨p, c, rfl, hO, hb⟩
      · cases h0
    have HCP : Hid (∀ W p c, TkIn W p ts.length (TF ts) → Calls Tryd.prog 8 #[.slice p ts.length c] W fun e w' => ∃ g, e = .returned (.slice (some ⟨g, 0, none⟩) ts.length ts.length) ∧ Own w' W.heap.size 34 5 (.slice (some ⟨g, 0, none⟩) ts.length ts.length) ts.length (TF ts) ∧ Below W.heap.size W w') := fun W p c h => copyTokens_any p ts.length c (TF ts) (by omega) W h (tf_sh ts)
    have HSP : Hid (∀ W p c, Below w.heap.size w W → TX W p ts.length (fun i => ts.getD i nT) → Calls Tryd.prog 10 #[.slice p ts.length c] W fun e w' => e = .returned (.tuple #[.string ⟨s.toArray⟩, .int .i64 0]) ∧ Below W.heap.size W w') := fun W p c hW h => by
      have := spell_any p ts.length c (fun i => ts.getD i nT) (by omega) (scanT_tkR hR) W (HG.out W hW) h
      rw [hsp] at this
      exact this
    have HSM : Hid (∀ W p q c d, TX W p ts.length (fun i => ts.getD i nT) → TX W q ts.length (fun i => ts.getD i nT) → Calls Tryd.prog 9 #[.slice p ts.length c, .slice q ts.length d] W fun e w' => e = .returned (.bool true) ∧ Below W.heap.size W w') := fun W p q c d h1 h2 => sameTX p q ts.length c d _ (by omega) W h1 h2
    have haz : (⟨src.toArray⟩ : ByteArray).size = src.length := by simp [ByteArray.size]
    have hbz : (⟨s.toArray⟩ : ByteArray).size = s.length := by simp [ByteArray.size]
    obtain ⟨la, hla⟩ : ∃ la, src.length = la := ⟨_, rfl⟩
    obtain ⟨ls, hls⟩ : ∃ ls, s.length = ls := ⟨_, rfl⟩
    rw [hla] at haz hsl
    rw [hls] at hbz hsl
    have dl : decide ((la : Int) < (ls : Int)) = false := decide_eq_false (by omega)
    have dl2 : decide (la < ls) = false := decide_eq_false (by omega)
    obtain ⟨n, hnn⟩ : ∃ n, ts.length = n := ⟨_, rfl⟩
    have HNN : Hid (ts.length = n) := hnn
    clear hR hmx hsp hss hl6 hla hls hsl hn HG
    rw [hnn] at HS1 HCP HSP HSM
    clear hnn
    go_enter Tryd.func4, Tryd.ntmps4
    go_wp2_with (first
      | (go_at_call 6; (with_reducible refine (HA.out).mono ?_); rintro e w1 ⟨rfl, hb1⟩; have HB1 : Hid (Below w.heap.size w w1) := hb1; clear hb1)
      | (go_at_call 7; (with_reducible refine (HS1.out src _ (.inl rfl) HB1.out).mono ?_); rintro e w2 ⟨p2, c2, rfl, ho2, hb2⟩; have HO2 : Hid (TX w2 p2 n (fun i => ts.getD i nT) ∧ TkIn w2 p2 n (TF ts) ∧ Below w.heap.size w w2) := (by rw [← HNN.out] at ho2 ⊢; exact ⟨own_txs ho2, TkIn.of_own ho2, HB1.out.trans (hb2.mono HB1.out.size)⟩); clear ho2 hb2 HB1)
      | (go_at_call 8; (with_reducible refine (HCP.out w2 p2 c2 HO2.out.2.1).mono ?_); rintro e w3 ⟨g3, rfl, ho3, hb3⟩; have HO3 : Hid (TX w3 p2 n (fun i => ts.getD i nT) ∧ TX w3 (some ⟨g3, 0, none⟩) n (fun i => ts.getD i nT) ∧ Below w.heap.size w w3) := (by rw [← HNN.out] at ho3; exact ⟨HO2.out.1.below hb3, (by have h9 := own_txs ho3; rw [HNN.out] at h9; exact h9), HO2.out.2.2.trans (hb3.mono HO2.out.2.2.size)⟩); clear ho3 hb3 HO2)
      | (go_at_call 10; (with_reducible refine (HSP.out w3 _ _ HO3.out.2.2 HO3.out.2.1).mono ?_); rintro e w4 ⟨rfl, hb4⟩; have HO4 : Hid (TX w4 p2 n (fun i => ts.getD i nT) ∧ Below w.heap.size w w4) := ⟨HO3.out.1.below hb4, HO3.out.2.2.trans (hb4.mono HO3.out.2.2.size)⟩; clear hb4 HO3)
      | (go_at_call 7; (with_reducible refine (HS1.out s w4 (.inr rfl) HO4.out.2).mono ?_); rintro e w5 ⟨p5, c5, rfl, ho5, hb5⟩; have HO5 : Hid (TX w5 p2 n (fun i => ts.getD i nT) ∧ TX w5 p5 n (fun i => ts.getD i nT) ∧ Below w.heap.size w w5) := ⟨HO4.out.1.below hb5, (by rw [← HNN.out] at ho5 ⊢; exact own_txs ho5), HO4.out.2.trans (hb5.mono HO4.out.2.size)⟩; clear ho5 hb5 HO4)
      | (go_at_call 9; (with_reducible refine (HSM.out w5 _ _ _ _ HO5.out.1 HO5.out.2.1).mono ?_); rintro e w6 ⟨rfl, hb6⟩; have HO6 : Hid (Below w.heap.size w w6) := HO5.out.2.2.trans (hb6.mono HO5.out.2.2.size); clear hb6 HO5))
    go_ret
    exact ⟨rfl, HO6.out⟩
end Go.Proofs.YtckhliilndfljaaDoor
