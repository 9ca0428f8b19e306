import Derived.Test.YtcibmbcfpecgpaaK6
namespace Go.Proofs.Ytcibmbcfpecgpaa
open Go.ChangeShapes Go.WideShapes Go.ChangeAt Go.RowKit
set_option linter.unusedVariables false

theorem neq_evW (a b c d e f : Int) (W : World) : (binOp .neq 26 (.agg #[.int .u64 a, .int .i64 b, .int .u64 c, .int .i64 d, .int .i64 e, .int .i64 f]) (.agg #[.int .u64 a, .int .i64 b, .int .u64 c, .int .i64 d, .int .i64 e, .int .i64 f])).run Try.prog W = .ok (.bool false) W := by
  go_simp
set_option maxRecDepth 100000 in
set_option maxHeartbeats 2000000 in
theorem roomy_any (es : List Ev) (sl : Option Addr) (cap : Nat) (w : World) (h : EvsAt w sl es) (hL : es.length ≤ 1000000000000) :
    Calls Try.prog 5 #[.slice sl es.length cap] w fun e w' => e = .returned (.slice (some ⟨w.heap.size, 0, none⟩) (es.length + 3) (es.length + 3)) ∧ Own w' w.heap.size 26 6 (.slice (some ⟨w.heap.size, 0, none⟩) (es.length + 3) (es.length + 3)) (es.length + 3) (roomC es (es.length + 3)) ∧ Below w.heap.size w w' := by
  obtain ⟨i6, hi6, ha6, hb6, hc6⟩ := infoQ infoEvW
  have hsz : (Try.prog.info? 26).map (·.size) = some 6 := by simp [hi6, hb6]
  have HH : Hid (EvsAt w sl es) := h
  clear h
  obtain ⟨n, hn⟩ : ∃ n, es.length = n := ⟨_, rfl⟩
  rw [hn] at hL
  have HN : Hid (es.length = n) := hn
  rw [hn]
  clear hn
  have ew : IntKind.i64.wrap ((n : Int) + 3) = (n : Int) + 3 := wrB _ (by omega) (by omega)
  go_enter Try.func5, Try.ntmps5
  go_wp2_with (at_make; refine wpList_make_full _ rfl (.tmp 7) (.tmp 7) 27 rfl w.heap.size 26 i6 _ 6 Try.underlying27 hi6 ha6 hb6 .i64 .i64 ((n : Int) + 3) ((n : Int) + 3) (n + 3) rfl rfl ?c4 ?c5 ?c1 ?c2 ?c3 ?_)
  case c4 => omega
  case c5 => omega
  case c1 => rw [hc6]; omega
  case c2 => unfold maxLen; omega
  case c3 => exact Nat.le_refl _
  intro w1 hown hgrow
  have hb1 : Below w.heap.size w w1 := (Below.refl _ _).grown hgrow (Nat.le_refl _) (by simp)
  have hO1 : Hid (Own w1 w.heap.size 26 6 (.slice (some ⟨w.heap.size, 0, none⟩) (n + 3) (n + 3)) (n + 3) (fun j => evc ev0 (j % 6))) := (own_of_row hown).congr fun j hj => zEvC (n + 3) j hj
  have hsrc : Hid (n = 0 ∨ ∃ ad, sl = some ad ∧ ∀ j, j < n * 6 → w1.cell? (ad.add j) = some (evsC es j)) := by
    rcases (HH.out.below hb1).1 with h | ⟨b, off, h1, h2, h3⟩
    · exact .inl (HN.out.symm.trans h)
    · refine .inr ⟨_, h1, fun j hj => ?_⟩
      rw [addr_add0]
      exact EvsAt.cellsAt h3 j (by rw [HN.out]; exact hj)
  have HB1 : Hid (Below w.heap.size w w1) := hb1
  clear hown hgrow hb1
  go_wp2_with (refine wpList_copy_head rfl (.tmp 9) (.tmp 10) 27 27 rfl 26 6 Try.underlying27 hsz w.heap.size w.heap.size (n + 3) (n + 3) n cap sl rfl rfl (Nat.le_add_right _ _) _ (evsC es) hO1.out (fun j _ => evc_one _ _) hsrc.out w.heap.size w HB1.out (Nat.le_refl _) ?_; intro w2 hO2 hB2)
  have hO3 : Hid (Own w2 w.heap.size 26 6 (.slice (some ⟨w.heap.size, 0, none⟩) (n + 3) (n + 3)) (n + 3) (roomC es n)) := hO2.out.congr fun j hj => by
    unfold roomC roomE evsC
    rw [HN.out]
    by_cases hc : j < n * 6
    · rw [if_pos hc, if_pos (by omega)]
    · rw [if_neg hc, if_neg (by omega), if_neg (by omega)]
  have HB2 : Hid (Below w.heap.size w w2) := hB2
  clear hO1 hO2 hsrc HB1 hB2
  go_wp2
  go_loopw [4] (fun v wr => ∃ (i : Nat), v = .int .i64 i ∧ n ≤ i ∧ i ≤ n + 3 ∧ Own wr w.heap.size 26 6 (.slice (some ⟨w.heap.size, 0, none⟩) (n + 3) (n + 3)) (n + 3) (roomC es i) ∧ Below w.heap.size w wr) (fun v _ => n + 3 - (intOf v).toNat)
  case atStart => exact ⟨n, rfl, Nat.le_refl _, Nat.le_add_right _ _, hO3.out, HB2.out⟩
  case round =>
    obtain ⟨i, rfl, hi0, hi1, hO, hB⟩ := hrel
    by_cases hlt : i < n + 3
    · have dl : decide ((i : Int) < (n : Int) + 3) = true := decide_eq_true (by omega)
      have hm := measB hlt
      have x5 := hO.cell (j := i * 6 + 5) (by omega)
      have f5 := (hO.there (o := i * 6 + 5) (n := 1) (by omega) 0 (by decide)).2
      rw [Nat.add_zero] at f5
      have hgl := (hO.kind rfl).2.1
      have ew2 := wrB (-11 - (i : Int)) (by omega) (by omega)
      have hst := hO.put (i * 6 + 5) [.int .i64 (-11 - (i : Int))]
      have hbn := hB.setCell (p := ⟨w.heap.size, i * 6 + 5, none⟩) (Nat.le_refl _) (.int .i64 (-11 - (i : Int)))
      have HST : Hid (Own (wr.setCell ⟨w.heap.size, i * 6 + 5, none⟩ (.int .i64 (-11 - (i : Int)))) w.heap.size 26 6 (.slice (some ⟨w.heap.size, 0, none⟩) (n + 3) (n + 3)) (n + 3) (roomC es (i + 1))) := hst.congr fun x hx => by
        unfold putF
        by_cases hc : i * 6 + 5 ≤ x ∧ x < i * 6 + 5 + [Value.int .i64 (-11 - (i : Int))].length
        · rw [if_pos hc]
          simp only [List.length_singleton] at hc
          obtain rfl : x = i * 6 + 5 := by omega
          unfold roomC roomE
          rw [HN.out, (six i).2.2.2.2.2.2.2.2.2.2.1, (six i).2.2.2.2.2.2.2.2.2.2.2, if_neg (by omega), if_pos (Nat.lt_succ_self i)]
          simp [rm, evc]
        · rw [if_neg hc]
          simp only [List.length_singleton] at hc
          unfold roomC roomE
          rw [HN.out]
          by_cases h1 : x / 6 < n
          · rw [if_pos h1, if_pos h1]
          · rw [if_neg h1, if_neg h1]
            by_cases h2 : x / 6 < i
            · rw [if_pos h2, if_pos (by omega)]
            · rw [if_neg h2]
              by_cases h3 : x / 6 < i + 1
              · rw [if_pos h3]
                have h4 : x / 6 = i := by omega
                rw [h4]
                have h5 : x % 6 = 0 ∨ x % 6 = 1 ∨ x % 6 = 2 ∨ x % 6 = 3 ∨ x % 6 = 4 := by omega
                rcases h5 with h | h | h | h | h <;> rw [h] <;> rfl
              · rw [if_neg h3]
      have HBN : Hid (Below w.heap.size w (wr.setCell ⟨w.heap.size, i * 6 + 5, none⟩ (.int .i64 (-11 - (i : Int))))) := hbn
      generalize roomC es i (i * 6 + 5) = y5 at x5
      clear hst hbn hO hB hO3 HB2
      go_wp2
      exact ⟨⟨i + 1, rfl, by omega, by omega, HST.out, HBN.out⟩, hm⟩
    · have dl : decide ((i : Int) < (n : Int) + 3) = false := decide_eq_false (by omega)
      obtain rfl : i = n + 3 := by omega
      have HO : Hid (Own wr w.heap.size 26 6 (.slice (some ⟨w.heap.size, 0, none⟩) (n + 3) (n + 3)) (n + 3) (roomC es (n + 3))) := hO
      clear hO
      go_wp2
      go_ret
      exact ⟨rfl, HO.out, hB⟩

set_option maxRecDepth 100000 in
set_option maxHeartbeats 2000000 in
theorem sameEv2 (es : List Ev) (p1 p2 : Option Addr) (c1 c2 : Nat) (hL : es.length ≤ 1000000000000) (w : World) (h1 : EvsAt w p1 es) (h2 : EvsAt w p2 es) :
    Calls Try.prog 16 #[.slice p1 es.length c1, .slice p2 es.length c2] w fun e w' => e = .returned (.bool true) ∧ Below w.heap.size w w' := by
  have HH1 : Hid (EvsAt w p1 es) := h1
  have HH2 : Hid (EvsAt w p2 es) := h2
  clear h1 h2
  obtain ⟨n, hn⟩ : ∃ n, es.length = n := ⟨_, rfl⟩
  rw [hn] at hL
  have HN : Hid (es.length = n) := hn
  rw [hn]
  clear hn
  go_enter Try.func16, Try.ntmps16
  go_wp2
  go_loopw [13] (fun v wr => ∃ i : Nat, v = .int .i64 i ∧ i ≤ n ∧ Below w.heap.size w wr) (fun v _ => n - (intOf v).toNat)
  case atStart => exact ⟨0, rfl, Nat.zero_le _, Below.refl _ _⟩
  case round =>
    obtain ⟨i, rfl, hi, hbel⟩ := hrel
    by_cases hlt : i < n
    · have dl : decide ((i : Int) < n) = true := decide_eq_true (by omega)
      have hm := measB hlt
      have hlt' : i < es.length := by rw [HN.out]; exact hlt
      obtain ⟨hx | ⟨g1, o1, rfl, hg1, k1⟩, _⟩ := HH1.out.below hbel
      · omega
      obtain ⟨hx | ⟨g2, o2, rfl, hg2, k2⟩, _⟩ := HH2.out.below hbel
      · omega
      obtain ⟨x0, x1, x2, x3, x4, x5⟩ := k1 i hlt'
      obtain ⟨y0, y1, y2, y3, y4, y5⟩ := k2 i hlt'
      have ne1 := neq_evW es[i].t es[i].s es[i].q es[i].d es[i].k es[i].v
      clear HH1 HH2 k1 k2
      generalize es[i] = e0 at *
      clear hlt'
      go_wp2
      go_quiet (fail)
      go_wp2
      exact ⟨⟨i + 1, rfl, hlt, hbel.trans ⟨rfl, rfl, rfl, Nat.le_refl _, fun _ _ => rfl⟩⟩, hm⟩
    · have dl : decide ((i : Int) < n) = false := decide_eq_false (by omega)
      obtain rfl : i = n := by omega
      clear HH1 HH2
      go_wp2
      go_ret
      exact ⟨rfl, hbel⟩

theorem evs_of_room {W : World} {base g : Nat} {es : List Ev} (hin : ∀ e ∈ es, e.In) (h : Own W base 26 6 (.slice (some ⟨g, 0, none⟩) (es.length + 3) (es.length + 3)) (es.length + 3) (roomC es (es.length + 3))) : EvsAt W (some ⟨g, 0, none⟩) es := by
  refine ⟨.inr ⟨g, 0, rfl, (h.kind rfl).2.1, fun i hi => ?_⟩, hin⟩
  have hc : ∀ r, r < 6 → W.cell? ⟨g, 0 + i * 6 + r, none⟩ = some (evc es[i] r) := fun r hr => by
    rw [Nat.zero_add, h.cell (j := i * 6 + r) (by omega)]
    unfold roomC roomE
    have e1 : (i * 6 + r) / 6 = i := by omega
    have e2 : (i * 6 + r) % 6 = r := by omega
    rw [e1, e2, if_pos hi, List.getD_eq_getElem?_getD, List.getElem?_eq_getElem hi]
    rfl
  exact ⟨hc 0 (by decide), hc 1 (by decide), hc 2 (by decide), hc 3 (by decide), hc 4 (by decide), hc 5 (by decide)⟩
set_option maxRecDepth 100000 in
set_option maxHeartbeats 2000000 in
theorem untouched_any (es : List Ev) (sl : Option Addr) (cap base g : Nat) (w : World) (h : EvsAt w sl es) (hL : es.length ≤ 1000000000000) (hO : Own w base 26 6 (.slice (some ⟨g, 0, none⟩) (es.length + 3) (es.length + 3)) (es.length + 3) (roomC es (es.length + 3))) :
    Calls Try.prog 11 #[.slice (some ⟨g, 0, none⟩) (es.length + 3) (es.length + 3), .slice sl es.length cap] w fun e w' => e = .returned (.bool true) ∧ Below w.heap.size w w' := by
  have HS : Hid (∀ W, Below w.heap.size w W → Calls Try.prog 16 #[.slice (some ⟨g, 0, none⟩) es.length (es.length + 3), .slice sl es.length cap] W fun e w' => e = .returned (.bool true) ∧ Below W.heap.size W w') := fun W hW => sameEv2 es _ _ _ _ hL W ((evs_of_room h.2 hO).below hW) (h.below hW)
  obtain ⟨n, hn⟩ : ∃ n, es.length = n := ⟨_, rfl⟩
  rw [hn] at hL hO HS ⊢
  have HN : Hid (es.length = n) := hn
  have HO : Hid (Own w base 26 6 (.slice (some ⟨g, 0, none⟩) (n + 3) (n + 3)) (n + 3) (roomC es (n + 3))) := hO
  clear h hO hn
  have ew : IntKind.i64.wrap ((n : Int) + 3) = (n : Int) + 3 := wrB _ (by omega) (by omega)
  go_enter Try.func11, Try.ntmps11
  go_wp2_with fail
  refine (HS.out w (Below.refl _ _)).mono ?_
  rintro x w1 ⟨rfl, hb1⟩
  have HB1 : Hid (Below w.heap.size w w1) := hb1
  clear hb1
  go_wp2_with fail
  go_loopw [5] (fun v wr => ∃ (i : Nat), v = .int .i64 i ∧ n ≤ i ∧ i ≤ n + 3 ∧ Below w.heap.size w wr) (fun v _ => n + 3 - (intOf v).toNat)
  case atStart => exact ⟨n, rfl, Nat.le_refl _, Nat.le_add_right _ _, HB1.out⟩
  case round =>
    obtain ⟨i, rfl, hi0, hi1, hB⟩ := hrel
    by_cases hlt : i < n + 3
    · have dl : decide ((i : Int) < (n : Int) + 3) = true := decide_eq_true (by omega)
      have hm := measB hlt
      have hc : ∀ r, r < 6 → wr.cell? ⟨g, i * 6 + r, none⟩ = some (evc (rm i) r) := fun r hr => by
        rw [(HO.out.more hB).cell (j := i * 6 + r) (by omega)]
        unfold roomC roomE
        have e1 : (i * 6 + r) / 6 = i := by omega
        have e2 : (i * 6 + r) % 6 = r := by omega
        rw [e1, e2, HN.out, if_neg (by omega), if_pos hlt]
      have y0 : wr.cell? ⟨g, i * 6, none⟩ = some (.int .u64 0) := hc 0 (by decide)
      have y1 : wr.cell? ⟨g, i * 6 + 1, none⟩ = some (.int .i64 0) := hc 1 (by decide)
      have y2 : wr.cell? ⟨g, i * 6 + 2, none⟩ = some (.int .u64 0) := hc 2 (by decide)
      have y3 : wr.cell? ⟨g, i * 6 + 3, none⟩ = some (.int .i64 0) := hc 3 (by decide)
      have y4 : wr.cell? ⟨g, i * 6 + 4, none⟩ = some (.int .i64 0) := hc 4 (by decide)
      have y5 : wr.cell? ⟨g, i * 6 + 5, none⟩ = some (.int .i64 (-11 - (i : Int))) := hc 5 (by decide)
      have ew2 := wrB (-11 - (i : Int)) (by omega) (by omega)
      have ne1 := neq_evW 0 0 0 0 0 (-11 - (i : Int))
      clear hc HO
      go_wp2
      exact ⟨⟨i + 1, rfl, by omega, by omega, hB⟩, hm⟩
    · have dl : decide ((i : Int) < (n : Int) + 3) = false := decide_eq_false (by omega)
      obtain rfl : i = n + 3 := by omega
      clear HO
      go_wp2
      go_ret
      exact ⟨rfl, hB⟩
end Go.Proofs.Ytcibmbcfpecgpaa
