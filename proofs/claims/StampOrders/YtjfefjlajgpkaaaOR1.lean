import Derived.Test.YtjfefjlajgpkaaaFS1
import Derived.Test.YtjfefjlajgpkaaaRO5
namespace Go.Proofs.Ytjfefjlajgpkaaa
open Go.ChangeShapes Go.WideShapes Go.ChangeAt Go.RowKit
set_option linter.unusedVariables false
set_option linter.unusedSimpArgs false

/-! ### lists with room behind them -/
def rmS (i : Nat) : Se := ⟨0, 0, 0, 0, 0, -11 - (i : Int)⟩
def zeS : Se := ⟨0, 0, 0, 0, 0, 0⟩
def rX (X : Nat → Se) (n i j : Nat) : Se := if j < n then X j else if j < i then rmS j else zeS
theorem mdZ (n j : Nat) (hj : j < n * 6) : (madeCells (Value.agg #[.int .u64 0, .int .i64 0, .int .u64 0, .int .i64 0, .int .i64 0, .int .i64 0]).cells (n * 6)).toList.getD j undef = seF (fun _ => zeS) j := by
  unfold madeCells seF seC seL zeS
  have h6 : (Value.agg #[.int .u64 0, .int .i64 0, .int .u64 0, .int .i64 0, .int .i64 0, .int .i64 0]).cells.size = 6 := rfl
  have hm : j % 6 = 0 ∨ j % 6 = 1 ∨ j % 6 = 2 ∨ j % 6 = 3 ∨ j % 6 = 4 ∨ j % 6 = 5 := by omega
  simp [hj, h6]
  rcases hm with h | h | h | h | h | h <;> rw [h] <;> rfl
theorem SRow.put5 {W : World} {base g n cap : Nat} {c : Nat → Se} (h : SRow W base g n cap c) (i : Nat) (v : Int) : SRow (W.setCell ⟨g, i * 6 + 5, none⟩ (.int .i64 v)) base g n cap (setS c i ⟨(c i).t, (c i).s, (c i).q, (c i).d, (c i).k, v⟩) := by
  refine Own.congr (Own.put h (i * 6 + 5) [.int .i64 v]) fun j hj => ?_
  unfold putF
  by_cases x : i * 6 + 5 ≤ j ∧ j < i * 6 + 5 + [Value.int .i64 v].length
  · rw [if_pos x]
    obtain rfl : j = i * 6 + 5 := by
      have : [Value.int .i64 v].length = 1 := rfl
      omega
    rw [seF_at _ _ _ (by omega), show i * 6 + 5 - (i * 6 + 5) = 0 by omega]
    unfold setS
    rw [if_pos rfl]
    rfl
  · rw [if_neg x]
    have x' : j ≠ i * 6 + 5 := fun e => x (by rw [e]; exact ⟨Nat.le_refl _, Nat.lt_succ_self _⟩)
    unfold seF setS
    by_cases e : j / 6 = i
    · rw [if_pos e, e]
      have : j % 6 = 0 ∨ j % 6 = 1 ∨ j % 6 = 2 ∨ j % 6 = 3 ∨ j % 6 = 4 := by omega
      rcases this with e9 | e9 | e9 | e9 | e9 <;> rw [e9] <;> rfl
    · rw [if_neg e]
set_option maxRecDepth 100000 in
set_option maxHeartbeats 2000000 in
theorem sroomy_any (X : Nat → Se) (p : Option Addr) (n cap : Nat) (w : World) (h : SIn w p n X) (hL : n ≤ 1000000000000) :
    Calls Try.prog 5 #[.slice p n cap] w fun e w' => e = .returned (.slice (some ⟨w.heap.size, 0, none⟩) (n + 3) (n + 3)) ∧ SRow w' w.heap.size w.heap.size (n + 3) (n + 3) (rX X n (n + 3)) ∧ Below w.heap.size w w' := by
  obtain ⟨i6, hi6, ha6, hb6, hc6⟩ := sinfo infoSE
  have hsz : (Try.prog.info? 51).map (·.size) = some 6 := by simp [hi6, hb6]
  have HH : Hid (SIn w p n X) := h
  clear h
  have ew : IntKind.i64.wrap ((n : Int) + 3) = (n : Int) + 3 := by rw [IntKind.wrap_i64]; omega
  go_enter Try.func5, Try.ntmps5
  go_wp2_with (at_make; refine wpList_make_full _ rfl (.tmp 7) (.tmp 7) 23 rfl w.heap.size 51 i6 _ 6 Try.underlying23 hi6 ha6 hb6 .i64 .i64 ((n : Int) + 3) ((n : Int) + 3) (n + 3) rfl rfl ?c4 ?c5 ?c1 ?c2 ?c3 ?_)
  case c4 => omega
  case c5 => omega
  case c1 => rw [hc6]; omega
  case c2 => unfold maxLen; omega
  case c3 => exact Nat.le_refl _
  intro w1 hown hgrow
  have hb1 : Below w.heap.size w w1 := (Below.refl _ _).grown hgrow (Nat.le_refl _) (by simp)
  have hO1 : Hid (Own w1 w.heap.size 51 6 (.slice (some ⟨w.heap.size, 0, none⟩) (n + 3) (n + 3)) (n + 3) (seF (fun _ => zeS))) := (own_of_row hown).congr fun j hj => mdZ (n + 3) j hj
  have hsrc : Hid (n = 0 ∨ ∃ ad, p = some ad ∧ ∀ j, j < n * 6 → w1.cell? (ad.add j) = some (seF X j)) := by
    rcases HH.out with h | ⟨b, o, hp, hb, hc⟩
    · exact .inl h
    · exact .inr ⟨_, hp, fun j hj => by rw [addr_add0]; exact (cell_below (a := ⟨b, o + j, none⟩) hb1 hb).trans (hc j hj)⟩
  have HB1 : Hid (Below w.heap.size w w1) := hb1
  clear hown hgrow hb1
  go_wp2_with (refine wpList_copy_head rfl (.tmp 9) (.tmp 10) 23 23 rfl 51 6 Try.underlying23 hsz w.heap.size w.heap.size (n + 3) (n + 3) n cap p rfl rfl (Nat.le_add_right _ _) _ (seF X) hO1.out (fun j _ => seF_one X j) hsrc.out w.heap.size w HB1.out (Nat.le_refl _) ?_; intro w2 hO2 hB2)
  have hO3 : Hid (SRow w2 w.heap.size w.heap.size (n + 3) (n + 3) (rX X n n)) := hO2.out.congr fun j hj => by
    by_cases hc : j < n * 6
    · rw [if_pos hc]
      unfold seF rX
      rw [if_pos (by omega)]
    · rw [if_neg hc]
      unfold seF rX
      rw [if_neg (by omega), if_neg (by omega)]
  have HB2 : Hid (Below w.heap.size w w2) := hB2
  clear hO1 hO2 hsrc HB1 hB2
  go_wp2
  go_loopw [4] (fun v wr => ∃ (i : Nat), v = .int .i64 i ∧ n ≤ i ∧ i ≤ n + 3 ∧ SRow wr w.heap.size w.heap.size (n + 3) (n + 3) (rX X n i) ∧ Below w.heap.size w wr) (fun v _ => n + 3 - (intOf v).toNat)
  case atStart => exact ⟨n, rfl, Nat.le_refl _, Nat.le_add_right _ _, hO3.out, HB2.out⟩
  case round =>
    obtain ⟨i, rfl, hi0, hi1, hO, hB⟩ := hrel
    by_cases hlt : i < n + 3
    · have dl : decide ((i : Int) < (n : Int) + 3) = true := decide_eq_true (by omega)
      have hm := meas hlt
      obtain ⟨_, _, _, _, _, x5⟩ := hO.cells hlt
      have f5 := hO.fz (i * 6 + 5)
      have hgl := hO.lt.2
      have ew2 : IntKind.i64.wrap (-11 - (i : Int)) = -11 - (i : Int) := by rw [IntKind.wrap_i64]; omega
      have hst := hO.put5 i (-11 - (i : Int))
      have hbn := hB.setCell (p := ⟨w.heap.size, i * 6 + 5, none⟩) (Nat.le_refl _) (.int .i64 (-11 - (i : Int)))
      have HST : Hid (SRow (wr.setCell ⟨w.heap.size, i * 6 + 5, none⟩ (.int .i64 (-11 - (i : Int)))) w.heap.size w.heap.size (n + 3) (n + 3) (rX X n (i + 1))) := SRow.congr hst fun j hj => by
        have ez : rX X n i i = zeS := by
          unfold rX
          rw [if_neg (by omega), if_neg (by omega)]
        unfold setS
        by_cases e : j = i
        · rw [if_pos e, e, ez]
          unfold rX
          rw [if_neg (by omega), if_pos (by omega)]
          rfl
        · rw [if_neg e]
          unfold rX
          by_cases h1 : j < n
          · rw [if_pos h1, if_pos h1]
          · rw [if_neg h1, if_neg h1]
            by_cases h2 : j < i
            · rw [if_pos h2, if_pos (by omega)]
            · rw [if_neg h2, if_neg (by omega)]
      have HBN : Hid (Below w.heap.size w (wr.setCell ⟨w.heap.size, i * 6 + 5, none⟩ (.int .i64 (-11 - (i : Int))))) := hbn
      generalize (rX X n i i).v = y5 at x5
      clear hst hbn hO hB hO3 HB2
      go_wp2
      exact ⟨⟨i + 1, rfl, by omega, by omega, HST.out, HBN.out⟩, hm⟩
    · have dl : decide ((i : Int) < (n : Int) + 3) = false := decide_eq_false (by omega)
      obtain rfl : i = n + 3 := by omega
      have HO : Hid (SRow wr w.heap.size w.heap.size (n + 3) (n + 3) (rX X n (n + 3))) := hO
      clear hO
      go_wp2
      go_ret
      exact ⟨rfl, HO.out, hB⟩
theorem room_sin {W : World} {base g n c m : Nat} {X : Nat → Se} (h : SRow W base g (n + 3) c (rX X n m)) : SIn W (some ⟨g, 0, none⟩) n X := by
  refine .inr ⟨g, 0, rfl, h.lt.2, fun j hj => ?_⟩
  rw [Nat.zero_add, Own.cell h (j := j) (by omega)]
  unfold seF rX
  rw [if_pos (by omega)]
set_option maxRecDepth 100000 in
set_option maxHeartbeats 2000000 in
theorem suntouched_any (X : Nat → Se) (p : Option Addr) (n cap base g : Nat) (w : World) (h : SIn w p n X) (hL : n ≤ 1000000000000) (hO : SRow w base g (n + 3) (n + 3) (rX X n (n + 3))) :
    Calls Try.prog 14 #[.slice (some ⟨g, 0, none⟩) (n + 3) (n + 3), .slice p n cap] w fun e w' => e = .returned (.bool true) ∧ Below w.heap.size w w' := by
  have HS : Hid (∀ W, Below w.heap.size w W → Calls Try.prog 10 #[.slice (some ⟨g, 0, none⟩) n (n + 3), .slice p n cap] W fun e w' => e = .returned (.bool true) ∧ Below W.heap.size W w') := fun W hW => sEvents_yes n X _ _ _ _ hL W ((room_sin hO).below hW) (h.below hW)
  have HO : Hid (SRow w base g (n + 3) (n + 3) (rX X n (n + 3))) := hO
  clear h hO
  have ew : IntKind.i64.wrap ((n : Int) + 3) = (n : Int) + 3 := by rw [IntKind.wrap_i64]; omega
  go_enter Try.func14, Try.ntmps14
  go_wp2_with fail
  refine (HS.out w (Below.refl _ _)).mono ?_
  rintro x w1 ⟨rfl, hb1⟩
  have HB1 : Hid (Below w.heap.size w w1) := hb1
  clear hb1
  go_wp2_with fail
  go_loopw [5] (fun v wr => ∃ (i : Nat), v = .int .i64 i ∧ n ≤ i ∧ i ≤ n + 3 ∧ Below w.heap.size w wr) (fun v _ => n + 3 - (intOf v).toNat)
  case atStart => exact ⟨n, rfl, Nat.le_refl _, Nat.le_add_right _ _, HB1.out⟩
  case round =>
    obtain ⟨i, rfl, hi0, hi1, hB⟩ := hrel
    by_cases hlt : i < n + 3
    · have dl : decide ((i : Int) < (n : Int) + 3) = true := decide_eq_true (by omega)
      have hm := meas hlt
      have er : rX X n (n + 3) i = rmS i := by
        unfold rX
        rw [if_neg (by omega), if_pos hlt]
      obtain ⟨y0, y1, y2, y3, y4, y5⟩ := (SRow.later HO.out hB).cells hlt
      rw [er] at y0 y1 y2 y3 y4 y5
      have y0 : wr.cell? ⟨g, i * 6, none⟩ = some (.int .u64 0) := y0
      have y1 : wr.cell? ⟨g, i * 6 + 1, none⟩ = some (.int .i64 0) := y1
      have y2 : wr.cell? ⟨g, i * 6 + 2, none⟩ = some (.int .u64 0) := y2
      have y3 : wr.cell? ⟨g, i * 6 + 3, none⟩ = some (.int .i64 0) := y3
      have y4 : wr.cell? ⟨g, i * 6 + 4, none⟩ = some (.int .i64 0) := y4
      have y5 : wr.cell? ⟨g, i * 6 + 5, none⟩ = some (.int .i64 (-11 - (i : Int))) := y5
      have ew2 : IntKind.i64.wrap (-11 - (i : Int)) = -11 - (i : Int) := by rw [IntKind.wrap_i64]; omega
      have ne1 := neq_seV 0 0 0 0 0 (-11 - (i : Int))
      clear er HO
      go_wp2
      exact ⟨⟨i + 1, rfl, by omega, by omega, hB⟩, hm⟩
    · have dl : decide ((i : Int) < (n : Int) + 3) = false := decide_eq_false (by omega)
      obtain rfl : i = n + 3 := by omega
      clear HO
      go_wp2
      go_ret
      exact ⟨rfl, hB⟩
end Go.Proofs.Ytjfefjlajgpkaaa
