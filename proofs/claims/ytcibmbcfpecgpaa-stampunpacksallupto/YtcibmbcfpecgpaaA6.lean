import Derived.Test.YtcibmbcfpecgpaaA4
import Derived.Test.YtcibmbcfpecgpaaA5
namespace Go.Proofs.Ytcibmbcfpecgpaa
open Go.ChangeShapes Go.WideShapes Go.ChangeAt Go.RowKit
set_option linter.unusedVariables false

/-! ### events as cells -/
def evF (E : Nat → Nat → Int) : Nat → Value := fun x =>
  match x % 6 with
  | 0 => .int .u64 (E (x / 6) 0)
  | 1 => .int .i64 (E (x / 6) 1)
  | 2 => .int .u64 (E (x / 6) 2)
  | 3 => .int .i64 (E (x / 6) 3)
  | 4 => .int .i64 (E (x / 6) 4)
  | _ => .int .i64 (E (x / 6) 5)
theorem evF6 (E : Nat → Nat → Int) (i : Nat) : evF E (i * 6) = .int .u64 (E i 0) ∧ evF E (i * 6 + 1) = .int .i64 (E i 1) ∧ evF E (i * 6 + 2) = .int .u64 (E i 2) ∧ evF E (i * 6 + 3) = .int .i64 (E i 3) ∧ evF E (i * 6 + 4) = .int .i64 (E i 4) ∧ evF E (i * 6 + 5) = .int .i64 (E i 5) := by
  have e : ∀ r, r < 6 → (i * 6 + r) % 6 = r ∧ (i * 6 + r) / 6 = i := fun r hr => ⟨by omega, by omega⟩
  have e0 : (i * 6) % 6 = 0 := by omega
  have e1 : (i * 6) / 6 = i := by omega
  refine ⟨?_, ?_, ?_, ?_, ?_, ?_⟩
  · unfold evF
    rw [e0, e1]
    rfl
  · unfold evF
    rw [(e 1 (by decide)).1, (e 1 (by decide)).2]
    rfl
  · unfold evF
    rw [(e 2 (by decide)).1, (e 2 (by decide)).2]
    rfl
  · unfold evF
    rw [(e 3 (by decide)).1, (e 3 (by decide)).2]
    rfl
  · unfold evF
    rw [(e 4 (by decide)).1, (e 4 (by decide)).2]
    rfl
  · unfold evF
    rw [(e 5 (by decide)).1, (e 5 (by decide)).2]
    rfl
theorem evF_snoc (E : Nat → Nat → Int) (c : Nat) (v0 v1 v2 v3 v4 v5 : Int) : cellsF (evF E) (c * 6) ++ [.int .u64 v0, .int .i64 v1, .int .u64 v2, .int .i64 v3, .int .i64 v4, .int .i64 v5] = cellsF (evF (ext E c (fun r => [v0, v1, v2, v3, v4, v5].getD r 0))) ((c + 1) * 6) := by
  have e1 : [Value.int .u64 v0, .int .i64 v1, .int .u64 v2, .int .i64 v3, .int .i64 v4, .int .i64 v5] = cellsF (fun x => [Value.int .u64 v0, .int .i64 v1, .int .u64 v2, .int .i64 v3, .int .i64 v4, .int .i64 v5].getD x undef) 6 := rfl
  rw [e1, cellsF_append, show c * 6 + 6 = (c + 1) * 6 by omega]
  apply cellsF_congr
  intro x hx
  by_cases h : x < c * 6
  · rw [if_pos h]
    unfold evF
    rw [ext_ne _ _ _ (by omega)]
  · rw [if_neg h]
    obtain ⟨r, hr, rfl⟩ : ∃ r, r < 6 ∧ x = c * 6 + r := ⟨x - c * 6, by omega, by omega⟩
    have e2 : (c * 6 + r) % 6 = r := by omega
    have e3 : (c * 6 + r) / 6 = c := by omega
    have e4 : c * 6 + r - c * 6 = r := by omega
    unfold evF
    rw [e2, e3, e4, ext_at]
    match r, hr with
    | 0, _ => rfl
    | 1, _ => rfl
    | 2, _ => rfl
    | 3, _ => rfl
    | 4, _ => rfl
    | 5, _ => rfl
theorem unLoop_form {B : Nat → Int} {L : Nat} (bB : ∀ i, i < L → 0 ≤ B i ∧ B i ≤ 255) : ∀ (m a : Nat) (acc : List Value) (c : Nat) (E : Nat → Nat → Int), acc = cellsF (evF E) (c * 6) → c ≤ a → a ≤ L → ∃ c' E', (unLoop B L m a acc).1 = cellsF (evF E') (c' * 6) ∧ c' ≤ L
  | 0, a, acc, c, E, h, h1, h2 => ⟨c, E, h, by omega⟩
  | m + 1, a, acc, c, E, h, h1, h2 => by
    rw [unLoop]
    split
    · rename_i he
      obtain ⟨v0, v1, v2, v3, v4, v5, hv⟩ : ∃ v0 v1 v2 v3 v4 v5 : Int, evVals B L a 0 = #[.int .u64 v0, .int .i64 v1, .int .u64 v2, .int .i64 v3, .int .i64 v4, .int .i64 v5] := ⟨_, _, _, _, _, _, rfl⟩
      have h3 := evR5_adv B L a he
      refine unLoop_form bB m _ _ (c + 1) (ext E c (fun r => [v0, v1, v2, v3, v4, v5].getD r 0)) ?_ (by omega) (evR5_ok bB h2).1
      rw [h, hv]
      exact evF_snoc E c v0 v1 v2 v3 v4 v5
    · exact ⟨c, E, h, by omega⟩
theorem allRes_norm {B : Nat → Int} {L : Nat} (bB : ∀ i, i < L → 0 ≤ B i ∧ B i ≤ 255) : ∃ (cU : Nat) (E : Nat → Nat → Int) (nU eU : Int), cU ≤ L ∧ ∀ base vl n e W, AllRes base (unAll B L) vl n e W → n = nU ∧ e = eU ∧ Own W base 26 6 vl cU (evF E) := by
  by_cases h : (unAll B L).2.2 = 0
  · obtain ⟨c, E, h1, h2⟩ : ∃ c E, (unAll B L).1 = cellsF (evF E) (c * 6) ∧ c ≤ L := by
      unfold unAll
      split
      · exact unLoop_form bB _ _ [] 0 (fun _ _ => 0) rfl (Nat.zero_le _) (rdNum_ok (a := 0) bB (Nat.zero_le L)).2.1
      · exact ⟨0, fun _ _ => 0, rfl, Nat.zero_le _⟩
    refine ⟨c, E, (unAll B L).2.1, 0, h2, fun base vl n e W hr => ?_⟩
    unfold AllRes at hr
    rw [if_pos h] at hr
    obtain ⟨⟨cnt, ho⟩, rfl, rfl⟩ := hr
    have hc : cnt = c := by
      have := ho.1
      rw [h1, cellsF_len] at this
      omega
    subst hc
    rw [h1] at ho
    exact ⟨rfl, rfl, ho⟩
  · refine ⟨0, fun _ _ => 0, 0, (unAll B L).2.2, Nat.zero_le _, fun base vl n e W hr => ?_⟩
    unfold AllRes at hr
    rw [if_neg h] at hr
    obtain ⟨rfl, rfl, rfl⟩ := hr
    exact ⟨rfl, rfl, World.ownsRow_nil _ _ _ _⟩
theorem neq_evE (a b c d e f : Int) (W : World) : (binOp .neq 26 (.agg #[.int .u64 a, .int .i64 b, .int .u64 c, .int .i64 d, .int .i64 e, .int .i64 f]) (.agg #[.int .u64 a, .int .i64 b, .int .u64 c, .int .i64 d, .int .i64 e, .int .i64 f])).run Try.prog W = .ok (.bool false) W := by
  go_simp

set_option maxRecDepth 100000 in
set_option maxHeartbeats 2000000 in
theorem sameEvs_yes (v1 v2 : Value) (b1 b2 cnt : Nat) (E : Nat → Nat → Int) (hc : cnt ≤ 1000000000) (w : World) (h1 : Own w b1 26 6 v1 cnt (evF E)) (h2 : Own w b2 26 6 v2 cnt (evF E)) :
    Calls Try.prog 16 #[v1, v2] w fun e w' => e = .returned (.bool true) ∧ Below w.heap.size w w' := by
  have hf : ∀ {b : Nat} {v : Value}, Own w b 26 6 v cnt (evF E) → ∃ p c, v = .slice p cnt c ∧ ∀ i, i < cnt → ∃ g, p = some ⟨g, 0, none⟩ ∧ g < w.heap.size ∧ w.cell? ⟨g, i * 6, none⟩ = some (.int .u64 (E i 0)) ∧ w.cell? ⟨g, i * 6 + 1, none⟩ = some (.int .i64 (E i 1)) ∧ w.cell? ⟨g, i * 6 + 2, none⟩ = some (.int .u64 (E i 2)) ∧ w.cell? ⟨g, i * 6 + 3, none⟩ = some (.int .i64 (E i 3)) ∧ w.cell? ⟨g, i * 6 + 4, none⟩ = some (.int .i64 (E i 4)) ∧ w.cell? ⟨g, i * 6 + 5, none⟩ = some (.int .i64 (E i 5)) := fun {b v} h => by
    rcases h.form with ⟨h3, h4⟩ | ⟨g, c, h3, _, h5⟩
    · exact ⟨none, 0, by rw [h3, h4], fun i hi => by omega⟩
    · refine ⟨_, _, h3, fun i hi => ⟨g, rfl, h5, ?_⟩⟩
      rw [h3] at h
      obtain ⟨m0, m1, m2, m3, m4, m5⟩ := evF6 E i
      rw [← m0, ← m1, ← m2, ← m3, ← m4, ← m5]
      exact ⟨h.cell (by omega), h.cell (by omega), h.cell (by omega), h.cell (by omega), h.cell (by omega), h.cell (by omega)⟩
  obtain ⟨p1, c1, rfl, H1⟩ := hf h1
  obtain ⟨p2, c2, rfl, H2⟩ := hf h2
  clear hf h1 h2
  have HH1 : Hid (∀ i, i < cnt → ∃ g, p1 = some ⟨g, 0, none⟩ ∧ g < w.heap.size ∧ w.cell? ⟨g, i * 6, none⟩ = some (.int .u64 (E i 0)) ∧ w.cell? ⟨g, i * 6 + 1, none⟩ = some (.int .i64 (E i 1)) ∧ w.cell? ⟨g, i * 6 + 2, none⟩ = some (.int .u64 (E i 2)) ∧ w.cell? ⟨g, i * 6 + 3, none⟩ = some (.int .i64 (E i 3)) ∧ w.cell? ⟨g, i * 6 + 4, none⟩ = some (.int .i64 (E i 4)) ∧ w.cell? ⟨g, i * 6 + 5, none⟩ = some (.int .i64 (E i 5))) := H1
  have HH2 : Hid (∀ i, i < cnt → ∃ g, p2 = some ⟨g, 0, none⟩ ∧ g < w.heap.size ∧ w.cell? ⟨g, i * 6, none⟩ = some (.int .u64 (E i 0)) ∧ w.cell? ⟨g, i * 6 + 1, none⟩ = some (.int .i64 (E i 1)) ∧ w.cell? ⟨g, i * 6 + 2, none⟩ = some (.int .u64 (E i 2)) ∧ w.cell? ⟨g, i * 6 + 3, none⟩ = some (.int .i64 (E i 3)) ∧ w.cell? ⟨g, i * 6 + 4, none⟩ = some (.int .i64 (E i 4)) ∧ w.cell? ⟨g, i * 6 + 5, none⟩ = some (.int .i64 (E i 5))) := H2
  clear H1 H2
  go_enter Try.func16, Try.ntmps16
  go_wp2
  go_loopw [13] (fun v wr => ∃ i : Nat, v = .int .i64 i ∧ i ≤ cnt ∧ Below w.heap.size w wr) (fun v _ => cnt - (intOf v).toNat)
  case atStart => exact ⟨0, rfl, Nat.zero_le _, Below.refl _ _⟩
  case round =>
    obtain ⟨i, rfl, hi, hbel⟩ := hrel
    by_cases hlt : i < cnt
    · have dl : decide ((i : Int) < cnt) = true := decide_eq_true (by omega)
      have hm := meas hlt
      obtain ⟨g1, rfl, hg1, x0, x1, x2, x3, x4, x5⟩ := HH1.out i hlt
      obtain ⟨g2, rfl, hg2, y0, y1, y2, y3, y4, y5⟩ := HH2.out i hlt
      have cb : ∀ {g o : Nat}, g < w.heap.size → wr.cell? ⟨g, o, none⟩ = w.cell? ⟨g, o, none⟩ := fun {g o} h => World.cell?_of_block (a := ⟨g, o, none⟩) (hbel.block g h)
      rw [← cb hg1] at x0 x1 x2 x3 x4 x5
      rw [← cb hg2] at y0 y1 y2 y3 y4 y5
      have ne1 := neq_evE (E i 0) (E i 1) (E i 2) (E i 3) (E i 4) (E i 5)
      clear HH1 HH2 cb
      generalize E i 0 = e0 at *
      generalize E i 1 = e1 at *
      generalize E i 2 = e2 at *
      generalize E i 3 = e3 at *
      generalize E i 4 = e4 at *
      generalize E i 5 = e5 at *
      go_wp2
      go_quiet (fail)
      go_wp2
      exact ⟨⟨i + 1, rfl, hlt, hbel.trans ⟨rfl, rfl, rfl, Nat.le_refl _, fun _ _ => rfl⟩⟩, hm⟩
    · have dl : decide ((i : Int) < cnt) = false := decide_eq_false (by omega)
      obtain rfl : i = cnt := by omega
      clear HH1 HH2
      go_wp2
      go_ret
      exact ⟨rfl, hbel⟩
end Go.Proofs.Ytcibmbcfpecgpaa
