import Derived.Test.YtcifdlncbekohaaDoorRO2
namespace Go.Proofs.YtcifdlncbekohaaDoor
open Go.ChangeShapes Go.WideShapes Go.ChangeAt Go.RowKit
set_option linter.unusedVariables false
set_option linter.unusedSimpArgs false

/-- the keys rise -/
def Rsg (n : Nat) (X : Nat → Se) : Prop := ∀ i, i + 1 < n → klt (X i) (X (i + 1)) = true

set_option maxRecDepth 100000 in
set_option maxHeartbeats 4000000 in
theorem rising_any (p : Option Addr) (n cp : Nat) (X : Nat → Se) (hn : n ≤ 2932031007402) (w : World) (h : SIn w p n X) : Calls Tryd.prog 15 #[.slice p n cp] w fun e w' => ∃ q, e = .returned (.bool q) ∧ (q = true ↔ Rsg n X) ∧ Below w.heap.size w w' := by
  have HH : Hid (SIn w p n X) := h
  clear h
  go_enter Tryd.func15, Tryd.ntmps15
  go_wp2_with fail
  go_loopw [3] (fun x wr => ∃ i : Nat, x = .int .i64 (i : Int) ∧ 1 ≤ i ∧ i ≤ n + 1 ∧ (∀ k, k + 1 < i → k + 1 < n → klt (X k) (X (k + 1)) = true) ∧ Below w.heap.size w wr) (fun x _ => n - (intOf x).toNat)
  case atStart => exact ⟨1, rfl, Nat.le_refl _, by omega, fun k hk => absurd hk (by omega), Below.refl _ _⟩
  case round =>
    obtain ⟨i, rfl, h1, h2, hall, hbr⟩ := hrel
    by_cases hlt : i < n
    case neg =>
      have dlt : decide ((i : Int) < (n : Int)) = false := by simp; omega
      go_wp2_with fail
      go_ret
      exact ⟨true, rfl, ⟨fun _ k hk => hall k (by omega) hk, fun _ => rfl⟩, hbr⟩
    have dlt : decide ((i : Int) < (n : Int)) = true := by simp; omega
    have hm := smeas hlt
    obtain ⟨j, hj⟩ : ∃ j, j + 1 = i := ⟨i - 1, by omega⟩
    have i0 : (0 : Int) ≤ (i : Int) := by omega
    have i1 : (i : Int) < (n : Int) := by omega
    have j0 : (0 : Int) ≤ (j : Int) := by omega
    have j1 : (j : Int) < (n : Int) := by omega
    have ei : IntKind.i64.wrap ((i : Int) + 1) = (i : Int) + 1 := by rw [IntKind.wrap_i64]; omega
    have ej : IntKind.i64.wrap ((i : Int) - 1) = (j : Int) := by rw [IntKind.wrap_i64]; omega
    obtain ⟨b, o, hp, hl, b0, b1, b2, b3, b4, b5⟩ := (HH.out.below hbr).at hlt
    obtain ⟨b', o', hp', _, a0, a1, a2, a3, a4, a5⟩ := (HH.out.below hbr).at (i := j) (by omega)
    subst hp
    injection hp' with hp'
    injection hp' with g1 g2 g3
    subst g1 g2
    obtain ⟨r, hr⟩ : ∃ r, kc (X j) (X i) = r := ⟨_, rfl⟩
    have HC : ∀ w', Below wr.heap.size wr w' → Hid (Calls Tryd.prog 30 #[.agg #[.int .u64 (X j).t, .int .i64 (X j).s, .int .u64 (X j).q, .int .i64 (X j).d, .int .i64 (X j).k, .int .i64 (X j).v], .agg #[.int .u64 (X i).t, .int .i64 (X i).s, .int .u64 (X i).q, .int .i64 (X i).d, .int .i64 (X i).k, .int .i64 (X i).v]] w' fun e w9 => e = .returned (.int .i64 r) ∧ Below wr.heap.size wr w9) := fun w' hb => by
      refine (cev_any (X j) (X i) w').mono ?_
      rintro e w9 ⟨h1, h2⟩
      exact ⟨by first | (rw [h1, ← hr]; done) | (rw [h1, ← hr]; rfl), hb.trans (h2.mono hb.size)⟩
    have KK : ∀ w1, Below wr.heap.size wr w1 → Hid ((w1.cell? ⟨b, o + j * 6, none⟩ = some (.int .u64 (X j).t) ∧ w1.cell? ⟨b, o + j * 6 + 1, none⟩ = some (.int .i64 (X j).s) ∧ w1.cell? ⟨b, o + j * 6 + 2, none⟩ = some (.int .u64 (X j).q) ∧ w1.cell? ⟨b, o + j * 6 + 3, none⟩ = some (.int .i64 (X j).d) ∧ w1.cell? ⟨b, o + j * 6 + 4, none⟩ = some (.int .i64 (X j).k) ∧ w1.cell? ⟨b, o + j * 6 + 5, none⟩ = some (.int .i64 (X j).v)) ∧ w1.cell? ⟨b, o + i * 6, none⟩ = some (.int .u64 (X i).t) ∧ w1.cell? ⟨b, o + i * 6 + 1, none⟩ = some (.int .i64 (X i).s) ∧ w1.cell? ⟨b, o + i * 6 + 2, none⟩ = some (.int .u64 (X i).q) ∧ w1.cell? ⟨b, o + i * 6 + 3, none⟩ = some (.int .i64 (X i).d) ∧ w1.cell? ⟨b, o + i * 6 + 4, none⟩ = some (.int .i64 (X i).k) ∧ w1.cell? ⟨b, o + i * 6 + 5, none⟩ = some (.int .i64 (X i).v)) := fun w1 hb => ⟨⟨(cell_below (a := ⟨b, o + j * 6, none⟩) hb hl).trans a0, (cell_below (a := ⟨b, o + j * 6 + 1, none⟩) hb hl).trans a1, (cell_below (a := ⟨b, o + j * 6 + 2, none⟩) hb hl).trans a2, (cell_below (a := ⟨b, o + j * 6 + 3, none⟩) hb hl).trans a3, (cell_below (a := ⟨b, o + j * 6 + 4, none⟩) hb hl).trans a4, (cell_below (a := ⟨b, o + j * 6 + 5, none⟩) hb hl).trans a5⟩, (cell_below (a := ⟨b, o + i * 6, none⟩) hb hl).trans b0, (cell_below (a := ⟨b, o + i * 6 + 1, none⟩) hb hl).trans b1, (cell_below (a := ⟨b, o + i * 6 + 2, none⟩) hb hl).trans b2, (cell_below (a := ⟨b, o + i * 6 + 3, none⟩) hb hl).trans b3, (cell_below (a := ⟨b, o + i * 6 + 4, none⟩) hb hl).trans b4, (cell_below (a := ⟨b, o + i * 6 + 5, none⟩) hb hl).trans b5⟩
    have HR : Hid (kc (X j) (X i) = r ∧ j + 1 = i ∧ (∀ k, k + 1 < i → k + 1 < n → klt (X k) (X (k + 1)) = true) ∧ Below w.heap.size w wr) := ⟨hr, hj, hall, hbr⟩
    clear hr hj hall hbr
    by_cases hlt0 : 0 ≤ r
    case pos =>
      have dR : decide (0 ≤ r) = true := by simpa using hlt0
      go_upto_region 4 with fail
      go_region_held3 (fun w' => (w'.cell? ⟨b, o + j * 6, none⟩ = some (.int .u64 (X j).t) ∧ w'.cell? ⟨b, o + j * 6 + 1, none⟩ = some (.int .i64 (X j).s) ∧ w'.cell? ⟨b, o + j * 6 + 2, none⟩ = some (.int .u64 (X j).q) ∧ w'.cell? ⟨b, o + j * 6 + 3, none⟩ = some (.int .i64 (X j).d) ∧ w'.cell? ⟨b, o + j * 6 + 4, none⟩ = some (.int .i64 (X j).k) ∧ w'.cell? ⟨b, o + j * 6 + 5, none⟩ = some (.int .i64 (X j).v)) ∧ w'.cell? ⟨b, o + i * 6, none⟩ = some (.int .u64 (X i).t) ∧ w'.cell? ⟨b, o + i * 6 + 1, none⟩ = some (.int .i64 (X i).s) ∧ w'.cell? ⟨b, o + i * 6 + 2, none⟩ = some (.int .u64 (X i).q) ∧ w'.cell? ⟨b, o + i * 6 + 3, none⟩ = some (.int .i64 (X i).d) ∧ w'.cell? ⟨b, o + i * 6 + 4, none⟩ = some (.int .i64 (X i).k) ∧ w'.cell? ⟨b, o + i * 6 + 5, none⟩ = some (.int .i64 (X i).v)) (first | exact ⟨⟨a0, a1, a2, a3, a4, a5⟩, b0, b1, b2, b3, b4, b5⟩ | exact KP | go_keep) ((go_at_call 30; (with_reducible refine ((HC _ (Below.drew (Below.refl _ wr))).out).mono ?_); rintro e w1 ⟨rfl, hb1⟩; have KP := (KK w1 hb1).out))
      all_goals (try go_wp2_with fail)
      all_goals (
        go_ret
        refine ⟨false, rfl, ⟨fun e => (by cases e), fun hG => ?_⟩, HR.out.2.2.2.trans (hb1.mono HR.out.2.2.2.size)⟩
        have h9 := hG j (by have := HR.out.2.1; omega)
        rw [HR.out.2.1] at h9
        unfold klt at h9
        rw [HR.out.1] at h9
        have h7 := of_decide_eq_true h9
        omega)
    have dR : decide (0 ≤ r) = false := by simpa using hlt0
    go_upto_region 4 with fail
    go_region_held3 (fun w' => (w'.cell? ⟨b, o + j * 6, none⟩ = some (.int .u64 (X j).t) ∧ w'.cell? ⟨b, o + j * 6 + 1, none⟩ = some (.int .i64 (X j).s) ∧ w'.cell? ⟨b, o + j * 6 + 2, none⟩ = some (.int .u64 (X j).q) ∧ w'.cell? ⟨b, o + j * 6 + 3, none⟩ = some (.int .i64 (X j).d) ∧ w'.cell? ⟨b, o + j * 6 + 4, none⟩ = some (.int .i64 (X j).k) ∧ w'.cell? ⟨b, o + j * 6 + 5, none⟩ = some (.int .i64 (X j).v)) ∧ w'.cell? ⟨b, o + i * 6, none⟩ = some (.int .u64 (X i).t) ∧ w'.cell? ⟨b, o + i * 6 + 1, none⟩ = some (.int .i64 (X i).s) ∧ w'.cell? ⟨b, o + i * 6 + 2, none⟩ = some (.int .u64 (X i).q) ∧ w'.cell? ⟨b, o + i * 6 + 3, none⟩ = some (.int .i64 (X i).d) ∧ w'.cell? ⟨b, o + i * 6 + 4, none⟩ = some (.int .i64 (X i).k) ∧ w'.cell? ⟨b, o + i * 6 + 5, none⟩ = some (.int .i64 (X i).v)) (first | exact ⟨⟨a0, a1, a2, a3, a4, a5⟩, b0, b1, b2, b3, b4, b5⟩ | exact KP | go_keep) ((go_at_call 30; (with_reducible refine ((HC _ (Below.drew (Below.refl _ wr))).out).mono ?_); rintro e w1 ⟨rfl, hb1⟩; have KP := (KK w1 hb1).out))
    all_goals (try go_wp2_with fail)
    all_goals (
      refine ⟨⟨i + 1, rfl, by omega, by omega, fun k hk1 hk2 => ?_, HR.out.2.2.2.trans (hb1.mono HR.out.2.2.2.size)⟩, hm⟩
      by_cases e : k + 1 < i
      · exact HR.out.2.2.1 k e hk2
      · have h8 : k = j := by have := HR.out.2.1; omega
        rw [h8, HR.out.2.1]
        unfold klt
        rw [HR.out.1]
        simp
        omega)

end Go.Proofs.YtcifdlncbekohaaDoor
