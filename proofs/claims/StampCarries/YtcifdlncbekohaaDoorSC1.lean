import Derived.Test.YtcifdlncbekohaaDoorPfxPure
namespace Go.Proofs.YtcifdlncbekohaaDoor
open Go.ChangeShapes Go.WideShapes Go.ChangeAt Go.RowKit
set_option linter.unusedVariables false
set_option linter.unusedSimpArgs false

/-! ### what is packed is read as it was -/
theorem unz_zig (i : Int) : unz ((zig i : Nat) : Int) = i := by
  unfold unz zig
  by_cases h : 0 ≤ i
  · rw [if_pos h]
    have e : (((2 * i).toNat : Nat) : Int) = 2 * i := by omega
    rw [e, if_pos (by omega)]
    omega
  · rw [if_neg h]
    have e : (((-2 * i - 1).toNat : Nat) : Int) = -2 * i - 1 := by omega
    rw [e, if_neg (by omega)]
    omega
theorem ev_read {l : List Nat} {L a : Nat} {e : Ev} {r : List Nat} (hi : e.In) (hd : l.drop a = e.bytes ++ r) (hL : a + e.bytes.length ≤ L) : (evR5 (bOf l) L a 0).2 = (a + e.bytes.length, 0) ∧ evVals (bOf l) L a 0 = e.cells := by
  have hd' : l.drop a = enc e.t ++ (enc (zig e.s) ++ (enc e.q ++ (enc (zig e.d) ++ (enc (zig e.k) ++ (enc (zig e.v) ++ r))))) := by rw [hd]; simp [Ev.bytes, evb]
  have e1 : a + e.bytes.length = a + (enc e.t).length + (enc (zig e.s)).length + (enc e.q).length + (enc (zig e.d)).length + (enc (zig e.k)).length + (enc (zig e.v)).length := by simp [Ev.bytes, evb]; omega
  rw [e1] at hL ⊢
  have d1 := drop_app hd'
  have d2 := drop_app d1
  have d3 := drop_app d2
  have d4 := drop_app d3
  have d5 := drop_app d4
  have r0 : evR0 (bOf l) L a 0 = (((e.t : Nat) : Int), a + (enc e.t).length, 0) := (rdSt_enc hi.t hd' (by omega)).1 (by omega)
  have r1 : evR1 (bOf l) L a 0 = (((zig e.s : Nat) : Int), a + (enc e.t).length + (enc (zig e.s)).length, 0) := by unfold evR1; rw [r0]; exact (rdSt_enc (zig_lt _ hi.s.1 hi.s.2) d1 (by omega)).1 (by omega)
  have r2 : evR2 (bOf l) L a 0 = (((e.q : Nat) : Int), a + (enc e.t).length + (enc (zig e.s)).length + (enc e.q).length, 0) := by unfold evR2; rw [r1]; exact (rdSt_enc hi.q d2 (by omega)).1 (by omega)
  have r3 : evR3 (bOf l) L a 0 = (((zig e.d : Nat) : Int), a + (enc e.t).length + (enc (zig e.s)).length + (enc e.q).length + (enc (zig e.d)).length, 0) := by unfold evR3; rw [r2]; exact (rdSt_enc (zig_lt _ hi.d.1 hi.d.2) d3 (by omega)).1 (by omega)
  have r4 : evR4 (bOf l) L a 0 = (((zig e.k : Nat) : Int), a + (enc e.t).length + (enc (zig e.s)).length + (enc e.q).length + (enc (zig e.d)).length + (enc (zig e.k)).length, 0) := by unfold evR4; rw [r3]; exact (rdSt_enc (zig_lt _ hi.k.1 hi.k.2) d4 (by omega)).1 (by omega)
  have r5 : evR5 (bOf l) L a 0 = (((zig e.v : Nat) : Int), a + (enc e.t).length + (enc (zig e.s)).length + (enc e.q).length + (enc (zig e.d)).length + (enc (zig e.k)).length + (enc (zig e.v)).length, 0) := by unfold evR5; rw [r4]; exact (rdSt_enc (zig_lt _ hi.v.1 hi.v.2) d5 (by omega)).1 (by omega)
  refine ⟨by rw [r5], ?_⟩
  unfold evVals Ev.cells
  rw [r0, r1, r2, r3, r4, r5]
  simp only [unz_zig]
def evsC : List Ev → List Value
  | [] => []
  | e :: r => e.cells.toList ++ evsC r
theorem evs_read {l : List Nat} {L : Nat} : ∀ (es : List Ev) (a : Nat) (acc : List Value) (r : List Nat), (∀ e ∈ es, e.In) → l.drop a = evsB es ++ r → a + (evsB es).length ≤ L → unLoop (bOf l) L es.length a acc = (acc ++ evsC es, a + (evsB es).length, 0)
  | [], a, acc, r, _, _, _ => by simp [unLoop, evsC, evsB]
  | e :: es, a, acc, r, hi, hd, hL => by
    have hl : (evsB (e :: es)).length = e.bytes.length + (evsB es).length := by simp [evsB]
    have hd' : l.drop a = e.bytes ++ (evsB es ++ r) := by rw [hd]; simp [evsB]
    rw [hl] at hL ⊢
    obtain ⟨h1, h2⟩ := ev_read (L := L) (hi e (by simp)) hd' (by omega)
    show unLoop (bOf l) L (es.length + 1) a acc = _
    unfold unLoop
    rw [h1]
    simp only
    rw [if_pos trivial, h2]
    rw [evs_read es _ _ r (fun x hx => hi x (by simp [hx])) (drop_app hd') (by omega)]
    simp [evsC, Nat.add_assoc]
theorem all_read (es : List Ev) (r : List Nat) (hi : ∀ e ∈ es, e.In) (hn : es.length < 18446744073709551616) {L : Nat} (hL : (enc es.length ++ evsB es).length ≤ L) : unAll (bOf (enc es.length ++ evsB es ++ r)) L = (evsC es, (enc es.length ++ evsB es).length, 0) := by
  have hl : (enc es.length ++ evsB es).length = (enc es.length).length + (evsB es).length := by simp
  rw [hl] at hL ⊢
  have hd : (enc es.length ++ evsB es ++ r).drop 0 = enc es.length ++ (evsB es ++ r) := by simp
  have h0 : rdNum (bOf (enc es.length ++ evsB es ++ r)) L 0 = ((es.length : Int), 0 + (enc es.length).length, 0) := (rdSt_enc hn hd (Nat.zero_le _)).1 (by omega)
  unfold unAll
  rw [h0]
  simp only
  rw [if_pos trivial]
  have h1 := evs_read (L := L) es (0 + (enc es.length).length) [] r hi (drop_app hd) (by omega)
  rw [show ((es.length : Int)).toNat = es.length from Int.toNat_natCast _, h1]
  simp
theorem evsC_len (es : List Ev) : (evsC es).length = es.length * 6 := by
  induction es with
  | nil => rfl
  | cons e es ih => simp [evsC, Ev.cells, ih]; omega
theorem evsB_ge (es : List Ev) : 6 * es.length ≤ (evsB es).length := by
  induction es with
  | nil => simp [evsB]
  | cons e es ih =>
    have h : 6 ≤ e.bytes.length := by
      have h0 := enc_pos e.t
      have h1 := enc_pos (zig e.s)
      have h2 := enc_pos e.q
      have h3 := enc_pos (zig e.d)
      have h4 := enc_pos (zig e.k)
      have h5 := enc_pos (zig e.v)
      simp [Ev.bytes, evb]
      omega
    simp [evsB]
    omega
end Go.Proofs.YtcifdlncbekohaaDoor
