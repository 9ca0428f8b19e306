import Derived.Test.YtpeojhhbinfekacDoorPfxPure
import Derived.Deep.DeepCutAuto
namespace Go.Proofs.YtpeojhhbinfekacDoor
open Go.ChangeShapes Go.WideShapes Go.ChangeAt Go.RowKit

/-- a row of bytes lies there -/
def LiesAt (w : World) (v : Value) (l : List Nat) : Prop := ∃ b cap, v = .slice (some ⟨b, 0, none⟩) l.length cap ∧ b < w.heap.size ∧ (∀ i, i < l.length → w.cell? ⟨b, 0 + i, none⟩ = some (.int .u8 (bOf l i))) ∧ l.length ≤ cap ∧ cap ≤ maxLen
theorem LiesAt.below {w w' : World} {v : Value} {l : List Nat} (h : LiesAt w v l) (hb : Below w.heap.size w w') : LiesAt w' v l := by
  obtain ⟨b, cap, rfl, hlt, hc, hr⟩ := h
  exact ⟨b, cap, rfl, Nat.lt_of_lt_of_le hlt hb.size, fun i hi => (World.cell?_of_block (hb.block b hlt)).trans (hc i hi), hr⟩
theorem lies_of_own {w : World} {base n : Nat} {v : Value} {l : List Nat} (h : w.ownsRow base 5 1 v n (bcs l)) (hl : 0 < l.length) : LiesAt w v l := by
  obtain ⟨h1, h2⟩ := h
  rw [bcs_len] at h1
  rcases h2 with ⟨_, h0⟩ | ⟨g, cap, cur, rfl, hg, hh, hn, hc, hs, ht⟩
  · omega
  · have hnl : n = l.length := by omega
    subst hnl
    refine ⟨g, cap, rfl, lt_of_block hh, fun i hi => ?_, hn, hc⟩
    have e : cur.toList[i]? = some (.int .u8 (bOf l i)) := by
      have e2 : (cur.toList.take (l.length * 1))[i]? = (bcs l)[i]? := by rw [ht]
      rw [List.getElem?_take_of_lt (by omega)] at e2
      rw [e2]
      simp [bcs, bOf, hi]
    unfold World.cell?
    simp only [hh, Nat.zero_add]
    simpa using e

theorem neq_or_eq (l m : List Nat) : l.length = m.length → (∀ i, i < l.length → bOf l i = bOf m i) → l = m := by
  intro h1 h2
  refine List.ext_getElem h1 fun i hi hj => ?_
  have := h2 i hi
  unfold bOf at this
  simp [List.getD, hi, hj] at this
  omega

set_option maxHeartbeats 1000000 in
theorem sameBytes_any (v1 v2 : Value) (l m : List Nat) (w : World) (hL : l.length ≤ 1000000000000) (h1 : LiesAt w v1 l) (h2 : LiesAt w v2 m) :
    Calls Tryd.prog 7 #[v1, v2] w fun r w' => r = .returned (.bool (decide (l = m))) ∧ Below w.heap.size w w' := by
  obtain ⟨b1, c1, rfl, hb1, k1, _⟩ := h1
  obtain ⟨b2, c2, rfl, hb2, k2, _⟩ := h2
  by_cases hlen : l.length = m.length
  · have e0 : ((l.length : Int) != (m.length : Int)) = false := by simp [hlen]
    go_enter Tryd.func7, Tryd.ntmps7
    go_wp2
    go_loopw [13] (fun i wr => ∃ j : Nat, j ≤ l.length ∧ i = .int .i64 j ∧ (∀ x, x < j → bOf l x = bOf m x) ∧ Below w.heap.size w wr) (fun i _ => l.length - (intOf i).toNat)
    case atStart => exact ⟨0, Nat.zero_le _, rfl, fun _ h => absurd h (by omega), Below.refl _ _⟩
    case round =>
      obtain ⟨j, hj, rfl, hsame, hbx⟩ := hrel
      have HS : Hid (∀ x, x < j → bOf l x = bOf m x) := hsame
      clear hsame
      by_cases hlt : j < l.length
      · have x1 : wr.cell? ⟨b1, j, none⟩ = some (.int .u8 (bOf l j)) := by
          have := (World.cell?_of_block (a := ⟨b1, 0 + j, none⟩) (hbx.block b1 hb1)).trans (k1 j hlt)
          simpa using this
        have x2 : wr.cell? ⟨b2, j, none⟩ = some (.int .u8 (bOf m j)) := by
          have := (World.cell?_of_block (a := ⟨b2, 0 + j, none⟩) (hbx.block b2 hb2)).trans (k2 j (by omega))
          simpa using this
        have i0 : (0 : Int) ≤ (j : Int) := by omega
        have i1 : (j : Int) < (l.length : Int) := by omega
        have i2 : (j : Int) < (m.length : Int) := by omega
        obtain ⟨x, ex⟩ : ∃ x, bOf l j = x := ⟨_, rfl⟩
        obtain ⟨y, ey⟩ : ∃ y, bOf m j = y := ⟨_, rfl⟩
        rw [ex] at x1
        rw [ey] at x2
        have HX : Hid (bOf l j = x ∧ bOf m j = y) := ⟨ex, ey⟩
        clear k1 k2 ex ey
        by_cases hxy : x = y
        · have e1 : (x != y) = false := by simpa using hxy
          go_wp2_with fail
          go_region_held3 (fun w' => w'.cell? ⟨b1, j, none⟩ = some (.int .u8 x) ∧ w'.cell? ⟨b2, j, none⟩ = some (.int .u8 y)) (go_keep) (fail)
          go_wp2_with fail
          go_roundw
          case rel => exact ⟨j + 1, by omega, by go_num, fun z hz => by
            by_cases hzj : z = j
            · subst hzj; rw [HX.out.1, HX.out.2, hxy]
            · exact HS.out z (by omega), hbx.drew⟩
          case measure => simp [intOf]; omega
        · have e1 : (x != y) = true := by simpa using hxy
          have hne : decide (l = m) = false := decide_eq_false (fun h => hxy (by rw [← HX.out.1, ← HX.out.2, h]))
          go_wp2_with fail
          go_region_held3 (fun w' => w'.cell? ⟨b1, j, none⟩ = some (.int .u8 x) ∧ w'.cell? ⟨b2, j, none⟩ = some (.int .u8 y)) (go_keep) (fail)
          go_wp2_with fail
          go_ret
          exact ⟨by rw [hne]; rfl, hbx.drew⟩
      · have heq : decide (l = m) = true := decide_eq_true (neq_or_eq l m hlen (fun i hi => HS.out i (by omega)))
        clear k1 k2
        go_wp2_with fail
        go_ret
        exact ⟨by rw [heq]; rfl, hbx⟩
  · have e0 : ((l.length : Int) != (m.length : Int)) = true := by simp; omega
    have hne : decide (l = m) = false := decide_eq_false (fun h => hlen (by rw [h]))
    clear k1 k2
    go_enter Tryd.func7, Tryd.ntmps7
    go_wp2_with fail
    go_ret
    exact ⟨by rw [hne]; rfl, Below.refl _ _⟩
end Go.Proofs.YtpeojhhbinfekacDoor
