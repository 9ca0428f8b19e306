import Derived.Test.YtcifdlncbekohaaDoorPfxPure
import Derived.Deep.DeepCutAuto
namespace Go.Proofs.YtcifdlncbekohaaDoor
open Go.ChangeShapes Go.WideShapes Go.ChangeAt Go.RowKit

/-- a row of bytes lies there -/
def LiesAt (w : World) (v : Value) (l : List Nat) : Prop := ∃ b cap, v = .slice (some ⟨b, 0, none⟩) l.length cap ∧ b < w.heap.size ∧ (∀ i, i < l.length → w.cell? ⟨b, 0 + i, none⟩ = some (.int .u8 (bOf l i))) ∧ l.length ≤ cap ∧ cap ≤ maxLen
theorem LiesAt.below {w w' : World} {v : Value} {l : List Nat} (h : LiesAt w v l) (hb : Below w.heap.size w w') : LiesAt w' v l := by
  obtain ⟨b, cap, rfl, hlt, hc, hr⟩ := h
  exact ⟨b, cap, rfl, Nat.lt_of_lt_of_le hlt hb.size, fun i hi => (World.cell?_of_block (hb.block b hlt)).trans (hc i hi), hr⟩
theorem lies_of_own {w : World} {base n : Nat} {v : Value} {l : List Nat} (h : w.ownsRow base 5 1 v n (bcs l)) (hl : 0 < l.length) : LiesAt w v l := by
  obtain ⟨h1, h2⟩ := h
  rw [bcs_len] at h1
  rcases h2 with ⟨_, h0⟩ | ⟨g, cap, cur, rfl, hg, hh, hn, hc, hs, ht⟩
  · omega
  · have hnl : n = l.length := by omega
    subst hnl
    refine ⟨g, cap, rfl, lt_of_block hh, fun i hi => ?_, hn, hc⟩
    have e : cur.toList[i]? = some (.int .u8 (bOf l i)) := by
      have e2 : (cur.toList.take (l.length * 1))[i]? = (bcs l)[i]? := by rw [ht]
      rw [List.getElem?_take_of_lt (by omega)] at e2
      rw [e2]
      simp [bcs, bOf, hi]
    unfold World.cell?
    simp only [hh, Nat.zero_add]
    simpa using e

theorem neq_or_eq (l m : List Nat) : l.length = m.length → (∀ i, i < l.length → bOf l i = bOf m i) → l = m := by
  intro h1 h2
  refine List.ext_getElem h1 fun i hi hj => ?_
  have := h2 i hi
  unfold bOf at this
  simp [List.getD, hi, hj] at this
  omega

end Go.Proofs.YtcifdlncbekohaaDoor
