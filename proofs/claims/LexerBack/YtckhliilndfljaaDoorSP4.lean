import Derived.Test.YtckhliilndfljaaDoorSP3
namespace Go.Proofs.YtckhliilndfljaaDoor
open Go.ChangeShapes Go.WideShapes Go.ChangeAt Go.RowKit
set_option linter.unusedVariables false
set_option linter.unusedSimpArgs false
/-- may b stand behind a, where they stand? -/
def flwB (a b : Tk) : Bool := if a.line = b.line then (decide (b.col - (a.text.length : Int) > a.col) || (decide (b.col - (a.text.length : Int) = a.col) && tchB a b)) else decide (a.line < b.line)
set_option maxRecDepth 100000 in
set_option maxHeartbeats 2000000 in
theorem follows_any (a b : Tk) (hbt : b.text ≠ []) (ha : a.text ≠ []) (hla : a.text.length ≤ 65536) (hlb : b.text.length ≤ 65536) (hbc : 1 ≤ b.col ∧ b.col ≤ 9223372036854775807) (w : World) (g : Gr w) : Calls Tryd.prog 21 #[.agg (tkA a), .agg (tkA b)] w fun e w' => e = .returned (.bool (flwB a b)) ∧ Below w.heap.size w w' := by
  obtain ⟨c, x, hcx⟩ : ∃ c x, b.text = c :: x := by
    cases h : b.text with
    | nil => exact absurd h hbt
    | cons c x => exact ⟨c, x, rfl⟩
  obtain ⟨w1, hw1⟩ : ∃ w1, (w.alloc (.cells (tkA a) 34)).alloc (.cells (tkA b) 34) = w1 := ⟨_, rfl⟩
  have hbA : Below w.heap.size w (w.alloc (.cells (tkA a) 34)) := (Below.refl _ w).alloc (Nat.le_refl _) _
  have hb1 : Below w.heap.size w w1 := by rw [← hw1]; exact hbA.alloc (by simp) _
  have hbx : w1.heap[w.heap.size]? = some (.cells (tkA a) 34 (0, 0)) := by rw [← hw1]; exact (Below.heap_alloc _ _ _ (by simp)).trans (World.alloc_heap_new w _)
  have hby : w1.heap[w.heap.size + 1]? = some (.cells (tkA b) 34 (0, 0)) := by
    rw [← hw1]
    have h := World.alloc_heap_new (w.alloc (.cells (tkA a) 34)) (.cells (tkA b) 34 (0, 0))
    rw [World.size_alloc] at h
    exact h
  have HM : Hid (Calls Tryd.prog 32 #[.agg (tkA a), .agg (tkA b)] w1 fun e w' => e = .returned (.bool (tchB a b)) ∧ Below w1.heap.size w1 w') := mayTouch_any a b c x hcx ha hla hlb w1 (g.keep hb1)
  have HB : Hid (Below w.heap.size w w1) := hb1
  obtain ⟨tc, htc⟩ : ∃ tc, tchB a b = tc := ⟨_, rfl⟩
  rw [htc] at HM
  have hfl : flwB a b = if a.line = b.line then (decide (b.col - (a.text.length : Int) > a.col) || (decide (b.col - (a.text.length : Int) = a.col) && tc)) else decide (a.line < b.line) := by unfold flwB; rw [htc]
  rw [hfl]
  clear hfl htc hbA hb1 g hbt ha hcx c x
  obtain ⟨ak, at', an, al, ac⟩ := a
  obtain ⟨bk, bt, bn, bl, bc⟩ := b
  unfold tkA at *
  simp only at *
  obtain ⟨p0, p1, p2, p3, p4⟩ := cells5 hbx
  obtain ⟨q0, q1, q2, q3, q4⟩ := cells5 hby
  have haz : (⟨at'.toArray⟩ : ByteArray).size = at'.length := by simp [ByteArray.size]
  obtain ⟨la, hlae⟩ : ∃ la, at'.length = la := ⟨_, rfl⟩
  rw [hlae] at haz hla ⊢
  have es : IntKind.i64.wrap (bc - (la : Int)) = bc - (la : Int) := by rw [IntKind.wrap_i64]; omega
  clear hbx hby hlae
  go_enter Tryd.func21, Tryd.ntmps21
  by_cases h1 : al = bl
  · have d1 : (al == bl) = true := by simp; exact h1
    have d1' : (al != bl) = false := by simp; exact h1
    rw [if_pos h1]
    clear h1
    by_cases h2 : bc - (la : Int) > ac
    · have d2 : decide (ac < bc - (la : Int)) = true := decide_eq_true h2
      rw [decide_eq_true h2, Bool.true_or]
      clear h2
      go_wp2
      go_ret
      exact ⟨rfl, HB.out⟩
    · have d2 : decide (ac < bc - (la : Int)) = false := decide_eq_false (by omega)
      rw [decide_eq_false h2, Bool.false_or]
      by_cases h3 : bc - (la : Int) = ac
      · have d3 : (bc - (la : Int) == ac) = true := by simp; exact h3
        rw [decide_eq_true h3, Bool.true_and]
        clear h2 h3
        go_wp2_with (go_at_call 32; (with_reducible refine (HM.out).mono ?_); rintro e w2 ⟨rfl, hb2⟩)
        go_ret
        exact ⟨by simp, HB.out.trans (hb2.mono HB.out.size)⟩
      · have d3 : (bc - (la : Int) == ac) = false := by simp; exact h3
        rw [decide_eq_false h3, Bool.false_and]
        clear h2 h3
        go_wp2
        go_ret
        exact ⟨by simp, HB.out⟩
  · have d1 : (al == bl) = false := by simp; exact h1
    have d1' : (al != bl) = true := by simp; exact h1
    rw [if_neg h1]
    clear h1
    go_wp2
    go_ret
    exact ⟨by simp, HB.out⟩
end Go.Proofs.YtckhliilndfljaaDoor
