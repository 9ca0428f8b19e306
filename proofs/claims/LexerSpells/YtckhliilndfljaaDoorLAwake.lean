import Derived.Test.YtckhliilndfljaaDoorLScan
import Derived.Test.YtckhliilndfljaaDoorLSame
namespace Go.Proofs.YtckhliilndfljaaDoor
open Go.ChangeShapes Go.WideShapes Go.ChangeAt Go.RowKit
set_option linter.unusedVariables false

def awT : Bs := [108, 101, 116, 32, 120, 49, 32, 61, 32, 48, 55, 32, 35, 32, 97, 108, 108, 10, 43]
def awR : List Tk := [⟨22, [108, 101, 116], 0, 1, 1⟩, ⟨1, [120, 49], 0, 1, 5⟩, ⟨58, [61], 0, 1, 8⟩, ⟨2, [48, 55], 7, 1, 10⟩, ⟨73, [43], 0, 2, 1⟩]
theorem aw_scan : scanT awT = (awR, none) := by
  rw [scanT_fits _ (by decide)]
  unfold awT
  rw [scan_ok 108 _ 1 1 0 22 0 [108, 101, 116] (by unfold startT; decide) (by kernel_rfl) (by decide)]
  show (_ :: (scan [32, 120, 49, 32, 61, 32, 48, 55, 32, 35, 32, 97, 108, 108, 10, 43] 1 4 1).1, (scan [32, 120, 49, 32, 61, 32, 48, 55, 32, 35, 32, 97, 108, 108, 10, 43] 1 4 1).2) = _
  rw [scan_bl 32 _ 1 4 1 (by decide), scan_ok 120 _ 1 5 1 1 0 [120, 49] (by unfold startT; decide) (by kernel_rfl) (by decide)]
  show (_ :: _ :: (scan [32, 61, 32, 48, 55, 32, 35, 32, 97, 108, 108, 10, 43] 1 7 2).1, (scan [32, 61, 32, 48, 55, 32, 35, 32, 97, 108, 108, 10, 43] 1 7 2).2) = _
  rw [scan_bl 32 _ 1 7 2 (by decide), scan_ok 61 _ 1 8 2 58 0 [61] (by unfold startT; decide) (by kernel_rfl) (by decide)]
  show (_ :: _ :: _ :: (scan [32, 48, 55, 32, 35, 32, 97, 108, 108, 10, 43] 1 9 3).1, (scan [32, 48, 55, 32, 35, 32, 97, 108, 108, 10, 43] 1 9 3).2) = _
  rw [scan_bl 32 _ 1 9 3 (by decide), scan_ok 48 _ 1 10 3 2 7 [48, 55] (by unfold startT; decide) (by kernel_rfl) (by decide)]
  show (_ :: _ :: _ :: _ :: (scan [32, 35, 32, 97, 108, 108, 10, 43] 1 12 4).1, (scan [32, 35, 32, 97, 108, 108, 10, 43] 1 12 4).2) = _
  rw [scan_bl 32 _ 1 12 4 (by decide), scan_cm 35 _ 1 13 4 (by decide)]
  show (_ :: _ :: _ :: _ :: (scan [10, 43] 1 18 4).1, (scan [10, 43] 1 18 4).2) = _
  rw [scan_nl 10 _ 1 18 4 (by decide), scan_ok 43 _ 2 1 4 73 0 [43] (by unfold startT; decide) (by kernel_rfl) (by decide)]
  show (_ :: _ :: _ :: _ :: _ :: (scan [] 2 2 5).1, (scan [] 2 2 5).2) = _
  rw [scan_nil]
  rfl

set_option maxRecDepth 100000 in
set_option maxHeartbeats 2000000 in
theorem awake_any (w : World) (g : Gr w) : Calls Tryd.prog 6 #[] w fun e w' => e = .returned (.bool true) ∧ Below w.heap.size w w' := by
  have H0 := scan_any awT (by unfold maxLen; decide) w g
  rw [aw_scan] at H0
  have H : Hid (Calls Tryd.prog 7 #[.string ⟨#[108, 101, 116, 32, 120, 49, 32, 61, 32, 48, 55, 32, 35, 32, 97, 108, 108, 10, 43]⟩] w fun e w' => ∃ gg cap, e = .returned (.tuple #[.slice (some ⟨gg, 0, none⟩) 5 cap, .nilIface]) ∧ w'.ownsRow w.heap.size 34 5 (.slice (some ⟨gg, 0, none⟩) 5 cap) awR.length (tksCells awR) ∧ Below w.heap.size w w') := by
    refine H0.mono ?_
    rintro e w' ⟨hb, ⟨_, v, rfl, ho⟩ | ⟨er, b, hx, _⟩⟩
    · obtain ⟨p, m, c, rfl⟩ := own_slice ho
      have e1 := own_len' ho
      obtain ⟨gg, rfl⟩ := own_some ho (by decide)
      have e2 : m = 5 := e1
      subst e2
      exact ⟨gg, c, rfl, ho, hb⟩
    · cases hx
  clear H0 g
  go_enter Tryd.func6, Tryd.ntmps6
  go_wp2_with (go_at_call 7; (with_reducible refine (H.out).mono ?_); rintro e w1 ⟨gg, cap, rfl, ho, hb⟩; obtain ⟨a0, a1, a2, a3, a4⟩ := row_tok ho 0 (by decide); obtain ⟨b0, b1, b2, b3, b4⟩ := row_tok ho 1 (by decide); obtain ⟨c0, c1, c2, c3, c4⟩ := row_tok ho 2 (by decide); obtain ⟨d0, d1, d2, d3, d4⟩ := row_tok ho 3 (by decide); obtain ⟨e0, e1, e2, e3, e4⟩ := row_tok ho 4 (by decide); simp only [awR, List.getElem_cons_zero, List.getElem_cons_succ, Nat.zero_mul, Nat.zero_add, Nat.one_mul, Nat.reduceMul, Nat.reduceAdd] at a0 a1 a2 a3 a4 b0 b1 b2 b3 b4 c0 c1 c2 c3 c4 d0 d1 d2 d3 d4 e0 e1 e2 e3 e4; clear ho)
  go_ret
  exact ⟨rfl, hb⟩
end Go.Proofs.YtckhliilndfljaaDoor
