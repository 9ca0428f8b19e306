import Derived.Test.YtckhliilndfljaaDoorSP7
namespace Go.Proofs.YtckhliilndfljaaDoor
open Go.ChangeShapes Go.WideShapes Go.ChangeAt Go.RowKit
set_option linter.unusedVariables false
set_option linter.unusedSimpArgs false
/-- Spell, plainly -/
def spell (X : Nat → Tk) (n : Nat) : Bs × Int := if n > 16384 then ([], 34) else if wfB X n = true then lay X n 0 [] 1 1 else ([], 12)
set_option maxRecDepth 100000 in
theorem spell_any (p : Option Addr) (n cp : Nat) (X : Nat → Tk) (hn : n ≤ 1000000000000) (hr : ∀ i, i < n → TkR (X i)) (w : World) (g : Gr w) (hin : TX w p n X) : Calls Tryd.prog 10 #[.slice p n cp] w fun e w' => e = .returned (.tuple #[.string ⟨(spell X n).1.toArray⟩, .int .i64 (spell X n).2]) ∧ Below w.heap.size w w' := by
  have HWF : Hid (Calls Tryd.prog 13 #[.slice p n cp] w fun e w' => e = .returned (.bool (wfB X n)) ∧ Below w.heap.size w w') := wellFormed_any p n cp X hn hr w g hin
  have HL : Hid (∀ W, Below w.heap.size w W → wfB X n = true → Calls Tryd.prog 14 #[.slice p n cp] W fun e w' => e = .returned (.tuple #[.string ⟨(lay X n 0 [] 1 1).1.toArray⟩, .int .i64 (lay X n 0 [] 1 1).2]) ∧ Below W.heap.size W w') := fun W hW hw => layOut_any p n cp X hn hr hw W (hin.below hW)
  obtain ⟨RS, hRS⟩ : ∃ RS, spell X n = RS := ⟨_, rfl⟩
  rw [hRS]
  unfold spell at hRS
  have HRS : Hid ((if n > 16384 then (([], 34) : Bs × Int) else if wfB X n = true then lay X n 0 [] 1 1 else ([], 12)) = RS) := hRS
  clear hin hr g hRS
  go_enter Tryd.func10, Tryd.ntmps10
  by_cases h1 : n > 16384
  · have d1 : decide ((16384 : Int) < (n : Int)) = true := decide_eq_true (by omega)
    have d1' : decide (16384 < n) = true := decide_eq_true h1
    have HE : Hid (([], 34) = RS) := by have h9 := HRS.out; rw [if_pos h1] at h9; exact h9
    clear h1
    go_wp2
    go_ret2
    exact ⟨by rw [← HE.out]; first | rfl | simp, Below.refl _ _⟩
  · have d1 : decide ((16384 : Int) < (n : Int)) = false := decide_eq_false (by omega)
    have d1' : decide (16384 < n) = false := decide_eq_false h1
    cases hw : wfB X n with
    | false =>
      have HE : Hid (([], 12) = RS) := by have h9 := HRS.out; rw [if_neg h1, if_neg (by rw [hw]; simp)] at h9; exact h9
      rw [hw] at HWF
      clear h1 hw HRS HL
      go_wp2_with (go_at_call 13; (with_reducible refine (HWF.out).mono ?_); rintro e w2 ⟨rfl, hb2⟩)
      go_ret2
      exact ⟨by rw [← HE.out]; first | rfl | simp, hb2⟩
    | true =>
      have HE : Hid (lay X n 0 [] 1 1 = RS) := by have h9 := HRS.out; rw [if_neg h1, if_pos hw] at h9; exact h9
      have HL2 : Hid (∀ W, Below w.heap.size w W → Calls Tryd.prog 14 #[.slice p n cp] W fun e w' => e = .returned (.tuple #[.string ⟨RS.1.toArray⟩, .int .i64 RS.2]) ∧ Below W.heap.size W w') := fun W hW => by rw [← HE.out]; exact HL.out W hW hw
      rw [hw] at HWF
      clear h1 hw HRS HL HE
      go_wp2_with (first
        | (go_at_call 13; (with_reducible refine (HWF.out).mono ?_); rintro e w2 ⟨rfl, hb2⟩)
        | (go_at_call 14; (with_reducible refine (HL2.out _ hb2).mono ?_); rintro e w3 ⟨rfl, hb3⟩))
      go_ret2
      exact ⟨by simp, hb2.trans (hb3.mono hb2.size)⟩
end Go.Proofs.YtckhliilndfljaaDoor
