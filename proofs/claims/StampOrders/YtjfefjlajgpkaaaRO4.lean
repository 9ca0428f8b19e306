import Derived.Test.YtjfefjlajgpkaaaRO3
import Derived.Deep.Upon
import Derived.Deep.AppendSrc
import Derived.Lib.AppendZeros
namespace Go.Proofs.Ytjfefjlajgpkaaa
open Go.ChangeShapes Go.WideShapes Go.ChangeAt Go.RowKit
set_option linter.unusedVariables false
set_option linter.unusedSimpArgs false

theorem app_none (p : Option Addr) (cp : Nat) (ty : TypeId) (w : World) : (Builtin.append_ #[23, 23] ty #[.slice none 0 0, .slice p 0 cp]).run Try.prog w = .ok (.slice none 0 0) w := by
  obtain ⟨iE, hE1, hE2, hE3, hE4⟩ := sinfo infoSE
  refine run_append_nothing w 23 23 ty 51 iE Try.underlying23 hE1 none 0 0 (Nat.le_refl _) (.slice p 0 cp) ?_
  cases p with
  | none => exact Src.ofNil w Try.underlying23 cp
  | some a => exact Src.ofSlice w Try.underlying23 a 0 cp [] (by simp) (fun j u h => by simp at h) (fun u h => by cases h)
set_option maxRecDepth 100000 in
set_option maxHeartbeats 4000000 in
theorem rorder_zero (p : Option Addr) (cp : Nat) (w : World) : Calls Try.prog 7 #[.slice p 0 cp] w fun e w' => e = .returned (.slice none 0 0) ∧ w' = w := by
  have hr := fun ty => app_none p cp ty w
  go_enter Try.func7, Try.ntmps7
  go_wp2_with (at_builtin; refine Lib.wpList_append_run _ rfl _ _ 23 23 rfl _ _ rfl rfl _ _ (hr _) ?_)
  go_loopw [3, 4] (fun v x wr => v = .slice none 0 0 ∧ x = .int .i64 1 ∧ wr = w) (fun _ _ _ => 0)
  case atStart => exact ⟨rfl, rfl, rfl⟩
  case round =>
    obtain ⟨rfl, rfl, hw⟩ := hrel
    subst wr
    go_wp2_with fail
    go_ret
    exact ⟨rfl, rfl⟩
/-- the document's Order: the sorted stable rearrangement, in new memory -/
theorem rorder_any (p : Option Addr) (n cp : Nat) (X : Nat → Se) (hn : n ≤ 1000000000000) (w : World) (h : SIn w p n X) : Calls Try.prog 7 #[.slice p n cp] w fun e w' => ∃ v d, e = .returned v ∧ Own w' w.heap.size 51 6 v n (seF d) ∧ Stb klt 0 n X d ∧ Srt klt 0 n d ∧ Below w.heap.size w w' := by
  by_cases h0 : n = 0
  · subst h0
    refine (rorder_zero p cp w).mono ?_
    rintro e w' ⟨rfl, hw⟩
    subst w'
    exact ⟨_, X, rfl, World.ownsRow_nil _ _ _ _, Stb.refl _ _ _, Srt.small (by omega), Below.refl _ _⟩
  · rcases h with h | ⟨b, o, rfl, hb, hc⟩
    · exact absurd h h0
    · exact rorder_pos b o n cp X hn (by omega) w hb hc
end Go.Proofs.Ytjfefjlajgpkaaa
