import Derived.Test.YtmekcccmnkgodaaGreatDoorFGPT
import Derived.Test.YtmekcccmnkgodaaGreatDoorFGP2
namespace Go.Proofs.YtmekcccmnkgodaaGreatDoor
open Go.ChangeShapes Go.WideShapes Go.ChangeAt Go.RowKit
set_option linter.unusedVariables false
set_option linter.unusedSimpArgs false
/-! ### every node has its token's place -/
def Mt.tk (L C : Int) : Mt → Prop
  | .branch t => t.line = L ∧ t.col = C
  | _ => True
theorem all_snoc {L C : Int} {a : List Nd} (h : ∀ d ∈ a, d.line = L ∧ d.col = C) {kind : Int} {name : Bs} {num : Nat} {op : Int} {kids : List Nat} {t : Tk} (ht : t.line = L ∧ t.col = C) : ∀ d ∈ a ++ [(⟨kind, name, num, op, kids, t.line, t.col⟩ : Nd)], d.line = L ∧ d.col = C := by
  intro d hd
  rcases List.mem_append.1 hd with hd | hd
  · exact h d hd
  · rcases List.mem_singleton.1 hd with rfl
    exact ht
theorem plP (X : Nat → Tk) (n : Nat) (L C : Int) (hX : ∀ i, (X i).line = L ∧ (X i).col = C) : ∀ (f : Nat) (m : Mt) (s s' : St) (v : List Nat), m.sc = false → m.tk L C → P X n f m s = .ok s' v → (∀ d ∈ s.md, d.line = L ∧ d.col = C) → ∀ d ∈ s'.md, d.line = L ∧ d.col = C := by
  intro f
  induction f with
  | zero => intro m s s' v _ _ h; cases h
  | succ f ih =>
    intro m s s' v hsc htk h M0
    cases m with
    | bin st =>
      rw [P_bin] at h
      split at h
      · exact ih _ _ _ _ rfl (by first | exact trivial | trivial) h M0
      · obtain ⟨s1, a1, h1, h⟩ := bind_ok h
        have M1 := ih _ _ _ _ rfl (by first | exact trivial | trivial) h1 M0
        exact ih _ _ _ _ rfl (by first | exact trivial | trivial) h M1
    | binL st left =>
      rw [P_binL] at h
      split at h
      · obtain ⟨s1, a1, h1, h⟩ := bind_ok h
        have M1 : ∀ d ∈ s1.md, d.line = L ∧ d.col = C := by rw [take_md h1]; exact M0
        have q1 : a1.line = L ∧ a1.col = C := by rw [(take_ok h1).2.2.2]; exact hX _
        obtain ⟨s2, a2, h2, h⟩ := bind_ok h
        have M2 := ih _ _ _ _ rfl (by first | exact trivial | trivial) h2 M1
        obtain ⟨s3, a3, h3, h⟩ := bind_ok h
        have M3 : ∀ d ∈ s3.md, d.line = L ∧ d.col = C := by rw [(add_md h3).1]; exact all_snoc M2 q1
        split at h
        · injection h with e1 e2
          subst e1
          exact M3
        · exact ih _ _ _ _ rfl (by first | exact trivial | trivial) h M3
      · injection h with e1 e2
        subst e1
        exact M0
    | una =>
      rw [P_una] at h
      split at h
      · obtain ⟨s1, a1, h1, h⟩ := bind_ok h
        have M1 : ∀ d ∈ s1.md, d.line = L ∧ d.col = C := by rw [enter_md h1]; exact M0
        have q1 : a1.line = L ∧ a1.col = C := by rw [(enter_ok h1).2.2.2.2]; exact hX _
        obtain ⟨s2, a2, h2, h⟩ := bind_ok h
        have M2 := ih _ _ _ _ rfl (by first | exact trivial | trivial) h2 M1
        rw [(add_md h).1]
        exact all_snoc M2 q1
      · exact ih _ _ _ _ rfl (by first | exact trivial | trivial) h M0
    | atom =>
      rw [P_atom] at h
      split at h
      · obtain ⟨s1, a1, h1, h⟩ := bind_ok h
        have M1 : ∀ d ∈ s1.md, d.line = L ∧ d.col = C := by rw [take_md h1]; exact M0
        have q1 : a1.line = L ∧ a1.col = C := by rw [(take_ok h1).2.2.2]; exact hX _
        rw [(add_md h).1]
        exact all_snoc M1 q1
      · split at h
        · exact ih _ _ _ _ rfl (by first | exact trivial | trivial) h M0
        · split at h
          · obtain ⟨s1, a1, h1, h⟩ := bind_ok h
            have M1 : ∀ d ∈ s1.md, d.line = L ∧ d.col = C := by rw [take_md h1]; exact M0
            have q1 : a1.line = L ∧ a1.col = C := by rw [(take_ok h1).2.2.2]; exact hX _
            rw [(add_md h).1]
            exact all_snoc M1 q1
          · split at h
            · obtain ⟨s1, a1, h1, h⟩ := bind_ok h
              have M1 : ∀ d ∈ s1.md, d.line = L ∧ d.col = C := by rw [take_md h1]; exact M0
              have q1 : a1.line = L ∧ a1.col = C := by rw [(take_ok h1).2.2.2]; exact hX _
              rw [(add_md h).1]
              exact all_snoc M1 q1
            · split at h
              · obtain ⟨s1, a1, h1, h⟩ := bind_ok h
                have M1 : ∀ d ∈ s1.md, d.line = L ∧ d.col = C := by rw [take_md h1]; exact M0
                have q1 : a1.line = L ∧ a1.col = C := by rw [(take_ok h1).2.2.2]; exact hX _
                rw [(add_md h).1]
                exact all_snoc M1 q1
              · split at h
                · exact ih _ _ _ _ rfl (by first | exact trivial | trivial) h M0
                · split at h
                  · exact ih _ _ _ _ rfl (by first | exact trivial | trivial) h M0
                  · split at h
                    · exact ih _ _ _ _ rfl (by first | exact trivial | trivial) h M0
                    · split at h
                      · exact ih _ _ _ _ rfl (by first | exact trivial | trivial) h M0
                      · split at h
                        · exact ih _ _ _ _ rfl (by first | exact trivial | trivial) h M0
                        · cases h
    | named =>
      rw [P_named] at h
      obtain ⟨s1, a1, h1, h⟩ := bind_ok h
      have M1 : ∀ d ∈ s1.md, d.line = L ∧ d.col = C := by rw [take_md h1]; exact M0
      have q1 : a1.line = L ∧ a1.col = C := by rw [(take_ok h1).2.2.2]; exact hX _
      obtain ⟨s2, a2, h2, h⟩ := bind_ok h
      have M2 := ih _ _ _ _ rfl (by first | exact trivial | trivial) h2 M1
      rw [(add_md h).1]
      exact all_snoc M2 q1
    | throw q =>
      rw [P_throw] at h
      obtain ⟨s1, a1, h1, h⟩ := bind_ok h
      have M1 : ∀ d ∈ s1.md, d.line = L ∧ d.col = C := by rw [take_md h1]; exact M0
      have q1 : a1.line = L ∧ a1.col = C := by rw [(take_ok h1).2.2.2]; exact hX _
      obtain ⟨s2, a2, h2, h⟩ := bind_ok h
      have M2 := ih _ _ _ _ rfl (by first | exact trivial | trivial) h2 M1
      rw [(add_md h).1]
      exact all_snoc M2 q1
    | choice q =>
      rw [P_choice] at h
      obtain ⟨s1, a1, h1, h⟩ := bind_ok h
      have M1 : ∀ d ∈ s1.md, d.line = L ∧ d.col = C := by rw [take_md h1]; exact M0
      have q1 : a1.line = L ∧ a1.col = C := by rw [(take_ok h1).2.2.2]; exact hX _
      obtain ⟨s2, a2, h2, h⟩ := bind_ok h
      have M2 : ∀ d ∈ s2.md, d.line = L ∧ d.col = C := by rw [enter_md h2]; exact M1
      have q2 : a2.line = L ∧ a2.col = C := by rw [(enter_ok h2).2.2.2.2]; exact hX _
      obtain ⟨s3, a3, h3, h⟩ := bind_ok h
      have M3 := ih _ _ _ _ rfl (by first | exact trivial | trivial) h3 M2
      obtain ⟨s4, a4, h4, h⟩ := bind_ok h
      have M4 : ∀ d ∈ s4.md, d.line = L ∧ d.col = C := by rw [take_md h4]; exact M3
      have q4 : a4.line = L ∧ a4.col = C := by rw [(take_ok h4).2.2.2]; exact hX _
      obtain ⟨s5, a5, h5, h⟩ := bind_ok h
      have M5 := ih _ _ _ _ rfl (by first | exact trivial | trivial) h5 M4
      obtain ⟨s6, a6, h6, h⟩ := bind_ok h
      have M6 : ∀ d ∈ s6.md, d.line = L ∧ d.col = C := by rw [leave_md h6]; exact M5
      rw [(add_md h).1]
      exact all_snoc M6 q1
    | brack =>
      rw [P_brack] at h
      obtain ⟨s1, a1, h1, h⟩ := bind_ok h
      have M1 : ∀ d ∈ s1.md, d.line = L ∧ d.col = C := by rw [enter_md h1]; exact M0
      have q1 : a1.line = L ∧ a1.col = C := by rw [(enter_ok h1).2.2.2.2]; exact hX _
      obtain ⟨s2, a2, h2, h⟩ := bind_ok h
      have M2 := ih _ _ _ _ rfl (by first | exact trivial | trivial) h2 M1
      obtain ⟨s3, a3, h3, h⟩ := bind_ok h
      have M3 : ∀ d ∈ s3.md, d.line = L ∧ d.col = C := by rw [leave_md h3]; exact M2
      injection h with e1 e2
      subst e1
      exact M3
    | index =>
      rw [P_index] at h
      split at h
      · obtain ⟨s1, a1, h1, h⟩ := bind_ok h
        have M1 : ∀ d ∈ s1.md, d.line = L ∧ d.col = C := by rw [enter_md h1]; exact M0
        have q1 : a1.line = L ∧ a1.col = C := by rw [(enter_ok h1).2.2.2.2]; exact hX _
        obtain ⟨s2, a2, h2, h⟩ := bind_ok h
        have M2 := ih _ _ _ _ rfl (by first | exact trivial | trivial) h2 M1
        obtain ⟨s3, a3, h3, h⟩ := bind_ok h
        have M3 : ∀ d ∈ s3.md, d.line = L ∧ d.col = C := by rw [leave_md h3]; exact M2
        injection h with e1 e2
        subst e1
        exact M3
      · injection h with e1 e2
        subst e1
        exact M0
    | value =>
      rw [P_value] at h
      obtain ⟨s1, a1, h1, h⟩ := bind_ok h
      have M1 : ∀ d ∈ s1.md, d.line = L ∧ d.col = C := by rw [take_md h1]; exact M0
      have q1 : a1.line = L ∧ a1.col = C := by rw [(take_ok h1).2.2.2]; exact hX _
      exact ih _ _ _ _ rfl (by first | exact trivial | trivial) h M1
    | name q =>
      rw [P_name] at h
      obtain ⟨s1, a1, h1, h⟩ := bind_ok h
      have M1 : ∀ d ∈ s1.md, d.line = L ∧ d.col = C := by rw [take_md h1]; exact M0
      have q1 : a1.line = L ∧ a1.col = C := by rw [(take_ok h1).2.2.2]; exact hX _
      rw [(add_md h).1]
      exact all_snoc M1 q1
    | scene => cases hsc
    | sceneL l => cases hsc
    | item =>
      rw [P_item] at h
      split at h
      · exact ih _ _ _ _ rfl (by first | exact trivial | trivial) h M0
      · split at h
        · exact ih _ _ _ _ rfl (by first | exact trivial | trivial) h M0
        · split at h
          · exact ih _ _ _ _ rfl (by first | exact trivial | trivial) h M0
          · split at h
            · exact ih _ _ _ _ rfl (by first | exact trivial | trivial) h M0
            · split at h
              · exact ih _ _ _ _ rfl (by first | exact trivial | trivial) h M0
              · split at h
                · exact ih _ _ _ _ rfl (by first | exact trivial | trivial) h M0
                · cases h
    | setting =>
      rw [P_setting] at h
      obtain ⟨s1, a1, h1, h⟩ := bind_ok h
      have M1 : ∀ d ∈ s1.md, d.line = L ∧ d.col = C := by rw [take_md h1]; exact M0
      have q1 : a1.line = L ∧ a1.col = C := by rw [(take_ok h1).2.2.2]; exact hX _
      obtain ⟨s2, a2, h2, h⟩ := bind_ok h
      have M2 : ∀ d ∈ s2.md, d.line = L ∧ d.col = C := by rw [take_md h2]; exact M1
      have q2 : a2.line = L ∧ a2.col = C := by rw [(take_ok h2).2.2.2]; exact hX _
      rw [(add_md h).1]
      exact all_snoc M2 q1
    | constant =>
      rw [P_constant] at h
      obtain ⟨s1, a1, h1, h⟩ := bind_ok h
      have M1 : ∀ d ∈ s1.md, d.line = L ∧ d.col = C := by rw [take_md h1]; exact M0
      have q1 : a1.line = L ∧ a1.col = C := by rw [(take_ok h1).2.2.2]; exact hX _
      obtain ⟨s2, a2, h2, h⟩ := bind_ok h
      have M2 : ∀ d ∈ s2.md, d.line = L ∧ d.col = C := by rw [take_md h2]; exact M1
      have q2 : a2.line = L ∧ a2.col = C := by rw [(take_ok h2).2.2.2]; exact hX _
      obtain ⟨s3, a3, h3, h⟩ := bind_ok h
      have M3 := ih _ _ _ _ rfl (by first | exact trivial | trivial) h3 M2
      rw [(add_md h).1]
      exact all_snoc M3 q1
    | kinds =>
      rw [P_kinds] at h
      obtain ⟨s1, a1, h1, h⟩ := bind_ok h
      have M1 : ∀ d ∈ s1.md, d.line = L ∧ d.col = C := by rw [take_md h1]; exact M0
      have q1 : a1.line = L ∧ a1.col = C := by rw [(take_ok h1).2.2.2]; exact hX _
      obtain ⟨s2, a2, h2, h⟩ := bind_ok h
      have M2 := ih _ _ _ _ rfl (by first | exact trivial | trivial) h2 M1
      obtain ⟨s3, a3, h3, h⟩ := bind_ok h
      have M3 := ih _ _ _ _ rfl (by first | exact trivial | trivial) h3 M2
      rw [(add_md h).1]
      exact all_snoc M3 q1
    | kindsL l =>
      rw [P_kindsL] at h
      split at h
      · obtain ⟨s1, a1, h1, h⟩ := bind_ok h
        have M1 : ∀ d ∈ s1.md, d.line = L ∧ d.col = C := by rw [take_md h1]; exact M0
        have q1 : a1.line = L ∧ a1.col = C := by rw [(take_ok h1).2.2.2]; exact hX _
        obtain ⟨s2, a2, h2, h⟩ := bind_ok h
        have M2 := ih _ _ _ _ rfl (by first | exact trivial | trivial) h2 M1
        exact ih _ _ _ _ rfl (by first | exact trivial | trivial) h M2
      · injection h with e1 e2
        subst e1
        exact M0
    | ptype =>
      rw [P_ptype] at h
      obtain ⟨s1, a1, h1, h⟩ := bind_ok h
      have M1 : ∀ d ∈ s1.md, d.line = L ∧ d.col = C := by rw [take_md h1]; exact M0
      have q1 : a1.line = L ∧ a1.col = C := by rw [(take_ok h1).2.2.2]; exact hX _
      obtain ⟨s2, a2, h2, h⟩ := bind_ok h
      have M2 : ∀ d ∈ s2.md, d.line = L ∧ d.col = C := by rw [take_md h2]; exact M1
      have q2 : a2.line = L ∧ a2.col = C := by rw [(take_ok h2).2.2.2]; exact hX _
      obtain ⟨s3, a3, h3, h⟩ := bind_ok h
      have M3 : ∀ d ∈ s3.md, d.line = L ∧ d.col = C := by rw [enter_md h3]; exact M2
      have q3 : a3.line = L ∧ a3.col = C := by rw [(enter_ok h3).2.2.2.2]; exact hX _
      obtain ⟨s4, a4, h4, h⟩ := bind_ok h
      have M4 := ih _ _ _ _ rfl (by first | exact trivial | trivial) h4 M3
      obtain ⟨s5, a5, h5, h⟩ := bind_ok h
      have M5 : ∀ d ∈ s5.md, d.line = L ∧ d.col = C := by rw [leave_md h5]; exact M4
      rw [(add_md h).1]
      exact all_snoc M5 q1
    | memL l =>
      rw [P_memL] at h
      split at h
      · injection h with e1 e2
        subst e1
        exact M0
      · obtain ⟨s1, a1, h1, h⟩ := bind_ok h
        have M1 := ih _ _ _ _ rfl (by first | exact trivial | trivial) h1 M0
        exact ih _ _ _ _ rfl (by first | exact trivial | trivial) h M1
    | member =>
      rw [P_member] at h
      split at h
      · exact ih _ _ _ _ rfl (by first | exact trivial | trivial) h M0
      · split at h
        · exact ih _ _ _ _ rfl (by first | exact trivial | trivial) h M0
        · cases h
    | vari =>
      rw [P_vari] at h
      obtain ⟨s1, a1, h1, h⟩ := bind_ok h
      have M1 : ∀ d ∈ s1.md, d.line = L ∧ d.col = C := by rw [take_md h1]; exact M0
      have q1 : a1.line = L ∧ a1.col = C := by rw [(take_ok h1).2.2.2]; exact hX _
      obtain ⟨s2, a2, h2, h⟩ := bind_ok h
      have M2 : ∀ d ∈ s2.md, d.line = L ∧ d.col = C := by rw [take_md h2]; exact M1
      have q2 : a2.line = L ∧ a2.col = C := by rw [(take_ok h2).2.2.2]; exact hX _
      obtain ⟨s3, a3, h3, h⟩ := bind_ok h
      have M3 := ih _ _ _ _ rfl (by first | exact trivial | trivial) h3 M2
      split at h
      · obtain ⟨s4, a4, h4, h⟩ := bind_ok h
        have M4 := ih _ _ _ _ rfl (by first | exact trivial | trivial) h4 M3
        rw [(add_md h).1]
        exact all_snoc M4 q1
      · rw [(add_md h).1]
        exact all_snoc M3 q1
    | handler =>
      rw [P_handler] at h
      obtain ⟨s1, a1, h1, h⟩ := bind_ok h
      have M1 : ∀ d ∈ s1.md, d.line = L ∧ d.col = C := by rw [take_md h1]; exact M0
      have q1 : a1.line = L ∧ a1.col = C := by rw [(take_ok h1).2.2.2]; exact hX _
      obtain ⟨s2, a2, h2, h⟩ := bind_ok h
      have M2 : ∀ d ∈ s2.md, d.line = L ∧ d.col = C := by rw [take_md h2]; exact M1
      have q2 : a2.line = L ∧ a2.col = C := by rw [(take_ok h2).2.2.2]; exact hX _
      obtain ⟨s3, a3, h3, h⟩ := bind_ok h
      have M3 : ∀ d ∈ s3.md, d.line = L ∧ d.col = C := by rw [enter_md h3]; exact M2
      have q3 : a3.line = L ∧ a3.col = C := by rw [(enter_ok h3).2.2.2.2]; exact hX _
      obtain ⟨s4, a4, h4, h⟩ := bind_ok h
      have M4 := ih _ _ _ _ rfl (by first | exact trivial | trivial) h4 M3
      obtain ⟨s5, a5, h5, h⟩ := bind_ok h
      have M5 : ∀ d ∈ s5.md, d.line = L ∧ d.col = C := by rw [leave_md h5]; exact M4
      obtain ⟨s6, a6, h6, h⟩ := bind_ok h
      have M6 := ih _ _ _ _ rfl (by first | exact trivial | trivial) h6 M5
      rw [(add_md h).1]
      exact all_snoc M6 q1
    | place =>
      rw [P_place] at h
      obtain ⟨s1, a1, h1, h⟩ := bind_ok h
      have M1 : ∀ d ∈ s1.md, d.line = L ∧ d.col = C := by rw [take_md h1]; exact M0
      have q1 : a1.line = L ∧ a1.col = C := by rw [(take_ok h1).2.2.2]; exact hX _
      obtain ⟨s2, a2, h2, h⟩ := bind_ok h
      have M2 : ∀ d ∈ s2.md, d.line = L ∧ d.col = C := by rw [take_md h2]; exact M1
      have q2 : a2.line = L ∧ a2.col = C := by rw [(take_ok h2).2.2.2]; exact hX _
      obtain ⟨s3, a3, h3, h⟩ := bind_ok h
      have M3 := ih _ _ _ _ rfl (by first | exact trivial | trivial) h3 M2
      obtain ⟨s4, a4, h4, h⟩ := bind_ok h
      have M4 : ∀ d ∈ s4.md, d.line = L ∧ d.col = C := by rw [take_md h4]; exact M3
      have q4 : a4.line = L ∧ a4.col = C := by rw [(take_ok h4).2.2.2]; exact hX _
      obtain ⟨s5, a5, h5, h⟩ := bind_ok h
      have M5 := ih _ _ _ _ rfl (by first | exact trivial | trivial) h5 M4
      split at h
      · obtain ⟨s6, a6, h6, h⟩ := bind_ok h
        have M6 := ih _ _ _ _ rfl (by first | exact trivial | trivial) h6 M5
        rw [(add_md h).1]
        exact all_snoc M6 q1
      · rw [(add_md h).1]
        exact all_snoc M5 q1
    | gives =>
      rw [P_gives] at h
      obtain ⟨s1, a1, h1, h⟩ := bind_ok h
      have M1 : ∀ d ∈ s1.md, d.line = L ∧ d.col = C := by rw [enter_md h1]; exact M0
      have q1 : a1.line = L ∧ a1.col = C := by rw [(enter_ok h1).2.2.2.2]; exact hX _
      obtain ⟨s2, a2, h2, h⟩ := bind_ok h
      have M2 := ih _ _ _ _ rfl (by first | exact trivial | trivial) h2 M1
      obtain ⟨s3, a3, h3, h⟩ := bind_ok h
      have M3 := ih _ _ _ _ rfl (by first | exact trivial | trivial) h3 M2
      obtain ⟨s4, a4, h4, h⟩ := bind_ok h
      have M4 : ∀ d ∈ s4.md, d.line = L ∧ d.col = C := by rw [leave_md h4]; exact M3
      injection h with e1 e2
      subst e1
      exact M4
    | givesL l =>
      rw [P_givesL] at h
      split at h
      · obtain ⟨s1, a1, h1, h⟩ := bind_ok h
        have M1 : ∀ d ∈ s1.md, d.line = L ∧ d.col = C := by rw [take_md h1]; exact M0
        have q1 : a1.line = L ∧ a1.col = C := by rw [(take_ok h1).2.2.2]; exact hX _
        obtain ⟨s2, a2, h2, h⟩ := bind_ok h
        have M2 := ih _ _ _ _ rfl (by first | exact trivial | trivial) h2 M1
        exact ih _ _ _ _ rfl (by first | exact trivial | trivial) h M2
      · injection h with e1 e2
        subst e1
        exact M0
    | give =>
      rw [P_give] at h
      obtain ⟨s1, a1, h1, h⟩ := bind_ok h
      have M1 : ∀ d ∈ s1.md, d.line = L ∧ d.col = C := by rw [take_md h1]; exact M0
      have q1 : a1.line = L ∧ a1.col = C := by rw [(take_ok h1).2.2.2]; exact hX _
      obtain ⟨s2, a2, h2, h⟩ := bind_ok h
      have M2 := ih _ _ _ _ rfl (by first | exact trivial | trivial) h2 M1
      obtain ⟨s3, a3, h3, h⟩ := bind_ok h
      have M3 := ih _ _ _ _ rfl (by first | exact trivial | trivial) h3 M2
      rw [(add_md h).1]
      exact all_snoc M3 q1
    | start =>
      rw [P_start] at h
      obtain ⟨s1, a1, h1, h⟩ := bind_ok h
      have M1 : ∀ d ∈ s1.md, d.line = L ∧ d.col = C := by rw [take_md h1]; exact M0
      have q1 : a1.line = L ∧ a1.col = C := by rw [(take_ok h1).2.2.2]; exact hX _
      obtain ⟨s2, a2, h2, h⟩ := bind_ok h
      have M2 : ∀ d ∈ s2.md, d.line = L ∧ d.col = C := by rw [take_md h2]; exact M1
      have q2 : a2.line = L ∧ a2.col = C := by rw [(take_ok h2).2.2.2]; exact hX _
      obtain ⟨s3, a3, h3, h⟩ := bind_ok h
      have M3 := ih _ _ _ _ rfl (by first | exact trivial | trivial) h3 M2
      obtain ⟨s4, a4, h4, h⟩ := bind_ok h
      have M4 : ∀ d ∈ s4.md, d.line = L ∧ d.col = C := by rw [take_md h4]; exact M3
      have q4 : a4.line = L ∧ a4.col = C := by rw [(take_ok h4).2.2.2]; exact hX _
      obtain ⟨s5, a5, h5, h⟩ := bind_ok h
      have M5 := ih _ _ _ _ rfl (by first | exact trivial | trivial) h5 M4
      obtain ⟨s6, a6, h6, h⟩ := bind_ok h
      have M6 := ih _ _ _ _ rfl (by first | exact trivial | trivial) h6 M5
      obtain ⟨s7, a7, h7, h⟩ := bind_ok h
      have M7 : ∀ d ∈ s7.md, d.line = L ∧ d.col = C := by rw [take_md h7]; exact M6
      have q7 : a7.line = L ∧ a7.col = C := by rw [(take_ok h7).2.2.2]; exact hX _
      obtain ⟨s8, a8, h8, h⟩ := bind_ok h
      have M8 : ∀ d ∈ s8.md, d.line = L ∧ d.col = C := by rw [take_md h8]; exact M7
      have q8 : a8.line = L ∧ a8.col = C := by rw [(take_ok h8).2.2.2]; exact hX _
      rw [(add_md h).1]
      exact all_snoc M8 q1
    | block =>
      rw [P_block] at h
      obtain ⟨s1, a1, h1, h⟩ := bind_ok h
      have M1 : ∀ d ∈ s1.md, d.line = L ∧ d.col = C := by rw [enter_md h1]; exact M0
      have q1 : a1.line = L ∧ a1.col = C := by rw [(enter_ok h1).2.2.2.2]; exact hX _
      obtain ⟨s2, a2, h2, h⟩ := bind_ok h
      have M2 := ih _ _ _ _ rfl (by first | exact trivial | trivial) h2 M1
      obtain ⟨s3, a3, h3, h⟩ := bind_ok h
      have M3 : ∀ d ∈ s3.md, d.line = L ∧ d.col = C := by rw [leave_md h3]; exact M2
      rw [(add_md h).1]
      exact all_snoc M3 q1
    | blockL l =>
      rw [P_blockL] at h
      split at h
      · injection h with e1 e2
        subst e1
        exact M0
      · obtain ⟨s1, a1, h1, h⟩ := bind_ok h
        have M1 := ih _ _ _ _ rfl (by first | exact trivial | trivial) h1 M0
        exact ih _ _ _ _ rfl (by first | exact trivial | trivial) h M1
    | stmt =>
      rw [P_stmt] at h
      split at h
      · obtain ⟨s1, a1, h1, h⟩ := bind_ok h
        have M1 : ∀ d ∈ s1.md, d.line = L ∧ d.col = C := by rw [take_md h1]; exact M0
        have q1 : a1.line = L ∧ a1.col = C := by rw [(take_ok h1).2.2.2]; exact hX _
        obtain ⟨s2, a2, h2, h⟩ := bind_ok h
        have M2 : ∀ d ∈ s2.md, d.line = L ∧ d.col = C := by rw [take_md h2]; exact M1
        have q2 : a2.line = L ∧ a2.col = C := by rw [(take_ok h2).2.2.2]; exact hX _
        obtain ⟨s3, a3, h3, h⟩ := bind_ok h
        have M3 := ih _ _ _ _ rfl (by first | exact trivial | trivial) h3 M2
        rw [(add_md h).1]
        exact all_snoc M3 q1
      · split at h
        · exact ih _ _ _ _ rfl (by first | exact trivial | trivial) h M0
        · split at h
          · obtain ⟨s1, a1, h1, h⟩ := bind_ok h
            have M1 : ∀ d ∈ s1.md, d.line = L ∧ d.col = C := by rw [take_md h1]; exact M0
            have q1 : a1.line = L ∧ a1.col = C := by rw [(take_ok h1).2.2.2]; exact hX _
            exact ih _ _ _ _ rfl (by first | exact q1 | trivial) h M1
          · split at h
            · obtain ⟨s1, a1, h1, h⟩ := bind_ok h
              have M1 : ∀ d ∈ s1.md, d.line = L ∧ d.col = C := by rw [take_md h1]; exact M0
              have q1 : a1.line = L ∧ a1.col = C := by rw [(take_ok h1).2.2.2]; exact hX _
              obtain ⟨s2, a2, h2, h⟩ := bind_ok h
              have M2 := ih _ _ _ _ rfl (by first | exact trivial | trivial) h2 M1
              obtain ⟨s3, a3, h3, h⟩ := bind_ok h
              have M3 := ih _ _ _ _ rfl (by first | exact trivial | trivial) h3 M2
              rw [(add_md h).1]
              exact all_snoc M3 q1
            · split at h
              · obtain ⟨s1, a1, h1, h⟩ := bind_ok h
                have M1 : ∀ d ∈ s1.md, d.line = L ∧ d.col = C := by rw [take_md h1]; exact M0
                have q1 : a1.line = L ∧ a1.col = C := by rw [(take_ok h1).2.2.2]; exact hX _
                rw [(add_md h).1]
                exact all_snoc M1 q1
              · split at h
                · obtain ⟨s1, a1, h1, h⟩ := bind_ok h
                  have M1 : ∀ d ∈ s1.md, d.line = L ∧ d.col = C := by rw [take_md h1]; exact M0
                  have q1 : a1.line = L ∧ a1.col = C := by rw [(take_ok h1).2.2.2]; exact hX _
                  rw [(add_md h).1]
                  exact all_snoc M1 q1
                · split at h
                  · obtain ⟨s1, a1, h1, h⟩ := bind_ok h
                    have M1 : ∀ d ∈ s1.md, d.line = L ∧ d.col = C := by rw [take_md h1]; exact M0
                    have q1 : a1.line = L ∧ a1.col = C := by rw [(take_ok h1).2.2.2]; exact hX _
                    rw [(add_md h).1]
                    exact all_snoc M1 q1
                  · split at h
                    · exact ih _ _ _ _ rfl (by first | exact trivial | trivial) h M0
                    · split at h
                      · obtain ⟨s1, a1, h1, h⟩ := bind_ok h
                        have M1 : ∀ d ∈ s1.md, d.line = L ∧ d.col = C := by rw [take_md h1]; exact M0
                        have q1 : a1.line = L ∧ a1.col = C := by rw [(take_ok h1).2.2.2]; exact hX _
                        obtain ⟨s2, a2, h2, h⟩ := bind_ok h
                        have M2 := ih _ _ _ _ rfl (by first | exact trivial | trivial) h2 M1
                        rw [(add_md h).1]
                        exact all_snoc M2 q1
                      · cases h
    | set =>
      rw [P_set] at h
      obtain ⟨s1, a1, h1, h⟩ := bind_ok h
      have M1 : ∀ d ∈ s1.md, d.line = L ∧ d.col = C := by rw [take_md h1]; exact M0
      have q1 : a1.line = L ∧ a1.col = C := by rw [(take_ok h1).2.2.2]; exact hX _
      obtain ⟨s2, a2, h2, h⟩ := bind_ok h
      have M2 := ih _ _ _ _ rfl (by first | exact trivial | trivial) h2 M1
      obtain ⟨s3, a3, h3, h⟩ := bind_ok h
      have M3 := ih _ _ _ _ rfl (by first | exact trivial | trivial) h3 M2
      rw [(add_md h).1]
      exact all_snoc M3 q1
    | branch t =>
      rw [P_branch] at h
      obtain ⟨s1, a1, h1, h⟩ := bind_ok h
      have M1 := ih _ _ _ _ rfl (by first | exact trivial | trivial) h1 M0
      obtain ⟨s2, a2, h2, h⟩ := bind_ok h
      have M2 := ih _ _ _ _ rfl (by first | exact trivial | trivial) h2 M1
      split at h
      · obtain ⟨s3, a3, h3, h⟩ := bind_ok h
        have M3 : ∀ d ∈ s3.md, d.line = L ∧ d.col = C := by rw [take_md h3]; exact M2
        have q3 : a3.line = L ∧ a3.col = C := by rw [(take_ok h3).2.2.2]; exact hX _
        obtain ⟨s4, a4, h4, h⟩ := bind_ok h
        have M4 := ih _ _ _ _ rfl (by first | exact trivial | trivial) h4 M3
        rw [(add_md h).1]
        exact all_snoc M4 htk
      · rw [(add_md h).1]
        exact all_snoc M2 htk
    | otherwise =>
      rw [P_otherwise] at h
      split at h
      · obtain ⟨s1, a1, h1, h⟩ := bind_ok h
        have M1 : ∀ d ∈ s1.md, d.line = L ∧ d.col = C := by rw [enter_md h1]; exact M0
        have q1 : a1.line = L ∧ a1.col = C := by rw [(enter_ok h1).2.2.2.2]; exact hX _
        obtain ⟨s2, a2, h2, h⟩ := bind_ok h
        have M2 := ih _ _ _ _ rfl (by first | exact q1 | trivial) h2 M1
        injection h with e1 e2
        subst e1
        exact M2
      · exact ih _ _ _ _ rfl (by first | exact trivial | trivial) h M0
    | send =>
      rw [P_send] at h
      obtain ⟨s1, a1, h1, h⟩ := bind_ok h
      have M1 : ∀ d ∈ s1.md, d.line = L ∧ d.col = C := by rw [take_md h1]; exact M0
      have q1 : a1.line = L ∧ a1.col = C := by rw [(take_ok h1).2.2.2]; exact hX _
      obtain ⟨s2, a2, h2, h⟩ := bind_ok h
      have M2 : ∀ d ∈ s2.md, d.line = L ∧ d.col = C := by rw [take_md h2]; exact M1
      have q2 : a2.line = L ∧ a2.col = C := by rw [(take_ok h2).2.2.2]; exact hX _
      obtain ⟨s3, a3, h3, h⟩ := bind_ok h
      have M3 := ih _ _ _ _ rfl (by first | exact trivial | trivial) h3 M2
      obtain ⟨s4, a4, h4, h⟩ := bind_ok h
      have M4 : ∀ d ∈ s4.md, d.line = L ∧ d.col = C := by rw [take_md h4]; exact M3
      have q4 : a4.line = L ∧ a4.col = C := by rw [(take_ok h4).2.2.2]; exact hX _
      obtain ⟨s5, a5, h5, h⟩ := bind_ok h
      have M5 := ih _ _ _ _ rfl (by first | exact trivial | trivial) h5 M4
      obtain ⟨s6, a6, h6, h⟩ := bind_ok h
      have M6 : ∀ d ∈ s6.md, d.line = L ∧ d.col = C := by rw [take_md h6]; exact M5
      have q6 : a6.line = L ∧ a6.col = C := by rw [(take_ok h6).2.2.2]; exact hX _
      obtain ⟨s7, a7, h7, h⟩ := bind_ok h
      have M7 := ih _ _ _ _ rfl (by first | exact trivial | trivial) h7 M6
      rw [(add_md h).1]
      exact all_snoc M7 q1
end Go.Proofs.YtmekcccmnkgodaaGreatDoor
namespace Go.Proofs.YtmekcccmnkgodaaGreatDoor
open Go.ChangeShapes Go.WideShapes Go.ChangeAt Go.RowKit
set_option linter.unusedVariables false
set_option linter.unusedSimpArgs false
/-! ### places mean nothing to the tree -/
structure TkS (a b : Tk) : Prop where
  kind : a.kind = b.kind
  text : a.text = b.text
  num : a.num = b.num
theorem TkS.rfl (a : Tk) : TkS a a := ⟨Eq.refl _, Eq.refl _, Eq.refl _⟩
def stp (d : Nd) : Nd := ⟨d.kind, d.name, d.num, d.op, d.kids, 0, 0⟩
def StS (s t : St) : Prop := s.nx = t.nx ∧ s.dp = t.dp ∧ s.md.map stp = t.md.map stp
theorem StS.dec {s t : St} (h : StS s t) : StS ⟨s.nx, s.dp - 1, s.md⟩ ⟨t.nx, t.dp - 1, t.md⟩ := ⟨h.1, by show s.dp - 1 = t.dp - 1; rw [h.2.1], h.2.2⟩
def PrS {α : Type} (R : α → α → Prop) : Pr α → Pr α → Prop
  | .out, .out => True
  | .bad e, .bad e' => e.idx = e'.idx ∧ e.code = e'.code
  | .ok s v, .ok t u => StS s t ∧ R v u
  | _, _ => False
theorem PrS.bind {α β : Type} {R : α → α → Prop} {R' : β → β → Prop} {a b : Pr α} {k k' : St → α → Pr β} (h : PrS R a b) (hk : ∀ s v t u, StS s t → R v u → PrS R' (k s v) (k' t u)) : PrS R' (a.bind k) (b.bind k') := by
  cases a <;> cases b
  · trivial
  · exact h.elim
  · exact h.elim
  · exact h.elim
  · exact h
  · exact h.elim
  · exact h.elim
  · exact h.elim
  · exact hk _ _ _ _ h.1 h.2
theorem kd_sim {X X' : Nat → Tk} {n : Nat} {s t : St} (hX : ∀ i, TkS (X i) (X' i)) (h : StS s t) : kd X n s = kd X' n t := by unfold kd; rw [h.1, (hX t.nx).kind]
theorem refu_sim {α : Type} {R : α → α → Prop} {X X' : Nat → Tk} {n : Nat} {s t : St} (h : StS s t) : PrS R (.bad (refu X n s)) (.bad (refu X' n t)) := by
  unfold refu
  rw [h.1]
  by_cases q : t.nx < n
  · rw [if_pos q, if_pos q]; exact ⟨rfl, rfl⟩
  · rw [if_neg q, if_neg q]; exact ⟨rfl, rfl⟩
theorem take_sim {X X' : Nat → Tk} {n : Nat} {s t : St} (hX : ∀ i, TkS (X i) (X' i)) (h : StS s t) (k : Int) : PrS TkS (take X n k s) (take X' n k t) := by
  have hr : PrS TkS (.bad (refu X n s)) (.bad (refu X' n t)) := refu_sim h
  unfold take
  rw [h.1, (hX t.nx).kind, (hX t.nx).text]
  by_cases q : t.nx < n ∧ (X' t.nx).kind = k
  · rw [if_pos q, if_pos q]
    by_cases q2 : k = 1 ∧ wordP (X' t.nx).text ≠ 1
    · rw [if_pos q2, if_pos q2]; exact hr
    · rw [if_neg q2, if_neg q2]; exact ⟨⟨rfl, h.2.1, h.2.2⟩, hX t.nx⟩
  · rw [if_neg q, if_neg q]; exact hr
theorem enter_sim {X X' : Nat → Tk} {n : Nat} {s t : St} (hX : ∀ i, TkS (X i) (X' i)) (h : StS s t) (k : Int) : PrS TkS (enter X n k s) (enter X' n k t) := by
  unfold enter
  refine PrS.bind (take_sim hX h k) fun s1 a t1 b hs hv => ?_
  rw [hs.2.1]
  by_cases q : 48 < t1.dp + 1
  · rw [if_pos q, if_pos q]; exact ⟨h.1, rfl⟩
  · rw [if_neg q, if_neg q]; exact ⟨⟨hs.1, rfl, hs.2.2⟩, hv⟩
theorem leave_sim {X X' : Nat → Tk} {n : Nat} {s t : St} (hX : ∀ i, TkS (X i) (X' i)) (h : StS s t) (k : Int) : PrS Eq (leave X n k s) (leave X' n k t) := by
  unfold leave
  exact PrS.bind (take_sim hX h k) fun s1 a t1 b hs hv => ⟨hs.dec, rfl⟩
theorem add_sim {s t : St} (h : StS s t) {a b : Tk} {kind : Int} {name : Bs} {num : Nat} {op : Int} {kids : List Nat} : PrS Eq (add a kind name num op kids s) (add b kind name num op kids t) := by
  have hl : s.md.length = t.md.length := by have := congrArg List.length h.2.2; simpa using this
  refine ⟨⟨h.1, h.2.1, ?_⟩, ?_⟩
  · show (s.md ++ [_]).map stp = (t.md ++ [_]).map stp
    rw [List.map_append, List.map_append, h.2.2]
    rfl
  · show [s.md.length] = [t.md.length]
    rw [hl]
def MS (m m' : Mt) : Prop := m = m' ∨ ∃ t t', m = .branch t ∧ m' = .branch t' ∧ TkS t t'
set_option maxHeartbeats 4000000 in
theorem simP (X X' : Nat → Tk) (n : Nat) (hX : ∀ i, TkS (X i) (X' i)) : ∀ (f : Nat) (m m' : Mt) (s t : St), MS m m' → StS s t → PrS Eq (P X n f m s) (P X' n f m' t) := by
  intro f
  induction f with
  | zero => intro m m' s t _ _; trivial
  | succ f ih =>
    have brn : ∀ (a b : Tk) (s t : St), TkS a b → StS s t → PrS Eq (P X n (f + 1) (.branch a) s) (P X' n (f + 1) (.branch b) t) := by
      intro a b s t hab hs0
      rw [P_branch, P_branch]
      refine PrS.bind (ih _ _ _ _ (.inl rfl) hs0) fun s1 a1 t1 b1 hs1 hv1 => ?_
      subst hv1
      refine PrS.bind (ih _ _ _ _ (.inl rfl) hs1) fun s2 a2 t2 b2 hs2 hv2 => ?_
      subst hv2
      rw [kd_sim (n := n) hX hs2 ]
      by_cases q2_3 : kd X' n t2 = 24
      · rw [if_pos q2_3, if_pos q2_3]
        refine PrS.bind (take_sim hX hs2 _) fun s3 a3 t3 b3 hs3 hv3 => ?_
        refine PrS.bind (ih _ _ _ _ (.inl rfl) hs3) fun s4 a4 t4 b4 hs4 hv4 => ?_
        subst hv4
        exact add_sim hs4 
      · rw [if_neg q2_3, if_neg q2_3]
        exact add_sim hs2 
    intro m m' s t hm hs0
    rcases hm with rfl | ⟨a, b, rfl, rfl, hab⟩
    case inr => exact brn a b s t hab hs0
    cases m with
    | bin st =>
      rw [P_bin, P_bin]
      by_cases q0_3 : st = 10
      · rw [if_pos q0_3, if_pos q0_3]
        exact ih _ _ _ _ (.inl rfl) hs0 
      · rw [if_neg q0_3, if_neg q0_3]
        refine PrS.bind (ih _ _ _ _ (.inl rfl) hs0) fun s1 a1 t1 b1 hs1 hv1 => ?_
        subst hv1
        exact ih _ _ _ _ (.inl rfl) hs1 
    | binL st left =>
      rw [P_binL, P_binL]
      rw [kd_sim (n := n) hX hs0 ]
      by_cases q0_3 : bindsP (kd X' n t) = st
      · rw [if_pos q0_3, if_pos q0_3]
        try rw [kd_sim (n := n) hX hs0]
        refine PrS.bind (take_sim hX hs0 _) fun s1 a1 t1 b1 hs1 hv1 => ?_
        refine PrS.bind (ih _ _ _ _ (.inl rfl) hs1) fun s2 a2 t2 b2 hs2 hv2 => ?_
        subst hv2
        rw [hv1.kind]
        refine PrS.bind (add_sim hs2 ) fun s3 a3 t3 b3 hs3 hv3 => ?_
        subst hv3
        by_cases q3_4 : st = 3
        · rw [if_pos q3_4, if_pos q3_4]
          exact ⟨hs3 , rfl⟩
        · rw [if_neg q3_4, if_neg q3_4]
          exact ih _ _ _ _ (.inl rfl) hs3 
      · rw [if_neg q0_3, if_neg q0_3]
        exact ⟨hs0 , rfl⟩
    | una =>
      rw [P_una, P_una]
      rw [kd_sim (n := n) hX hs0 ]
      by_cases q0_3 : isUn (kd X' n t) = true
      · rw [if_pos q0_3, if_pos q0_3]
        try rw [kd_sim (n := n) hX hs0]
        refine PrS.bind (enter_sim hX hs0 _) fun s1 a1 t1 b1 hs1 hv1 => ?_
        refine PrS.bind (ih _ _ _ _ (.inl rfl) hs1) fun s2 a2 t2 b2 hs2 hv2 => ?_
        subst hv2
        have hs2d := hs2.dec
        rw [hv1.kind]
        exact add_sim hs2d 
      · rw [if_neg q0_3, if_neg q0_3]
        exact ih _ _ _ _ (.inl rfl) hs0 
    | atom =>
      rw [P_atom, P_atom]
      rw [kd_sim (n := n) hX hs0 ]
      by_cases q0_3 : kd X' n t = 2
      · rw [if_pos q0_3, if_pos q0_3]
        refine PrS.bind (take_sim hX hs0 _) fun s1 a1 t1 b1 hs1 hv1 => ?_
        rw [hv1.num]
        exact add_sim hs1 
      · rw [if_neg q0_3, if_neg q0_3]
        by_cases q0_4 : kd X' n t = 1
        · rw [if_pos q0_4, if_pos q0_4]
          exact ih _ _ _ _ (.inl rfl) hs0 
        · rw [if_neg q0_4, if_neg q0_4]
          by_cases q0_5 : kd X' n t = 34
          · rw [if_pos q0_5, if_pos q0_5]
            refine PrS.bind (take_sim hX hs0 _) fun s1 a1 t1 b1 hs1 hv1 => ?_
            exact add_sim hs1 
          · rw [if_neg q0_5, if_neg q0_5]
            by_cases q0_6 : kd X' n t = 35
            · rw [if_pos q0_6, if_pos q0_6]
              refine PrS.bind (take_sim hX hs0 _) fun s1 a1 t1 b1 hs1 hv1 => ?_
              exact add_sim hs1 
            · rw [if_neg q0_6, if_neg q0_6]
              by_cases q0_7 : kd X' n t = 36
              · rw [if_pos q0_7, if_pos q0_7]
                refine PrS.bind (take_sim hX hs0 _) fun s1 a1 t1 b1 hs1 hv1 => ?_
                exact add_sim hs1 
              · rw [if_neg q0_7, if_neg q0_7]
                by_cases q0_8 : kd X' n t = 37
                · rw [if_pos q0_8, if_pos q0_8]
                  exact ih _ _ _ _ (.inl rfl) hs0 
                · rw [if_neg q0_8, if_neg q0_8]
                  by_cases q0_9 : kd X' n t = 40
                  · rw [if_pos q0_9, if_pos q0_9]
                    exact ih _ _ _ _ (.inl rfl) hs0 
                  · rw [if_neg q0_9, if_neg q0_9]
                    by_cases q0_10 : kd X' n t = 38
                    · rw [if_pos q0_10, if_pos q0_10]
                      exact ih _ _ _ _ (.inl rfl) hs0 
                    · rw [if_neg q0_10, if_neg q0_10]
                      by_cases q0_11 : kd X' n t = 39
                      · rw [if_pos q0_11, if_pos q0_11]
                        exact ih _ _ _ _ (.inl rfl) hs0 
                      · rw [if_neg q0_11, if_neg q0_11]
                        by_cases q0_12 : kd X' n t = 50
                        · rw [if_pos q0_12, if_pos q0_12]
                          exact ih _ _ _ _ (.inl rfl) hs0 
                        · rw [if_neg q0_12, if_neg q0_12]
                          exact refu_sim hs0 
    | named =>
      rw [P_named, P_named]
      refine PrS.bind (take_sim hX hs0 _) fun s1 a1 t1 b1 hs1 hv1 => ?_
      refine PrS.bind (ih _ _ _ _ (.inl rfl) hs1) fun s2 a2 t2 b2 hs2 hv2 => ?_
      subst hv2
      rw [hv1.text]
      exact add_sim hs2 
    | throw q =>
      rw [P_throw, P_throw]
      try rw [kd_sim (n := n) hX hs0]
      refine PrS.bind (take_sim hX hs0 _) fun s1 a1 t1 b1 hs1 hv1 => ?_
      refine PrS.bind (ih _ _ _ _ (.inl rfl) hs1) fun s2 a2 t2 b2 hs2 hv2 => ?_
      subst hv2
      exact add_sim hs2 
    | choice q =>
      rw [P_choice, P_choice]
      try rw [kd_sim (n := n) hX hs0]
      refine PrS.bind (take_sim hX hs0 _) fun s1 a1 t1 b1 hs1 hv1 => ?_
      refine PrS.bind (enter_sim hX hs1 _) fun s2 a2 t2 b2 hs2 hv2 => ?_
      refine PrS.bind (ih _ _ _ _ (.inl rfl) hs2) fun s3 a3 t3 b3 hs3 hv3 => ?_
      subst hv3
      refine PrS.bind (take_sim hX hs3 _) fun s4 a4 t4 b4 hs4 hv4 => ?_
      refine PrS.bind (ih _ _ _ _ (.inl rfl) hs4) fun s5 a5 t5 b5 hs5 hv5 => ?_
      subst hv5
      refine PrS.bind (leave_sim hX hs5 _) fun s6 a6 t6 b6 hs6 hv6 => ?_
      subst hv6
      exact add_sim hs6 
    | brack =>
      rw [P_brack, P_brack]
      refine PrS.bind (enter_sim hX hs0 _) fun s1 a1 t1 b1 hs1 hv1 => ?_
      refine PrS.bind (ih _ _ _ _ (.inl rfl) hs1) fun s2 a2 t2 b2 hs2 hv2 => ?_
      subst hv2
      refine PrS.bind (leave_sim hX hs2 _) fun s3 a3 t3 b3 hs3 hv3 => ?_
      subst hv3
      exact ⟨hs3 , rfl⟩
    | index =>
      rw [P_index, P_index]
      rw [kd_sim (n := n) hX hs0 ]
      by_cases q0_3 : kd X' n t = 52
      · rw [if_pos q0_3, if_pos q0_3]
        refine PrS.bind (enter_sim hX hs0 _) fun s1 a1 t1 b1 hs1 hv1 => ?_
        refine PrS.bind (ih _ _ _ _ (.inl rfl) hs1) fun s2 a2 t2 b2 hs2 hv2 => ?_
        subst hv2
        refine PrS.bind (leave_sim hX hs2 _) fun s3 a3 t3 b3 hs3 hv3 => ?_
        subst hv3
        exact ⟨hs3 , rfl⟩
      · rw [if_neg q0_3, if_neg q0_3]
        exact ⟨hs0 , rfl⟩
    | value =>
      rw [P_value, P_value]
      refine PrS.bind (take_sim hX hs0 _) fun s1 a1 t1 b1 hs1 hv1 => ?_
      exact ih _ _ _ _ (.inl rfl) hs1 
    | name q =>
      rw [P_name, P_name]
      refine PrS.bind (take_sim hX hs0 _) fun s1 a1 t1 b1 hs1 hv1 => ?_
      rw [hv1.text]
      exact add_sim hs1 
    | scene =>
      rw [P_scene, P_scene]
      exact ih _ _ _ _ (.inl rfl) hs0 
    | sceneL l =>
      rw [P_sceneL, P_sceneL]
      rw [hs0.1]
      by_cases q0_3 : t.nx < n
      · rw [if_pos q0_3, if_pos q0_3]
        refine PrS.bind (ih _ _ _ _ (.inl rfl) hs0) fun s1 a1 t1 b1 hs1 hv1 => ?_
        subst hv1
        exact ih _ _ _ _ (.inl rfl) hs1 
      · rw [if_neg q0_3, if_neg q0_3]
        exact add_sim hs0 
    | item =>
      rw [P_item, P_item]
      rw [kd_sim (n := n) hX hs0 ]
      by_cases q0_3 : 10 ≤ kd X' n t ∧ kd X' n t ≤ 14
      · rw [if_pos q0_3, if_pos q0_3]
        exact ih _ _ _ _ (.inl rfl) hs0 
      · rw [if_neg q0_3, if_neg q0_3]
        by_cases q0_4 : kd X' n t = 15
        · rw [if_pos q0_4, if_pos q0_4]
          exact ih _ _ _ _ (.inl rfl) hs0 
        · rw [if_neg q0_4, if_neg q0_4]
          by_cases q0_5 : kd X' n t = 16
          · rw [if_pos q0_5, if_pos q0_5]
            exact ih _ _ _ _ (.inl rfl) hs0 
          · rw [if_neg q0_5, if_neg q0_5]
            by_cases q0_6 : kd X' n t = 17
            · rw [if_pos q0_6, if_pos q0_6]
              exact ih _ _ _ _ (.inl rfl) hs0 
            · rw [if_neg q0_6, if_neg q0_6]
              by_cases q0_7 : kd X' n t = 20
              · rw [if_pos q0_7, if_pos q0_7]
                exact ih _ _ _ _ (.inl rfl) hs0 
              · rw [if_neg q0_7, if_neg q0_7]
                by_cases q0_8 : kd X' n t = 21
                · rw [if_pos q0_8, if_pos q0_8]
                  exact ih _ _ _ _ (.inl rfl) hs0 
                · rw [if_neg q0_8, if_neg q0_8]
                  exact refu_sim hs0 
    | setting =>
      rw [P_setting, P_setting]
      try rw [kd_sim (n := n) hX hs0]
      refine PrS.bind (take_sim hX hs0 _) fun s1 a1 t1 b1 hs1 hv1 => ?_
      refine PrS.bind (take_sim hX hs1 _) fun s2 a2 t2 b2 hs2 hv2 => ?_
      rw [hv1.kind, hv2.num]
      exact add_sim hs2 
    | constant =>
      rw [P_constant, P_constant]
      refine PrS.bind (take_sim hX hs0 _) fun s1 a1 t1 b1 hs1 hv1 => ?_
      refine PrS.bind (take_sim hX hs1 _) fun s2 a2 t2 b2 hs2 hv2 => ?_
      refine PrS.bind (ih _ _ _ _ (.inl rfl) hs2) fun s3 a3 t3 b3 hs3 hv3 => ?_
      subst hv3
      rw [hv2.text]
      exact add_sim hs3 
    | kinds =>
      rw [P_kinds, P_kinds]
      refine PrS.bind (take_sim hX hs0 _) fun s1 a1 t1 b1 hs1 hv1 => ?_
      refine PrS.bind (ih _ _ _ _ (.inl rfl) hs1) fun s2 a2 t2 b2 hs2 hv2 => ?_
      subst hv2
      refine PrS.bind (ih _ _ _ _ (.inl rfl) hs2) fun s3 a3 t3 b3 hs3 hv3 => ?_
      subst hv3
      exact add_sim hs3 
    | kindsL l =>
      rw [P_kindsL, P_kindsL]
      rw [kd_sim (n := n) hX hs0 ]
      by_cases q0_3 : kd X' n t = 56
      · rw [if_pos q0_3, if_pos q0_3]
        refine PrS.bind (take_sim hX hs0 _) fun s1 a1 t1 b1 hs1 hv1 => ?_
        refine PrS.bind (ih _ _ _ _ (.inl rfl) hs1) fun s2 a2 t2 b2 hs2 hv2 => ?_
        subst hv2
        exact ih _ _ _ _ (.inl rfl) hs2 
      · rw [if_neg q0_3, if_neg q0_3]
        exact ⟨hs0 , rfl⟩
    | ptype =>
      rw [P_ptype, P_ptype]
      refine PrS.bind (take_sim hX hs0 _) fun s1 a1 t1 b1 hs1 hv1 => ?_
      refine PrS.bind (take_sim hX hs1 _) fun s2 a2 t2 b2 hs2 hv2 => ?_
      refine PrS.bind (enter_sim hX hs2 _) fun s3 a3 t3 b3 hs3 hv3 => ?_
      refine PrS.bind (ih _ _ _ _ (.inl rfl) hs3) fun s4 a4 t4 b4 hs4 hv4 => ?_
      subst hv4
      refine PrS.bind (leave_sim hX hs4 _) fun s5 a5 t5 b5 hs5 hv5 => ?_
      subst hv5
      rw [hv2.text]
      exact add_sim hs5 
    | memL l =>
      rw [P_memL, P_memL]
      rw [kd_sim (n := n) hX hs0 ]
      by_cases q0_3 : kd X' n t = 55
      · rw [if_pos q0_3, if_pos q0_3]
        exact ⟨hs0 , rfl⟩
      · rw [if_neg q0_3, if_neg q0_3]
        refine PrS.bind (ih _ _ _ _ (.inl rfl) hs0) fun s1 a1 t1 b1 hs1 hv1 => ?_
        subst hv1
        exact ih _ _ _ _ (.inl rfl) hs1 
    | member =>
      rw [P_member, P_member]
      rw [kd_sim (n := n) hX hs0 ]
      by_cases q0_3 : kd X' n t = 18
      · rw [if_pos q0_3, if_pos q0_3]
        exact ih _ _ _ _ (.inl rfl) hs0 
      · rw [if_neg q0_3, if_neg q0_3]
        by_cases q0_4 : kd X' n t = 19
        · rw [if_pos q0_4, if_pos q0_4]
          exact ih _ _ _ _ (.inl rfl) hs0 
        · rw [if_neg q0_4, if_neg q0_4]
          exact refu_sim hs0 
    | vari =>
      rw [P_vari, P_vari]
      refine PrS.bind (take_sim hX hs0 _) fun s1 a1 t1 b1 hs1 hv1 => ?_
      refine PrS.bind (take_sim hX hs1 _) fun s2 a2 t2 b2 hs2 hv2 => ?_
      refine PrS.bind (ih _ _ _ _ (.inl rfl) hs2) fun s3 a3 t3 b3 hs3 hv3 => ?_
      subst hv3
      rw [kd_sim (n := n) hX hs3 ]
      by_cases q3_3 : kd X' n t3 = 58
      · rw [if_pos q3_3, if_pos q3_3]
        refine PrS.bind (ih _ _ _ _ (.inl rfl) hs3) fun s4 a4 t4 b4 hs4 hv4 => ?_
        subst hv4
        rw [hv2.text]
        exact add_sim hs4 
      · rw [if_neg q3_3, if_neg q3_3]
        rw [hv2.text]
        exact add_sim hs3 
    | handler =>
      rw [P_handler, P_handler]
      refine PrS.bind (take_sim hX hs0 _) fun s1 a1 t1 b1 hs1 hv1 => ?_
      refine PrS.bind (take_sim hX hs1 _) fun s2 a2 t2 b2 hs2 hv2 => ?_
      refine PrS.bind (enter_sim hX hs2 _) fun s3 a3 t3 b3 hs3 hv3 => ?_
      refine PrS.bind (ih _ _ _ _ (.inl rfl) hs3) fun s4 a4 t4 b4 hs4 hv4 => ?_
      subst hv4
      refine PrS.bind (leave_sim hX hs4 _) fun s5 a5 t5 b5 hs5 hv5 => ?_
      subst hv5
      refine PrS.bind (ih _ _ _ _ (.inl rfl) hs5) fun s6 a6 t6 b6 hs6 hv6 => ?_
      subst hv6
      rw [hv2.text]
      exact add_sim hs6 
    | place =>
      rw [P_place, P_place]
      refine PrS.bind (take_sim hX hs0 _) fun s1 a1 t1 b1 hs1 hv1 => ?_
      refine PrS.bind (take_sim hX hs1 _) fun s2 a2 t2 b2 hs2 hv2 => ?_
      refine PrS.bind (ih _ _ _ _ (.inl rfl) hs2) fun s3 a3 t3 b3 hs3 hv3 => ?_
      subst hv3
      refine PrS.bind (take_sim hX hs3 _) fun s4 a4 t4 b4 hs4 hv4 => ?_
      refine PrS.bind (ih _ _ _ _ (.inl rfl) hs4) fun s5 a5 t5 b5 hs5 hv5 => ?_
      subst hv5
      rw [kd_sim (n := n) hX hs5 ]
      by_cases q5_3 : kd X' n t5 = 50
      · rw [if_pos q5_3, if_pos q5_3]
        refine PrS.bind (ih _ _ _ _ (.inl rfl) hs5) fun s6 a6 t6 b6 hs6 hv6 => ?_
        subst hv6
        rw [hv2.text]
        exact add_sim hs6 
      · rw [if_neg q5_3, if_neg q5_3]
        rw [hv2.text]
        exact add_sim hs5 
    | gives =>
      rw [P_gives, P_gives]
      refine PrS.bind (enter_sim hX hs0 _) fun s1 a1 t1 b1 hs1 hv1 => ?_
      refine PrS.bind (ih _ _ _ _ (.inl rfl) hs1) fun s2 a2 t2 b2 hs2 hv2 => ?_
      subst hv2
      refine PrS.bind (ih _ _ _ _ (.inl rfl) hs2) fun s3 a3 t3 b3 hs3 hv3 => ?_
      subst hv3
      refine PrS.bind (leave_sim hX hs3 _) fun s4 a4 t4 b4 hs4 hv4 => ?_
      subst hv4
      exact ⟨hs4 , rfl⟩
    | givesL l =>
      rw [P_givesL, P_givesL]
      rw [kd_sim (n := n) hX hs0 ]
      by_cases q0_3 : kd X' n t = 56
      · rw [if_pos q0_3, if_pos q0_3]
        refine PrS.bind (take_sim hX hs0 _) fun s1 a1 t1 b1 hs1 hv1 => ?_
        refine PrS.bind (ih _ _ _ _ (.inl rfl) hs1) fun s2 a2 t2 b2 hs2 hv2 => ?_
        subst hv2
        exact ih _ _ _ _ (.inl rfl) hs2 
      · rw [if_neg q0_3, if_neg q0_3]
        exact ⟨hs0 , rfl⟩
    | give =>
      rw [P_give, P_give]
      refine PrS.bind (take_sim hX hs0 _) fun s1 a1 t1 b1 hs1 hv1 => ?_
      refine PrS.bind (ih _ _ _ _ (.inl rfl) hs1) fun s2 a2 t2 b2 hs2 hv2 => ?_
      subst hv2
      refine PrS.bind (ih _ _ _ _ (.inl rfl) hs2) fun s3 a3 t3 b3 hs3 hv3 => ?_
      subst hv3
      rw [hv1.text]
      exact add_sim hs3 
    | start =>
      rw [P_start, P_start]
      refine PrS.bind (take_sim hX hs0 _) fun s1 a1 t1 b1 hs1 hv1 => ?_
      refine PrS.bind (take_sim hX hs1 _) fun s2 a2 t2 b2 hs2 hv2 => ?_
      refine PrS.bind (ih _ _ _ _ (.inl rfl) hs2) fun s3 a3 t3 b3 hs3 hv3 => ?_
      subst hv3
      refine PrS.bind (take_sim hX hs3 _) fun s4 a4 t4 b4 hs4 hv4 => ?_
      refine PrS.bind (ih _ _ _ _ (.inl rfl) hs4) fun s5 a5 t5 b5 hs5 hv5 => ?_
      subst hv5
      refine PrS.bind (ih _ _ _ _ (.inl rfl) hs5) fun s6 a6 t6 b6 hs6 hv6 => ?_
      subst hv6
      refine PrS.bind (take_sim hX hs6 _) fun s7 a7 t7 b7 hs7 hv7 => ?_
      refine PrS.bind (take_sim hX hs7 _) fun s8 a8 t8 b8 hs8 hv8 => ?_
      rw [hv2.text, hv8.num]
      exact add_sim hs8 
    | block =>
      rw [P_block, P_block]
      refine PrS.bind (enter_sim hX hs0 _) fun s1 a1 t1 b1 hs1 hv1 => ?_
      refine PrS.bind (ih _ _ _ _ (.inl rfl) hs1) fun s2 a2 t2 b2 hs2 hv2 => ?_
      subst hv2
      refine PrS.bind (leave_sim hX hs2 _) fun s3 a3 t3 b3 hs3 hv3 => ?_
      subst hv3
      exact add_sim hs3 
    | blockL l =>
      rw [P_blockL, P_blockL]
      rw [kd_sim (n := n) hX hs0 ]
      by_cases q0_3 : kd X' n t = 55
      · rw [if_pos q0_3, if_pos q0_3]
        exact ⟨hs0 , rfl⟩
      · rw [if_neg q0_3, if_neg q0_3]
        refine PrS.bind (ih _ _ _ _ (.inl rfl) hs0) fun s1 a1 t1 b1 hs1 hv1 => ?_
        subst hv1
        exact ih _ _ _ _ (.inl rfl) hs1 
    | stmt =>
      rw [P_stmt, P_stmt]
      rw [kd_sim (n := n) hX hs0 ]
      by_cases q0_3 : kd X' n t = 22
      · rw [if_pos q0_3, if_pos q0_3]
        refine PrS.bind (take_sim hX hs0 _) fun s1 a1 t1 b1 hs1 hv1 => ?_
        refine PrS.bind (take_sim hX hs1 _) fun s2 a2 t2 b2 hs2 hv2 => ?_
        refine PrS.bind (ih _ _ _ _ (.inl rfl) hs2) fun s3 a3 t3 b3 hs3 hv3 => ?_
        subst hv3
        rw [hv2.text]
        exact add_sim hs3 
      · rw [if_neg q0_3, if_neg q0_3]
        by_cases q0_4 : kd X' n t = 1
        · rw [if_pos q0_4, if_pos q0_4]
          exact ih _ _ _ _ (.inl rfl) hs0 
        · rw [if_neg q0_4, if_neg q0_4]
          by_cases q0_5 : kd X' n t = 23
          · rw [if_pos q0_5, if_pos q0_5]
            refine PrS.bind (take_sim hX hs0 _) fun s1 a1 t1 b1 hs1 hv1 => ?_
            exact ih _ _ _ _ (.inr ⟨_, _, rfl, rfl, hv1⟩) hs1 
          · rw [if_neg q0_5, if_neg q0_5]
            by_cases q0_6 : kd X' n t = 25
            · rw [if_pos q0_6, if_pos q0_6]
              refine PrS.bind (take_sim hX hs0 _) fun s1 a1 t1 b1 hs1 hv1 => ?_
              refine PrS.bind (ih _ _ _ _ (.inl rfl) hs1) fun s2 a2 t2 b2 hs2 hv2 => ?_
              subst hv2
              refine PrS.bind (ih _ _ _ _ (.inl rfl) hs2) fun s3 a3 t3 b3 hs3 hv3 => ?_
              subst hv3
              exact add_sim hs3 
            · rw [if_neg q0_6, if_neg q0_6]
              by_cases q0_7 : kd X' n t = 26
              · rw [if_pos q0_7, if_pos q0_7]
                refine PrS.bind (take_sim hX hs0 _) fun s1 a1 t1 b1 hs1 hv1 => ?_
                exact add_sim hs1 
              · rw [if_neg q0_7, if_neg q0_7]
                by_cases q0_8 : kd X' n t = 27
                · rw [if_pos q0_8, if_pos q0_8]
                  refine PrS.bind (take_sim hX hs0 _) fun s1 a1 t1 b1 hs1 hv1 => ?_
                  exact add_sim hs1 
                · rw [if_neg q0_8, if_neg q0_8]
                  by_cases q0_9 : kd X' n t = 28
                  · rw [if_pos q0_9, if_pos q0_9]
                    refine PrS.bind (take_sim hX hs0 _) fun s1 a1 t1 b1 hs1 hv1 => ?_
                    exact add_sim hs1 
                  · rw [if_neg q0_9, if_neg q0_9]
                    by_cases q0_10 : kd X' n t = 29
                    · rw [if_pos q0_10, if_pos q0_10]
                      exact ih _ _ _ _ (.inl rfl) hs0 
                    · rw [if_neg q0_10, if_neg q0_10]
                      by_cases q0_11 : kd X' n t = 33
                      · rw [if_pos q0_11, if_pos q0_11]
                        refine PrS.bind (take_sim hX hs0 _) fun s1 a1 t1 b1 hs1 hv1 => ?_
                        refine PrS.bind (ih _ _ _ _ (.inl rfl) hs1) fun s2 a2 t2 b2 hs2 hv2 => ?_
                        subst hv2
                        exact add_sim hs2 
                      · rw [if_neg q0_11, if_neg q0_11]
                        exact refu_sim hs0 
    | set =>
      rw [P_set, P_set]
      refine PrS.bind (take_sim hX hs0 _) fun s1 a1 t1 b1 hs1 hv1 => ?_
      refine PrS.bind (ih _ _ _ _ (.inl rfl) hs1) fun s2 a2 t2 b2 hs2 hv2 => ?_
      subst hv2
      refine PrS.bind (ih _ _ _ _ (.inl rfl) hs2) fun s3 a3 t3 b3 hs3 hv3 => ?_
      subst hv3
      rw [hv1.text]
      exact add_sim hs3 
    | branch a => exact brn a a s t (TkS.rfl a) hs0
    | otherwise =>
      rw [P_otherwise, P_otherwise]
      rw [kd_sim (n := n) hX hs0 ]
      by_cases q0_3 : kd X' n t = 23
      · rw [if_pos q0_3, if_pos q0_3]
        refine PrS.bind (enter_sim hX hs0 _) fun s1 a1 t1 b1 hs1 hv1 => ?_
        refine PrS.bind (ih _ _ _ _ (.inr ⟨_, _, rfl, rfl, hv1⟩) hs1) fun s2 a2 t2 b2 hs2 hv2 => ?_
        subst hv2
        have hs2d := hs2.dec
        exact ⟨hs2d , rfl⟩
      · rw [if_neg q0_3, if_neg q0_3]
        exact ih _ _ _ _ (.inl rfl) hs0 
    | send =>
      rw [P_send, P_send]
      refine PrS.bind (take_sim hX hs0 _) fun s1 a1 t1 b1 hs1 hv1 => ?_
      refine PrS.bind (take_sim hX hs1 _) fun s2 a2 t2 b2 hs2 hv2 => ?_
      refine PrS.bind (ih _ _ _ _ (.inl rfl) hs2) fun s3 a3 t3 b3 hs3 hv3 => ?_
      subst hv3
      refine PrS.bind (take_sim hX hs3 _) fun s4 a4 t4 b4 hs4 hv4 => ?_
      refine PrS.bind (ih _ _ _ _ (.inl rfl) hs4) fun s5 a5 t5 b5 hs5 hv5 => ?_
      subst hv5
      refine PrS.bind (take_sim hX hs5 _) fun s6 a6 t6 b6 hs6 hv6 => ?_
      refine PrS.bind (ih _ _ _ _ (.inl rfl) hs6) fun s7 a7 t7 b7 hs7 hv7 => ?_
      subst hv7
      rw [hv2.text]
      exact add_sim hs7 
end Go.Proofs.YtmekcccmnkgodaaGreatDoor
