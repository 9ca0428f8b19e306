import Derived.Test.YtmekcccmnkgodaaGreatDoorFGPT
namespace Go.Proofs.YtmekcccmnkgodaaGreatDoor
open Go.ChangeShapes Go.WideShapes Go.ChangeAt Go.RowKit
set_option linter.unusedVariables false
set_option linter.unusedSimpArgs false
/-! ### every node has its token's place -/
def Mt.tk (L C : Int) : Mt → Prop
  | .branch t => t.line = L ∧ t.col = C
  | _ => True
theorem all_snoc {L C : Int} {a : List Nd} (h : ∀ d ∈ a, d.line = L ∧ d.col = C) {kind : Int} {name : Bs} {num : Nat} {op : Int} {kids : List Nat} {t : Tk} (ht : t.line = L ∧ t.col = C) : ∀ d ∈ a ++ [(⟨kind, name, num, op, kids, t.line, t.col⟩ : Nd)], d.line = L ∧ d.col = C := by
  intro d hd
  rcases List.mem_append.1 hd with hd | hd
  · exact h d hd
  · rcases List.mem_singleton.1 hd with rfl
    exact ht
theorem plP (X : Nat → Tk) (n : Nat) (L C : Int) (hX : ∀ i, (X i).line = L ∧ (X i).col = C) : ∀ (f : Nat) (m : Mt) (s s' : St) (v : List Nat), m.sc = false → m.tk L C → P X n f m s = .ok s' v → (∀ d ∈ s.md, d.line = L ∧ d.col = C) → ∀ d ∈ s'.md, d.line = L ∧ d.col = C := by
  intro f
  induction f with
  | zero => intro m s s' v _ _ h; cases h
  | succ f ih =>
    intro m s s' v hsc htk h M0
    cases m with
    | bin st =>
      rw [P_bin] at h
      split at h
      · exact ih _ _ _ _ rfl (by first | exact trivial | trivial) h M0
      · obtain ⟨s1, a1, h1, h⟩ := bind_ok h
        have M1 := ih _ _ _ _ rfl (by first | exact trivial | trivial) h1 M0
        exact ih _ _ _ _ rfl (by first | exact trivial | trivial) h M1
    | binL st left =>
      rw [P_binL] at h
      split at h
      · obtain ⟨s1, a1, h1, h⟩ := bind_ok h
        have M1 : ∀ d ∈ s1.md, d.line = L ∧ d.col = C := by rw [take_md h1]; exact M0
        have q1 : a1.line = L ∧ a1.col = C := by rw [(take_ok h1).2.2.2]; exact hX _
        obtain ⟨s2, a2, h2, h⟩ := bind_ok h
        have M2 := ih _ _ _ _ rfl (by first | exact trivial | trivial) h2 M1
        obtain ⟨s3, a3, h3, h⟩ := bind_ok h
        have M3 : ∀ d ∈ s3.md, d.line = L ∧ d.col = C := by rw [(add_md h3).1]; exact all_snoc M2 q1
        split at h
        · injection h with e1 e2
          subst e1
          exact M3
        · exact ih _ _ _ _ rfl (by first | exact trivial | trivial) h M3
      · injection h with e1 e2
        subst e1
        exact M0
    | una =>
      rw [P_una] at h
      split at h
      · obtain ⟨s1, a1, h1, h⟩ := bind_ok h
        have M1 : ∀ d ∈ s1.md, d.line = L ∧ d.col = C := by rw [enter_md h1]; exact M0
        have q1 : a1.line = L ∧ a1.col = C := by rw [(enter_ok h1).2.2.2.2]; exact hX _
        obtain ⟨s2, a2, h2, h⟩ := bind_ok h
        have M2 := ih _ _ _ _ rfl (by first | exact trivial | trivial) h2 M1
        rw [(add_md h).1]
        exact all_snoc M2 q1
      · exact ih _ _ _ _ rfl (by first | exact trivial | trivial) h M0
    | atom =>
      rw [P_atom] at h
      split at h
      · obtain ⟨s1, a1, h1, h⟩ := bind_ok h
        have M1 : ∀ d ∈ s1.md, d.line = L ∧ d.col = C := by rw [take_md h1]; exact M0
        have q1 : a1.line = L ∧ a1.col = C := by rw [(take_ok h1).2.2.2]; exact hX _
        rw [(add_md h).1]
        exact all_snoc M1 q1
      · split at h
        · exact ih _ _ _ _ rfl (by first | exact trivial | trivial) h M0
        · split at h
          · obtain ⟨s1, a1, h1, h⟩ := bind_ok h
            have M1 : ∀ d ∈ s1.md, d.line = L ∧ d.col = C := by rw [take_md h1]; exact M0
            have q1 : a1.line = L ∧ a1.col = C := by rw [(take_ok h1).2.2.2]; exact hX _
            rw [(add_md h).1]
            exact all_snoc M1 q1
          · split at h
            · obtain ⟨s1, a1, h1, h⟩ := bind_ok h
              have M1 : ∀ d ∈ s1.md, d.line = L ∧ d.col = C := by rw [take_md h1]; exact M0
              have q1 : a1.line = L ∧ a1.col = C := by rw [(take_ok h1).2.2.2]; exact hX _
              rw [(add_md h).1]
              exact all_snoc M1 q1
            · split at h
              · obtain ⟨s1, a1, h1, h⟩ := bind_ok h
                have M1 : ∀ d ∈ s1.md, d.line = L ∧ d.col = C := by rw [take_md h1]; exact M0
                have q1 : a1.line = L ∧ a1.col = C := by rw [(take_ok h1).2.2.2]; exact hX _
                rw [(add_md h).1]
                exact all_snoc M1 q1
              · split at h
                · exact ih _ _ _ _ rfl (by first | exact trivial | trivial) h M0
                · split at h
                  · exact ih _ _ _ _ rfl (by first | exact trivial | trivial) h M0
                  · split at h
                    · exact ih _ _ _ _ rfl (by first | exact trivial | trivial) h M0
                    · split at h
                      · exact ih _ _ _ _ rfl (by first | exact trivial | trivial) h M0
                      · split at h
                        · exact ih _ _ _ _ rfl (by first | exact trivial | trivial) h M0
                        · cases h
    | named =>
      rw [P_named] at h
      obtain ⟨s1, a1, h1, h⟩ := bind_ok h
      have M1 : ∀ d ∈ s1.md, d.line = L ∧ d.col = C := by rw [take_md h1]; exact M0
      have q1 : a1.line = L ∧ a1.col = C := by rw [(take_ok h1).2.2.2]; exact hX _
      obtain ⟨s2, a2, h2, h⟩ := bind_ok h
      have M2 := ih _ _ _ _ rfl (by first | exact trivial | trivial) h2 M1
      rw [(add_md h).1]
      exact all_snoc M2 q1
    | throw q =>
      rw [P_throw] at h
      obtain ⟨s1, a1, h1, h⟩ := bind_ok h
      have M1 : ∀ d ∈ s1.md, d.line = L ∧ d.col = C := by rw [take_md h1]; exact M0
      have q1 : a1.line = L ∧ a1.col = C := by rw [(take_ok h1).2.2.2]; exact hX _
      obtain ⟨s2, a2, h2, h⟩ := bind_ok h
      have M2 := ih _ _ _ _ rfl (by first | exact trivial | trivial) h2 M1
      rw [(add_md h).1]
      exact all_snoc M2 q1
    | choice q =>
      rw [P_choice] at h
      obtain ⟨s1, a1, h1, h⟩ := bind_ok h
      have M1 : ∀ d ∈ s1.md, d.line = L ∧ d.col = C := by rw [take_md h1]; exact M0
      have q1 : a1.line = L ∧ a1.col = C := by rw [(take_ok h1).2.2.2]; exact hX _
      obtain ⟨s2, a2, h2, h⟩ := bind_ok h
      have M2 : ∀ d ∈ s2.md, d.line = L ∧ d.col = C := by rw [enter_md h2]; exact M1
      have q2 : a2.line = L ∧ a2.col = C := by rw [(enter_ok h2).2.2.2.2]; exact hX _
      obtain ⟨s3, a3, h3, h⟩ := bind_ok h
      have M3 := ih _ _ _ _ rfl (by first | exact trivial | trivial) h3 M2
      obtain ⟨s4, a4, h4, h⟩ := bind_ok h
      have M4 : ∀ d ∈ s4.md, d.line = L ∧ d.col = C := by rw [take_md h4]; exact M3
      have q4 : a4.line = L ∧ a4.col = C := by rw [(take_ok h4).2.2.2]; exact hX _
      obtain ⟨s5, a5, h5, h⟩ := bind_ok h
      have M5 := ih _ _ _ _ rfl (by first | exact trivial | trivial) h5 M4
      obtain ⟨s6, a6, h6, h⟩ := bind_ok h
      have M6 : ∀ d ∈ s6.md, d.line = L ∧ d.col = C := by rw [leave_md h6]; exact M5
      rw [(add_md h).1]
      exact all_snoc M6 q1
    | brack =>
      rw [P_brack] at h
      obtain ⟨s1, a1, h1, h⟩ := bind_ok h
      have M1 : ∀ d ∈ s1.md, d.line = L ∧ d.col = C := by rw [enter_md h1]; exact M0
      have q1 : a1.line = L ∧ a1.col = C := by rw [(enter_ok h1).2.2.2.2]; exact hX _
      obtain ⟨s2, a2, h2, h⟩ := bind_ok h
      have M2 := ih _ _ _ _ rfl (by first | exact trivial | trivial) h2 M1
      obtain ⟨s3, a3, h3, h⟩ := bind_ok h
      have M3 : ∀ d ∈ s3.md, d.line = L ∧ d.col = C := by rw [leave_md h3]; exact M2
      injection h with e1 e2
      subst e1
      exact M3
    | index =>
      rw [P_index] at h
      split at h
      · obtain ⟨s1, a1, h1, h⟩ := bind_ok h
        have M1 : ∀ d ∈ s1.md, d.line = L ∧ d.col = C := by rw [enter_md h1]; exact M0
        have q1 : a1.line = L ∧ a1.col = C := by rw [(enter_ok h1).2.2.2.2]; exact hX _
        obtain ⟨s2, a2, h2, h⟩ := bind_ok h
        have M2 := ih _ _ _ _ rfl (by first | exact trivial | trivial) h2 M1
        obtain ⟨s3, a3, h3, h⟩ := bind_ok h
        have M3 : ∀ d ∈ s3.md, d.line = L ∧ d.col = C := by rw [leave_md h3]; exact M2
        injection h with e1 e2
        subst e1
        exact M3
      · injection h with e1 e2
        subst e1
        exact M0
    | value =>
      rw [P_value] at h
      obtain ⟨s1, a1, h1, h⟩ := bind_ok h
      have M1 : ∀ d ∈ s1.md, d.line = L ∧ d.col = C := by rw [take_md h1]; exact M0
      have q1 : a1.line = L ∧ a1.col = C := by rw [(take_ok h1).2.2.2]; exact hX _
      exact ih _ _ _ _ rfl (by first | exact trivial | trivial) h M1
    | name q =>
      rw [P_name] at h
      obtain ⟨s1, a1, h1, h⟩ := bind_ok h
      have M1 : ∀ d ∈ s1.md, d.line = L ∧ d.col = C := by rw [take_md h1]; exact M0
      have q1 : a1.line = L ∧ a1.col = C := by rw [(take_ok h1).2.2.2]; exact hX _
      rw [(add_md h).1]
      exact all_snoc M1 q1
    | scene => cases hsc
    | sceneL l => cases hsc
    | item =>
      rw [P_item] at h
      split at h
      · exact ih _ _ _ _ rfl (by first | exact trivial | trivial) h M0
      · split at h
        · exact ih _ _ _ _ rfl (by first | exact trivial | trivial) h M0
        · split at h
          · exact ih _ _ _ _ rfl (by first | exact trivial | trivial) h M0
          · split at h
            · exact ih _ _ _ _ rfl (by first | exact trivial | trivial) h M0
            · split at h
              · exact ih _ _ _ _ rfl (by first | exact trivial | trivial) h M0
              · split at h
                · exact ih _ _ _ _ rfl (by first | exact trivial | trivial) h M0
                · cases h
    | setting =>
      rw [P_setting] at h
      obtain ⟨s1, a1, h1, h⟩ := bind_ok h
      have M1 : ∀ d ∈ s1.md, d.line = L ∧ d.col = C := by rw [take_md h1]; exact M0
      have q1 : a1.line = L ∧ a1.col = C := by rw [(take_ok h1).2.2.2]; exact hX _
      obtain ⟨s2, a2, h2, h⟩ := bind_ok h
      have M2 : ∀ d ∈ s2.md, d.line = L ∧ d.col = C := by rw [take_md h2]; exact M1
      have q2 : a2.line = L ∧ a2.col = C := by rw [(take_ok h2).2.2.2]; exact hX _
      rw [(add_md h).1]
      exact all_snoc M2 q1
    | constant =>
      rw [P_constant] at h
      obtain ⟨s1, a1, h1, h⟩ := bind_ok h
      have M1 : ∀ d ∈ s1.md, d.line = L ∧ d.col = C := by rw [take_md h1]; exact M0
      have q1 : a1.line = L ∧ a1.col = C := by rw [(take_ok h1).2.2.2]; exact hX _
      obtain ⟨s2, a2, h2, h⟩ := bind_ok h
      have M2 : ∀ d ∈ s2.md, d.line = L ∧ d.col = C := by rw [take_md h2]; exact M1
      have q2 : a2.line = L ∧ a2.col = C := by rw [(take_ok h2).2.2.2]; exact hX _
      obtain ⟨s3, a3, h3, h⟩ := bind_ok h
      have M3 := ih _ _ _ _ rfl (by first | exact trivial | trivial) h3 M2
      rw [(add_md h).1]
      exact all_snoc M3 q1
    | kinds =>
      rw [P_kinds] at h
      obtain ⟨s1, a1, h1, h⟩ := bind_ok h
      have M1 : ∀ d ∈ s1.md, d.line = L ∧ d.col = C := by rw [take_md h1]; exact M0
      have q1 : a1.line = L ∧ a1.col = C := by rw [(take_ok h1).2.2.2]; exact hX _
      obtain ⟨s2, a2, h2, h⟩ := bind_ok h
      have M2 := ih _ _ _ _ rfl (by first | exact trivial | trivial) h2 M1
      obtain ⟨s3, a3, h3, h⟩ := bind_ok h
      have M3 := ih _ _ _ _ rfl (by first | exact trivial | trivial) h3 M2
      rw [(add_md h).1]
      exact all_snoc M3 q1
    | kindsL l =>
      rw [P_kindsL] at h
      split at h
      · obtain ⟨s1, a1, h1, h⟩ := bind_ok h
        have M1 : ∀ d ∈ s1.md, d.line = L ∧ d.col = C := by rw [take_md h1]; exact M0
        have q1 : a1.line = L ∧ a1.col = C := by rw [(take_ok h1).2.2.2]; exact hX _
        obtain ⟨s2, a2, h2, h⟩ := bind_ok h
        have M2 := ih _ _ _ _ rfl (by first | exact trivial | trivial) h2 M1
        exact ih _ _ _ _ rfl (by first | exact trivial | trivial) h M2
      · injection h with e1 e2
        subst e1
        exact M0
    | ptype =>
      rw [P_ptype] at h
      obtain ⟨s1, a1, h1, h⟩ := bind_ok h
      have M1 : ∀ d ∈ s1.md, d.line = L ∧ d.col = C := by rw [take_md h1]; exact M0
      have q1 : a1.line = L ∧ a1.col = C := by rw [(take_ok h1).2.2.2]; exact hX _
      obtain ⟨s2, a2, h2, h⟩ := bind_ok h
      have M2 : ∀ d ∈ s2.md, d.line = L ∧ d.col = C := by rw [take_md h2]; exact M1
      have q2 : a2.line = L ∧ a2.col = C := by rw [(take_ok h2).2.2.2]; exact hX _
      obtain ⟨s3, a3, h3, h⟩ := bind_ok h
      have M3 : ∀ d ∈ s3.md, d.line = L ∧ d.col = C := by rw [enter_md h3]; exact M2
      have q3 : a3.line = L ∧ a3.col = C := by rw [(enter_ok h3).2.2.2.2]; exact hX _
      obtain ⟨s4, a4, h4, h⟩ := bind_ok h
      have M4 := ih _ _ _ _ rfl (by first | exact trivial | trivial) h4 M3
      obtain ⟨s5, a5, h5, h⟩ := bind_ok h
      have M5 : ∀ d ∈ s5.md, d.line = L ∧ d.col = C := by rw [leave_md h5]; exact M4
      rw [(add_md h).1]
      exact all_snoc M5 q1
    | memL l =>
      rw [P_memL] at h
      split at h
      · injection h with e1 e2
        subst e1
        exact M0
      · obtain ⟨s1, a1, h1, h⟩ := bind_ok h
        have M1 := ih _ _ _ _ rfl (by first | exact trivial | trivial) h1 M0
        exact ih _ _ _ _ rfl (by first | exact trivial | trivial) h M1
    | member =>
      rw [P_member] at h
      split at h
      · exact ih _ _ _ _ rfl (by first | exact trivial | trivial) h M0
      · split at h
        · exact ih _ _ _ _ rfl (by first | exact trivial | trivial) h M0
        · cases h
    | vari =>
      rw [P_vari] at h
      obtain ⟨s1, a1, h1, h⟩ := bind_ok h
      have M1 : ∀ d ∈ s1.md, d.line = L ∧ d.col = C := by rw [take_md h1]; exact M0
      have q1 : a1.line = L ∧ a1.col = C := by rw [(take_ok h1).2.2.2]; exact hX _
      obtain ⟨s2, a2, h2, h⟩ := bind_ok h
      have M2 : ∀ d ∈ s2.md, d.line = L ∧ d.col = C := by rw [take_md h2]; exact M1
      have q2 : a2.line = L ∧ a2.col = C := by rw [(take_ok h2).2.2.2]; exact hX _
      obtain ⟨s3, a3, h3, h⟩ := bind_ok h
      have M3 := ih _ _ _ _ rfl (by first | exact trivial | trivial) h3 M2
      split at h
      · obtain ⟨s4, a4, h4, h⟩ := bind_ok h
        have M4 := ih _ _ _ _ rfl (by first | exact trivial | trivial) h4 M3
        rw [(add_md h).1]
        exact all_snoc M4 q1
      · rw [(add_md h).1]
        exact all_snoc M3 q1
    | handler =>
      rw [P_handler] at h
      obtain ⟨s1, a1, h1, h⟩ := bind_ok h
      have M1 : ∀ d ∈ s1.md, d.line = L ∧ d.col = C := by rw [take_md h1]; exact M0
      have q1 : a1.line = L ∧ a1.col = C := by rw [(take_ok h1).2.2.2]; exact hX _
      obtain ⟨s2, a2, h2, h⟩ := bind_ok h
      have M2 : ∀ d ∈ s2.md, d.line = L ∧ d.col = C := by rw [take_md h2]; exact M1
      have q2 : a2.line = L ∧ a2.col = C := by rw [(take_ok h2).2.2.2]; exact hX _
      obtain ⟨s3, a3, h3, h⟩ := bind_ok h
      have M3 : ∀ d ∈ s3.md, d.line = L ∧ d.col = C := by rw [enter_md h3]; exact M2
      have q3 : a3.line = L ∧ a3.col = C := by rw [(enter_ok h3).2.2.2.2]; exact hX _
      obtain ⟨s4, a4, h4, h⟩ := bind_ok h
      have M4 := ih _ _ _ _ rfl (by first | exact trivial | trivial) h4 M3
      obtain ⟨s5, a5, h5, h⟩ := bind_ok h
      have M5 : ∀ d ∈ s5.md, d.line = L ∧ d.col = C := by rw [leave_md h5]; exact M4
      obtain ⟨s6, a6, h6, h⟩ := bind_ok h
      have M6 := ih _ _ _ _ rfl (by first | exact trivial | trivial) h6 M5
      rw [(add_md h).1]
      exact all_snoc M6 q1
    | place =>
      rw [P_place] at h
      obtain ⟨s1, a1, h1, h⟩ := bind_ok h
      have M1 : ∀ d ∈ s1.md, d.line = L ∧ d.col = C := by rw [take_md h1]; exact M0
      have q1 : a1.line = L ∧ a1.col = C := by rw [(take_ok h1).2.2.2]; exact hX _
      obtain ⟨s2, a2, h2, h⟩ := bind_ok h
      have M2 : ∀ d ∈ s2.md, d.line = L ∧ d.col = C := by rw [take_md h2]; exact M1
      have q2 : a2.line = L ∧ a2.col = C := by rw [(take_ok h2).2.2.2]; exact hX _
      obtain ⟨s3, a3, h3, h⟩ := bind_ok h
      have M3 := ih _ _ _ _ rfl (by first | exact trivial | trivial) h3 M2
      obtain ⟨s4, a4, h4, h⟩ := bind_ok h
      have M4 : ∀ d ∈ s4.md, d.line = L ∧ d.col = C := by rw [take_md h4]; exact M3
      have q4 : a4.line = L ∧ a4.col = C := by rw [(take_ok h4).2.2.2]; exact hX _
      obtain ⟨s5, a5, h5, h⟩ := bind_ok h
      have M5 := ih _ _ _ _ rfl (by first | exact trivial | trivial) h5 M4
      split at h
      · obtain ⟨s6, a6, h6, h⟩ := bind_ok h
        have M6 := ih _ _ _ _ rfl (by first | exact trivial | trivial) h6 M5
        rw [(add_md h).1]
        exact all_snoc M6 q1
      · rw [(add_md h).1]
        exact all_snoc M5 q1
    | gives =>
      rw [P_gives] at h
      obtain ⟨s1, a1, h1, h⟩ := bind_ok h
      have M1 : ∀ d ∈ s1.md, d.line = L ∧ d.col = C := by rw [enter_md h1]; exact M0
      have q1 : a1.line = L ∧ a1.col = C := by rw [(enter_ok h1).2.2.2.2]; exact hX _
      obtain ⟨s2, a2, h2, h⟩ := bind_ok h
      have M2 := ih _ _ _ _ rfl (by first | exact trivial | trivial) h2 M1
      obtain ⟨s3, a3, h3, h⟩ := bind_ok h
      have M3 := ih _ _ _ _ rfl (by first | exact trivial | trivial) h3 M2
      obtain ⟨s4, a4, h4, h⟩ := bind_ok h
      have M4 : ∀ d ∈ s4.md, d.line = L ∧ d.col = C := by rw [leave_md h4]; exact M3
      injection h with e1 e2
      subst e1
      exact M4
    | givesL l =>
      rw [P_givesL] at h
      split at h
      · obtain ⟨s1, a1, h1, h⟩ := bind_ok h
        have M1 : ∀ d ∈ s1.md, d.line = L ∧ d.col = C := by rw [take_md h1]; exact M0
        have q1 : a1.line = L ∧ a1.col = C := by rw [(take_ok h1).2.2.2]; exact hX _
        obtain ⟨s2, a2, h2, h⟩ := bind_ok h
        have M2 := ih _ _ _ _ rfl (by first | exact trivial | trivial) h2 M1
        exact ih _ _ _ _ rfl (by first | exact trivial | trivial) h M2
      · injection h with e1 e2
        subst e1
        exact M0
    | give =>
      rw [P_give] at h
      obtain ⟨s1, a1, h1, h⟩ := bind_ok h
      have M1 : ∀ d ∈ s1.md, d.line = L ∧ d.col = C := by rw [take_md h1]; exact M0
      have q1 : a1.line = L ∧ a1.col = C := by rw [(take_ok h1).2.2.2]; exact hX _
      obtain ⟨s2, a2, h2, h⟩ := bind_ok h
      have M2 := ih _ _ _ _ rfl (by first | exact trivial | trivial) h2 M1
      obtain ⟨s3, a3, h3, h⟩ := bind_ok h
      have M3 := ih _ _ _ _ rfl (by first | exact trivial | trivial) h3 M2
      rw [(add_md h).1]
      exact all_snoc M3 q1
    | start =>
      rw [P_start] at h
      obtain ⟨s1, a1, h1, h⟩ := bind_ok h
      have M1 : ∀ d ∈ s1.md, d.line = L ∧ d.col = C := by rw [take_md h1]; exact M0
      have q1 : a1.line = L ∧ a1.col = C := by rw [(take_ok h1).2.2.2]; exact hX _
      obtain ⟨s2, a2, h2, h⟩ := bind_ok h
      have M2 : ∀ d ∈ s2.md, d.line = L ∧ d.col = C := by rw [take_md h2]; exact M1
      have q2 : a2.line = L ∧ a2.col = C := by rw [(take_ok h2).2.2.2]; exact hX _
      obtain ⟨s3, a3, h3, h⟩ := bind_ok h
      have M3 := ih _ _ _ _ rfl (by first | exact trivial | trivial) h3 M2
      obtain ⟨s4, a4, h4, h⟩ := bind_ok h
      have M4 : ∀ d ∈ s4.md, d.line = L ∧ d.col = C := by rw [take_md h4]; exact M3
      have q4 : a4.line = L ∧ a4.col = C := by rw [(take_ok h4).2.2.2]; exact hX _
      obtain ⟨s5, a5, h5, h⟩ := bind_ok h
      have M5 := ih _ _ _ _ rfl (by first | exact trivial | trivial) h5 M4
      obtain ⟨s6, a6, h6, h⟩ := bind_ok h
      have M6 := ih _ _ _ _ rfl (by first | exact trivial | trivial) h6 M5
      obtain ⟨s7, a7, h7, h⟩ := bind_ok h
      have M7 : ∀ d ∈ s7.md, d.line = L ∧ d.col = C := by rw [take_md h7]; exact M6
      have q7 : a7.line = L ∧ a7.col = C := by rw [(take_ok h7).2.2.2]; exact hX _
      obtain ⟨s8, a8, h8, h⟩ := bind_ok h
      have M8 : ∀ d ∈ s8.md, d.line = L ∧ d.col = C := by rw [take_md h8]; exact M7
      have q8 : a8.line = L ∧ a8.col = C := by rw [(take_ok h8).2.2.2]; exact hX _
      rw [(add_md h).1]
      exact all_snoc M8 q1
    | block =>
      rw [P_block] at h
      obtain ⟨s1, a1, h1, h⟩ := bind_ok h
      have M1 : ∀ d ∈ s1.md, d.line = L ∧ d.col = C := by rw [enter_md h1]; exact M0
      have q1 : a1.line = L ∧ a1.col = C := by rw [(enter_ok h1).2.2.2.2]; exact hX _
      obtain ⟨s2, a2, h2, h⟩ := bind_ok h
      have M2 := ih _ _ _ _ rfl (by first | exact trivial | trivial) h2 M1
      obtain ⟨s3, a3, h3, h⟩ := bind_ok h
      have M3 : ∀ d ∈ s3.md, d.line = L ∧ d.col = C := by rw [leave_md h3]; exact M2
      rw [(add_md h).1]
      exact all_snoc M3 q1
    | blockL l =>
      rw [P_blockL] at h
      split at h
      · injection h with e1 e2
        subst e1
        exact M0
      · obtain ⟨s1, a1, h1, h⟩ := bind_ok h
        have M1 := ih _ _ _ _ rfl (by first | exact trivial | trivial) h1 M0
        exact ih _ _ _ _ rfl (by first | exact trivial | trivial) h M1
    | stmt =>
      rw [P_stmt] at h
      split at h
      · obtain ⟨s1, a1, h1, h⟩ := bind_ok h
        have M1 : ∀ d ∈ s1.md, d.line = L ∧ d.col = C := by rw [take_md h1]; exact M0
        have q1 : a1.line = L ∧ a1.col = C := by rw [(take_ok h1).2.2.2]; exact hX _
        obtain ⟨s2, a2, h2, h⟩ := bind_ok h
        have M2 : ∀ d ∈ s2.md, d.line = L ∧ d.col = C := by rw [take_md h2]; exact M1
        have q2 : a2.line = L ∧ a2.col = C := by rw [(take_ok h2).2.2.2]; exact hX _
        obtain ⟨s3, a3, h3, h⟩ := bind_ok h
        have M3 := ih _ _ _ _ rfl (by first | exact trivial | trivial) h3 M2
        rw [(add_md h).1]
        exact all_snoc M3 q1
      · split at h
        · exact ih _ _ _ _ rfl (by first | exact trivial | trivial) h M0
        · split at h
          · obtain ⟨s1, a1, h1, h⟩ := bind_ok h
            have M1 : ∀ d ∈ s1.md, d.line = L ∧ d.col = C := by rw [take_md h1]; exact M0
            have q1 : a1.line = L ∧ a1.col = C := by rw [(take_ok h1).2.2.2]; exact hX _
            exact ih _ _ _ _ rfl (by first | exact q1 | trivial) h M1
          · split at h
            · obtain ⟨s1, a1, h1, h⟩ := bind_ok h
              have M1 : ∀ d ∈ s1.md, d.line = L ∧ d.col = C := by rw [take_md h1]; exact M0
              have q1 : a1.line = L ∧ a1.col = C := by rw [(take_ok h1).2.2.2]; exact hX _
              obtain ⟨s2, a2, h2, h⟩ := bind_ok h
              have M2 := ih _ _ _ _ rfl (by first | exact trivial | trivial) h2 M1
              obtain ⟨s3, a3, h3, h⟩ := bind_ok h
              have M3 := ih _ _ _ _ rfl (by first | exact trivial | trivial) h3 M2
              rw [(add_md h).1]
              exact all_snoc M3 q1
            · split at h
              · obtain ⟨s1, a1, h1, h⟩ := bind_ok h
                have M1 : ∀ d ∈ s1.md, d.line = L ∧ d.col = C := by rw [take_md h1]; exact M0
                have q1 : a1.line = L ∧ a1.col = C := by rw [(take_ok h1).2.2.2]; exact hX _
                rw [(add_md h).1]
                exact all_snoc M1 q1
              · split at h
                · obtain ⟨s1, a1, h1, h⟩ := bind_ok h
                  have M1 : ∀ d ∈ s1.md, d.line = L ∧ d.col = C := by rw [take_md h1]; exact M0
                  have q1 : a1.line = L ∧ a1.col = C := by rw [(take_ok h1).2.2.2]; exact hX _
                  rw [(add_md h).1]
                  exact all_snoc M1 q1
                · split at h
                  · obtain ⟨s1, a1, h1, h⟩ := bind_ok h
                    have M1 : ∀ d ∈ s1.md, d.line = L ∧ d.col = C := by rw [take_md h1]; exact M0
                    have q1 : a1.line = L ∧ a1.col = C := by rw [(take_ok h1).2.2.2]; exact hX _
                    rw [(add_md h).1]
                    exact all_snoc M1 q1
                  · split at h
                    · exact ih _ _ _ _ rfl (by first | exact trivial | trivial) h M0
                    · split at h
                      · obtain ⟨s1, a1, h1, h⟩ := bind_ok h
                        have M1 : ∀ d ∈ s1.md, d.line = L ∧ d.col = C := by rw [take_md h1]; exact M0
                        have q1 : a1.line = L ∧ a1.col = C := by rw [(take_ok h1).2.2.2]; exact hX _
                        obtain ⟨s2, a2, h2, h⟩ := bind_ok h
                        have M2 := ih _ _ _ _ rfl (by first | exact trivial | trivial) h2 M1
                        rw [(add_md h).1]
                        exact all_snoc M2 q1
                      · cases h
    | set =>
      rw [P_set] at h
      obtain ⟨s1, a1, h1, h⟩ := bind_ok h
      have M1 : ∀ d ∈ s1.md, d.line = L ∧ d.col = C := by rw [take_md h1]; exact M0
      have q1 : a1.line = L ∧ a1.col = C := by rw [(take_ok h1).2.2.2]; exact hX _
      obtain ⟨s2, a2, h2, h⟩ := bind_ok h
      have M2 := ih _ _ _ _ rfl (by first | exact trivial | trivial) h2 M1
      obtain ⟨s3, a3, h3, h⟩ := bind_ok h
      have M3 := ih _ _ _ _ rfl (by first | exact trivial | trivial) h3 M2
      rw [(add_md h).1]
      exact all_snoc M3 q1
    | branch t =>
      rw [P_branch] at h
      obtain ⟨s1, a1, h1, h⟩ := bind_ok h
      have M1 := ih _ _ _ _ rfl (by first | exact trivial | trivial) h1 M0
      obtain ⟨s2, a2, h2, h⟩ := bind_ok h
      have M2 := ih _ _ _ _ rfl (by first | exact trivial | trivial) h2 M1
      split at h
      · obtain ⟨s3, a3, h3, h⟩ := bind_ok h
        have M3 : ∀ d ∈ s3.md, d.line = L ∧ d.col = C := by rw [take_md h3]; exact M2
        have q3 : a3.line = L ∧ a3.col = C := by rw [(take_ok h3).2.2.2]; exact hX _
        obtain ⟨s4, a4, h4, h⟩ := bind_ok h
        have M4 := ih _ _ _ _ rfl (by first | exact trivial | trivial) h4 M3
        rw [(add_md h).1]
        exact all_snoc M4 htk
      · rw [(add_md h).1]
        exact all_snoc M2 htk
    | otherwise =>
      rw [P_otherwise] at h
      split at h
      · obtain ⟨s1, a1, h1, h⟩ := bind_ok h
        have M1 : ∀ d ∈ s1.md, d.line = L ∧ d.col = C := by rw [enter_md h1]; exact M0
        have q1 : a1.line = L ∧ a1.col = C := by rw [(enter_ok h1).2.2.2.2]; exact hX _
        obtain ⟨s2, a2, h2, h⟩ := bind_ok h
        have M2 := ih _ _ _ _ rfl (by first | exact q1 | trivial) h2 M1
        injection h with e1 e2
        subst e1
        exact M2
      · exact ih _ _ _ _ rfl (by first | exact trivial | trivial) h M0
    | send =>
      rw [P_send] at h
      obtain ⟨s1, a1, h1, h⟩ := bind_ok h
      have M1 : ∀ d ∈ s1.md, d.line = L ∧ d.col = C := by rw [take_md h1]; exact M0
      have q1 : a1.line = L ∧ a1.col = C := by rw [(take_ok h1).2.2.2]; exact hX _
      obtain ⟨s2, a2, h2, h⟩ := bind_ok h
      have M2 : ∀ d ∈ s2.md, d.line = L ∧ d.col = C := by rw [take_md h2]; exact M1
      have q2 : a2.line = L ∧ a2.col = C := by rw [(take_ok h2).2.2.2]; exact hX _
      obtain ⟨s3, a3, h3, h⟩ := bind_ok h
      have M3 := ih _ _ _ _ rfl (by first | exact trivial | trivial) h3 M2
      obtain ⟨s4, a4, h4, h⟩ := bind_ok h
      have M4 : ∀ d ∈ s4.md, d.line = L ∧ d.col = C := by rw [take_md h4]; exact M3
      have q4 : a4.line = L ∧ a4.col = C := by rw [(take_ok h4).2.2.2]; exact hX _
      obtain ⟨s5, a5, h5, h⟩ := bind_ok h
      have M5 := ih _ _ _ _ rfl (by first | exact trivial | trivial) h5 M4
      obtain ⟨s6, a6, h6, h⟩ := bind_ok h
      have M6 : ∀ d ∈ s6.md, d.line = L ∧ d.col = C := by rw [take_md h6]; exact M5
      have q6 : a6.line = L ∧ a6.col = C := by rw [(take_ok h6).2.2.2]; exact hX _
      obtain ⟨s7, a7, h7, h⟩ := bind_ok h
      have M7 := ih _ _ _ _ rfl (by first | exact trivial | trivial) h7 M6
      rw [(add_md h).1]
      exact all_snoc M7 q1
end Go.Proofs.YtmekcccmnkgodaaGreatDoor
