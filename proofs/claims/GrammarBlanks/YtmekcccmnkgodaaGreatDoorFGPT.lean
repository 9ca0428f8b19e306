import Derived.Test.YtmekcccmnkgodaaGreatDoorFGP2
namespace Go.Proofs.YtmekcccmnkgodaaGreatDoor
open Go.ChangeShapes Go.WideShapes Go.ChangeAt Go.RowKit
set_option linter.unusedVariables false
set_option linter.unusedSimpArgs false
def Pre (a b : List Nd) : Prop := ∃ t, b = a ++ t
theorem Pre.refl (a : List Nd) : Pre a a := ⟨[], by simp⟩
theorem Pre.trans {a b c : List Nd} (h : Pre a b) (k : Pre b c) : Pre a c := by
  obtain ⟨t, rfl⟩ := h
  obtain ⟨u, rfl⟩ := k
  exact ⟨t ++ u, by simp⟩
/-- the nodes from lo up to hi are what lies in these places, one behind the other, each behind its own kids -/
inductive Sg (md : List Nd) : Nat → Nat → List Nat → Prop
  | nil (lo : Nat) : Sg md lo lo []
  | cons {lo k hi : Nat} {d : Nd} {ks : List Nat} (hd : md[k]? = some d) (hk : Sg md lo k d.kids) (hr : Sg md (k + 1) hi ks) : Sg md lo hi (k :: ks)
theorem Sg.mono {a b : List Nd} {lo hi : Nat} {l : List Nat} (h : Sg a lo hi l) (hp : Pre a b) : Sg b lo hi l := by
  obtain ⟨t, rfl⟩ := hp
  induction h with
  | nil lo => exact .nil lo
  | cons hd _ _ ih1 ih2 =>
    have := (List.getElem?_eq_some_iff.1 hd).1
    exact .cons (by rw [List.getElem?_append_left this]; exact hd) ih1 ih2
theorem Sg.append {a : List Nd} {lo mid hi : Nat} {l m : List Nat} (h : Sg a lo mid l) (k : Sg a mid hi m) : Sg a lo hi (l ++ m) := by
  induction h with
  | nil lo => exact k
  | cons hd h1 _ _ ih2 => exact .cons hd h1 (ih2 k)
theorem Sg.add {a : List Nd} {lo : Nat} (d : Nd) (h : Sg a lo a.length d.kids) : Sg (a ++ [d]) lo (a ++ [d]).length [a.length] := by
  rw [List.length_append]
  exact .cons (by simp) (h.mono ⟨[d], rfl⟩) (.nil _)
theorem take_md {X : Nat → Tk} {n : Nat} {k : Int} {s s1 : St} {t : Tk} (h : take X n k s = .ok s1 t) : s1.md = s.md := by obtain ⟨_, _, rfl, _⟩ := take_ok h; rfl
theorem enter_md {X : Nat → Tk} {n : Nat} {k : Int} {s s1 : St} {t : Tk} (h : enter X n k s = .ok s1 t) : s1.md = s.md := by obtain ⟨_, _, _, rfl, _⟩ := enter_ok h; rfl
theorem leave_md {X : Nat → Tk} {n : Nat} {k : Int} {s s1 : St} {t : Unit} (h : leave X n k s = .ok s1 t) : s1.md = s.md := by
  unfold leave at h
  obtain ⟨s2, a, h1, h2⟩ := bind_ok h
  obtain ⟨_, _, rfl, _⟩ := take_ok h1
  injection h2 with e1 e2
  subst e1
  rfl
theorem add_md {t : Tk} {kind : Int} {name : Bs} {num : Nat} {op : Int} {kids : List Nat} {s s1 : St} {v : List Nat} (h : add t kind name num op kids s = .ok s1 v) : s1.md = s.md ++ [⟨kind, name, num, op, kids, t.line, t.col⟩] ∧ v = [s.md.length] := by
  unfold add at h
  injection h with e1 e2
  subst e1 e2
  exact ⟨rfl, rfl⟩
def Mt.init : Mt → List Nat
  | .binL _ left => [left]
  | .kindsL l => l
  | .memL l => l
  | .givesL l => l
  | .blockL l => l
  | .sceneL l => l
  | _ => []
def Mt.pl : Mt → Bool
  | .index => false
  | .kindsL _ => false
  | .memL _ => false
  | .gives => false
  | .givesL _ => false
  | .blockL _ => false
  | _ => true
theorem sg (X : Nat → Tk) (n : Nat) : ∀ (f : Nat) (m : Mt) (s s' : St) (v : List Nat), P X n f m s = .ok s' v → Pre s.md s'.md ∧ (m.pl = true → v = [hd v]) ∧ ∀ lo, Sg s.md lo s.md.length m.init → Sg s'.md lo s'.md.length v := by
  intro f
  induction f with
  | zero => intro m s s' v h; cases h
  | succ f ih =>
    intro m s s' v h
    cases m with
    | bin st =>
      rw [P_bin] at h
      have E0 := Pre.refl s.md
      have H0' := fun lo (H0 : Sg s.md lo s.md.length []) => H0
      split at h
      · obtain ⟨e9, g9, k9⟩ := ih _ _ _ _ h
        refine ⟨E0.trans e9, (fun h => g9 rfl), fun lo H0 => k9 lo ?_⟩
        have H9 := H0' lo H0
        first | exact H9 | simpa using H9
      · obtain ⟨s1, a1, h1, h⟩ := bind_ok h
        obtain ⟨e1, g1, k1⟩ := ih _ _ _ _ h1
        have E1 := E0.trans e1
        have v1 := g1 rfl
        have H1 := fun lo (H0 : Sg s.md lo s.md.length []) => ((H0' lo H0).mono e1).append (k1 _ (Sg.nil _))
        rw [v1] at H1
        obtain ⟨e9, g9, k9⟩ := ih _ _ _ _ h
        refine ⟨E1.trans e9, (fun h => g9 rfl), fun lo H0 => k9 lo ?_⟩
        have H9 := H1 lo H0
        first | exact H9 | simpa using H9
    | binL st left =>
      rw [P_binL] at h
      have E0 := Pre.refl s.md
      have H0' := fun lo (H0 : Sg s.md lo s.md.length [left]) => H0
      split at h
      · obtain ⟨s1, a1, h1, h⟩ := bind_ok h
        have m1 := take_md h1
        have E1 : Pre s.md s1.md := by rw [m1]; exact E0
        have H1 := fun lo (H0 : Sg s.md lo s.md.length [left]) => (show Sg s1.md lo s1.md.length _ from by rw [m1]; exact H0' lo H0)
        obtain ⟨s2, a2, h2, h⟩ := bind_ok h
        obtain ⟨e2, g2, k2⟩ := ih _ _ _ _ h2
        have E2 := E1.trans e2
        have v2 := g2 rfl
        have H2 := fun lo (H0 : Sg s.md lo s.md.length [left]) => ((H1 lo H0).mono e2).append (k2 _ (Sg.nil _))
        rw [v2] at H2
        obtain ⟨s3, a3, h3, h⟩ := bind_ok h
        obtain ⟨m3, n3⟩ := add_md h3
        have E3 : Pre s.md s3.md := by rw [m3]; exact E2.trans ⟨_, rfl⟩
        have H3 := fun lo (H0 : Sg s.md lo s.md.length [left]) => (show Sg s3.md lo s3.md.length a3 from by have H9 := H2 lo H0; rw [m3, n3]; refine Sg.add _ ?_; first | exact H9 | simpa using H9)
        have v3 : a3 = [hd a3] := by rw [n3]; rfl
        rw [v3] at H3
        split at h
        · injection h with e1 e2
          subst e1 e2
          refine ⟨E3, (fun _ => by first | rfl | assumption), fun lo H0 => ?_⟩
          have H9 := H3 lo H0
          first | exact H9 | simpa using H9 | (rw [v3]; simpa using H9)
        · obtain ⟨e9, g9, k9⟩ := ih _ _ _ _ h
          refine ⟨E3.trans e9, (fun h => g9 rfl), fun lo H0 => k9 lo ?_⟩
          have H9 := H3 lo H0
          first | exact H9 | simpa using H9
      · injection h with e1 e2
        subst e1 e2
        refine ⟨E0, (fun _ => by first | rfl | assumption), fun lo H0 => ?_⟩
        have H9 := H0' lo H0
        first | exact H9 | simpa using H9 | (rw [List.append_nil]; simpa using H9)
    | una =>
      rw [P_una] at h
      have E0 := Pre.refl s.md
      have H0' := fun lo (H0 : Sg s.md lo s.md.length []) => H0
      split at h
      · obtain ⟨s1, a1, h1, h⟩ := bind_ok h
        have m1 := enter_md h1
        have E1 : Pre s.md s1.md := by rw [m1]; exact E0
        have H1 := fun lo (H0 : Sg s.md lo s.md.length []) => (show Sg s1.md lo s1.md.length _ from by rw [m1]; exact H0' lo H0)
        obtain ⟨s2, a2, h2, h⟩ := bind_ok h
        obtain ⟨e2, g2, k2⟩ := ih _ _ _ _ h2
        have E2 := E1.trans e2
        have v2 := g2 rfl
        have H2 := fun lo (H0 : Sg s.md lo s.md.length []) => ((H1 lo H0).mono e2).append (k2 _ (Sg.nil _))
        rw [v2] at H2
        obtain ⟨e1, e2⟩ := add_md h
        try dsimp only at e1 e2
        refine ⟨by rw [e1]; exact E2.trans ⟨_, rfl⟩, fun _ => by rw [e2]; rfl, fun lo H0 => ?_⟩
        have H9 := H2 lo H0
        rw [e1, e2]
        refine Sg.add _ ?_
        first | exact H9 | simpa using H9
      · obtain ⟨e9, g9, k9⟩ := ih _ _ _ _ h
        refine ⟨E0.trans e9, (fun h => g9 rfl), fun lo H0 => k9 lo ?_⟩
        have H9 := H0' lo H0
        first | exact H9 | simpa using H9
    | atom =>
      rw [P_atom] at h
      have E0 := Pre.refl s.md
      have H0' := fun lo (H0 : Sg s.md lo s.md.length []) => H0
      split at h
      · obtain ⟨s1, a1, h1, h⟩ := bind_ok h
        have m1 := take_md h1
        have E1 : Pre s.md s1.md := by rw [m1]; exact E0
        have H1 := fun lo (H0 : Sg s.md lo s.md.length []) => (show Sg s1.md lo s1.md.length _ from by rw [m1]; exact H0' lo H0)
        obtain ⟨e1, e2⟩ := add_md h
        try dsimp only at e1 e2
        refine ⟨by rw [e1]; exact E1.trans ⟨_, rfl⟩, fun _ => by rw [e2]; rfl, fun lo H0 => ?_⟩
        have H9 := H1 lo H0
        rw [e1, e2]
        refine Sg.add _ ?_
        first | exact H9 | simpa using H9
      · split at h
        · obtain ⟨e9, g9, k9⟩ := ih _ _ _ _ h
          refine ⟨E0.trans e9, (fun h => g9 rfl), fun lo H0 => k9 lo ?_⟩
          have H9 := H0' lo H0
          first | exact H9 | simpa using H9
        · split at h
          · obtain ⟨s1, a1, h1, h⟩ := bind_ok h
            have m1 := take_md h1
            have E1 : Pre s.md s1.md := by rw [m1]; exact E0
            have H1 := fun lo (H0 : Sg s.md lo s.md.length []) => (show Sg s1.md lo s1.md.length _ from by rw [m1]; exact H0' lo H0)
            obtain ⟨e1, e2⟩ := add_md h
            try dsimp only at e1 e2
            refine ⟨by rw [e1]; exact E1.trans ⟨_, rfl⟩, fun _ => by rw [e2]; rfl, fun lo H0 => ?_⟩
            have H9 := H1 lo H0
            rw [e1, e2]
            refine Sg.add _ ?_
            first | exact H9 | simpa using H9
          · split at h
            · obtain ⟨s1, a1, h1, h⟩ := bind_ok h
              have m1 := take_md h1
              have E1 : Pre s.md s1.md := by rw [m1]; exact E0
              have H1 := fun lo (H0 : Sg s.md lo s.md.length []) => (show Sg s1.md lo s1.md.length _ from by rw [m1]; exact H0' lo H0)
              obtain ⟨e1, e2⟩ := add_md h
              try dsimp only at e1 e2
              refine ⟨by rw [e1]; exact E1.trans ⟨_, rfl⟩, fun _ => by rw [e2]; rfl, fun lo H0 => ?_⟩
              have H9 := H1 lo H0
              rw [e1, e2]
              refine Sg.add _ ?_
              first | exact H9 | simpa using H9
            · split at h
              · obtain ⟨s1, a1, h1, h⟩ := bind_ok h
                have m1 := take_md h1
                have E1 : Pre s.md s1.md := by rw [m1]; exact E0
                have H1 := fun lo (H0 : Sg s.md lo s.md.length []) => (show Sg s1.md lo s1.md.length _ from by rw [m1]; exact H0' lo H0)
                obtain ⟨e1, e2⟩ := add_md h
                try dsimp only at e1 e2
                refine ⟨by rw [e1]; exact E1.trans ⟨_, rfl⟩, fun _ => by rw [e2]; rfl, fun lo H0 => ?_⟩
                have H9 := H1 lo H0
                rw [e1, e2]
                refine Sg.add _ ?_
                first | exact H9 | simpa using H9
              · split at h
                · obtain ⟨e9, g9, k9⟩ := ih _ _ _ _ h
                  refine ⟨E0.trans e9, (fun h => g9 rfl), fun lo H0 => k9 lo ?_⟩
                  have H9 := H0' lo H0
                  first | exact H9 | simpa using H9
                · split at h
                  · obtain ⟨e9, g9, k9⟩ := ih _ _ _ _ h
                    refine ⟨E0.trans e9, (fun h => g9 rfl), fun lo H0 => k9 lo ?_⟩
                    have H9 := H0' lo H0
                    first | exact H9 | simpa using H9
                  · split at h
                    · obtain ⟨e9, g9, k9⟩ := ih _ _ _ _ h
                      refine ⟨E0.trans e9, (fun h => g9 rfl), fun lo H0 => k9 lo ?_⟩
                      have H9 := H0' lo H0
                      first | exact H9 | simpa using H9
                    · split at h
                      · obtain ⟨e9, g9, k9⟩ := ih _ _ _ _ h
                        refine ⟨E0.trans e9, (fun h => g9 rfl), fun lo H0 => k9 lo ?_⟩
                        have H9 := H0' lo H0
                        first | exact H9 | simpa using H9
                      · split at h
                        · obtain ⟨e9, g9, k9⟩ := ih _ _ _ _ h
                          refine ⟨E0.trans e9, (fun h => g9 rfl), fun lo H0 => k9 lo ?_⟩
                          have H9 := H0' lo H0
                          first | exact H9 | simpa using H9
                        · cases h
    | named =>
      rw [P_named] at h
      have E0 := Pre.refl s.md
      have H0' := fun lo (H0 : Sg s.md lo s.md.length []) => H0
      obtain ⟨s1, a1, h1, h⟩ := bind_ok h
      have m1 := take_md h1
      have E1 : Pre s.md s1.md := by rw [m1]; exact E0
      have H1 := fun lo (H0 : Sg s.md lo s.md.length []) => (show Sg s1.md lo s1.md.length _ from by rw [m1]; exact H0' lo H0)
      obtain ⟨s2, a2, h2, h⟩ := bind_ok h
      obtain ⟨e2, g2, k2⟩ := ih _ _ _ _ h2
      have E2 := E1.trans e2
      have H2 := fun lo (H0 : Sg s.md lo s.md.length []) => ((H1 lo H0).mono e2).append (k2 _ (Sg.nil _))
      obtain ⟨e1, e2⟩ := add_md h
      try dsimp only at e1 e2
      refine ⟨by rw [e1]; exact E2.trans ⟨_, rfl⟩, fun _ => by rw [e2]; rfl, fun lo H0 => ?_⟩
      have H9 := H2 lo H0
      rw [e1, e2]
      refine Sg.add _ ?_
      first | exact H9 | simpa using H9
    | throw q =>
      rw [P_throw] at h
      have E0 := Pre.refl s.md
      have H0' := fun lo (H0 : Sg s.md lo s.md.length []) => H0
      obtain ⟨s1, a1, h1, h⟩ := bind_ok h
      have m1 := take_md h1
      have E1 : Pre s.md s1.md := by rw [m1]; exact E0
      have H1 := fun lo (H0 : Sg s.md lo s.md.length []) => (show Sg s1.md lo s1.md.length _ from by rw [m1]; exact H0' lo H0)
      obtain ⟨s2, a2, h2, h⟩ := bind_ok h
      obtain ⟨e2, g2, k2⟩ := ih _ _ _ _ h2
      have E2 := E1.trans e2
      have v2 := g2 rfl
      have H2 := fun lo (H0 : Sg s.md lo s.md.length []) => ((H1 lo H0).mono e2).append (k2 _ (Sg.nil _))
      rw [v2] at H2
      obtain ⟨e1, e2⟩ := add_md h
      try dsimp only at e1 e2
      refine ⟨by rw [e1]; exact E2.trans ⟨_, rfl⟩, fun _ => by rw [e2]; rfl, fun lo H0 => ?_⟩
      have H9 := H2 lo H0
      rw [e1, e2]
      refine Sg.add _ ?_
      first | exact H9 | simpa using H9
    | choice q =>
      rw [P_choice] at h
      have E0 := Pre.refl s.md
      have H0' := fun lo (H0 : Sg s.md lo s.md.length []) => H0
      obtain ⟨s1, a1, h1, h⟩ := bind_ok h
      have m1 := take_md h1
      have E1 : Pre s.md s1.md := by rw [m1]; exact E0
      have H1 := fun lo (H0 : Sg s.md lo s.md.length []) => (show Sg s1.md lo s1.md.length _ from by rw [m1]; exact H0' lo H0)
      obtain ⟨s2, a2, h2, h⟩ := bind_ok h
      have m2 := enter_md h2
      have E2 : Pre s.md s2.md := by rw [m2]; exact E1
      have H2 := fun lo (H0 : Sg s.md lo s.md.length []) => (show Sg s2.md lo s2.md.length _ from by rw [m2]; exact H1 lo H0)
      obtain ⟨s3, a3, h3, h⟩ := bind_ok h
      obtain ⟨e3, g3, k3⟩ := ih _ _ _ _ h3
      have E3 := E2.trans e3
      have v3 := g3 rfl
      have H3 := fun lo (H0 : Sg s.md lo s.md.length []) => ((H2 lo H0).mono e3).append (k3 _ (Sg.nil _))
      rw [v3] at H3
      obtain ⟨s4, a4, h4, h⟩ := bind_ok h
      have m4 := take_md h4
      have E4 : Pre s.md s4.md := by rw [m4]; exact E3
      have H4 := fun lo (H0 : Sg s.md lo s.md.length []) => (show Sg s4.md lo s4.md.length _ from by rw [m4]; exact H3 lo H0)
      obtain ⟨s5, a5, h5, h⟩ := bind_ok h
      obtain ⟨e5, g5, k5⟩ := ih _ _ _ _ h5
      have E5 := E4.trans e5
      have v5 := g5 rfl
      have H5 := fun lo (H0 : Sg s.md lo s.md.length []) => ((H4 lo H0).mono e5).append (k5 _ (Sg.nil _))
      rw [v5] at H5
      obtain ⟨s6, a6, h6, h⟩ := bind_ok h
      have m6 := leave_md h6
      have E6 : Pre s.md s6.md := by rw [m6]; exact E5
      have H6 := fun lo (H0 : Sg s.md lo s.md.length []) => (show Sg s6.md lo s6.md.length _ from by rw [m6]; exact H5 lo H0)
      obtain ⟨e1, e2⟩ := add_md h
      try dsimp only at e1 e2
      refine ⟨by rw [e1]; exact E6.trans ⟨_, rfl⟩, fun _ => by rw [e2]; rfl, fun lo H0 => ?_⟩
      have H9 := H6 lo H0
      rw [e1, e2]
      refine Sg.add _ ?_
      first | exact H9 | simpa using H9
    | brack =>
      rw [P_brack] at h
      have E0 := Pre.refl s.md
      have H0' := fun lo (H0 : Sg s.md lo s.md.length []) => H0
      obtain ⟨s1, a1, h1, h⟩ := bind_ok h
      have m1 := enter_md h1
      have E1 : Pre s.md s1.md := by rw [m1]; exact E0
      have H1 := fun lo (H0 : Sg s.md lo s.md.length []) => (show Sg s1.md lo s1.md.length _ from by rw [m1]; exact H0' lo H0)
      obtain ⟨s2, a2, h2, h⟩ := bind_ok h
      obtain ⟨e2, g2, k2⟩ := ih _ _ _ _ h2
      have E2 := E1.trans e2
      have v2 := g2 rfl
      have H2 := fun lo (H0 : Sg s.md lo s.md.length []) => ((H1 lo H0).mono e2).append (k2 _ (Sg.nil _))
      rw [v2] at H2
      obtain ⟨s3, a3, h3, h⟩ := bind_ok h
      have m3 := leave_md h3
      have E3 : Pre s.md s3.md := by rw [m3]; exact E2
      have H3 := fun lo (H0 : Sg s.md lo s.md.length []) => (show Sg s3.md lo s3.md.length _ from by rw [m3]; exact H2 lo H0)
      injection h with e1 e2
      subst e1 e2
      refine ⟨E3, (fun _ => by first | rfl | assumption), fun lo H0 => ?_⟩
      have H9 := H3 lo H0
      first | exact H9 | simpa using H9 | (rw [v2]; simpa using H9)
    | index =>
      rw [P_index] at h
      have E0 := Pre.refl s.md
      have H0' := fun lo (H0 : Sg s.md lo s.md.length []) => H0
      split at h
      · obtain ⟨s1, a1, h1, h⟩ := bind_ok h
        have m1 := enter_md h1
        have E1 : Pre s.md s1.md := by rw [m1]; exact E0
        have H1 := fun lo (H0 : Sg s.md lo s.md.length []) => (show Sg s1.md lo s1.md.length _ from by rw [m1]; exact H0' lo H0)
        obtain ⟨s2, a2, h2, h⟩ := bind_ok h
        obtain ⟨e2, g2, k2⟩ := ih _ _ _ _ h2
        have E2 := E1.trans e2
        have v2 := g2 rfl
        have H2 := fun lo (H0 : Sg s.md lo s.md.length []) => ((H1 lo H0).mono e2).append (k2 _ (Sg.nil _))
        rw [v2] at H2
        obtain ⟨s3, a3, h3, h⟩ := bind_ok h
        have m3 := leave_md h3
        have E3 : Pre s.md s3.md := by rw [m3]; exact E2
        have H3 := fun lo (H0 : Sg s.md lo s.md.length []) => (show Sg s3.md lo s3.md.length _ from by rw [m3]; exact H2 lo H0)
        injection h with e1 e2
        subst e1 e2
        refine ⟨E3, (fun h => by cases h), fun lo H0 => ?_⟩
        have H9 := H3 lo H0
        first | exact H9 | simpa using H9 | (rw [v2]; simpa using H9)
      · injection h with e1 e2
        subst e1 e2
        refine ⟨E0, (fun h => by cases h), fun lo H0 => ?_⟩
        have H9 := H0' lo H0
        first | exact H9 | simpa using H9 | (rw [List.append_nil]; simpa using H9)
    | value =>
      rw [P_value] at h
      have E0 := Pre.refl s.md
      have H0' := fun lo (H0 : Sg s.md lo s.md.length []) => H0
      obtain ⟨s1, a1, h1, h⟩ := bind_ok h
      have m1 := take_md h1
      have E1 : Pre s.md s1.md := by rw [m1]; exact E0
      have H1 := fun lo (H0 : Sg s.md lo s.md.length []) => (show Sg s1.md lo s1.md.length _ from by rw [m1]; exact H0' lo H0)
      obtain ⟨e9, g9, k9⟩ := ih _ _ _ _ h
      refine ⟨E1.trans e9, (fun h => g9 rfl), fun lo H0 => k9 lo ?_⟩
      have H9 := H1 lo H0
      first | exact H9 | simpa using H9
    | name q =>
      rw [P_name] at h
      have E0 := Pre.refl s.md
      have H0' := fun lo (H0 : Sg s.md lo s.md.length []) => H0
      obtain ⟨s1, a1, h1, h⟩ := bind_ok h
      have m1 := take_md h1
      have E1 : Pre s.md s1.md := by rw [m1]; exact E0
      have H1 := fun lo (H0 : Sg s.md lo s.md.length []) => (show Sg s1.md lo s1.md.length _ from by rw [m1]; exact H0' lo H0)
      obtain ⟨e1, e2⟩ := add_md h
      try dsimp only at e1 e2
      refine ⟨by rw [e1]; exact E1.trans ⟨_, rfl⟩, fun _ => by rw [e2]; rfl, fun lo H0 => ?_⟩
      have H9 := H1 lo H0
      rw [e1, e2]
      refine Sg.add _ ?_
      first | exact H9 | simpa using H9
    | scene =>
      rw [P_scene] at h
      have E0 := Pre.refl s.md
      have H0' := fun lo (H0 : Sg s.md lo s.md.length []) => H0
      obtain ⟨e9, g9, k9⟩ := ih _ _ _ _ h
      refine ⟨E0.trans e9, (fun h => g9 rfl), fun lo H0 => k9 lo ?_⟩
      have H9 := H0' lo H0
      first | exact H9 | simpa using H9
    | sceneL l =>
      rw [P_sceneL] at h
      have E0 := Pre.refl s.md
      have H0' := fun lo (H0 : Sg s.md lo s.md.length l) => H0
      split at h
      · obtain ⟨s1, a1, h1, h⟩ := bind_ok h
        obtain ⟨e1, g1, k1⟩ := ih _ _ _ _ h1
        have E1 := E0.trans e1
        have v1 := g1 rfl
        have H1 := fun lo (H0 : Sg s.md lo s.md.length l) => ((H0' lo H0).mono e1).append (k1 _ (Sg.nil _))
        rw [v1] at H1
        obtain ⟨e9, g9, k9⟩ := ih _ _ _ _ h
        refine ⟨E1.trans e9, (fun h => g9 rfl), fun lo H0 => k9 lo ?_⟩
        have H9 := H1 lo H0
        first | exact H9 | simpa using H9
      · obtain ⟨e1, e2⟩ := add_md h
        try dsimp only at e1 e2
        refine ⟨by rw [e1]; exact E0.trans ⟨_, rfl⟩, fun _ => by rw [e2]; rfl, fun lo H0 => ?_⟩
        have H9 := H0' lo H0
        rw [e1, e2]
        refine Sg.add _ ?_
        first | exact H9 | simpa using H9
    | item =>
      rw [P_item] at h
      have E0 := Pre.refl s.md
      have H0' := fun lo (H0 : Sg s.md lo s.md.length []) => H0
      split at h
      · obtain ⟨e9, g9, k9⟩ := ih _ _ _ _ h
        refine ⟨E0.trans e9, (fun h => g9 rfl), fun lo H0 => k9 lo ?_⟩
        have H9 := H0' lo H0
        first | exact H9 | simpa using H9
      · split at h
        · obtain ⟨e9, g9, k9⟩ := ih _ _ _ _ h
          refine ⟨E0.trans e9, (fun h => g9 rfl), fun lo H0 => k9 lo ?_⟩
          have H9 := H0' lo H0
          first | exact H9 | simpa using H9
        · split at h
          · obtain ⟨e9, g9, k9⟩ := ih _ _ _ _ h
            refine ⟨E0.trans e9, (fun h => g9 rfl), fun lo H0 => k9 lo ?_⟩
            have H9 := H0' lo H0
            first | exact H9 | simpa using H9
          · split at h
            · obtain ⟨e9, g9, k9⟩ := ih _ _ _ _ h
              refine ⟨E0.trans e9, (fun h => g9 rfl), fun lo H0 => k9 lo ?_⟩
              have H9 := H0' lo H0
              first | exact H9 | simpa using H9
            · split at h
              · obtain ⟨e9, g9, k9⟩ := ih _ _ _ _ h
                refine ⟨E0.trans e9, (fun h => g9 rfl), fun lo H0 => k9 lo ?_⟩
                have H9 := H0' lo H0
                first | exact H9 | simpa using H9
              · split at h
                · obtain ⟨e9, g9, k9⟩ := ih _ _ _ _ h
                  refine ⟨E0.trans e9, (fun h => g9 rfl), fun lo H0 => k9 lo ?_⟩
                  have H9 := H0' lo H0
                  first | exact H9 | simpa using H9
                · cases h
    | setting =>
      rw [P_setting] at h
      have E0 := Pre.refl s.md
      have H0' := fun lo (H0 : Sg s.md lo s.md.length []) => H0
      obtain ⟨s1, a1, h1, h⟩ := bind_ok h
      have m1 := take_md h1
      have E1 : Pre s.md s1.md := by rw [m1]; exact E0
      have H1 := fun lo (H0 : Sg s.md lo s.md.length []) => (show Sg s1.md lo s1.md.length _ from by rw [m1]; exact H0' lo H0)
      obtain ⟨s2, a2, h2, h⟩ := bind_ok h
      have m2 := take_md h2
      have E2 : Pre s.md s2.md := by rw [m2]; exact E1
      have H2 := fun lo (H0 : Sg s.md lo s.md.length []) => (show Sg s2.md lo s2.md.length _ from by rw [m2]; exact H1 lo H0)
      obtain ⟨e1, e2⟩ := add_md h
      try dsimp only at e1 e2
      refine ⟨by rw [e1]; exact E2.trans ⟨_, rfl⟩, fun _ => by rw [e2]; rfl, fun lo H0 => ?_⟩
      have H9 := H2 lo H0
      rw [e1, e2]
      refine Sg.add _ ?_
      first | exact H9 | simpa using H9
    | constant =>
      rw [P_constant] at h
      have E0 := Pre.refl s.md
      have H0' := fun lo (H0 : Sg s.md lo s.md.length []) => H0
      obtain ⟨s1, a1, h1, h⟩ := bind_ok h
      have m1 := take_md h1
      have E1 : Pre s.md s1.md := by rw [m1]; exact E0
      have H1 := fun lo (H0 : Sg s.md lo s.md.length []) => (show Sg s1.md lo s1.md.length _ from by rw [m1]; exact H0' lo H0)
      obtain ⟨s2, a2, h2, h⟩ := bind_ok h
      have m2 := take_md h2
      have E2 : Pre s.md s2.md := by rw [m2]; exact E1
      have H2 := fun lo (H0 : Sg s.md lo s.md.length []) => (show Sg s2.md lo s2.md.length _ from by rw [m2]; exact H1 lo H0)
      obtain ⟨s3, a3, h3, h⟩ := bind_ok h
      obtain ⟨e3, g3, k3⟩ := ih _ _ _ _ h3
      have E3 := E2.trans e3
      have v3 := g3 rfl
      have H3 := fun lo (H0 : Sg s.md lo s.md.length []) => ((H2 lo H0).mono e3).append (k3 _ (Sg.nil _))
      rw [v3] at H3
      obtain ⟨e1, e2⟩ := add_md h
      try dsimp only at e1 e2
      refine ⟨by rw [e1]; exact E3.trans ⟨_, rfl⟩, fun _ => by rw [e2]; rfl, fun lo H0 => ?_⟩
      have H9 := H3 lo H0
      rw [e1, e2]
      refine Sg.add _ ?_
      first | exact H9 | simpa using H9
    | kinds =>
      rw [P_kinds] at h
      have E0 := Pre.refl s.md
      have H0' := fun lo (H0 : Sg s.md lo s.md.length []) => H0
      obtain ⟨s1, a1, h1, h⟩ := bind_ok h
      have m1 := take_md h1
      have E1 : Pre s.md s1.md := by rw [m1]; exact E0
      have H1 := fun lo (H0 : Sg s.md lo s.md.length []) => (show Sg s1.md lo s1.md.length _ from by rw [m1]; exact H0' lo H0)
      obtain ⟨s2, a2, h2, h⟩ := bind_ok h
      obtain ⟨e2, g2, k2⟩ := ih _ _ _ _ h2
      have E2 := E1.trans e2
      have v2 := g2 rfl
      have H2 := fun lo (H0 : Sg s.md lo s.md.length []) => ((H1 lo H0).mono e2).append (k2 _ (Sg.nil _))
      rw [v2] at H2
      obtain ⟨s3, a3, h3, h⟩ := bind_ok h
      obtain ⟨e3, g3, k3⟩ := ih _ _ _ _ h3
      have E3 := E2.trans e3
      have H3 := fun lo (H0 : Sg s.md lo s.md.length []) => k3 lo (show Sg s2.md lo s2.md.length _ from H2 lo H0)
      obtain ⟨e1, e2⟩ := add_md h
      try dsimp only at e1 e2
      refine ⟨by rw [e1]; exact E3.trans ⟨_, rfl⟩, fun _ => by rw [e2]; rfl, fun lo H0 => ?_⟩
      have H9 := H3 lo H0
      rw [e1, e2]
      refine Sg.add _ ?_
      first | exact H9 | simpa using H9
    | kindsL l =>
      rw [P_kindsL] at h
      have E0 := Pre.refl s.md
      have H0' := fun lo (H0 : Sg s.md lo s.md.length l) => H0
      split at h
      · obtain ⟨s1, a1, h1, h⟩ := bind_ok h
        have m1 := take_md h1
        have E1 : Pre s.md s1.md := by rw [m1]; exact E0
        have H1 := fun lo (H0 : Sg s.md lo s.md.length l) => (show Sg s1.md lo s1.md.length _ from by rw [m1]; exact H0' lo H0)
        obtain ⟨s2, a2, h2, h⟩ := bind_ok h
        obtain ⟨e2, g2, k2⟩ := ih _ _ _ _ h2
        have E2 := E1.trans e2
        have v2 := g2 rfl
        have H2 := fun lo (H0 : Sg s.md lo s.md.length l) => ((H1 lo H0).mono e2).append (k2 _ (Sg.nil _))
        rw [v2] at H2
        obtain ⟨e9, g9, k9⟩ := ih _ _ _ _ h
        refine ⟨E2.trans e9, (fun h => by cases h), fun lo H0 => k9 lo ?_⟩
        have H9 := H2 lo H0
        first | exact H9 | simpa using H9
      · injection h with e1 e2
        subst e1 e2
        refine ⟨E0, (fun h => by cases h), fun lo H0 => ?_⟩
        have H9 := H0' lo H0
        first | exact H9 | simpa using H9 | (rw [List.append_nil]; simpa using H9)
    | ptype =>
      rw [P_ptype] at h
      have E0 := Pre.refl s.md
      have H0' := fun lo (H0 : Sg s.md lo s.md.length []) => H0
      obtain ⟨s1, a1, h1, h⟩ := bind_ok h
      have m1 := take_md h1
      have E1 : Pre s.md s1.md := by rw [m1]; exact E0
      have H1 := fun lo (H0 : Sg s.md lo s.md.length []) => (show Sg s1.md lo s1.md.length _ from by rw [m1]; exact H0' lo H0)
      obtain ⟨s2, a2, h2, h⟩ := bind_ok h
      have m2 := take_md h2
      have E2 : Pre s.md s2.md := by rw [m2]; exact E1
      have H2 := fun lo (H0 : Sg s.md lo s.md.length []) => (show Sg s2.md lo s2.md.length _ from by rw [m2]; exact H1 lo H0)
      obtain ⟨s3, a3, h3, h⟩ := bind_ok h
      have m3 := enter_md h3
      have E3 : Pre s.md s3.md := by rw [m3]; exact E2
      have H3 := fun lo (H0 : Sg s.md lo s.md.length []) => (show Sg s3.md lo s3.md.length _ from by rw [m3]; exact H2 lo H0)
      obtain ⟨s4, a4, h4, h⟩ := bind_ok h
      obtain ⟨e4, g4, k4⟩ := ih _ _ _ _ h4
      have E4 := E3.trans e4
      have H4 := fun lo (H0 : Sg s.md lo s.md.length []) => k4 lo (show Sg s3.md lo s3.md.length _ from H3 lo H0)
      obtain ⟨s5, a5, h5, h⟩ := bind_ok h
      have m5 := leave_md h5
      have E5 : Pre s.md s5.md := by rw [m5]; exact E4
      have H5 := fun lo (H0 : Sg s.md lo s.md.length []) => (show Sg s5.md lo s5.md.length _ from by rw [m5]; exact H4 lo H0)
      obtain ⟨e1, e2⟩ := add_md h
      try dsimp only at e1 e2
      refine ⟨by rw [e1]; exact E5.trans ⟨_, rfl⟩, fun _ => by rw [e2]; rfl, fun lo H0 => ?_⟩
      have H9 := H5 lo H0
      rw [e1, e2]
      refine Sg.add _ ?_
      first | exact H9 | simpa using H9
    | memL l =>
      rw [P_memL] at h
      have E0 := Pre.refl s.md
      have H0' := fun lo (H0 : Sg s.md lo s.md.length l) => H0
      split at h
      · injection h with e1 e2
        subst e1 e2
        refine ⟨E0, (fun h => by cases h), fun lo H0 => ?_⟩
        have H9 := H0' lo H0
        first | exact H9 | simpa using H9 | (rw [List.append_nil]; simpa using H9)
      · obtain ⟨s1, a1, h1, h⟩ := bind_ok h
        obtain ⟨e1, g1, k1⟩ := ih _ _ _ _ h1
        have E1 := E0.trans e1
        have v1 := g1 rfl
        have H1 := fun lo (H0 : Sg s.md lo s.md.length l) => ((H0' lo H0).mono e1).append (k1 _ (Sg.nil _))
        rw [v1] at H1
        obtain ⟨e9, g9, k9⟩ := ih _ _ _ _ h
        refine ⟨E1.trans e9, (fun h => by cases h), fun lo H0 => k9 lo ?_⟩
        have H9 := H1 lo H0
        first | exact H9 | simpa using H9
    | member =>
      rw [P_member] at h
      have E0 := Pre.refl s.md
      have H0' := fun lo (H0 : Sg s.md lo s.md.length []) => H0
      split at h
      · obtain ⟨e9, g9, k9⟩ := ih _ _ _ _ h
        refine ⟨E0.trans e9, (fun h => g9 rfl), fun lo H0 => k9 lo ?_⟩
        have H9 := H0' lo H0
        first | exact H9 | simpa using H9
      · split at h
        · obtain ⟨e9, g9, k9⟩ := ih _ _ _ _ h
          refine ⟨E0.trans e9, (fun h => g9 rfl), fun lo H0 => k9 lo ?_⟩
          have H9 := H0' lo H0
          first | exact H9 | simpa using H9
        · cases h
    | vari =>
      rw [P_vari] at h
      have E0 := Pre.refl s.md
      have H0' := fun lo (H0 : Sg s.md lo s.md.length []) => H0
      obtain ⟨s1, a1, h1, h⟩ := bind_ok h
      have m1 := take_md h1
      have E1 : Pre s.md s1.md := by rw [m1]; exact E0
      have H1 := fun lo (H0 : Sg s.md lo s.md.length []) => (show Sg s1.md lo s1.md.length _ from by rw [m1]; exact H0' lo H0)
      obtain ⟨s2, a2, h2, h⟩ := bind_ok h
      have m2 := take_md h2
      have E2 : Pre s.md s2.md := by rw [m2]; exact E1
      have H2 := fun lo (H0 : Sg s.md lo s.md.length []) => (show Sg s2.md lo s2.md.length _ from by rw [m2]; exact H1 lo H0)
      obtain ⟨s3, a3, h3, h⟩ := bind_ok h
      obtain ⟨e3, g3, k3⟩ := ih _ _ _ _ h3
      have E3 := E2.trans e3
      have H3 := fun lo (H0 : Sg s.md lo s.md.length []) => ((H2 lo H0).mono e3).append (k3 _ (Sg.nil _))
      split at h
      · obtain ⟨s4, a4, h4, h⟩ := bind_ok h
        obtain ⟨e4, g4, k4⟩ := ih _ _ _ _ h4
        have E4 := E3.trans e4
        have v4 := g4 rfl
        have H4 := fun lo (H0 : Sg s.md lo s.md.length []) => ((H3 lo H0).mono e4).append (k4 _ (Sg.nil _))
        rw [v4] at H4
        obtain ⟨e1, e2⟩ := add_md h
        try dsimp only at e1 e2
        refine ⟨by rw [e1]; exact E4.trans ⟨_, rfl⟩, fun _ => by rw [e2]; rfl, fun lo H0 => ?_⟩
        have H9 := H4 lo H0
        rw [e1, e2]
        refine Sg.add _ ?_
        first | exact H9 | simpa using H9
      · obtain ⟨e1, e2⟩ := add_md h
        try dsimp only at e1 e2
        refine ⟨by rw [e1]; exact E3.trans ⟨_, rfl⟩, fun _ => by rw [e2]; rfl, fun lo H0 => ?_⟩
        have H9 := H3 lo H0
        rw [e1, e2]
        refine Sg.add _ ?_
        first | exact H9 | simpa using H9
    | handler =>
      rw [P_handler] at h
      have E0 := Pre.refl s.md
      have H0' := fun lo (H0 : Sg s.md lo s.md.length []) => H0
      obtain ⟨s1, a1, h1, h⟩ := bind_ok h
      have m1 := take_md h1
      have E1 : Pre s.md s1.md := by rw [m1]; exact E0
      have H1 := fun lo (H0 : Sg s.md lo s.md.length []) => (show Sg s1.md lo s1.md.length _ from by rw [m1]; exact H0' lo H0)
      obtain ⟨s2, a2, h2, h⟩ := bind_ok h
      have m2 := take_md h2
      have E2 : Pre s.md s2.md := by rw [m2]; exact E1
      have H2 := fun lo (H0 : Sg s.md lo s.md.length []) => (show Sg s2.md lo s2.md.length _ from by rw [m2]; exact H1 lo H0)
      obtain ⟨s3, a3, h3, h⟩ := bind_ok h
      have m3 := enter_md h3
      have E3 : Pre s.md s3.md := by rw [m3]; exact E2
      have H3 := fun lo (H0 : Sg s.md lo s.md.length []) => (show Sg s3.md lo s3.md.length _ from by rw [m3]; exact H2 lo H0)
      obtain ⟨s4, a4, h4, h⟩ := bind_ok h
      obtain ⟨e4, g4, k4⟩ := ih _ _ _ _ h4
      have E4 := E3.trans e4
      have v4 := g4 rfl
      have H4 := fun lo (H0 : Sg s.md lo s.md.length []) => ((H3 lo H0).mono e4).append (k4 _ (Sg.nil _))
      rw [v4] at H4
      obtain ⟨s5, a5, h5, h⟩ := bind_ok h
      have m5 := leave_md h5
      have E5 : Pre s.md s5.md := by rw [m5]; exact E4
      have H5 := fun lo (H0 : Sg s.md lo s.md.length []) => (show Sg s5.md lo s5.md.length _ from by rw [m5]; exact H4 lo H0)
      obtain ⟨s6, a6, h6, h⟩ := bind_ok h
      obtain ⟨e6, g6, k6⟩ := ih _ _ _ _ h6
      have E6 := E5.trans e6
      have v6 := g6 rfl
      have H6 := fun lo (H0 : Sg s.md lo s.md.length []) => ((H5 lo H0).mono e6).append (k6 _ (Sg.nil _))
      rw [v6] at H6
      obtain ⟨e1, e2⟩ := add_md h
      try dsimp only at e1 e2
      refine ⟨by rw [e1]; exact E6.trans ⟨_, rfl⟩, fun _ => by rw [e2]; rfl, fun lo H0 => ?_⟩
      have H9 := H6 lo H0
      rw [e1, e2]
      refine Sg.add _ ?_
      first | exact H9 | simpa using H9
    | place =>
      rw [P_place] at h
      have E0 := Pre.refl s.md
      have H0' := fun lo (H0 : Sg s.md lo s.md.length []) => H0
      obtain ⟨s1, a1, h1, h⟩ := bind_ok h
      have m1 := take_md h1
      have E1 : Pre s.md s1.md := by rw [m1]; exact E0
      have H1 := fun lo (H0 : Sg s.md lo s.md.length []) => (show Sg s1.md lo s1.md.length _ from by rw [m1]; exact H0' lo H0)
      obtain ⟨s2, a2, h2, h⟩ := bind_ok h
      have m2 := take_md h2
      have E2 : Pre s.md s2.md := by rw [m2]; exact E1
      have H2 := fun lo (H0 : Sg s.md lo s.md.length []) => (show Sg s2.md lo s2.md.length _ from by rw [m2]; exact H1 lo H0)
      obtain ⟨s3, a3, h3, h⟩ := bind_ok h
      obtain ⟨e3, g3, k3⟩ := ih _ _ _ _ h3
      have E3 := E2.trans e3
      have H3 := fun lo (H0 : Sg s.md lo s.md.length []) => ((H2 lo H0).mono e3).append (k3 _ (Sg.nil _))
      obtain ⟨s4, a4, h4, h⟩ := bind_ok h
      have m4 := take_md h4
      have E4 : Pre s.md s4.md := by rw [m4]; exact E3
      have H4 := fun lo (H0 : Sg s.md lo s.md.length []) => (show Sg s4.md lo s4.md.length _ from by rw [m4]; exact H3 lo H0)
      obtain ⟨s5, a5, h5, h⟩ := bind_ok h
      obtain ⟨e5, g5, k5⟩ := ih _ _ _ _ h5
      have E5 := E4.trans e5
      have v5 := g5 rfl
      have H5 := fun lo (H0 : Sg s.md lo s.md.length []) => ((H4 lo H0).mono e5).append (k5 _ (Sg.nil _))
      rw [v5] at H5
      split at h
      · obtain ⟨s6, a6, h6, h⟩ := bind_ok h
        obtain ⟨e6, g6, k6⟩ := ih _ _ _ _ h6
        have E6 := E5.trans e6
        have H6 := fun lo (H0 : Sg s.md lo s.md.length []) => ((H5 lo H0).mono e6).append (k6 _ (Sg.nil _))
        obtain ⟨e1, e2⟩ := add_md h
        try dsimp only at e1 e2
        refine ⟨by rw [e1]; exact E6.trans ⟨_, rfl⟩, fun _ => by rw [e2]; rfl, fun lo H0 => ?_⟩
        have H9 := H6 lo H0
        rw [e1, e2]
        refine Sg.add _ ?_
        first | exact H9 | simpa using H9
      · obtain ⟨e1, e2⟩ := add_md h
        try dsimp only at e1 e2
        refine ⟨by rw [e1]; exact E5.trans ⟨_, rfl⟩, fun _ => by rw [e2]; rfl, fun lo H0 => ?_⟩
        have H9 := H5 lo H0
        rw [e1, e2]
        refine Sg.add _ ?_
        first | exact H9 | simpa using H9
    | gives =>
      rw [P_gives] at h
      have E0 := Pre.refl s.md
      have H0' := fun lo (H0 : Sg s.md lo s.md.length []) => H0
      obtain ⟨s1, a1, h1, h⟩ := bind_ok h
      have m1 := enter_md h1
      have E1 : Pre s.md s1.md := by rw [m1]; exact E0
      have H1 := fun lo (H0 : Sg s.md lo s.md.length []) => (show Sg s1.md lo s1.md.length _ from by rw [m1]; exact H0' lo H0)
      obtain ⟨s2, a2, h2, h⟩ := bind_ok h
      obtain ⟨e2, g2, k2⟩ := ih _ _ _ _ h2
      have E2 := E1.trans e2
      have v2 := g2 rfl
      have H2 := fun lo (H0 : Sg s.md lo s.md.length []) => ((H1 lo H0).mono e2).append (k2 _ (Sg.nil _))
      rw [v2] at H2
      obtain ⟨s3, a3, h3, h⟩ := bind_ok h
      obtain ⟨e3, g3, k3⟩ := ih _ _ _ _ h3
      have E3 := E2.trans e3
      have H3 := fun lo (H0 : Sg s.md lo s.md.length []) => k3 lo (show Sg s2.md lo s2.md.length _ from H2 lo H0)
      obtain ⟨s4, a4, h4, h⟩ := bind_ok h
      have m4 := leave_md h4
      have E4 : Pre s.md s4.md := by rw [m4]; exact E3
      have H4 := fun lo (H0 : Sg s.md lo s.md.length []) => (show Sg s4.md lo s4.md.length _ from by rw [m4]; exact H3 lo H0)
      injection h with e1 e2
      subst e1 e2
      refine ⟨E4, (fun h => by cases h), fun lo H0 => ?_⟩
      have H9 := H4 lo H0
      first | exact H9 | simpa using H9 | (rw [v2]; simpa using H9)
    | givesL l =>
      rw [P_givesL] at h
      have E0 := Pre.refl s.md
      have H0' := fun lo (H0 : Sg s.md lo s.md.length l) => H0
      split at h
      · obtain ⟨s1, a1, h1, h⟩ := bind_ok h
        have m1 := take_md h1
        have E1 : Pre s.md s1.md := by rw [m1]; exact E0
        have H1 := fun lo (H0 : Sg s.md lo s.md.length l) => (show Sg s1.md lo s1.md.length _ from by rw [m1]; exact H0' lo H0)
        obtain ⟨s2, a2, h2, h⟩ := bind_ok h
        obtain ⟨e2, g2, k2⟩ := ih _ _ _ _ h2
        have E2 := E1.trans e2
        have v2 := g2 rfl
        have H2 := fun lo (H0 : Sg s.md lo s.md.length l) => ((H1 lo H0).mono e2).append (k2 _ (Sg.nil _))
        rw [v2] at H2
        obtain ⟨e9, g9, k9⟩ := ih _ _ _ _ h
        refine ⟨E2.trans e9, (fun h => by cases h), fun lo H0 => k9 lo ?_⟩
        have H9 := H2 lo H0
        first | exact H9 | simpa using H9
      · injection h with e1 e2
        subst e1 e2
        refine ⟨E0, (fun h => by cases h), fun lo H0 => ?_⟩
        have H9 := H0' lo H0
        first | exact H9 | simpa using H9 | (rw [List.append_nil]; simpa using H9)
    | give =>
      rw [P_give] at h
      have E0 := Pre.refl s.md
      have H0' := fun lo (H0 : Sg s.md lo s.md.length []) => H0
      obtain ⟨s1, a1, h1, h⟩ := bind_ok h
      have m1 := take_md h1
      have E1 : Pre s.md s1.md := by rw [m1]; exact E0
      have H1 := fun lo (H0 : Sg s.md lo s.md.length []) => (show Sg s1.md lo s1.md.length _ from by rw [m1]; exact H0' lo H0)
      obtain ⟨s2, a2, h2, h⟩ := bind_ok h
      obtain ⟨e2, g2, k2⟩ := ih _ _ _ _ h2
      have E2 := E1.trans e2
      have H2 := fun lo (H0 : Sg s.md lo s.md.length []) => ((H1 lo H0).mono e2).append (k2 _ (Sg.nil _))
      obtain ⟨s3, a3, h3, h⟩ := bind_ok h
      obtain ⟨e3, g3, k3⟩ := ih _ _ _ _ h3
      have E3 := E2.trans e3
      have v3 := g3 rfl
      have H3 := fun lo (H0 : Sg s.md lo s.md.length []) => ((H2 lo H0).mono e3).append (k3 _ (Sg.nil _))
      rw [v3] at H3
      obtain ⟨e1, e2⟩ := add_md h
      try dsimp only at e1 e2
      refine ⟨by rw [e1]; exact E3.trans ⟨_, rfl⟩, fun _ => by rw [e2]; rfl, fun lo H0 => ?_⟩
      have H9 := H3 lo H0
      rw [e1, e2]
      refine Sg.add _ ?_
      first | exact H9 | simpa using H9
    | start =>
      rw [P_start] at h
      have E0 := Pre.refl s.md
      have H0' := fun lo (H0 : Sg s.md lo s.md.length []) => H0
      obtain ⟨s1, a1, h1, h⟩ := bind_ok h
      have m1 := take_md h1
      have E1 : Pre s.md s1.md := by rw [m1]; exact E0
      have H1 := fun lo (H0 : Sg s.md lo s.md.length []) => (show Sg s1.md lo s1.md.length _ from by rw [m1]; exact H0' lo H0)
      obtain ⟨s2, a2, h2, h⟩ := bind_ok h
      have m2 := take_md h2
      have E2 : Pre s.md s2.md := by rw [m2]; exact E1
      have H2 := fun lo (H0 : Sg s.md lo s.md.length []) => (show Sg s2.md lo s2.md.length _ from by rw [m2]; exact H1 lo H0)
      obtain ⟨s3, a3, h3, h⟩ := bind_ok h
      obtain ⟨e3, g3, k3⟩ := ih _ _ _ _ h3
      have E3 := E2.trans e3
      have v3 := g3 rfl
      have H3 := fun lo (H0 : Sg s.md lo s.md.length []) => ((H2 lo H0).mono e3).append (k3 _ (Sg.nil _))
      rw [v3] at H3
      obtain ⟨s4, a4, h4, h⟩ := bind_ok h
      have m4 := take_md h4
      have E4 : Pre s.md s4.md := by rw [m4]; exact E3
      have H4 := fun lo (H0 : Sg s.md lo s.md.length []) => (show Sg s4.md lo s4.md.length _ from by rw [m4]; exact H3 lo H0)
      obtain ⟨s5, a5, h5, h⟩ := bind_ok h
      obtain ⟨e5, g5, k5⟩ := ih _ _ _ _ h5
      have E5 := E4.trans e5
      have v5 := g5 rfl
      have H5 := fun lo (H0 : Sg s.md lo s.md.length []) => ((H4 lo H0).mono e5).append (k5 _ (Sg.nil _))
      rw [v5] at H5
      obtain ⟨s6, a6, h6, h⟩ := bind_ok h
      obtain ⟨e6, g6, k6⟩ := ih _ _ _ _ h6
      have E6 := E5.trans e6
      have H6 := fun lo (H0 : Sg s.md lo s.md.length []) => ((H5 lo H0).mono e6).append (k6 _ (Sg.nil _))
      obtain ⟨s7, a7, h7, h⟩ := bind_ok h
      have m7 := take_md h7
      have E7 : Pre s.md s7.md := by rw [m7]; exact E6
      have H7 := fun lo (H0 : Sg s.md lo s.md.length []) => (show Sg s7.md lo s7.md.length _ from by rw [m7]; exact H6 lo H0)
      obtain ⟨s8, a8, h8, h⟩ := bind_ok h
      have m8 := take_md h8
      have E8 : Pre s.md s8.md := by rw [m8]; exact E7
      have H8 := fun lo (H0 : Sg s.md lo s.md.length []) => (show Sg s8.md lo s8.md.length _ from by rw [m8]; exact H7 lo H0)
      obtain ⟨e1, e2⟩ := add_md h
      try dsimp only at e1 e2
      refine ⟨by rw [e1]; exact E8.trans ⟨_, rfl⟩, fun _ => by rw [e2]; rfl, fun lo H0 => ?_⟩
      have H9 := H8 lo H0
      rw [e1, e2]
      refine Sg.add _ ?_
      first | exact H9 | simpa using H9
    | block =>
      rw [P_block] at h
      have E0 := Pre.refl s.md
      have H0' := fun lo (H0 : Sg s.md lo s.md.length []) => H0
      obtain ⟨s1, a1, h1, h⟩ := bind_ok h
      have m1 := enter_md h1
      have E1 : Pre s.md s1.md := by rw [m1]; exact E0
      have H1 := fun lo (H0 : Sg s.md lo s.md.length []) => (show Sg s1.md lo s1.md.length _ from by rw [m1]; exact H0' lo H0)
      obtain ⟨s2, a2, h2, h⟩ := bind_ok h
      obtain ⟨e2, g2, k2⟩ := ih _ _ _ _ h2
      have E2 := E1.trans e2
      have H2 := fun lo (H0 : Sg s.md lo s.md.length []) => k2 lo (show Sg s1.md lo s1.md.length _ from H1 lo H0)
      obtain ⟨s3, a3, h3, h⟩ := bind_ok h
      have m3 := leave_md h3
      have E3 : Pre s.md s3.md := by rw [m3]; exact E2
      have H3 := fun lo (H0 : Sg s.md lo s.md.length []) => (show Sg s3.md lo s3.md.length _ from by rw [m3]; exact H2 lo H0)
      obtain ⟨e1, e2⟩ := add_md h
      try dsimp only at e1 e2
      refine ⟨by rw [e1]; exact E3.trans ⟨_, rfl⟩, fun _ => by rw [e2]; rfl, fun lo H0 => ?_⟩
      have H9 := H3 lo H0
      rw [e1, e2]
      refine Sg.add _ ?_
      first | exact H9 | simpa using H9
    | blockL l =>
      rw [P_blockL] at h
      have E0 := Pre.refl s.md
      have H0' := fun lo (H0 : Sg s.md lo s.md.length l) => H0
      split at h
      · injection h with e1 e2
        subst e1 e2
        refine ⟨E0, (fun h => by cases h), fun lo H0 => ?_⟩
        have H9 := H0' lo H0
        first | exact H9 | simpa using H9 | (rw [List.append_nil]; simpa using H9)
      · obtain ⟨s1, a1, h1, h⟩ := bind_ok h
        obtain ⟨e1, g1, k1⟩ := ih _ _ _ _ h1
        have E1 := E0.trans e1
        have v1 := g1 rfl
        have H1 := fun lo (H0 : Sg s.md lo s.md.length l) => ((H0' lo H0).mono e1).append (k1 _ (Sg.nil _))
        rw [v1] at H1
        obtain ⟨e9, g9, k9⟩ := ih _ _ _ _ h
        refine ⟨E1.trans e9, (fun h => by cases h), fun lo H0 => k9 lo ?_⟩
        have H9 := H1 lo H0
        first | exact H9 | simpa using H9
    | stmt =>
      rw [P_stmt] at h
      have E0 := Pre.refl s.md
      have H0' := fun lo (H0 : Sg s.md lo s.md.length []) => H0
      split at h
      · obtain ⟨s1, a1, h1, h⟩ := bind_ok h
        have m1 := take_md h1
        have E1 : Pre s.md s1.md := by rw [m1]; exact E0
        have H1 := fun lo (H0 : Sg s.md lo s.md.length []) => (show Sg s1.md lo s1.md.length _ from by rw [m1]; exact H0' lo H0)
        obtain ⟨s2, a2, h2, h⟩ := bind_ok h
        have m2 := take_md h2
        have E2 : Pre s.md s2.md := by rw [m2]; exact E1
        have H2 := fun lo (H0 : Sg s.md lo s.md.length []) => (show Sg s2.md lo s2.md.length _ from by rw [m2]; exact H1 lo H0)
        obtain ⟨s3, a3, h3, h⟩ := bind_ok h
        obtain ⟨e3, g3, k3⟩ := ih _ _ _ _ h3
        have E3 := E2.trans e3
        have v3 := g3 rfl
        have H3 := fun lo (H0 : Sg s.md lo s.md.length []) => ((H2 lo H0).mono e3).append (k3 _ (Sg.nil _))
        rw [v3] at H3
        obtain ⟨e1, e2⟩ := add_md h
        try dsimp only at e1 e2
        refine ⟨by rw [e1]; exact E3.trans ⟨_, rfl⟩, fun _ => by rw [e2]; rfl, fun lo H0 => ?_⟩
        have H9 := H3 lo H0
        rw [e1, e2]
        refine Sg.add _ ?_
        first | exact H9 | simpa using H9
      · split at h
        · obtain ⟨e9, g9, k9⟩ := ih _ _ _ _ h
          refine ⟨E0.trans e9, (fun h => g9 rfl), fun lo H0 => k9 lo ?_⟩
          have H9 := H0' lo H0
          first | exact H9 | simpa using H9
        · split at h
          · obtain ⟨s1, a1, h1, h⟩ := bind_ok h
            have m1 := take_md h1
            have E1 : Pre s.md s1.md := by rw [m1]; exact E0
            have H1 := fun lo (H0 : Sg s.md lo s.md.length []) => (show Sg s1.md lo s1.md.length _ from by rw [m1]; exact H0' lo H0)
            obtain ⟨e9, g9, k9⟩ := ih _ _ _ _ h
            refine ⟨E1.trans e9, (fun h => g9 rfl), fun lo H0 => k9 lo ?_⟩
            have H9 := H1 lo H0
            first | exact H9 | simpa using H9
          · split at h
            · obtain ⟨s1, a1, h1, h⟩ := bind_ok h
              have m1 := take_md h1
              have E1 : Pre s.md s1.md := by rw [m1]; exact E0
              have H1 := fun lo (H0 : Sg s.md lo s.md.length []) => (show Sg s1.md lo s1.md.length _ from by rw [m1]; exact H0' lo H0)
              obtain ⟨s2, a2, h2, h⟩ := bind_ok h
              obtain ⟨e2, g2, k2⟩ := ih _ _ _ _ h2
              have E2 := E1.trans e2
              have v2 := g2 rfl
              have H2 := fun lo (H0 : Sg s.md lo s.md.length []) => ((H1 lo H0).mono e2).append (k2 _ (Sg.nil _))
              rw [v2] at H2
              obtain ⟨s3, a3, h3, h⟩ := bind_ok h
              obtain ⟨e3, g3, k3⟩ := ih _ _ _ _ h3
              have E3 := E2.trans e3
              have v3 := g3 rfl
              have H3 := fun lo (H0 : Sg s.md lo s.md.length []) => ((H2 lo H0).mono e3).append (k3 _ (Sg.nil _))
              rw [v3] at H3
              obtain ⟨e1, e2⟩ := add_md h
              try dsimp only at e1 e2
              refine ⟨by rw [e1]; exact E3.trans ⟨_, rfl⟩, fun _ => by rw [e2]; rfl, fun lo H0 => ?_⟩
              have H9 := H3 lo H0
              rw [e1, e2]
              refine Sg.add _ ?_
              first | exact H9 | simpa using H9
            · split at h
              · obtain ⟨s1, a1, h1, h⟩ := bind_ok h
                have m1 := take_md h1
                have E1 : Pre s.md s1.md := by rw [m1]; exact E0
                have H1 := fun lo (H0 : Sg s.md lo s.md.length []) => (show Sg s1.md lo s1.md.length _ from by rw [m1]; exact H0' lo H0)
                obtain ⟨e1, e2⟩ := add_md h
                try dsimp only at e1 e2
                refine ⟨by rw [e1]; exact E1.trans ⟨_, rfl⟩, fun _ => by rw [e2]; rfl, fun lo H0 => ?_⟩
                have H9 := H1 lo H0
                rw [e1, e2]
                refine Sg.add _ ?_
                first | exact H9 | simpa using H9
              · split at h
                · obtain ⟨s1, a1, h1, h⟩ := bind_ok h
                  have m1 := take_md h1
                  have E1 : Pre s.md s1.md := by rw [m1]; exact E0
                  have H1 := fun lo (H0 : Sg s.md lo s.md.length []) => (show Sg s1.md lo s1.md.length _ from by rw [m1]; exact H0' lo H0)
                  obtain ⟨e1, e2⟩ := add_md h
                  try dsimp only at e1 e2
                  refine ⟨by rw [e1]; exact E1.trans ⟨_, rfl⟩, fun _ => by rw [e2]; rfl, fun lo H0 => ?_⟩
                  have H9 := H1 lo H0
                  rw [e1, e2]
                  refine Sg.add _ ?_
                  first | exact H9 | simpa using H9
                · split at h
                  · obtain ⟨s1, a1, h1, h⟩ := bind_ok h
                    have m1 := take_md h1
                    have E1 : Pre s.md s1.md := by rw [m1]; exact E0
                    have H1 := fun lo (H0 : Sg s.md lo s.md.length []) => (show Sg s1.md lo s1.md.length _ from by rw [m1]; exact H0' lo H0)
                    obtain ⟨e1, e2⟩ := add_md h
                    try dsimp only at e1 e2
                    refine ⟨by rw [e1]; exact E1.trans ⟨_, rfl⟩, fun _ => by rw [e2]; rfl, fun lo H0 => ?_⟩
                    have H9 := H1 lo H0
                    rw [e1, e2]
                    refine Sg.add _ ?_
                    first | exact H9 | simpa using H9
                  · split at h
                    · obtain ⟨e9, g9, k9⟩ := ih _ _ _ _ h
                      refine ⟨E0.trans e9, (fun h => g9 rfl), fun lo H0 => k9 lo ?_⟩
                      have H9 := H0' lo H0
                      first | exact H9 | simpa using H9
                    · split at h
                      · obtain ⟨s1, a1, h1, h⟩ := bind_ok h
                        have m1 := take_md h1
                        have E1 : Pre s.md s1.md := by rw [m1]; exact E0
                        have H1 := fun lo (H0 : Sg s.md lo s.md.length []) => (show Sg s1.md lo s1.md.length _ from by rw [m1]; exact H0' lo H0)
                        obtain ⟨s2, a2, h2, h⟩ := bind_ok h
                        obtain ⟨e2, g2, k2⟩ := ih _ _ _ _ h2
                        have E2 := E1.trans e2
                        have v2 := g2 rfl
                        have H2 := fun lo (H0 : Sg s.md lo s.md.length []) => ((H1 lo H0).mono e2).append (k2 _ (Sg.nil _))
                        rw [v2] at H2
                        obtain ⟨e1, e2⟩ := add_md h
                        try dsimp only at e1 e2
                        refine ⟨by rw [e1]; exact E2.trans ⟨_, rfl⟩, fun _ => by rw [e2]; rfl, fun lo H0 => ?_⟩
                        have H9 := H2 lo H0
                        rw [e1, e2]
                        refine Sg.add _ ?_
                        first | exact H9 | simpa using H9
                      · cases h
    | set =>
      rw [P_set] at h
      have E0 := Pre.refl s.md
      have H0' := fun lo (H0 : Sg s.md lo s.md.length []) => H0
      obtain ⟨s1, a1, h1, h⟩ := bind_ok h
      have m1 := take_md h1
      have E1 : Pre s.md s1.md := by rw [m1]; exact E0
      have H1 := fun lo (H0 : Sg s.md lo s.md.length []) => (show Sg s1.md lo s1.md.length _ from by rw [m1]; exact H0' lo H0)
      obtain ⟨s2, a2, h2, h⟩ := bind_ok h
      obtain ⟨e2, g2, k2⟩ := ih _ _ _ _ h2
      have E2 := E1.trans e2
      have H2 := fun lo (H0 : Sg s.md lo s.md.length []) => ((H1 lo H0).mono e2).append (k2 _ (Sg.nil _))
      obtain ⟨s3, a3, h3, h⟩ := bind_ok h
      obtain ⟨e3, g3, k3⟩ := ih _ _ _ _ h3
      have E3 := E2.trans e3
      have v3 := g3 rfl
      have H3 := fun lo (H0 : Sg s.md lo s.md.length []) => ((H2 lo H0).mono e3).append (k3 _ (Sg.nil _))
      rw [v3] at H3
      obtain ⟨e1, e2⟩ := add_md h
      try dsimp only at e1 e2
      refine ⟨by rw [e1]; exact E3.trans ⟨_, rfl⟩, fun _ => by rw [e2]; rfl, fun lo H0 => ?_⟩
      have H9 := H3 lo H0
      rw [e1, e2]
      refine Sg.add _ ?_
      first | exact H9 | simpa using H9
    | branch t =>
      rw [P_branch] at h
      have E0 := Pre.refl s.md
      have H0' := fun lo (H0 : Sg s.md lo s.md.length []) => H0
      obtain ⟨s1, a1, h1, h⟩ := bind_ok h
      obtain ⟨e1, g1, k1⟩ := ih _ _ _ _ h1
      have E1 := E0.trans e1
      have v1 := g1 rfl
      have H1 := fun lo (H0 : Sg s.md lo s.md.length []) => ((H0' lo H0).mono e1).append (k1 _ (Sg.nil _))
      rw [v1] at H1
      obtain ⟨s2, a2, h2, h⟩ := bind_ok h
      obtain ⟨e2, g2, k2⟩ := ih _ _ _ _ h2
      have E2 := E1.trans e2
      have v2 := g2 rfl
      have H2 := fun lo (H0 : Sg s.md lo s.md.length []) => ((H1 lo H0).mono e2).append (k2 _ (Sg.nil _))
      rw [v2] at H2
      split at h
      · obtain ⟨s3, a3, h3, h⟩ := bind_ok h
        have m3 := take_md h3
        have E3 : Pre s.md s3.md := by rw [m3]; exact E2
        have H3 := fun lo (H0 : Sg s.md lo s.md.length []) => (show Sg s3.md lo s3.md.length _ from by rw [m3]; exact H2 lo H0)
        obtain ⟨s4, a4, h4, h⟩ := bind_ok h
        obtain ⟨e4, g4, k4⟩ := ih _ _ _ _ h4
        have E4 := E3.trans e4
        have v4 := g4 rfl
        have H4 := fun lo (H0 : Sg s.md lo s.md.length []) => ((H3 lo H0).mono e4).append (k4 _ (Sg.nil _))
        rw [v4] at H4
        obtain ⟨e1, e2⟩ := add_md h
        try dsimp only at e1 e2
        refine ⟨by rw [e1]; exact E4.trans ⟨_, rfl⟩, fun _ => by rw [e2]; rfl, fun lo H0 => ?_⟩
        have H9 := H4 lo H0
        rw [e1, e2]
        refine Sg.add _ ?_
        first | exact H9 | simpa using H9
      · obtain ⟨e1, e2⟩ := add_md h
        try dsimp only at e1 e2
        refine ⟨by rw [e1]; exact E2.trans ⟨_, rfl⟩, fun _ => by rw [e2]; rfl, fun lo H0 => ?_⟩
        have H9 := H2 lo H0
        rw [e1, e2]
        refine Sg.add _ ?_
        first | exact H9 | simpa using H9
    | otherwise =>
      rw [P_otherwise] at h
      have E0 := Pre.refl s.md
      have H0' := fun lo (H0 : Sg s.md lo s.md.length []) => H0
      split at h
      · obtain ⟨s1, a1, h1, h⟩ := bind_ok h
        have m1 := enter_md h1
        have E1 : Pre s.md s1.md := by rw [m1]; exact E0
        have H1 := fun lo (H0 : Sg s.md lo s.md.length []) => (show Sg s1.md lo s1.md.length _ from by rw [m1]; exact H0' lo H0)
        obtain ⟨s2, a2, h2, h⟩ := bind_ok h
        obtain ⟨e2, g2, k2⟩ := ih _ _ _ _ h2
        have E2 := E1.trans e2
        have v2 := g2 rfl
        have H2 := fun lo (H0 : Sg s.md lo s.md.length []) => ((H1 lo H0).mono e2).append (k2 _ (Sg.nil _))
        rw [v2] at H2
        injection h with e1 e2
        subst e1 e2
        refine ⟨E2, (fun _ => by first | rfl | assumption), fun lo H0 => ?_⟩
        have H9 := H2 lo H0
        first | exact H9 | simpa using H9 | (rw [v2]; simpa using H9)
      · obtain ⟨e9, g9, k9⟩ := ih _ _ _ _ h
        refine ⟨E0.trans e9, (fun h => g9 rfl), fun lo H0 => k9 lo ?_⟩
        have H9 := H0' lo H0
        first | exact H9 | simpa using H9
    | send =>
      rw [P_send] at h
      have E0 := Pre.refl s.md
      have H0' := fun lo (H0 : Sg s.md lo s.md.length []) => H0
      obtain ⟨s1, a1, h1, h⟩ := bind_ok h
      have m1 := take_md h1
      have E1 : Pre s.md s1.md := by rw [m1]; exact E0
      have H1 := fun lo (H0 : Sg s.md lo s.md.length []) => (show Sg s1.md lo s1.md.length _ from by rw [m1]; exact H0' lo H0)
      obtain ⟨s2, a2, h2, h⟩ := bind_ok h
      have m2 := take_md h2
      have E2 : Pre s.md s2.md := by rw [m2]; exact E1
      have H2 := fun lo (H0 : Sg s.md lo s.md.length []) => (show Sg s2.md lo s2.md.length _ from by rw [m2]; exact H1 lo H0)
      obtain ⟨s3, a3, h3, h⟩ := bind_ok h
      obtain ⟨e3, g3, k3⟩ := ih _ _ _ _ h3
      have E3 := E2.trans e3
      have v3 := g3 rfl
      have H3 := fun lo (H0 : Sg s.md lo s.md.length []) => ((H2 lo H0).mono e3).append (k3 _ (Sg.nil _))
      rw [v3] at H3
      obtain ⟨s4, a4, h4, h⟩ := bind_ok h
      have m4 := take_md h4
      have E4 : Pre s.md s4.md := by rw [m4]; exact E3
      have H4 := fun lo (H0 : Sg s.md lo s.md.length []) => (show Sg s4.md lo s4.md.length _ from by rw [m4]; exact H3 lo H0)
      obtain ⟨s5, a5, h5, h⟩ := bind_ok h
      obtain ⟨e5, g5, k5⟩ := ih _ _ _ _ h5
      have E5 := E4.trans e5
      have v5 := g5 rfl
      have H5 := fun lo (H0 : Sg s.md lo s.md.length []) => ((H4 lo H0).mono e5).append (k5 _ (Sg.nil _))
      rw [v5] at H5
      obtain ⟨s6, a6, h6, h⟩ := bind_ok h
      have m6 := take_md h6
      have E6 : Pre s.md s6.md := by rw [m6]; exact E5
      have H6 := fun lo (H0 : Sg s.md lo s.md.length []) => (show Sg s6.md lo s6.md.length _ from by rw [m6]; exact H5 lo H0)
      obtain ⟨s7, a7, h7, h⟩ := bind_ok h
      obtain ⟨e7, g7, k7⟩ := ih _ _ _ _ h7
      have E7 := E6.trans e7
      have v7 := g7 rfl
      have H7 := fun lo (H0 : Sg s.md lo s.md.length []) => ((H6 lo H0).mono e7).append (k7 _ (Sg.nil _))
      rw [v7] at H7
      obtain ⟨e1, e2⟩ := add_md h
      try dsimp only at e1 e2
      refine ⟨by rw [e1]; exact E7.trans ⟨_, rfl⟩, fun _ => by rw [e2]; rfl, fun lo H0 => ?_⟩
      have H9 := H7 lo H0
      rw [e1, e2]
      refine Sg.add _ ?_
      first | exact H9 | simpa using H9
end Go.Proofs.YtmekcccmnkgodaaGreatDoor
