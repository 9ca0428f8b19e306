import Derived.Test.YtmekcccmnkgodaaGreatDoorFGB0
import Derived.Test.YtmekcccmnkgodaaGreatDoorFGPZ
import Derived.Test.YtmekcccmnkgodaaGreatDoorFGQ4
import Derived.Test.YtmekcccmnkgodaaGreatDoorFGB6
namespace Go.Proofs.YtmekcccmnkgodaaGreatDoor
open Go.ChangeShapes Go.WideShapes Go.ChangeAt Go.RowKit
set_option linter.unusedVariables false
set_option linter.unusedSimpArgs false
/-- what the scene adds -/
theorem scene_md {X : Nat → Tk} {n : Nat} {L C : Int} (hX : ∀ i, (X i).line = L ∧ (X i).col = C) : ∀ (f : Nat) (l : List Nat) (s s' : St) (v : List Nat), P X n f (.sceneL l) s = .ok s' v → (∀ d ∈ s.md, d.line = L ∧ d.col = C) → ∃ m k, s'.md = m ++ [⟨1, [], 0, 0, k, 1, 1⟩] ∧ v = [m.length] ∧ ∀ d ∈ m, d.line = L ∧ d.col = C := by
  intro f
  induction f with
  | zero => intro l s s' v h; cases h
  | succ f ih =>
    intro l s s' v h hm
    rw [P_sceneL] at h
    split at h
    · obtain ⟨s1, a1, h1, h⟩ := bind_ok h
      exact ih _ _ _ _ h (plP X n L C hX _ .item _ _ _ rfl trivial h1 hm)
    · obtain ⟨e1, e2⟩ := add_md h
      exact ⟨s.md, l, e1, e2, hm⟩
theorem bld_places {X : Nat → Tk} {n F : Nat} {L C : Int} (hX : ∀ i, (X i).line = L ∧ (X i).col = C) {s : St} {v : List Nat} (h : Bld X n F = .ok s v) : ∃ d t, trOf s v = d :: t ∧ d.line = 1 ∧ d.col = 1 ∧ ∀ x ∈ t, x.line = L ∧ x.col = C := by
  obtain ⟨d, hW⟩ := bld_ok h
  obtain ⟨n1, t1, e, -, -, -, h5⟩ := hW.form
  unfold Bld at h
  split at h
  · cases h
  · obtain ⟨m, k, e1, e2, e3⟩ := scene_md hX F [] ⟨0, 0, []⟩ s v h (by simp)
    have hv : hd v = m.length := by rw [e2]; rfl
    have h1 := hW.at'
    rw [hv, e1] at h1
    simp at h1
    subst h1
    refine ⟨_, t1, e, rfl, rfl, fun x hx => ?_⟩
    obtain ⟨y, hy, d0, h6, h7, h8⟩ := h5 x hx
    rw [hv] at hy
    rw [e1, List.getElem?_append_left hy] at h6
    rw [h7, h8]
    exact e3 d0 (List.mem_of_getElem? h6)
/-- places mean nothing -/
theorem bld_sim {X X' : Nat → Tk} {n F : Nat} (hX : ∀ i, TkS (X i) (X' i)) (hn : n ≤ 16384) (hF : 20 * n + 10 ≤ F) : (∃ e e', Bld X n F = .bad e ∧ Bld X' n F = .bad e' ∧ e.code = e'.code) ∨ ∃ s s' v, Bld X n F = .ok s v ∧ Bld X' n F = .ok s' v ∧ (trOf s v).map stp = (trOf s' v).map stp := by
  have h := simP X X' n hX (F + 1) .scene .scene ⟨0, 0, []⟩ ⟨0, 0, []⟩ (.inl rfl) ⟨rfl, rfl, rfl⟩
  have o1 := bld_out X n F hF
  have o2 := bld_out X' n F hF
  unfold Bld at o1 o2 ⊢
  rw [if_neg (by omega)] at o1 o2 ⊢
  rw [if_neg (by omega)]
  cases e1 : P X n (F + 1) .scene ⟨0, 0, []⟩ with
  | out => exact absurd e1 o1
  | bad e =>
    cases e2 : P X' n (F + 1) .scene ⟨0, 0, []⟩ with
    | out => exact absurd e2 o2
    | bad e' => rw [e1, e2] at h; exact .inl ⟨e, e', rfl, rfl, h.2⟩
    | ok s v => rw [e1, e2] at h; exact h.elim
  | ok s v =>
    cases e2 : P X' n (F + 1) .scene ⟨0, 0, []⟩ with
    | out => exact absurd e2 o2
    | bad e' => rw [e1, e2] at h; exact h.elim
    | ok s' v' =>
      rw [e1, e2] at h
      obtain ⟨h1, rfl⟩ := h
      refine .inr ⟨s, s', v, rfl, rfl, ?_⟩
      have hl : s.md.length = s'.md.length := by have := congrArg List.length h1.2.2; simpa using this
      unfold trOf
      rw [← hl]
      exact layF_stp h1.2.2 _ _ _
end Go.Proofs.YtmekcccmnkgodaaGreatDoor
namespace Go.Proofs.YtmekcccmnkgodaaGreatDoor
open Go.ChangeShapes Go.WideShapes Go.ChangeAt Go.RowKit
set_option linter.unusedVariables false
set_option linter.unusedSimpArgs false
set_option maxRecDepth 100000
theorem neq_seen_same (k c a b : Int) (W : World) : (binOp .neq 33 (.agg #[.int .i64 k, .int .i64 c, .int .i64 a, .int .i64 b, .int .u64 0, .int .i64 0, .int .u64 0]) (.agg #[.int .i64 k, .int .i64 c, .int .i64 a, .int .i64 b, .int .u64 0, .int .i64 0, .int .u64 0])).run Tryz.prog W = .ok (.bool false) W := by
  have e1 : (k == k) = true := by simp
  have e2 : (c == c) = true := by simp
  have e3 : (a == a) = true := by simp
  have e4 : (b == b) = true := by simp
  go_simp
theorem eql_seen_same (k c a b : Int) (W : World) : (binOp .eql 33 (.agg #[.int .i64 k, .int .i64 c, .int .i64 a, .int .i64 b, .int .u64 0, .int .i64 0, .int .u64 0]) (.agg #[.int .i64 k, .int .i64 c, .int .i64 a, .int .i64 b, .int .u64 0, .int .i64 0, .int .u64 0])).run Tryz.prog W = .ok (.bool true) W := by
  have e1 : (k == k) = true := by simp
  have e2 : (c == c) = true := by simp
  have e3 : (a == a) = true := by simp
  have e4 : (b == b) = true := by simp
  go_simp
def fKnown : Bs := [99, 111, 110, 115, 116, 32, 65, 32, 61, 32, 61, 32, 49]
def fToks : List Tk × Option Er := scanF 40 fKnown 1 1 0
theorem f_scan : scanT fKnown = fToks := by
  unfold scanT fToks
  rw [if_neg (by decide), scanF_eq 40 fKnown 1 1 0 (by decide)]
theorem f_none : fToks.2 = none := by decide +kernel
theorem f_len : fToks.1.length = 5 := by decide +kernel
def isBad (R : Pr (List Nat)) (c l o : Int) : Bool := match R with
  | .bad e => decide (e.code = c ∧ e.line = l ∧ e.col = o)
  | _ => false
theorem f_bad : isBad (P (fun i => fToks.1.getD i nT) 5 200 .scene ⟨0, 0, []⟩) 40 1 11 = true := by decide +kernel
theorem isBad_of {R : Pr (List Nat)} {c l o : Int} (h : isBad R c l o = true) : Res.of R = .er c l o := by
  cases R with
  | out => cases h
  | ok s v => cases h
  | bad e =>
    obtain ⟨rfl, rfl, rfl⟩ := of_decide_eq_true h
    rfl
theorem f_known : prsR fKnown 199 = .er 40 1 11 := by
  unfold prsR
  rw [f_scan, f_none]
  dsimp only
  unfold bldR Bld
  rw [f_len, if_neg (by omega)]
  exact isBad_of f_bad
theorem f_parse (w : World) (g : Gr w) (he : Et w) : Calls Tryz.prog 7 #[.string ⟨#[99, 111, 110, 115, 116, 32, 65, 32, 61, 32, 61, 32, 49]⟩] w fun e w' => ∃ tp tm tc ev, e = .returned (.tuple #[.agg #[.slice tp tm tc], ev]) ∧ EvAt w' ev (.er 40 1 11) ∧ Below w.heap.size w w' := by
  have h := parse_any fKnown (by unfold maxLen; decide) 199 (fun ts h => by rw [f_scan] at h; have e : fToks.1 = ts := congrArg Prod.fst h; have e2 := f_len; rw [e] at e2; omega) w g he
  rw [f_known] at h
  exact h.mono fun e w' h => h.ev
end Go.Proofs.YtmekcccmnkgodaaGreatDoor
