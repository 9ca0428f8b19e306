import Derived.Test.YtopggemomcoalaaGreatJTW4
namespace Go.Proofs.YtopggemomcoalaaGreat
open Go.ChangeShapes Go.WideShapes Go.ChangeAt Go.RowKit
set_option linter.unusedVariables false
set_option linter.unusedSimpArgs false

/-! ### step, decide -/
/-- all blocks but the code's stay -/
def KgP (cp : Option Addr) (W W' : World) : Prop := ∀ j, (∀ g o, cp = some ⟨g, o, none⟩ → j ≠ g) → j < W.heap.size → W'.heap[j]? = W.heap[j]?
theorem KgP.trans {cp : Option Addr} {a b c : World} (h : KgP cp a b) (k : KgP cp b c) (hs : a.heap.size ≤ b.heap.size) : KgP cp a c := fun j h1 h2 => (k j h1 (Nat.lt_of_lt_of_le h2 hs)).trans (h j h1 h2)
variable {Sf : Nat → Prop} {Hf : Nat → Option Obj} {base tb : Nat} {P : Pg} {cp ep : Option Addr} {cc ec : Nat}
set_option maxRecDepth 100000 in
set_option maxHeartbeats 8000000 in
theorem takes2_any (o : Int) (W : World) : Calls Tryz.prog 107 #[.int .i64 o] W fun e W' => e = .returned (.bool (two2 o)) ∧ W' = W := by
  unfold two2
  rcases (by cases (decide ((13 : Int) ≤ o)) <;> simp : (decide ((13 : Int) ≤ o)) = true ∨ (decide ((13 : Int) ≤ o)) = false) with e1 | e1 <;> rcases (by cases (decide (o ≤ 22)) <;> simp : (decide (o ≤ (22 : Int))) = true ∨ (decide (o ≤ (22 : Int))) = false) with e2 | e2 <;> rcases (by cases (decide ((26 : Int) ≤ o)) <;> simp : (decide ((26 : Int) ≤ o)) = true ∨ (decide ((26 : Int) ≤ o)) = false) with e3 | e3 <;> rcases (by cases (decide (o ≤ 33)) <;> simp : (decide (o ≤ (33 : Int))) = true ∨ (decide (o ≤ (33 : Int))) = false) with e4 | e4
  all_goals
    rw [e1, e2, e3, e4]
    go_enter Tryz.func107, Tryz.ntmps107
    go_wp2_with fail
    go_ret
    exact ⟨rfl, rfl⟩
set_option maxRecDepth 100000 in
set_option maxHeartbeats 8000000 in
theorem takes1_any (o : Int) (W : World) : Calls Tryz.prog 109 #[.int .i64 o] W fun e W' => e = .returned (.bool (one1 o)) ∧ W' = W := by
  unfold one1
  rcases (by cases (decide ((23 : Int) ≤ o)) <;> simp : (decide ((23 : Int) ≤ o)) = true ∨ (decide ((23 : Int) ≤ o)) = false) with e1 | e1 <;> rcases (by cases (decide (o ≤ 25)) <;> simp : (decide (o ≤ (25 : Int))) = true ∨ (decide (o ≤ (25 : Int))) = false) with e2 | e2 <;> rcases (by cases (o == 34) <;> simp : (o == 34) = true ∨ (o == 34) = false) with e3 | e3
  all_goals
    rw [e1, e2, e3]
    go_enter Tryz.func109, Tryz.ntmps109
    go_wp2_with fail
    go_ret
    exact ⟨rfl, rfl⟩
set_option maxRecDepth 100000 in
set_option maxHeartbeats 8000000 in
theorem stepX_any (W : World) (h : TD Sf Hf W base tb P cp ep cc ec) (hn : P.n ≤ 4096) (k : Nat) (hk : k < P.n) :
    Calls Tryz.prog 110 #[.pointer (some ⟨tb, 0, none⟩), .int .i64 (k : Int)] W fun e W' => e = .returned (.tuple #[]) ∧ TD Sf Hf W' base tb (stepI P k) cp ep cc ec ∧ Below base W W' ∧ (∀ j g o, cp = some ⟨g, o, none⟩ → j ≠ g → W'.heap[j]? = W.heap[j]?) := by
  obtain ⟨g, hg⟩ := h.ip (by omega)
  subst hg
  obtain ⟨⟨x0, x1, x2⟩, hfz⟩ := h.ins hk
  obtain ⟨y0, y1, y2, y3⟩ := h.cells
  have f0 := hfz (k * 3)
  have f1 := hfz (k * 3 + 1)
  have f2 := hfz (k * 3 + 2)
  have i0 : (0 : Int) ≤ (k : Int) := by omega
  have i1 : (k : Int) < (P.n : Int) := by omega
  have ek : IntKind.i64.wrap ((k : Int) + 1) = ((k + 1 : Nat) : Int) := by rw [IntKind.wrap_i64]; omega
  have hTS := h.setI k 35 ((k + 1 : Nat) : Int) 0
  have e3 : ((W.setCell ⟨g, k * 3, none⟩ (.int .i64 35)).setCell ⟨g, k * 3 + 1, none⟩ (.int .i64 ((k + 1 : Nat) : Int))).setCell ⟨g, k * 3 + 2, none⟩ (.int .i64 0) = W.setCells g (k * 3) [.int .i64 35, .int .i64 ((k + 1 : Nat) : Int), .int .i64 0] := rfl
  rw [← e3] at hTS
  have hb : Below base W (((W.setCell ⟨g, k * 3, none⟩ (.int .i64 35)).setCell ⟨g, k * 3 + 1, none⟩ (.int .i64 ((k + 1 : Nat) : Int))).setCell ⟨g, k * 3 + 2, none⟩ (.int .i64 0)) := (((Below.refl _ W).setCell (p := ⟨g, k * 3, none⟩) h.gb.1 _).setCell (p := ⟨g, k * 3 + 1, none⟩) h.gb.1 _).setCell (p := ⟨g, k * 3 + 2, none⟩) h.gb.1 _
  have hk : ∀ j, j ≠ g → (((W.setCell ⟨g, k * 3, none⟩ (.int .i64 35)).setCell ⟨g, k * 3 + 1, none⟩ (.int .i64 ((k + 1 : Nat) : Int))).setCell ⟨g, k * 3 + 2, none⟩ (.int .i64 0)).heap[j]? = W.heap[j]? := fun j hj => ((Below.heap_setCell _ _ _ _ hj).trans (Below.heap_setCell _ _ _ _ hj)).trans (Below.heap_setCell _ _ _ _ hj)
  have HS := tmh (And.intro hTS (And.intro hb hk))
  clear hTS hb hk e3 hfz h
  go_enter Tryz.func110, Tryz.ntmps110
  go_wp2_with fail
  go_end0
  exact ⟨rfl, HS.out.1, HS.out.2.1, fun j g' o e hj => HS.out.2.2 j (by injection e with e; injection e with e; omega)⟩
theorem stepK_any (W : World) (h : TD Sf Hf W base tb P cp ep cc ec) (hn : P.n ≤ 4096) (k : Nat) (hk : k < P.n) :
    Calls Tryz.prog 110 #[.pointer (some ⟨tb, 0, none⟩), .int .i64 (k : Int)] W fun e W' => e = .returned (.tuple #[]) ∧ TD Sf Hf W' base tb (stepI P k) cp ep cc ec ∧ Below base W W' ∧ KgP cp W W' := (stepX_any W h hn k hk).mono fun e W' => by
  rintro ⟨h1, h2, h3, h4⟩
  obtain ⟨g, hg⟩ := h.ip (by omega)
  exact ⟨h1, h2, h3, fun j hj _ => h4 j g 0 hg (hj g 0 hg)⟩
theorem step_any (W : World) (h : TD Sf Hf W base tb P cp ep cc ec) (hn : P.n ≤ 4096) (k : Nat) (hk : k < P.n) :
    Calls Tryz.prog 110 #[.pointer (some ⟨tb, 0, none⟩), .int .i64 (k : Int)] W fun e W' => e = .returned (.tuple #[]) ∧ TD Sf Hf W' base tb (stepI P k) cp ep cc ec ∧ Below base W W' := (stepX_any W h hn k hk).mono fun e W' => by
  rintro ⟨h1, h2, h3, _⟩
  exact ⟨h1, h2, h3⟩
set_option maxRecDepth 100000 in
set_option maxHeartbeats 8000000 in
theorem decide_any (W : World) (h : TD Sf Hf W base tb P cp ep cc ec) (hn : P.n ≤ 4096) (hB : base ≤ W.heap.size) (k : Nat) (hk : k + 1 < P.n) :
    Calls Tryz.prog 111 #[.pointer (some ⟨tb, 0, none⟩), .int .i64 (k : Int)] W fun e W' => e = .returned (.tuple #[]) ∧ TD Sf Hf W' base tb (foldZero P k) cp ep cc ec ∧ Below base W W' ∧ KgP cp W W' := by
  obtain ⟨g, hg⟩ := h.ip (by omega)
  subst hg
  obtain ⟨⟨x0, x1, x2⟩, hfz0⟩ := h.ins (show k < P.n by omega)
  obtain ⟨⟨z0, z1, z2⟩, hfz⟩ := h.ins hk
  obtain ⟨y0, y1, y2, y3⟩ := h.cells
  have f0 := hfz ((k + 1) * 3)
  have i0 : (0 : Int) ≤ (k : Int) := by omega
  have i1 : (k : Int) < (P.n : Int) := by omega
  have i2 : (0 : Int) ≤ ((k + 1 : Nat) : Int) := by omega
  have i3 : ((k + 1 : Nat) : Int) < (P.n : Int) := by omega
  have ek : IntKind.i64.wrap ((k : Int) + 1) = ((k + 1 : Nat) : Int) := by rw [IntKind.wrap_i64]; omega
  unfold foldZero
  by_cases h0 : P.a k = 0
  · rw [if_pos h0]
    have e0 : (P.a k == 0) = true := by simp [h0]
    have hT1 : TD Sf Hf (W.setCell ⟨g, (k + 1) * 3, none⟩ (.int .i64 35)) base tb (setI P (k + 1) 35 (P.a (k + 1)) (P.b (k + 1))) (some ⟨g, 0, none⟩) ep cc ec := (h.setO (k + 1) 35).same ⟨rfl, rfl, rfl, rfl, fun i hi => by rfl, fun i hi => by show P.a i = if i = k + 1 then P.a (k + 1) else P.a i; split <;> simp [*], fun i hi => by show P.b i = if i = k + 1 then P.b (k + 1) else P.b i; split <;> simp [*], fun i hi => rfl⟩
    have hb1 : Below base W (W.setCell ⟨g, (k + 1) * 3, none⟩ (.int .i64 35)) := (Below.refl _ W).setCell (p := ⟨g, (k + 1) * 3, none⟩) h.gb.1 _
    have HS := stepK_any _ hT1 hn k (by show k < P.n; omega)
    have HB := tmh (And.intro hb1 (show KgP (some ⟨g, 0, none⟩) W (W.setCell ⟨g, (k + 1) * 3, none⟩ (.int .i64 35)) ∧ W.heap.size ≤ (W.setCell ⟨g, (k + 1) * 3, none⟩ (.int .i64 35)).heap.size from ⟨fun j hj _ => Below.heap_setCell _ _ _ _ (hj g 0 rfl), hb1.size⟩))
    clear hT1 hb1 hfz hfz0 h
    have e00 := tmh h0
    clear h0
    go_enter Tryz.func111, Tryz.ntmps111
    go_wp2_with (go_at_call 110; (with_reducible refine HS.mono ?_); rintro e w1 ⟨rfl, h1, h2, h3⟩)
    go_end0
    exact ⟨rfl, h1, HB.out.1.trans h2, HB.out.2.1.trans h3 HB.out.2.2⟩
  · rw [if_neg h0]
    have e0 : (P.a k == 0) = false := by simp [h0]
    have HS1 := stepK_any W h hn (k + 1) hk
    have HS3 : Calls Tryz.prog 110 #[.pointer (some ⟨tb, 0, none⟩), .int .i64 ((k : Int) + 1)] W fun e W' => e = .returned (.tuple #[]) ∧ TD Sf Hf W' base tb (stepI P (k + 1)) (some ⟨g, 0, none⟩) ep cc ec ∧ Below base W W' ∧ KgP (some ⟨g, 0, none⟩) W W' := HS1
    clear hfz hfz0 h
    have e00 := tmh h0
    clear h0
    go_enter Tryz.func111, Tryz.ntmps111
    go_upto_region 3 with (go_at_call 110; (first | with_reducible refine HS1.mono ?_ | with_reducible refine HS3.mono ?_); rintro e w1 ⟨rfl, h1, h2, h3⟩; have H1 := tmh (And.intro h1 (And.intro h2 h3)); clear h1 h2 h3)
    have HS2 := stepK_any _ H1.out.1 hn k (by show k < P.n; omega)
    clear HS1 HS3
    go_wp2_with (go_at_call 110; (with_reducible refine HS2.mono ?_); rintro e w2 ⟨rfl, h1, h2, h3⟩)
    go_end0
    exact ⟨rfl, h1, H1.out.2.1.trans h2, H1.out.2.2.trans h3 H1.out.2.1.size⟩
end Go.Proofs.YtopggemomcoalaaGreat
