import Derived.Test.YtopggemomcoalaaGreatJTU5
import Derived.Test.YtopggemomcoalaaGreatJTZ4
namespace Go.Proofs.YtopggemomcoalaaGreat
set_option linter.unusedVariables false
set_option linter.unusedSimpArgs false

/-! ### what is computed ahead: the converse -/
theorem q2_vfg {o : Int} (ho : two2 o = true) (x y : Int) : Vf (q2 o x y) lq := by
  obtain ⟨p1, p2, p3, p4⟩ := two2_io ho
  obtain ⟨k1, k2, k3⟩ := two2_pl (P := q2 o x y) ho
  have hr := two2_o ho
  have h5 : ∀ i, i < 5 → i = 0 ∨ i = 1 ∨ i = 2 ∨ i = 3 ∨ i = 4 := fun i hi => by omega
  refine ⟨⟨⟨of_decide_eq_true rfl, of_decide_eq_true rfl⟩, ⟨of_decide_eq_true rfl, of_decide_eq_true rfl⟩, of_decide_eq_true rfl, of_decide_eq_true rfl⟩, fun i hi => ?_, fun j hj => ⟨of_decide_eq_true rfl, of_decide_eq_true rfl⟩, fun j hj _ => rfl, fun i hi => ?_, fun i hi _ => ?_, fun i hi _ he => ?_, fun i hi _ hj => ?_⟩
  · rcases h5 i hi with rfl | rfl | rfl | rfl | rfl
    · show insErr (q2 o x y) 1 x 0 = 0
      unfold insErr
      rw [if_neg (by decide), if_neg (by decide), if_neg (by decide), if_pos (.inl rfl)]
    · show insErr (q2 o x y) 1 y 0 = 0
      unfold insErr
      rw [if_neg (by decide), if_neg (by decide), if_neg (by decide), if_pos (.inl rfl)]
    · show insErr (q2 o x y) o 0 0 = 0
      unfold insErr
      rw [if_neg (by omega), if_neg k1, if_neg (by decide), if_pos (.inr ⟨Int.le_refl _, by rw [k3]; decide⟩)]
    · show insErr (q2 o x y) 4 0 0 = 0
      rfl
    · show insErr (q2 o x y) 0 0 0 = 0
      rfl
  · rcases h5 i hi with rfl | rfl | rfl | rfl | rfl <;> exact of_decide_eq_true rfl
  · rcases h5 i hi with rfl | rfl | rfl | rfl | rfl
    · exact ⟨of_decide_eq_true rfl, of_decide_eq_true rfl⟩
    · exact ⟨of_decide_eq_true rfl, of_decide_eq_true rfl⟩
    · show 0 ≤ (2 : Int) - pops o ∧ (2 : Int) - pops o + pushes o ≤ 64
      omega
    · exact ⟨of_decide_eq_true rfl, of_decide_eq_true rfl⟩
    · exact ⟨of_decide_eq_true rfl, of_decide_eq_true rfl⟩
  · rcases h5 i hi with rfl | rfl | rfl | rfl | rfl
    · exact ⟨of_decide_eq_true rfl, of_decide_eq_true rfl⟩
    · exact ⟨of_decide_eq_true rfl, of_decide_eq_true rfl⟩
    · refine ⟨of_decide_eq_true rfl, ?_⟩
      show (1 : Int) = (2 : Int) - pops o + pushes o
      omega
    · exact ⟨of_decide_eq_true rfl, of_decide_eq_true rfl⟩
    · cases he
  · rcases h5 i hi with rfl | rfl | rfl | rfl | rfl
    · cases hj
    · cases hj
    · have hj : jmp o = true := hj
      rw [p4] at hj
      cases hj
    · cases hj
    · cases hj
def lq1 (i : Nat) : Int := if i = 0 then 0 else if i = 1 then 1 else if i = 2 then 1 else 0
theorem q1_vfg {o : Int} (ho : one1 o = true) (x : Int) : Vf (q1 o x) lq1 := by
  obtain ⟨p1, p2, p3, p4⟩ := one1_io ho
  obtain ⟨k1, k2, k3⟩ := one1_pl (P := q1 o x) ho
  have hr := one1_o ho
  have h5 : ∀ i, i < 4 → i = 0 ∨ i = 1 ∨ i = 2 ∨ i = 3 := fun i hi => by omega
  refine ⟨⟨⟨of_decide_eq_true rfl, of_decide_eq_true rfl⟩, ⟨of_decide_eq_true rfl, of_decide_eq_true rfl⟩, of_decide_eq_true rfl, of_decide_eq_true rfl⟩, fun i hi => ?_, fun j hj => ⟨of_decide_eq_true rfl, of_decide_eq_true rfl⟩, fun j hj _ => rfl, fun i hi => ?_, fun i hi _ => ?_, fun i hi _ he => ?_, fun i hi _ hj => ?_⟩
  · rcases h5 i hi with rfl | rfl | rfl | rfl
    · show insErr (q1 o x) 1 x 0 = 0
      unfold insErr
      rw [if_neg (by decide), if_neg (by decide), if_neg (by decide), if_pos (.inl rfl)]
    · show insErr (q1 o x) o 0 0 = 0
      unfold insErr
      rw [if_neg (by omega), if_neg k1, if_neg (by decide), if_pos (.inr ⟨Int.le_refl _, by rw [k3]; decide⟩)]
    · show insErr (q1 o x) 4 0 0 = 0
      rfl
    · show insErr (q1 o x) 0 0 0 = 0
      rfl
  · rcases h5 i hi with rfl | rfl | rfl | rfl <;> exact of_decide_eq_true rfl
  · rcases h5 i hi with rfl | rfl | rfl | rfl
    · exact ⟨of_decide_eq_true rfl, of_decide_eq_true rfl⟩
    · show 0 ≤ (1 : Int) - pops o ∧ (1 : Int) - pops o + pushes o ≤ 64
      omega
    · exact ⟨of_decide_eq_true rfl, of_decide_eq_true rfl⟩
    · exact ⟨of_decide_eq_true rfl, of_decide_eq_true rfl⟩
  · rcases h5 i hi with rfl | rfl | rfl | rfl
    · exact ⟨of_decide_eq_true rfl, of_decide_eq_true rfl⟩
    · refine ⟨of_decide_eq_true rfl, ?_⟩
      show (1 : Int) = (1 : Int) - pops o + pushes o
      omega
    · exact ⟨of_decide_eq_true rfl, of_decide_eq_true rfl⟩
    · cases he
  · rcases h5 i hi with rfl | rfl | rfl | rfl
    · cases hj
    · have hj : jmp o = true := hj
      rw [p4] at hj
      cases hj
    · cases hj
    · cases hj
theorem eff_zero {Q : Pg} {L : Nat → Int} (v : Vf Q L) {f : Nat} (hf : Q.n = f) (hm : Q.m = 1) (hw : Q.words = 1) (h4 : f ≤ 4096) (he : Q.en 0 = 0) (h : (runP Q (clQ f) f 0 (newM (fun _ => 0) 0 0 (.slice none 0 0))).1 = 0) : (effQ Q).code = 0 := by
  subst hf
  have hr : runOf Q (clQ Q.n) (fun _ => 0) 0 0 = runP Q (clQ Q.n) Q.n 0 (newM (fun _ => 0) 0 0 (.slice none 0 0)) := by
    show runP Q (clQ Q.n) ((Q.n : Int)).toNat (Q.en (0 : Int).toNat).toNat _ = _
    rw [show ((0 : Int)).toNat = 0 from rfl, he]
    rfl
  have hfit : fitsB Q (clQ Q.n) 1 = true := by
    unfold fitsB
    rw [hm, hw]
    show (true && true && true && true && true && true && true && decide ((0 : Int) ≤ (Q.n : Int)) && decide ((Q.n : Int) ≤ 4096)) = true
    rw [decide_eq_true (by omega), decide_eq_true (by omega)]
    rfl
  have h3 : ¬ Q.en (clQ Q.n).kind.toNat = -1 := by
    show ¬ Q.en 0 = -1
    rw [he]; decide
  have c1 : ¬ dcode Q Q.m ≠ 0 := fun h => h v.code
  have c2 : ¬ fitsB Q (clQ Q.n) 1 = false := by rw [hfit]; exact Bool.noConfusion
  have c4 : ¬ (runOf Q (clQ Q.n) (fun _ => 0) 0 0).1 ≠ 0 := fun h9 => h9 (by rw [hr]; exact h)
  unfold effQ effP
  rw [if_neg c1, if_neg c2, if_neg h3, if_neg c4]
theorem R2_is {o : Int} (ho : two2 o = true) (x y : Int) : R2f o x y = if (pairV o x y).2 = 0 then some (pairV o x y).1 else none := by
  by_cases hz : (pairV o x y).2 = 0
  · rw [if_pos hz]
    cases h : R2f o x y with
    | some z =>
      have := R2_val ho h
      rw [this]
    | none =>
      exfalso
      have hc : (effQ (q2 o x y)).code = 0 := by
        refine eff_zero (q2_vfg ho x y) (f := 5) rfl rfl rfl (by decide) rfl ?_
        have e1 : (q2 o x y).op (0 + 1 + 1) = o := rfl
        have e2 : (q2 o x y).a 0 = x := rfl
        have e3 : (q2 o x y).a (0 + 1) = y := rfl
        have e5 : (q2 o x y).op (0 + 1 + 1 + 1) = 4 := rfl
        rw [run_push (P := q2 o x y) (i := 0) rfl, run_push (P := q2 o x y) (i := 0 + 1) rfl, run_two (P := q2 o x y) (i := 0 + 1 + 1) ho, top_us, top_push, top_push2, e1, e2, e3, if_pos hz, runP_go (i := 0 + 1 + 1 + 1) (by rw [e5]; decide) rfl, runP_stop (i := 0 + 1 + 1 + 1 + 1) rfl]
      unfold R2f at h
      rw [if_pos hc] at h
      cases h
  · rw [if_neg hz]
    cases h : R2f o x y with
    | none => rfl
    | some z =>
      have := R2_val ho h
      rw [this] at hz
      exact absurd rfl hz
theorem R1_is {o : Int} (ho : one1 o = true) (x : Int) : R1f o x = some (singleV o x) := by
  cases h : R1f o x with
  | some z => rw [R1_val ho h]
  | none =>
    exfalso
    have hc : (effQ (q1 o x)).code = 0 := by
      refine eff_zero (q1_vfg ho x) (f := 4) rfl rfl rfl (by decide) rfl ?_
      have e1 : (q1 o x).op (0 + 1) = o := rfl
      have e5 : (q1 o x).op (0 + 1 + 1) = 4 := rfl
      rw [run_push (P := q1 o x) (i := 0) rfl, run_one (P := q1 o x) (i := 0 + 1) ho, runP_go (i := 0 + 1 + 1) (by rw [e5]; decide) rfl, runP_stop (i := 0 + 1 + 1 + 1) rfl]
    unfold R1f at h
    rw [if_pos hc] at h
    cases h
/-- one look of the document's, by what lies there -/
def dfat (fr : Nat → Bool) (P : Pg) (c : Nat) : Pg × Nat :=
  if P.op c = 1 ∧ fr (c + 1) = true ∧ fr (c + 2) = true ∧ P.op (c + 1) = 1 ∧ two2 (P.op (c + 2)) = true ∧ (pairV (P.op (c + 2)) (P.a c) (P.a (c + 1))).2 = 0 then (fold3 P c (pairV (P.op (c + 2)) (P.a c) (P.a (c + 1))).1, 3)
  else if P.op c = 1 ∧ fr (c + 1) = true ∧ one1 (P.op (c + 1)) = true then (fold2 P c (singleV (P.op (c + 1)) (P.a c)), 2)
  else if P.op c = 1 ∧ fr (c + 1) = true ∧ P.op (c + 1) = 2 then (foldPop P c, 2)
  else if P.op c = 1 ∧ fr (c + 1) = true ∧ P.op (c + 1) = 36 then (foldZero P c, 2)
  else (P, 1)
theorem dfat_is (fr : Nat → Bool) (P : Pg) (c : Nat) : fatP R2f R1f fr P c = dfat fr P c := by
  unfold fatP dfat
  by_cases h1 : P.op c = 1 ∧ fr (c + 1) = true
  · rw [if_pos h1]
    by_cases h2 : P.op (c + 1) = 1 ∧ fr (c + 2) = true ∧ two2 (P.op (c + 2)) = true
    · rw [if_pos h2, R2_is h2.2.2]
      have n1 : ¬ (P.op c = 1 ∧ fr (c + 1) = true ∧ one1 (P.op (c + 1)) = true) := fun h => by have := h.2.2; rw [h2.1] at this; cases this
      have n2 : ¬ (P.op c = 1 ∧ fr (c + 1) = true ∧ P.op (c + 1) = 2) := fun h => by have := h.2.2; rw [h2.1] at this; cases this
      have n3 : ¬ (P.op c = 1 ∧ fr (c + 1) = true ∧ P.op (c + 1) = 36) := fun h => by have := h.2.2; rw [h2.1] at this; cases this
      by_cases hz : (pairV (P.op (c + 2)) (P.a c) (P.a (c + 1))).2 = 0
      · rw [if_pos hz, if_pos ⟨h1.1, h1.2, h2.2.1, h2.1, h2.2.2, hz⟩]
      · have n0 : ¬ (P.op c = 1 ∧ fr (c + 1) = true ∧ fr (c + 2) = true ∧ P.op (c + 1) = 1 ∧ two2 (P.op (c + 2)) = true ∧ (pairV (P.op (c + 2)) (P.a c) (P.a (c + 1))).2 = 0) := fun h => hz h.2.2.2.2.2
        rw [if_neg hz, if_neg n0, if_neg n1, if_neg n2, if_neg n3]
    · have n0 : ¬ (P.op c = 1 ∧ fr (c + 1) = true ∧ fr (c + 2) = true ∧ P.op (c + 1) = 1 ∧ two2 (P.op (c + 2)) = true ∧ (pairV (P.op (c + 2)) (P.a c) (P.a (c + 1))).2 = 0) := fun h => h2 ⟨h.2.2.2.1, h.2.2.1, h.2.2.2.2.1⟩
      rw [if_neg h2, if_neg n0]
      by_cases h3 : one1 (P.op (c + 1)) = true
      · rw [if_pos h3, if_pos ⟨h1.1, h1.2, h3⟩, R1_is h3]
      · have nn : ¬ (P.op c = 1 ∧ fr (c + 1) = true ∧ one1 (P.op (c + 1)) = true) := fun h => h3 h.2.2
        rw [if_neg h3, if_neg nn]
        by_cases h4 : P.op (c + 1) = 2
        · rw [if_pos h4, if_pos ⟨h1.1, h1.2, h4⟩]
        · rw [if_neg h4]
          have n4 : ¬ (P.op c = 1 ∧ fr (c + 1) = true ∧ P.op (c + 1) = 2) := fun h => h4 h.2.2
          rw [if_neg n4]
          by_cases h5 : P.op (c + 1) = 36
          · rw [if_pos h5, if_pos ⟨h1.1, h1.2, h5⟩]
          · have n5 : ¬ (P.op c = 1 ∧ fr (c + 1) = true ∧ P.op (c + 1) = 36) := fun h => h5 h.2.2
            rw [if_neg h5, if_neg n5]
  · have m0 : ¬ (P.op c = 1 ∧ fr (c + 1) = true ∧ fr (c + 2) = true ∧ P.op (c + 1) = 1 ∧ two2 (P.op (c + 2)) = true ∧ (pairV (P.op (c + 2)) (P.a c) (P.a (c + 1))).2 = 0) := fun h => h1 ⟨h.1, h.2.1⟩
    have m1 : ∀ p : Prop, ¬ (P.op c = 1 ∧ fr (c + 1) = true ∧ p) := fun p h => h1 ⟨h.1, h.2.1⟩
    rw [if_neg h1, if_neg m0, if_neg (m1 _), if_neg (m1 _), if_neg (m1 _)]
end Go.Proofs.YtopggemomcoalaaGreat
namespace Go.Proofs.YtopggemomcoalaaGreat
open Go.ChangeShapes Go.WideShapes Go.ChangeAt Go.RowKit
set_option linter.unusedVariables false
set_option linter.unusedSimpArgs false

/-! ### the document's triple -/
variable {Sf : Nat → Prop} {Hf : Nat → Option Obj} {base tb g : Nat} {P : Pg} {lq : Option Addr} {lc lx : Nat}
theorem two2_bits (o : Int) : two2 o = ((decide (13 ≤ o) && decide (o ≤ 22)) || (decide (26 ≤ o) && decide (o ≤ 33))) := rfl
set_option maxRecDepth 100000 in
set_option maxHeartbeats 8000000 in
theorem triple_no2 (W : World) (hT : PB Sf Hf W base tb P (some ⟨g, 0, none⟩) lq lc lx) (c : Nat) (hc : c + 2 < P.n) (hn : P.n ≤ 4096) (ho : two2 (P.op (c + 2)) = false) (hB : base ≤ W.heap.size) :
    Calls Tryz.prog 57 #[.slice (some ⟨g, 0, none⟩) P.n lc, .int .i64 (c : Int)] W fun e W' => e = .returned (.int .i64 0) ∧ PB Sf Hf W' base tb P (some ⟨g, 0, none⟩) lq lc lx ∧ Below base W W' := by
  obtain ⟨⟨x0, _, _⟩, _⟩ := hT.ins (k := c + 2) hc
  rw [two2_bits] at ho
  generalize P.op (c + 2) = o at ho x0
  obtain ⟨k2, hk2⟩ : ∃ k2, c + 2 = k2 := ⟨_, rfl⟩
  rw [hk2] at x0
  have e2 : IntKind.i64.wrap ((c : Int) + 2) = (k2 : Int) := by rw [IntKind.wrap_i64]; omega
  have i0 : (0 : Int) ≤ (k2 : Int) := by omega
  have i1 : (k2 : Int) < (P.n : Int) := by omega
  have H0 := tmh hT
  clear hT hk2
  have hcase : ((decide (13 ≤ o) = false ∧ decide (o ≤ 22) = true) ∧ decide (26 ≤ o) = false ∧ decide (o ≤ 33) = true) ∨ ((decide (13 ≤ o) = true ∧ decide (o ≤ 22) = false) ∧ decide (26 ≤ o) = false ∧ decide (o ≤ 33) = true) ∨ ((decide (13 ≤ o) = true ∧ decide (o ≤ 22) = false) ∧ decide (26 ≤ o) = true ∧ decide (o ≤ 33) = false) := by
    simp at ho ⊢
    omega
  clear ho
  rcases hcase with ⟨⟨h1, h2⟩, h3, h4⟩ | ⟨⟨h1, h2⟩, h3, h4⟩ | ⟨⟨h1, h2⟩, h3, h4⟩
  all_goals
    go_enter Tryz.func57, Tryz.ntmps57
    go_wp2_with fail
    go_ret
    exact ⟨rfl, H0.out, Below.refl _ _⟩
set_option maxRecDepth 100000 in
set_option maxHeartbeats 8000000 in
theorem triple_bad (W : World) (hT : PB Sf Hf W base tb P (some ⟨g, 0, none⟩) lq lc lx) (c : Nat) (hc : c + 2 < P.n) (hn : P.n ≤ 4096) (ho : two2 (P.op (c + 2)) = true) (hb : In64 (P.a (c + 1))) (hz : (pairV (P.op (c + 2)) (P.a c) (P.a (c + 1))).2 ≠ 0) (hB : base ≤ W.heap.size) :
    Calls Tryz.prog 57 #[.slice (some ⟨g, 0, none⟩) P.n lc, .int .i64 (c : Int)] W fun e W' => e = .returned (.int .i64 0) ∧ PB Sf Hf W' base tb P (some ⟨g, 0, none⟩) lq lc lx ∧ Below base W W' := by
  obtain ⟨⟨x0, _, _⟩, _⟩ := hT.ins (k := c + 2) hc
  obtain ⟨⟨_, a1, _⟩, _⟩ := hT.ins (k := c) (by omega)
  obtain ⟨⟨_, b1, _⟩, _⟩ := hT.ins (k := c + 1) (by omega)
  have hBo : Hid (∀ w, Calls Tryz.prog 96 #[.int .i64 (P.op (c + 2)), .int .i64 (P.a c), .int .i64 (P.a (c + 1))] w fun e w' => e = .returned (.tuple #[.int .i64 (pairV (P.op (c + 2)) (P.a c) (P.a (c + 1))).1, .int .i64 (pairV (P.op (c + 2)) (P.a c) (P.a (c + 1))).2]) ∧ w' = w) := tmh fun w => both_any ho hb w
  rw [two2_bits] at ho
  obtain ⟨z, hz1⟩ : ∃ z, (pairV (P.op (c + 2)) (P.a c) (P.a (c + 1))).1 = z := ⟨_, rfl⟩
  obtain ⟨f, hz2⟩ : ∃ f, (pairV (P.op (c + 2)) (P.a c) (P.a (c + 1))).2 = f := ⟨_, rfl⟩
  rw [hz1, hz2] at hBo
  rw [hz2] at hz
  skip
  generalize P.op (c + 2) = o at ho x0 hBo
  generalize P.a c = ax at a1 hBo
  generalize P.a (c + 1) = bx at b1 hBo
  obtain ⟨k1, hk1⟩ : ∃ k1, c + 1 = k1 := ⟨_, rfl⟩
  obtain ⟨k2, hk2⟩ : ∃ k2, c + 2 = k2 := ⟨_, rfl⟩
  rw [hk2] at x0
  rw [hk1] at b1
  have e1 : IntKind.i64.wrap ((c : Int) + 1) = (k1 : Int) := by rw [IntKind.wrap_i64]; omega
  have e2 : IntKind.i64.wrap ((c : Int) + 2) = (k2 : Int) := by rw [IntKind.wrap_i64]; omega
  have i0 : (0 : Int) ≤ (k2 : Int) := by omega
  have i1 : (k2 : Int) < (P.n : Int) := by omega
  have j0 : (0 : Int) ≤ (k1 : Int) := by omega
  have j1 : (k1 : Int) < (P.n : Int) := by omega
  have l0 : (0 : Int) ≤ (c : Int) := by omega
  have l1 : (c : Int) < (P.n : Int) := by omega
  have q1 : (f != 0) = true := by simpa using hz
  have H0 := tmh hT
  have HK := tmh (And.intro hk1 (And.intro hk2 hz1))
  clear hT hk1 hk2 hz1 hz2 hz hb
  have hcase : ((decide (13 ≤ o) = true ∧ decide (o ≤ 22) = true) ∧ decide (26 ≤ o) = false ∧ decide (o ≤ 33) = true) ∨ ((decide (13 ≤ o) = true ∧ decide (o ≤ 22) = false) ∧ decide (26 ≤ o) = true ∧ decide (o ≤ 33) = true) := by
    simp at ho ⊢
    omega
  clear ho
  rcases hcase with ⟨⟨h1, h2⟩, h3, h4⟩ | ⟨⟨h1, h2⟩, h3, h4⟩
  all_goals
    go_enter Tryz.func57, Tryz.ntmps57
    go_upto_region 4 with fail
    go_region_held3 (fun w' => w'.cell? ⟨g, c * 3 + 1, none⟩ = some (.int .i64 ax) ∧ w'.cell? ⟨g, k1 * 3 + 1, none⟩ = some (.int .i64 bx)) (first | exact ⟨a1, b1⟩ | with_reducible exact KP | go_keep) ((go_at_call 96; (with_reducible refine (hBo.out _).mono ?_); rintro e w10 ⟨rfl, hw10⟩; have KP : (fun w' => w'.cell? ⟨g, c * 3 + 1, none⟩ = some (.int .i64 ax) ∧ w'.cell? ⟨g, k1 * 3 + 1, none⟩ = some (.int .i64 bx)) w10 := (by subst hw10; exact ⟨a1, b1⟩)))
    subst hw10
    go_wp2_with fail
    go_ret
    exact ⟨rfl, H0.out.later (below_drewNq _ _ _), below_drewNq _ _ _⟩
set_option maxRecDepth 100000 in
set_option maxHeartbeats 8000000 in
theorem triple_yes (W : World) (hT : PB Sf Hf W base tb P (some ⟨g, 0, none⟩) lq lc lx) (c : Nat) (hc : c + 2 < P.n) (hn : P.n ≤ 4096) (ho : two2 (P.op (c + 2)) = true) (hb : In64 (P.a (c + 1))) (hz : (pairV (P.op (c + 2)) (P.a c) (P.a (c + 1))).2 = 0) (hB : base ≤ W.heap.size) :
    Calls Tryz.prog 57 #[.slice (some ⟨g, 0, none⟩) P.n lc, .int .i64 (c : Int)] W fun e W' => e = .returned (.int .i64 3) ∧ PB Sf Hf W' base tb (fold3 P c (pairV (P.op (c + 2)) (P.a c) (P.a (c + 1))).1) (some ⟨g, 0, none⟩) lq lc lx ∧ Below base W W' := by
  obtain ⟨⟨x0, _, _⟩, _⟩ := hT.ins (k := c + 2) hc
  obtain ⟨⟨_, a1, _⟩, _⟩ := hT.ins (k := c) (by omega)
  obtain ⟨⟨_, b1, _⟩, _⟩ := hT.ins (k := c + 1) (by omega)
  have hBo : Hid (∀ w, Calls Tryz.prog 96 #[.int .i64 (P.op (c + 2)), .int .i64 (P.a c), .int .i64 (P.a (c + 1))] w fun e w' => e = .returned (.tuple #[.int .i64 (pairV (P.op (c + 2)) (P.a c) (P.a (c + 1))).1, .int .i64 (pairV (P.op (c + 2)) (P.a c) (P.a (c + 1))).2]) ∧ w' = w) := tmh fun w => both_any ho hb w
  rw [two2_bits] at ho
  obtain ⟨z, hz1⟩ : ∃ z, (pairV (P.op (c + 2)) (P.a c) (P.a (c + 1))).1 = z := ⟨_, rfl⟩
  obtain ⟨f, hz2⟩ : ∃ f, (pairV (P.op (c + 2)) (P.a c) (P.a (c + 1))).2 = f := ⟨_, rfl⟩
  rw [hz1, hz2] at hBo
  rw [hz2] at hz
  rw [hz1]
  generalize P.op (c + 2) = o at ho x0 hBo
  generalize P.a c = ax at a1 hBo
  generalize P.a (c + 1) = bx at b1 hBo
  obtain ⟨k1, hk1⟩ : ∃ k1, c + 1 = k1 := ⟨_, rfl⟩
  obtain ⟨k2, hk2⟩ : ∃ k2, c + 2 = k2 := ⟨_, rfl⟩
  rw [hk2] at x0
  rw [hk1] at b1
  have e1 : IntKind.i64.wrap ((c : Int) + 1) = (k1 : Int) := by rw [IntKind.wrap_i64]; omega
  have e2 : IntKind.i64.wrap ((c : Int) + 2) = (k2 : Int) := by rw [IntKind.wrap_i64]; omega
  have i0 : (0 : Int) ≤ (k2 : Int) := by omega
  have i1 : (k2 : Int) < (P.n : Int) := by omega
  have j0 : (0 : Int) ≤ (k1 : Int) := by omega
  have j1 : (k1 : Int) < (P.n : Int) := by omega
  have l0 : (0 : Int) ≤ (c : Int) := by omega
  have l1 : (c : Int) < (P.n : Int) := by omega
  have q1 : (f != 0) = false := by simp [hz]
  have H0 := tmh hT
  have HK := tmh (And.intro hk1 (And.intro hk2 hz1))
  clear hT hk1 hk2 hz1 hz2 hz hb
  have hcase : ((decide (13 ≤ o) = true ∧ decide (o ≤ 22) = true) ∧ decide (26 ≤ o) = false ∧ decide (o ≤ 33) = true) ∨ ((decide (13 ≤ o) = true ∧ decide (o ≤ 22) = false) ∧ decide (26 ≤ o) = true ∧ decide (o ≤ 33) = true) := by
    simp at ho ⊢
    omega
  clear ho
  rcases hcase with ⟨⟨h1, h2⟩, h3, h4⟩ | ⟨⟨h1, h2⟩, h3, h4⟩
  all_goals
    go_enter Tryz.func57, Tryz.ntmps57
    go_upto_region 4 with fail
    go_region_held3 (fun w' => w'.cell? ⟨g, c * 3 + 1, none⟩ = some (.int .i64 ax) ∧ w'.cell? ⟨g, k1 * 3 + 1, none⟩ = some (.int .i64 bx)) (first | exact ⟨a1, b1⟩ | with_reducible exact KP | go_keep) ((go_at_call 96; (with_reducible refine (hBo.out _).mono ?_); rintro e w10 ⟨rfl, hw10⟩; have KP : (fun w' => w'.cell? ⟨g, c * 3 + 1, none⟩ = some (.int .i64 ax) ∧ w'.cell? ⟨g, k1 * 3 + 1, none⟩ = some (.int .i64 bx)) w10 := (by subst hw10; exact ⟨a1, b1⟩)))
    subst hw10
    go_upto_region 7 with fail
    have hT1 := H0.out.later (below_drewNq W.heap.size W 1)
    generalize hWd : W.drew = Wd
    have hb1 : Below base W Wd := by rw [← hWd]; exact below_drewNq _ W 1
    have hT1 : PB Sf Hf Wd base tb P (some ⟨g, 0, none⟩) lq lc lx := by rw [← hWd]; exact hT1
    have H1 := tmh (And.intro hT1 hb1)
    clear hT1 hb1 hWd a1 b1 x0 KP h1 h2 h3 h4
    obtain ⟨⟨u0, u1, u2⟩, uf⟩ := H1.out.1.ins (k := c) (by omega)
    have f0 := uf (c * 3)
    have f1 := uf (c * 3 + 1)
    have f2 := uf (c * 3 + 2)
    go_upto_region 8 with fail
    have hT2 := H1.out.1.setI c 35 (k1 : Int) 0
    have e3 : ((Wd.setCell ⟨g, c * 3, none⟩ (.int .i64 35)).setCell ⟨g, c * 3 + 1, none⟩ (.int .i64 (k1 : Int))).setCell ⟨g, c * 3 + 2, none⟩ (.int .i64 0) = Wd.setCells g (c * 3) [.int .i64 35, .int .i64 (k1 : Int), .int .i64 0] := rfl
    rw [← e3] at hT2
    have hb2 : Below base W (((Wd.setCell ⟨g, c * 3, none⟩ (.int .i64 35)).setCell ⟨g, c * 3 + 1, none⟩ (.int .i64 (k1 : Int))).setCell ⟨g, c * 3 + 2, none⟩ (.int .i64 0)) := ((H1.out.2.setCell (p := ⟨g, c * 3, none⟩) H1.out.1.gb.1 _).setCell (p := ⟨g, c * 3 + 1, none⟩) H1.out.1.gb.1 _).setCell (p := ⟨g, c * 3 + 2, none⟩) H1.out.1.gb.1 _
    generalize ((Wd.setCell ⟨g, c * 3, none⟩ (.int .i64 35)).setCell ⟨g, c * 3 + 1, none⟩ (.int .i64 (k1 : Int))).setCell ⟨g, c * 3 + 2, none⟩ (.int .i64 0) = W2 at hT2 hb2 ⊢
    have H2 := tmh (And.intro hT2 hb2)
    clear hT2 hb2 e3 u0 u1 u2 uf f0 f1 f2
    obtain ⟨⟨u0, u1, u2⟩, uf⟩ := H2.out.1.ins (k := k1) (by show k1 < P.n; have := HK.out.1; omega)
    have f0 := uf (k1 * 3)
    have f1 := uf (k1 * 3 + 1)
    have f2 := uf (k1 * 3 + 2)
    go_upto_region 9 with fail
    have hT2 := H2.out.1.setI k1 35 (k2 : Int) 0
    have e3 : ((W2.setCell ⟨g, k1 * 3, none⟩ (.int .i64 35)).setCell ⟨g, k1 * 3 + 1, none⟩ (.int .i64 (k2 : Int))).setCell ⟨g, k1 * 3 + 2, none⟩ (.int .i64 0) = W2.setCells g (k1 * 3) [.int .i64 35, .int .i64 (k2 : Int), .int .i64 0] := rfl
    rw [← e3] at hT2
    have hb2 : Below base W (((W2.setCell ⟨g, k1 * 3, none⟩ (.int .i64 35)).setCell ⟨g, k1 * 3 + 1, none⟩ (.int .i64 (k2 : Int))).setCell ⟨g, k1 * 3 + 2, none⟩ (.int .i64 0)) := ((H2.out.2.setCell (p := ⟨g, k1 * 3, none⟩) H1.out.1.gb.1 _).setCell (p := ⟨g, k1 * 3 + 1, none⟩) H1.out.1.gb.1 _).setCell (p := ⟨g, k1 * 3 + 2, none⟩) H1.out.1.gb.1 _
    generalize ((W2.setCell ⟨g, k1 * 3, none⟩ (.int .i64 35)).setCell ⟨g, k1 * 3 + 1, none⟩ (.int .i64 (k2 : Int))).setCell ⟨g, k1 * 3 + 2, none⟩ (.int .i64 0) = W3 at hT2 hb2 ⊢
    have H3 := tmh (And.intro hT2 hb2)
    clear hT2 hb2 e3 u0 u1 u2 uf f0 f1 f2
    obtain ⟨⟨u0, u1, u2⟩, uf⟩ := H3.out.1.ins (k := k2) (by show k2 < P.n; have := HK.out.2.1; omega)
    have f0 := uf (k2 * 3)
    have f1 := uf (k2 * 3 + 1)
    have f2 := uf (k2 * 3 + 2)
    go_upto_region 10 with fail
    have hT2 := H3.out.1.setI k2 1 z 0
    have e3 : ((W3.setCell ⟨g, k2 * 3, none⟩ (.int .i64 1)).setCell ⟨g, k2 * 3 + 1, none⟩ (.int .i64 z)).setCell ⟨g, k2 * 3 + 2, none⟩ (.int .i64 0) = W3.setCells g (k2 * 3) [.int .i64 1, .int .i64 z, .int .i64 0] := rfl
    rw [← e3] at hT2
    have hb2 : Below base W (((W3.setCell ⟨g, k2 * 3, none⟩ (.int .i64 1)).setCell ⟨g, k2 * 3 + 1, none⟩ (.int .i64 z)).setCell ⟨g, k2 * 3 + 2, none⟩ (.int .i64 0)) := ((H3.out.2.setCell (p := ⟨g, k2 * 3, none⟩) H1.out.1.gb.1 _).setCell (p := ⟨g, k2 * 3 + 1, none⟩) H1.out.1.gb.1 _).setCell (p := ⟨g, k2 * 3 + 2, none⟩) H1.out.1.gb.1 _
    generalize ((W3.setCell ⟨g, k2 * 3, none⟩ (.int .i64 1)).setCell ⟨g, k2 * 3 + 1, none⟩ (.int .i64 z)).setCell ⟨g, k2 * 3 + 2, none⟩ (.int .i64 0) = W4 at hT2 hb2 ⊢
    have H4 := tmh (And.intro hT2 hb2)
    clear hT2 hb2 e3 u0 u1 u2 uf f0 f1 f2
    go_wp2_with fail
    go_ret
    have he : fold3 P c z = setI (setI (setI P c 35 (k1 : Int) 0) k1 35 (k2 : Int) 0) k2 1 z 0 := by
      rw [← HK.out.1, ← HK.out.2.1]
      rfl
    rw [he]
    exact ⟨rfl, H4.out.1, H4.out.2⟩
end Go.Proofs.YtopggemomcoalaaGreat
