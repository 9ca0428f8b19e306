import Derived.Test.YtopggemomcoalaaGreatJTW13
namespace Go.Proofs.YtopggemomcoalaaGreat
open Go.ChangeShapes Go.WideShapes Go.ChangeAt Go.RowKit
set_option linter.unusedVariables false
set_option linter.unusedSimpArgs false

/-! ### foldAt -/
variable {Sf : Nat → Prop} {Hf : Nat → Option Obj} {base tb : Nat} {P : Pg} {cp ep : Option Addr} {cc ec : Nat}
set_option maxRecDepth 100000 in
set_option maxHeartbeats 16000000 in
theorem foldAt_any {L : Nat → Int} (v : Vf P L) (hf : Full P L) (ha : ∀ i, i < P.n → In64 (P.a i)) (fr : Nat → Bool) (q fc b2 : Nat) (c : Nat) (hc : c < P.n) (W : World) (h : TD Sf Hf W base tb P cp ep cc ec) (hB : base ≤ W.heap.size) (hO : Own W b2 4 1 (.slice (some ⟨q, 0, none⟩) P.n fc) P.n (fun x => .bool (fr x))) :
    Calls Tryz.prog 87 #[.pointer (some ⟨tb, 0, none⟩), .int .i64 (c : Int), .slice (some ⟨q, 0, none⟩) P.n fc] W fun e W' => e = .returned (.int .i64 (((fatP R2f R1f fr P c).2 : Nat) : Int)) ∧ TD Sf Hf W' base tb (fatP R2f R1f fr P c).1 cp ep cc ec ∧ Below base W W' ∧ KgP cp W W' := by
  have hn := v.sz.2.2.1
  obtain ⟨g, hg⟩ := h.ip (by omega)
  subst hg
  obtain ⟨y0, y1, y2, y3⟩ := h.cells
  obtain ⟨⟨x0, x1, x2⟩, _⟩ := h.ins hc
  have hlt := ltB h.bx
  have n1 : tb ≠ W.heap.size := by omega
  have n2 : W.heap.size ≠ tb := by omega
  have i0 : (0 : Int) ≤ (c : Int) := by omega
  have i1 : (c : Int) < (P.n : Int) := by omega
  have ek : IntKind.i64.wrap ((c : Int) + 1) = ((c + 1 : Nat) : Int) := by rw [IntKind.wrap_i64]; omega
  have ek2 : IntKind.i64.wrap ((c : Int) + 2) = ((c + 2 : Nat) : Int) := by rw [IntKind.wrap_i64]; omega
  have H0 := tmh (And.intro h (And.intro hB (And.intro (Below.refl base W) (show KgP (some ⟨g, 0, none⟩) W W from fun _ _ _ => rfl))))
  rcases (by cases (P.op c == 1) <;> simp : (P.op c == 1) = true ∨ (P.op c == 1) = false) with e1 | e1
  · have h1 : P.op c = 1 := by simpa using e1
    obtain ⟨l1, _, _⟩ := push_L v hf hc h1
    have e1n : (P.op c != 1) = false := by simp [bne, e1]
    obtain ⟨r0, _, _⟩ := own_boolc hO l1
    have j0 : (0 : Int) ≤ ((c + 1 : Nat) : Int) := by omega
    have j1 : ((c + 1 : Nat) : Int) < (P.n : Int) := by omega
    have j2 : (c : Int) + 1 < (P.n : Int) := by omega
    have j3 : (0 : Int) ≤ (c : Int) + 1 := by omega
    rcases (by cases fr (c + 1) <;> simp : fr (c + 1) = true ∨ fr (c + 1) = false) with hfr | hfr
    · rw [hfr] at r0
      obtain ⟨⟨z0, z1, z2⟩, _⟩ := h.ins l1
      obtain ⟨w5, hw5⟩ : ∃ w5, W.alloc (.cells #[.int .i64 (P.op (c + 1)), .int .i64 (P.a (c + 1)), .int .i64 (P.b (c + 1))] 36) = w5 := ⟨_, rfl⟩
      have HW5 := tmh hw5
      have hb5 : Below W.heap.size W w5 := by rw [← hw5]; exact (Below.refl _ W).alloc (Nat.le_refl _) _
      have hx5 : w5.heap[W.heap.size]? = some (.cells #[.int .i64 (P.op (c + 1)), .int .i64 (P.a (c + 1)), .int .i64 (P.b (c + 1))] 36 (0, 0)) := by rw [← hw5]; exact World.alloc_heap_new W _
      have c0 : w5.cell? ⟨W.heap.size, 0, none⟩ = some (.int .i64 (P.op (c + 1))) := by unfold World.cell?; rw [hx5]; rfl
      have hT5 := h.later hb5
      have hO5 := hO.later hb5
      have H5 := tmh (And.intro hT5 (And.intro (Nat.le_trans hB hb5.size) (And.intro (hb5.mono hB) (And.intro (show KgP (some ⟨g, 0, none⟩) W w5 from fun j _ hj => hb5.block j hj) (And.intro hb5.size (And.intro h1 hfr))))))
      have HT1 := takes1_any (P.op (c + 1)) w5
      have HS1 := stepK_any w5 hT5 hn c hc
      have HD1 := decide_any w5 hT5 hn (Nat.le_trans hB hb5.size) c l1
      obtain ⟨y0', y1', y2', y3'⟩ := hT5.cells
      obtain ⟨r1, _, _⟩ := own_boolc hO5 l1
      go_enter Tryz.func87, Tryz.ntmps87
      go_upto_region 4 with fail
      try rw [HW5.out]
      clear x0 x1 x2 y0 y1 y2 y3 z0 z1 z2 r0 n1 n2 HW5 hw5 hb5 hx5 H0
      generalize hOo : P.op (c + 1) = O at c0 HT1
      have HO := tmh hOo
      clear hOo
      rcases (by cases (O == 1) <;> simp : (O == 1) = true ∨ (O == 1) = false) with e2 | e2
      · obtain rfl : O = 1 := by simpa using e2
        rw [show one1 1 = false from rfl] at HT1
        obtain ⟨l2, _, _⟩ := push_L v hf l1 HO.out
        have l2 : c + 2 < P.n := l2
        obtain ⟨r2, _, _⟩ := own_boolc hO5 l2
        have k0 : (0 : Int) ≤ ((c + 2 : Nat) : Int) := by omega
        have k1 : ((c + 2 : Nat) : Int) < (P.n : Int) := by omega
        have k2 : (c : Int) + 2 < (P.n : Int) := by omega
        have k3 : (0 : Int) ≤ (c : Int) + 2 := by omega
        rcases (by cases fr (c + 2) <;> simp : fr (c + 2) = true ∨ fr (c + 2) = false) with hf2 | hf2
        · obtain ⟨⟨z0, z1, z2⟩, _⟩ := hT5.ins l2
          have HT2 := takes2_any (P.op (c + 2)) w5
          rcases (by cases two2 (P.op (c + 2)) <;> simp : two2 (P.op (c + 2)) = true ∨ two2 (P.op (c + 2)) = false) with ht | ht
          · have HC := compute_any (q2 (P.op (c + 2)) (P.a c) (P.a (c + 1))) c 3 (q2_of v ha l2 H5.out.2.2.2.2.2.1 HO.out ht) (by omega) (by omega) (by omega) hn w5 hT5 H5.out.2.1
            have hfp0 : fatP R2f R1f fr P c = match R2f (P.op (c + 2)) (P.a c) (P.a (c + 1)) with
              | some z => (fold3 P c z, 3)
              | none => (P, 1) := by
              unfold fatP
              rw [if_pos ⟨H5.out.2.2.2.2.2.1, H5.out.2.2.2.2.2.2⟩, if_pos ⟨HO.out, hf2, ht⟩]
              rfl
            by_cases hq : (effQ (q2 (P.op (c + 2)) (P.a c) (P.a (c + 1)))).code = 0
            · have hfp : fatP R2f R1f fr P c = (fold3 P c ((effQ (q2 (P.op (c + 2)) (P.a c) (P.a (c + 1)))).wd 0), 3) := by
                rw [hfp0]
                unfold R2f
                rw [if_pos hq]
              have HC2 : Calls Tryz.prog 108 #[.pointer (some ⟨tb, 0, none⟩), .int .i64 (c : Int), .int .i64 3] w5 fun e W' => e = .returned (.int .i64 3) ∧ TD Sf Hf W' base tb (fold3 P c ((effQ (q2 (P.op (c + 2)) (P.a c) (P.a (c + 1)))).wd 0)) (some ⟨g, 0, none⟩) ep cc ec ∧ Below base w5 W' ∧ KgP (some ⟨g, 0, none⟩) w5 W' := HC.mono fun e W' => by
                rintro ⟨h7, h8, h9⟩
                rcases h7 with ⟨_, g2, g3⟩ | ⟨g1, _, _⟩
                · exact ⟨g2, g3, h8, h9⟩
                · exact absurd hq g1
              have HF := tmh hfp
              rw [ht] at HT2
              rw [hf2] at r2
              clear HC hfp hfp0 hq ht hf2 hT5 hO5 hO h v hf ha HS1 HD1 HT1
              go_wp2_with (first | (go_at_call 108; (with_reducible refine HC2.mono ?_); rintro e w6 ⟨rfl, g1, g2, g3⟩) | (go_at_call 107; (with_reducible refine HT2.mono ?_); rintro e w6 ⟨rfl, hw6⟩; subst w6))
              go_ret
              rw [HF.out]
              exact ⟨rfl, g1, H5.out.2.2.1.trans g2, H5.out.2.2.2.1.trans g3 H5.out.2.2.2.2.1⟩
            · have hfp : fatP R2f R1f fr P c = (P, 1) := by
                rw [hfp0]
                unfold R2f
                rw [if_neg hq]
              have HC2 : Calls Tryz.prog 108 #[.pointer (some ⟨tb, 0, none⟩), .int .i64 (c : Int), .int .i64 3] w5 fun e W' => e = .returned (.int .i64 1) ∧ TD Sf Hf W' base tb P (some ⟨g, 0, none⟩) ep cc ec ∧ Below base w5 W' ∧ KgP (some ⟨g, 0, none⟩) w5 W' := HC.mono fun e W' => by
                rintro ⟨h7, h8, h9⟩
                rcases h7 with ⟨g1, _, _⟩ | ⟨_, g2, g3⟩
                · exact absurd g1 hq
                · exact ⟨g2, g3, h8, h9⟩
              have HF := tmh hfp
              rw [ht] at HT2
              rw [hf2] at r2
              clear HC hfp hfp0 hq ht hf2 hT5 hO5 hO h v hf ha HS1 HD1 HT1
              go_wp2_with (first | (go_at_call 108; (with_reducible refine HC2.mono ?_); rintro e w6 ⟨rfl, g1, g2, g3⟩) | (go_at_call 107; (with_reducible refine HT2.mono ?_); rintro e w6 ⟨rfl, hw6⟩; subst w6))
              go_ret
              rw [HF.out]
              exact ⟨rfl, g1, H5.out.2.2.1.trans g2, H5.out.2.2.2.1.trans g3 H5.out.2.2.2.2.1⟩
          · have hfp : fatP R2f R1f fr P c = (P, 1) := by
              unfold fatP
              rw [if_pos ⟨H5.out.2.2.2.2.2.1, H5.out.2.2.2.2.2.2⟩, if_neg (fun h9 => by rw [h9.2.2] at ht; cases ht), HO.out]
              rfl
            have HF := tmh hfp
            rw [ht] at HT2
            rw [hf2] at r2
            clear hfp ht hf2 hT5 hO5 hO h v hf ha HS1 HD1
            go_wp2_with (first | (go_at_call 109; (with_reducible refine HT1.mono ?_); rintro e w6 ⟨rfl, hw6⟩; subst w6) | (go_at_call 107; (with_reducible refine HT2.mono ?_); rintro e w6 ⟨rfl, hw6⟩; subst w6))
            go_ret
            rw [HF.out]
            exact ⟨rfl, H5.out.1, H5.out.2.2.1, H5.out.2.2.2.1⟩
        · have hfp : fatP R2f R1f fr P c = (P, 1) := by
            unfold fatP
            rw [if_pos ⟨H5.out.2.2.2.2.2.1, H5.out.2.2.2.2.2.2⟩, if_neg (fun h9 => by rw [h9.2.1] at hf2; cases hf2), HO.out]
            rfl
          have HF := tmh hfp
          rw [hf2] at r2
          clear hfp hf2 hT5 hO5 hO h v hf ha HS1 HD1
          go_wp2_with (go_at_call 109; (with_reducible refine HT1.mono ?_); rintro e w6 ⟨rfl, hw6⟩; subst w6)
          go_ret
          rw [HF.out]
          exact ⟨rfl, H5.out.1, H5.out.2.2.1, H5.out.2.2.2.1⟩
      · have hO1 : O ≠ 1 := by simpa using e2
        have hfp0 : fatP R2f R1f fr P c = if one1 O = true then (match R1f O (P.a c) with
              | some z => (fold2 P c z, 2)
              | none => (P, 1)) else if O = 2 then (foldPop P c, 2) else if O = 36 then (foldZero P c, 2) else (P, 1) := by
          unfold fatP
          rw [if_pos ⟨H5.out.2.2.2.2.2.1, H5.out.2.2.2.2.2.2⟩, HO.out, if_neg (fun h9 => hO1 h9.1)]
          rfl
        rcases (by cases one1 O <;> simp : one1 O = true ∨ one1 O = false) with ht | ht
        · rw [if_pos ht] at hfp0
          have HC := compute_any (q1 O (P.a c)) c 2 (HO.out ▸ q1_of v ha l1 H5.out.2.2.2.2.2.1 (by rw [HO.out]; exact ht)) (by omega) (by omega) (by omega) hn w5 hT5 H5.out.2.1
          rw [ht] at HT1
          by_cases hq : (effQ (q1 O (P.a c))).code = 0
          · have hfp : fatP R2f R1f fr P c = (fold2 P c ((effQ (q1 O (P.a c))).wd 0), 2) := by
              rw [hfp0]
              unfold R1f
              rw [if_pos hq]
            have HC2 : Calls Tryz.prog 108 #[.pointer (some ⟨tb, 0, none⟩), .int .i64 (c : Int), .int .i64 2] w5 fun e W' => e = .returned (.int .i64 2) ∧ TD Sf Hf W' base tb (fold2 P c ((effQ (q1 O (P.a c))).wd 0)) (some ⟨g, 0, none⟩) ep cc ec ∧ Below base w5 W' ∧ KgP (some ⟨g, 0, none⟩) w5 W' := HC.mono fun e W' => by
              rintro ⟨h7, h8, h9⟩
              rcases h7 with ⟨_, g2, g3⟩ | ⟨g1, _, _⟩
              · exact ⟨g2, g3, h8, h9⟩
              · exact absurd hq g1
            have HF := tmh hfp
            clear HC hfp hfp0 hq ht hT5 hO5 hO h v hf ha HS1 HD1 hO1
            go_wp2_with (first | (go_at_call 108; (with_reducible refine HC2.mono ?_); rintro e w6 ⟨rfl, g1, g2, g3⟩) | (go_at_call 109; (with_reducible refine HT1.mono ?_); rintro e w6 ⟨rfl, hw6⟩; subst w6))
            go_ret
            rw [HF.out]
            exact ⟨rfl, g1, H5.out.2.2.1.trans g2, H5.out.2.2.2.1.trans g3 H5.out.2.2.2.2.1⟩
          · have hfp : fatP R2f R1f fr P c = (P, 1) := by
              rw [hfp0]
              unfold R1f
              rw [if_neg hq]
            have HC2 : Calls Tryz.prog 108 #[.pointer (some ⟨tb, 0, none⟩), .int .i64 (c : Int), .int .i64 2] w5 fun e W' => e = .returned (.int .i64 1) ∧ TD Sf Hf W' base tb P (some ⟨g, 0, none⟩) ep cc ec ∧ Below base w5 W' ∧ KgP (some ⟨g, 0, none⟩) w5 W' := HC.mono fun e W' => by
              rintro ⟨h7, h8, h9⟩
              rcases h7 with ⟨g1, _, _⟩ | ⟨_, g2, g3⟩
              · exact absurd g1 hq
              · exact ⟨g2, g3, h8, h9⟩
            have HF := tmh hfp
            clear HC hfp hfp0 hq ht hT5 hO5 hO h v hf ha HS1 HD1 hO1
            go_wp2_with (first | (go_at_call 108; (with_reducible refine HC2.mono ?_); rintro e w6 ⟨rfl, g1, g2, g3⟩) | (go_at_call 109; (with_reducible refine HT1.mono ?_); rintro e w6 ⟨rfl, hw6⟩; subst w6))
            go_ret
            rw [HF.out]
            exact ⟨rfl, g1, H5.out.2.2.1.trans g2, H5.out.2.2.2.1.trans g3 H5.out.2.2.2.2.1⟩
        · rw [if_neg (by rw [ht]; exact Bool.false_ne_true)] at hfp0
          rw [ht] at HT1
          rcases (by cases (O == 2) <;> simp : (O == 2) = true ∨ (O == 2) = false) with e3 | e3
          · obtain rfl : O = 2 := by simpa using e3
            have hfp : fatP R2f R1f fr P c = (foldPop P c, 2) := by rw [hfp0, if_pos rfl]
            have HF := tmh hfp
            clear hfp hfp0 ht hO5 hO h v hf ha HD1 hO1 e2 e3
            go_upto_region 10 with (first | (go_at_call 109; (with_reducible refine HT1.mono ?_); rintro e w6 ⟨rfl, hw6⟩; subst w6) | (go_at_call 110; (with_reducible refine HS1.mono ?_); rintro e w6 ⟨rfl, g1, g2, g3⟩; have H6 := tmh (And.intro g1 (And.intro g2 g3)); clear g1 g2 g3))
            have HS2 := stepK_any w6 H6.out.1 hn (c + 1) l1
            have HS3 : Calls Tryz.prog 110 #[.pointer (some ⟨tb, 0, none⟩), .int .i64 ((c : Int) + 1)] w6 fun e W' => e = .returned (.tuple #[]) ∧ TD Sf Hf W' base tb (stepI (stepI P c) (c + 1)) (some ⟨g, 0, none⟩) ep cc ec ∧ Below base w6 W' ∧ KgP (some ⟨g, 0, none⟩) w6 W' := HS2
            clear HS1 hT5
            go_wp2_with (go_at_call 110; (first | with_reducible refine HS2.mono ?_ | with_reducible refine HS3.mono ?_); rintro e w7 ⟨rfl, g1, g2, g3⟩)
            go_ret
            rw [HF.out]
            exact ⟨rfl, g1, (H5.out.2.2.1.trans H6.out.2.1).trans g2, (H5.out.2.2.2.1.trans H6.out.2.2 H5.out.2.2.2.2.1).trans g3 (Nat.le_trans H5.out.2.2.2.2.1 H6.out.2.1.size)⟩
          · rcases (by cases (O == 36) <;> simp : (O == 36) = true ∨ (O == 36) = false) with e4 | e4
            · obtain rfl : O = 36 := by simpa using e4
              have hfp : fatP R2f R1f fr P c = (foldZero P c, 2) := by rw [hfp0, if_neg (by decide), if_pos rfl]
              have HF := tmh hfp
              clear hfp hfp0 ht hO5 hO h v hf ha HS1 hO1 e2 e3 e4 hT5
              go_wp2_with (first | (go_at_call 109; (with_reducible refine HT1.mono ?_); rintro e w6 ⟨rfl, hw6⟩; subst w6) | (go_at_call 111; (with_reducible refine HD1.mono ?_); rintro e w6 ⟨rfl, g1, g2, g3⟩))
              go_ret
              rw [HF.out]
              exact ⟨rfl, g1, H5.out.2.2.1.trans g2, H5.out.2.2.2.1.trans g3 H5.out.2.2.2.2.1⟩
            · have hfp : fatP R2f R1f fr P c = (P, 1) := by rw [hfp0, if_neg (by simpa using e3), if_neg (by simpa using e4)]
              have HF := tmh hfp
              clear hfp hfp0 ht hO5 hO h v hf ha HS1 HD1 hO1 hT5
              go_wp2_with (go_at_call 109; (with_reducible refine HT1.mono ?_); rintro e w6 ⟨rfl, hw6⟩; subst w6)
              go_ret
              rw [HF.out]
              exact ⟨rfl, H5.out.1, H5.out.2.2.1, H5.out.2.2.2.1⟩
    · rw [hfr] at r0
      have hfp : fatP R2f R1f fr P c = (P, 1) := if_neg (fun h9 => by rw [h9.2] at hfr; cases hfr)
      rw [hfp]
      clear hO h v hf ha e1
      go_enter Tryz.func87, Tryz.ntmps87
      go_wp2_with fail
      go_ret
      exact ⟨rfl, H0.out.1, H0.out.2.2.1, H0.out.2.2.2⟩
  · have e1n : (P.op c != 1) = true := by simp [bne, e1]
    have hfp : fatP R2f R1f fr P c = (P, 1) := if_neg (fun h9 => by rw [h9.1] at e1; cases e1)
    rw [hfp]
    clear hO h v hf ha e1
    go_enter Tryz.func87, Tryz.ntmps87
    go_wp2_with fail
    go_ret
    exact ⟨rfl, H0.out.1, H0.out.2.2.1, H0.out.2.2.2⟩
end Go.Proofs.YtopggemomcoalaaGreat
namespace Go.Proofs.YtopggemomcoalaaGreat
open Go.ChangeShapes Go.WideShapes Go.ChangeAt Go.RowKit
set_option linter.unusedVariables false
set_option linter.unusedSimpArgs false

/-! ### fold -/
theorem effQ_64 {P Q : Pg} {c s : Nat} (q : QOf P Q c s) (h : (effQ Q).code = 0) : In64 ((effQ Q).wd 0) := by
  unfold effQ effP at h ⊢
  split at h
  · rename_i h1; exact absurd h h1
  · rename_i h1
    rw [if_neg h1]
    split at h
    · cases h
    · rename_i h2
      rw [if_neg h2]
      split at h
      · rename_i h3
        have : Q.en 0 = -1 := h3
        rw [q.en] at this
        cases this
      · rename_i h3
        rw [if_neg h3]
        split at h
        · rename_i h4; exact absurd h h4
        · rename_i h4
          rw [if_neg h4]
          have hz : dcode Q Q.m = 0 := Decidable.byContradiction h1
          obtain ⟨_, v⟩ := vf_of hz
          have he : dL Q (Q.en 0).toNat = 0 := v.le 0 (by rw [q.m]; omega) (by rw [q.en]; omega)
          have hi := v.en 0 (by rw [q.m]; omega)
          have hr := runP_ind v.gd v.sz v.notn v.good (ferr_all fun j _ hj => v.ins j (by omega)) (okC_Q Q.n) q.a64 (fun _ => True) (fun _ _ => trivial) (fun _ _ => trivial) (fun _ _ _ _ _ _ _ => trivial) (clQ Q.n).fuel.toNat (Q.en 0).toNat (newM (fun _ => 0) 0 0 (.slice none 0 0)) (by rw [q.en] at hi ⊢; omega) (by rw [he]; rfl) ⟨fun _ => in64_0, fun _ => in64_0, fun _ => in64_0, ⟨by show (0 : Int) ≤ 0; omega, by show (0 : Int) ≤ _; omega⟩, ⟨by show (0 : Int) ≤ 0; omega, by show (0 : Int) ≤ _; omega⟩, by show 0 ≤ 16; omega⟩ trivial
          exact hr.2.wd 0
def A64 (P : Pg) : Prop := ∀ i, i < P.n → In64 (P.a i)
theorem A64.setI {P : Pg} (h : A64 P) (k : Nat) (o : Int) {a : Int} (b : Int) (ha : In64 a) : A64 (setI P k o a b) := fun i hi => by
  rw [setI_a]
  split
  · exact ha
  · exact h i hi
theorem A64.stepI {P : Pg} (h : A64 P) {k : Nat} (hk : k ≤ 4096) : A64 (stepI P k) := h.setI k 35 0 ⟨by omega, by omega⟩
theorem fat_a64 {P : Pg} {L : Nat → Int} (v : Vf P L) (hf : Full P L) (ha : A64 P) (fr : Nat → Bool) {c : Nat} (hc : c < P.n) : A64 (fatP R2f R1f fr P c).1 := by
  have hn := v.sz.2.2.1
  unfold fatP
  by_cases h1 : P.op c = 1 ∧ fr (c + 1) = true
  · rw [if_pos h1]
    obtain ⟨l1, _, _⟩ := push_L v hf hc h1.1
    by_cases h2 : P.op (c + 1) = 1 ∧ fr (c + 2) = true ∧ two2 (P.op (c + 2)) = true
    · rw [if_pos h2]
      obtain ⟨l2, _, _⟩ := push_L v hf l1 h2.1
      have l2 : c + 2 < P.n := l2
      unfold R2f
      by_cases hq : (effQ (q2 (P.op (c + 2)) (P.a c) (P.a (c + 1)))).code = 0
      · rw [if_pos hq]
        exact ((ha.stepI (by omega)).stepI (by omega)).setI _ _ _ (effQ_64 (q2_of v ha l2 h1.1 h2.1 h2.2.2) hq)
      · rw [if_neg hq]
        exact ha
    · rw [if_neg h2]
      by_cases h3 : one1 (P.op (c + 1)) = true
      · rw [if_pos h3]
        unfold R1f
        by_cases hq : (effQ (q1 (P.op (c + 1)) (P.a c))).code = 0
        · rw [if_pos hq]
          exact (ha.stepI (by omega)).setI _ _ _ (effQ_64 (q1_of v ha l1 h1.1 h3) hq)
        · rw [if_neg hq]
          exact ha
      · rw [if_neg h3]
        by_cases h4 : P.op (c + 1) = 2
        · rw [if_pos h4]
          exact (ha.stepI (by omega)).stepI (by omega)
        · rw [if_neg h4]
          by_cases h5 : P.op (c + 1) = 36
          · rw [if_pos h5]
            show A64 (foldZero P c)
            unfold foldZero
            split
            · exact (ha.setI _ _ _ (ha _ l1)).stepI (by omega)
            · exact (ha.stepI (by omega)).stepI (by omega)
          · rw [if_neg h5]
            exact ha
  · rw [if_neg h1]
    exact ha
variable {Sf : Nat → Prop} {Hf : Nat → Option Obj} {base tb : Nat} {P : Pg} {cp ep : Option Addr} {cc ec : Nat}
set_option maxRecDepth 100000 in
set_option maxHeartbeats 8000000 in
theorem fold_any {L : Nat → Int} (v : Vf P L) (hf : Full P L) (ha : A64 P) (W : World) (h : TD Sf Hf W base tb P cp ep cc ec) (hB : base ≤ W.heap.size) :
    Calls Tryz.prog 43 #[.pointer (some ⟨tb, 0, none⟩)] W fun e W' => e = .returned (.tuple #[]) ∧ TD Sf Hf W' base tb (foldL R2f R1f (frB P) P.n 0 P) cp ep cc ec ∧ Below base W W' := by
  have hn := v.sz.2.2.1
  have HF := free_any v W h
  have H0 := tmh (And.intro v (And.intro hf (And.intro ha (And.intro h hB))))
  clear v hf ha h hB
  go_enter Tryz.func43, Tryz.ntmps43
  go_wp2_with (go_at_call 86; (with_reducible refine HF.mono ?_); rintro e w1 ⟨q, rfl, h1, h2⟩)
  have H1 := tmh (And.intro h1 (And.intro h2 (H0.out.2.2.2.1.later h2)))
  clear h1 h2 HF
  go_loopw [3] (fun x wr => ∃ (c f : Nat) (Q : Pg) (L' : Nat → Int), x = .int .i64 (c : Int) ∧ c ≤ 8192 ∧ Q.n = P.n ∧ P.n ≤ f + c ∧ foldL R2f R1f (frB P) f c Q = foldL R2f R1f (frB P) P.n 0 P ∧ Vf Q L' ∧ Full Q L' ∧ A64 Q ∧ (∀ x, c < x → frB P x = true → FreeP Q x) ∧ TD Sf Hf wr base tb Q cp ep cc ec ∧ Own wr W.heap.size 4 1 (.slice (some ⟨q, 0, none⟩) P.n P.n) P.n (fun x => .bool (frB P x)) ∧ Below base W wr) (fun x _ => P.n - (intOf x).toNat)
  case atStart => exact ⟨0, P.n, P, L, rfl, by omega, rfl, by omega, rfl, H0.out.1, H0.out.2.1, H0.out.2.2.1, fun x _ hx => by unfold frB at hx; exact of_decide_eq_true hx, H1.out.2.2, H1.out.1, H1.out.2.1.mono H0.out.2.2.2.2⟩
  case round =>
    obtain ⟨c, f, Q, L', rfl, hc8, hQ, hfc, hfl, v, hf, ha, hfr, hT, hO, hbr⟩ := hrel
    obtain ⟨y0, y1, y2, y3⟩ := hT.cells
    rw [hQ] at y2
    have HQ := tmh hQ
    clear hQ
    by_cases hlt : c < P.n
    · have d1 : decide ((c : Int) < (P.n : Int)) = true := by simp; omega
      have d2 : decide (c < P.n) = true := by simp; omega
      have hlq : c < Q.n := by rw [HQ.out]; exact hlt
      obtain ⟨f', rfl⟩ : ∃ f', f = f' + 1 := ⟨f - 1, by omega⟩
      have hun : foldL R2f R1f (frB P) (f' + 1) c Q = foldL R2f R1f (frB P) f' (c + (fatP R2f R1f (frB P) Q c).2) (fatP R2f R1f (frB P) Q c).1 := if_pos hlq
      have HA := foldAt_any v hf ha (frB P) q P.n W.heap.size c hlq wr hT (Nat.le_trans H0.out.2.2.2.2 hbr.size) (by rw [HQ.out]; exact hO)
      rw [HQ.out] at HA
      have hfa := fat_any R2f R1f v hf hlq hfr
      have ha2 := fat_a64 v hf ha (frB P) hlq
      obtain ⟨s, hs, hs0, hs3, L2, hv2, hf2, hn2, hfr2⟩ : ∃ s, (fatP R2f R1f (frB P) Q c).2 = s ∧ 0 < s ∧ s ≤ 4096 ∧ ∃ L2, Vf (fatP R2f R1f (frB P) Q c).1 L2 ∧ Full (fatP R2f R1f (frB P) Q c).1 L2 ∧ (fatP R2f R1f (frB P) Q c).1.n = Q.n ∧ ∀ x, c + s < x → frB P x = true → FreeP (fatP R2f R1f (frB P) Q c).1 x := by
        rcases hfa with h9 | ⟨Q2, s, h9, hs, hR⟩
        · rw [h9]
          exact ⟨1, rfl, by omega, by omega, L', v, hf, rfl, fun x hx => hfr x (by omega)⟩
        · have hs3 : s ≤ 3 := by
            have e : (fatP R2f R1f (frB P) Q c).2 = s := by rw [h9]
            rw [← e]
            unfold fatP
            repeat' split
            all_goals (first | exact (by decide : 3 ≤ 3) | exact (by decide : 2 ≤ 3) | exact (by decide : 1 ≤ 3))
          rw [h9]
          exact ⟨s, rfl, hs, by omega, _, hR.vf.1, hR.vf.2, hR.pa.n, fun x hx hx2 => hR.fr x hx (hfr x (by omega) hx2)⟩
      have es : IntKind.i64.wrap ((c : Int) + (s : Int)) = ((c + s : Nat) : Int) := by rw [IntKind.wrap_i64]; omega
      rw [hun] at hfl
      rw [hs] at HA hfl
      generalize (fatP R2f R1f (frB P) Q c).1 = Q2 at HA hfl ha2 hv2 hf2 hn2 hfr2
      have HX := tmh (And.intro hfl (And.intro hv2 (And.intro hf2 (And.intro ha2 (And.intro hfr2 (And.intro (hn2.trans HQ.out) (And.intro hO hbr)))))))
      have hm : P.n - (intOf (.int .i64 ((c + s : Nat) : Int))).toNat < P.n - (intOf (.int .i64 (c : Int))).toNat := by
        show P.n - (((c + s : Nat) : Int)).toNat < P.n - ((c : Int)).toNat
        omega
      have hgq := (hO.lt q rfl)
      have hgne : ∀ g o, cp = some ⟨g, o, none⟩ → q ≠ g := fun g o e => by
        have h1 := (H0.out.2.2.2.1.cd.form)
        rcases h1 with ⟨h2, _⟩ | ⟨g', c', h2, _⟩
        · injection h2 with h2; rw [h2] at e; cases e
        · have h3 := (H0.out.2.2.2.1.cd.lt g' (by rw [h2]; rfl)).2
          injection h2 with h2
          rw [h2] at e
          injection e with e
          injection e with e _
          have := hgq.1
          omega
      clear hfl hv2 hf2 ha2 hfr2 hn2 hO hbr v hf ha hfr hfa hun hT hs hlq
      go_wp2_with (go_at_call 87; (with_reducible refine HA.mono ?_); rintro e w6 ⟨rfl, g1, g2, g3⟩; have H6 := tmh (And.intro g1 (And.intro g2 g3)); clear g1 g2 g3)
      exact ⟨⟨c + s, f', Q2, L2, rfl, by omega, HX.out.2.2.2.2.2.1, by omega, HX.out.1, HX.out.2.1, HX.out.2.2.1, HX.out.2.2.2.1, HX.out.2.2.2.2.1, H6.out.1, HX.out.2.2.2.2.2.2.1.far fun k hk => by
        simp [Value.ownBlock] at hk
        rw [← hk]
        exact H6.out.2.2 q hgne hgq.2, HX.out.2.2.2.2.2.2.2.trans H6.out.2.1⟩, hm⟩
    · have d1 : decide ((c : Int) < (P.n : Int)) = false := by simp; omega
      have d2 : decide (c < P.n) = false := by simp; omega
      have hend : foldL R2f R1f (frB P) f c Q = Q := by
        cases f with
        | zero => rfl
        | succ f => exact if_neg (by rw [HQ.out]; exact hlt)
      rw [hend] at hfl
      have HX := tmh (And.intro hfl (And.intro hT hbr))
      clear hfl hend hT hbr v hf ha hfr hO
      go_wp2_with fail
      go_end0
      exact ⟨rfl, HX.out.1 ▸ HX.out.2.1, HX.out.2.2⟩
end Go.Proofs.YtopggemomcoalaaGreat
