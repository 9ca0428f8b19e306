import Derived.Test.YtmekcccmnkgodaaGreatDoorFGB0b
import Derived.Test.YtmekcccmnkgodaaGreatDoorFGB6
import Derived.Test.YtmekcccmnkgodaaGreatDoorFG3
namespace Go.Proofs.YtmekcccmnkgodaaGreatDoor
open Go.ChangeShapes Go.WideShapes Go.ChangeAt Go.RowKit
set_option linter.unusedVariables false
set_option linter.unusedSimpArgs false
/-! ### brackets around a whole expression: what is answered -/
theorem scan_one (e : Bs) (ts : List Tk) (h : scanT (cPre ++ e ++ [10]) = (ts, none)) : 3 ≤ ts.length ∧ ∀ i, i < 3 → ts.getD i nT = cTk.getD i nT := by
  have hl := scanT_len h
  unfold scanT at h
  rw [if_neg (by omega), List.append_assoc, scan_pre] at h
  injection h with h _
  rw [← h]
  refine ⟨by rw [List.length_append]; simp [cTk], fun i hi => ?_⟩
  rw [List.getD_eq_getElem?_getD, List.getElem?_append_left (by simpa [cTk] using hi)]
  rfl
theorem expr_node {X : Nat → Tk} {n f : Nat} {s3 : St} {a : List Nat} (h : P X n f (.bin 1) ⟨3, 0, []⟩ = .ok s3 a) : 1 ≤ s3.md.length := by
  obtain ⟨-, h2, h3⟩ := sg X n _ _ _ _ _ h
  have h4 := h3 0 (.nil 0)
  rw [h2 rfl] at h4
  obtain ⟨d, h5, -, -⟩ := h4.cons_inv
  have := (List.getElem?_eq_some_iff.1 h5).1
  omega
theorem brk_res (e : Bs) (f : Nat) (hf : 400000 ≤ f) :
    (∃ c l o, prsR (cPre ++ e ++ [10]) (f + 4) = .er c l o) ∨ (∃ T, prsR (cPre ++ e ++ [10]) (f + 4) = .tr T ∧ (T.getD 0 nT1).kids.length ≠ 1) ∨
    (∃ T, prsR (cPre ++ e ++ [10]) (f + 4) = .tr T ∧ 3 ≤ T.length ∧ (T.getD 0 nT1).kids.length = 1 ∧ ((∃ c l o, prsR (cPre ++ 40 :: e ++ [10, 41]) (f + 17) = .er c l o ∧ (c = 42 ∨ c = 34 ∨ c = 30)) ∨ ∃ U, prsR (cPre ++ 40 :: e ++ [10, 41]) (f + 17) = .tr U ∧ T.map stp = U.map stp)) := by
  obtain ⟨ts, er, hR⟩ : ∃ ts er, scanT (cPre ++ e ++ [10]) = (ts, er) := ⟨_, _, rfl⟩
  cases er with
  | some er => exact .inl ⟨er.code, er.line, er.col, by unfold prsR; rw [hR]⟩
  | none =>
    have hn : ts.length ≤ 16384 := by
      have := scanT_count (cPre ++ e ++ [10])
      rw [hR] at this
      exact this
    have eA : prsR (cPre ++ e ++ [10]) (f + 4) = bldR (fun i => ts.getD i nT) ts.length (f + 4) := by unfold prsR; rw [hR]
    rw [eA]
    unfold bldR
    cases hB : Bld (fun i => ts.getD i nT) ts.length (f + 4) with
    | out => exact absurd hB (bld_out _ _ _ (by omega))
    | bad er => exact .inl ⟨er.code, er.line, er.col, rfl⟩
    | ok s v =>
      obtain ⟨d, hW⟩ := bld_ok hB
      obtain ⟨n1, t1, e1, e2, e3, -, -⟩ := hW.form
      have hk : ((trOf s v).getD 0 nT1).kids.length = d.kids.length := by rw [e1]; exact e2
      by_cases hone : d.kids.length = 1
      · have hP : P (fun i => ts.getD i nT) ts.length (f + 5) .scene ⟨0, 0, []⟩ = .ok s v := by
          unfold Bld at hB
          rw [if_neg (by omega)] at hB
          exact hB
        obtain ⟨q1, q2⟩ := scan_one e ts hR
        have hone' : ∀ d', s.md[hd v]? = some d' → d'.kids.length = 1 := fun d' hd' => by
          rw [hW.at'] at hd'
          injection hd' with hd'
          rw [← hd']
          exact hone
        refine .inr (.inr ⟨trOf s v, rfl, ?_, by rw [hk]; exact hone, ?_⟩)
        · obtain ⟨s3, a, h9, -, hmd, -⟩ := con_ok q1 q2 hP hone'
          have := expr_node h9
          rw [e3, hmd]
          simp only [List.length_append, List.length_cons, List.length_nil]
          omega
        · rcases scan_two e ts hR with ⟨er, h1, h2⟩ | ⟨us, h1, h2, h3, h4, h5, h6, h7, h8⟩
          · refine .inl ⟨er.code, er.line, er.col, by unfold prsR; rw [h1], ?_⟩
            rcases h2 with h2 | h2
            · exact .inr (.inl (by rw [h2]; rfl))
            · exact .inr (.inr (by rw [h2]; rfl))
          · have hu : us.length ≤ 16384 := by
              have := scanT_count (cPre ++ 40 :: e ++ [10, 41])
              rw [h1] at this
              exact this
            have eB : prsR (cPre ++ 40 :: e ++ [10, 41]) (f + 17) = Res.of (P (fun i => us.getD i nT) (ts.length + 2) (f + 18) .scene ⟨0, 0, []⟩) := by
              unfold prsR
              rw [h1]
              dsimp only
              unfold bldR Bld
              rw [if_neg (by omega), h2]
            rw [eB]
            rcases brack_law (X := fun i => ts.getD i nT) (X' := fun i => us.getD i nT) h3 h4 h5 h6 h7 h8 hP hone' with ⟨er, g1, g2⟩ | ⟨u, g1, g2⟩
            · rw [g1]
              exact .inl ⟨er.code, er.line, er.col, rfl, .inl g2⟩
            · rw [g1]
              refine .inr ⟨trOf u v, rfl, ?_⟩
              have hl : s.md.length = u.md.length := by have := congrArg List.length g2; simpa using this
              unfold trOf
              rw [← hl]
              exact layF_stp g2 _ _ _
      · exact .inr (.inl ⟨trOf s v, rfl, by rw [hk]; exact hone⟩)
end Go.Proofs.YtmekcccmnkgodaaGreatDoor
namespace Go.Proofs.YtmekcccmnkgodaaGreatDoor
open Go.ChangeShapes Go.WideShapes Go.ChangeAt Go.RowKit
set_option linter.unusedVariables false
set_option linter.unusedSimpArgs false
set_option maxRecDepth 100000
def kText : Bs := [99, 111, 110, 115, 116, 32, 65, 32, 61, 32, 40, 40, 55, 41, 41]
def kToks : List Tk × Option Er := scanF 40 kText 1 1 0
theorem k_scan : scanT kText = kToks := by
  unfold scanT kToks
  rw [if_neg (by decide), scanF_eq 40 kText 1 1 0 (by decide)]
theorem k_none : kToks.2 = none := by decide +kernel
theorem k_len : kToks.1.length = 8 := by decide +kernel
def isTree (R : Pr (List Nat)) (k : Nat) : Bool := match R with
  | .ok s v => decide (s.md.length = k)
  | _ => false
theorem k_ok : isTree (P (fun i => kToks.1.getD i nT) 8 200 .scene ⟨0, 0, []⟩) 3 = true := by decide +kernel
theorem k_known : ∃ T, prsR kText 199 = .tr T ∧ T.length = 3 := by
  unfold prsR
  rw [k_scan, k_none]
  dsimp only
  unfold bldR
  have hB : Bld (fun i => kToks.1.getD i nT) kToks.1.length 199 = P (fun i => kToks.1.getD i nT) 8 200 .scene ⟨0, 0, []⟩ := by
    unfold Bld
    rw [k_len, if_neg (by omega)]
  rw [hB]
  have hk := k_ok
  cases hr : P (fun i => kToks.1.getD i nT) 8 200 .scene ⟨0, 0, []⟩ with
  | out => rw [hr] at hk; cases hk
  | bad e => rw [hr] at hk; cases hk
  | ok s v =>
    rw [hr] at hk hB
    obtain ⟨d, hW⟩ := bld_ok hB
    obtain ⟨n1, t1, -, -, e3, -, -⟩ := hW.form
    exact ⟨trOf s v, rfl, by rw [e3]; exact of_decide_eq_true hk⟩
theorem k_parse (w : World) (g : Gr w) (he : Et w) : Calls Tryz.prog 7 #[.string ⟨#[99, 111, 110, 115, 116, 32, 65, 32, 61, 32, 40, 40, 55, 41, 41]⟩] w fun e w' => ∃ tp tc, e = .returned (.tuple #[.agg #[.slice tp 3 tc], .nilIface]) ∧ Below w.heap.size w w' := by
  have h := parse_any kText (by unfold maxLen; decide) 199 (fun ts h => by rw [k_scan] at h; have e : kToks.1 = ts := congrArg Prod.fst h; have e2 := k_len; rw [e] at e2; omega) w g he
  obtain ⟨T, hT, h3⟩ := k_known
  rw [hT] at h
  refine h.mono fun e w' h => ?_
  obtain ⟨hb, tp, tc, vs, h1, _⟩ := h
  rw [h3] at h1
  exact ⟨tp, tc, h1, hb⟩
theorem catL_run (a b : Bs) (h : a.length + b.length ≤ 4000000) (W : World) : (Op.stringOp .add ⟨a.toArray⟩ ⟨b.toArray⟩).run Tryz.prog W = .ok (.string ⟨(a ++ b).toArray⟩) W := by
  have haz : (⟨a.toArray⟩ : ByteArray).size = a.length := by simp [ByteArray.size]
  have hbz : (⟨b.toArray⟩ : ByteArray).size = b.length := by simp [ByteArray.size]
  have hs : (⟨a.toArray⟩ : ByteArray).size + (⟨b.toArray⟩ : ByteArray).size ≤ 9223372036854775807 := by omega
  have hc : (⟨a.toArray⟩ ++ ⟨b.toArray⟩ : ByteArray) = ⟨(a ++ b).toArray⟩ := by
    apply ByteArray.ext
    simp [ByteArray.data_append]
  rw [← hc]
  exact run_string_add_sum (P := Tryz.prog) (w := W) _ _ hs
/-- the first two texts -/
structure KCtx (e t1 t2 a1 a2 : Bs) (w : World) : Prop where
  e1 : ∀ W, (Op.stringOp .add ⟨#[99, 111, 110, 115, 116, 32, 65, 32, 61, 32]⟩ ⟨e.toArray⟩).run Tryz.prog W = .ok (.string ⟨a1.toArray⟩) W
  e2 : ∀ W, (Op.stringOp .add ⟨a1.toArray⟩ ⟨#[10]⟩).run Tryz.prog W = .ok (.string ⟨t1.toArray⟩) W
  e3 : ∀ W, (Op.stringOp .add ⟨#[99, 111, 110, 115, 116, 32, 65, 32, 61, 32, 40]⟩ ⟨e.toArray⟩).run Tryz.prog W = .ok (.string ⟨a2.toArray⟩) W
  e4 : ∀ W, (Op.stringOp .add ⟨a2.toArray⟩ ⟨#[10, 41]⟩).run Tryz.prog W = .ok (.string ⟨t2.toArray⟩) W
  p0 : Calls Tryz.prog 7 #[.string ⟨#[99, 111, 110, 115, 116, 32, 65, 32, 61, 32, 40, 40, 55, 41, 41]⟩] w fun e w' => ∃ tp tc, e = .returned (.tuple #[.agg #[.slice tp 3 tc], .nilIface]) ∧ Below w.heap.size w w'
  p1 : ∀ W, Below w.heap.size w W → Calls Tryz.prog 7 #[.string ⟨t1.toArray⟩] W (ResP W (prsR (cPre ++ e ++ [10]) 400004))
  p2 : ∀ W, Below w.heap.size w W → Calls Tryz.prog 7 #[.string ⟨t2.toArray⟩] W (ResP W (prsR (cPre ++ 40 :: e ++ [10, 41]) 400017))
theorem kctx (e : Bs) (he : e.length ≤ 1048576) (w : World) (g : Gr w) (h9 : Et w) : ∃ t1 t2 a1 a2, KCtx e t1 t2 a1 a2 w := by
  have hc : ∀ (src : Bs) (ts : List Tk), scanT src = (ts, none) → ts.length ≤ 16384 := fun src ts h => by
    have := scanT_count src
    rw [h] at this
    exact this
  have lc : cPre.length = 10 := rfl
  have l1 : (cPre ++ e ++ [10]).length ≤ maxLen := by rw [List.length_append, List.length_append, lc]; unfold maxLen; simp only [List.length_cons, List.length_nil]; omega
  have l2 : (cPre ++ 40 :: e ++ [10, 41]).length ≤ maxLen := by rw [List.length_append, List.length_append, lc]; unfold maxLen; simp only [List.length_cons, List.length_nil]; omega
  have q1 : ∀ ts, scanT (cPre ++ e ++ [10]) = (ts, none) → 20 * ts.length + 10 ≤ 400004 := fun ts h => by have := hc _ _ h; clear h; omega
  have q2 : ∀ ts, scanT (cPre ++ 40 :: e ++ [10, 41]) = (ts, none) → 20 * ts.length + 10 ≤ 400017 := fun ts h => by have := hc _ _ h; clear h; omega
  have p1 : ∀ W, Below w.heap.size w W → Calls Tryz.prog 7 #[.string ⟨(cPre ++ e ++ [10]).toArray⟩] W (ResP W (prsR (cPre ++ e ++ [10]) 400004)) := fun W hW => parse_any (cPre ++ e ++ [10]) l1 400004 q1 W (g.keep hW) (h9.keep hW)
  have p2 : ∀ W, Below w.heap.size w W → Calls Tryz.prog 7 #[.string ⟨(cPre ++ 40 :: e ++ [10, 41]).toArray⟩] W (ResP W (prsR (cPre ++ 40 :: e ++ [10, 41]) 400017)) := fun W hW => parse_any (cPre ++ 40 :: e ++ [10, 41]) l2 400017 q2 W (g.keep hW) (h9.keep hW)
  have c1 : ∀ W, (Op.stringOp .add ⟨cPre.toArray⟩ ⟨e.toArray⟩).run Tryz.prog W = .ok (.string ⟨(cPre ++ e).toArray⟩) W := catL_run cPre e (by rw [lc]; omega)
  have c2 : ∀ W, (Op.stringOp .add ⟨(cPre ++ e).toArray⟩ ⟨[10].toArray⟩).run Tryz.prog W = .ok (.string ⟨(cPre ++ e ++ [10]).toArray⟩) W := catL_run (cPre ++ e) [10] (by rw [List.length_append, lc]; simp only [List.length_cons, List.length_nil]; omega)
  have c3 : ∀ W, (Op.stringOp .add ⟨(cPre ++ [40]).toArray⟩ ⟨e.toArray⟩).run Tryz.prog W = .ok (.string ⟨(cPre ++ [40] ++ e).toArray⟩) W := catL_run (cPre ++ [40]) e (by rw [List.length_append, lc]; simp only [List.length_cons, List.length_nil]; omega)
  have c4 : ∀ W, (Op.stringOp .add ⟨(cPre ++ 40 :: e).toArray⟩ ⟨[10, 41].toArray⟩).run Tryz.prog W = .ok (.string ⟨(cPre ++ 40 :: e ++ [10, 41]).toArray⟩) W := catL_run (cPre ++ 40 :: e) [10, 41] (by rw [List.length_append, lc]; simp only [List.length_cons, List.length_nil]; omega)
  have e34 : cPre ++ [40] ++ e = cPre ++ 40 :: e := by simp
  rw [e34] at c3
  exact ⟨_, _, _, _, c1, c2, c3, c4, k_parse w g h9, p1, p2⟩
end Go.Proofs.YtmekcccmnkgodaaGreatDoor
namespace Go.Proofs.YtmekcccmnkgodaaGreatDoor
open Go.ChangeShapes Go.WideShapes Go.ChangeAt Go.RowKit
set_option linter.unusedVariables false
set_option linter.unusedSimpArgs false
set_option maxRecDepth 100000
def BrkP (w : World) (e : Ending) (w' : World) : Prop := e = .returned (.bool true) ∧ Below w.heap.size w w'
/-- what lies there of a tree that was answered -/
theorem resP_tree {w : World} {T : List Nd} {e : Ending} {w' : World} (h : ResP w (.tr T) e w') : ∃ b oo tc vs, e = .returned (.tuple #[.agg #[.slice (some ⟨b, oo, none⟩) T.length tc], .nilIface]) ∧ NAt w' (some ⟨b, oo, none⟩) T.length (nf T vs) ∧ Below w.heap.size w w' ∧ T.length ≤ 16385 ∧ 0 < T.length := by
  obtain ⟨hbl, tp, tc, vs, h1, h2, h4, h5, h6⟩ := h
  have hn := h2.nat h6
  have hne : ∃ b oo, tp = some ⟨b, oo, none⟩ := by
    rcases hn with h0 | ⟨b, oo, e, _⟩
    · omega
    · exact ⟨b, oo, e⟩
  obtain ⟨b, oo, rfl⟩ := hne
  exact ⟨b, oo, tc, vs, h1, hn, hbl, h4, h5⟩
set_option maxHeartbeats 4000000 in
theorem brk_er {e t1 t2 a1 a2 : Bs} {w : World} (K : KCtx e t1 t2 a1 a2 w) {c l o : Int} (h1 : prsR (cPre ++ e ++ [10]) 400004 = .er c l o) : Calls Tryz.prog 4 #[.string ⟨e.toArray⟩] w (BrkP w) := by
  obtain ⟨e1, e2, e3, e4, p0, p1, p2⟩ := K
  have H0 := mhid p0
  have H1 : Hid (∀ W, Below w.heap.size w W → Calls Tryz.prog 7 #[.string ⟨t1.toArray⟩] W fun e w' => ∃ b, e = .returned (.tuple #[.agg #[.slice none 0 0], .iface 56 (.pointer (some ⟨b, 0, none⟩))]) ∧ Below W.heap.size W w') := fun W hW => (p1 W hW).mono fun e9 w' h => by
    rw [h1] at h
    obtain ⟨hb, b, h2, _⟩ := h
    exact ⟨b, h2, hb⟩
  clear h1
  clear p0 p1 p2
  go_enter Tryz.func4, Tryz.ntmps4
  go_wp2_with (first
    | (go_at_call 7; (with_reducible refine (H0.out).mono ?_); rintro e9 w1 ⟨tp, tc, rfl, hb⟩; have B1 := mhid (hb.trans (((Below.refl _ w1).alloc (Nat.le_refl _) (.cells #[.slice tp 3 tc] 24)).mono hb.size)); clear hb H0)
    | (go_at_call 7; (with_reducible refine (H1.out _ B1.out).mono ?_); rintro e9 w2 ⟨b, rfl, hb⟩; have B2 := mhid (B1.out.trans (hb.mono B1.out.size)); clear hb))
  go_ret
  exact ⟨rfl, B2.out.alloc B2.out.size _⟩
set_option maxHeartbeats 4000000 in
theorem brk_more {e t1 t2 a1 a2 : Bs} {w : World} (K : KCtx e t1 t2 a1 a2 w) {T : List Nd} (h1 : prsR (cPre ++ e ++ [10]) 400004 = .tr T) (h2 : (T.getD 0 nT1).kids.length ≠ 1) : Calls Tryz.prog 4 #[.string ⟨e.toArray⟩] w (BrkP w) := by
  obtain ⟨e1, e2, e3, e4, p0, p1, p2⟩ := K
  have H0 := mhid p0
  have H1 : Hid (∀ W, Below w.heap.size w W → Calls Tryz.prog 7 #[.string ⟨t1.toArray⟩] W fun e w' => ∃ b oo tc vs, e = .returned (.tuple #[.agg #[.slice (some ⟨b, oo, none⟩) T.length tc], .nilIface]) ∧ NAt w' (some ⟨b, oo, none⟩) T.length (nf T vs) ∧ Below W.heap.size W w' ∧ T.length ≤ 16385 ∧ 0 < T.length) := fun W hW => (p1 W hW).mono fun e9 w' h => by
    rw [h1] at h
    exact resP_tree h
  clear h1
  have hk : ∀ vs, (((nf T vs 0).kn : Nat) : Int) != 1 := fun vs => by
    show ((((T.getD 0 nT1).kids.length : Nat) : Int) != 1) = true
    have h9 : ¬ ((((T.getD 0 nT1).kids.length : Nat) : Int) = 1) := by omega
    exact bne_iff_ne.2 h9
  have hk2 : ∀ vs, ((((nf T vs 0).kn : Nat) : Int) == 1) = false := fun vs => by
    show ((((T.getD 0 nT1).kids.length : Nat) : Int) == 1) = false
    have h9 : ¬ ((((T.getD 0 nT1).kids.length : Nat) : Int) = 1) := by omega
    exact beq_eq_false_iff_ne.2 h9
  clear h2
  clear p0 p1 p2
  go_enter Tryz.func4, Tryz.ntmps4
  go_wp2_with (first
    | (go_at_call 7; (with_reducible refine (H0.out).mono ?_); rintro e9 w1 ⟨tp, tc, rfl, hb⟩; have B1 := mhid (hb.trans (((Below.refl _ w1).alloc (Nat.le_refl _) (.cells #[.slice tp 3 tc] 24)).mono hb.size)); clear hb H0)
    | (go_at_call 7; (with_reducible refine (H1.out _ B1.out).mono ?_); rintro e9 w2 ⟨b, oo, tc2, vs, rfl, hN, hb, hl, h0⟩; have B2 := mhid (B1.out.trans (hb.mono B1.out.size)); have HN := mhid (hN.below ((Below.refl _ w2).alloc (Nat.le_refl _) (.cells #[.slice (some ⟨b, oo, none⟩) T.length tc2] 24))); have h01 : decide (((T.length : Nat) : Int) > 0) = true := decide_eq_true (by omega); have h02 : decide ((0 : Int) < ((T.length : Nat) : Int)) = true := decide_eq_true (by omega); have h03 : decide (0 < T.length) = true := decide_eq_true h0; have h04 : (0 : Int) < (T.length : Int) := (by omega); have hc4 : (w2.alloc (.cells #[.slice (some ⟨b, oo, none⟩) T.length tc2] 24)).cell? ⟨b, oo + 4, none⟩ = some (.slice (nf T vs 0).kp (nf T vs 0).kn (nf T vs 0).kc) := (by rcases HN.out with q | ⟨b', o', e', hl', hc'⟩; (exact absurd q (by omega)); (injection e' with e'; injection e' with e1' e2' _; subst e1' e2'; have := (hc' 0 h0).1.2.2.2.2.1; simpa using this)); clear hb hN))
  go_ret
  exact ⟨rfl, B2.out.alloc B2.out.size _⟩
set_option maxHeartbeats 4000000 in
theorem brk_err {e t1 t2 a1 a2 : Bs} {w : World} (K : KCtx e t1 t2 a1 a2 w) {T : List Nd} (h1 : prsR (cPre ++ e ++ [10]) 400004 = .tr T) (hk1 : (T.getD 0 nT1).kids.length = 1) {c l o : Int} (h2 : prsR (cPre ++ 40 :: e ++ [10, 41]) 400017 = .er c l o) (hc : c = 42 ∨ c = 34 ∨ c = 30) : Calls Tryz.prog 4 #[.string ⟨e.toArray⟩] w (BrkP w) := by
  obtain ⟨e1, e2, e3, e4, p0, p1, p2⟩ := K
  have H0 := mhid p0
  have H1 : Hid (∀ W, Below w.heap.size w W → Calls Tryz.prog 7 #[.string ⟨t1.toArray⟩] W fun e w' => ∃ b oo tc vs, e = .returned (.tuple #[.agg #[.slice (some ⟨b, oo, none⟩) T.length tc], .nilIface]) ∧ NAt w' (some ⟨b, oo, none⟩) T.length (nf T vs) ∧ Below W.heap.size W w' ∧ T.length ≤ 16385 ∧ 0 < T.length) := fun W hW => (p1 W hW).mono fun e9 w' h => by
    rw [h1] at h
    exact resP_tree h
  clear h1
  have hk : ∀ vs, ((((nf T vs 0).kn : Nat) : Int) != 1) = false := fun vs => by
    show ((((T.getD 0 nT1).kids.length : Nat) : Int) != 1) = false
    rw [hk1]; rfl
  have hk2 : ∀ vs, ((((nf T vs 0).kn : Nat) : Int) == 1) = true := fun vs => by
    show ((((T.getD 0 nT1).kids.length : Nat) : Int) == 1) = true
    rw [hk1]; rfl
  clear hk1
  have H2 : Hid (∀ W, Below w.heap.size w W → Calls Tryz.prog 7 #[.string ⟨t2.toArray⟩] W fun e w' => ∃ b, e = .returned (.tuple #[.agg #[.slice none 0 0], .iface 56 (.pointer (some ⟨b, 0, none⟩))]) ∧ w'.heap[b]? = some (posObj c l o) ∧ Below W.heap.size W w') := fun W hW => (p2 W hW).mono fun e9 w' h => by
    rw [h2] at h
    obtain ⟨hb, b, h2, h3⟩ := h
    exact ⟨b, h2, h3, hb⟩
  have HK : Hid (∀ W b, W.heap[b]? = some (posObj c l o) → Calls Tryz.prog 8 #[.iface 56 (.pointer (some ⟨b, 0, none⟩))] W fun e w' => e = .returned (.agg #[.int .i64 2, .int .i64 c, .int .i64 l, .int .i64 o, .int .u64 0, .int .i64 0, .int .u64 0]) ∧ Below W.heap.size W w') := fun W b h => see_pos c l o b W h
  have hf : ∀ W, (Instr.field 33 (.agg #[.int .i64 2, .int .i64 c, .int .i64 l, .int .i64 o, .int .u64 0, .int .i64 0, .int .u64 0]) 1).run Tryz.prog W = .ok (.int .i64 c) W := fun W => by kernel_rfl
  have hcc : (c == 42) = true ∨ ((c == 42) = false ∧ (c == 34) = true) ∨ ((c == 42) = false ∧ (c == 34) = false ∧ (c == 30) = true) := by
    rcases hc with h9 | h9 | h9
    · rw [h9]; exact .inl rfl
    · rw [h9]; exact .inr (.inl ⟨rfl, rfl⟩)
    · rw [h9]; exact .inr (.inr ⟨rfl, rfl, rfl⟩)
  clear h2 hc
  clear p0 p1 p2
  rcases hcc with z1 | ⟨z1, z2⟩ | ⟨z1, z2, z3⟩
  all_goals
    go_enter Tryz.func4, Tryz.ntmps4
    go_wp2_with (first
      | (go_at_call 7; (with_reducible refine (H0.out).mono ?_); rintro e9 w1 ⟨tp, tc, rfl, hb⟩; have B1 := mhid (hb.trans (((Below.refl _ w1).alloc (Nat.le_refl _) (.cells #[.slice tp 3 tc] 24)).mono hb.size)); clear hb H0)
      | (go_at_call 7; (with_reducible refine (H1.out _ B1.out).mono ?_); rintro e9 w2 ⟨b, oo, tc2, vs, rfl, hN, hb, hl, h0⟩; have B2 := mhid (B1.out.trans (hb.mono B1.out.size)); have HN := mhid (hN.below ((Below.refl _ w2).alloc (Nat.le_refl _) (.cells #[.slice (some ⟨b, oo, none⟩) T.length tc2] 24))); have h01 : decide (((T.length : Nat) : Int) > 0) = true := decide_eq_true (by omega); have h02 : decide ((0 : Int) < ((T.length : Nat) : Int)) = true := decide_eq_true (by omega); have h03 : decide (0 < T.length) = true := decide_eq_true h0; have h04 : (0 : Int) < (T.length : Int) := (by omega); have hc4 : (w2.alloc (.cells #[.slice (some ⟨b, oo, none⟩) T.length tc2] 24)).cell? ⟨b, oo + 4, none⟩ = some (.slice (nf T vs 0).kp (nf T vs 0).kn (nf T vs 0).kc) := (by rcases HN.out with q | ⟨b', o', e', hl', hc'⟩; (exact absurd q (by omega)); (injection e' with e'; injection e' with e1' e2' _; subst e1' e2'; have := (hc' 0 h0).1.2.2.2.2.1; simpa using this)); clear hb hN)
      | (go_at_call 7; (with_reducible refine (H2.out _ (B2.out.alloc B2.out.size _)).mono ?_); rintro e9 w3 ⟨b3, rfl, hp3, hb⟩; have HP3 := mhid (((Below.refl _ w3).alloc (Nat.le_refl _) (.cells #[.slice none 0 0] 24)).block b3 (Array.getElem?_eq_some_iff.1 hp3).1 |>.trans hp3); have b3' := (B2.out.alloc B2.out.size (.cells #[.slice (some ⟨b, oo, none⟩) T.length tc2] 24)).trans (hb.mono (B2.out.alloc B2.out.size _).size); have B3 := mhid (b3'.alloc b3'.size (.cells #[.slice none 0 0] 24)); clear hb b3' hp3)
      | (go_at_call 8; (with_reducible refine (HK.out _ _ HP3.out).mono ?_); rintro e9 w4 ⟨rfl, hb⟩; have B4 := mhid (B3.out.trans (hb.mono B3.out.size)); clear hb))
    go_ret
    exact ⟨rfl, B4.out⟩
end Go.Proofs.YtmekcccmnkgodaaGreatDoor
