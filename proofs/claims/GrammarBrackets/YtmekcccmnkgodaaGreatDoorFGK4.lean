import Derived.Test.YtmekcccmnkgodaaGreatDoorFGPV
import Derived.Test.YtmekcccmnkgodaaGreatDoorFLRead
import Derived.Test.YtmekcccmnkgodaaGreatDoorTie
import Derived.Deep.DeepHandedRow
import Derived.Lay
import Derived.LaidHandle
import Derived.Stop.LaidErr
import Derived.Test.YtmekcccmnkgodaaGreatDoorFGK3
namespace Go.Proofs.YtmekcccmnkgodaaGreatDoor
open Go.ChangeShapes Go.WideShapes Go.ChangeAt Go.RowKit
set_option linter.unusedVariables false
set_option maxRecDepth 100000
/-! ### the ground of a card whose list holds a type's handle -/
theorem gr_star : "*" ++ "errors.errorString" = "*errors.errorString" := by decide
theorem gr_row (u : TypeId) (h : Tryz.prog.typeName? 3 u = some "*errors.errorString") : u = 167 :=
  typeName_ptr_named (nm := "errors.errorString") (by rw [gr_star]; kernel_rfl) (by kernel_rfl) (by decide) u (by rw [gr_star]; exact h)
theorem gt_et : Tryz.prog.globalNamed "errors.errorType" = some 2 := by kernel_rfl
theorem gt_rt : (Tryz.prog.cutTypes.find? (·.1 == "internal/reflectlite.rtype")).map (·.2) = some 132 := by kernel_rfl
theorem gt_oneRow : ((List.range 209).filter fun t => Tryz.prog.rowNamed t [101, 114, 114, 111, 114]) = [26] := by kernel_rfl
theorem gt_size : Tryz.prog.types.size = 209 := by kernel_rfl
theorem et_of {W : World} (h : handlesMet Tryz.prog [("errors.errorType", Rows.laid_errors_errorType)] W) : Et W := by
  obtain ⟨name, u, ty, e1, e2, e3, e4, e5⟩ := h _ (List.mem_singleton.2 rfl)
  have en : name = [101, 114, 114, 111, 114] := (Option.some.inj e1).symm
  subst en
  obtain rfl := Option.some.inj (gt_rt.symm.trans e2)
  have hm : ty ∈ (List.range 209).filter fun t => Tryz.prog.rowNamed t [101, 114, 114, 111, 114] := List.mem_filter.2 ⟨List.mem_range.2 (by rw [← gt_size]; exact e3), e4⟩
  rw [gt_oneRow] at hm
  obtain rfl := List.mem_singleton.1 hm
  have hh : typeHandle Tryz.prog 26 = .pointer (some ⟨9, 26, none⟩) := by kernel_rfl
  rw [hh] at e5
  have := World.var?_cell gt_et e5 0
  unfold Et
  simpa using this
theorem gr_of6 {W : World} {rest : List (String × DataW Unit)} (h1 : laidMet Tryz.prog (("math/bits.deBruijn32tab", Rows.laid_math_bits_deBruijn32tab) :: ("math/bits.deBruijn64tab", Rows.laid_math_bits_deBruijn64tab) :: ("internal/strconv.uint64pow10", Rows.laid_internal_strconv_uint64pow10) :: ("strconv.ErrRange", Rows.laid_strconv_ErrRange) :: ("strconv.ErrSyntax", Rows.laid_strconv_ErrSyntax) :: ("horizon/lexer.spelling", Rows.laid_horizon_lexer_spelling) :: rest) W) : Gr W := by
  have h3 := h1.tail.tail.tail
  have h4 := h3.tail
  have h5 := h4.tail
  refine ⟨sp_of_head h5, ?_, ?_⟩
  · obtain ⟨a, s, hv, _⟩ := laid_sentinel h4 (by kernel_rfl : Tryz.prog.globalNamed "strconv.ErrSyntax" = some 4) (by kernel_rfl : (Tryz.prog.globals[4]?).map (·.type) = some 26) Tryz.underlying26 gr_row Tryz.underlying167 Tryz.underlying169 rfl rfl Tryz.underlying9 (by kernel_rfl) (by kernel_rfl)
    exact ⟨_, _, hv⟩
  · obtain ⟨a, s, hv, _⟩ := laid_sentinel h3 (by kernel_rfl : Tryz.prog.globalNamed "strconv.ErrRange" = some 5) (by kernel_rfl : (Tryz.prog.globals[5]?).map (·.type) = some 26) Tryz.underlying26 gr_row Tryz.underlying167 Tryz.underlying169 rfl rfl Tryz.underlying9 (by kernel_rfl) (by kernel_rfl)
    exact ⟨_, _, hv⟩
theorem ground7 {W : World} (h : laidMetH Tryz.prog Rows.grammarFitsRow.laid W) : Gr W ∧ Et W := by
  have h' : laidMet Tryz.prog [("math/bits.deBruijn32tab", Rows.laid_math_bits_deBruijn32tab), ("math/bits.deBruijn64tab", Rows.laid_math_bits_deBruijn64tab), ("internal/strconv.uint64pow10", Rows.laid_internal_strconv_uint64pow10), ("strconv.ErrRange", Rows.laid_strconv_ErrRange), ("strconv.ErrSyntax", Rows.laid_strconv_ErrSyntax), ("horizon/lexer.spelling", Rows.laid_horizon_lexer_spelling)] W ∧ handlesMet Tryz.prog [("errors.errorType", Rows.laid_errors_errorType)] W := h
  exact ⟨gr_of6 h'.1, et_of h'.2⟩
/-- a world that has it all -/
noncomputable def lw0 (os : Os) : World :=
  let w0 := World.holding Tryz.prog os ⟨#[], #[], []⟩
  { w0 with heap := w0.heap.modify 2 fun
      | .cells _ t frozen => .cells #[.iface 132 (.agg #[.pointer (some ⟨9, 26, none⟩)])] t frozen
      | o => o }
noncomputable def lwH (os : Os) (L : List (String × DataW Unit)) : World := (lw0 os).layVars Tryz.prog L
theorem lwH_os (os : Os) (L : List (String × DataW Unit)) : (lwH os L).os = os := World.layVars_os _ _ _
theorem lwH_met {os : Os} {L : List (String × DataW Unit)} (args : Array Value) (hf : (lw0 os).layFits Tryz.prog L [] = true) (hi : (lw0 os).layIfaces Tryz.prog L (lwH os L) = true) : laidMet Tryz.prog L ((lwH os L).forCall (fun _ _ => 0) ⟨#[], args, []⟩).memory := by
  have e1 : (L.filter fun x => (L.map (·.1)).contains x.1) = L := List.filter_eq_self.2 fun x hx => List.contains_iff_mem.2 (List.mem_map.2 ⟨x, hx, rfl⟩)
  have e2 : (L.filter fun x => !(L.map (·.1)).contains x.1) = [] := List.filter_eq_nil_iff.2 fun x hx => by rw [List.contains_iff_mem.2 (List.mem_map.2 ⟨x, hx, rfl⟩)]; simp
  have h : laidMet Tryz.prog L (lwH os L) := laidMet_layVars (w0 := lw0 os) (L.map (·.1)) [] (by rw [e1]; rfl) (by rw [e1]; exact hf) (by rw [e1]; exact hi) (by rw [e2]; exact LaidIn.none)
  exact h.of_heap (by simp [World.memory, World.forCall, Input.heap])
end Go.Proofs.YtmekcccmnkgodaaGreatDoor
namespace Go.Proofs.YtmekcccmnkgodaaGreatDoor
open Go.ChangeShapes Go.WideShapes Go.ChangeAt Go.RowKit
set_option linter.unusedVariables false
set_option linter.unusedSimpArgs false
set_option maxRecDepth 100000
theorem prs_len {src : Bs} {F : Nat} {T : List Nd} (h : prsR src F = .tr T) : T.length ≤ 16385 := by
  unfold prsR at h
  cases hs : (scanT src).2 with
  | some er => rw [hs] at h; cases h
  | none =>
    rw [hs] at h
    dsimp only at h
    unfold bldR at h
    cases hB : Bld (fun i => (scanT src).1.getD i nT) (scanT src).1.length F with
    | out => rw [hB] at h; cases h
    | bad e => rw [hB] at h; cases h
    | ok s v =>
      rw [hB] at h
      injection h with h
      obtain ⟨d, hW⟩ := bld_ok hB
      obtain ⟨n1, t1, -, -, e3, -, -⟩ := hW.form
      rw [← h, e3]
      exact hW.len
theorem sameN_stp {T U : List Nd} {vs us : List Value} (h : T.map stp = U.map stp) (i : Nat) : sameN (nf T vs i) (nf U us i) = true := by
  have e : ∀ m : List Nd, stp (m.getD i nT1) = (m.map stp).getD i nT1 := fun m => by
    rw [List.getD_eq_getElem?_getD, List.getD_eq_getElem?_getD, List.getElem?_map]
    cases m[i]? <;> rfl
  have hk : stp (T.getD i nT1) = stp (U.getD i nT1) := by rw [e, e, h]
  have k1 : (T.getD i nT1).kind = (U.getD i nT1).kind := by show (stp (T.getD i nT1)).kind = (stp (U.getD i nT1)).kind; rw [hk]
  have k2 : (T.getD i nT1).name = (U.getD i nT1).name := by show (stp (T.getD i nT1)).name = (stp (U.getD i nT1)).name; rw [hk]
  have k3 : (T.getD i nT1).num = (U.getD i nT1).num := by show (stp (T.getD i nT1)).num = (stp (U.getD i nT1)).num; rw [hk]
  have k4 : (T.getD i nT1).op = (U.getD i nT1).op := by show (stp (T.getD i nT1)).op = (stp (U.getD i nT1)).op; rw [hk]
  have k5 : (T.getD i nT1).kids = (U.getD i nT1).kids := by show (stp (T.getD i nT1)).kids = (stp (U.getD i nT1)).kids; rw [hk]
  unfold sameN nf
  dsimp only
  rw [k1, k2, k3, k4, k5, sameF_yes (fun j _ => rfl)]
  simp
set_option maxHeartbeats 4000000 in
theorem brk_same {e t1 t2 a1 a2 : Bs} {w : World} (K : KCtx e t1 t2 a1 a2 w) {T U : List Nd} (h1 : prsR (cPre ++ e ++ [10]) 400004 = .tr T) (hk1 : (T.getD 0 nT1).kids.length = 1) (h3 : 3 ≤ T.length) (hTl : T.length ≤ 16385) (h2 : prsR (cPre ++ 40 :: e ++ [10, 41]) 400017 = .tr U) (hS : T.map stp = U.map stp) : Calls Tryz.prog 4 #[.string ⟨e.toArray⟩] w (BrkP w) := by
  obtain ⟨e1, e2, e3, e4, p0, p1, p2⟩ := K
  have H0 := mhid p0
  have H1 : Hid (∀ W, Below w.heap.size w W → Calls Tryz.prog 7 #[.string ⟨t1.toArray⟩] W fun e w' => ∃ b oo tc vs, e = .returned (.tuple #[.agg #[.slice (some ⟨b, oo, none⟩) T.length tc], .nilIface]) ∧ NAt w' (some ⟨b, oo, none⟩) T.length (nf T vs) ∧ Below W.heap.size W w' ∧ T.length ≤ 16385 ∧ 0 < T.length) := fun W hW => (p1 W hW).mono fun e9 w' h => by
    rw [h1] at h
    exact resP_tree h
  clear h1
  have hk : ∀ vs, ((((nf T vs 0).kn : Nat) : Int) != 1) = false := fun vs => by
    show ((((T.getD 0 nT1).kids.length : Nat) : Int) != 1) = false
    rw [hk1]; rfl
  have hk2 : ∀ vs, ((((nf T vs 0).kn : Nat) : Int) == 1) = true := fun vs => by
    show ((((T.getD 0 nT1).kids.length : Nat) : Int) == 1) = true
    rw [hk1]; rfl
  clear hk1
  have H2 : Hid (∀ W, Below w.heap.size w W → Calls Tryz.prog 7 #[.string ⟨t2.toArray⟩] W fun e w' => ∃ b oo tc vs, e = .returned (.tuple #[.agg #[.slice (some ⟨b, oo, none⟩) U.length tc], .nilIface]) ∧ NAt w' (some ⟨b, oo, none⟩) U.length (nf U vs) ∧ Below W.heap.size W w' ∧ U.length ≤ 16385 ∧ 0 < U.length) := fun W hW => (p2 W hW).mono fun e9 w' h => by
    rw [h2] at h
    exact resP_tree h
  have hTU : T.length = U.length := by have := congrArg List.length hS; simpa using this
  have HG : Hid (∀ W b oo c b' o' d vs us, NAt W (some ⟨b, oo, none⟩) T.length (nf T vs) → NAt W (some ⟨b', o', none⟩) U.length (nf U us) → Calls Tryz.prog 11 #[.agg #[.slice (some ⟨b, oo, none⟩) T.length c], .agg #[.slice (some ⟨b', o', none⟩) U.length d]] W fun e w' => e = .returned (.bool true) ∧ Below W.heap.size W w') := fun W b oo c b' o' d vs us g1 g2 => by
    have hl : T.length ≤ 16385 ∨ 16385 < T.length := by omega
    have h := gsame_any (some ⟨b, oo, none⟩) (some ⟨b', o', none⟩) T.length U.length c d (nf T vs) (nf U us) (by have := hTl; omega) W g1 g2
    rw [allF_yes (fun j _ => sameN_stp hS j), decide_eq_true hTU] at h
    exact h
  have g21 : decide (((T.length : Nat) : Int) > 2) = true := decide_eq_true (by omega)
  have g22 : decide ((2 : Int) < ((T.length : Nat) : Int)) = true := decide_eq_true (by omega)
  have g23 : decide (2 < T.length) = true := decide_eq_true (by omega)
  clear h2 hS hTU h3
  clear p0 p1 p2
  go_enter Tryz.func4, Tryz.ntmps4
  go_wp2_with (first
    | (go_at_call 7; (with_reducible refine (H0.out).mono ?_); rintro e9 w1 ⟨tp, tc, rfl, hb⟩; have B1 := mhid (hb.trans (((Below.refl _ w1).alloc (Nat.le_refl _) (.cells #[.slice tp 3 tc] 24)).mono hb.size)); clear hb H0)
    | (go_at_call 7; (with_reducible refine (H1.out _ B1.out).mono ?_); rintro e9 w2 ⟨b, oo, tc2, vs, rfl, hN, hb, hl, h0⟩; have B2 := mhid (B1.out.trans (hb.mono B1.out.size)); have HN := mhid (hN.below ((Below.refl _ w2).alloc (Nat.le_refl _) (.cells #[.slice (some ⟨b, oo, none⟩) T.length tc2] 24))); have h01 : decide (((T.length : Nat) : Int) > 0) = true := decide_eq_true (by omega); have h02 : decide ((0 : Int) < ((T.length : Nat) : Int)) = true := decide_eq_true (by omega); have h03 : decide (0 < T.length) = true := decide_eq_true h0; have h04 : (0 : Int) < (T.length : Int) := (by omega); have hc4 : (w2.alloc (.cells #[.slice (some ⟨b, oo, none⟩) T.length tc2] 24)).cell? ⟨b, oo + 4, none⟩ = some (.slice (nf T vs 0).kp (nf T vs 0).kn (nf T vs 0).kc) := (by rcases HN.out with q | ⟨b', o', e', hl', hc'⟩; (exact absurd q (by omega)); (injection e' with e'; injection e' with e1' e2' _; subst e1' e2'; have := (hc' 0 h0).1.2.2.2.2.1; simpa using this)); clear hb hN)
    | (go_at_call 7; (with_reducible refine (H2.out _ (B2.out.alloc B2.out.size _)).mono ?_); rintro e9 w3 ⟨b3, o3, tc3, us, rfl, hN3, hb, hl3, h03⟩; have b3' := (B2.out.alloc B2.out.size (.cells #[.slice (some ⟨b, oo, none⟩) T.length tc2] 24)).trans (hb.mono (B2.out.alloc B2.out.size _).size); have hx := (hb.block w2.heap.size (by simp)).trans (World.alloc_heap_new w2 (.cells #[.slice (some ⟨b, oo, none⟩) T.length tc2] 24 (0, 0))); have cT : ∀ z, (w3.alloc z).cell? ⟨w2.heap.size, 0, none⟩ = some (.slice (some ⟨b, oo, none⟩) T.length tc2) := fun z => cell_box1 ((Below.heap_alloc w3 z w2.heap.size (Array.getElem?_eq_some_iff.1 hx).1).trans hx); have HN2 := mhid (And.intro ((HN.out.below hb).below ((Below.refl _ w3).alloc (Nat.le_refl _) (.cells #[.slice (some ⟨b3, o3, none⟩) U.length tc3] 24))) (hN3.below ((Below.refl _ w3).alloc (Nat.le_refl _) (.cells #[.slice (some ⟨b3, o3, none⟩) U.length tc3] 24)))); have B3 := mhid (b3'.alloc b3'.size (.cells #[.slice (some ⟨b3, o3, none⟩) U.length tc3] 24)); clear hb b3' hN3 hx)
    | (go_at_call 11; (with_reducible refine (HG.out _ _ _ _ _ _ _ _ _ HN2.out.1 HN2.out.2).mono ?_); rintro e9 w4 ⟨rfl, hb⟩; have B4 := mhid (B3.out.trans (hb.mono B3.out.size)); clear hb))
  go_ret
  exact ⟨rfl, B4.out⟩
theorem brk_law (e : Bs) (he : e.length ≤ 1048576) (w : World) (g : Gr w ∧ Et w) : Calls Tryz.prog 4 #[.string ⟨e.toArray⟩] w fun e w' => e = .returned (.bool true) ∧ Below w.heap.size w w' := by
  obtain ⟨t1, t2, a1, a2, K⟩ := kctx e he w g.1 g.2
  rcases brk_res e 400000 (Nat.le_refl _) with ⟨c, l, o, h1⟩ | ⟨T, h1, h2⟩ | ⟨T, h1, h3, h2, h4⟩
  · exact brk_er K h1
  · exact brk_more K h1 h2
  · rcases h4 with ⟨c, l, o, h5, h6⟩ | ⟨U, h5, h6⟩
    · exact brk_err K h1 h2 h5 h6
    · exact brk_same K h1 h2 h3 (prs_len h1) h5 h6
end Go.Proofs.YtmekcccmnkgodaaGreatDoor
