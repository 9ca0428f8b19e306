import Derived.Test.YtmekcccmnkgodaaGreatDoorFGPV
import Derived.Test.YtmekcccmnkgodaaGreatDoorFLRead
import Derived.Test.YtmekcccmnkgodaaGreatDoorTie
import Derived.Deep.DeepHandedRow
import Derived.Lay
import Derived.LaidHandle
import Derived.Stop.LaidErr
import Derived.Test.YtmekcccmnkgodaaGreatDoorFGF3
namespace Go.Proofs.YtmekcccmnkgodaaGreatDoor
open Go.ChangeShapes Go.WideShapes Go.ChangeAt Go.RowKit
set_option linter.unusedVariables false
set_option maxRecDepth 100000
/-! ### the ground of a card whose list holds a type's handle -/
theorem gr_star : "*" ++ "errors.errorString" = "*errors.errorString" := by decide
theorem gr_row (u : TypeId) (h : Tryz.prog.typeName? 3 u = some "*errors.errorString") : u = 167 :=
  typeName_ptr_named (nm := "errors.errorString") (by rw [gr_star]; kernel_rfl) (by kernel_rfl) (by decide) u (by rw [gr_star]; exact h)
theorem gt_et : Tryz.prog.globalNamed "errors.errorType" = some 2 := by kernel_rfl
theorem gt_rt : (Tryz.prog.cutTypes.find? (·.1 == "internal/reflectlite.rtype")).map (·.2) = some 132 := by kernel_rfl
theorem gt_oneRow : ((List.range 209).filter fun t => Tryz.prog.rowNamed t [101, 114, 114, 111, 114]) = [26] := by kernel_rfl
theorem gt_size : Tryz.prog.types.size = 209 := by kernel_rfl
theorem et_of {W : World} (h : handlesMet Tryz.prog [("errors.errorType", Rows.laid_errors_errorType)] W) : Et W := by
  obtain ⟨name, u, ty, e1, e2, e3, e4, e5⟩ := h _ (List.mem_singleton.2 rfl)
  have en : name = [101, 114, 114, 111, 114] := (Option.some.inj e1).symm
  subst en
  obtain rfl := Option.some.inj (gt_rt.symm.trans e2)
  have hm : ty ∈ (List.range 209).filter fun t => Tryz.prog.rowNamed t [101, 114, 114, 111, 114] := List.mem_filter.2 ⟨List.mem_range.2 (by rw [← gt_size]; exact e3), e4⟩
  rw [gt_oneRow] at hm
  obtain rfl := List.mem_singleton.1 hm
  have hh : typeHandle Tryz.prog 26 = .pointer (some ⟨9, 26, none⟩) := by kernel_rfl
  rw [hh] at e5
  have := World.var?_cell gt_et e5 0
  unfold Et
  simpa using this
theorem gr_of6 {W : World} {rest : List (String × DataW Unit)} (h1 : laidMet Tryz.prog (("math/bits.deBruijn32tab", Rows.laid_math_bits_deBruijn32tab) :: ("math/bits.deBruijn64tab", Rows.laid_math_bits_deBruijn64tab) :: ("internal/strconv.uint64pow10", Rows.laid_internal_strconv_uint64pow10) :: ("strconv.ErrRange", Rows.laid_strconv_ErrRange) :: ("strconv.ErrSyntax", Rows.laid_strconv_ErrSyntax) :: ("horizon/lexer.spelling", Rows.laid_horizon_lexer_spelling) :: rest) W) : Gr W := by
  have h3 := h1.tail.tail.tail
  have h4 := h3.tail
  have h5 := h4.tail
  refine ⟨sp_of_head h5, ?_, ?_⟩
  · obtain ⟨a, s, hv, _⟩ := laid_sentinel h4 (by kernel_rfl : Tryz.prog.globalNamed "strconv.ErrSyntax" = some 4) (by kernel_rfl : (Tryz.prog.globals[4]?).map (·.type) = some 26) Tryz.underlying26 gr_row Tryz.underlying167 Tryz.underlying169 rfl rfl Tryz.underlying9 (by kernel_rfl) (by kernel_rfl)
    exact ⟨_, _, hv⟩
  · obtain ⟨a, s, hv, _⟩ := laid_sentinel h3 (by kernel_rfl : Tryz.prog.globalNamed "strconv.ErrRange" = some 5) (by kernel_rfl : (Tryz.prog.globals[5]?).map (·.type) = some 26) Tryz.underlying26 gr_row Tryz.underlying167 Tryz.underlying169 rfl rfl Tryz.underlying9 (by kernel_rfl) (by kernel_rfl)
    exact ⟨_, _, hv⟩
theorem ground7 {W : World} (h : laidMetH Tryz.prog Rows.grammarFitsRow.laid W) : Gr W ∧ Et W := by
  have h' : laidMet Tryz.prog [("math/bits.deBruijn32tab", Rows.laid_math_bits_deBruijn32tab), ("math/bits.deBruijn64tab", Rows.laid_math_bits_deBruijn64tab), ("internal/strconv.uint64pow10", Rows.laid_internal_strconv_uint64pow10), ("strconv.ErrRange", Rows.laid_strconv_ErrRange), ("strconv.ErrSyntax", Rows.laid_strconv_ErrSyntax), ("horizon/lexer.spelling", Rows.laid_horizon_lexer_spelling)] W ∧ handlesMet Tryz.prog [("errors.errorType", Rows.laid_errors_errorType)] W := h
  exact ⟨gr_of6 h'.1, et_of h'.2⟩
/-- a world that has it all -/
noncomputable def lw0 (os : Os) : World :=
  let w0 := World.holding Tryz.prog os ⟨#[], #[], []⟩
  { w0 with heap := w0.heap.modify 2 fun
      | .cells _ t frozen => .cells #[.iface 132 (.agg #[.pointer (some ⟨9, 26, none⟩)])] t frozen
      | o => o }
noncomputable def lwH (os : Os) (L : List (String × DataW Unit)) : World := (lw0 os).layVars Tryz.prog L
theorem lwH_os (os : Os) (L : List (String × DataW Unit)) : (lwH os L).os = os := World.layVars_os _ _ _
theorem lwH_met {os : Os} {L : List (String × DataW Unit)} (args : Array Value) (hf : (lw0 os).layFits Tryz.prog L [] = true) (hi : (lw0 os).layIfaces Tryz.prog L (lwH os L) = true) : laidMet Tryz.prog L ((lwH os L).forCall (fun _ _ => 0) ⟨#[], args, []⟩).memory := by
  have e1 : (L.filter fun x => (L.map (·.1)).contains x.1) = L := List.filter_eq_self.2 fun x hx => List.contains_iff_mem.2 (List.mem_map.2 ⟨x, hx, rfl⟩)
  have e2 : (L.filter fun x => !(L.map (·.1)).contains x.1) = [] := List.filter_eq_nil_iff.2 fun x hx => by rw [List.contains_iff_mem.2 (List.mem_map.2 ⟨x, hx, rfl⟩)]; simp
  have h : laidMet Tryz.prog L (lwH os L) := laidMet_layVars (w0 := lw0 os) (L.map (·.1)) [] (by rw [e1]; rfl) (by rw [e1]; exact hf) (by rw [e1]; exact hi) (by rw [e2]; exact LaidIn.none)
  exact h.of_heap (by simp [World.memory, World.forCall, Input.heap])
end Go.Proofs.YtmekcccmnkgodaaGreatDoor
namespace Go.Proofs.YtmekcccmnkgodaaGreatDoor
open Go.ChangeShapes Go.WideShapes Go.ChangeAt Go.RowKit
theorem fits_law (src : Bs) (cut : Int) (hmx : src.length ≤ maxLen) (w : World) (g : Gr w ∧ Et w) : Calls Tryz.prog 3 #[.string ⟨src.toArray⟩, .int .i64 cut] w fun e w' => e = .returned (.bool true) ∧ Below w.heap.size w w' := fits_any src cut hmx w g.1 g.2
end Go.Proofs.YtmekcccmnkgodaaGreatDoor
