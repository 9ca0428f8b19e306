import Derived.Test.YtlojkcodndjfbaaRows
import Derived.Test.YtlojkcodndjfbaaSE4
import Derived.Test.YtlojkcodndjfbaaYV
namespace Go.Proofs.Ytlojkcodndjfbaa
open Go.ChangeShapes Go.WideShapes Go.ChangeAt Go.RowKit Go.Deep
set_option linter.unusedVariables false
set_option maxRecDepth 100000

theorem view_evA {H : Type} {enc : TypeId × Value → H} {W : World} {base : Nat} {v : Value} {d : DataW H} {p : List MemPlace}
    (hval : Value.okWide Try.prog W .any base 27 v) (h : DataW.Trod enc Try.prog W 0 (fun _ => true) true 27 v d p) :
    ∃ X : Ev, v = .agg #[.int .u64 X.t, .int .i64 X.s, .int .u64 X.q, .int .i64 X.d, .int .i64 X.k, .int .i64 X.v] := by
  obtain ⟨cs, rfl, hsz⟩ := okWide_struct Try.underlying27 hval
  rw [show Try.prog.cellsOf 27 = 6 from by kernel_rfl] at hsz
  obtain ⟨fuel, hf⟩ := h
  obtain ⟨X, h1⟩ := view_evt (cs := cs.toList) (by simpa [Value.cells] using hf) (by simpa using hsz)
  refine ⟨X, ?_⟩
  obtain ⟨l⟩ := cs
  simp at h1
  rw [h1]
  rfl
end Go.Proofs.Ytlojkcodndjfbaa
