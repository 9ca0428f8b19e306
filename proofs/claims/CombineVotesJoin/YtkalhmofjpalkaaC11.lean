import Derived.Test.YtkalhmofjpalkaaC2z
import Derived.ChangeOld
namespace Go.Proofs.Ytkalhmofjpalkaa
open Go.ChangeShapes Go.WideShapes Go.ChangeAt Go.RowKit
set_option linter.unusedVariables false
set_option linter.unusedSimpArgs false

theorem vt_eta (a b : Vt) : a = b ↔ (a.lo = b.lo ∧ a.an = b.an ∧ a.ba = b.ba ∧ a.fa = b.fa ∧ a.t = b.t ∧ a.s = b.s ∧ a.q = b.q ∧ a.co = b.co ∧ a.ct = b.ct) := by
  constructor
  · rintro rfl; simp
  · obtain ⟨⟩ := a; obtain ⟨⟩ := b; rintro ⟨h0, h1, h2, h3, h4, h5, h6, h7, h8⟩; simp at *; simp [*]
open Classical in
theorem eql_vt_same (a : Vt) (W : World) : (binOp .eql 27 (vtA a) (vtA a)).run Try.prog W = .ok (.bool true) W := by
  obtain ⟨lo, an, ba, fa, t, s, q, co, ct⟩ := a
  unfold vtA
  go_simp
theorem neq_vt_same (a : Vt) (W : World) : (binOp .neq 27 (vtA a) (vtA a)).run Try.prog W = .ok (.bool false) W := by
  obtain ⟨lo, an, ba, fa, t, s, q, co, ct⟩ := a
  unfold vtA
  go_simp
end Go.Proofs.Ytkalhmofjpalkaa
