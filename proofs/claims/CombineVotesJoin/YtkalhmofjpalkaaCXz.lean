import Derived.Test.YtkalhmofjpalkaaCX
namespace Go.Proofs.Ytkalhmofjpalkaa
open Go.ChangeShapes Go.WideShapes Go.ChangeAt Go.RowKit
set_option linter.unusedVariables false

theorem votesJoin_law (a b c : Vt) (xa0 : -9223372036854775808 ≤ a.ct) (xb0 : a.ct ≤ 9223372036854775807) (xc0 : 0 ≤ a.lo) (xa1 : -9223372036854775808 ≤ b.ct) (xb1 : b.ct ≤ 9223372036854775807) (xc1 : 0 ≤ b.lo) (xa2 : -9223372036854775808 ≤ c.ct) (xb2 : c.ct ≤ 9223372036854775807) (xc2 : 0 ≤ c.lo) (w : World) : Calls Try.prog 3 #[vtA a, vtA b, vtA c] w fun e w' => e = .returned (.bool true) ∧ Below w.heap.size w w' := by
  obtain ⟨alo, aan, aba, afa, att, ass, aqq, aco, act⟩ := a
  obtain ⟨blo, ban, bba, bfa, btt, bss, bqq, bco, bct⟩ := b
  obtain ⟨clo, can, cba, cfa, ctt, css, cqq, cco, cct⟩ := c
  exact join_law alo att ass aqq aco act blo btt bss bqq bco bct clo ctt css cqq cco cct aan aba afa ban bba bfa can cba cfa xa0 xb0 w
end Go.Proofs.Ytkalhmofjpalkaa
