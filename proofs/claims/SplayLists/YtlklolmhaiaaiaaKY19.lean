import Derived.Test.YtlklolmhaiaaiaaRows
import Derived.Test.YtlklolmhaiaaiaaKY20
import Derived.Deep.Slices
import Derived.SizedLaws
namespace Go.Proofs.Ytlklolmhaiaaiaa
open Go.ChangeShapes Go.WideShapes Go.ChangeAt Go.RowKit Go.Deep
set_option linter.unusedVariables false
set_option maxRecDepth 100000

structure K3 where
  t : Int
  s : Int
  q : Int
theorem list3 {α : Type} {l : List α} (h : l.length = 3) : ∃ a b c, l = [a, b, c] := by
  match l, h with
  | [a, b, c], _ => exact ⟨a, b, c, rfl⟩
theorem view_key {H : Type} {enc : TypeId × Value → H} {W : World} {fuel : Nat} {cs : List Value} {x : DataW H × List MemPlace} (h : DataW.trod enc Try.prog W 0 (fun _ => true) true fuel 30 cs = some x) (hl : cs.length = 3) :
    ∃ X : K3, cs = [.int .u64 X.t, .int .i64 X.s, .int .u64 X.q] := by
  obtain ⟨c0, c1, c2, rfl⟩ := list3 hl
  obtain ⟨xs, n, _, hx0, _, hxl, hx⟩ := DataW.trod_struct Try.underlying30 h
  obtain ⟨y0, y1, y2, rfl⟩ := list3 (by simpa using hxl)
  have k3 : Try.prog.cellsOf 3 = 1 := by kernel_rfl
  have k2 : Try.prog.cellsOf 28 = 1 := by kernel_rfl
  have g0 := hx 0 _ rfl
  have g1 := hx 1 _ rfl
  have g2 := hx 2 _ rfl
  simp [k3, k2] at g0 g1 g2
  obtain ⟨x0, s0, _, w0⟩ := DataW.trod_int Try.underlying28 g0
  obtain ⟨x1, s1, _, w1⟩ := DataW.trod_int Try.underlying3 g1
  obtain ⟨x2, s2, _, w2⟩ := DataW.trod_int Try.underlying28 g2
  simp at s0 s1 s2
  subst s0 s1 s2
  exact ⟨⟨x0, x1, x2⟩, rfl⟩
end Go.Proofs.Ytlklolmhaiaaiaa
