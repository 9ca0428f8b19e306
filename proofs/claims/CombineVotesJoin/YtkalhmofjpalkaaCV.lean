import Derived.Test.YtkalhmofjpalkaaRows
import Derived.Test.YtkalhmofjpalkaaC1
import Derived.Deep.Slices
import Derived.SizedLaws
namespace Go.Proofs.Ytkalhmofjpalkaa
open Go.ChangeShapes Go.WideShapes Go.ChangeAt Go.RowKit Go.Deep
set_option linter.unusedVariables false
set_option maxRecDepth 100000

theorem list3 {α : Type} {l : List α} (h : l.length = 3) : ∃ a b c, l = [a, b, c] := by
  match l, h with
  | [a, b, c], _ => exact ⟨a, b, c, rfl⟩
theorem list7 {α : Type} {l : List α} (h : l.length = 7) : ∃ a b c d e f g, l = [a, b, c, d, e, f, g] := by
  match l, h with
  | [a, b, c, d, e, f, g], _ => exact ⟨a, b, c, d, e, f, g, rfl⟩
theorem list9 {α : Type} {l : List α} (h : l.length = 9) : ∃ a b c d e f g x y, l = [a, b, c, d, e, f, g, x, y] := by
  match l, h with
  | [a, b, c, d, e, f, g, x, y], _ => exact ⟨a, b, c, d, e, f, g, x, y, rfl⟩
theorem view_key3 {H : Type} {enc : TypeId × Value → H} {W : World} {fuel : Nat} {cs : List Value} {x : DataW H × List MemPlace} (h : DataW.trod enc Try.prog W 0 (fun _ => true) true fuel 24 cs = some x) (hl : cs.length = 3) :
    ∃ t s q : Int, cs = [.int .u64 t, .int .i64 s, .int .u64 q] := by
  obtain ⟨c0, c1, c2, rfl⟩ := list3 hl
  obtain ⟨xs, n, _, hx0, _, hxl, hx⟩ := DataW.trod_struct Try.underlying24 h
  obtain ⟨y0, y1, y2, rfl⟩ := list3 (by simpa using hxl)
  have k3 : Try.prog.cellsOf 3 = 1 := by kernel_rfl
  have k2 : Try.prog.cellsOf 22 = 1 := by kernel_rfl
  have g0 := hx 0 _ rfl
  have g1 := hx 1 _ rfl
  have g2 := hx 2 _ rfl
  simp [k3, k2] at g0 g1 g2
  obtain ⟨x0, s0, _, w0⟩ := DataW.trod_int Try.underlying22 g0
  obtain ⟨x1, s1, _, w1⟩ := DataW.trod_int Try.underlying3 g1
  obtain ⟨x2, s2, _, w2⟩ := DataW.trod_int Try.underlying22 g2
  simp at s0 s1 s2
  subst s0 s1 s2
  exact ⟨x0, x1, x2, rfl⟩
theorem view_vote {H : Type} {enc : TypeId × Value → H} {W : World} {base : Nat} {v : Value} {d : DataW H} {p : List MemPlace}
    (hval : Value.okWide Try.prog W .any base 27 v) (h : DataW.Trod enc Try.prog W 0 (fun _ => true) true 27 v d p) :
    ∃ X : Vt, v = vtA X ∧ -9223372036854775808 ≤ X.ct ∧ X.ct ≤ 9223372036854775807 ∧ 0 ≤ X.lo := by
  obtain ⟨cs, rfl, hsz⟩ := okWide_struct Try.underlying27 hval
  rw [show Try.prog.cellsOf 27 = 9 from by kernel_rfl] at hsz
  obtain ⟨fuel, hf⟩ := h
  obtain ⟨l⟩ := cs
  obtain ⟨c0, c1, c2, c3, c4, c5, c6, c7, c8, rfl⟩ := list9 (by simpa using hsz)
  have hf' : DataW.trod enc Try.prog W 0 (fun _ => true) true fuel 27 [c0, c1, c2, c3, c4, c5, c6, c7, c8] = some (d, p) := by simpa [Value.cells] using hf
  obtain ⟨xs, n, _, _, _, hxl, hx⟩ := DataW.trod_struct Try.underlying27 hf'
  obtain ⟨y0, y1, y2, y3, y4, y5, y6, rfl⟩ := list7 (by simpa using hxl)
  have k24 : Try.prog.cellsOf 24 = 3 := by kernel_rfl
  have k3 : Try.prog.cellsOf 3 = 1 := by kernel_rfl
  have k2 : Try.prog.cellsOf 22 = 1 := by kernel_rfl
  have k4 : Try.prog.cellsOf 4 = 1 := by kernel_rfl
  have k5 : Try.prog.cellsOf 25 = 1 := by kernel_rfl
  have g0 := hx 0 _ rfl
  have g1 := hx 1 _ rfl
  have g2 := hx 2 _ rfl
  have g3 := hx 3 _ rfl
  have g4 := hx 4 _ rfl
  have g5 := hx 5 _ rfl
  have g6 := hx 6 _ rfl
  simp [k24, k3, k2, k4, k5] at g0 g1 g2 g3 g4 g5 g6
  obtain ⟨x0, s0, _, w0⟩ := DataW.trod_int Try.underlying22 g0
  obtain ⟨x1, s1, _⟩ := DataW.trod_bool Try.underlying4 g1
  obtain ⟨x2, s2, _⟩ := DataW.trod_bool Try.underlying4 g2
  obtain ⟨x3, s3, _⟩ := DataW.trod_bool Try.underlying4 g3
  obtain ⟨t, s, q, s4⟩ := view_key3 g4 rfl
  obtain ⟨x5, s5, _, w5⟩ := DataW.trod_int Try.underlying25 g5
  obtain ⟨x6, s6, _, w6⟩ := DataW.trod_int Try.underlying3 g6
  simp at s0 s1 s2 s3 s4 s5 s6
  obtain ⟨s4, s7, s8⟩ := s4
  subst s0 s1 s2 s3 s4 s5 s6 s7 s8
  exact ⟨⟨x0, x1, x2, x3, t, s, q, x5, x6⟩, rfl, (bounds_i64 w6).1, (bounds_i64 w6).2, (bounds_u64 w0).1⟩
end Go.Proofs.Ytkalhmofjpalkaa
