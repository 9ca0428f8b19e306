import Derived.Test.YtpicobmilcbmlaaSV9
import Derived.Test.YtpicobmilcbmlaaKE1
namespace Go.Proofs.Ytpicobmilcbmlaa
open Go.ChangeShapes Go.WideShapes Go.ChangeAt Go.RowKit Go.Deep
set_option linter.unusedVariables false
set_option linter.unusedSimpArgs false

set_option maxRecDepth 100000
theorem lst5k {α : Type} {l : List α} (h : l.length = 5) : ∃ a b c d e, l = [a, b, c, d, e] := by
  match l, h with
  | [a, b, c, d, e], _ => exact ⟨a, b, c, d, e, rfl⟩
theorem view_layout {H : Type} {enc : TypeId × Value → H} {W : World} {base : Nat} {v : Value} {d : DataW H} {pl : List MemPlace}
    (hval : Value.okWide Try.prog W .any base 46 v) (h : DataW.Trod enc Try.prog W 0 (fun _ => true) true 46 v d pl) (hw : ∀ y ∈ d.weights Try.prog 46, y ≤ reachBytes) :
    ∃ (l : Ly) (u : LyV), v = .agg #[.int .i64 l.wk, .slice u.op l.n u.oc, .int .i64 l.ar, .int .i64 l.bx, .int .i64 l.un] ∧ KAt W u.op l.n l.O ∧ l.n ≤ 17592186044416 := by
  obtain ⟨cs, rfl, hsz⟩ := okWide_struct Try.underlying46 hval
  rw [show Try.prog.cellsOf 46 = 5 from by kernel_rfl] at hsz
  obtain ⟨fuel, hf⟩ := h
  obtain ⟨l, rfl⟩ : ∃ l : List Value, cs = l.toArray := ⟨cs.toList, by simp⟩
  obtain ⟨c0, c1, c2, c3, c4, rfl⟩ := lst5k (by simpa using hsz)
  obtain ⟨xs, n, _, hx0, _, hxl, hx⟩ := DataW.trod_struct Try.underlying46 hf
  obtain ⟨y0, y1, y2, y3, y4, rfl⟩ := lst5k (by simpa using hxl)
  have k3 : Try.prog.cellsOf 3 = 1 := by kernel_rfl
  have kp : Try.prog.cellsOf 44 = 1 := by kernel_rfl
  have g0 := hx 0 _ rfl
  have g1 := hx 1 _ rfl
  have g2 := hx 2 _ rfl
  have g3 := hx 3 _ rfl
  have g4 := hx 4 _ rfl
  simp [Value.cells, k3, kp] at g0 g1 g2 g3 g4
  simp only [Prod.mk.injEq] at hx0
  obtain ⟨x0, s0, _, w0⟩ := DataW.trod_int Try.underlying3 g0
  obtain ⟨x2, s2, _, w2⟩ := DataW.trod_int Try.underlying3 g2
  obtain ⟨x3, s3, _, w3⟩ := DataW.trod_int Try.underlying3 g3
  obtain ⟨x4, s4, _, w4⟩ := DataW.trod_int Try.underlying3 g4
  obtain ⟨q, m, e, K, s1, hk, hm⟩ := view_ints g1 (fun y hy => hw y (by
    rw [hx0.1]
    simp only [DataW.weights, Try.underlying46]
    refine DataW.weights_mem_each (j := 1) (t := 44) (d := y1.1) ?_ rfl y hy
    kernel_rfl))
  simp at s0 s2 s3 s4
  subst s0 s1 s2 s3 s4
  exact ⟨⟨x0, m, K, x2, x3, x4⟩, ⟨q, e⟩, rfl, hk, hm⟩
end Go.Proofs.Ytpicobmilcbmlaa
