import Derived.Test.YtpeojhhbinfekacDoorRows
import Derived.WalkKit
import Derived.ProofKit
import Derived.OpenShut
namespace Go.Proofs.YtpeojhhbinfekacDoor
open Go.ChangeShapes Go.WideShapes Go.ChangeAt Go.RowKit
set_option maxRecDepth 100000

theorem list6 {α : Type} {l : List α} (h : l.length = 6) : ∃ a b c d e f, l = [a, b, c, d, e, f] := by
  match l, h with
  | [a, b, c, d, e, f], _ => exact ⟨a, b, c, d, e, f, rfl⟩

theorem list4 {α : Type} {l : List α} (h : l.length = 4) : ∃ a b c d, l = [a, b, c, d] := by
  match l, h with
  | [a, b, c, d], _ => exact ⟨a, b, c, d, rfl⟩
theorem list3 {α : Type} {l : List α} (h : l.length = 3) : ∃ a b c, l = [a, b, c] := by
  match l, h with
  | [a, b, c], _ => exact ⟨a, b, c, rfl⟩

theorem view_event {H : Type} {enc : TypeId × Value → H} {W : World} {base : Nat} {v : Value} {d : DataW H} {p : List MemPlace}
    (hval : Value.okWide Tryd.prog W .any base 26 v) (h : DataW.Trod enc Tryd.prog W 0 (fun _ => true) true 26 v d p) :
    ∃ (t q : Nat) (s dd k vv : Int), v = .agg #[.int .u64 t, .int .i64 s, .int .u64 q, .int .i64 dd, .int .i64 k, .int .i64 vv] ∧ t < 18446744073709551616 ∧ q < 18446744073709551616 ∧ (-9223372036854775808 ≤ s ∧ s ≤ 9223372036854775807) ∧ (-9223372036854775808 ≤ dd ∧ dd ≤ 9223372036854775807) ∧ (-9223372036854775808 ≤ k ∧ k ≤ 9223372036854775807) ∧ (-9223372036854775808 ≤ vv ∧ vv ≤ 9223372036854775807) := by
  obtain ⟨cs, rfl, hsz⟩ := okWide_struct Tryd.underlying26 hval
  rw [show Tryd.prog.cellsOf 26 = 6 from by kernel_rfl] at hsz
  obtain ⟨fuel, hf⟩ := h
  obtain ⟨l, rfl⟩ : ∃ l : List Value, cs = l.toArray := ⟨cs.toList, by simp⟩
  obtain ⟨c0, c1, c2, c3, c4, c5, rfl⟩ := list6 (by simpa using hsz)
  obtain ⟨xs, n, _, _, _, hxl, hx⟩ := DataW.trod_struct Tryd.underlying26 hf
  obtain ⟨y0, y1, y2, y3, rfl⟩ := list4 (by simpa using hxl)
  have k24 : Tryd.prog.cellsOf 24 = 3 := by kernel_rfl
  have k22 : Tryd.prog.cellsOf 22 = 1 := by kernel_rfl
  have k3 : Tryd.prog.cellsOf 3 = 1 := by kernel_rfl
  have k2 : Tryd.prog.cellsOf 2 = 1 := by kernel_rfl
  have g0 := hx 0 _ rfl
  have g1 := hx 1 _ rfl
  have g2 := hx 2 _ rfl
  have g3 := hx 3 _ rfl
  simp [Value.cells, k24, k3, k2] at g0 g1 g2 g3
  obtain ⟨ys, n', _, _, _, hyl, hy⟩ := DataW.trod_struct Tryd.underlying24 g0
  obtain ⟨z0, z1, z2, rfl⟩ := list3 (by simpa using hyl)
  have e0 := hy 0 _ rfl
  have e1 := hy 1 _ rfl
  have e2 := hy 2 _ rfl
  simp [k22, k3] at e0 e1 e2
  obtain ⟨x0, s0, _, w0⟩ := DataW.trod_int Tryd.underlying22 e0
  obtain ⟨x1, s1, _, w1⟩ := DataW.trod_int Tryd.underlying3 e1
  obtain ⟨x2, s2, _, w2⟩ := DataW.trod_int Tryd.underlying22 e2
  obtain ⟨x3, s3, _, w3⟩ := DataW.trod_int Tryd.underlying3 g1
  obtain ⟨x4, s4, _, w4⟩ := DataW.trod_int Tryd.underlying3 g2
  obtain ⟨x5, s5, _, w5⟩ := DataW.trod_int Tryd.underlying2 g3
  simp at s0 s1 s2 s3 s4 s5
  subst s0 s1 s2 s3 s4 s5
  have b0 := bounds_u64 w0
  have b2 := bounds_u64 w2
  obtain ⟨t, rfl⟩ := Int.eq_ofNat_of_zero_le b0.1
  obtain ⟨q, rfl⟩ := Int.eq_ofNat_of_zero_le b2.1
  exact ⟨t, q, x1, x3, x4, x5, rfl, by omega, by omega, bounds_i64 w1, bounds_i64 w3, bounds_i64 w4, bounds_i64 w5⟩

end Go.Proofs.YtpeojhhbinfekacDoor
