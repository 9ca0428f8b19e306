import Derived.Test.YtijkokckdbhkcaaDoorRows
import Derived.Test.YtijkokckdbhkcaaDoorTX11
import Derived.Lib.LaidTab
import Derived.Lay
import Derived.Stop.LaidErr
namespace Go.Proofs.YtijkokckdbhkcaaDoor
open Go.ChangeShapes Go.WideShapes Go.ChangeAt Go.RowKit
set_option linter.unusedVariables false
set_option maxRecDepth 100000

theorem tt_data : (Rows.laid_internal_strconv_uint64pow10 : DataW Unit) = Lib.tabData .u64 Lib.pow10Tab := by kernel_rfl
theorem tab_of {W : World} (h : laidMetH Tryd.prog Rows.reportTextsUptoRow.laid W) (hs : W.ShapedOpen Tryd.prog) : Lib.TabIs Tryd.prog W "internal/strconv.uint64pow10" .u64 Lib.pow10Tab := by
  have h1 : laidMet Tryd.prog [("math/bits.deBruijn32tab", Rows.laid_math_bits_deBruijn32tab), ("math/bits.deBruijn64tab", Rows.laid_math_bits_deBruijn64tab), ("internal/strconv.uint64pow10", Rows.laid_internal_strconv_uint64pow10)] W := h
  have h2 := h1.tail.tail
  rw [tt_data] at h2
  exact Lib.tabIs_of_head (rest := []) (by kernel_rfl : Tryd.prog.globalNamed "internal/strconv.uint64pow10" = some 0) (by kernel_rfl : (Tryd.prog.globals[0]?).map (·.type) = some 65) Tryd.underlying65 Tryd.underlying23 (by kernel_rfl) (by kernel_rfl) h2
structure RT where
  k : Int
  c : Int
  t : Nat
  s : Int
  u : Nat
  m : Int
  q : Option Addr
  x : Option Addr
  n : Nat
  cq : Nat
  nx : Nat
  cx : Nat
  A : Nat → Sa
  K : Nat → Nat → Int
  X : Nat → Se
def RT.v (r : RT) : Value := .agg #[.int .i64 r.k, .int .i64 r.c, .int .u64 r.t, .int .i64 r.s, .int .u64 r.u, .int .i64 r.m, .slice r.q r.n r.cq, .slice r.x r.nx r.cx]
structure RT.ok (r : RT) : Prop where
  hk : I64 r.k
  hc : I64 r.c
  ht : r.t < 18446744073709551616
  hs : I64 r.s
  hu : r.u < 18446744073709551616
  hm : I64 r.m
  hn : r.n * 40 ≤ 140737488355328
  hw : ∀ j, j < r.n → (r.A j).n ≤ 17592186044416
  hnx : r.nx ≤ 2932031007402
  hA : ∀ j, j < r.n → StOk (r.A j) (r.K j)
  hX : ∀ j, j < r.nx → SeOk (r.X j)
  hl : 22 * wsum r.A r.n + 80 * r.n + 131 * r.nx + 600 ≤ 140737488355328
theorem view_RT {H : Type} {enc : TypeId × Value → H} {W : World} {base : Nat} {v : Value} {d : DataW H} {pl : List MemPlace}
    (hval : Value.okWide Tryd.prog W .any base 29 v) (h : DataW.Trod enc Tryd.prog W 0 (fun _ => true) true 29 v d pl) (hw : ∀ y ∈ d.weights Tryd.prog 29, y ≤ reachBytes) (hbk : Rows.uptoBulk d ≤ 1048576) :
    ∃ (r : RT) (_ : Unit) (_ : Unit) (_ : Unit), v = r.v ∧ (SsAt W r.q r.n r.A r.K ∧ SIn W r.x r.nx r.X) ∧ r.ok := by
  obtain ⟨k, c, a0, a1, a2, m, q, x, n, cq, nx, cx, Aa, K, X, rfl, ⟨r1, r2, r3, r4, r5, r6⟩, hX, hn, hw, hnx, ⟨hb1, hb2⟩, hS, hC⟩ := view_resT hval h hw hbk
  obtain ⟨t, rfl⟩ := Int.eq_ofNat_of_zero_le r3.1
  obtain ⟨u, rfl⟩ := Int.eq_ofNat_of_zero_le r5.1
  have q1 : t < 18446744073709551616 := by omega
  have q2 : u < 18446744073709551616 := by omega
  have q3 : nx ≤ 2932031007402 := by omega
  have q4 : 22 * wsum Aa n + 80 * n + 131 * nx + 600 ≤ 140737488355328 := by omega
  exact ⟨⟨k, c, t, a1, u, m, q, x, n, cq, nx, cx, Aa, K, X⟩, (), (), (), rfl, ⟨hS, hC⟩, ⟨r1, r2, q1, r4, q2, r6, hn, fun j hj => (hw j hj).1, q3, fun j hj => (hw j hj).2, hX, q4⟩⟩
theorem texts_RT (r : RT) (_ _ _ : Unit) (hz : r.ok) (W : World) (ht : Lib.TabIs Tryd.prog W "internal/strconv.uint64pow10" .u64 Lib.pow10Tab) (hy : SsAt W r.q r.n r.A r.K ∧ SIn W r.x r.nx r.X) :
    Calls Tryd.prog 3 #[r.v] W fun e w' => e = .returned (.bool true) ∧ Below W.heap.size W w' :=
  texts_law r.t r.u r.k r.c r.s r.m r.q r.x r.n r.cq r.nx r.cx r.A r.K r.X hz.hk hz.hc hz.ht hz.hs hz.hu hz.hm hz.hn hz.hw hz.hnx hz.hA hz.hX hz.hl W hy.1 hy.2 ht
end Go.Proofs.YtijkokckdbhkcaaDoor
