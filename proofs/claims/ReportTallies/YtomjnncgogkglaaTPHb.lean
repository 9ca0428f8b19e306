import Derived.Test.YtomjnncgogkglaaTPI
import Derived.ChangeOld
namespace Go.Proofs.Ytomjnncgogkglaa
open Go.ChangeShapes Go.WideShapes Go.ChangeAt Go.RowKit
set_option linter.unusedVariables false
set_option linter.unusedSimpArgs false

theorem keyU : Maps.Keyed Try.prog 23 := Maps.int_keyed Try.underlying23
theorem zeroI (w : World) : (zeroValue 3).run Try.prog w = .ok (.int .i64 0) w := by go_simp
theorem wfU {k : Int} (h : 0 ≤ k ∧ k < 18446744073709551616) : (Lit.int .u64 k).wf = true := by
  have e1 : IntKind.u64.min = 0 := by decide
  have e2 : IntKind.u64.max = 18446744073709551615 := by decide
  simp [Lit.wf, e1, e2]
  omega
theorem wfI {k : Int} (h : -9223372036854775808 ≤ k ∧ k < 9223372036854775808) : (Lit.int .i64 k).wf = true := by
  have e1 : IntKind.i64.min = -9223372036854775808 := by decide
  have e2 : IntKind.i64.max = 9223372036854775807 := by decide
  simp [Lit.wf, e1, e2]
  omega
def bkL (x : Int × Int) : List Value := [.int .u64 x.1, .int .i64 x.2]
theorem infoBK : (Try.prog.info? 60).map (fun i => (i.zero, i.size, i.bytes)) = some (some (.agg #[.int .u64 0, .int .i64 0]), 2, 16) := by kernel_rfl
/-- the bucket of an event -/
def bkt (wd : Int) (X : Nat → Se) (j : Nat) : Int := (X j).t - (X j).t % wd
theorem bkt_rng {wd : Int} (h : 0 < wd) {X : Nat → Se} {j : Nat} (hX : SeOk (X j)) : 0 ≤ bkt wd X j ∧ bkt wd X j < 18446744073709551616 := by
  unfold bkt
  have h1 := hX.1
  have h2 := Int.emod_nonneg (X j).t (show wd ≠ 0 by omega)
  have h3 : (X j).t % wd ≤ (X j).t := by
    have := Int.emod_add_mul_ediv (X j).t wd
    have h4 : 0 ≤ wd * ((X j).t / wd) := Int.mul_nonneg (by omega) (Int.ediv_nonneg h1.1 (by omega))
    omega
  omega
theorem World.ownsRow.lower {W : World} {base base' : Nat} {t : TypeId} {s m : Nat} {v : Value} {xs : List Value} (h : W.ownsRow base t s v m xs) (hb : base' ≤ base) : W.ownsRow base' t s v m xs := by
  rcases h with ⟨h1, h2 | ⟨g, c, cur, h3, h4, h5⟩⟩
  · exact ⟨h1, .inl h2⟩
  · exact ⟨h1, .inr ⟨g, c, cur, h3, Nat.le_trans hb h4, h5⟩⟩
end Go.Proofs.Ytomjnncgogkglaa
