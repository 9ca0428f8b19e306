import Derived.Test.YtieanhmkcbcdkaaM16
import Derived.Test.YtieanhmkcbcdkaaV14
import Derived.Test.YtieanhmkcbcdkaaM4
namespace Go.Proofs.Ytieanhmkcbcdkaa
open Go.ChangeShapes Go.WideShapes Go.ChangeAt Go.RowKit
set_option linter.unusedVariables false

/-- the call's cells -/
def cvA (cl : Cl) (p : Option Addr) (n c : Nat) (d s : Int) : Array Value := #[.int .u64 cl.time, .int .i64 cl.src, .int .u64 cl.seq, .int .i64 cl.dst, .int .i64 cl.kind, .int .i64 cl.data, .slice p n c, .int .u64 d, .int .u64 s, .int .u64 cl.look, .int .i64 cl.parts, .int .i64 cl.fuel]
def fitsB (P : Pg) (cl : Cl) (n : Nat) : Bool := decide (1 ≤ cl.parts) && decide (cl.parts ≤ 64) && decide (0 ≤ cl.dst) && decide (cl.dst < cl.parts) && decide (0 ≤ cl.kind) && decide (cl.kind < P.m) && decide ((n : Int) = P.words) && decide (0 ≤ cl.fuel) && decide (cl.fuel ≤ 4096)
theorem fitsB_yes {P : Pg} {cl : Cl} {n : Nat} (h : fitsB P cl n = true) : (1 ≤ cl.parts ∧ cl.parts ≤ 64) ∧ (0 ≤ cl.dst ∧ cl.dst < cl.parts) ∧ (0 ≤ cl.kind ∧ cl.kind < P.m) ∧ (n : Int) = P.words ∧ 0 ≤ cl.fuel ∧ cl.fuel ≤ 4096 := by
  unfold fitsB at h
  simp at h
  omega
set_option maxRecDepth 100000 in
set_option maxHeartbeats 4000000 in
theorem fits_any (P : Pg) (v : PgV) (cl : Cl) (p : Option Addr) (n c : Nat) (d s : Int) (w : World) :
    Calls Try.prog 22 #[.agg #[.int .i64 P.words, .int .i64 P.locals, .slice v.cp P.n v.cc, .slice v.ep P.m v.ec], .agg #[.int .u64 cl.time, .int .i64 cl.src, .int .u64 cl.seq, .int .i64 cl.dst, .int .i64 cl.kind, .int .i64 cl.data, .slice p n c, .int .u64 d, .int .u64 s, .int .u64 cl.look, .int .i64 cl.parts, .int .i64 cl.fuel]] w fun e w' => e = .returned (.bool (fitsB P cl n)) ∧ Below w.heap.size w w' := by
  go_enter Try.func22, Try.ntmps22
  go_wp2
  all_goals first
    | (have hf : fitsB P cl n = false := by
        unfold fitsB
        simp
        omega
       rw [hf]
       go_ret
       exact ⟨rfl, ((Below.refl _ w).alloc (Nat.le_refl _) _).alloc (by simp) _⟩)
    | (have hf : fitsB P cl n = decide (cl.fuel ≤ 4096) := by
        unfold fitsB
        simp [*]
       rw [hf]
       go_ret
       exact ⟨rfl, ((Below.refl _ w).alloc (Nat.le_refl _) _).alloc (by simp) _⟩)
end Go.Proofs.Ytieanhmkcbcdkaa
