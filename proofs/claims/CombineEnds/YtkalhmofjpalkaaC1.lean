import Derived.Test.YtkalhmofjpalkaaCmp
import Derived.Test.YtkalhmofjpalkaaQ0
namespace Go.Proofs.Ytkalhmofjpalkaa
open Go.ChangeShapes Go.WideShapes Go.ChangeAt Go.RowKit
set_option linter.unusedVariables false
set_option linter.unusedSimpArgs false

/-- a vote plainly -/
structure Vt where
  lo : Int
  an : Bool
  ba : Bool
  fa : Bool
  t : Int
  s : Int
  q : Int
  co : Int
  ct : Int
def vtA (v : Vt) : Value := .agg #[.int .u64 v.lo, .bool v.an, .bool v.ba, .bool v.fa, .int .u64 v.t, .int .i64 v.s, .int .u64 v.q, .int .i64 v.co, .int .i64 v.ct]
set_option maxRecDepth 100000 in
theorem ahead_any (t s q t' s' q' : Int) (w : World) :
    Calls Try.prog 34 #[.agg #[.int .u64 t, .int .i64 s, .int .u64 q], .agg #[.int .u64 t', .int .i64 s', .int .u64 q']] w fun e w' => e = .returned (.bool (decide (keyCmp t s q t' s' q' < 0))) ∧ w' = (((w.alloc (.cells #[.int .u64 t, .int .i64 s, .int .u64 q] 24)).alloc (.cells #[.int .u64 t', .int .i64 s', .int .u64 q'] 24)).alloc (.cells #[.int .i64 (cmpN t t'), .int .i64 (cmpN s s'), .int .i64 (cmpN q q')] 3)).drew := by
  go_enter Try.func34, Try.ntmps34
  go_wp2

  go_region_held3 (fun w' => w'.cell? ⟨w.heap.size, 0, none⟩ = some (.int .u64 t) ∧ w'.cell? ⟨w.heap.size, 1, none⟩ = some (.int .i64 s) ∧ w'.cell? ⟨w.heap.size, 2, none⟩ = some (.int .u64 q) ∧ w'.cell? ⟨w.heap.size + 1, 0, none⟩ = some (.int .u64 t') ∧ w'.cell? ⟨w.heap.size + 1, 1, none⟩ = some (.int .i64 s') ∧ w'.cell? ⟨w.heap.size + 1, 2, none⟩ = some (.int .u64 q')) (go_keep) (first | (go_at_call 36; refine (cmpu_any _ _ _).mono ?_; rintro e w' ⟨rfl, rfl⟩) | (go_at_call 37; refine (cmpi_any _ _ _).mono ?_; rintro e w' ⟨rfl, rfl⟩) | (go_at_call 35; refine (or_any (cmpN t t') (cmpN s s') (cmpN q q') _ _ ?_ ?_ ?_).mono ?_; (go_simp); (go_simp); (go_simp); rintro e w' ⟨rfl, rfl⟩))

  go_wp2
  go_ret
  exact ⟨rfl, rfl⟩
end Go.Proofs.Ytkalhmofjpalkaa
