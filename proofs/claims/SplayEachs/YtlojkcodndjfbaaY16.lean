import Derived.Test.YtlojkcodndjfbaaY15
namespace Go.Proofs.Ytlojkcodndjfbaa
open Go.ChangeShapes Go.WideShapes Go.ChangeAt Go.RowKit
set_option linter.unusedVariables false
set_option linter.unusedSimpArgs false

set_option maxRecDepth 100000 in
set_option maxHeartbeats 4000000 in
theorem before_any (t s q t' s' q' : Int) (W : World) :
    Calls Try.prog 70 #[.agg #[.int .u64 t, .int .i64 s, .int .u64 q], .agg #[.int .u64 t', .int .i64 s', .int .u64 q']] W fun e W' => e = .returned (.int .i64 (keyCmp t s q t' s' q')) ∧ Below W.heap.size W W' := by
  have hfin : Below W.heap.size W ((W.alloc (.cells #[.int .u64 t, .int .i64 s, .int .u64 q] 25)).alloc (.cells #[.int .u64 t', .int .i64 s', .int .u64 q'] 25)) := ((Below.refl _ W).alloc (Nat.le_refl _) _).alloc (by simp) _
  have HF : Hid (Below W.heap.size W ((W.alloc (.cells #[.int .u64 t, .int .i64 s, .int .u64 q] 25)).alloc (.cells #[.int .u64 t', .int .i64 s', .int .u64 q'] 25))) := hfin
  clear hfin
  by_cases h1 : t < t'
  · have e : keyCmp t s q t' s' q' = -1 := by rw [keyCmp_lt]; omega
    have d1 : decide (t < t') = true := by simpa using h1
    rw [e]
    clear e
    go_enter Try.func70, Try.ntmps70
    go_wp2
    go_ret
    exact ⟨rfl, HF.out⟩
  have d1 : decide (t < t') = false := by simpa using h1
  by_cases h2 : t' < t
  · have e : keyCmp t s q t' s' q' = 1 := by rw [keyCmp_gt]; omega
    have d2 : decide (t' < t) = true := by simpa using h2
    rw [e]
    clear e
    go_enter Try.func70, Try.ntmps70
    go_wp2
    go_ret
    exact ⟨rfl, HF.out⟩
  have d2 : decide (t' < t) = false := by simpa using h2
  by_cases h3 : s < s'
  · have e : keyCmp t s q t' s' q' = -1 := by rw [keyCmp_lt]; omega
    have d3 : decide (s < s') = true := by simpa using h3
    rw [e]
    clear e
    go_enter Try.func70, Try.ntmps70
    go_wp2
    go_ret
    exact ⟨rfl, HF.out⟩
  have d3 : decide (s < s') = false := by simpa using h3
  by_cases h4 : s' < s
  · have e : keyCmp t s q t' s' q' = 1 := by rw [keyCmp_gt]; omega
    have d4 : decide (s' < s) = true := by simpa using h4
    rw [e]
    clear e
    go_enter Try.func70, Try.ntmps70
    go_wp2
    go_ret
    exact ⟨rfl, HF.out⟩
  have d4 : decide (s' < s) = false := by simpa using h4
  by_cases h5 : q < q'
  · have e : keyCmp t s q t' s' q' = -1 := by rw [keyCmp_lt]; omega
    have d5 : decide (q < q') = true := by simpa using h5
    rw [e]
    clear e
    go_enter Try.func70, Try.ntmps70
    go_wp2
    go_ret
    exact ⟨rfl, HF.out⟩
  have d5 : decide (q < q') = false := by simpa using h5
  by_cases h6 : q' < q
  · have e : keyCmp t s q t' s' q' = 1 := by rw [keyCmp_gt]; omega
    have d6 : decide (q' < q) = true := by simpa using h6
    rw [e]
    clear e
    go_enter Try.func70, Try.ntmps70
    go_wp2
    go_ret
    exact ⟨rfl, HF.out⟩
  · have e : keyCmp t s q t' s' q' = 0 := by rw [keyCmp_eq]; omega
    have d6 : decide (q' < q) = false := by simpa using h6
    rw [e]
    clear e
    go_enter Try.func70, Try.ntmps70
    go_wp2
    go_ret
    exact ⟨rfl, HF.out⟩
/-- events lie there, cell by cell -/
def EvsL (W : World) (b N : Nat) (X : Nat → Ev) : Prop := b < W.heap.size ∧ ∀ i r, i < N → r < 6 → W.cell? ⟨b, i * 6 + r, none⟩ = some (evC (X i) r)
theorem EvsL.later {W W' : World} {b N : Nat} {X : Nat → Ev} (h : EvsL W b N X) (hb : Below W.heap.size W W') : EvsL W' b N X := ⟨Nat.lt_of_lt_of_le h.1 hb.size, fun i r hi hr => (cell_below (a := ⟨b, i * 6 + r, none⟩) hb h.1).trans (h.2 i r hi hr)⟩
def keyIs (kt ks kq : Int) (e : Ev) : Bool := e.t == kt && (e.s == ks && e.q == kq)
end Go.Proofs.Ytlojkcodndjfbaa
