import Derived.Test.YtlojkcodndjfbaaY20
namespace Go.Proofs.Ytlojkcodndjfbaa
open Go.ChangeShapes Go.WideShapes Go.ChangeAt Go.RowKit
set_option linter.unusedVariables false

/-! ### the way to a time -/
def sdT (u : Int) (E : Nat → Ev) : Tr → Int
  | .nil => 2
  | .node _ p _ => if u ≤ (E p).t then 0 else 1
theorem side_sdT (u : Int) (E : Nat → Ev) : Side (sdT u E) := fun l p r => by
  by_cases h : u ≤ (E p).t
  · exact .inl (if_pos h)
  · exact .inr (.inl (if_neg h))
def TBx (W : World) (tb : Nat) (u : Int) : Prop := W.heap[tb]? = some (.cells #[.int .u64 u] 23 (0, 0))
theorem TBx.cell {W : World} {tb : Nat} {u : Int} (h : TBx W tb u) : W.cell? ⟨tb, 0, none⟩ = some (.int .u64 u) := by
  unfold TBx at h
  unfold World.cell?
  rw [h]
  rfl
set_option maxRecDepth 100000 in
set_option maxHeartbeats 4000000 in
theorem toTime1_any (tb pb base qb g c n : Nat) (A : Ar) (f r s m k : Int) (u : Int) (p : Nat) (W : World) (h : QW W base qb g c n A f r s m k) (hT : TBx W tb u) (hP : PBx W pb qb) (hp : p < n) (hn : n ≤ 8193) :
    Calls Try.prog 59 #[.int .i64 (p : Int), .pointer (some ⟨pb, 0, none⟩), .pointer (some ⟨tb, 0, none⟩)] W fun e W' => e = .returned (.int .i64 (if u ≤ (A.E p).t then 0 else 1)) ∧ Below W.heap.size W W' := by
  obtain ⟨q0, q1, q2, q3, q4, q5⟩ := h.cells
  have t0 := hT.cell
  have p0 := hP.cell
  have i0 : (0 : Int) ≤ (p : Int) := by omega
  have i1 : (p : Int) < (n : Int) := by omega
  have x0 : W.cell? ⟨g, p * 8, none⟩ = some (.int .u64 (A.E p).t) := h.nd hp 0 (by decide)
  by_cases hz : u ≤ (A.E p).t
  · have dz : decide (u ≤ (A.E p).t) = true := by simpa using hz
    rw [if_pos hz]
    clear hz
    go_enter Try.func59, Try.ntmps59
    go_wp2
    go_quiet (fail)
    go_wp2
    go_ret
    exact ⟨rfl, below_drewNq _ _ _⟩
  · have dz : decide (u ≤ (A.E p).t) = false := by simpa using hz
    rw [if_neg hz]
    clear hz
    go_enter Try.func59, Try.ntmps59
    go_wp2
    go_quiet (fail)
    go_wp2
    go_ret
    exact ⟨rfl, below_drewNq _ _ _⟩
set_option maxRecDepth 100000 in
set_option maxHeartbeats 4000000 in
theorem toTime_any (qb : Nat) (u : Int) (W : World) :
    Calls Try.prog 38 #[.pointer (some ⟨qb, 0, none⟩), .int .u64 u] W fun e W' => e = .returned (.func (.func 59) #[] #[.pointer (some ⟨W.heap.size, 0, none⟩), .pointer (some ⟨W.heap.size + 1, 0, none⟩)]) ∧ TBx W' (W.heap.size + 1) u ∧ PBx W' W.heap.size qb ∧ Below W.heap.size W W' := by
  go_enter Try.func38, Try.ntmps38
  go_wp2
  go_ret
  refine ⟨rfl, ?_, ?_, ((Below.refl _ W).alloc (Nat.le_refl _) _).alloc (by simp) _⟩
  · have := World.alloc_heap_new (W.alloc (.cells #[.pointer (some ⟨qb, 0, none⟩)] 29)) (.cells #[.int .u64 u] 23)
    rw [World.size_alloc] at this
    exact this
  · show _ = _
    rw [Below.heap_alloc _ _ _ (by simp)]
    exact World.alloc_heap_new W _
theorem enterT (args : Array Value) (W : World) : Sem.run Try.prog (callFunc 59 args) W = .ok (.enter 59 args) W := by go_simp
theorem wayT {base qb g c n : Nat} {A : Ar} {f r s m : Int} {tb pb : Nat} {u : Int} {W : World} (hT : TBx W tb u) (hP : PBx W pb qb) (h1 : tb ≠ qb ∧ tb ≠ g) (h2 : pb ≠ qb ∧ pb ≠ g) (hn : n ≤ 8193) : WayOk 59 #[.pointer (some ⟨pb, 0, none⟩), .pointer (some ⟨tb, 0, none⟩)] base qb g c n A f r s m (sdT u A.E) W := by
  intro W2 A2 wk t q hc hq hE hl hq0 hqn
  obtain ⟨l, r', rfl, _, _⟩ := Tr.lies_node hl hq0
  have hT2 : TBx W2 tb u := (hc.block tb (lt_of_block hT) (by rintro (e | e); exact h1.1 e; exact h1.2 e)).trans hT
  have hP2 : PBx W2 pb qb := (hc.block pb (lt_of_block hP) (by rintro (e | e); exact h2.1 e; exact h2.2 e)).trans hP
  have h := toTime1_any tb pb base qb g c n A2 f r s m wk u q W2 hq hT2 hP2 hqn hn
  rw [hE] at h
  exact h
end Go.Proofs.Ytlojkcodndjfbaa
