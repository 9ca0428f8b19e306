import Derived.Test.YtckhliilndfljaaDoorLTab
import Derived.Laws.Tables
import Derived.RangeFuncRecord
namespace Go.Proofs.YtckhliilndfljaaDoor
open Go.ChangeShapes Go.WideShapes Go.ChangeAt Go.RowKit
set_option linter.unusedVariables false

/-- a kind's spelling, whatever the number -/
def splI (k : Int) : Bs := if 0 ≤ k ∧ k < 80 then spl k.toNat else []

def wdI (k : Int) : Bs := if 10 ≤ k ∧ k < 41 then spl k.toNat else []
def mkI (k : Int) : Bs := if 50 ≤ k ∧ k < 80 then spl k.toNat else []

/-- a built table by its name -/
theorem wpList_buildTo {P : Program} {ops : Array Oper} {rest : List Oper} {o : Oper} {a : Act} {w : World} {Q : Exit → Act → World → Prop} (hg : o.guard = none) (t : TypeId) (parts : Array (Nat × Operand)) (ho : o.op = .build t parts)
    (cells : Array Value) (hc : P.built t (parts.map fun (i, x) => (i, a.eval x)).toList = some cells)
    (h : wpList P ops Q rest (a.put o.dst (.agg cells)) w) : wpList P ops Q (o :: rest) a w :=
  wpList_build hg t parts ho (by rw [hc]; rfl) (by rw [hc]; exact h)

def strs (zs : List Bs) : Array Value := (zs.map fun z => Value.string ⟨z.toArray⟩).toArray
def wordsA : Array Value := strs words
def marksA : Array Value := strs marks

theorem tab_world (w : World) (old : Array Value) (t : TypeId) (zs : List Bs) (S : Array Value) (hS : S = strs zs) : ∃ w2, (w.alloc (.cells old t)).setRow w.heap.size S = w2 ∧
    (∀ i, i < zs.length → w2.cell? ⟨w.heap.size, i, none⟩ = some (.string ⟨(zs.getD i []).toArray⟩)) ∧ Below w.heap.size w w2 := by
  subst hS
  refine ⟨_, rfl, fun i hi => ?_, ?_⟩
  · rw [cell_setRow_same _ _ _ _ _ _ _ (World.alloc_heap_new w _)]
    simp [strs, hi]
  · refine ⟨rfl, rfl, rfl, by simp, fun k hk => ?_⟩
    rw [setRow_other _ _ _ _ (by omega)]
    exact Below.heap_alloc w _ k hk

theorem words_getD (n : Nat) (h : 10 ≤ n) (h2 : n < 41) : words.getD (n - 10) [] = spl n := by
  unfold spl
  rw [if_neg (by omega), if_pos (by omega)]
  rfl
theorem marks_getD (n : Nat) (h : 50 ≤ n) (h2 : n < 80) : marks.getD (n - 50) [] = spl n := by
  unfold spl
  rw [if_neg (by omega), if_neg (by omega)]
  rfl

attribute [local irreducible] wordsA marksA in
theorem rword_any (k : Int) (hk : -9223372036854775808 ≤ k ∧ k ≤ 9223372036854775807) (w : World) :
    Calls Tryd.prog 62 #[.int .i64 k] w fun e w' => e = .returned (.string ⟨(wdI k).toArray⟩) ∧ Below w.heap.size w w' := by
  by_cases h0 : 10 ≤ k ∧ k < 41
  · obtain ⟨n, rfl⟩ := Int.eq_ofNat_of_zero_le (by omega : 0 ≤ k)
    have e : wdI n = spl n := by unfold wdI; rw [if_pos h0]; rfl
    rw [e]
    have d0 : decide ((n : Int) < 10) = false := decide_eq_false (by omega)
    have d1 : decide ((n : Int) - 10 ≥ 31) = false := decide_eq_false (by omega)
    go_enter Tryd.func62, Tryd.ntmps62
    go_wp2_with (first | refine wpList_buildTo rfl _ _ rfl wordsA (by kernel_rfl) ?_ | (refine wpList_store_row rfl _ _ _ rfl w.heap.size wordsA rfl rfl _ _ (World.alloc_heap_new w _) (by kernel_rfl) (by kernel_rfl) (by kernel_rfl) ?_; obtain ⟨w2, hw2, hc0, hb⟩ := tab_world w _ _ words wordsA (by kernel_rfl); rw [hw2]; clear hw2; have hc := hc0 (n - 10) (by show _ < 31; omega); rw [words_getD n (by omega) (by omega)] at hc; clear hc0))
    go_ret
    exact ⟨rfl, hb⟩
  · have e : wdI k = [] := by unfold wdI; rw [if_neg h0]
    rw [e]
    by_cases h1 : k < 10
    · have d0 : decide (k < 10) = true := decide_eq_true h1
      clear h0
      go_enter Tryd.func62, Tryd.ntmps62
      go_wp2_with (first | refine wpList_buildTo rfl _ _ rfl wordsA (by kernel_rfl) ?_ | (refine wpList_store_row rfl _ _ _ rfl w.heap.size wordsA rfl rfl _ _ (World.alloc_heap_new w _) (by kernel_rfl) (by kernel_rfl) (by kernel_rfl) ?_; obtain ⟨w2, hw2, hc0, hb⟩ := tab_world w _ _ words wordsA (by kernel_rfl); rw [hw2]; clear hw2; clear hc0))
      go_ret
      exact ⟨rfl, hb⟩
    · have d0 : decide (k < 10) = false := decide_eq_false h1
      have hw : wrap64 (k - 10) = k - 10 := (by unfold wrap64; omega)
      have d1 : decide (31 ≤ k - 10) = true := decide_eq_true (by omega)
      clear h0 hk
      go_enter Tryd.func62, Tryd.ntmps62
      go_wp2_with (first | refine wpList_buildTo rfl _ _ rfl wordsA (by kernel_rfl) ?_ | (refine wpList_store_row rfl _ _ _ rfl w.heap.size wordsA rfl rfl _ _ (World.alloc_heap_new w _) (by kernel_rfl) (by kernel_rfl) (by kernel_rfl) ?_; obtain ⟨w2, hw2, hc0, hb⟩ := tab_world w _ _ words wordsA (by kernel_rfl); rw [hw2]; clear hw2; clear hc0))
      go_ret
      exact ⟨rfl, hb⟩

attribute [local irreducible] wordsA marksA in
theorem rmark0_any (k : Int) (hk : -9223372036854775808 ≤ k ∧ k ≤ 9223372036854775807) (w : World) :
    Calls Tryd.prog 55 #[.int .i64 k] w fun e w' => e = .returned (.string ⟨(mkI k).toArray⟩) ∧ Below w.heap.size w w' := by
  by_cases h0 : 50 ≤ k ∧ k < 80
  · obtain ⟨n, rfl⟩ := Int.eq_ofNat_of_zero_le (by omega : 0 ≤ k)
    have e : mkI n = spl n := by unfold mkI; rw [if_pos h0]; rfl
    rw [e]
    have d0 : decide ((n : Int) < 50) = false := decide_eq_false (by omega)
    have d1 : decide ((n : Int) - 50 ≥ 30) = false := decide_eq_false (by omega)
    go_enter Tryd.func55, Tryd.ntmps55
    go_wp2_with (first | refine wpList_buildTo rfl _ _ rfl marksA (by kernel_rfl) ?_ | (refine wpList_store_row rfl _ _ _ rfl w.heap.size marksA rfl rfl _ _ (World.alloc_heap_new w _) (by kernel_rfl) (by kernel_rfl) (by kernel_rfl) ?_; obtain ⟨w2, hw2, hc0, hb⟩ := tab_world w _ _ marks marksA (by kernel_rfl); rw [hw2]; clear hw2; have hc := hc0 (n - 50) (by show _ < 30; omega); rw [marks_getD n (by omega) (by omega)] at hc; clear hc0))
    go_ret
    exact ⟨rfl, hb⟩
  · have e : mkI k = [] := by unfold mkI; rw [if_neg h0]
    rw [e]
    by_cases h1 : k < 50
    · have d0 : decide (k < 50) = true := decide_eq_true h1
      clear h0
      go_enter Tryd.func55, Tryd.ntmps55
      go_wp2_with (first | refine wpList_buildTo rfl _ _ rfl marksA (by kernel_rfl) ?_ | (refine wpList_store_row rfl _ _ _ rfl w.heap.size marksA rfl rfl _ _ (World.alloc_heap_new w _) (by kernel_rfl) (by kernel_rfl) (by kernel_rfl) ?_; obtain ⟨w2, hw2, hc0, hb⟩ := tab_world w _ _ marks marksA (by kernel_rfl); rw [hw2]; clear hw2; clear hc0))
      go_ret
      exact ⟨rfl, hb⟩
    · have d0 : decide (k < 50) = false := decide_eq_false h1
      have hw : wrap64 (k - 50) = k - 50 := (by unfold wrap64; omega)
      have d1 : decide (30 ≤ k - 50) = true := decide_eq_true (by omega)
      clear h0 hk
      go_enter Tryd.func55, Tryd.ntmps55
      go_wp2_with (first | refine wpList_buildTo rfl _ _ rfl marksA (by kernel_rfl) ?_ | (refine wpList_store_row rfl _ _ _ rfl w.heap.size marksA rfl rfl _ _ (World.alloc_heap_new w _) (by kernel_rfl) (by kernel_rfl) (by kernel_rfl) ?_; obtain ⟨w2, hw2, hc0, hb⟩ := tab_world w _ _ marks marksA (by kernel_rfl); rw [hw2]; clear hw2; clear hc0))
      go_ret
      exact ⟨rfl, hb⟩


end Go.Proofs.YtckhliilndfljaaDoor
