import Derived.Test.YthbngffonbhakaaDoorVL5
import Derived.BigQuiet
import Derived.Deep.RegionLaw
import Derived.Deep.RegionHeld3
import Derived.Deep.Cut
import Derived.Deep.DeepCutAuto
import Derived.Deep.CutBlock
import Derived.Deep.CutRange
import Derived.Handy
import Derived.Laws.Tables
import Derived.RangeFuncRecord
namespace Go.Proofs.YthbngffonbhakaaDoor
open Go.ChangeShapes Go.WideShapes Go.ChangeAt Go.RowKit Go.Sort
set_option linter.unusedVariables false
set_option linter.unusedSimpArgs false

abbrev Bs := List UInt8
/-- a built table by its name -/
theorem wpList_buildTo {P : Program} {ops : Array Oper} {rest : List Oper} {o : Oper} {a : Act} {w : World} {Q : Exit → Act → World → Prop} (hg : o.guard = none) (t : TypeId) (parts : Array (Nat × Operand)) (ho : o.op = .build t parts)
    (cells : Array Value) (hc : P.built t (parts.map fun (i, x) => (i, a.eval x)).toList = some cells)
    (h : wpList P ops Q rest (a.put o.dst (.agg cells)) w) : wpList P ops Q (o :: rest) a w :=
  wpList_build hg t parts ho (by rw [hc]; rfl) (by rw [hc]; exact h)
def strs (zs : List Bs) : Array Value := (zs.map fun z => Value.string ⟨z.toArray⟩).toArray
theorem tab_world (w : World) (old : Array Value) (t : TypeId) (zs : List Bs) (S : Array Value) (hS : S = strs zs) : ∃ w2, (w.alloc (.cells old t)).setRow w.heap.size S = w2 ∧
    (∀ i, i < zs.length → w2.cell? ⟨w.heap.size, i, none⟩ = some (.string ⟨(zs.getD i []).toArray⟩)) ∧ Below w.heap.size w w2 := by
  subst hS
  refine ⟨_, rfl, fun i hi => ?_, ?_⟩
  · rw [cell_setRow_same _ _ _ _ _ _ _ (World.alloc_heap_new w _)]
    simp [strs, hi]
  · refine ⟨rfl, rfl, rfl, by simp, fun k hk => ?_⟩
    rw [setRow_other _ _ _ _ (by omega)]
    exact Below.heap_alloc w _ k hk

def nmA : Array Value := strs nmT
theorem rwants_any (o : Int) (h : 0 ≤ o ∧ o < 42) (w : World) :
    Calls Tryd.prog 16 #[.int .i64 o] w fun e w' => e = .returned (.int .i64 (wantsI o)) ∧ w' = w := by
  rcases all42 h with rfl | rfl | rfl | rfl | rfl | rfl | rfl | rfl | rfl | rfl | rfl | rfl | rfl | rfl | rfl | rfl | rfl | rfl | rfl | rfl | rfl | rfl | rfl | rfl | rfl | rfl | rfl | rfl | rfl | rfl | rfl | rfl | rfl | rfl | rfl | rfl | rfl | rfl | rfl | rfl | rfl | rfl
  all_goals
    clear h
    go_enter Tryd.func16, Tryd.ntmps16
    go_wp2
    go_ret
    exact ⟨rfl, rfl⟩
attribute [local irreducible] nmA in
theorem called_any (n : Nat) (hn : n < 42) (w : World) :
    Calls Tryd.prog 15 #[.int .i64 (n : Int)] w fun e w' => e = .returned (.string ⟨(nm n).toArray⟩) ∧ Below w.heap.size w w' := by
  have e : nm n = nmT.getD n [] := by simp [nm]
  rw [e]
  have d0 : decide ((n : Int) < 0) = false := decide_eq_false (by omega)
  have d1 : decide ((42 : Int) ≤ (n : Int)) = false := decide_eq_false (by omega)
  have i0 : (0 : Int) ≤ (n : Int) := by omega
  have i1 : (n : Int) < 42 := by omega
  go_enter Tryd.func15, Tryd.ntmps15
  go_wp2_with (first | refine wpList_buildTo rfl _ _ rfl nmA (by kernel_rfl) ?_ | (refine wpList_store_row rfl _ _ _ rfl w.heap.size nmA rfl rfl _ _ (World.alloc_heap_new w _) (by kernel_rfl) (by kernel_rfl) (by kernel_rfl) ?_; obtain ⟨w2, hw2, hc0, hb⟩ := tab_world w _ _ nmT nmA (by kernel_rfl); rw [hw2]; clear hw2; have hc := hc0 n (by show _ < 42; omega); clear hc0))
  go_ret
  exact ⟨rfl, hb⟩
set_option maxRecDepth 100000 in
set_option maxHeartbeats 4000000 in
theorem rwr_any (P : Pg) (v : PgV) (w : World) (h : PAt w P v) : Calls Tryd.prog 13 #[.agg #[.int .i64 P.words, .int .i64 P.locals, .slice v.cp P.n v.cc, .slice v.ep P.m v.ec]] w fun e w' => ∃ b, e = .returned (.bool b) ∧ (b = true ↔ wrP P) ∧ Below w.heap.size w w' := by
  obtain ⟨wb, hwb⟩ : ∃ wb, w.alloc (.cells #[.int .i64 P.words, .int .i64 P.locals, .slice v.cp P.n v.cc, .slice v.ep P.m v.ec] 25) = wb := ⟨_, rfl⟩
  have hb0 : Below w.heap.size w wb := by rw [← hwb]; exact (Below.refl _ w).alloc (Nat.le_refl _) _
  have hbox : wb.heap[w.heap.size]? = some (.cells #[.int .i64 P.words, .int .i64 P.locals, .slice v.cp P.n v.cc, .slice v.ep P.m v.ec] 25 (0, 0)) := by rw [← hwb]; exact World.alloc_heap_new w _
  have HW : Hid (w.alloc (.cells #[.int .i64 P.words, .int .i64 P.locals, .slice v.cp P.n v.cc, .slice v.ep P.m v.ec] 25) = wb) := hwb
  have HB : Hid (Below w.heap.size w wb ∧ PAt wb P v) := ⟨hb0, ⟨h.1.below hb0, h.2.below hb0⟩⟩
  have HC : Hid (wb.cell? ⟨w.heap.size, 0, none⟩ = some (.int .i64 P.words) ∧ wb.cell? ⟨w.heap.size, 1, none⟩ = some (.int .i64 P.locals) ∧ wb.cell? ⟨w.heap.size, 2, none⟩ = some (.slice v.cp P.n v.cc) ∧ wb.cell? ⟨w.heap.size, 3, none⟩ = some (.slice v.ep P.m v.ec)) := cells4 hbox
  obtain ⟨c0, c1, c2, c3⟩ := HC.out
  clear h hb0 hbox
  go_enter Tryd.func13, Tryd.ntmps13
  rw [← hwb] at c0 c1 c2 c3
  clear hwb
  by_cases hs : sizedP P
  case neg =>
    have hno : Hid (¬ wrP P) := fun h9 => hs h9.1
    have hfin : ∀ wz, wz = wb → Below w.heap.size w wz := fun wz e => e ▸ HB.out.1
    by_cases h1 : P.words < 0
    · have d1 : decide (P.words < 0) = true := decide_eq_true h1
      clear hs h1
      go_wp2
      go_ret
      first | exact ⟨false, rfl, ⟨fun e => (by cases e), fun h9 => absurd h9 hno.out⟩, hfin _ HW.out⟩ | exact .inl ⟨rfl, hno.out, hfin _ HW.out⟩
    have d1 : decide (P.words < 0) = false := decide_eq_false h1
    by_cases h2 : 64 < P.words
    · have d2 : decide (64 < P.words) = true := decide_eq_true h2
      clear hs h1 h2
      go_wp2
      go_ret
      first | exact ⟨false, rfl, ⟨fun e => (by cases e), fun h9 => absurd h9 hno.out⟩, hfin _ HW.out⟩ | exact .inl ⟨rfl, hno.out, hfin _ HW.out⟩
    have d2 : decide (64 < P.words) = false := decide_eq_false h2
    by_cases h3 : P.locals < 0
    · have d3 : decide (P.locals < 0) = true := decide_eq_true h3
      clear hs h1 h2 h3
      go_wp2
      go_ret
      first | exact ⟨false, rfl, ⟨fun e => (by cases e), fun h9 => absurd h9 hno.out⟩, hfin _ HW.out⟩ | exact .inl ⟨rfl, hno.out, hfin _ HW.out⟩
    have d3 : decide (P.locals < 0) = false := decide_eq_false h3
    by_cases h4 : 32 < P.locals
    · have d4 : decide (32 < P.locals) = true := decide_eq_true h4
      clear hs h1 h2 h3 h4
      go_wp2
      go_ret
      first | exact ⟨false, rfl, ⟨fun e => (by cases e), fun h9 => absurd h9 hno.out⟩, hfin _ HW.out⟩ | exact .inl ⟨rfl, hno.out, hfin _ HW.out⟩
    have d4 : decide (32 < P.locals) = false := decide_eq_false h4
    by_cases h5 : 32 < P.m
    · have d5 : decide ((32 : Int) < (P.m : Int)) = true := decide_eq_true (by omega)
      clear hs h1 h2 h3 h4 h5
      go_wp2
      go_ret
      first | exact ⟨false, rfl, ⟨fun e => (by cases e), fun h9 => absurd h9 hno.out⟩, hfin _ HW.out⟩ | exact .inl ⟨rfl, hno.out, hfin _ HW.out⟩
    have d5 : decide ((32 : Int) < (P.m : Int)) = false := decide_eq_false (by omega)
    by_cases h6 : 4096 < P.n
    · have d6 : decide ((4096 : Int) < (P.n : Int)) = true := decide_eq_true (by omega)
      clear hs h1 h2 h3 h4 h5 h6
      go_wp2
      go_ret
      first | exact ⟨false, rfl, ⟨fun e => (by cases e), fun h9 => absurd h9 hno.out⟩, hfin _ HW.out⟩ | exact .inl ⟨rfl, hno.out, hfin _ HW.out⟩
    exact absurd ⟨⟨by omega, by omega⟩, ⟨by omega, by omega⟩, by omega, by omega⟩ hs
  case pos =>
  obtain ⟨⟨h1, h2⟩, ⟨h3, h4⟩, h6, h5⟩ := hs
  have HS : Hid (sizedP P) := ⟨⟨h1, h2⟩, ⟨h3, h4⟩, h6, h5⟩
  have d1 : decide (P.words < 0) = false := decide_eq_false (by omega)
  have d2 : decide (64 < P.words) = false := decide_eq_false (by omega)
  have d3 : decide (P.locals < 0) = false := decide_eq_false (by omega)
  have d4 : decide (32 < P.locals) = false := decide_eq_false (by omega)
  have d5 : decide ((32 : Int) < (P.m : Int)) = false := decide_eq_false (by omega)
  have d6 : decide ((4096 : Int) < (P.n : Int)) = false := decide_eq_false (by omega)
  clear h1 h2 h3 h4
  go_upto_region 3 with fail
  rw [HW.out]
  clear c0 c1 c2 c3 d1 d2 d3 d4 d5 d6
  go_wp2_with fail
  go_loopw [3] (fun y wr => ∃ j : Nat, y = .int .i64 (j : Int) ∧ j ≤ P.m ∧ (∀ i, i < j → -1 ≤ P.en i ∧ P.en i < 4096) ∧ wr = wb) (fun y _ => P.m - (intOf y).toNat)
  case atStart => exact ⟨0, rfl, Nat.zero_le _, fun i hi => by omega, rfl⟩
  case round =>
  obtain ⟨j, rfl, hj, hall, hwr⟩ := hrel
  subst wr
  obtain ⟨c0, c1, c2, c3⟩ := HC.out
  obtain ⟨-, hK⟩ := HB.out.2
  have HA : Hid (∀ i, i < j → -1 ≤ P.en i ∧ P.en i < 4096) := hall
  clear hall
  by_cases hlt : j < P.m
  case pos =>
    have dlt : decide ((j : Int) < (P.m : Int)) = true := by simp; omega
    have hm := vmeas hlt
    have ei : IntKind.i64.wrap ((j : Int) + 1) = (j : Int) + 1 := by rw [IntKind.wrap_i64]; omega
    have i0 : (0 : Int) ≤ (j : Int) := by omega
    have i1 : (j : Int) < (P.m : Int) := by omega
    rcases hK with h0 | ⟨g, o, hq, _, hc⟩
    · omega
    have y0 := hc j hlt
    rw [hq] at c3
    obtain ⟨ej, hee⟩ : ∃ ej, P.en j = ej := ⟨_, rfl⟩
    rw [hee] at y0
    have HEE := hid hee
    clear hc hq hee c0 c1 c2 h5 h6
    by_cases g1 : ej < -1
    · have d1 : decide (ej < -1) = true := by simpa using g1
      clear g1
      go_wp2_with fail
      go_ret
      have hno : ¬ wrP P := fun h9 => by have h8 := h9.2.1 j hlt; rw [HEE.out] at h8; have := of_decide_eq_true d1; omega
      first | exact ⟨false, rfl, ⟨fun e => (by cases e), fun h9 => absurd h9 hno⟩, HB.out.1⟩ | exact .inl ⟨rfl, hno, HB.out.1⟩
    · have d1 : decide (ej < -1) = false := by simpa using g1
      by_cases g2 : 4095 < ej
      · have d2 : decide (4095 < ej) = true := by simpa using g2
        clear g1 g2
        go_wp2_with fail
        go_ret
        have hno : ¬ wrP P := fun h9 => by have h8 := h9.2.1 j hlt; rw [HEE.out] at h8; have := of_decide_eq_true d2; omega
        first | exact ⟨false, rfl, ⟨fun e => (by cases e), fun h9 => absurd h9 hno⟩, HB.out.1⟩ | exact .inl ⟨rfl, hno, HB.out.1⟩
      · have d2 : decide (4095 < ej) = false := by simpa using g2
        have HOK : Hid (-1 ≤ ej ∧ ej < 4096) := ⟨by omega, by omega⟩
        clear g1 g2
        go_wp2_with fail
        exact ⟨⟨j + 1, rfl, hlt, fun i hi => by
          by_cases e : i = j
          · rw [e, HEE.out]; exact HOK.out
          · exact HA.out i (by omega), (by first | exact rfl | exact trivial)⟩, hm⟩
  case neg =>
  have dlt : decide ((j : Int) < (P.m : Int)) = false := by simp; omega
  obtain rfl : j = P.m := by omega
  clear hK c0 c1 c2
  go_wp2_with fail
  clear c3
  go_loopw [4] (fun y wr => ∃ j : Nat, y = .int .i64 (j : Int) ∧ j ≤ P.n ∧ (∀ i, i < j → 0 ≤ P.op i ∧ P.op i < 42) ∧ wr = wb) (fun y _ => P.n - (intOf y).toNat)
  case atStart => exact ⟨0, rfl, Nat.zero_le _, fun i hi => by omega, rfl⟩
  case round =>
  obtain ⟨k, rfl, hk, hall, hwr⟩ := hrel
  subst wr
  obtain ⟨c0, c1, c2, c3⟩ := HC.out
  obtain ⟨hI, -⟩ := HB.out.2
  have HO : Hid (∀ i, i < k → 0 ≤ P.op i ∧ P.op i < 42) := hall
  clear hall
  by_cases hlt2 : k < P.n
  case pos =>
    have dlt2 : decide ((k : Int) < (P.n : Int)) = true := by simp; omega
    have hm := vmeas hlt2
    have ei : IntKind.i64.wrap ((k : Int) + 1) = (k : Int) + 1 := by rw [IntKind.wrap_i64]; omega
    have i0 : (0 : Int) ≤ (k : Int) := by omega
    have i1 : (k : Int) < (P.n : Int) := by omega
    rcases hI with h0 | ⟨g, o, hq, _, hc⟩
    · omega
    obtain ⟨y0, y1, y2⟩ := hc k hlt2
    rw [hq] at c2
    obtain ⟨ok, hok⟩ : ∃ ok, P.op k = ok := ⟨_, rfl⟩
    rw [hok] at y0
    have HOK := hid hok
    clear hc hq hok c0 c1 c3 h5 h6
    by_cases g1 : ok < 0
    · have d1 : decide (ok < 0) = true := by simpa using g1
      clear g1
      go_wp2_with fail
      go_ret
      have hno : ¬ wrP P := fun h9 => by have h8 := h9.2.2 k hlt2; rw [HOK.out] at h8; have := of_decide_eq_true d1; omega
      first | exact ⟨false, rfl, ⟨fun e => (by cases e), fun h9 => absurd h9 hno⟩, HB.out.1⟩ | exact .inl ⟨rfl, hno, HB.out.1⟩
    · have d1 : decide (ok < 0) = false := by simpa using g1
      by_cases g2 : 42 ≤ ok
      · have d2 : decide (42 ≤ ok) = true := by simpa using g2
        clear g1 g2
        go_wp2_with fail
        go_ret
        have hno : ¬ wrP P := fun h9 => by have h8 := h9.2.2 k hlt2; rw [HOK.out] at h8; have := of_decide_eq_true d2; omega
        first | exact ⟨false, rfl, ⟨fun e => (by cases e), fun h9 => absurd h9 hno⟩, HB.out.1⟩ | exact .inl ⟨rfl, hno, HB.out.1⟩
      · have d2 : decide (42 ≤ ok) = false := by simpa using g2
        have HG : Hid (0 ≤ ok ∧ ok < 42) := ⟨by omega, by omega⟩
        clear g1 g2
        go_wp2_with fail
        exact ⟨⟨k + 1, rfl, hlt2, fun i hi => by
          by_cases e : i = k
          · rw [e, HOK.out]; exact HG.out
          · exact HO.out i (by omega), (by first | exact rfl | exact trivial)⟩, hm⟩
  case neg =>
  have dlt2 : decide ((k : Int) < (P.n : Int)) = false := by simp; omega
  obtain rfl : k = P.n := by omega
  clear hI
  go_wp2_with fail
  go_ret
  have hyes : wrP P := ⟨HS.out, HA.out, HO.out⟩
  first | exact ⟨true, rfl, ⟨fun _ => hyes, fun _ => rfl⟩, HB.out.1⟩ | exact .inr ⟨rfl, hyes, HB.out.1⟩
end Go.Proofs.YthbngffonbhakaaDoor
