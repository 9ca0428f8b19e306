import Derived.Test.YtomjnncgogkglaaTPS
import Derived.ChangeOld
namespace Go.Proofs.Ytomjnncgogkglaa
open Go.ChangeShapes Go.WideShapes Go.ChangeAt Go.RowKit Go.Sort Go.Shelf
set_option linter.unusedVariables false
set_option linter.unusedSimpArgs false

def orI (x y : Int) : Int := if x = 0 then y else x
set_option maxRecDepth 100000 in
set_option maxHeartbeats 2000000 in
theorem or_any (x y : Int) (g : Nat) (w : World) (h0 : w.cell? ⟨g, 0, none⟩ = some (.int .i64 x)) (h1 : w.cell? ⟨g, 1, none⟩ = some (.int .i64 y)) : Calls Try.prog 26 #[.slice (some ⟨g, 0, none⟩) 2 2] w fun e w' => e = .returned (.int .i64 (orI x y)) ∧ w' = w := by
  have e : orI x y = if x = 0 then y else x := rfl
  go_enter Try.func26, Try.ntmps26
  go_wp2
  go_loopw [8] (fun v wr => ∃ i : Nat, v = .int .i64 i ∧ i ≤ 2 ∧ (1 ≤ i → x = 0) ∧ (2 ≤ i → y = 0) ∧ wr = w) (fun v _ => 2 - (intOf v).toNat)
  case atStart => exact ⟨0, rfl, by omega, fun h => by omega, fun h => by omega, rfl⟩
  case round =>
    obtain ⟨i, rfl, hi, hx, hy, rfl⟩ := hrel
    match i, hi with
    | 0, _ =>
      by_cases hz : x = 0
      · have d1 : (x == 0) = true := by simpa using hz
        have HZ : Hid (x = 0) := hz
        clear hz hx hy e
        go_wp2
        refine ⟨⟨1, rfl, by omega, fun _ => HZ.out, fun h => by omega, by first | rfl | trivial⟩, by simp [intOf]⟩
      · have d1 : (x == 0) = false := by simpa using hz
        rw [if_neg hz] at e
        have HE : Hid (orI x y = x) := e
        clear hz hx hy e
        go_wp2
        go_ret
        exact ⟨by rw [HE.out]; rfl, rfl⟩
    | 1, _ =>
      have hx0 := hx (by omega)
      rw [if_pos hx0] at e
      have HE : Hid (orI x y = y ∧ x = 0) := ⟨e, hx0⟩
      by_cases hz : y = 0
      · have d1 : (y == 0) = true := by simpa using hz
        have HZ : Hid (y = 0) := hz
        clear hz hx hy e hx0
        go_wp2
        refine ⟨⟨2, rfl, by omega, fun _ => HE.out.2, fun _ => HZ.out, by first | rfl | trivial⟩, by simp [intOf]⟩
      · have d1 : (y == 0) = false := by simpa using hz
        clear hz hx hy e hx0
        go_wp2
        go_ret
        exact ⟨by rw [HE.out.1]; rfl, rfl⟩
    | 2, _ =>
      have hx0 := hx (by omega)
      have hy0 := hy (by omega)
      rw [if_pos hx0] at e
      replace e := e.trans hy0
      have HE : Hid (orI x y = 0) := e
      clear hx hy e hx0 hy0
      go_wp2
      go_ret
      exact ⟨by rw [HE.out]; rfl, rfl⟩
set_option maxRecDepth 100000 in
set_option maxHeartbeats 2000000 in
theorem clC (x y : Int × Int) (w : World) : Calls Try.prog 25 #[.agg #[.int .i64 x.1, .int .i64 x.2], .agg #[.int .i64 y.1, .int .i64 y.2]] w fun e w' => e = .returned (.int .i64 (orI (cm y.2 x.2) (cm x.1 y.1))) ∧ ∃ q os', w' = grow (w.drewN q) os' := by
  obtain ⟨wb, hwb, hb0, hbx1, hbx2, hsz⟩ := kboxed2 w #[.int .i64 x.1, .int .i64 x.2] #[.int .i64 y.1, .int .i64 y.2] 36 36
  have HW : Hid ((w.alloc (.cells #[.int .i64 x.1, .int .i64 x.2] 36)).alloc (.cells #[.int .i64 y.1, .int .i64 y.2] 36) = wb) := hwb
  have hc1 := compare_i64 y.2 x.2
  have hc2 := compare_i64 x.1 y.1
  generalize cm y.2 x.2 = r1 at hc1 ⊢
  generalize cm x.1 y.1 = r2 at hc2 ⊢
  have KP0 : (wb.drew.cell? ⟨w.heap.size, 0, none⟩ = some (.int .i64 x.1) ∧ wb.drew.cell? ⟨w.heap.size, 1, none⟩ = some (.int .i64 x.2)) ∧ (wb.drew.cell? ⟨w.heap.size + 1, 0, none⟩ = some (.int .i64 y.1) ∧ wb.drew.cell? ⟨w.heap.size + 1, 1, none⟩ = some (.int .i64 y.2)) := by
    refine ⟨⟨?_, ?_⟩, ?_, ?_⟩
    all_goals (show wb.cell? _ = _; unfold World.cell?; first | (rw [hbx1]; rfl) | (rw [hbx2]; rfl))
  have hbn : Below wb.heap.size wb (wb.alloc (.cells #[.int .i64 r1, .int .i64 r2] 3)).drew := ((Below.refl _ wb).alloc (Nat.le_refl _) _).drew
  have KP1 : ((wb.alloc (.cells #[.int .i64 r1, .int .i64 r2] 3)).drew.cell? ⟨w.heap.size, 0, none⟩ = some (.int .i64 x.1) ∧ (wb.alloc (.cells #[.int .i64 r1, .int .i64 r2] 3)).drew.cell? ⟨w.heap.size, 1, none⟩ = some (.int .i64 x.2)) ∧ ((wb.alloc (.cells #[.int .i64 r1, .int .i64 r2] 3)).drew.cell? ⟨w.heap.size + 1, 0, none⟩ = some (.int .i64 y.1) ∧ (wb.alloc (.cells #[.int .i64 r1, .int .i64 r2] 3)).drew.cell? ⟨w.heap.size + 1, 1, none⟩ = some (.int .i64 y.2)) := by
    have q1 := (hbn.block _ (lt_of_block hbx1)).trans hbx1
    have q2 := (hbn.block _ (lt_of_block hbx2)).trans hbx2
    refine ⟨⟨?_, ?_⟩, ?_, ?_⟩
    all_goals (unfold World.cell?; first | (rw [q1]; rfl) | (rw [q2]; rfl))
  have qn : (wb.alloc (.cells #[.int .i64 r1, .int .i64 r2] 3)).heap[wb.heap.size]? = some (.cells #[.int .i64 r1, .int .i64 r2] 3 (0, 0)) := World.alloc_heap_new wb _
  have HOR := or_any r1 r2 wb.heap.size (wb.alloc (.cells #[.int .i64 r1, .int .i64 r2] 3)).drew (by show (wb.alloc _).cell? _ = _; unfold World.cell?; rw [qn]; rfl) (by show (wb.alloc _).cell? _ = _; unfold World.cell?; rw [qn]; rfl)
  clear hwb hb0 hbx1 hbx2 hsz qn hbn
  go_enter Try.func25, Try.ntmps25
  go_upto_region 1 with fail
  rw [HW.out]
  go_region_held3 (fun w' => (w'.cell? ⟨w.heap.size, 0, none⟩ = some (.int .i64 x.1) ∧ w'.cell? ⟨w.heap.size, 1, none⟩ = some (.int .i64 x.2)) ∧ (w'.cell? ⟨w.heap.size + 1, 0, none⟩ = some (.int .i64 y.1) ∧ w'.cell? ⟨w.heap.size + 1, 1, none⟩ = some (.int .i64 y.2))) (first | with_reducible exact KP0 | with_reducible exact KP1 | go_keep) (first | (go_at_call 27; (with_reducible refine (hc1 _).mono ?_); rintro e w1 ⟨rfl, rfl⟩) | (go_at_call 27; (with_reducible refine (hc2 _).mono ?_); rintro e w1 ⟨rfl, rfl⟩) | (go_at_call 26; (with_reducible refine HOR.mono ?_); rintro e w1 ⟨rfl, rfl⟩))
  all_goals (
    go_wp2_with fail
    go_ret
    refine ⟨rfl, 1, #[.cells #[.int .i64 x.1, .int .i64 x.2] 36, .cells #[.int .i64 y.1, .int .i64 y.2] 36, .cells #[.int .i64 r1, .int .i64 r2] 3], ?_⟩
    rw [← HW.out, alloc_eq_grow, alloc_eq_grow, alloc_eq_grow, grow_grow, grow_grow]
    rfl)
def cnL (x : Int × Int) : List Value := [.int .i64 x.1, .int .i64 x.2]
theorem cnL_one (x : Int × Int) (v : Value) (h : v ∈ cnL x) : v.oneCell' = true := by
  simp [cnL] at h
  rcases h with rfl | rfl <;> rfl
theorem ltC (x y : Int × Int) : ltOf (fun x y : Int × Int => orI (cm y.2 x.2) (cm x.1 y.1)) x y = decide (y.2 < x.2 ∨ (x.2 = y.2 ∧ x.1 < y.1)) := by
  unfold ltOf
  rw [decide_eq_decide]
  have a1 := cm_lt y.2 x.2
  have a2 := cm_lt x.1 y.1
  have a3 : cm y.2 x.2 = 0 ↔ y.2 = x.2 := by unfold cm; split <;> (try split) <;> omega
  show (if cm y.2 x.2 = 0 then cm x.1 y.1 else cm y.2 x.2) < 0 ↔ _
  by_cases h : cm y.2 x.2 = 0
  · rw [if_pos h]; omega
  · rw [if_neg h]; omega
theorem swoC : SWO (ltOf fun x y : Int × Int => orI (cm y.2 x.2) (cm x.1 y.1)) where
  irrefl x := by rw [ltC]; simp
  trans x y z h1 h2 := by rw [ltC] at *; simp only [decide_eq_true_eq] at *; omega
  ntrans x y z h1 h2 := by rw [ltC] at *; simp only [decide_eq_false_iff_not] at *; omega
theorem sortC_any (L : List (Int × Int)) (v : Value) (base : Nat) (w : World) (h : w.ownsRow base 36 2 v L.length (L.flatMap cnL)) (hL : L.length ≤ 2932031007402) :
    Calls Try.prog 24 #[v, .func (.func 25) #[] #[]] w fun e w' => e = .returned (.tuple #[]) ∧ ∃ M : List (Int × Int), M.Perm L ∧ M.Pairwise (fun x y => ¬ (x.2 < y.2 ∨ (y.2 = x.2 ∧ y.1 < x.1))) ∧ w'.ownsRow base 36 2 v L.length (M.flatMap cnL) ∧ w.grownBy w' v.ownBlock := by
  rcases h.2 with ⟨hv, h0⟩ | ⟨g, c, cur, hv, hg, hcell, hnc, _⟩
  · subst hv
    obtain rfl : L = [] := List.length_eq_zero_iff.1 h0
    have hcon := AnyF.slices_SortFunc_none sortLC none 0 (.func (.func 25) #[] #[]) w
    change Calls Try.prog 24 _ _ _ at hcon
    refine hcon.mono ?_
    rintro e w' ⟨rfl, rfl⟩
    exact ⟨rfl, [], List.Perm.refl _, List.Pairwise.nil, h, grown_refl _ _⟩
  · subst hv
    have eg : ∀ args w, (callFunc 25 args).run Try.prog w = .ok (.enter 25 args) w := enters_of Try.func25 (by kernel_rfl) rfl
    have hcon := AnyQ.slices_SortFunc sortLC 2 Try.isAgg36 Try.sizeOf36 cnL (fun _ => rfl) (fun x v hv => cnL_one x v hv) (fun x y => orI (cm y.2 x.2) (cm x.1 y.1)) swoC 25 #[] g 0 c L.toArray w eg (fun _ _ _ _ x y => clC x y _) (holds_row (enc := cnL) (k := 2) (fun _ => rfl) h) (Array.getElem?_eq_some_iff.1 hcell).1 (by simpa using (by omega : L.length < 4611686018427387904))
    change Calls Try.prog 24 _ _ _ at hcon
    rw [show L.toArray.size = L.length by simp] at hcon
    refine hcon.mono ?_
    rintro e w' ⟨rfl, d', n, os, hp, hs, rfl⟩
    have hsz : d'.size = L.length := by simpa using hp.1
    obtain ⟨M, rfl⟩ : ∃ M : List (Int × Int), d' = M.toArray := ⟨d'.toList, by simp⟩
    have hlen : M.length = L.length := by simpa using hsz
    obtain ⟨r1, r2⟩ := sorted_row (enc := cnL) (k := 2) (fun _ => rfl) (n := n) (os := os) h hlen
    refine ⟨rfl, M, ?_, ?_, r1, r2⟩
    · have := hp.2.2
      simp at this
      rwa [List.take_of_length_le (by omega)] at this
    · rw [List.pairwise_iff_getElem]
      intro i j hi hj hij
      have := hs i j (Nat.zero_le _) hij (by omega)
      rw [ltC] at this
      simpa [hi, hj] using this
end Go.Proofs.Ytomjnncgogkglaa
