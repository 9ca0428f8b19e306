import Derived.Test.YtomjnncgogkglaaTPS0
import Derived.Shelf.SlSortCmp.NoneTotal
import Derived.Shelf.SlicesG.Cmp
namespace Go.Proofs.Ytomjnncgogkglaa
open Go.ChangeShapes Go.WideShapes Go.ChangeAt Go.RowKit Go.Sort Go.Shelf
set_option linter.unusedVariables false
set_option linter.unusedSimpArgs false

def cm (x y : Int) : Int := if x < y then -1 else if y < x then 1 else 0
theorem cm_lt (x y : Int) : cm x y < 0 ↔ x < y := by unfold cm; split <;> (try split) <;> omega
set_option maxRecDepth 100000 in
set_option maxHeartbeats 2000000 in
theorem isNaN_u64 (x : Int) (w : World) : Calls Try.prog 46 #[.int .u64 x] w fun e w' => e = .returned (.bool false) ∧ w' = w := by
  go_enter Try.func46, Try.ntmps46
  go_wp2
  go_ret
  exact ⟨rfl, rfl⟩
set_option maxRecDepth 100000 in
set_option maxHeartbeats 2000000 in
theorem compare_u64 (x y : Int) (w : World) : Calls Try.prog 36 #[.int .u64 x, .int .u64 y] w fun e w' => e = .returned (.int .i64 (cm x y)) ∧ w' = w := by
  have HN := fun z W => isNaN_u64 z W
  have e : cm x y = if x < y then -1 else if y < x then 1 else 0 := rfl
  by_cases h1 : x < y
  · rw [if_pos h1] at e
    rw [e]
    have d1 : decide (x < y) = true := decide_eq_true h1
    clear e h1
    go_enter Try.func36, Try.ntmps36
    go_wp2_with (go_at_call 46; (with_reducible refine (HN _ _).mono ?_); rintro e w1 ⟨rfl, rfl⟩)
    go_ret
    exact ⟨rfl, rfl⟩
  · have d1 : decide (x < y) = false := decide_eq_false h1
    rw [if_neg h1] at e
    by_cases h2 : y < x
    · rw [if_pos h2] at e
      rw [e]
      have d2 : decide (y < x) = true := decide_eq_true h2
      clear e h1 h2
      go_enter Try.func36, Try.ntmps36
      go_wp2_with (go_at_call 46; (with_reducible refine (HN _ _).mono ?_); rintro e w1 ⟨rfl, rfl⟩)
      go_ret
      exact ⟨rfl, rfl⟩
    · rw [if_neg h2] at e
      rw [e]
      have d2 : decide (y < x) = false := decide_eq_false h2
      clear e h1 h2
      go_enter Try.func36, Try.ntmps36
      go_wp2_with (go_at_call 46; (with_reducible refine (HN _ _).mono ?_); rintro e w1 ⟨rfl, rfl⟩)
      go_ret
      exact ⟨rfl, rfl⟩
set_option maxRecDepth 100000 in
set_option maxHeartbeats 2000000 in
theorem isNaN_i64 (x : Int) (w : World) : Calls Try.prog 43 #[.int .i64 x] w fun e w' => e = .returned (.bool false) ∧ w' = w := by
  go_enter Try.func43, Try.ntmps43
  go_wp2
  go_ret
  exact ⟨rfl, rfl⟩
set_option maxRecDepth 100000 in
set_option maxHeartbeats 2000000 in
theorem compare_i64 (x y : Int) (w : World) : Calls Try.prog 27 #[.int .i64 x, .int .i64 y] w fun e w' => e = .returned (.int .i64 (cm x y)) ∧ w' = w := by
  have HN := fun z W => isNaN_i64 z W
  have e : cm x y = if x < y then -1 else if y < x then 1 else 0 := rfl
  by_cases h1 : x < y
  · rw [if_pos h1] at e
    rw [e]
    have d1 : decide (x < y) = true := decide_eq_true h1
    clear e h1
    go_enter Try.func27, Try.ntmps27
    go_wp2_with (go_at_call 43; (with_reducible refine (HN _ _).mono ?_); rintro e w1 ⟨rfl, rfl⟩)
    go_ret
    exact ⟨rfl, rfl⟩
  · have d1 : decide (x < y) = false := decide_eq_false h1
    rw [if_neg h1] at e
    by_cases h2 : y < x
    · rw [if_pos h2] at e
      rw [e]
      have d2 : decide (y < x) = true := decide_eq_true h2
      clear e h1 h2
      go_enter Try.func27, Try.ntmps27
      go_wp2_with (go_at_call 43; (with_reducible refine (HN _ _).mono ?_); rintro e w1 ⟨rfl, rfl⟩)
      go_ret
      exact ⟨rfl, rfl⟩
    · rw [if_neg h2] at e
      rw [e]
      have d2 : decide (y < x) = false := decide_eq_false h2
      clear e h1 h2
      go_enter Try.func27, Try.ntmps27
      go_wp2_with (go_at_call 43; (with_reducible refine (HN _ _).mono ?_); rintro e w1 ⟨rfl, rfl⟩)
      go_ret
      exact ⟨rfl, rfl⟩
set_option maxRecDepth 100000 in
set_option maxHeartbeats 2000000 in
theorem clB (x y : Int × Int) (w : World) : Calls Try.prog 35 #[.agg #[.int .u64 x.1, .int .i64 x.2], .agg #[.int .u64 y.1, .int .i64 y.2]] w fun e w' => e = .returned (.int .i64 (cm x.1 y.1)) ∧ ∃ q os', w' = grow (w.drewN q) os' := by
  have hcon := fun W' => compare_u64 x.1 y.1 W'
  generalize cm x.1 y.1 = r at hcon ⊢
  go_enter Try.func35, Try.ntmps35
  go_wp2_with (go_at_call 36; refine (hcon _).mono ?_; rintro e w' ⟨rfl, rfl⟩)
  go_ret
  exact ⟨rfl, 0, _, by rw [alloc_eq_grow, alloc_eq_grow, grow_grow]; rfl⟩
theorem ltB (x y : Int × Int) : ltOf (fun x y : Int × Int => cm x.1 y.1) x y = decide (x.1 < y.1) := by
  unfold ltOf
  rw [decide_eq_decide]
  exact cm_lt _ _
theorem swoB : SWO (ltOf fun x y : Int × Int => cm x.1 y.1) where
  irrefl x := by rw [ltB]; simp
  trans x y z h1 h2 := by rw [ltB] at *; simp at *; omega
  ntrans x y z h1 h2 := by rw [ltB] at *; simp at *; omega
theorem bkL_one (x : Int × Int) (v : Value) (h : v ∈ bkL x) : v.oneCell' = true := by
  simp [bkL] at h
  rcases h with rfl | rfl <;> rfl
theorem sortB_any (L : List (Int × Int)) (v : Value) (base : Nat) (w : World) (h : w.ownsRow base 60 2 v L.length (L.flatMap bkL)) (hL : L.length ≤ 2932031007402) :
    Calls Try.prog 34 #[v, .func (.func 35) #[] #[]] w fun e w' => e = .returned (.tuple #[]) ∧ ∃ M : List (Int × Int), M.Perm L ∧ M.Pairwise (fun x y => ¬ y.1 < x.1) ∧ w'.ownsRow base 60 2 v L.length (M.flatMap bkL) ∧ w.grownBy w' v.ownBlock := by
  rcases h.2 with ⟨hv, h0⟩ | ⟨g, c, cur, hv, hg, hcell, hnc, _⟩
  · subst hv
    obtain rfl : L = [] := List.length_eq_zero_iff.1 h0
    have hcon := AnyF.slices_SortFunc_none sortLB none 0 (.func (.func 35) #[] #[]) w
    change Calls Try.prog 34 _ _ _ at hcon
    refine hcon.mono ?_
    rintro e w' ⟨rfl, rfl⟩
    exact ⟨rfl, [], List.Perm.refl _, List.Pairwise.nil, h, grown_refl _ _⟩
  · subst hv
    have eg : ∀ args w, (callFunc 35 args).run Try.prog w = .ok (.enter 35 args) w := enters_of Try.func35 (by kernel_rfl) rfl
    have hcon := AnyQ.slices_SortFunc sortLB 2 Try.isAgg60 Try.sizeOf60 bkL (fun _ => rfl) (fun x v hv => bkL_one x v hv) (fun x y => cm x.1 y.1) swoB 35 #[] g 0 c L.toArray w eg (fun _ _ _ _ x y => clB x y _) (holds_row (enc := bkL) (k := 2) (fun _ => rfl) h) (Array.getElem?_eq_some_iff.1 hcell).1 (by simpa using (by omega : L.length < 4611686018427387904))
    change Calls Try.prog 34 _ _ _ at hcon
    rw [show L.toArray.size = L.length by simp] at hcon
    refine hcon.mono ?_
    rintro e w' ⟨rfl, d', n, os, hp, hs, rfl⟩
    have hsz : d'.size = L.length := by simpa using hp.1
    obtain ⟨M, rfl⟩ : ∃ M : List (Int × Int), d' = M.toArray := ⟨d'.toList, by simp⟩
    have hlen : M.length = L.length := by simpa using hsz
    obtain ⟨r1, r2⟩ := sorted_row (enc := bkL) (k := 2) (fun _ => rfl) (n := n) (os := os) h hlen
    refine ⟨rfl, M, ?_, ?_, r1, r2⟩
    · have := hp.2.2
      simp at this
      rwa [List.take_of_length_le (by omega)] at this
    · rw [List.pairwise_iff_getElem]
      intro i j hi hj hij
      have := hs i j (Nat.zero_le _) hij (by omega)
      rw [ltB] at this
      simpa [hi, hj] using this
end Go.Proofs.Ytomjnncgogkglaa
