import Derived.Test.YtomjnncgogkglaaTPS
import Derived.ChangeOld
namespace Go.Proofs.Ytomjnncgogkglaa
open Go.ChangeShapes Go.WideShapes Go.ChangeAt Go.RowKit Go.Sort Go.Shelf
set_option linter.unusedVariables false
set_option linter.unusedSimpArgs false

structure Ty where
  p : Int
  e : Int
  s : Int
  f : Int
  l : Int
def tyL (x : Ty) : List Value := [.int .i64 x.p, .int .i64 x.e, .int .i64 x.s, .int .u64 x.f, .int .u64 x.l]
theorem tyL_one (x : Ty) (v : Value) (h : v ∈ tyL x) : v.oneCell' = true := by
  simp [tyL] at h
  rcases h with rfl | rfl | rfl | rfl | rfl <;> rfl
/-- one more event that happens at t -/
def htT (x : Ty) (t : Int) : Ty := ⟨x.p, x.e + 1, x.s, if x.e = 0 then t else min x.f t, if x.e = 0 then t else max x.l t⟩
def stT (x : Ty) : Ty := ⟨x.p, x.e, x.s + 1, x.f, x.l⟩
theorem infoTY : (Try.prog.info? 65).map (fun i => (i.zero, i.size, i.bytes)) = some (some (.agg #[.int .i64 0, .int .i64 0, .int .i64 0, .int .u64 0, .int .u64 0]), 5, 40) := by kernel_rfl
theorem cells5t {W : World} {b : Nat} {c0 c1 c2 c3 c4 : Value} {t : TypeId} (h : W.heap[b]? = some (.cells #[c0, c1, c2, c3, c4] t (0, 0))) : W.cell? ⟨b, 0, none⟩ = some c0 ∧ W.cell? ⟨b, 1, none⟩ = some c1 ∧ W.cell? ⟨b, 2, none⟩ = some c2 ∧ W.cell? ⟨b, 3, none⟩ = some c3 ∧ W.cell? ⟨b, 4, none⟩ = some c4 := by
  refine ⟨?_, ?_, ?_, ?_, ?_⟩
  all_goals (unfold World.cell?; rw [h]; rfl)
set_option maxRecDepth 100000 in
set_option maxHeartbeats 2000000 in
theorem sent_any (x : Ty) (hr : 0 ≤ x.s ∧ x.s < 9223372036854775807) (w : World) : Calls Try.prog 38 #[.agg #[.int .i64 x.p, .int .i64 x.e, .int .i64 x.s, .int .u64 x.f, .int .u64 x.l]] w fun e w' => e = .returned (.agg (tyL (stT x)).toArray) ∧ Below w.heap.size w w' := by
  have es : IntKind.i64.wrap (x.s + 1) = x.s + 1 := by rw [IntKind.wrap_i64]; omega
  go_enter Try.func38, Try.ntmps38
  go_wp2
  refine bodyPost_ret (v := .agg (tyL (stT x)).toArray) (by simp [results, Try.results38, go_sem, tyL, stT]) rfl ?_
  exact ⟨rfl, ((Below.refl _ w).alloc (Nat.le_refl _) _).alloc (by simp) _⟩
set_option maxRecDepth 100000 in
set_option maxHeartbeats 2000000 in
theorem happened_0 (x : Ty) (t : Int) (hr : 0 ≤ x.e ∧ x.e < 9223372036854775807) (h0 : x.e = 0) (w : World) : Calls Try.prog 37 #[.agg #[.int .i64 x.p, .int .i64 x.e, .int .i64 x.s, .int .u64 x.f, .int .u64 x.l], .int .u64 t] w fun e w' => e = .returned (.agg (tyL (htT x t)).toArray) ∧ Below w.heap.size w w' := by
  have es : IntKind.i64.wrap (x.e + 1) = x.e + 1 := by rw [IntKind.wrap_i64]; omega
  have HE : Hid (htT x t = ⟨x.p, x.e + 1, x.s, t, t⟩) := by show htT x t = _; unfold htT; rw [if_pos h0, if_pos h0]
  have d0 : (x.e == 0) = true := by simpa using h0
  have d1 : decide (t < t) = false := by simp
  clear h0
  go_enter Try.func37, Try.ntmps37
  go_wp2
  refine bodyPost_ret (v := .agg (tyL ⟨x.p, x.e + 1, x.s, t, t⟩).toArray) (by simp [results, Try.results37, go_sem, tyL]) rfl ?_
  exact ⟨by rw [HE.out], ((Below.refl _ w).alloc (Nat.le_refl _) _).alloc (by simp) _⟩
set_option maxRecDepth 100000 in
set_option maxHeartbeats 2000000 in
theorem happened_1 (x : Ty) (t : Int) (hr : 0 ≤ x.e ∧ x.e < 9223372036854775807) (h0 : x.e ≠ 0) (w : World) : Calls Try.prog 37 #[.agg #[.int .i64 x.p, .int .i64 x.e, .int .i64 x.s, .int .u64 x.f, .int .u64 x.l], .int .u64 t] w fun e w' => e = .returned (.agg (tyL (htT x t)).toArray) ∧ Below w.heap.size w w' := by
  have es : IntKind.i64.wrap (x.e + 1) = x.e + 1 := by rw [IntKind.wrap_i64]; omega
  have HE : Hid (htT x t = ⟨x.p, x.e + 1, x.s, min x.f t, max x.l t⟩) := by show htT x t = _; unfold htT; rw [if_neg h0, if_neg h0]
  have d0 : (x.e == 0) = false := by simpa using h0
  clear h0
  go_enter Try.func37, Try.ntmps37
  go_wp2
  refine bodyPost_ret (v := .agg (tyL ⟨x.p, x.e + 1, x.s, min x.f t, max x.l t⟩).toArray) (by simp [results, Try.results37, go_sem, tyL]) rfl ?_
  exact ⟨by rw [HE.out], ((Below.refl _ w).alloc (Nat.le_refl _) _).alloc (by simp) _⟩
theorem happened_any (x : Ty) (t : Int) (hr : 0 ≤ x.e ∧ x.e < 9223372036854775807) (w : World) : Calls Try.prog 37 #[.agg #[.int .i64 x.p, .int .i64 x.e, .int .i64 x.s, .int .u64 x.f, .int .u64 x.l], .int .u64 t] w fun e w' => e = .returned (.agg (tyL (htT x t)).toArray) ∧ Below w.heap.size w w' := by
  by_cases h0 : x.e = 0
  · exact happened_0 x t hr h0 w
  · exact happened_1 x t hr h0 w
set_option maxRecDepth 100000 in
set_option maxHeartbeats 2000000 in
theorem clT (x y : Ty) (w : World) : Calls Try.prog 40 #[.agg #[.int .i64 x.p, .int .i64 x.e, .int .i64 x.s, .int .u64 x.f, .int .u64 x.l], .agg #[.int .i64 y.p, .int .i64 y.e, .int .i64 y.s, .int .u64 y.f, .int .u64 y.l]] w fun e w' => e = .returned (.int .i64 (cm x.p y.p)) ∧ ∃ q os', w' = grow (w.drewN q) os' := by
  have hcon := fun W' => compare_i64 x.p y.p W'
  generalize cm x.p y.p = r at hcon ⊢
  go_enter Try.func40, Try.ntmps40
  go_wp2_with (go_at_call 27; refine (hcon _).mono ?_; rintro e w' ⟨rfl, rfl⟩)
  go_ret
  exact ⟨rfl, 0, _, by rw [alloc_eq_grow, alloc_eq_grow, grow_grow]; rfl⟩
theorem ltT (x y : Ty) : ltOf (fun x y : Ty => cm x.p y.p) x y = decide (x.p < y.p) := by
  unfold ltOf
  rw [decide_eq_decide]
  exact cm_lt _ _
theorem swoT : SWO (ltOf fun x y : Ty => cm x.p y.p) where
  irrefl x := by rw [ltT]; simp
  trans x y z h1 h2 := by rw [ltT] at *; simp at *; omega
  ntrans x y z h1 h2 := by rw [ltT] at *; simp at *; omega
theorem sortT_any (L : List (Ty)) (v : Value) (base : Nat) (w : World) (h : w.ownsRow base 65 5 v L.length (L.flatMap tyL)) (hL : L.length ≤ 5864062014804) :
    Calls Try.prog 39 #[v, .func (.func 40) #[] #[]] w fun e w' => e = .returned (.tuple #[]) ∧ ∃ M : List (Ty), M.Perm L ∧ M.Pairwise (fun x y => ¬ y.p < x.p) ∧ w'.ownsRow base 65 5 v L.length (M.flatMap tyL) ∧ w.grownBy w' v.ownBlock := by
  have inh : Inhabited Ty := ⟨⟨0, 0, 0, 0, 0⟩⟩
  rcases h.2 with ⟨hv, h0⟩ | ⟨g, c, cur, hv, hg, hcell, hnc, _⟩
  · subst hv
    obtain rfl : L = [] := List.length_eq_zero_iff.1 h0
    have hcon := AnyF.slices_SortFunc_none sortLT none 0 (.func (.func 40) #[] #[]) w
    change Calls Try.prog 39 _ _ _ at hcon
    refine hcon.mono ?_
    rintro e w' ⟨rfl, rfl⟩
    exact ⟨rfl, [], List.Perm.refl _, List.Pairwise.nil, h, grown_refl _ _⟩
  · subst hv
    have eg : ∀ args w, (callFunc 40 args).run Try.prog w = .ok (.enter 40 args) w := enters_of Try.func40 (by kernel_rfl) rfl
    have hcon := AnyQ.slices_SortFunc sortLT 5 Try.isAgg65 Try.sizeOf65 tyL (fun _ => rfl) (fun x v hv => tyL_one x v hv) (fun x y => cm x.p y.p) swoT 40 #[] g 0 c L.toArray w eg (fun _ _ _ _ x y => clT x y _) (holds_row (enc := tyL) (k := 5) (fun _ => rfl) h) (Array.getElem?_eq_some_iff.1 hcell).1 (by simpa using (by omega : L.length < 4611686018427387904))
    change Calls Try.prog 39 _ _ _ at hcon
    rw [show L.toArray.size = L.length by simp] at hcon
    refine hcon.mono ?_
    rintro e w' ⟨rfl, d', n, os, hp, hs, rfl⟩
    have hsz : d'.size = L.length := by simpa using hp.1
    obtain ⟨M, rfl⟩ : ∃ M : List (Ty), d' = M.toArray := ⟨d'.toList, by simp⟩
    have hlen : M.length = L.length := by simpa using hsz
    obtain ⟨r1, r2⟩ := sorted_row (enc := tyL) (k := 5) (fun _ => rfl) (n := n) (os := os) h hlen
    refine ⟨rfl, M, ?_, ?_, r1, r2⟩
    · have := hp.2.2
      simp at this
      rwa [List.take_of_length_le (by omega)] at this
    · rw [List.pairwise_iff_getElem]
      intro i j hi hj hij
      have := hs i j (Nat.zero_le _) hij (by omega)
      rw [ltT] at this
      simpa [hi, hj] using this
end Go.Proofs.Ytomjnncgogkglaa
