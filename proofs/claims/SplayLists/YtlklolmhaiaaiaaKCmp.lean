import Derived.Test.YtlklolmhaiaaiaaRows
import Derived.WalkKit
import Derived.ProofKit
import Derived.OpenShut
import Derived.Below
import Derived.Deep.RegionHeld3
namespace Go.Proofs.Ytlklolmhaiaaiaa
open Go.ChangeShapes Go.WideShapes Go.ChangeAt Go.RowKit

def cmpN (x y : Int) : Int := if x < y then -1 else if y < x then 1 else 0

theorem cmpu_any (x y : Int) (w : World) :
    Calls Try.prog 81 #[.int .u64 x, .int .u64 y] w fun e w' => e = .returned (.int .i64 (cmpN x y)) ∧ w' = w := by
  by_cases h1 : x < y
  · have hv : cmpN x y = -1 := by simp [cmpN, h1]
    rw [hv]
    clear hv
    go_enter Try.func81, Try.ntmps81
    go_wp2
    go_ret
    exact ⟨rfl, rfl⟩
  · by_cases h2 : y < x
    · have hv : cmpN x y = 1 := by simp [cmpN, h1, h2]
      rw [hv]
      clear hv
      go_enter Try.func81, Try.ntmps81
      go_wp2
      go_ret
      exact ⟨rfl, rfl⟩
    · have hv : cmpN x y = 0 := by simp [cmpN, h1, h2]
      rw [hv]
      clear hv
      go_enter Try.func81, Try.ntmps81
      go_wp2
      go_ret
      exact ⟨rfl, rfl⟩

theorem cmpi_any (x y : Int) (w : World) :
    Calls Try.prog 82 #[.int .i64 x, .int .i64 y] w fun e w' => e = .returned (.int .i64 (cmpN x y)) ∧ w' = w := by
  by_cases h1 : x < y
  · have hv : cmpN x y = -1 := by simp [cmpN, h1]
    rw [hv]
    clear hv
    go_enter Try.func82, Try.ntmps82
    go_wp2
    go_ret
    exact ⟨rfl, rfl⟩
  · by_cases h2 : y < x
    · have hv : cmpN x y = 1 := by simp [cmpN, h1, h2]
      rw [hv]
      clear hv
      go_enter Try.func82, Try.ntmps82
      go_wp2
      go_ret
      exact ⟨rfl, rfl⟩
    · have hv : cmpN x y = 0 := by simp [cmpN, h1, h2]
      rw [hv]
      clear hv
      go_enter Try.func82, Try.ntmps82
      go_wp2
      go_ret
      exact ⟨rfl, rfl⟩

def orN (a b c : Int) : Int := if a = 0 then (if b = 0 then c else b) else a

theorem orN_a {a b c : Int} (h : (a != 0) = true) : orN a b c = a := by have : a ≠ 0 := by simpa using h
                                                                        simp [orN, this]
theorem orN_b {a b c : Int} (h : (a != 0) = false) (h1 : (b != 0) = true) : orN a b c = b := by
  have : a = 0 := by simpa using h
  have : b ≠ 0 := by simpa using h1
  simp [orN, *]
theorem orN_c {a b c : Int} (h : (a != 0) = false) (h1 : (b != 0) = false) : orN a b c = c := by
  have : a = 0 := by simpa using h
  have : b = 0 := by simpa using h1
  simp [orN, *]
theorem ret_int {k : IntKind} {a b : Int} (h : a = b) : Ending.returned (.int k a) = .returned (.int k b) := by rw [h]

theorem or_any (a b c : Int) (k : Nat) (w : World) (h0 : w.cell? ⟨k, 0, none⟩ = some (.int .i64 a)) (h1 : w.cell? ⟨k, 1, none⟩ = some (.int .i64 b)) (h2 : w.cell? ⟨k, 2, none⟩ = some (.int .i64 c)) :
    Calls Try.prog 80 #[.slice (some ⟨k, 0, none⟩) 3 3] w fun e w' => e = .returned (.int .i64 (orN a b c)) ∧ w' = w := by
  go_enter Try.func80, Try.ntmps80
  go_wp2
  refine wp_loop_rounds 4 ?_
  rw [rounds_succ]
  go_wp2
  · go_ret
    exact ⟨ret_int (orN_a ‹_›).symm, rfl⟩
  · rw [rounds_succ]
    go_wp2
    · go_ret
      exact ⟨ret_int (orN_b ‹_› ‹_›).symm, rfl⟩
    · rw [rounds_succ]
      go_wp2
      · go_ret
        exact ⟨ret_int (orN_c ‹_› ‹_›).symm, rfl⟩
      · rw [rounds_succ]
        go_wp2
        go_ret
        exact ⟨ret_int (by rw [orN_c ‹_› ‹_›]; have : c = 0 := by simpa using ‹(c != 0) = false›
                           rw [this]), rfl⟩

def keyCmp (t s q t' s' q' : Int) : Int := orN (cmpN t t') (cmpN s s') (cmpN q q')

theorem compare_any (t s q t' s' q' : Int) (w : World) :
    Calls Try.prog 74 #[.agg #[.int .u64 t, .int .i64 s, .int .u64 q], .agg #[.int .u64 t', .int .i64 s', .int .u64 q']] w fun e w' => e = .returned (.int .i64 (keyCmp t s q t' s' q')) ∧ Below w.heap.size w w' := by
  go_enter Try.func74, Try.ntmps74
  go_wp2

  go_region_held3 (fun w' => w'.cell? ⟨w.heap.size, 0, none⟩ = some (.int .u64 t) ∧ w'.cell? ⟨w.heap.size, 1, none⟩ = some (.int .i64 s) ∧ w'.cell? ⟨w.heap.size, 2, none⟩ = some (.int .u64 q) ∧ w'.cell? ⟨w.heap.size + 1, 0, none⟩ = some (.int .u64 t') ∧ w'.cell? ⟨w.heap.size + 1, 1, none⟩ = some (.int .i64 s') ∧ w'.cell? ⟨w.heap.size + 1, 2, none⟩ = some (.int .u64 q')) (go_keep) (first | (go_at_call 81; refine (cmpu_any _ _ _).mono ?_; rintro e w' ⟨rfl, rfl⟩) | (go_at_call 82; refine (cmpi_any _ _ _).mono ?_; rintro e w' ⟨rfl, rfl⟩) | (go_at_call 80; refine (or_any (cmpN t t') (cmpN s s') (cmpN q q') _ _ ?_ ?_ ?_).mono ?_; (go_simp); (go_simp); (go_simp); rintro e w' ⟨rfl, rfl⟩))

  go_wp2
  go_ret
  exact ⟨rfl, by repeat (first | exact Below.refl _ _ | apply Below.drew | refine Below.alloc ?_ (by simp <;> omega) _)⟩

theorem cmp_lt {x y : Int} (h : x < y) : cmpN x y = -1 := by simp [cmpN, h]
theorem cmp_gt {x y : Int} (h : y < x) : cmpN x y = 1 := by
  have h' : ¬ x < y := by omega
  simp [cmpN, h, h']
theorem cmp_eq (x : Int) : cmpN x x = 0 := by simp [cmpN]

theorem keep6 {B Z : Nat} {w W w1 : World} {v0 v1 v2 v3 v4 v5 : Value}
    (h : W.cell? ⟨B, 0, none⟩ = some v0 ∧ W.cell? ⟨B, 1, none⟩ = some v1 ∧ W.cell? ⟨B, 2, none⟩ = some v2 ∧ W.cell? ⟨B + 1, 0, none⟩ = some v3 ∧ W.cell? ⟨B + 1, 1, none⟩ = some v4 ∧ W.cell? ⟨B + 1, 2, none⟩ = some v5 ∧ B + 2 ≤ W.heap.size ∧ Below B w W)
    (hb : Below Z W w1) (hZ : B + 2 ≤ Z ∨ Z = W.heap.size) :
    w1.cell? ⟨B, 0, none⟩ = some v0 ∧ w1.cell? ⟨B, 1, none⟩ = some v1 ∧ w1.cell? ⟨B, 2, none⟩ = some v2 ∧ w1.cell? ⟨B + 1, 0, none⟩ = some v3 ∧ w1.cell? ⟨B + 1, 1, none⟩ = some v4 ∧ w1.cell? ⟨B + 1, 2, none⟩ = some v5 ∧ B + 2 ≤ w1.heap.size ∧ Below B w w1 := by
  obtain ⟨h0, h1, h2, h3, h4, h5, hz, hB⟩ := h
  have hs := hb.size
  have hZ2 : B + 2 ≤ Z := by omega
  refine ⟨?_, ?_, ?_, ?_, ?_, ?_, by omega, hB.trans (hb.mono (by omega))⟩
  · rw [hb.cell (by show B < _; omega)]; exact h0
  · rw [hb.cell (by show B < _; omega)]; exact h1
  · rw [hb.cell (by show B < _; omega)]; exact h2
  · rw [hb.cell (by show B + 1 < _; omega)]; exact h3
  · rw [hb.cell (by show B + 1 < _; omega)]; exact h4
  · rw [hb.cell (by show B + 1 < _; omega)]; exact h5

theorem start6 (w : World) (v0 v1 v2 v3 v4 v5 : Value) (T T' : TypeId) (W : World) (h : W = ((w.alloc (.cells #[v0, v1, v2] T)).alloc (.cells #[v3, v4, v5] T'))) :
    W.drew.cell? ⟨w.heap.size, 0, none⟩ = some v0 ∧ W.drew.cell? ⟨w.heap.size, 1, none⟩ = some v1 ∧ W.drew.cell? ⟨w.heap.size, 2, none⟩ = some v2 ∧ W.drew.cell? ⟨w.heap.size + 1, 0, none⟩ = some v3 ∧ W.drew.cell? ⟨w.heap.size + 1, 1, none⟩ = some v4 ∧ W.drew.cell? ⟨w.heap.size + 1, 2, none⟩ = some v5 ∧ w.heap.size + 2 ≤ W.drew.heap.size ∧ Below w.heap.size w W.drew := by
  subst h
  refine ⟨?_, ?_, ?_, ?_, ?_, ?_, ?_, (((Below.refl _ _).alloc (Nat.le_refl _) _).alloc (by simp) _).drew⟩
  all_goals go_simp

end Go.Proofs.Ytlklolmhaiaaiaa
