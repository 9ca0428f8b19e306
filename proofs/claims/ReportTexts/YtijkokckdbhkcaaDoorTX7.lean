import Derived.Test.YtijkokckdbhkcaaDoorTX6
namespace Go.Proofs.YtijkokckdbhkcaaDoor
open Go.ChangeShapes Go.WideShapes Go.ChangeAt Go.RowKit Go.Sort
set_option linter.unusedVariables false
set_option linter.unusedSimpArgs false

theorem fmU {u : Nat} (hu : u < 18446744073709551616) (w : World) (htab : Lib.TabIs Tryd.prog w "internal/strconv.uint64pow10" .u64 Lib.pow10Tab) :
    Calls Tryd.prog 16 #[.int .u64 u, .int .i64 10] w fun e w' => e = .returned (.string ⟨(Lib.decDigits u).toArray⟩) ∧ Below w.heap.size w w' := fmtU_any u hu w htab
theorem fmI {n : Int} (hn : I64 n) (w : World) (htab : Lib.TabIs Tryd.prog w "internal/strconv.uint64pow10" .u64 Lib.pow10Tab) :
    Calls Tryd.prog 15 #[.int .i64 n, .int .i64 10] w fun e w' => e = .returned (.string ⟨(Lib.itoa n).toArray⟩) ∧ Below w.heap.size w w' := fmtI_any n hn w htab
theorem fmA {n : Int} (hn : I64 n) (w : World) (htab : Lib.TabIs Tryd.prog w "internal/strconv.uint64pow10" .u64 Lib.pow10Tab) :
    Calls Tryd.prog 13 #[.int .i64 n] w fun e w' => e = .returned (.string ⟨(Lib.itoa n).toArray⟩) ∧ Below w.heap.size w w' := itoa_any n hn w htab
theorem sadd (a b r : List UInt8) (e : a ++ b = r) (h : a.length + b.length ≤ 9223372036854775807) (W : World) : (Op.stringOp .add (⟨a.toArray⟩ : ByteArray) (⟨b.toArray⟩ : ByteArray)).run Tryd.prog W = .ok (.string ⟨r.toArray⟩) W := by
  subst e
  rw [run_string_add_sum (P := Tryd.prog) (w := W) _ _ (by simp [bsz]; omega), str_app]
theorem keepK {t q : Nat} {s : Int} {w W W1 : World} {Z : Nat} (h : (W.cell? ⟨w.heap.size, 0, none⟩ = some (.int .u64 t) ∧ W.cell? ⟨w.heap.size, 1, none⟩ = some (.int .i64 s) ∧ W.cell? ⟨w.heap.size, 2, none⟩ = some (.int .u64 q) ∧ w.heap.size < W.heap.size ∧ Below w.heap.size w W)) (hb : Below Z W W1) (hZ : Z = W.heap.size) : (W1.cell? ⟨w.heap.size, 0, none⟩ = some (.int .u64 t) ∧ W1.cell? ⟨w.heap.size, 1, none⟩ = some (.int .i64 s) ∧ W1.cell? ⟨w.heap.size, 2, none⟩ = some (.int .u64 q) ∧ w.heap.size < W1.heap.size ∧ Below w.heap.size w W1) := by
  obtain ⟨h0, h1, h2, h3, h4⟩ := h
  have hs := hb.size
  subst hZ
  refine ⟨?_, ?_, ?_, by omega, h4.trans (hb.mono (by omega))⟩
  · rw [hb.cell (by show w.heap.size < _; omega)]; exact h0
  · rw [hb.cell (by show w.heap.size < _; omega)]; exact h1
  · rw [hb.cell (by show w.heap.size < _; omega)]; exact h2
theorem tabK {t q : Nat} {s : Int} {w W : World} (ht : Lib.TabIs Tryd.prog w "internal/strconv.uint64pow10" .u64 Lib.pow10Tab) (h : (W.cell? ⟨w.heap.size, 0, none⟩ = some (.int .u64 t) ∧ W.cell? ⟨w.heap.size, 1, none⟩ = some (.int .i64 s) ∧ W.cell? ⟨w.heap.size, 2, none⟩ = some (.int .u64 q) ∧ w.heap.size < W.heap.size ∧ Below w.heap.size w W)) : Lib.TabIs Tryd.prog W "internal/strconv.uint64pow10" .u64 Lib.pow10Tab := (Lib.tabBelow_of_tabIs ht).on h.2.2.2.2 |>.here
set_option maxRecDepth 100000 in
set_option maxHeartbeats 2000000 in
theorem rkey_any (t q : Nat) (s : Int) (ht : t < 18446744073709551616) (hs : I64 s) (hq : q < 18446744073709551616) (w : World) (htab : Lib.TabIs Tryd.prog w "internal/strconv.uint64pow10" .u64 Lib.pow10Tab) :
    Calls Tryd.prog 14 #[.agg #[.int .u64 t, .int .i64 s, .int .u64 q]] w fun e w' => e = .returned (.string ⟨(keyB t s q).toArray⟩) ∧ Below w.heap.size w w' := by
  have l1 := dec_len t ht
  have l2 := dec_len q hq
  have l3 := itoa_len s hs.1 (by have := hs.2; omega)
  obtain ⟨x1, e1⟩ : ∃ x, Lib.decDigits t ++ [46] = x := ⟨_, rfl⟩
  obtain ⟨x2, e2⟩ : ∃ x, x1 ++ Lib.itoa s = x := ⟨_, rfl⟩
  obtain ⟨x3, e3⟩ : ∃ x, x2 ++ [46] = x := ⟨_, rfl⟩
  obtain ⟨x4, e4⟩ : ∃ x, x3 ++ Lib.decDigits q = x := ⟨_, rfl⟩
  have n1 := congrArg List.length e1
  have n2 := congrArg List.length e2
  have n3 := congrArg List.length e3
  have n4 := congrArg List.length e4
  simp only [List.length_append, List.length_singleton] at n1 n2 n3 n4
  have a1 := sadd _ _ _ e1 (by simp; omega)
  have a2 := sadd _ _ _ e2 (by omega)
  have a3 := sadd _ _ _ e3 (by simp; omega)
  have a4 := sadd _ _ _ e4 (by omega)
  have HE : Hid (x4 = keyB t s q) := by show x4 = keyB t s q; rw [← e4, ← e3, ← e2, ← e1]; simp [keyB]
  clear e1 e2 e3 e4 n1 n2 n3 n4
  have k0 : (w.alloc (.cells #[.int .u64 t, .int .i64 s, .int .u64 q] 25)).drew.heap[w.heap.size]? = some (.cells #[.int .u64 t, .int .i64 s, .int .u64 q] 25 (0, 0)) := heap_alloc_new _ _
  obtain ⟨c0, c1, c2⟩ := cells3p k0
  have KP0 : ((w.alloc (.cells #[.int .u64 t, .int .i64 s, .int .u64 q] 25)).drew.cell? ⟨w.heap.size, 0, none⟩ = some (.int .u64 t) ∧ (w.alloc (.cells #[.int .u64 t, .int .i64 s, .int .u64 q] 25)).drew.cell? ⟨w.heap.size, 1, none⟩ = some (.int .i64 s) ∧ (w.alloc (.cells #[.int .u64 t, .int .i64 s, .int .u64 q] 25)).drew.cell? ⟨w.heap.size, 2, none⟩ = some (.int .u64 q) ∧ w.heap.size < (w.alloc (.cells #[.int .u64 t, .int .i64 s, .int .u64 q] 25)).drew.heap.size ∧ Below w.heap.size w (w.alloc (.cells #[.int .u64 t, .int .i64 s, .int .u64 q] 25)).drew) := ⟨c0, c1, c2, lt_of_block k0, ((Below.refl _ _).alloc (Nat.le_refl _) _).drew⟩
  have HT := hid htab
  clear htab k0 c0 c1 c2 l1 l2 l3
  go_enter Tryd.func14, Tryd.ntmps14
  go_wp2_with fail
  go_region_held3 (fun w' => (w'.cell? ⟨w.heap.size, 0, none⟩ = some (.int .u64 t) ∧ w'.cell? ⟨w.heap.size, 1, none⟩ = some (.int .i64 s) ∧ w'.cell? ⟨w.heap.size, 2, none⟩ = some (.int .u64 q) ∧ w.heap.size < w'.heap.size ∧ Below w.heap.size w w')) (first | with_reducible exact KP0 | (refine keepK ?_ hb rfl; assumption)) (first | (go_at_call 16; refine (fmU (by assumption) _ (tabK HT.out (by assumption))).mono ?_; rintro e w' ⟨rfl, hb⟩) | (go_at_call 13; refine (fmA hs _ (tabK HT.out (by assumption))).mono ?_; rintro e w' ⟨rfl, hb⟩))
  all_goals (
    rename_i hS
    go_wp2_with fail
    go_ret
    rw [← HE.out]
    exact ⟨rfl, hS.2.2.2.2⟩)
end Go.Proofs.YtijkokckdbhkcaaDoor
