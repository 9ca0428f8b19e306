import Derived.Test.YtijkokckdbhkcaaDoorTX3
namespace Go.Proofs.YtijkokckdbhkcaaDoor
open Go.ChangeShapes Go.WideShapes Go.ChangeAt Go.RowKit Go.Sort
set_option linter.unusedVariables false
set_option linter.unusedSimpArgs false

def outB (k c : Int) (t : Nat) (s : Int) (q : Nat) (m : Int) : List UInt8 :=
  if k = 1 then [100, 111, 110, 101] else if k = 2 then [99, 117, 116] else if k = 3 then [102, 97, 117, 108, 116, 32] ++ Lib.itoa c ++ ([32, 97, 116, 32] ++ keyB t s q)
  else if k = 4 then [114, 101, 115, 111, 117, 114, 99, 101, 32] ++ Lib.itoa m else if k = 5 then [117, 110, 102, 105, 110, 105, 115, 104, 101, 100]
  else if k = 6 then [114, 101, 106, 101, 99, 116, 101, 100, 32] ++ Lib.itoa c else [114, 101, 115, 117, 108, 116, 32] ++ Lib.itoa k
theorem lenB_key (t : Nat) (s : Int) (q : Nat) (ht : t < 18446744073709551616) (hs : -9223372036854775808 ≤ s ∧ s < 9223372036854775808) (hq : q < 18446744073709551616) : (keyB t s q).length ≤ 63 := by
  have lt := dec_len t ht
  have lq := dec_len q hq
  have ls := itoa_len s hs.1 (by omega)
  simp [keyB]
  omega
theorem lenB_out (k c : Int) (t : Nat) (s : Int) (q : Nat) (m : Int) (hk : -9223372036854775808 ≤ k ∧ k < 9223372036854775808) (hc : -9223372036854775808 ≤ c ∧ c < 9223372036854775808) (ht : t < 18446744073709551616) (hs : -9223372036854775808 ≤ s ∧ s < 9223372036854775808) (hq : q < 18446744073709551616) (hm : -9223372036854775808 ≤ m ∧ m < 9223372036854775808) : (outB k c t s q m).length ≤ 120 := by
  have l1 := itoa_len k hk.1 (by omega)
  have l2 := itoa_len c hc.1 (by omega)
  have l3 := itoa_len m hm.1 (by omega)
  have l4 := lenB_key t s q ht hs hq
  unfold outB
  split
  · simp
  · split
    · simp
    · split
      · simp; omega
      · split
        · simp; omega
        · split
          · simp
          · split <;> (simp; omega)
abbrev rsA (k c : Int) (t : Nat) (s : Int) (q : Nat) (m : Int) (S X : Value) : Array Value := #[.int .i64 k, .int .i64 c, .int .u64 t, .int .i64 s, .int .u64 q, .int .i64 m, S, X]
set_option maxRecDepth 100000 in
theorem out1_any (B t q : Nat) (k c s m : Int) (S X : Value) (hk : -9223372036854775808 ≤ k ∧ k < 9223372036854775808) (hc : -9223372036854775808 ≤ c ∧ c < 9223372036854775808) (ht : t < 18446744073709551616) (hs : -9223372036854775808 ≤ s ∧ s < 9223372036854775808) (hq : q < 18446744073709551616) (hm : -9223372036854775808 ≤ m ∧ m < 9223372036854775808) (v : Value) (l : List UInt8) (w : World) (hb : BR B w v l) (hB : B ≤ w.heap.size) (hlim : l.length + 130 ≤ 140737488355328) (htab : Tb B w) (h : k = 1) :
    Calls Tryd.prog 7 #[v, .agg #[.int .i64 k, .int .i64 c, .int .u64 t, .int .i64 s, .int .u64 q, .int .i64 m, S, X]] w fun e w' => ∃ v', e = .returned v' ∧ BR B w' v' (l ++ ([100, 111, 110, 101])) ∧ Fr B w w' := by
  have HT : Hid (Tb B w) := htab
  have f0 : Fr B w (w.alloc (.cells #[.int .i64 k, .int .i64 c, .int .u64 t, .int .i64 s, .int .u64 q, .int .i64 m, S, X] 29)) := Fr.alloc hB _
  have b0 : BR B (w.alloc (.cells #[.int .i64 k, .int .i64 c, .int .u64 t, .int .i64 s, .int .u64 q, .int .i64 m, S, X] 29)) v l := hb.alloc _
  have k0 : (w.alloc (.cells #[.int .i64 k, .int .i64 c, .int .u64 t, .int .i64 s, .int .u64 q, .int .i64 m, S, X] 29)).heap[w.heap.size]? = some (.cells #[.int .i64 k, .int .i64 c, .int .u64 t, .int .i64 s, .int .u64 q, .int .i64 m, S, X] 29 (0, 0)) := heap_alloc_new _ _
  obtain ⟨c0, c1, c2, c3, c4, c5, c6, c7⟩ := cells8k k0
  have K0 := hid k0
  have B0 := hid b0
  have F0 := hid f0
  have e1 : (k == 1) = true := by rw [beq_iff_eq]; omega
  clear htab hb k0 b0 f0 h
  go_enter Tryd.func7, Tryd.ntmps7
  go_wp2_with (at_builtin; refine app_str rfl _ _ rfl B v l rfl B0.out [100, 111, 110, 101] rfl (by simp; omega) (Nat.le_trans hB F0.out.size) ?_)
  intro v1 w1 b1 f1
  clear e1
  go_wp2_with fail
  go_ret
  exact ⟨v1, rfl, b1, F0.out.trans f1⟩
set_option maxRecDepth 100000 in
theorem out2_any (B t q : Nat) (k c s m : Int) (S X : Value) (hk : -9223372036854775808 ≤ k ∧ k < 9223372036854775808) (hc : -9223372036854775808 ≤ c ∧ c < 9223372036854775808) (ht : t < 18446744073709551616) (hs : -9223372036854775808 ≤ s ∧ s < 9223372036854775808) (hq : q < 18446744073709551616) (hm : -9223372036854775808 ≤ m ∧ m < 9223372036854775808) (v : Value) (l : List UInt8) (w : World) (hb : BR B w v l) (hB : B ≤ w.heap.size) (hlim : l.length + 130 ≤ 140737488355328) (htab : Tb B w) (h : k = 2) :
    Calls Tryd.prog 7 #[v, .agg #[.int .i64 k, .int .i64 c, .int .u64 t, .int .i64 s, .int .u64 q, .int .i64 m, S, X]] w fun e w' => ∃ v', e = .returned v' ∧ BR B w' v' (l ++ ([99, 117, 116])) ∧ Fr B w w' := by
  have HT : Hid (Tb B w) := htab
  have f0 : Fr B w (w.alloc (.cells #[.int .i64 k, .int .i64 c, .int .u64 t, .int .i64 s, .int .u64 q, .int .i64 m, S, X] 29)) := Fr.alloc hB _
  have b0 : BR B (w.alloc (.cells #[.int .i64 k, .int .i64 c, .int .u64 t, .int .i64 s, .int .u64 q, .int .i64 m, S, X] 29)) v l := hb.alloc _
  have k0 : (w.alloc (.cells #[.int .i64 k, .int .i64 c, .int .u64 t, .int .i64 s, .int .u64 q, .int .i64 m, S, X] 29)).heap[w.heap.size]? = some (.cells #[.int .i64 k, .int .i64 c, .int .u64 t, .int .i64 s, .int .u64 q, .int .i64 m, S, X] 29 (0, 0)) := heap_alloc_new _ _
  obtain ⟨c0, c1, c2, c3, c4, c5, c6, c7⟩ := cells8k k0
  have K0 := hid k0
  have B0 := hid b0
  have F0 := hid f0
  have e1 : (k == 1) = false := by rw [beq_eq_false_iff_ne]; omega
  have e2 : (k == 2) = true := by rw [beq_iff_eq]; omega
  clear htab hb k0 b0 f0 h
  go_enter Tryd.func7, Tryd.ntmps7
  go_wp2_with (at_builtin; refine app_str rfl _ _ rfl B v l rfl B0.out [99, 117, 116] rfl (by simp; omega) (Nat.le_trans hB F0.out.size) ?_)
  intro v1 w1 b1 f1
  clear e1 e2
  go_wp2_with fail
  go_ret
  exact ⟨v1, rfl, b1, F0.out.trans f1⟩
set_option maxRecDepth 100000 in
theorem out3_any (B t q : Nat) (k c s m : Int) (S X : Value) (hk : -9223372036854775808 ≤ k ∧ k < 9223372036854775808) (hc : -9223372036854775808 ≤ c ∧ c < 9223372036854775808) (ht : t < 18446744073709551616) (hs : -9223372036854775808 ≤ s ∧ s < 9223372036854775808) (hq : q < 18446744073709551616) (hm : -9223372036854775808 ≤ m ∧ m < 9223372036854775808) (v : Value) (l : List UInt8) (w : World) (hb : BR B w v l) (hB : B ≤ w.heap.size) (hlim : l.length + 130 ≤ 140737488355328) (htab : Tb B w) (h : k = 3) :
    Calls Tryd.prog 7 #[v, .agg #[.int .i64 k, .int .i64 c, .int .u64 t, .int .i64 s, .int .u64 q, .int .i64 m, S, X]] w fun e w' => ∃ v', e = .returned v' ∧ BR B w' v' (l ++ ([102, 97, 117, 108, 116, 32] ++ Lib.itoa c ++ ([32, 97, 116, 32] ++ keyB t s q))) ∧ Fr B w w' := by
  have HT : Hid (Tb B w) := htab
  have f0 : Fr B w (w.alloc (.cells #[.int .i64 k, .int .i64 c, .int .u64 t, .int .i64 s, .int .u64 q, .int .i64 m, S, X] 29)) := Fr.alloc hB _
  have b0 : BR B (w.alloc (.cells #[.int .i64 k, .int .i64 c, .int .u64 t, .int .i64 s, .int .u64 q, .int .i64 m, S, X] 29)) v l := hb.alloc _
  have k0 : (w.alloc (.cells #[.int .i64 k, .int .i64 c, .int .u64 t, .int .i64 s, .int .u64 q, .int .i64 m, S, X] 29)).heap[w.heap.size]? = some (.cells #[.int .i64 k, .int .i64 c, .int .u64 t, .int .i64 s, .int .u64 q, .int .i64 m, S, X] 29 (0, 0)) := heap_alloc_new _ _
  obtain ⟨c0, c1, c2, c3, c4, c5, c6, c7⟩ := cells8k k0
  have K0 := hid k0
  have B0 := hid b0
  have F0 := hid f0
  have e1 : (k == 1) = false := by rw [beq_eq_false_iff_ne]; omega
  have e2 : (k == 2) = false := by rw [beq_eq_false_iff_ne]; omega
  have e3 : (k == 3) = true := by rw [beq_iff_eq]; omega
  have lc := itoa_len c hc.1 (by omega)
  have KK : ∀ w' : World, w'.heap[w.heap.size]? = some (.cells #[.int .i64 k, .int .i64 c, .int .u64 t, .int .i64 s, .int .u64 q, .int .i64 m, S, X] 29 (0, 0)) → (w'.cell? ⟨w.heap.size, 1, none⟩ = some (.int .i64 c) ∧ w'.cell? ⟨w.heap.size, 2, none⟩ = some (.int .u64 t) ∧ w'.cell? ⟨w.heap.size, 3, none⟩ = some (.int .i64 s) ∧ w'.cell? ⟨w.heap.size, 4, none⟩ = some (.int .u64 q)) := fun W h => by
    obtain ⟨d0, d1, d2, d3, d4, d5, d6, d7⟩ := cells8k h
    exact ⟨d1, d2, d3, d4⟩
  have H1 : Calls Tryd.prog 8 #[v, .string ⟨[102, 97, 117, 108, 116, 32].toArray⟩, .int .i64 c] (w.alloc (.cells #[.int .i64 k, .int .i64 c, .int .u64 t, .int .i64 s, .int .u64 q, .int .i64 m, S, X] 29)).drew _ := apN_any B [102, 97, 117, 108, 116, 32] c hc v l (w.alloc (.cells #[.int .i64 k, .int .i64 c, .int .u64 t, .int .i64 s, .int .u64 q, .int .i64 m, S, X] 29)).drew b0 (Nat.le_trans hB f0.size) (by simp; omega) (HT.out.on f0.bel.drew)
  have KP0 := KK (w.alloc (.cells #[.int .i64 k, .int .i64 c, .int .u64 t, .int .i64 s, .int .u64 q, .int .i64 m, S, X] 29)).drew k0
  clear htab hb k0 b0 f0 h
  go_enter Tryd.func7, Tryd.ntmps7
  go_wp2
  go_region_held3 (fun w' => (w'.cell? ⟨w.heap.size, 1, none⟩ = some (.int .i64 c) ∧ w'.cell? ⟨w.heap.size, 2, none⟩ = some (.int .u64 t) ∧ w'.cell? ⟨w.heap.size, 3, none⟩ = some (.int .i64 s) ∧ w'.cell? ⟨w.heap.size, 4, none⟩ = some (.int .u64 q))) (first | with_reducible exact KP0 | with_reducible exact KP1 | with_reducible exact KP2 | go_keep) (first | (go_at_call 8; (with_reducible refine H1.mono ?_); rintro e w1 ⟨v1, rfl, b1, f1⟩; have K1 := hid (f1.block (show (w.alloc (.cells #[.int .i64 k, .int .i64 c, .int .u64 t, .int .i64 s, .int .u64 q, .int .i64 m, S, X] 29)).drew.heap[w.heap.size]? = _ from K0.out) tyRs); have F1 := hid (F0.out.drew.trans f1); have KP1 := KK w1 K1.out; have H2 : Calls Tryd.prog 18 #[v1, .agg #[.int .u64 t, .int .i64 s, .int .u64 q]] w1 _ := apK_any B t q s ht hs hq v1 _ w1 b1 (Nat.le_trans hB F1.out.size) (by simp; omega) (HT.out.on F1.out.bel); clear b1 f1) | (go_at_call 18; (with_reducible refine H2.mono ?_); rintro e w2 ⟨v2, rfl, b2, f2⟩; have KP2 := KK w2 (f2.block K1.out tyRs); have F2 := hid (F1.out.trans f2); have B2 := hid b2; clear b2 f2))
  all_goals (
    clear KP0 KP1 KP2 e1 e2 e3 H1 H2 c0 c1 c2 c3 c4 c5 c6 c7
    go_wp2_with fail
    go_ret
    exact ⟨v2, rfl, by simpa using B2.out, F2.out⟩)
set_option maxRecDepth 100000 in
theorem out4_any (B t q : Nat) (k c s m : Int) (S X : Value) (hk : -9223372036854775808 ≤ k ∧ k < 9223372036854775808) (hc : -9223372036854775808 ≤ c ∧ c < 9223372036854775808) (ht : t < 18446744073709551616) (hs : -9223372036854775808 ≤ s ∧ s < 9223372036854775808) (hq : q < 18446744073709551616) (hm : -9223372036854775808 ≤ m ∧ m < 9223372036854775808) (v : Value) (l : List UInt8) (w : World) (hb : BR B w v l) (hB : B ≤ w.heap.size) (hlim : l.length + 130 ≤ 140737488355328) (htab : Tb B w) (h : k = 4) :
    Calls Tryd.prog 7 #[v, .agg #[.int .i64 k, .int .i64 c, .int .u64 t, .int .i64 s, .int .u64 q, .int .i64 m, S, X]] w fun e w' => ∃ v', e = .returned v' ∧ BR B w' v' (l ++ ([114, 101, 115, 111, 117, 114, 99, 101, 32] ++ Lib.itoa m)) ∧ Fr B w w' := by
  have HT : Hid (Tb B w) := htab
  have f0 : Fr B w (w.alloc (.cells #[.int .i64 k, .int .i64 c, .int .u64 t, .int .i64 s, .int .u64 q, .int .i64 m, S, X] 29)) := Fr.alloc hB _
  have b0 : BR B (w.alloc (.cells #[.int .i64 k, .int .i64 c, .int .u64 t, .int .i64 s, .int .u64 q, .int .i64 m, S, X] 29)) v l := hb.alloc _
  have k0 : (w.alloc (.cells #[.int .i64 k, .int .i64 c, .int .u64 t, .int .i64 s, .int .u64 q, .int .i64 m, S, X] 29)).heap[w.heap.size]? = some (.cells #[.int .i64 k, .int .i64 c, .int .u64 t, .int .i64 s, .int .u64 q, .int .i64 m, S, X] 29 (0, 0)) := heap_alloc_new _ _
  obtain ⟨c0, c1, c2, c3, c4, c5, c6, c7⟩ := cells8k k0
  have K0 := hid k0
  have B0 := hid b0
  have F0 := hid f0
  have e1 : (k == 1) = false := by rw [beq_eq_false_iff_ne]; omega
  have e2 : (k == 2) = false := by rw [beq_eq_false_iff_ne]; omega
  have e3 : (k == 3) = false := by rw [beq_eq_false_iff_ne]; omega
  have e4 : (k == 4) = true := by rw [beq_iff_eq]; omega
  have HX := apN_any B [114, 101, 115, 111, 117, 114, 99, 101, 32] m hm v l (w.alloc (.cells #[.int .i64 k, .int .i64 c, .int .u64 t, .int .i64 s, .int .u64 q, .int .i64 m, S, X] 29)) b0 (Nat.le_trans hB f0.size) (by simp; omega) (HT.out.on f0.bel)
  clear htab hb k0 b0 f0 h
  go_enter Tryd.func7, Tryd.ntmps7
  go_wp2_with (go_at_call 8; (with_reducible refine HX.mono ?_))
  rintro e w1 ⟨v1, rfl, b1, f1⟩
  clear e1 e2 e3 e4 c0 c1 c2 c3 c4 c5 c6 c7 HX
  go_wp2_with fail
  go_ret
  exact ⟨v1, rfl, b1, F0.out.trans f1⟩
set_option maxRecDepth 100000 in
theorem out5_any (B t q : Nat) (k c s m : Int) (S X : Value) (hk : -9223372036854775808 ≤ k ∧ k < 9223372036854775808) (hc : -9223372036854775808 ≤ c ∧ c < 9223372036854775808) (ht : t < 18446744073709551616) (hs : -9223372036854775808 ≤ s ∧ s < 9223372036854775808) (hq : q < 18446744073709551616) (hm : -9223372036854775808 ≤ m ∧ m < 9223372036854775808) (v : Value) (l : List UInt8) (w : World) (hb : BR B w v l) (hB : B ≤ w.heap.size) (hlim : l.length + 130 ≤ 140737488355328) (htab : Tb B w) (h : k = 5) :
    Calls Tryd.prog 7 #[v, .agg #[.int .i64 k, .int .i64 c, .int .u64 t, .int .i64 s, .int .u64 q, .int .i64 m, S, X]] w fun e w' => ∃ v', e = .returned v' ∧ BR B w' v' (l ++ ([117, 110, 102, 105, 110, 105, 115, 104, 101, 100])) ∧ Fr B w w' := by
  have HT : Hid (Tb B w) := htab
  have f0 : Fr B w (w.alloc (.cells #[.int .i64 k, .int .i64 c, .int .u64 t, .int .i64 s, .int .u64 q, .int .i64 m, S, X] 29)) := Fr.alloc hB _
  have b0 : BR B (w.alloc (.cells #[.int .i64 k, .int .i64 c, .int .u64 t, .int .i64 s, .int .u64 q, .int .i64 m, S, X] 29)) v l := hb.alloc _
  have k0 : (w.alloc (.cells #[.int .i64 k, .int .i64 c, .int .u64 t, .int .i64 s, .int .u64 q, .int .i64 m, S, X] 29)).heap[w.heap.size]? = some (.cells #[.int .i64 k, .int .i64 c, .int .u64 t, .int .i64 s, .int .u64 q, .int .i64 m, S, X] 29 (0, 0)) := heap_alloc_new _ _
  obtain ⟨c0, c1, c2, c3, c4, c5, c6, c7⟩ := cells8k k0
  have K0 := hid k0
  have B0 := hid b0
  have F0 := hid f0
  have e1 : (k == 1) = false := by rw [beq_eq_false_iff_ne]; omega
  have e2 : (k == 2) = false := by rw [beq_eq_false_iff_ne]; omega
  have e3 : (k == 3) = false := by rw [beq_eq_false_iff_ne]; omega
  have e4 : (k == 4) = false := by rw [beq_eq_false_iff_ne]; omega
  have e5 : (k == 5) = true := by rw [beq_iff_eq]; omega
  clear htab hb k0 b0 f0 h
  go_enter Tryd.func7, Tryd.ntmps7
  go_wp2_with (at_builtin; refine app_str rfl _ _ rfl B v l rfl B0.out [117, 110, 102, 105, 110, 105, 115, 104, 101, 100] rfl (by simp; omega) (Nat.le_trans hB F0.out.size) ?_)
  intro v1 w1 b1 f1
  clear e1 e2 e3 e4 e5
  go_wp2_with fail
  go_ret
  exact ⟨v1, rfl, b1, F0.out.trans f1⟩
set_option maxRecDepth 100000 in
theorem out6_any (B t q : Nat) (k c s m : Int) (S X : Value) (hk : -9223372036854775808 ≤ k ∧ k < 9223372036854775808) (hc : -9223372036854775808 ≤ c ∧ c < 9223372036854775808) (ht : t < 18446744073709551616) (hs : -9223372036854775808 ≤ s ∧ s < 9223372036854775808) (hq : q < 18446744073709551616) (hm : -9223372036854775808 ≤ m ∧ m < 9223372036854775808) (v : Value) (l : List UInt8) (w : World) (hb : BR B w v l) (hB : B ≤ w.heap.size) (hlim : l.length + 130 ≤ 140737488355328) (htab : Tb B w) (h : k = 6) :
    Calls Tryd.prog 7 #[v, .agg #[.int .i64 k, .int .i64 c, .int .u64 t, .int .i64 s, .int .u64 q, .int .i64 m, S, X]] w fun e w' => ∃ v', e = .returned v' ∧ BR B w' v' (l ++ ([114, 101, 106, 101, 99, 116, 101, 100, 32] ++ Lib.itoa c)) ∧ Fr B w w' := by
  have HT : Hid (Tb B w) := htab
  have f0 : Fr B w (w.alloc (.cells #[.int .i64 k, .int .i64 c, .int .u64 t, .int .i64 s, .int .u64 q, .int .i64 m, S, X] 29)) := Fr.alloc hB _
  have b0 : BR B (w.alloc (.cells #[.int .i64 k, .int .i64 c, .int .u64 t, .int .i64 s, .int .u64 q, .int .i64 m, S, X] 29)) v l := hb.alloc _
  have k0 : (w.alloc (.cells #[.int .i64 k, .int .i64 c, .int .u64 t, .int .i64 s, .int .u64 q, .int .i64 m, S, X] 29)).heap[w.heap.size]? = some (.cells #[.int .i64 k, .int .i64 c, .int .u64 t, .int .i64 s, .int .u64 q, .int .i64 m, S, X] 29 (0, 0)) := heap_alloc_new _ _
  obtain ⟨c0, c1, c2, c3, c4, c5, c6, c7⟩ := cells8k k0
  have K0 := hid k0
  have B0 := hid b0
  have F0 := hid f0
  have e1 : (k == 1) = false := by rw [beq_eq_false_iff_ne]; omega
  have e2 : (k == 2) = false := by rw [beq_eq_false_iff_ne]; omega
  have e3 : (k == 3) = false := by rw [beq_eq_false_iff_ne]; omega
  have e4 : (k == 4) = false := by rw [beq_eq_false_iff_ne]; omega
  have e5 : (k == 5) = false := by rw [beq_eq_false_iff_ne]; omega
  have e6 : (k == 6) = true := by rw [beq_iff_eq]; omega
  have HX := apN_any B [114, 101, 106, 101, 99, 116, 101, 100, 32] c hc v l (w.alloc (.cells #[.int .i64 k, .int .i64 c, .int .u64 t, .int .i64 s, .int .u64 q, .int .i64 m, S, X] 29)) b0 (Nat.le_trans hB f0.size) (by simp; omega) (HT.out.on f0.bel)
  clear htab hb k0 b0 f0 h
  go_enter Tryd.func7, Tryd.ntmps7
  go_wp2_with (go_at_call 8; (with_reducible refine HX.mono ?_))
  rintro e w1 ⟨v1, rfl, b1, f1⟩
  clear e1 e2 e3 e4 e5 e6 c0 c1 c2 c3 c4 c5 c6 c7 HX
  go_wp2_with fail
  go_ret
  exact ⟨v1, rfl, b1, F0.out.trans f1⟩
set_option maxRecDepth 100000 in
theorem out0_any (B t q : Nat) (k c s m : Int) (S X : Value) (hk : -9223372036854775808 ≤ k ∧ k < 9223372036854775808) (hc : -9223372036854775808 ≤ c ∧ c < 9223372036854775808) (ht : t < 18446744073709551616) (hs : -9223372036854775808 ≤ s ∧ s < 9223372036854775808) (hq : q < 18446744073709551616) (hm : -9223372036854775808 ≤ m ∧ m < 9223372036854775808) (v : Value) (l : List UInt8) (w : World) (hb : BR B w v l) (hB : B ≤ w.heap.size) (hlim : l.length + 130 ≤ 140737488355328) (htab : Tb B w) (h : k ≠ 1 ∧ k ≠ 2 ∧ k ≠ 3 ∧ k ≠ 4 ∧ k ≠ 5 ∧ k ≠ 6) :
    Calls Tryd.prog 7 #[v, .agg #[.int .i64 k, .int .i64 c, .int .u64 t, .int .i64 s, .int .u64 q, .int .i64 m, S, X]] w fun e w' => ∃ v', e = .returned v' ∧ BR B w' v' (l ++ ([114, 101, 115, 117, 108, 116, 32] ++ Lib.itoa k)) ∧ Fr B w w' := by
  have HT : Hid (Tb B w) := htab
  have f0 : Fr B w (w.alloc (.cells #[.int .i64 k, .int .i64 c, .int .u64 t, .int .i64 s, .int .u64 q, .int .i64 m, S, X] 29)) := Fr.alloc hB _
  have b0 : BR B (w.alloc (.cells #[.int .i64 k, .int .i64 c, .int .u64 t, .int .i64 s, .int .u64 q, .int .i64 m, S, X] 29)) v l := hb.alloc _
  have k0 : (w.alloc (.cells #[.int .i64 k, .int .i64 c, .int .u64 t, .int .i64 s, .int .u64 q, .int .i64 m, S, X] 29)).heap[w.heap.size]? = some (.cells #[.int .i64 k, .int .i64 c, .int .u64 t, .int .i64 s, .int .u64 q, .int .i64 m, S, X] 29 (0, 0)) := heap_alloc_new _ _
  obtain ⟨c0, c1, c2, c3, c4, c5, c6, c7⟩ := cells8k k0
  have K0 := hid k0
  have B0 := hid b0
  have F0 := hid f0
  have e1 : (k == 1) = false := by rw [beq_eq_false_iff_ne]; omega
  have e2 : (k == 2) = false := by rw [beq_eq_false_iff_ne]; omega
  have e3 : (k == 3) = false := by rw [beq_eq_false_iff_ne]; omega
  have e4 : (k == 4) = false := by rw [beq_eq_false_iff_ne]; omega
  have e5 : (k == 5) = false := by rw [beq_eq_false_iff_ne]; omega
  have e6 : (k == 6) = false := by rw [beq_eq_false_iff_ne]; omega
  have HX := apN_any B [114, 101, 115, 117, 108, 116, 32] k hk v l (w.alloc (.cells #[.int .i64 k, .int .i64 c, .int .u64 t, .int .i64 s, .int .u64 q, .int .i64 m, S, X] 29)) b0 (Nat.le_trans hB f0.size) (by simp; omega) (HT.out.on f0.bel)
  clear htab hb k0 b0 f0 h
  go_enter Tryd.func7, Tryd.ntmps7
  go_wp2_with (go_at_call 8; (with_reducible refine HX.mono ?_))
  rintro e w1 ⟨v1, rfl, b1, f1⟩
  clear e1 e2 e3 e4 e5 e6 c0 c1 c2 c3 c4 c5 c6 c7 HX
  go_wp2_with fail
  go_ret
  exact ⟨v1, rfl, b1, F0.out.trans f1⟩
theorem apO_any (B t q : Nat) (k c s m : Int) (S X : Value) (hk : -9223372036854775808 ≤ k ∧ k < 9223372036854775808) (hc : -9223372036854775808 ≤ c ∧ c < 9223372036854775808) (ht : t < 18446744073709551616) (hs : -9223372036854775808 ≤ s ∧ s < 9223372036854775808) (hq : q < 18446744073709551616) (hm : -9223372036854775808 ≤ m ∧ m < 9223372036854775808) (v : Value) (l : List UInt8) (w : World) (hb : BR B w v l) (hB : B ≤ w.heap.size) (hlim : l.length + 130 ≤ 140737488355328) (htab : Tb B w) :
    Calls Tryd.prog 7 #[v, .agg #[.int .i64 k, .int .i64 c, .int .u64 t, .int .i64 s, .int .u64 q, .int .i64 m, S, X]] w fun e w' => ∃ v', e = .returned v' ∧ BR B w' v' (l ++ outB k c t s q m) ∧ Fr B w w' := by
  unfold outB
  split
  · rename_i h1; exact out1_any B t q k c s m S X hk hc ht hs hq hm v l w hb hB hlim htab h1
  · split
    · rename_i h2; exact out2_any B t q k c s m S X hk hc ht hs hq hm v l w hb hB hlim htab h2
    · split
      · rename_i h3; exact out3_any B t q k c s m S X hk hc ht hs hq hm v l w hb hB hlim htab h3
      · split
        · rename_i h4; exact out4_any B t q k c s m S X hk hc ht hs hq hm v l w hb hB hlim htab h4
        · split
          · rename_i h5; exact out5_any B t q k c s m S X hk hc ht hs hq hm v l w hb hB hlim htab h5
          · split
            · rename_i h6; exact out6_any B t q k c s m S X hk hc ht hs hq hm v l w hb hB hlim htab h6
            · rename_i h1 h2 h3 h4 h5 h6; exact out0_any B t q k c s m S X hk hc ht hs hq hm v l w hb hB hlim htab ⟨h1, h2, h3, h4, h5, h6⟩
end Go.Proofs.YtijkokckdbhkcaaDoor
