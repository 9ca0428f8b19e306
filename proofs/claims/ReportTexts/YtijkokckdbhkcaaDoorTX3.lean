import Derived.Test.YtijkokckdbhkcaaDoorTX2
namespace Go.Proofs.YtijkokckdbhkcaaDoor
open Go.ChangeShapes Go.WideShapes Go.ChangeAt Go.RowKit Go.Sort
set_option linter.unusedVariables false
set_option linter.unusedSimpArgs false

def keyB (t : Nat) (s : Int) (q : Nat) : List UInt8 := Lib.decDigits t ++ ([46] ++ (Lib.itoa s ++ ([46] ++ Lib.decDigits q)))
theorem tyK : (25 : TypeId) ≠ 5 := by decide
theorem tyE : (41 : TypeId) ≠ 5 := by decide
theorem tyS : (38 : TypeId) ≠ 5 := by decide
theorem tyRs : (29 : TypeId) ≠ 5 := by decide
set_option maxRecDepth 100000 in
theorem apK_any (B t q : Nat) (s : Int) (ht : t < 18446744073709551616) (hs : -9223372036854775808 ≤ s ∧ s < 9223372036854775808) (hq : q < 18446744073709551616) (v : Value) (l : List UInt8) (w : World) (hb : BR B w v l) (hB : B ≤ w.heap.size) (hlim : l.length + 70 ≤ 140737488355328) (htab : Tb B w) :
    Calls Tryd.prog 18 #[v, .agg #[.int .u64 t, .int .i64 s, .int .u64 q]] w fun e w' => ∃ v', e = .returned v' ∧ BR B w' v' (l ++ ([32, 97, 116, 32] ++ keyB t s q)) ∧ Fr B w w' := by
  have lt := dec_len t ht
  have lq := dec_len q hq
  have ls := itoa_len s hs.1 (by omega)
  have HT : Hid (Tb B w) := htab
  have f0 : Fr B w (w.alloc (.cells #[.int .u64 t, .int .i64 s, .int .u64 q] 25)) := Fr.alloc hB _
  have b0 : BR B (w.alloc (.cells #[.int .u64 t, .int .i64 s, .int .u64 q] 25)) v l := hb.alloc _
  have k0 : (w.alloc (.cells #[.int .u64 t, .int .i64 s, .int .u64 q] 25)).heap[w.heap.size]? = some (.cells #[.int .u64 t, .int .i64 s, .int .u64 q] 25 (0, 0)) := heap_alloc_new _ _
  have K0 := hid k0
  have B0 := hid b0
  have F0 := hid f0
  clear htab hb k0 b0 f0
  go_enter Tryd.func18, Tryd.ntmps18
  go_wp2_with (at_builtin; refine app_str rfl _ _ rfl B v l rfl B0.out [32, 97, 116, 32] rfl (by simp; omega) (Nat.le_trans hB F0.out.size) ?_)
  intro v1 w1 b1 f1
  have F1 := hid (F0.out.trans f1)
  have K1 := hid (f1.block K0.out tyK)
  obtain ⟨c0, c1, c2⟩ := cells3p K1.out
  have HX := apU_any B t ht v1 _ w1 b1 (Nat.le_trans hB F1.out.size) (by simp; omega) (HT.out.on F1.out.bel)
  clear b1 f1 K0 B0 F0
  go_wp2_with (go_at_call 20; (with_reducible refine HX.mono ?_))
  rintro e w2 ⟨v2, rfl, b2, f2⟩
  have F2 := hid (F1.out.trans f2)
  have K2 := hid (f2.block K1.out tyK)
  clear c0 c1 c2 HX
  obtain ⟨c0, c1, c2⟩ := cells3p K2.out
  have HX := apN_any B [46] s hs v2 _ w2 b2 (Nat.le_trans hB F2.out.size) (by simp; omega) (HT.out.on F2.out.bel)
  clear b2 f2 K1 F1
  go_wp2_with (go_at_call 8; (with_reducible refine HX.mono ?_))
  rintro e w3 ⟨v3, rfl, b3, f3⟩
  have F3 := hid (F2.out.trans f3)
  have K3 := hid (f3.block K2.out tyK)
  clear c0 c1 c2 HX f3 K2 F2
  go_wp2_with (at_builtin; refine app_one rfl _ _ rfl B v3 _ rfl b3 46 46 rfl rfl (by simp; omega) (Nat.le_trans hB F3.out.size) ?_)
  intro v4 w4 b4 f4
  have F4 := hid (F3.out.trans f4)
  have K4 := hid (f4.block K3.out tyK)
  obtain ⟨c0, c1, c2⟩ := cells3p K4.out
  have HX := apU_any B q hq v4 _ w4 b4 (Nat.le_trans hB F4.out.size) (by simp; omega) (HT.out.on F4.out.bel)
  clear b3 b4 f4 K3 F3
  go_wp2_with (go_at_call 20; (with_reducible refine HX.mono ?_))
  rintro e w5 ⟨v5, rfl, b5, f5⟩
  go_wp2_with fail
  go_ret
  refine ⟨v5, rfl, ?_, F4.out.trans f5⟩
  simpa [keyB] using b5
end Go.Proofs.YtijkokckdbhkcaaDoor
