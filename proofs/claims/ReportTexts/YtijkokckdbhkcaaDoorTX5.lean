import Derived.Test.YtijkokckdbhkcaaDoorTX3
namespace Go.Proofs.YtijkokckdbhkcaaDoor
open Go.ChangeShapes Go.WideShapes Go.ChangeAt Go.RowKit Go.Sort
set_option linter.unusedVariables false
set_option linter.unusedSimpArgs false

abbrev I64 (n : Int) : Prop := -9223372036854775808 ≤ n ∧ n < 9223372036854775808
def wdB (K : Nat → Int) : Nat → List UInt8
  | 0 => []
  | n + 1 => wdB K n ++ (Lib.itoa (K n) ++ [32])
theorem wdB_len {K : Nat → Int} : ∀ {n : Nat}, (∀ j, j < n → I64 (K j)) → (wdB K n).length ≤ 22 * n
  | 0, _ => by simp [wdB]
  | n + 1, h => by
    have h1 := wdB_len (n := n) fun j hj => h j (by omega)
    have h2 := h n (by omega)
    have h3 := itoa_len (K n) h2.1 (by have := h2.2; omega)
    simp [wdB]
    omega
def stB (i : Int) (n : Nat) (K : Nat → Int) (d s : Nat) : List UInt8 := ([112, 97, 114, 116, 32] ++ Lib.itoa i) ++ ([58, 32] ++ (wdB K n ++ ([100, 105, 99, 101, 32] ++ (Lib.decDigits d ++ ([32, 115, 101, 110, 116, 32] ++ (Lib.decDigits s ++ [10]))))))
theorem stB_len (i : Int) (n : Nat) (K : Nat → Int) (d s : Nat) (hi : I64 i) (hK : ∀ j, j < n → I64 (K j)) (hd : d < 18446744073709551616) (hs : s < 18446744073709551616) : (stB i n K d s).length ≤ 22 * n + 80 := by
  have h1 := wdB_len hK
  have h2 := itoa_len i hi.1 (by have := hi.2; omega)
  have h3 := dec_len d hd
  have h4 := dec_len s hs
  simp [stB]
  omega
set_option maxRecDepth 100000 in
set_option maxHeartbeats 4000000 in
theorem apS_any (w0 : World) (p : Option Addr) (n c : Nat) (K : Nat → Int) (i : Int) (d s : Nat) (hn : n ≤ 17592186044416) (hK : ∀ j, j < n → I64 (K j)) (hi : I64 i) (hd : d < 18446744073709551616) (hs : s < 18446744073709551616) (v : Value) (l : List UInt8) (w : World) (hb0 : Below w0.heap.size w0 w) (h : KAt w0 p n K) (hb : BR w0.heap.size w v l) (hlim : l.length + 22 * n + 100 ≤ 140737488355328) (htab : Tb w0.heap.size w) :
    Calls Tryd.prog 9 #[v, .int .i64 i, .agg #[.slice p n c, .int .u64 d, .int .u64 s]] w fun e w' => ∃ v', e = .returned v' ∧ BR w0.heap.size w' v' (l ++ stB i n K d s) ∧ Fr w0.heap.size w w' := by
  have hB : w0.heap.size ≤ w.heap.size := hb0.size
  have ld := dec_len d hd
  have ls := dec_len s hs
  have li := itoa_len i hi.1 (by have := hi.2; omega)
  have lw := wdB_len hK
  have HKr : Hid (∀ j, j < n → I64 (K j)) := hK
  have HKA := hid h
  have HB0 := hid hb0
  have HT : Hid (Tb w0.heap.size w) := htab
  have f0 : Fr w0.heap.size w (w.alloc (.cells #[.slice p n c, .int .u64 d, .int .u64 s] 38)) := Fr.alloc hB _
  have b0 : BR w0.heap.size (w.alloc (.cells #[.slice p n c, .int .u64 d, .int .u64 s] 38)) v l := hb.alloc _
  have k0 : (w.alloc (.cells #[.slice p n c, .int .u64 d, .int .u64 s] 38)).heap[w.heap.size]? = some (.cells #[.slice p n c, .int .u64 d, .int .u64 s] 38 (0, 0)) := heap_alloc_new _ _
  have HX := apN_any w0.heap.size [112, 97, 114, 116, 32] i hi v l _ b0 (Nat.le_trans hB f0.size) (by simp; omega) (HT.out.on f0.bel)
  have K0 := hid k0
  have F0 := hid f0
  clear htab hb k0 b0 f0 h hb0 hK
  go_enter Tryd.func9, Tryd.ntmps9
  go_wp2_with (go_at_call 8; (with_reducible refine HX.mono ?_))
  rintro e w1 ⟨v1, rfl, b1, f1⟩
  have F1 := hid (F0.out.trans f1)
  have K1 := hid (f1.block K0.out tyS)
  clear HX f1 F0 K0
  go_wp2_with (at_builtin; refine app_str rfl _ _ rfl w0.heap.size v1 _ rfl b1 [58, 32] rfl (by simp; omega) (Nat.le_trans hB F1.out.size) ?_)
  intro v2 w2 b2 f2
  have F2 := hid (F1.out.trans f2)
  have K2 := hid (f2.block K1.out tyS)
  obtain ⟨c0, c1, c2⟩ := cells3p K2.out
  have B2 := hid b2
  clear f2 F1 K1 b1 b2 c1 c2
  go_wp2_with fail
  clear c0
  go_loopw [0, 17] (fun r x wr => ∃ j : Nat, x = .int .i64 (j : Int) ∧ j ≤ n ∧ BR w0.heap.size wr r (l ++ ([112, 97, 114, 116, 32] ++ Lib.itoa i) ++ [58, 32] ++ wdB K j) ∧ Fr w0.heap.size w2 wr) (fun _ x _ => n - (intOf x).toNat)
  case atStart => exact ⟨0, rfl, Nat.zero_le _, by simpa [wdB] using B2.out, Fr.refl _ _⟩
  case round =>
    obtain ⟨j, rfl, hj, b3, f3⟩ := hrel
    have lj := wdB_len (K := K) (n := j) fun a ha => HKr.out a (by omega)
    by_cases hlt : j < n
    case pos =>
      have dlt : decide ((j : Int) < (n : Int)) = true := by simp; omega
      have i0 : (0 : Int) ≤ (j : Int) := by omega
      have i1 : (j : Int) < (n : Int) := by omega
      have ei : IntKind.i64.wrap ((j : Int) + 1) = (j : Int) + 1 := by rw [IntKind.wrap_i64]; omega
      have hme := meas hlt
      obtain h0 | ⟨g, o, rfl, hg, hc⟩ := HKA.out
      · omega
      have F3 := hid (F2.out.trans f3)
      have x0 := ((HB0.out.trans F3.out.bel).cell (p := ⟨g, o + j, none⟩) hg).trans (hc j hlt)
      have hkj := HKr.out j hlt
      have HX := apI_any w0.heap.size (K j) hkj _ _ wr b3 (Nat.le_trans hB F3.out.size) (by simp; omega) (HT.out.on F3.out.bel)
      have lk := itoa_len (K j) hkj.1 (by have := hkj.2; omega)
      clear hc b3
      go_wp2_with (go_at_call 19; (with_reducible refine HX.mono ?_))
      rintro e w4 ⟨v4, rfl, b4, f4⟩
      have F4 := hid (F3.out.trans f4)
      clear HX x0
      go_wp2_with (at_builtin; refine app_one rfl _ _ rfl w0.heap.size v4 _ rfl b4 32 32 rfl rfl (by simp; omega) (Nat.le_trans hB F4.out.size) ?_)
      intro v5 w5 b5 f5
      have G5 := hid (f3.trans (f4.trans f5))
      have B5 := hid b5
      clear b4 f4 b5 f5 f3
      go_wp2_with fail
      exact ⟨⟨j + 1, rfl, hlt, by simpa [wdB] using B5.out, G5.out⟩, hme⟩
    case neg =>
      have dlt : decide ((j : Int) < (n : Int)) = false := by simp; omega
      obtain rfl : j = n := by omega
      have F3 := hid (F2.out.trans f3)
      have K3 := hid (f3.block K2.out tyS)
      clear f3
      go_wp2_with (at_builtin; refine app_str rfl _ _ rfl w0.heap.size _ _ rfl b3 [100, 105, 99, 101, 32] rfl (by simp; omega) (Nat.le_trans hB F3.out.size) ?_)
      intro v4 w4 b4 f4
      have F4 := hid (F3.out.trans f4)
      have K4 := hid (f4.block K3.out tyS)
      obtain ⟨c0, c1, c2⟩ := cells3p K4.out
      have HX := apU_any w0.heap.size d hd v4 _ w4 b4 (Nat.le_trans hB F4.out.size) (by simp; omega) (HT.out.on F4.out.bel)
      clear b3 b4 f4
      go_wp2_with (go_at_call 20; (with_reducible refine HX.mono ?_))
      rintro e w5 ⟨v5, rfl, b5, f5⟩
      have F5 := hid (F4.out.trans f5)
      have K5 := hid (f5.block K4.out tyS)
      clear HX f5 c0 c1 c2
      go_wp2_with (at_builtin; refine app_str rfl _ _ rfl w0.heap.size _ _ rfl b5 [32, 115, 101, 110, 116, 32] rfl (by simp; omega) (Nat.le_trans hB F5.out.size) ?_)
      intro v6 w6 b6 f6
      have F6 := hid (F5.out.trans f6)
      have K6 := hid (f6.block K5.out tyS)
      obtain ⟨c0, c1, c2⟩ := cells3p K6.out
      have HX := apU_any w0.heap.size s hs v6 _ w6 b6 (Nat.le_trans hB F6.out.size) (by simp; omega) (HT.out.on F6.out.bel)
      clear b5 b6 f6
      go_wp2_with (go_at_call 20; (with_reducible refine HX.mono ?_))
      rintro e w7 ⟨v7, rfl, b7, f7⟩
      have F7 := hid (F6.out.trans f7)
      clear HX f7 c0 c1 c2
      go_wp2_with (at_builtin; refine app_one rfl _ _ rfl w0.heap.size v7 _ rfl b7 10 10 rfl rfl (by simp; omega) (Nat.le_trans hB F7.out.size) ?_)
      intro v8 w8 b8 f8
      have B8 := hid b8
      have F8 := hid (F7.out.trans f8)
      clear b7 b8 f8
      go_wp2_with fail
      go_ret
      exact ⟨v8, rfl, by simpa [stB] using B8.out, F8.out⟩
theorem txt_len (t q : Nat) (s d k v : Int) (ht : t < 18446744073709551616) (hq : q < 18446744073709551616) (hs : I64 s) (hd : I64 d) (hk : I64 k) (hv : I64 v) : (txt t q s d k v).length ≤ 130 := by
  have h1 := dec_len t ht
  have h2 := dec_len q hq
  have h3 := itoa_len s hs.1 (by have := hs.2; omega)
  have h4 := itoa_len d hd.1 (by have := hd.2; omega)
  have h5 := itoa_len k hk.1 (by have := hk.2; omega)
  have h6 := itoa_len v hv.1 (by have := hv.2; omega)
  simp [txt]
  omega
theorem box6k {W : World} {b : Nat} {c0 c1 c2 c3 c4 c5 : Value} {t : TypeId} (h : W.heap[b]? = some (.cells #[c0, c1, c2, c3, c4, c5] t (0, 0))) : W.cell? ⟨b, 0, none⟩ = some c0 ∧ W.cell? ⟨b, 1, none⟩ = some c1 ∧ W.cell? ⟨b, 2, none⟩ = some c2 ∧ W.cell? ⟨b, 3, none⟩ = some c3 ∧ W.cell? ⟨b, 4, none⟩ = some c4 ∧ W.cell? ⟨b, 5, none⟩ = some c5 := by
  refine ⟨?_, ?_, ?_, ?_, ?_, ?_⟩
  all_goals (unfold World.cell?; rw [h]; rfl)
set_option maxRecDepth 100000 in
theorem apE_any (B t q : Nat) (s d k vv : Int) (ht : t < 18446744073709551616) (hq : q < 18446744073709551616) (hs : I64 s) (hd : I64 d) (hk : I64 k) (hv : I64 vv) (v : Value) (l : List UInt8) (w : World) (hb : BR B w v l) (hB : B ≤ w.heap.size) (hlim : l.length + 140 ≤ 140737488355328) (htab : Tb B w) :
    Calls Tryd.prog 10 #[v, .agg #[.int .u64 t, .int .i64 s, .int .u64 q, .int .i64 d, .int .i64 k, .int .i64 vv]] w fun e w' => ∃ v', e = .returned v' ∧ BR B w' v' (l ++ (txt t q s d k vv ++ [10])) ∧ Fr B w w' := by
  have lt := txt_len t q s d k vv ht hq hs hd hk hv
  have f0 : Fr B w (w.alloc (.cells #[.int .u64 t, .int .i64 s, .int .u64 q, .int .i64 d, .int .i64 k, .int .i64 vv] 41)) := Fr.alloc hB _
  have b0 : BR B (w.alloc (.cells #[.int .u64 t, .int .i64 s, .int .u64 q, .int .i64 d, .int .i64 k, .int .i64 vv] 41)) v l := hb.alloc _
  have k0 : (w.alloc (.cells #[.int .u64 t, .int .i64 s, .int .u64 q, .int .i64 d, .int .i64 k, .int .i64 vv] 41)).heap[w.heap.size]? = some (.cells #[.int .u64 t, .int .i64 s, .int .u64 q, .int .i64 d, .int .i64 k, .int .i64 vv] 41 (0, 0)) := heap_alloc_new _ _
  obtain ⟨c0, c1, c2, c3, c4, c5⟩ := box6k k0
  have HX := text_any t q s d k vv ht hq ⟨hs.1, by have := hs.2; omega⟩ ⟨hd.1, by have := hd.2; omega⟩ ⟨hk.1, by have := hk.2; omega⟩ ⟨hv.1, by have := hv.2; omega⟩ (w.alloc (.cells #[.int .u64 t, .int .i64 s, .int .u64 q, .int .i64 d, .int .i64 k, .int .i64 vv] 41)) (htab.on f0.bel).here
  generalize txt t q s d k vv = T at lt HX ⊢
  have B0 := hid b0
  have F0 := hid f0
  clear htab hb k0 b0 f0
  go_enter Tryd.func10, Tryd.ntmps10
  go_wp2_with (go_at_call 21; (with_reducible refine HX.mono ?_))
  rintro e w1 ⟨rfl, hb1⟩
  have b1 := B0.out.below hb1
  have F1 := hid (F0.out.trans (Fr.below (Nat.le_trans hB F0.out.size) hb1))
  clear HX hb1 c0 c1 c2 c3 c4 c5
  go_wp2_with (at_builtin; refine app_str rfl _ _ rfl B v l rfl b1 T rfl (by omega) (Nat.le_trans hB F1.out.size) ?_)
  intro v2 w2 b2 f2
  have F2 := hid (F1.out.trans f2)
  clear f2 b1
  go_wp2_with (at_builtin; refine app_one rfl _ _ rfl B v2 _ rfl b2 10 10 rfl rfl (by simp; omega) (Nat.le_trans hB F2.out.size) ?_)
  intro v3 w3 b3 f3
  have B3 := hid b3
  have F3 := hid (F2.out.trans f3)
  clear b2 b3 f3
  go_wp2_with fail
  go_ret
  exact ⟨v3, rfl, by simpa using B3.out, F3.out⟩
end Go.Proofs.YtijkokckdbhkcaaDoor
