import Derived.Test.YtidffddmlaedcaaDoorLMadeP
import Derived.Test.YtidffddmlaedcaaDoorLRef
import Derived.Laws.Tables
import Derived.BigRegion
import Derived.Laws.IdiomStrings
import Derived.WalkLawsBesides
import Derived.Deep.AppendLies
namespace Go.Proofs.YtidffddmlaedcaaDoor
open Go.ChangeShapes Go.WideShapes Go.ChangeAt Go.RowKit
set_option linter.unusedVariables false

theorem cat2 (a b : Bs) : (⟨a.toArray⟩ ++ ⟨b.toArray⟩ : ByteArray) = ⟨(a ++ b).toArray⟩ := by
  apply ByteArray.ext
  simp
theorem digs_step (n : Nat) (h : 0 < n) : digs n = digs (n / 10) ++ [UInt8.ofNat (48 + n % 10)] := by
  rw [digs, if_neg (by omega)]
theorem digs_len : ∀ (k n : Nat), n < 10 ^ k → (digs n).length ≤ k
  | 0, n, h => by
    have : n = 0 := by simpa using h
    subst this
    rw [digs]
    simp
  | k + 1, n, h => by
    by_cases h0 : 0 < n
    · rw [digs_step n h0, List.length_append]
      have := digs_len k (n / 10) (by rw [Nat.pow_succ] at h; omega)
      simp
      omega
    · obtain rfl : n = 0 := by omega
      rw [digs]
      simp
theorem digs_len20 (n : Nat) (h : n < 18446744073709551616) : (digs n).length ≤ 20 := digs_len 20 n (by omega)
theorem digs_zero : digs 0 = [] := by rw [digs]; rfl

set_option maxRecDepth 100000 in
set_option maxHeartbeats 1000000 in
theorem decimal_any (n z : Nat) (hn : n < 18446744073709551616) (hz : z ≤ 3) (w : World) :
    Calls Tryd.prog 25 #[.int .u64 n, .int .i64 z] w fun e w' => e = .returned (.string ⟨(dec n z).toArray⟩) ∧ Below w.heap.size w w' := by
  have hl20 := digs_len20 n hn
  go_enter Tryd.func25, Tryd.ntmps25
  go_wp2
  go_loopw [0, 5] (fun v0 v5 wr => ∃ (m : Nat) (s : Bs), v0 = .int .u64 m ∧ v5 = .string ⟨s.toArray⟩ ∧ m < 18446744073709551616 ∧ digs n = digs m ++ s ∧ Below w.heap.size w wr) (fun v _ _ => (intOf v).toNat)
  case atStart => exact ⟨n, [], rfl, rfl, hn, (by simp), Below.refl _ _⟩
  case round =>
    obtain ⟨m, s, rfl, rfl, hm, hd, hbel⟩ := hrel
    have hsl : s.length ≤ 20 := by
      have := congrArg List.length hd
      simp at this
      omega
    have HD : Hid (digs n = digs m ++ s) := hd
    clear hd
    have hsz := hbel.size
    by_cases h0 : 0 < m
    · have d0 : decide ((m : Int) > 0) = true := decide_eq_true (by omega)
      have d0' : decide ((0 : Int) < m) = true := decide_eq_true (by omega)
      have d0n : decide (0 < m) = true := decide_eq_true h0
      obtain ⟨c, hc⟩ : ∃ c, c = UInt8.ofNat (48 + m % 10) := ⟨_, rfl⟩
      have e1 : ((c.toNat : Nat) : Int) = 48 + (m : Int) % 10 := by
        rw [hc, UInt8.toNat_ofNat']
        omega
      have HC : Hid (c = UInt8.ofNat (48 + m % 10)) := hc
      clear hc
      have hconv : (convert 85 9 (.slice (some ⟨wr.heap.size, 0, none⟩) 1 1)).run Tryd.prog (wr.alloc (.cells #[.int .u8 (48 + (m : Int) % 10)] 5)) = .ok (.string ⟨#[c]⟩) (wr.alloc (.cells #[.int .u8 (48 + (m : Int) % 10)] 5)) :=
        run_convert_bytes_back (P := Tryd.prog) (wr.alloc (.cells #[.int .u8 (48 + (m : Int) % 10)] 5)) 85 9 5 ⟨wr.heap.size, 0, none⟩ 1 [c] Tryd.underlying85 Tryd.underlying5 Tryd.underlying9 (by
        intro j hj
        have hj0 : j = 0 := by simpa using hj
        subst hj0
        simp [Addr.add, e1])
      have hsum : (⟨#[c]⟩ : ByteArray).size + (⟨s.toArray⟩ : ByteArray).size ≤ 9223372036854775807 := by simp [ByteArray.size]; omega
      have hadd : ∀ W, (Op.stringOp .add ⟨#[c]⟩ ⟨s.toArray⟩).run Tryd.prog W = .ok (.string (⟨#[c]⟩ ++ ⟨s.toArray⟩)) W := fun W => run_string_add_sum (P := Tryd.prog) (w := W) ⟨#[c]⟩ ⟨s.toArray⟩ hsum
      have hcat : (⟨#[c]⟩ ++ ⟨s.toArray⟩ : ByteArray) = ⟨(c :: s).toArray⟩ := cat2 [c] s
      have hst : Hid (digs n = digs (m / 10) ++ (c :: s)) := by
        show _ = _
        rw [HD.out, digs_step m h0, HC.out]
        simp
      have hmm : (intOf (.int .u64 ((m : Int) / 10))).toNat < (intOf (.int .u64 (m : Int))).toNat := by simp only [intOf]; omega
      have hm10 : m / 10 < 18446744073709551616 := by omega
      clear e1 hsum HD
      go_wp2
      exact ⟨⟨m / 10, c :: s, by simp, rfl, hm10, hst.out, hbel.alloc hsz _⟩, hmm⟩
    · obtain rfl : m = 0 := by omega
      have hds : Hid (digs n = s) := by show _ = _; rw [HD.out, digs_zero]; rfl
      clear HD
      go_wp2
      go_loopw [5, 6] (fun v5 v6 wr' => ∃ (i : Nat), v5 = .string ⟨(List.replicate i 48 ++ s).toArray⟩ ∧ v6 = .int .i64 i ∧ i ≤ z + 1 ∧ Below w.heap.size w wr') (fun _ v _ => z + 1 - (intOf v).toNat)
      case atStart => exact ⟨0, rfl, rfl, Nat.zero_le _, hbel⟩
      case round =>
        obtain ⟨i, rfl, rfl, hi, hb2⟩ := hrel
        by_cases hlt : i < z + 1
        · have dl : decide ((i : Int) ≤ z) = true := decide_eq_true (by omega)
          have dln : decide (i ≤ z) = true := decide_eq_true (by omega)
          have hsum : (⟨#[48]⟩ : ByteArray).size + (⟨(List.replicate i 48 ++ s).toArray⟩ : ByteArray).size ≤ 9223372036854775807 := by simp [ByteArray.size]; omega
          have hadd : ∀ W, (Op.stringOp .add ⟨#[48]⟩ ⟨(List.replicate i 48 ++ s).toArray⟩).run Tryd.prog W = .ok (.string (⟨#[48]⟩ ++ ⟨(List.replicate i 48 ++ s).toArray⟩)) W := fun W => run_string_add_sum (P := Tryd.prog) (w := W) _ _ hsum
          have hcat : (⟨#[48]⟩ ++ ⟨(List.replicate i 48 ++ s).toArray⟩ : ByteArray) = ⟨(List.replicate (i + 1) 48 ++ s).toArray⟩ := cat2 [48] _
          have hm' := meas hlt
          clear hsum
          obtain ⟨t2, ht2⟩ : ∃ t2, List.replicate (i + 1) (48 : UInt8) ++ s = t2 := ⟨_, rfl⟩
          rw [ht2] at hcat
          have ht3 : Hid (List.replicate (i + 1) (48 : UInt8) ++ s = t2) := ht2
          clear ht2
          generalize List.replicate i (48 : UInt8) ++ s = t1 at *
          go_wp2
          exact ⟨⟨i + 1, congrArg (fun x : Bs => Value.string ⟨x.toArray⟩) ht3.out.symm, rfl, by omega, hb2⟩, hm'⟩
        · have dl : decide ((i : Int) ≤ z) = false := decide_eq_false (by omega)
          have dln : decide (i ≤ z) = false := decide_eq_false (by omega)
          obtain rfl : i = z + 1 := by omega
          have hres : Hid (dec n z = List.replicate (z + 1) 48 ++ s) := by show _ = _; unfold dec; rw [hds.out]
          generalize List.replicate (z + 1) (48 : UInt8) ++ s = t2 at *
          go_wp2
          go_ret
          exact ⟨congrArg (fun x : Bs => Ending.returned (Value.string ⟨x.toArray⟩)) hres.out.symm, hb2⟩

/-- which gap -/
def gIdx (n : Int) : Nat := (bits BinOp.and IntKind.i64 n 7).toNat
theorem gIdx_eq (n : Int) : bits BinOp.and IntKind.i64 n 7 = (gIdx n : Int) ∧ gIdx n < 8 := by
  have h : bits BinOp.and IntKind.i64 n 7 = ((BitVec.ofInt 64 n &&& BitVec.ofInt 64 7).toNat : Int) := by
    show IntKind.i64.wrap ((BitVec.ofInt 64 n &&& BitVec.ofInt 64 7).toNat : Int) = _
    have hle : (BitVec.ofInt 64 n &&& BitVec.ofInt 64 7).toNat ≤ 7 := by
      rw [BitVec.toNat_and]
      exact Nat.and_le_right
    rw [IntKind.wrap_i64]
    omega
  have hle : (BitVec.ofInt 64 n &&& BitVec.ofInt 64 7).toNat ≤ 7 := by
    rw [BitVec.toNat_and]
    exact Nat.and_le_right
  unfold gIdx
  rw [h]
  simp only [Int.toNat_natCast]
  exact ⟨trivial, by omega⟩

set_option maxRecDepth 100000 in
set_option maxHeartbeats 2000000 in
theorem gapOf_any (n : Int) (w : World) :
    Calls Tryd.prog 13 #[.int .i64 n] w fun e w' => e = .returned (.string ⟨(gapB (gIdx n)).toArray⟩) ∧ Below w.heap.size w w' := by
  obtain ⟨hk, hlt⟩ := gIdx_eq n
  generalize gIdx n = k at hk hlt
  match k, hlt with
  | 0, _ | 1, _ | 2, _ | 3, _ | 4, _ | 5, _ | 6, _ | 7, _ =>
    simp only [Int.cast_ofNat_Int] at hk
    go_enter Tryd.func13, Tryd.ntmps13
    go_wp2
    go_ret
    exact ⟨rfl, (Below.refl _ w).alloc (Nat.le_refl _) _⟩

/-! ### spelled -/
def kinds60 : Array Value := ((List.range 60).map fun w => Value.int .i64 (kind60 w : Nat)).toArray
def texts60 : Array Value := strs ((List.range 60).map fun w => spl (kind60 w))
def names8A : Array Value := strs name8
theorem tab_val (w : World) (old : Array Value) (t : TypeId) (S : Array Value) : ∃ w2, (w.alloc (.cells old t)).setRow w.heap.size S = w2 ∧ w2.heap[w.heap.size]? = some (.cells S t (0, 0)) ∧ Below w.heap.size w w2 := by
  refine ⟨_, rfl, setRow_heap _ _ _ _ _ _ (World.alloc_heap_new w _), ?_⟩
  refine ⟨rfl, rfl, rfl, by simp, fun k hk => ?_⟩
  rw [setRow_other _ _ _ _ (by omega)]
  exact Below.heap_alloc w _ k hk
end Go.Proofs.YtidffddmlaedcaaDoor
