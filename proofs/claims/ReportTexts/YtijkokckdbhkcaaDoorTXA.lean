import Derived.Test.YtijkokckdbhkcaaDoorRows
import Derived.Test.YtijkokckdbhkcaaDoorTXZ
import Derived.WalkKit
import Derived.ProofKit
import Derived.OpenShut
import Derived.Below
import Derived.Deep.AppendLies
import Derived.Laws.IdiomStrings
import Derived.Lib.ItoaLen
import Derived.WalkLawsBesides
import Derived.Deep.RegionHeld3
namespace Go.Proofs.YtijkokckdbhkcaaDoor
open Go.ChangeShapes Go.WideShapes Go.ChangeAt Go.RowKit

theorem dec_len (u : Nat) (h : u < 18446744073709551616) : (Lib.decDigits u).length ≤ 20 := by
  rw [Lib.decDigits_length]
  exact Lib.nDigits_le20 u (by omega)
theorem itoa_len (n : Int) (h0 : -9223372036854775808 ≤ n) (h1 : n ≤ 9223372036854775807) : (Lib.itoa n).length ≤ 21 := Lib.itoa_length_le n h0 h1

set_option maxRecDepth 100000 in
theorem appU_any (B n u : Nat) (hu : u < 18446744073709551616) (sv : Value) (xs : List Value) (w : World) (hown : w.ownsRow B 5 1 sv n xs) (hBw : B ≤ w.heap.size) (hlim : n + 20 ≤ 140737488355328)
    (htab : Lib.TabBelow Tryd.prog B w "internal/strconv.uint64pow10" .u64 Lib.pow10Tab) :
    Calls Tryd.prog 20 #[sv, .int .u64 u, .int .i64 10] w fun e w' => ∃ v', e = .returned v' ∧ w'.ownsRow B 5 1 v' (n + (Lib.decDigits u).length) (xs ++ Lib.byteCells (Lib.decDigits u)) ∧ Below B w w' := by
  have hin : Calls Tryd.prog 29 #[sv, .int .u64 u, .int .i64 10] w fun e w' => ∃ v', e = .returned v' ∧ w'.ownsRow B 5 1 v' (n + (Lib.decDigits u).length) (xs ++ Lib.byteCells (Lib.decDigits u)) ∧ Below B w w' ∧ Lib.OthersKept 5 none w w' := by
    by_cases h : u < 100
    · exact Any.internal_strconv_AppendUint_10_small laysAU B n u h sv xs w hown hBw hlim
    · exact Any.internal_strconv_AppendUint_10_big laysAU B n u (by omega) hu sv xs w hown hBw hlim htab.here
  have HI : Hid (Calls Tryd.prog 29 #[sv, .int .u64 u, .int .i64 10] w fun e w' => ∃ v', e = .returned v' ∧ w'.ownsRow B 5 1 v' (n + (Lib.decDigits u).length) (xs ++ Lib.byteCells (Lib.decDigits u)) ∧ Below B w w' ∧ Lib.OthersKept 5 none w w') := hin
  clear hin htab
  go_enter Tryd.func20, Tryd.ntmps20
  go_wp2_with fail
  refine HI.out.mono ?_
  rintro e w' ⟨v', rfl, h1, h2, _⟩
  go_wp2
  go_ret
  exact ⟨v', rfl, h1, h2⟩

theorem appI_any (B n : Nat) (i : Int) (h0 : -9223372036854775808 ≤ i) (h1 : i ≤ 9223372036854775807) (sv : Value) (xs : List Value) (w : World) (hown : w.ownsRow B 5 1 sv n xs) (hBw : B ≤ w.heap.size) (hlim : n + 21 ≤ 140737488355328)
    (htab : Lib.TabBelow Tryd.prog B w "internal/strconv.uint64pow10" .u64 Lib.pow10Tab) :
    Calls Tryd.prog 19 #[sv, .int .i64 i, .int .i64 10] w fun e w' => ∃ v', e = .returned v' ∧ w'.ownsRow B 5 1 v' (n + (Lib.itoa i).length) (xs ++ Lib.byteCells (Lib.itoa i)) ∧ Below B w w' ∧ Lib.OthersKept 5 none w w' :=
  Any.strconv_AppendInt_10 laysAI B n i h0 h1 sv xs w hown hBw hlim htab

theorem dec_step {u : Nat} (h : ¬ u < 10) : Lib.decDigits u = Lib.decDigits (u / 10) ++ [UInt8.ofNat (48 + u % 10)] := by rw [Lib.decDigits, dif_neg h]

theorem str_app (a b : List UInt8) : (⟨a.toArray⟩ : ByteArray) ++ (⟨b.toArray⟩ : ByteArray) = ⟨(a ++ b).toArray⟩ := by
  apply ByteArray.ext
  simp [ByteArray.data_append]

set_option maxHeartbeats 1000000 in
theorem digits_any (u0 : Nat) (hu : u0 < 18446744073709551616) (w : World) :
    Calls Tryd.prog 26 #[.int .u64 u0] w fun e w' => e = .returned (.string ⟨(Lib.decDigits u0).toArray⟩) ∧ Below w.heap.size w w' := by
  have hl := dec_len u0 hu
  go_enter Tryd.func26, Tryd.ntmps26
  go_wp2
  go_loopw [0, 3] (fun vn vs wr => ∃ (u : Nat) (s : List UInt8), vn = .int .u64 u ∧ vs = .string ⟨s.toArray⟩ ∧ u ≤ u0 ∧ Lib.decDigits u0 = Lib.decDigits u ++ s ∧ Below w.heap.size w wr) (fun vn _ _ => (intOf vn).toNat)
  case atStart => exact ⟨u0, [], rfl, rfl, Nat.le_refl _, by simp, Below.refl _ _⟩
  case round =>
    obtain ⟨u, s, rfl, rfl, hle, hdec, hb⟩ := hrel
    have hsl : s.length ≤ 20 := by
      have := congrArg List.length hdec
      simp at this
      omega
    have HD : Hid (Lib.decDigits u0 = Lib.decDigits u ++ s) := hdec
    clear hdec
    have hsz := hb.size
    obtain ⟨c, hc⟩ : ∃ c, c = UInt8.ofNat (48 + u % 10) := ⟨_, rfl⟩
    have e1 : ((c.toNat : Nat) : Int) = 48 + (u : Int) % 10 := by
      rw [hc, UInt8.toNat_ofNat']
      omega
    have HC : Hid (c = UInt8.ofNat (48 + u % 10)) := hc
    clear hc
    have hconv : (convert 33 9 (.slice (some ⟨wr.heap.size, 0, none⟩) 1 1)).run Tryd.prog (wr.alloc (.cells #[.int .u8 (48 + (u : Int) % 10)] 5)) = .ok (.string ⟨#[c]⟩) (wr.alloc (.cells #[.int .u8 (48 + (u : Int) % 10)] 5)) :=
      run_convert_bytes_back (P := Tryd.prog) (wr.alloc (.cells #[.int .u8 (48 + (u : Int) % 10)] 5)) 33 9 5 ⟨wr.heap.size, 0, none⟩ 1 [c] Tryd.underlying33 Tryd.underlying5 Tryd.underlying9 (by
      intro j hj
      have hj0 : j = 0 := by simpa using hj
      subst hj0
      simp [Addr.add, e1])
    have hsum : (⟨#[c]⟩ : ByteArray).size + (⟨s.toArray⟩ : ByteArray).size ≤ 9223372036854775807 := by simp [ByteArray.size]; omega
    have hadd : ∀ W, (Op.stringOp .add ⟨#[c]⟩ ⟨s.toArray⟩).run Tryd.prog W = .ok (.string (⟨#[c]⟩ ++ ⟨s.toArray⟩)) W := fun W => run_string_add_sum (P := Tryd.prog) (w := W) ⟨#[c]⟩ ⟨s.toArray⟩ hsum
    clear e1 hsum
    by_cases h10 : u < 10
    · have hz : ((u : Int) / 10 == 0) = true := by rw [beq_iff_eq]; omega
      go_wp2_with fail
      go_ret
      rw [HD.out, Lib.decDigits_one h10]
      refine ⟨?_, hb.alloc hsz _⟩
      have e2 : UInt8.ofNat (48 + u) = c := by rw [HC.out, show u % 10 = u by omega]
      rw [e2]
      exact congrArg (fun x => Ending.returned (Value.string x)) (str_app [c] s)
    · have hz : ((u : Int) / 10 == 0) = false := by rw [beq_eq_false_iff_ne]; omega
      go_wp2_with fail
      go_roundw
      case rel => exact ⟨u / 10, c :: s, by go_num, congrArg Value.string (str_app [c] s), by omega, by rw [HD.out, dec_step h10, HC.out]; simp, hb.alloc hsz _⟩
      case measure => simp [intOf]; omega

set_option maxHeartbeats 1000000 in
theorem refSigned_any (i : Int) (h0 : -9223372036854775808 ≤ i) (h1 : i ≤ 9223372036854775807) (w : World) :
    Calls Tryd.prog 27 #[.int .i64 i] w fun e w' => e = .returned (.string ⟨(Lib.itoa i).toArray⟩) ∧ Below w.heap.size w w' := by
  by_cases hn : 0 ≤ i
  · obtain ⟨u, rfl⟩ := Int.eq_ofNat_of_zero_le hn
    rw [Lib.itoa_nonneg]
    go_enter Tryd.func27, Tryd.ntmps27
    go_wp2_with fail
    refine (digits_any u (by omega) _).mono ?_
    rintro e w' ⟨rfl, hb⟩
    go_wp2_with fail
    go_ret
    exact ⟨rfl, hb⟩
  · obtain ⟨u, hu, rfl⟩ : ∃ u : Nat, 1 ≤ u ∧ i = -(u : Int) := ⟨i.natAbs, by omega, by omega⟩
    rw [Lib.itoa_neg u hu]
    have hl := dec_len u (by omega)
    have hsum : (⟨#[45]⟩ : ByteArray).size + (⟨(Lib.decDigits u).toArray⟩ : ByteArray).size ≤ 9223372036854775807 := by simp [ByteArray.size]; omega
    have hadd : ∀ W, (Op.stringOp .add ⟨#[45]⟩ ⟨(Lib.decDigits u).toArray⟩).run Tryd.prog W = .ok (.string (⟨#[45]⟩ ++ ⟨(Lib.decDigits u).toArray⟩)) W := fun W => run_string_add_sum (P := Tryd.prog) (w := W) _ _ hsum
    have hx : -(-(u : Int) + 1) + 1 = (u : Int) := by omega
    clear hsum
    go_enter Tryd.func27, Tryd.ntmps27
    go_wp2_with fail
    refine (digits_any u (by omega) _).mono ?_
    rintro e w' ⟨rfl, hb⟩
    go_wp2_with fail
    go_ret
    exact ⟨congrArg (fun x => Ending.returned (Value.string x)) (str_app [45] (Lib.decDigits u)), hb⟩
end Go.Proofs.YtijkokckdbhkcaaDoor
