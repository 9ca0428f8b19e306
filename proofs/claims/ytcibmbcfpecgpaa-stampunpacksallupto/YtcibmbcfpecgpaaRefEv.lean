import Derived.Test.YtcibmbcfpecgpaaRefRd2
import Derived.Test.YtcibmbcfpecgpaaUnp
namespace Go.Proofs.Ytcibmbcfpecgpaa
open Go.ChangeShapes Go.WideShapes Go.ChangeAt Go.RowKit

theorem rdSt_zero {B : Nat → Int} {L a : Nat} {e : Int} (h : e = 0) : rdSt B L a e = rdNum B L a := by simp [rdSt, h]
theorem rdSt_err {B : Nat → Int} {L a : Nat} {e : Int} (h : e ≠ 0) : (rdSt B L a e).2.2 = e := by simp [rdSt, h]
theorem back64 {m : Int} (h0 : -9223372036854775808 ≤ m) (h1 : m ≤ 9223372036854775807) : wrap64 (IntKind.u64.wrap m) = m := by
  rw [IntKind.wrap_u64]
  unfold wrap64
  omega
theorem unz_in {n : Int} (h : 0 ≤ n ∧ n ≤ 18446744073709551615) : -9223372036854775808 ≤ unz n ∧ unz n ≤ 9223372036854775807 := by unfold unz; split <;> omega

theorem refNum_ok (sl : Option Addr) (L cap a0 : Nat) (B : Nat → Int) (w : World) (hL : L ≤ 1000000000000000) (ha : a0 ≤ L) (h : BytesAt w sl L B) (hok : (rdNum B L a0).2.2 = 0) :
    Calls Try.prog 29 #[.slice sl L cap, .int .i64 a0] w fun r w' => r = .returned (.tuple #[.int .u64 (rdNum B L a0).1, .int .i64 (rdNum B L a0).2.1, .int .i64 0]) ∧ w' = w := by
  have := refNum_any sl L cap a0 B w hL ha h
  rwa [ans_ok hok, hok] at this
theorem refNum_err (sl : Option Addr) (L cap a0 : Nat) (B : Nat → Int) (w : World) (hL : L ≤ 1000000000000000) (ha : a0 ≤ L) (h : BytesAt w sl L B) (hok : (rdNum B L a0).2.2 ≠ 0) :
    Calls Try.prog 29 #[.slice sl L cap, .int .i64 a0] w fun r w' => r = .returned (.tuple #[.int .u64 0, .int .i64 0, .int .i64 (rdNum B L a0).2.2]) ∧ w' = w := by
  have := refNum_any sl L cap a0 B w hL ha h
  rw [ans_err hok] at this
  simpa using this

section
variable {B : Nat → Int} {L a0 : Nat}
theorem evR5_err5 (_h : (evR5 B L a0 0).2.2 ≠ 0) : (evR5 B L a0 0).2.2 = (evR5 B L a0 0).2.2 := rfl
theorem evR5_err4 (h : (evR4 B L a0 0).2.2 ≠ 0) : (evR5 B L a0 0).2.2 = (evR4 B L a0 0).2.2 := by
  have e : (evR5 B L a0 0).2.2 = (evR4 B L a0 0).2.2 := rdSt_err h
  rw [evR5_err5 (by rw [e]; exact h), e]
theorem evR5_err3 (h : (evR3 B L a0 0).2.2 ≠ 0) : (evR5 B L a0 0).2.2 = (evR3 B L a0 0).2.2 := by
  have e : (evR4 B L a0 0).2.2 = (evR3 B L a0 0).2.2 := rdSt_err h
  rw [evR5_err4 (by rw [e]; exact h), e]
theorem evR5_err2 (h : (evR2 B L a0 0).2.2 ≠ 0) : (evR5 B L a0 0).2.2 = (evR2 B L a0 0).2.2 := by
  have e : (evR3 B L a0 0).2.2 = (evR2 B L a0 0).2.2 := rdSt_err h
  rw [evR5_err3 (by rw [e]; exact h), e]
theorem evR5_err1 (h : (evR1 B L a0 0).2.2 ≠ 0) : (evR5 B L a0 0).2.2 = (evR1 B L a0 0).2.2 := by
  have e : (evR2 B L a0 0).2.2 = (evR1 B L a0 0).2.2 := rdSt_err h
  rw [evR5_err2 (by rw [e]; exact h), e]
theorem evR5_err0 (h : (evR0 B L a0 0).2.2 ≠ 0) : (evR5 B L a0 0).2.2 = (evR0 B L a0 0).2.2 := by
  have e : (evR1 B L a0 0).2.2 = (evR0 B L a0 0).2.2 := rdSt_err h
  rw [evR5_err1 (by rw [e]; exact h), e]
end

set_option maxHeartbeats 2000000 in
theorem readEv_0 (sl : Option Addr) (L cap A0 : Nat) (B : Nat → Int) (w : World) (hL : L ≤ 1000000000000000) (ha : A0 ≤ L) (hBy : BytesAt w sl L B) (e0 : (rdNum B L A0).2.2 ≠ 0) :
    Calls Try.prog 30 #[.slice sl L cap, .int .i64 A0] w fun r w' => r = .returned (.tuple #[.agg zeroEv, .int .i64 0, .int .i64 (rdNum B L A0).2.2]) ∧ Below w.heap.size w w' := by
  have o0 := rdNum_ok (B := B) (L := L) (a := A0) hBy.2 ha
  have hzz : zeroEv = #[.int .u64 0, .int .i64 0, .int .u64 0, .int .i64 0, .int .i64 0, .int .i64 0] := rfl
  have hBy2 : ∀ O O', BytesAt ((w.alloc O).alloc O') sl L B := fun O O' => hBy.below (((Below.refl _ _).alloc (Nat.le_refl _) _).alloc (by simp) _)
  have hne : ((rdNum B L A0).2.2 != 0) = true := by simp [e0]
  go_enter Try.func30, Try.ntmps30
  go_wp2_with fail
  refine wp_loop_rounds 7 ?_
  rw [rounds_succ]
  go_wp2_with fail
  refine (refNum_err sl L cap A0 B _ hL ha (hBy2 _ _) e0).mono ?_
  rintro x w0 ⟨rfl, rfl⟩
  go_wp2_with fail
  refine bodyPost_ret (v := .tuple #[.agg zeroEv, .int .i64 0, .int .i64 (rdNum B L A0).2.2]) ?_ rfl ⟨rfl, ((Below.refl _ _).alloc (Nat.le_refl _) _).alloc (by simp) _⟩
  simp [results, Try.results30, go_sem, hzz]

set_option maxHeartbeats 2000000 in
theorem readEv_1 (sl : Option Addr) (L cap A0 : Nat) (B : Nat → Int) (w : World) (hL : L ≤ 1000000000000000) (ha : A0 ≤ L) (hBy : BytesAt w sl L B) (e0 : (rdNum B L A0).2.2 = 0) (A1 : Nat) (eA1 : (rdNum B L A0).2.1 = A1) (e1 : (rdNum B L A1).2.2 ≠ 0) :
    Calls Try.prog 30 #[.slice sl L cap, .int .i64 A0] w fun r w' => r = .returned (.tuple #[.agg zeroEv, .int .i64 0, .int .i64 (rdNum B L A1).2.2]) ∧ Below w.heap.size w w' := by
  have o0 := rdNum_ok (B := B) (L := L) (a := A0) hBy.2 ha
  have l1 : A1 ≤ L := by rw [← eA1]; exact o0.2.1
  have o1 := rdNum_ok (B := B) (L := L) (a := A1) hBy.2 l1
  have hzz : zeroEv = #[.int .u64 0, .int .i64 0, .int .u64 0, .int .i64 0, .int .i64 0, .int .i64 0] := rfl
  have hBy2 : ∀ O O', BytesAt ((w.alloc O).alloc O') sl L B := fun O O' => hBy.below (((Below.refl _ _).alloc (Nat.le_refl _) _).alloc (by simp) _)
  have hne : ((rdNum B L A1).2.2 != 0) = true := by simp [e1]
  go_enter Try.func30, Try.ntmps30
  go_wp2_with fail
  refine wp_loop_rounds 7 ?_
  rw [rounds_succ]
  go_wp2_with fail
  refine (refNum_ok sl L cap A0 B _ hL ha (hBy2 _ _) e0).mono ?_
  rintro x w0 ⟨rfl, rfl⟩
  go_wp2_with fail
  rw [rounds_succ]
  go_wp2_with fail
  refine (refNum_err sl L cap A1 B _ hL l1 (hBy2 _ _) e1).mono ?_
  rintro x w1 ⟨rfl, rfl⟩
  go_wp2_with fail
  refine bodyPost_ret (v := .tuple #[.agg zeroEv, .int .i64 0, .int .i64 (rdNum B L A1).2.2]) ?_ rfl ⟨rfl, ((Below.refl _ _).alloc (Nat.le_refl _) _).alloc (by simp) _⟩
  simp [results, Try.results30, go_sem, hzz]

set_option maxHeartbeats 2000000 in
theorem readEv_2 (sl : Option Addr) (L cap A0 : Nat) (B : Nat → Int) (w : World) (hL : L ≤ 1000000000000000) (ha : A0 ≤ L) (hBy : BytesAt w sl L B) (e0 : (rdNum B L A0).2.2 = 0) (A1 : Nat) (eA1 : (rdNum B L A0).2.1 = A1) (e1 : (rdNum B L A1).2.2 = 0) (A2 : Nat) (eA2 : (rdNum B L A1).2.1 = A2) (e2 : (rdNum B L A2).2.2 ≠ 0) :
    Calls Try.prog 30 #[.slice sl L cap, .int .i64 A0] w fun r w' => r = .returned (.tuple #[.agg zeroEv, .int .i64 0, .int .i64 (rdNum B L A2).2.2]) ∧ Below w.heap.size w w' := by
  have o0 := rdNum_ok (B := B) (L := L) (a := A0) hBy.2 ha
  have l1 : A1 ≤ L := by rw [← eA1]; exact o0.2.1
  have o1 := rdNum_ok (B := B) (L := L) (a := A1) hBy.2 l1
  have l2 : A2 ≤ L := by rw [← eA2]; exact o1.2.1
  have o2 := rdNum_ok (B := B) (L := L) (a := A2) hBy.2 l2
  have b1 := back64 (unz_in o1.1).1 (unz_in o1.1).2
  have hzz : zeroEv = #[.int .u64 0, .int .i64 0, .int .u64 0, .int .i64 0, .int .i64 0, .int .i64 0] := rfl
  have hBy2 : ∀ O O', BytesAt ((w.alloc O).alloc O') sl L B := fun O O' => hBy.below (((Below.refl _ _).alloc (Nat.le_refl _) _).alloc (by simp) _)
  have hne : ((rdNum B L A2).2.2 != 0) = true := by simp [e2]
  go_enter Try.func30, Try.ntmps30
  go_wp2_with fail
  refine wp_loop_rounds 7 ?_
  rw [rounds_succ]
  go_wp2_with fail
  refine (refNum_ok sl L cap A0 B _ hL ha (hBy2 _ _) e0).mono ?_
  rintro x w0 ⟨rfl, rfl⟩
  go_wp2_with fail
  rw [rounds_succ]
  go_wp2_with fail
  refine (refNum_ok sl L cap A1 B _ hL l1 (hBy2 _ _) e1).mono ?_
  rintro x w1 ⟨rfl, rfl⟩
  go_wp2_with fail
  refine (refSign_any sl L cap A1 B _ hL l1 (hBy2 _ _) e1).mono ?_
  rintro x v1 ⟨rfl, rfl⟩
  go_wp2_with fail
  rw [rounds_succ]
  go_wp2_with fail
  refine (refNum_err sl L cap A2 B _ hL l2 (hBy2 _ _) e2).mono ?_
  rintro x w2 ⟨rfl, rfl⟩
  go_wp2_with fail
  refine bodyPost_ret (v := .tuple #[.agg zeroEv, .int .i64 0, .int .i64 (rdNum B L A2).2.2]) ?_ rfl ⟨rfl, ((Below.refl _ _).alloc (Nat.le_refl _) _).alloc (by simp) _⟩
  simp [results, Try.results30, go_sem, hzz]

set_option maxHeartbeats 2000000 in
theorem readEv_3 (sl : Option Addr) (L cap A0 : Nat) (B : Nat → Int) (w : World) (hL : L ≤ 1000000000000000) (ha : A0 ≤ L) (hBy : BytesAt w sl L B) (e0 : (rdNum B L A0).2.2 = 0) (A1 : Nat) (eA1 : (rdNum B L A0).2.1 = A1) (e1 : (rdNum B L A1).2.2 = 0) (A2 : Nat) (eA2 : (rdNum B L A1).2.1 = A2) (e2 : (rdNum B L A2).2.2 = 0) (A3 : Nat) (eA3 : (rdNum B L A2).2.1 = A3) (e3 : (rdNum B L A3).2.2 ≠ 0) :
    Calls Try.prog 30 #[.slice sl L cap, .int .i64 A0] w fun r w' => r = .returned (.tuple #[.agg zeroEv, .int .i64 0, .int .i64 (rdNum B L A3).2.2]) ∧ Below w.heap.size w w' := by
  have o0 := rdNum_ok (B := B) (L := L) (a := A0) hBy.2 ha
  have l1 : A1 ≤ L := by rw [← eA1]; exact o0.2.1
  have o1 := rdNum_ok (B := B) (L := L) (a := A1) hBy.2 l1
  have l2 : A2 ≤ L := by rw [← eA2]; exact o1.2.1
  have o2 := rdNum_ok (B := B) (L := L) (a := A2) hBy.2 l2
  have l3 : A3 ≤ L := by rw [← eA3]; exact o2.2.1
  have o3 := rdNum_ok (B := B) (L := L) (a := A3) hBy.2 l3
  have b1 := back64 (unz_in o1.1).1 (unz_in o1.1).2
  have hzz : zeroEv = #[.int .u64 0, .int .i64 0, .int .u64 0, .int .i64 0, .int .i64 0, .int .i64 0] := rfl
  have hBy2 : ∀ O O', BytesAt ((w.alloc O).alloc O') sl L B := fun O O' => hBy.below (((Below.refl _ _).alloc (Nat.le_refl _) _).alloc (by simp) _)
  have hne : ((rdNum B L A3).2.2 != 0) = true := by simp [e3]
  go_enter Try.func30, Try.ntmps30
  go_wp2_with fail
  refine wp_loop_rounds 7 ?_
  rw [rounds_succ]
  go_wp2_with fail
  refine (refNum_ok sl L cap A0 B _ hL ha (hBy2 _ _) e0).mono ?_
  rintro x w0 ⟨rfl, rfl⟩
  go_wp2_with fail
  rw [rounds_succ]
  go_wp2_with fail
  refine (refNum_ok sl L cap A1 B _ hL l1 (hBy2 _ _) e1).mono ?_
  rintro x w1 ⟨rfl, rfl⟩
  go_wp2_with fail
  refine (refSign_any sl L cap A1 B _ hL l1 (hBy2 _ _) e1).mono ?_
  rintro x v1 ⟨rfl, rfl⟩
  go_wp2_with fail
  rw [rounds_succ]
  go_wp2_with fail
  refine (refNum_ok sl L cap A2 B _ hL l2 (hBy2 _ _) e2).mono ?_
  rintro x w2 ⟨rfl, rfl⟩
  go_wp2_with fail
  rw [rounds_succ]
  go_wp2_with fail
  refine (refNum_err sl L cap A3 B _ hL l3 (hBy2 _ _) e3).mono ?_
  rintro x w3 ⟨rfl, rfl⟩
  go_wp2_with fail
  refine bodyPost_ret (v := .tuple #[.agg zeroEv, .int .i64 0, .int .i64 (rdNum B L A3).2.2]) ?_ rfl ⟨rfl, ((Below.refl _ _).alloc (Nat.le_refl _) _).alloc (by simp) _⟩
  simp [results, Try.results30, go_sem, hzz]

set_option maxHeartbeats 2000000 in
theorem readEv_4 (sl : Option Addr) (L cap A0 : Nat) (B : Nat → Int) (w : World) (hL : L ≤ 1000000000000000) (ha : A0 ≤ L) (hBy : BytesAt w sl L B) (e0 : (rdNum B L A0).2.2 = 0) (A1 : Nat) (eA1 : (rdNum B L A0).2.1 = A1) (e1 : (rdNum B L A1).2.2 = 0) (A2 : Nat) (eA2 : (rdNum B L A1).2.1 = A2) (e2 : (rdNum B L A2).2.2 = 0) (A3 : Nat) (eA3 : (rdNum B L A2).2.1 = A3) (e3 : (rdNum B L A3).2.2 = 0) (A4 : Nat) (eA4 : (rdNum B L A3).2.1 = A4) (e4 : (rdNum B L A4).2.2 ≠ 0) :
    Calls Try.prog 30 #[.slice sl L cap, .int .i64 A0] w fun r w' => r = .returned (.tuple #[.agg zeroEv, .int .i64 0, .int .i64 (rdNum B L A4).2.2]) ∧ Below w.heap.size w w' := by
  have o0 := rdNum_ok (B := B) (L := L) (a := A0) hBy.2 ha
  have l1 : A1 ≤ L := by rw [← eA1]; exact o0.2.1
  have o1 := rdNum_ok (B := B) (L := L) (a := A1) hBy.2 l1
  have l2 : A2 ≤ L := by rw [← eA2]; exact o1.2.1
  have o2 := rdNum_ok (B := B) (L := L) (a := A2) hBy.2 l2
  have l3 : A3 ≤ L := by rw [← eA3]; exact o2.2.1
  have o3 := rdNum_ok (B := B) (L := L) (a := A3) hBy.2 l3
  have l4 : A4 ≤ L := by rw [← eA4]; exact o3.2.1
  have o4 := rdNum_ok (B := B) (L := L) (a := A4) hBy.2 l4
  have b1 := back64 (unz_in o1.1).1 (unz_in o1.1).2
  have b3 := back64 (unz_in o3.1).1 (unz_in o3.1).2
  have hzz : zeroEv = #[.int .u64 0, .int .i64 0, .int .u64 0, .int .i64 0, .int .i64 0, .int .i64 0] := rfl
  have hBy2 : ∀ O O', BytesAt ((w.alloc O).alloc O') sl L B := fun O O' => hBy.below (((Below.refl _ _).alloc (Nat.le_refl _) _).alloc (by simp) _)
  have hne : ((rdNum B L A4).2.2 != 0) = true := by simp [e4]
  go_enter Try.func30, Try.ntmps30
  go_wp2_with fail
  refine wp_loop_rounds 7 ?_
  rw [rounds_succ]
  go_wp2_with fail
  refine (refNum_ok sl L cap A0 B _ hL ha (hBy2 _ _) e0).mono ?_
  rintro x w0 ⟨rfl, rfl⟩
  go_wp2_with fail
  rw [rounds_succ]
  go_wp2_with fail
  refine (refNum_ok sl L cap A1 B _ hL l1 (hBy2 _ _) e1).mono ?_
  rintro x w1 ⟨rfl, rfl⟩
  go_wp2_with fail
  refine (refSign_any sl L cap A1 B _ hL l1 (hBy2 _ _) e1).mono ?_
  rintro x v1 ⟨rfl, rfl⟩
  go_wp2_with fail
  rw [rounds_succ]
  go_wp2_with fail
  refine (refNum_ok sl L cap A2 B _ hL l2 (hBy2 _ _) e2).mono ?_
  rintro x w2 ⟨rfl, rfl⟩
  go_wp2_with fail
  rw [rounds_succ]
  go_wp2_with fail
  refine (refNum_ok sl L cap A3 B _ hL l3 (hBy2 _ _) e3).mono ?_
  rintro x w3 ⟨rfl, rfl⟩
  go_wp2_with fail
  refine (refSign_any sl L cap A3 B _ hL l3 (hBy2 _ _) e3).mono ?_
  rintro x v3 ⟨rfl, rfl⟩
  go_wp2_with fail
  rw [rounds_succ]
  go_wp2_with fail
  refine (refNum_err sl L cap A4 B _ hL l4 (hBy2 _ _) e4).mono ?_
  rintro x w4 ⟨rfl, rfl⟩
  go_wp2_with fail
  refine bodyPost_ret (v := .tuple #[.agg zeroEv, .int .i64 0, .int .i64 (rdNum B L A4).2.2]) ?_ rfl ⟨rfl, ((Below.refl _ _).alloc (Nat.le_refl _) _).alloc (by simp) _⟩
  simp [results, Try.results30, go_sem, hzz]

set_option maxHeartbeats 2000000 in
theorem readEv_5 (sl : Option Addr) (L cap A0 : Nat) (B : Nat → Int) (w : World) (hL : L ≤ 1000000000000000) (ha : A0 ≤ L) (hBy : BytesAt w sl L B) (e0 : (rdNum B L A0).2.2 = 0) (A1 : Nat) (eA1 : (rdNum B L A0).2.1 = A1) (e1 : (rdNum B L A1).2.2 = 0) (A2 : Nat) (eA2 : (rdNum B L A1).2.1 = A2) (e2 : (rdNum B L A2).2.2 = 0) (A3 : Nat) (eA3 : (rdNum B L A2).2.1 = A3) (e3 : (rdNum B L A3).2.2 = 0) (A4 : Nat) (eA4 : (rdNum B L A3).2.1 = A4) (e4 : (rdNum B L A4).2.2 = 0) (A5 : Nat) (eA5 : (rdNum B L A4).2.1 = A5) (e5 : (rdNum B L A5).2.2 ≠ 0) :
    Calls Try.prog 30 #[.slice sl L cap, .int .i64 A0] w fun r w' => r = .returned (.tuple #[.agg zeroEv, .int .i64 0, .int .i64 (rdNum B L A5).2.2]) ∧ Below w.heap.size w w' := by
  have o0 := rdNum_ok (B := B) (L := L) (a := A0) hBy.2 ha
  have l1 : A1 ≤ L := by rw [← eA1]; exact o0.2.1
  have o1 := rdNum_ok (B := B) (L := L) (a := A1) hBy.2 l1
  have l2 : A2 ≤ L := by rw [← eA2]; exact o1.2.1
  have o2 := rdNum_ok (B := B) (L := L) (a := A2) hBy.2 l2
  have l3 : A3 ≤ L := by rw [← eA3]; exact o2.2.1
  have o3 := rdNum_ok (B := B) (L := L) (a := A3) hBy.2 l3
  have l4 : A4 ≤ L := by rw [← eA4]; exact o3.2.1
  have o4 := rdNum_ok (B := B) (L := L) (a := A4) hBy.2 l4
  have l5 : A5 ≤ L := by rw [← eA5]; exact o4.2.1
  have o5 := rdNum_ok (B := B) (L := L) (a := A5) hBy.2 l5
  have b1 := back64 (unz_in o1.1).1 (unz_in o1.1).2
  have b3 := back64 (unz_in o3.1).1 (unz_in o3.1).2
  have b4 := back64 (unz_in o4.1).1 (unz_in o4.1).2
  have hzz : zeroEv = #[.int .u64 0, .int .i64 0, .int .u64 0, .int .i64 0, .int .i64 0, .int .i64 0] := rfl
  have hBy2 : ∀ O O', BytesAt ((w.alloc O).alloc O') sl L B := fun O O' => hBy.below (((Below.refl _ _).alloc (Nat.le_refl _) _).alloc (by simp) _)
  have hne : ((rdNum B L A5).2.2 != 0) = true := by simp [e5]
  go_enter Try.func30, Try.ntmps30
  go_wp2_with fail
  refine wp_loop_rounds 7 ?_
  rw [rounds_succ]
  go_wp2_with fail
  refine (refNum_ok sl L cap A0 B _ hL ha (hBy2 _ _) e0).mono ?_
  rintro x w0 ⟨rfl, rfl⟩
  go_wp2_with fail
  rw [rounds_succ]
  go_wp2_with fail
  refine (refNum_ok sl L cap A1 B _ hL l1 (hBy2 _ _) e1).mono ?_
  rintro x w1 ⟨rfl, rfl⟩
  go_wp2_with fail
  refine (refSign_any sl L cap A1 B _ hL l1 (hBy2 _ _) e1).mono ?_
  rintro x v1 ⟨rfl, rfl⟩
  go_wp2_with fail
  rw [rounds_succ]
  go_wp2_with fail
  refine (refNum_ok sl L cap A2 B _ hL l2 (hBy2 _ _) e2).mono ?_
  rintro x w2 ⟨rfl, rfl⟩
  go_wp2_with fail
  rw [rounds_succ]
  go_wp2_with fail
  refine (refNum_ok sl L cap A3 B _ hL l3 (hBy2 _ _) e3).mono ?_
  rintro x w3 ⟨rfl, rfl⟩
  go_wp2_with fail
  refine (refSign_any sl L cap A3 B _ hL l3 (hBy2 _ _) e3).mono ?_
  rintro x v3 ⟨rfl, rfl⟩
  go_wp2_with fail
  rw [rounds_succ]
  go_wp2_with fail
  refine (refNum_ok sl L cap A4 B _ hL l4 (hBy2 _ _) e4).mono ?_
  rintro x w4 ⟨rfl, rfl⟩
  go_wp2_with fail
  refine (refSign_any sl L cap A4 B _ hL l4 (hBy2 _ _) e4).mono ?_
  rintro x v4 ⟨rfl, rfl⟩
  go_wp2_with fail
  rw [rounds_succ]
  go_wp2_with fail
  refine (refNum_err sl L cap A5 B _ hL l5 (hBy2 _ _) e5).mono ?_
  rintro x w5 ⟨rfl, rfl⟩
  go_wp2_with fail
  refine bodyPost_ret (v := .tuple #[.agg zeroEv, .int .i64 0, .int .i64 (rdNum B L A5).2.2]) ?_ rfl ⟨rfl, ((Below.refl _ _).alloc (Nat.le_refl _) _).alloc (by simp) _⟩
  simp [results, Try.results30, go_sem, hzz]

set_option maxHeartbeats 2000000 in
theorem readEv_6 (sl : Option Addr) (L cap A0 : Nat) (B : Nat → Int) (w : World) (hL : L ≤ 1000000000000000) (ha : A0 ≤ L) (hBy : BytesAt w sl L B) (e0 : (rdNum B L A0).2.2 = 0) (A1 : Nat) (eA1 : (rdNum B L A0).2.1 = A1) (e1 : (rdNum B L A1).2.2 = 0) (A2 : Nat) (eA2 : (rdNum B L A1).2.1 = A2) (e2 : (rdNum B L A2).2.2 = 0) (A3 : Nat) (eA3 : (rdNum B L A2).2.1 = A3) (e3 : (rdNum B L A3).2.2 = 0) (A4 : Nat) (eA4 : (rdNum B L A3).2.1 = A4) (e4 : (rdNum B L A4).2.2 = 0) (A5 : Nat) (eA5 : (rdNum B L A4).2.1 = A5) (e5 : (rdNum B L A5).2.2 = 0) :
    Calls Try.prog 30 #[.slice sl L cap, .int .i64 A0] w fun r w' => r = .returned (.tuple #[.agg #[.int .u64 (rdNum B L A0).1, .int .i64 (unz (rdNum B L A1).1), .int .u64 (rdNum B L A2).1, .int .i64 (unz (rdNum B L A3).1), .int .i64 (unz (rdNum B L A4).1), .int .i64 (unz (rdNum B L A5).1)], .int .i64 (rdNum B L A5).2.1, .int .i64 0]) ∧ Below w.heap.size w w' := by
  have o0 := rdNum_ok (B := B) (L := L) (a := A0) hBy.2 ha
  have l1 : A1 ≤ L := by rw [← eA1]; exact o0.2.1
  have o1 := rdNum_ok (B := B) (L := L) (a := A1) hBy.2 l1
  have l2 : A2 ≤ L := by rw [← eA2]; exact o1.2.1
  have o2 := rdNum_ok (B := B) (L := L) (a := A2) hBy.2 l2
  have l3 : A3 ≤ L := by rw [← eA3]; exact o2.2.1
  have o3 := rdNum_ok (B := B) (L := L) (a := A3) hBy.2 l3
  have l4 : A4 ≤ L := by rw [← eA4]; exact o3.2.1
  have o4 := rdNum_ok (B := B) (L := L) (a := A4) hBy.2 l4
  have l5 : A5 ≤ L := by rw [← eA5]; exact o4.2.1
  have o5 := rdNum_ok (B := B) (L := L) (a := A5) hBy.2 l5
  have b1 := back64 (unz_in o1.1).1 (unz_in o1.1).2
  have b3 := back64 (unz_in o3.1).1 (unz_in o3.1).2
  have b4 := back64 (unz_in o4.1).1 (unz_in o4.1).2
  have b5 := back64 (unz_in o5.1).1 (unz_in o5.1).2
  have hBy2 : ∀ O O', BytesAt ((w.alloc O).alloc O') sl L B := fun O O' => hBy.below (((Below.refl _ _).alloc (Nat.le_refl _) _).alloc (by simp) _)
  go_enter Try.func30, Try.ntmps30
  go_wp2_with fail
  refine wp_loop_rounds 7 ?_
  rw [rounds_succ]
  go_wp2_with fail
  refine (refNum_ok sl L cap A0 B _ hL ha (hBy2 _ _) e0).mono ?_
  rintro x w0 ⟨rfl, rfl⟩
  go_wp2_with fail
  rw [rounds_succ]
  go_wp2_with fail
  refine (refNum_ok sl L cap A1 B _ hL l1 (hBy2 _ _) e1).mono ?_
  rintro x w1 ⟨rfl, rfl⟩
  go_wp2_with fail
  refine (refSign_any sl L cap A1 B _ hL l1 (hBy2 _ _) e1).mono ?_
  rintro x v1 ⟨rfl, rfl⟩
  go_wp2_with fail
  rw [rounds_succ]
  go_wp2_with fail
  refine (refNum_ok sl L cap A2 B _ hL l2 (hBy2 _ _) e2).mono ?_
  rintro x w2 ⟨rfl, rfl⟩
  go_wp2_with fail
  rw [rounds_succ]
  go_wp2_with fail
  refine (refNum_ok sl L cap A3 B _ hL l3 (hBy2 _ _) e3).mono ?_
  rintro x w3 ⟨rfl, rfl⟩
  go_wp2_with fail
  refine (refSign_any sl L cap A3 B _ hL l3 (hBy2 _ _) e3).mono ?_
  rintro x v3 ⟨rfl, rfl⟩
  go_wp2_with fail
  rw [rounds_succ]
  go_wp2_with fail
  refine (refNum_ok sl L cap A4 B _ hL l4 (hBy2 _ _) e4).mono ?_
  rintro x w4 ⟨rfl, rfl⟩
  go_wp2_with fail
  refine (refSign_any sl L cap A4 B _ hL l4 (hBy2 _ _) e4).mono ?_
  rintro x v4 ⟨rfl, rfl⟩
  go_wp2_with fail
  rw [rounds_succ]
  go_wp2_with fail
  refine (refNum_ok sl L cap A5 B _ hL l5 (hBy2 _ _) e5).mono ?_
  rintro x w5 ⟨rfl, rfl⟩
  go_wp2_with fail
  refine (refSign_any sl L cap A5 B _ hL l5 (hBy2 _ _) e5).mono ?_
  rintro x v5 ⟨rfl, rfl⟩
  go_wp2_with fail
  rw [rounds_succ]
  go_wp2_with fail
  refine bodyPost_ret (v := .tuple #[.agg #[.int .u64 (rdNum B L A0).1, .int .i64 (unz (rdNum B L A1).1), .int .u64 (rdNum B L A2).1, .int .i64 (unz (rdNum B L A3).1), .int .i64 (unz (rdNum B L A4).1), .int .i64 (unz (rdNum B L A5).1)], .int .i64 (rdNum B L A5).2.1, .int .i64 0]) ?_ rfl ⟨rfl, (((Below.refl _ _).alloc (Nat.le_refl _) _).alloc (by simp) _).alloc (by simp <;> omega) _⟩
  simp [results, Try.results30, go_sem]

end Go.Proofs.Ytcibmbcfpecgpaa
