import Derived.Test.YtcibmbcfpecgpaaRefEv
namespace Go.Proofs.Ytcibmbcfpecgpaa
open Go.ChangeShapes Go.WideShapes Go.ChangeAt Go.RowKit

theorem readEv_any (sl : Option Addr) (L cap a0 : Nat) (B : Nat → Int) (w : World) (hL : L ≤ 1000000000000000) (ha : a0 ≤ L) (hBy : BytesAt w sl L B) :
    Calls Try.prog 30 #[.slice sl L cap, .int .i64 a0] w fun r w' => r = .returned (.tuple #[.agg (if (evR5 B L a0 0).2.2 = 0 then evVals B L a0 0 else zeroEv), .int .i64 (if (evR5 B L a0 0).2.2 = 0 then (evR5 B L a0 0).2.1 else 0), .int .i64 (evR5 B L a0 0).2.2]) ∧ Below w.heap.size w w' := by
  have q0 : evR0 B L a0 0 = rdNum B L a0 := rfl
  by_cases c0 : (evR0 B L a0 0).2.2 ≠ 0
  · have e5 := evR5_err0 (B := B) (L := L) (a0 := a0) c0
    rw [e5, if_neg c0, if_neg c0, q0]
    exact readEv_0 sl L cap a0 B w hL ha hBy (by rw [← q0]; exact c0)
  have d0 : (evR0 B L a0 0).2.2 = 0 := by omega
  have q1 : evR1 B L a0 0 = rdNum B L (evR0 B L a0 0).2.1 := rdSt_zero d0
  by_cases c1 : (evR1 B L a0 0).2.2 ≠ 0
  · have e5 := evR5_err1 (B := B) (L := L) (a0 := a0) c1
    rw [e5, if_neg c1, if_neg c1, q1]
    exact readEv_1 sl L cap a0 B w hL ha hBy (by rw [← q0]; exact d0) (evR0 B L a0 0).2.1 (by rw [q0]) (by rw [← q1]; exact c1)
  have d1 : (evR1 B L a0 0).2.2 = 0 := by omega
  have q2 : evR2 B L a0 0 = rdNum B L (evR1 B L a0 0).2.1 := rdSt_zero d1
  by_cases c2 : (evR2 B L a0 0).2.2 ≠ 0
  · have e5 := evR5_err2 (B := B) (L := L) (a0 := a0) c2
    rw [e5, if_neg c2, if_neg c2, q2]
    exact readEv_2 sl L cap a0 B w hL ha hBy (by rw [← q0]; exact d0) (evR0 B L a0 0).2.1 (by rw [q0]) (by rw [← q1]; exact d1) (evR1 B L a0 0).2.1 (by rw [q1]) (by rw [← q2]; exact c2)
  have d2 : (evR2 B L a0 0).2.2 = 0 := by omega
  have q3 : evR3 B L a0 0 = rdNum B L (evR2 B L a0 0).2.1 := rdSt_zero d2
  by_cases c3 : (evR3 B L a0 0).2.2 ≠ 0
  · have e5 := evR5_err3 (B := B) (L := L) (a0 := a0) c3
    rw [e5, if_neg c3, if_neg c3, q3]
    exact readEv_3 sl L cap a0 B w hL ha hBy (by rw [← q0]; exact d0) (evR0 B L a0 0).2.1 (by rw [q0]) (by rw [← q1]; exact d1) (evR1 B L a0 0).2.1 (by rw [q1]) (by rw [← q2]; exact d2) (evR2 B L a0 0).2.1 (by rw [q2]) (by rw [← q3]; exact c3)
  have d3 : (evR3 B L a0 0).2.2 = 0 := by omega
  have q4 : evR4 B L a0 0 = rdNum B L (evR3 B L a0 0).2.1 := rdSt_zero d3
  by_cases c4 : (evR4 B L a0 0).2.2 ≠ 0
  · have e5 := evR5_err4 (B := B) (L := L) (a0 := a0) c4
    rw [e5, if_neg c4, if_neg c4, q4]
    exact readEv_4 sl L cap a0 B w hL ha hBy (by rw [← q0]; exact d0) (evR0 B L a0 0).2.1 (by rw [q0]) (by rw [← q1]; exact d1) (evR1 B L a0 0).2.1 (by rw [q1]) (by rw [← q2]; exact d2) (evR2 B L a0 0).2.1 (by rw [q2]) (by rw [← q3]; exact d3) (evR3 B L a0 0).2.1 (by rw [q3]) (by rw [← q4]; exact c4)
  have d4 : (evR4 B L a0 0).2.2 = 0 := by omega
  have q5 : evR5 B L a0 0 = rdNum B L (evR4 B L a0 0).2.1 := rdSt_zero d4
  by_cases c5 : (evR5 B L a0 0).2.2 ≠ 0
  · have e5 := evR5_err5 (B := B) (L := L) (a0 := a0) c5
    rw [e5, if_neg c5, if_neg c5, q5]
    exact readEv_5 sl L cap a0 B w hL ha hBy (by rw [← q0]; exact d0) (evR0 B L a0 0).2.1 (by rw [q0]) (by rw [← q1]; exact d1) (evR1 B L a0 0).2.1 (by rw [q1]) (by rw [← q2]; exact d2) (evR2 B L a0 0).2.1 (by rw [q2]) (by rw [← q3]; exact d3) (evR3 B L a0 0).2.1 (by rw [q3]) (by rw [← q4]; exact d4) (evR4 B L a0 0).2.1 (by rw [q4]) (by rw [← q5]; exact c5)
  have d5 : (evR5 B L a0 0).2.2 = 0 := by omega
  rw [if_pos d5, if_pos d5, d5]
  have hh := readEv_6 sl L cap a0 B w hL ha hBy (by rw [← q0]; exact d0) (evR0 B L a0 0).2.1 (by rw [q0]) (by rw [← q1]; exact d1) (evR1 B L a0 0).2.1 (by rw [q1]) (by rw [← q2]; exact d2) (evR2 B L a0 0).2.1 (by rw [q2]) (by rw [← q3]; exact d3) (evR3 B L a0 0).2.1 (by rw [q3]) (by rw [← q4]; exact d4) (evR4 B L a0 0).2.1 (by rw [q4]) (by rw [← q5]; exact d5)
  rw [← q5, ← q4, ← q3, ← q2, ← q1, ← q0] at hh
  exact hh

end Go.Proofs.Ytcibmbcfpecgpaa
