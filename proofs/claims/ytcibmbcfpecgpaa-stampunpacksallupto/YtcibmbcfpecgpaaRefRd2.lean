import Derived.Test.YtcibmbcfpecgpaaRefRd
import Derived.Test.YtcibmbcfpecgpaaRd3
namespace Go.Proofs.Ytcibmbcfpecgpaa
open Go.ChangeShapes Go.WideShapes Go.ChangeAt Go.RowKit

/-- the bytes of a slice that came in or was made: none, or L cells in a row -/
def BytesAt (w : World) (sl : Option Addr) (L : Nat) (B : Nat → Int) : Prop :=
  (L = 0 ∨ ∃ b off, sl = some ⟨b, off, none⟩ ∧ b < w.heap.size ∧ ∀ i, i < L → w.cell? ⟨b, off + i, none⟩ = some (.int .u8 (B i))) ∧ ∀ i, i < L → 0 ≤ B i ∧ B i ≤ 255

theorem BytesAt.below {w w' : World} {sl : Option Addr} {L : Nat} {B : Nat → Int} (h : BytesAt w sl L B) (hb : Below w.heap.size w w') : BytesAt w' sl L B := by
  obtain ⟨h1, h2⟩ := h
  refine ⟨?_, h2⟩
  rcases h1 with h1 | ⟨b, off, rfl, hlt, hc⟩
  · exact .inl h1
  · exact .inr ⟨b, off, rfl, Nat.lt_of_lt_of_le hlt hb.size, fun i hi => (hb.cell hlt).trans (hc i hi)⟩

set_option maxHeartbeats 1000000 in
theorem refNum_none (sl : Option Addr) (cap a0 : Nat) (ha : a0 ≤ 1000000000000000) (B : Nat → Int) (w : World) :
    Calls Try.prog 29 #[.slice sl 0 cap, .int .i64 a0] w fun r w' => r = .returned (.tuple #[.int .u64 (ans (rdNum B 0 a0)).1, .int .i64 (ans (rdNum B 0 a0)).2.1, .int .i64 (ans (rdNum B 0 a0)).2.2]) ∧ w' = w := by
  have hv : rdNum B 0 a0 = (0, a0, 11) := rd_short (f := 9) (Nat.zero_le _)
  rw [hv]
  clear hv
  go_enter Try.func29, Try.ntmps29
  go_wp2
  refine wp_loop_rounds 1 ?_
  rw [rounds_succ]
  go_wp2
  go_ret3
  exact ⟨rfl, rfl⟩

theorem refNum_any (sl : Option Addr) (L cap a0 : Nat) (B : Nat → Int) (w : World) (hL : L ≤ 1000000000000000) (ha : a0 ≤ L) (h : BytesAt w sl L B) :
    Calls Try.prog 29 #[.slice sl L cap, .int .i64 a0] w fun r w' => r = .returned (.tuple #[.int .u64 (ans (rdNum B L a0)).1, .int .i64 (ans (rdNum B L a0)).2.1, .int .i64 (ans (rdNum B L a0)).2.2]) ∧ w' = w := by
  obtain ⟨h1, h2⟩ := h
  rcases h1 with rfl | ⟨b, off, rfl, hlt, hc⟩
  · exact refNum_none sl cap a0 (by omega) B w
  · exact refNum_some b off L cap a0 B w hL ha hc h2

theorem ans_ok {r : Int × Nat × Int} (h : r.2.2 = 0) : ans r = r := by simp [ans, h]
theorem ans_err {r : Int × Nat × Int} (h : r.2.2 ≠ 0) : ans r = (0, 0, r.2.2) := by simp [ans, h]

set_option maxHeartbeats 1000000 in
theorem refSign_any (sl : Option Addr) (L cap a0 : Nat) (B : Nat → Int) (w : World) (hL : L ≤ 1000000000000000) (ha : a0 ≤ L) (h : BytesAt w sl L B) (hok : (rdNum B L a0).2.2 = 0) :
    Calls Try.prog 31 #[.slice sl L cap, .int .i64 a0] w fun r w' => r = .returned (.tuple #[.int .i64 (unz (rdNum B L a0).1), .int .i64 (rdNum B L a0).2.1, .int .i64 0]) ∧ w' = w := by
  have hb := (rdNum_ok (B := B) (L := L) (a := a0) h.2 ha).1
  have hnum := fun W (hW : BytesAt W sl L B) => refNum_any sl L cap a0 B W hL ha hW
  rw [ans_ok hok, hok] at hnum
  obtain ⟨n, hn⟩ : ∃ n, (rdNum B L a0).1 = n := ⟨_, rfl⟩
  obtain ⟨m, hm⟩ : ∃ m, (rdNum B L a0).2.1 = m := ⟨_, rfl⟩
  rw [hn] at hb
  rw [hn, hm] at hnum
  rw [hn, hm]
  have HN : Hid (∀ W, BytesAt W sl L B → Calls Try.prog 29 #[.slice sl L cap, .int .i64 a0] W fun r w' => r = .returned (.tuple #[.int .u64 n, .int .i64 m, .int .i64 0]) ∧ w' = W) := hnum
  clear hnum hn hm hok
  by_cases hp : n % 2 = 0
  · have hv : unz n = n / 2 := by simp [unz, hp]
    have HV := (show Hid (unz n = n / 2) from hv)
    clear hv
    go_enter Try.func31, Try.ntmps31
    go_wp2_with (go_at_call 29; refine (HN.out _ h).mono ?_; rintro e w' ⟨rfl, rfl⟩)
    go_ret3
    rw [HV.out]
    exact ⟨rfl, rfl⟩
  · have hv : unz n = -(n / 2) - 1 := by simp [unz, hp]
    have HV := (show Hid (unz n = -(n / 2) - 1) from hv)
    have hp' : n % 2 = 1 := by omega
    clear hv hp
    go_enter Try.func31, Try.ntmps31
    go_wp2_with (go_at_call 29; refine (HN.out _ h).mono ?_; rintro e w' ⟨rfl, rfl⟩)
    go_ret3
    rw [HV.out]
    exact ⟨rfl, rfl⟩
end Go.Proofs.Ytcibmbcfpecgpaa
