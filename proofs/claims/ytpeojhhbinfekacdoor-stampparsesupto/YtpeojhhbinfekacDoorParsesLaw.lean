import Derived.Test.YtpeojhhbinfekacDoorRefParse
import Derived.ChangeOld
namespace Go.Proofs.YtpeojhhbinfekacDoor
open Go.ChangeShapes Go.WideShapes Go.ChangeAt Go.RowKit

theorem Answer.form {l : List UInt8} {e : Value} {n : Int} (h : Answer l e n) : ∃ (v0 v1 v2 v3 v4 v5 : Int), e = .agg #[.int .u64 v0, .int .i64 v1, .int .u64 v2, .int .i64 v3, .int .i64 v4, .int .i64 v5] ∧ (n = 0 ∨ n = 12) := by
  rcases h with ⟨t, q, s, d, k, v, _, _, rfl, rfl⟩ | ⟨_, rfl, rfl⟩
  · exact ⟨_, _, _, _, _, _, rfl, Or.inl rfl⟩
  · exact ⟨_, _, _, _, _, _, rfl, Or.inr rfl⟩

set_option maxHeartbeats 2000000 in
theorem law_parses (l : List UInt8) (hl : l.length ≤ 4294967280) (w : World) (g : Gr w) :
    Calls Tryd.prog 4 #[.string ⟨l.toArray⟩] w fun r w' => r = .returned (.bool true) ∧ Below w.heap.size w w' := by
  go_enter Tryd.func4, Tryd.ntmps4
  go_wp2_with fail
  refine (parse_any l hl _ g).mono ?_
  rintro x w1 ⟨ev, n, rfl, ha, b1⟩
  obtain ⟨v0, v1, v2, v3, v4, v5, rfl, hn⟩ := ha.form
  go_wp2_with fail
  refine (refParse_any l hl _).mono ?_
  rintro x w2 ⟨ev, n', rfl, ha', b2⟩
  obtain ⟨rfl, rfl⟩ := ha'.one ha
  clear ha ha' g
  have hc := block6 ((b2.block w1.heap.size (by simp)).trans (heap_alloc_new w1 (.cells #[.int .u64 v0, .int .i64 v1, .int .u64 v2, .int .i64 v3, .int .i64 v4, .int .i64 v5] 26)))
  have hz := b1.size
  have hB : Below w.heap.size w w2 := (b1.alloc hz _).trans (b2.mono (by simp; omega))
  have hz2 : w1.heap.size < w2.heap.size := by have := b2.size; simp at this; omega
  have hB2 := hB.alloc hB.size (.cells #[.int .u64 v0, .int .i64 v1, .int .u64 v2, .int .i64 v3, .int .i64 v4, .int .i64 v5] 26)
  clear b1 b2 hB
  have m0 : (v0 == v0) = true := by simp
  have m1 : (v1 == v1) = true := by simp
  have m2 : (v2 == v2) = true := by simp
  have m3 : (v3 == v3) = true := by simp
  have m4 : (v4 == v4) = true := by simp
  have m5 : (v5 == v5) = true := by simp
  have m6 : (n' == n') = true := by simp
  go_wp2_with fail
  go_ret
  exact ⟨rfl, hB2⟩
end Go.Proofs.YtpeojhhbinfekacDoor
