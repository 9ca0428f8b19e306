import Derived.Test.YtcifdlncbekohaaDoorRd3
import Derived.RegionTactic
import Derived.BigRegion
namespace Go.Proofs.YtcifdlncbekohaaDoor
open Go.ChangeShapes Go.WideShapes Go.ChangeAt Go.RowKit

def zeroEv : Array Value := #[.int .u64 0, .int .i64 0, .int .u64 0, .int .i64 0, .int .i64 0, .int .i64 0]

theorem block6 {w : World} {h : Nat} {v0 v1 v2 v3 v4 v5 : Value} {T : TypeId} (hb : w.heap[h]? = some (.cells #[v0, v1, v2, v3, v4, v5] T (0, 0))) :
    (w.cell? ⟨h, 0, none⟩ = some v0 ∧ w.cell? ⟨h, 1, none⟩ = some v1 ∧ w.cell? ⟨h, 2, none⟩ = some v2 ∧ w.cell? ⟨h, 3, none⟩ = some v3 ∧ w.cell? ⟨h, 4, none⟩ = some v4 ∧ w.cell? ⟨h, 5, none⟩ = some v5) ∧
    (w.frozen? ⟨h, 0, none⟩ = false ∧ w.frozen? ⟨h, 1, none⟩ = false ∧ w.frozen? ⟨h, 2, none⟩ = false ∧ w.frozen? ⟨h, 3, none⟩ = false ∧ w.frozen? ⟨h, 4, none⟩ = false ∧ w.frozen? ⟨h, 5, none⟩ = false) := by
  refine ⟨⟨?_, ?_, ?_, ?_, ?_, ?_⟩, ?_, ?_, ?_, ?_, ?_, ?_⟩ <;> simp [World.cell?, World.frozen?, hb]

theorem unp_start (b off L cap : Nat) (B : Nat → Int) (w : World) (hb : b < w.heap.size) (hB : ∀ i, i < L → w.cell? ⟨b, off + i, none⟩ = some (.int .u8 (B i))) :
    Rdr ((w.alloc (.cells #[.int .u64 0, .int .i64 0, .int .u64 0, .int .i64 0, .int .i64 0, .int .i64 0] 36)).alloc (.cells #[.slice (some ⟨b, off, none⟩) L cap, .int .i64 0, .int .i64 0] 51)) ((w.alloc (.cells #[.int .u64 0, .int .i64 0, .int .u64 0, .int .i64 0, .int .i64 0, .int .i64 0] 36)).alloc (.cells #[.slice (some ⟨b, off, none⟩) L cap, .int .i64 0, .int .i64 0] 51)) (w.heap.size + 1) b off L cap 0 0 ∧ b < ((w.alloc (.cells #[.int .u64 0, .int .i64 0, .int .u64 0, .int .i64 0, .int .i64 0, .int .i64 0] 36)).alloc (.cells #[.slice (some ⟨b, off, none⟩) L cap, .int .i64 0, .int .i64 0] 51)).heap.size ∧ (∀ i, i < L → ((w.alloc (.cells #[.int .u64 0, .int .i64 0, .int .u64 0, .int .i64 0, .int .i64 0, .int .i64 0] 36)).alloc (.cells #[.slice (some ⟨b, off, none⟩) L cap, .int .i64 0, .int .i64 0] 51)).cell? ⟨b, off + i, none⟩ = some (.int .u8 (B i))) ∧ ((w.alloc (.cells #[.int .u64 0, .int .i64 0, .int .u64 0, .int .i64 0, .int .i64 0, .int .i64 0] 36)).alloc (.cells #[.slice (some ⟨b, off, none⟩) L cap, .int .i64 0, .int .i64 0] 51)).heap[w.heap.size]? = some (.cells #[.int .u64 0, .int .i64 0, .int .u64 0, .int .i64 0, .int .i64 0, .int .i64 0] 36) := by
  have far : ∀ k, k < w.heap.size → ((w.alloc (.cells #[.int .u64 0, .int .i64 0, .int .u64 0, .int .i64 0, .int .i64 0, .int .i64 0] 36)).alloc (.cells #[.slice (some ⟨b, off, none⟩) L cap, .int .i64 0, .int .i64 0] 51)).heap[k]? = w.heap[k]? := fun k hk => by
    rw [Below.heap_alloc _ _ _ (by simp <;> omega), Below.heap_alloc _ _ _ hk]
  refine ⟨⟨?_, rfl, rfl, rfl, rfl, fun _ _ => rfl⟩, by simp; omega, fun i hi => (World.cell?_of_block (far b hb)).trans (hB i hi), ?_⟩
  · simpa using heap_alloc_new (w.alloc (.cells #[.int .u64 0, .int .i64 0, .int .u64 0, .int .i64 0, .int .i64 0, .int .i64 0] 36)) (.cells #[.slice (some ⟨b, off, none⟩) L cap, .int .i64 0, .int .i64 0] 51)
  · rw [Below.heap_alloc _ _ _ (by simp)]
    exact heap_alloc_new w _

set_option maxHeartbeats 2000000 in
theorem unpack_any (b off L cap : Nat) (B : Nat → Int) (w : World) (hL : L ≤ 1000000000000000) (hb : b < w.heap.size)
    (hB : ∀ i, i < L → w.cell? ⟨b, off + i, none⟩ = some (.int .u8 (B i))) (bB : ∀ i, i < L → 0 ≤ B i ∧ B i ≤ 255) :
    Calls Tryd.prog 11 #[.slice (some ⟨b, off, none⟩) L cap] w fun r w' => r = .returned (.tuple #[.agg (if (evR5 B L 0 0).2.2 = 0 then evVals B L 0 0 else zeroEv), .int .i64 (if (evR5 B L 0 0).2.2 = 0 then (evR5 B L 0 0).2.1 else 0), .int .i64 (evR5 B L 0 0).2.2]) ∧ Below w.heap.size w w' := by
  obtain ⟨s1, s2, s3, s4⟩ := unp_start b off L cap B w hb hB
  go_enter Tryd.func11, Tryd.ntmps11
  clear hB
  go_wp2_with fail
  refine (event_any (w.heap.size + 1) b off L cap 0 0 B _ s1 hL (Nat.zero_le _) (by omega) s2 s3 bB (Or.inl rfl)).mono ?_
  rintro x w1 ⟨rfl, r1⟩
  clear s3 bB
  have hz1 : w.heap.size + 2 ≤ w1.heap.size := by have := r1.size; simp at this; omega
  have hres := block6 ((r1.far w.heap.size (by simp <;> omega) (by omega)).trans s4)
  have c1 : w1.cell? ⟨w.heap.size + 1, 1, none⟩ = some (.int .i64 (evR5 B L 0 0).2.1) := by unfold World.cell?; simp only [r1.blk]; rfl
  have c2 : w1.cell? ⟨w.heap.size + 1, 2, none⟩ = some (.int .i64 (evR5 B L 0 0).2.2) := by unfold World.cell?; simp only [r1.blk]; rfl
  have hbel : Below w.heap.size w w1 := ⟨r1.os, r1.tape, r1.output, by omega, fun k hk => (r1.far k (by simp <;> omega) (by omega)).trans (by rw [Below.heap_alloc _ _ _ (by simp <;> omega), Below.heap_alloc _ _ _ hk])⟩
  clear r1 s1 s2 s4
  have lt0 : w.heap.size < w1.heap.size := by omega
  have lt1 : w.heap.size + 1 < w1.heap.size := by omega
  have hv : evVals B L 0 0 = #[.int .u64 (evR0 B L 0 0).1, .int .i64 (unz (evR1 B L 0 0).1), .int .u64 (evR2 B L 0 0).1, .int .i64 (unz (evR3 B L 0 0).1), .int .i64 (unz (evR4 B L 0 0).1), .int .i64 (unz (evR5 B L 0 0).1)] := rfl
  by_cases he : (evR5 B L 0 0).2.2 = 0
  · go_wp2_with fail
    go_region
    go_wp2_with fail
    refine bodyPost_ret (v := .tuple #[.agg #[.int .u64 (evR0 B L 0 0).1, .int .i64 (unz (evR1 B L 0 0).1), .int .u64 (evR2 B L 0 0).1, .int .i64 (unz (evR3 B L 0 0).1), .int .i64 (unz (evR4 B L 0 0).1), .int .i64 (unz (evR5 B L 0 0).1)], .int .i64 (evR5 B L 0 0).2.1, .int .i64 0]) ?_ rfl ⟨rfl, (((((((hbel.setCell (p := ⟨w.heap.size, 0, none⟩) (Nat.le_refl _) _).setCell (p := ⟨w.heap.size, 1, none⟩) (Nat.le_refl _) _).setCell (p := ⟨w.heap.size, 2, none⟩) (Nat.le_refl _) _).setCell (p := ⟨w.heap.size, 3, none⟩) (Nat.le_refl _) _).setCell (p := ⟨w.heap.size, 4, none⟩) (Nat.le_refl _) _).setCell (p := ⟨w.heap.size, 5, none⟩) (Nat.le_refl _) _).alloc (by simp <;> omega) _).drew⟩
    simp [results, Tryd.results11, go_sem, hres, lt0]
  · have hb0 : ((evR5 B L 0 0).2.2 != 0) = true := by simp [he]
    go_wp2_with fail
    go_region
    go_wp2_with fail
    refine bodyPost_ret (v := .tuple #[.agg #[.int .u64 0, .int .i64 0, .int .u64 0, .int .i64 0, .int .i64 0, .int .i64 0], .int .i64 0, .int .i64 (evR5 B L 0 0).2.2]) ?_ rfl ⟨?_, (((((((hbel.setCell (p := ⟨w.heap.size, 0, none⟩) (Nat.le_refl _) _).setCell (p := ⟨w.heap.size, 1, none⟩) (Nat.le_refl _) _).setCell (p := ⟨w.heap.size, 2, none⟩) (Nat.le_refl _) _).setCell (p := ⟨w.heap.size, 3, none⟩) (Nat.le_refl _) _).setCell (p := ⟨w.heap.size, 4, none⟩) (Nat.le_refl _) _).setCell (p := ⟨w.heap.size, 5, none⟩) (Nat.le_refl _) _).alloc (by simp <;> omega) _).drew⟩
    · simp [results, Tryd.results11, go_sem, hres, lt0]
    · simp [zeroEv]
end Go.Proofs.YtcifdlncbekohaaDoor
