import Derived.Test.YtcibmbcfpecgpaaRd3
import Derived.RegionTactic
import Derived.BigRegion
namespace Go.Proofs.Ytcibmbcfpecgpaa
open Go.ChangeShapes Go.WideShapes Go.ChangeAt Go.RowKit

def zeroEv : Array Value := #[.int .u64 0, .int .i64 0, .int .u64 0, .int .i64 0, .int .i64 0, .int .i64 0]

theorem block6 {w : World} {h : Nat} {v0 v1 v2 v3 v4 v5 : Value} {T : TypeId} (hb : w.heap[h]? = some (.cells #[v0, v1, v2, v3, v4, v5] T (0, 0))) :
    (w.cell? ⟨h, 0, none⟩ = some v0 ∧ w.cell? ⟨h, 1, none⟩ = some v1 ∧ w.cell? ⟨h, 2, none⟩ = some v2 ∧ w.cell? ⟨h, 3, none⟩ = some v3 ∧ w.cell? ⟨h, 4, none⟩ = some v4 ∧ w.cell? ⟨h, 5, none⟩ = some v5) ∧
    (w.frozen? ⟨h, 0, none⟩ = false ∧ w.frozen? ⟨h, 1, none⟩ = false ∧ w.frozen? ⟨h, 2, none⟩ = false ∧ w.frozen? ⟨h, 3, none⟩ = false ∧ w.frozen? ⟨h, 4, none⟩ = false ∧ w.frozen? ⟨h, 5, none⟩ = false) := by
  refine ⟨⟨?_, ?_, ?_, ?_, ?_, ?_⟩, ?_, ?_, ?_, ?_, ?_, ?_⟩ <;> simp [World.cell?, World.frozen?, hb]

theorem unp_start (b off L cap : Nat) (B : Nat → Int) (w : World) (hb : b < w.heap.size) (hB : ∀ i, i < L → w.cell? ⟨b, off + i, none⟩ = some (.int .u8 (B i))) :
    Rdr ((w.alloc (.cells #[.int .u64 0, .int .i64 0, .int .u64 0, .int .i64 0, .int .i64 0, .int .i64 0] 26)).alloc (.cells #[.slice (some ⟨b, off, none⟩) L cap, .int .i64 0, .int .i64 0] 53)) ((w.alloc (.cells #[.int .u64 0, .int .i64 0, .int .u64 0, .int .i64 0, .int .i64 0, .int .i64 0] 26)).alloc (.cells #[.slice (some ⟨b, off, none⟩) L cap, .int .i64 0, .int .i64 0] 53)) (w.heap.size + 1) b off L cap 0 0 ∧ b < ((w.alloc (.cells #[.int .u64 0, .int .i64 0, .int .u64 0, .int .i64 0, .int .i64 0, .int .i64 0] 26)).alloc (.cells #[.slice (some ⟨b, off, none⟩) L cap, .int .i64 0, .int .i64 0] 53)).heap.size ∧ (∀ i, i < L → ((w.alloc (.cells #[.int .u64 0, .int .i64 0, .int .u64 0, .int .i64 0, .int .i64 0, .int .i64 0] 26)).alloc (.cells #[.slice (some ⟨b, off, none⟩) L cap, .int .i64 0, .int .i64 0] 53)).cell? ⟨b, off + i, none⟩ = some (.int .u8 (B i))) ∧ ((w.alloc (.cells #[.int .u64 0, .int .i64 0, .int .u64 0, .int .i64 0, .int .i64 0, .int .i64 0] 26)).alloc (.cells #[.slice (some ⟨b, off, none⟩) L cap, .int .i64 0, .int .i64 0] 53)).heap[w.heap.size]? = some (.cells #[.int .u64 0, .int .i64 0, .int .u64 0, .int .i64 0, .int .i64 0, .int .i64 0] 26) := by
  have far : ∀ k, k < w.heap.size → ((w.alloc (.cells #[.int .u64 0, .int .i64 0, .int .u64 0, .int .i64 0, .int .i64 0, .int .i64 0] 26)).alloc (.cells #[.slice (some ⟨b, off, none⟩) L cap, .int .i64 0, .int .i64 0] 53)).heap[k]? = w.heap[k]? := fun k hk => by
    rw [Below.heap_alloc _ _ _ (by simp <;> omega), Below.heap_alloc _ _ _ hk]
  refine ⟨⟨?_, rfl, rfl, rfl, rfl, fun _ _ => rfl⟩, by simp; omega, fun i hi => (World.cell?_of_block (far b hb)).trans (hB i hi), ?_⟩
  · simpa using heap_alloc_new (w.alloc (.cells #[.int .u64 0, .int .i64 0, .int .u64 0, .int .i64 0, .int .i64 0, .int .i64 0] 26)) (.cells #[.slice (some ⟨b, off, none⟩) L cap, .int .i64 0, .int .i64 0] 53)
  · rw [Below.heap_alloc _ _ _ (by simp)]
    exact heap_alloc_new w _

end Go.Proofs.Ytcibmbcfpecgpaa
