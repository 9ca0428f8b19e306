import Derived.Test.YtpeojhhbinfekacDoorSameB
import Derived.Test.YtpeojhhbinfekacDoorText2
import Derived.Test.YtpeojhhbinfekacDoorParsePure
namespace Go.Proofs.YtpeojhhbinfekacDoor
open Go.ChangeShapes Go.WideShapes Go.ChangeAt Go.RowKit

/-- the two given events stay where the call has put them -/
def Two (w : World) (e f : Ev) (w' : World) : Prop :=
  w'.cell? ⟨w.heap.size, 0, none⟩ = some (.int .u64 e.t) ∧ w'.cell? ⟨w.heap.size, 1, none⟩ = some (.int .i64 e.s) ∧ w'.cell? ⟨w.heap.size, 2, none⟩ = some (.int .u64 e.q) ∧ w'.cell? ⟨w.heap.size, 3, none⟩ = some (.int .i64 e.d) ∧ w'.cell? ⟨w.heap.size, 4, none⟩ = some (.int .i64 e.k) ∧ w'.cell? ⟨w.heap.size, 5, none⟩ = some (.int .i64 e.v) ∧
  w'.cell? ⟨w.heap.size + 1, 0, none⟩ = some (.int .u64 f.t) ∧ w'.cell? ⟨w.heap.size + 1, 1, none⟩ = some (.int .i64 f.s) ∧ w'.cell? ⟨w.heap.size + 1, 2, none⟩ = some (.int .u64 f.q) ∧ w'.cell? ⟨w.heap.size + 1, 3, none⟩ = some (.int .i64 f.d) ∧ w'.cell? ⟨w.heap.size + 1, 4, none⟩ = some (.int .i64 f.k) ∧ w'.cell? ⟨w.heap.size + 1, 5, none⟩ = some (.int .i64 f.v) ∧
  w.heap.size + 2 ≤ w'.heap.size ∧ Below w.heap.size w w'
theorem Two.keep {w w1 w2 : World} {e f : Ev} (h : Two w e f w1) (hb : Below w1.heap.size w1 w2) : Two w e f w2 := by
  obtain ⟨a0, a1, a2, a3, a4, a5, b0, b1, b2, b3, b4, b5, hz, hB⟩ := h
  have f0 : ∀ o, w2.cell? ⟨w.heap.size, o, none⟩ = w1.cell? ⟨w.heap.size, o, none⟩ := fun o => World.cell?_of_block (hb.block _ (by show w.heap.size < _; omega))
  have f1 : ∀ o, w2.cell? ⟨w.heap.size + 1, o, none⟩ = w1.cell? ⟨w.heap.size + 1, o, none⟩ := fun o => World.cell?_of_block (hb.block _ (by show w.heap.size + 1 < _; omega))
  unfold Two
  simp only [f0, f1]
  exact ⟨a0, a1, a2, a3, a4, a5, b0, b1, b2, b3, b4, b5, Nat.le_trans hz hb.size, hB.trans (hb.mono (by omega))⟩
theorem Two.start (w : World) (e f : Ev) : Two w e f ((w.alloc (.cells #[.int .u64 e.t, .int .i64 e.s, .int .u64 e.q, .int .i64 e.d, .int .i64 e.k, .int .i64 e.v] 26)).alloc (.cells #[.int .u64 f.t, .int .i64 f.s, .int .u64 f.q, .int .i64 f.d, .int .i64 f.k, .int .i64 f.v] 26)) := by
  have h0 : ((w.alloc (.cells #[.int .u64 e.t, .int .i64 e.s, .int .u64 e.q, .int .i64 e.d, .int .i64 e.k, .int .i64 e.v] 26)).alloc (.cells #[.int .u64 f.t, .int .i64 f.s, .int .u64 f.q, .int .i64 f.d, .int .i64 f.k, .int .i64 f.v] 26)).heap[w.heap.size]? = some (.cells #[.int .u64 e.t, .int .i64 e.s, .int .u64 e.q, .int .i64 e.d, .int .i64 e.k, .int .i64 e.v] 26 (0, 0)) := by
    rw [Below.heap_alloc _ _ _ (by simp)]
    exact heap_alloc_new w _
  have h1 : ((w.alloc (.cells #[.int .u64 e.t, .int .i64 e.s, .int .u64 e.q, .int .i64 e.d, .int .i64 e.k, .int .i64 e.v] 26)).alloc (.cells #[.int .u64 f.t, .int .i64 f.s, .int .u64 f.q, .int .i64 f.d, .int .i64 f.k, .int .i64 f.v] 26)).heap[w.heap.size + 1]? = some (.cells #[.int .u64 f.t, .int .i64 f.s, .int .u64 f.q, .int .i64 f.d, .int .i64 f.k, .int .i64 f.v] 26 (0, 0)) := by
    simpa using heap_alloc_new (w.alloc (.cells #[.int .u64 e.t, .int .i64 e.s, .int .u64 e.q, .int .i64 e.d, .int .i64 e.k, .int .i64 e.v] 26)) (.cells #[.int .u64 f.t, .int .i64 f.s, .int .u64 f.q, .int .i64 f.d, .int .i64 f.k, .int .i64 f.v] 26)
  obtain ⟨⟨a0, a1, a2, a3, a4, a5⟩, _⟩ := block6 h0
  obtain ⟨⟨b0, b1, b2, b3, b4, b5⟩, _⟩ := block6 h1
  exact ⟨a0, a1, a2, a3, a4, a5, b0, b1, b2, b3, b4, b5, by simp, ((Below.refl _ _).alloc (Nat.le_refl _) _).alloc (by simp) _⟩

theorem ev_eq {e f : Ev} (h0 : e.t = f.t) (h1 : e.q = f.q) (h2 : e.s = f.s) (h3 : e.d = f.d) (h4 : e.k = f.k) (h5 : e.v = f.v) : e = f := by
  cases e; cases f; simp_all
theorem bytes_inj {e f : Ev} (h : e.bytes = f.bytes) : e = f := by
  obtain ⟨h0, h1, h2, h3, h4, h5⟩ := evb_inj h
  exact ev_eq h0 h1 h2 h3 h4 h5
def Ev.txt (e : Ev) : List UInt8 := YtpeojhhbinfekacDoor.txt e.t e.q e.s e.d e.k e.v
theorem txt_inj' {e f : Ev} (g : e.In) (k : f.In) (h : e.txt = f.txt) : e = f := by
  obtain ⟨a1, a2, a3, a4, a5, a6⟩ := cuts_txt e.t e.q e.s e.d e.k e.v
  obtain ⟨b1, b2, b3, b4, b5, b6⟩ := cuts_txt f.t f.q f.s f.d f.k f.v
  unfold Ev.txt at h
  rw [h] at a1 a2 a3 a4 a5 a6
  have x1 := congrArg pU (a1.symm.trans b1)
  have x2 := congrArg pI (a2.symm.trans b2)
  have x3 := congrArg pU (a3.symm.trans b3)
  have x4 := congrArg pI (a4.symm.trans b4)
  have x5 := congrArg pI (a5.symm.trans b5)
  have x6 := congrArg pI (a6.symm.trans b6)
  rw [pU_dec _ g.t, pU_dec _ k.t] at x1
  rw [pU_dec _ g.q, pU_dec _ k.q] at x3
  rw [pI_itoa _ g.s.1 g.s.2, pI_itoa _ k.s.1 k.s.2] at x2
  rw [pI_itoa _ g.d.1 g.d.2, pI_itoa _ k.d.1 k.d.2] at x4
  rw [pI_itoa _ g.k.1 g.k.2, pI_itoa _ k.k.1 k.k.2] at x5
  rw [pI_itoa _ g.v.1 g.v.2, pI_itoa _ k.v.1 k.v.2] at x6
  exact ev_eq x1 x3 x2 x4 x5 x6
theorem bytes_pos (e : Ev) : 0 < e.bytes.length := by
  have := enc_pos e.t
  simp [Ev.bytes, evb]
  omega
end Go.Proofs.YtpeojhhbinfekacDoor
