import Derived.Test.YtcifdlncbekohaaDoorRd2
namespace Go.Proofs.YtcifdlncbekohaaDoor
open Go.ChangeShapes Go.WideShapes Go.ChangeAt Go.RowKit

/-- while an event is read: the reader's block, the bytes, the event's block and the result's block -/
structure EvSt (w wr : World) (rb b off L cap : Nat) (B : Nat → Int) (a : Nat) (e : Int) (cs : Array Value) : Prop where
  rd : wr.heap[rb]? = some (.cells #[.slice (some ⟨b, off, none⟩) L cap, .int .i64 a, .int .i64 e] 51 (0, 0))
  bs : ∀ i, i < L → wr.cell? ⟨b, off + i, none⟩ = some (.int .u8 (B i))
  ev : wr.heap[w.heap.size + 1]? = some (.cells cs 36 (0, 0))
  re : wr.heap[w.heap.size]? = some (.cells #[.int .u64 0, .int .i64 0, .int .u64 0, .int .i64 0, .int .i64 0, .int .i64 0] 36 (0, 0))
  os : wr.os = w.os
  tape : wr.tape = w.tape
  output : wr.output = w.output
  size : wr.heap.size = w.heap.size + 2
  far : ∀ k, k < w.heap.size → k ≠ rb → wr.heap[k]? = w.heap[k]?

theorem EvSt.rdr {w wr : World} {rb b off L cap : Nat} {B : Nat → Int} {a : Nat} {e : Int} {cs : Array Value} (h : EvSt w wr rb b off L cap B a e cs) : Rdr wr wr rb b off L cap a e := ⟨h.rd, rfl, rfl, rfl, rfl, fun _ _ => rfl⟩

theorem EvSt.called {w wr w1 : World} {rb b off L cap : Nat} {B : Nat → Int} {a a' : Nat} {e e' : Int} {cs : Array Value} (h : EvSt w wr rb b off L cap B a e cs) (r : Rdr wr w1 rb b off L cap a' e') (hrb : rb < w.heap.size) (hne : b ≠ rb) : EvSt w w1 rb b off L cap B a' e' cs :=
  ⟨r.blk, fun i hi => (World.cell?_of_block (r.far b hne)).trans (h.bs i hi), (r.far _ (by omega)).trans h.ev, (r.far _ (by omega)).trans h.re, r.os.trans h.os, r.tape.trans h.tape, r.output.trans h.output, r.size.trans h.size, fun k hk hne => (r.far k hne).trans (h.far k hk hne)⟩

theorem EvSt.store {w wr : World} {rb b off L cap : Nat} {B : Nat → Int} {a : Nat} {e : Int} {cs : Array Value} (h : EvSt w wr rb b off L cap B a e cs) (j : Nat) (v : Value) (hrb : rb < w.heap.size) (hb : b < w.heap.size) : EvSt w (wr.setCell ⟨w.heap.size + 1, j, none⟩ v) rb b off L cap B a e (cs.setIfInBounds j v) := by
  have far : ∀ k, k ≠ w.heap.size + 1 → (wr.setCell ⟨w.heap.size + 1, j, none⟩ v).heap[k]? = wr.heap[k]? := fun k hk => Below.heap_setCell wr _ v k hk
  refine ⟨(far _ (by omega)).trans h.rd, fun i hi => (World.cell?_of_block (far b (by omega))).trans (h.bs i hi), ?_, (far _ (by omega)).trans h.re, h.os, h.tape, h.output, by simp [h.size], fun k hk hne => (far k (by omega)).trans (h.far k hk hne)⟩
  simp [World.setCell, Array.getElem?_modify, h.ev]

theorem EvSt.start {w : World} {rb b off L cap : Nat} {B : Nat → Int} {a : Nat} {e : Int} (hR : Rdr w w rb b off L cap a e) (hB : ∀ i, i < L → w.cell? ⟨b, off + i, none⟩ = some (.int .u8 (B i))) (hb : b < w.heap.size) (hrb : rb < w.heap.size) :
    EvSt w ((w.alloc (.cells #[.int .u64 0, .int .i64 0, .int .u64 0, .int .i64 0, .int .i64 0, .int .i64 0] 36)).alloc (.cells #[.int .u64 0, .int .i64 0, .int .u64 0, .int .i64 0, .int .i64 0, .int .i64 0] 36)) rb b off L cap B a e #[.int .u64 0, .int .i64 0, .int .u64 0, .int .i64 0, .int .i64 0, .int .i64 0] := by
  have far : ∀ k, k < w.heap.size → ((w.alloc (.cells #[.int .u64 0, .int .i64 0, .int .u64 0, .int .i64 0, .int .i64 0, .int .i64 0] 36)).alloc (.cells #[.int .u64 0, .int .i64 0, .int .u64 0, .int .i64 0, .int .i64 0, .int .i64 0] 36)).heap[k]? = w.heap[k]? := fun k hk => by
    rw [Below.heap_alloc _ _ _ (by simp <;> omega), Below.heap_alloc _ _ _ hk]
  refine ⟨(far rb hrb).trans hR.blk, fun i hi => (World.cell?_of_block (far b hb)).trans (hB i hi), ?_, ?_, rfl, rfl, rfl, by simp, fun k hk _ => far k hk⟩
  · simpa using heap_alloc_new (w.alloc (.cells #[.int .u64 0, .int .i64 0, .int .u64 0, .int .i64 0, .int .i64 0, .int .i64 0] 36)) (.cells #[.int .u64 0, .int .i64 0, .int .u64 0, .int .i64 0, .int .i64 0, .int .i64 0] 36)
  · rw [Below.heap_alloc _ _ _ (by simp)]
    exact heap_alloc_new w _

theorem EvSt.cell {w wr : World} {rb b off L cap : Nat} {B : Nat → Int} {a : Nat} {e : Int} {cs : Array Value} (h : EvSt w wr rb b off L cap B a e cs) (j : Nat) (v : Value) (hv : cs[j]? = some v) :
    wr.cell? ⟨w.heap.size + 1, j, none⟩ = some v ∧ wr.frozen? ⟨w.heap.size + 1, j, none⟩ = false := by
  have := h.ev
  refine ⟨?_, ?_⟩
  · unfold World.cell?
    simp only [this]
    exact hv
  · simp [World.frozen?, this]

theorem EvSt.res {w wr : World} {rb b off L cap : Nat} {B : Nat → Int} {a : Nat} {e : Int} {cs : Array Value} (h : EvSt w wr rb b off L cap B a e cs) :
    wr.cell? ⟨w.heap.size, 0, none⟩ = some (.int .u64 0) ∧ wr.cell? ⟨w.heap.size, 1, none⟩ = some (.int .i64 0) ∧ wr.cell? ⟨w.heap.size, 2, none⟩ = some (.int .u64 0) ∧ wr.cell? ⟨w.heap.size, 3, none⟩ = some (.int .i64 0) ∧ wr.cell? ⟨w.heap.size, 4, none⟩ = some (.int .i64 0) ∧ wr.cell? ⟨w.heap.size, 5, none⟩ = some (.int .i64 0) ∧
    wr.frozen? ⟨w.heap.size, 0, none⟩ = false ∧ wr.frozen? ⟨w.heap.size, 1, none⟩ = false ∧ wr.frozen? ⟨w.heap.size, 2, none⟩ = false ∧ wr.frozen? ⟨w.heap.size, 3, none⟩ = false ∧ wr.frozen? ⟨w.heap.size, 4, none⟩ = false ∧ wr.frozen? ⟨w.heap.size, 5, none⟩ = false := by
  have := h.re
  refine ⟨?_, ?_, ?_, ?_, ?_, ?_, ?_, ?_, ?_, ?_, ?_, ?_⟩ <;> simp [World.cell?, World.frozen?, this]

/-- what a reading of an event leaves: the reader moved on, new blocks, nothing else -/
structure RdB (w w' : World) (rb b off L cap a : Nat) (e : Int) : Prop where
  blk : w'.heap[rb]? = some (.cells #[.slice (some ⟨b, off, none⟩) L cap, .int .i64 a, .int .i64 e] 51 (0, 0))
  os : w'.os = w.os
  tape : w'.tape = w.tape
  output : w'.output = w.output
  size : w.heap.size ≤ w'.heap.size
  far : ∀ k, k < w.heap.size → k ≠ rb → w'.heap[k]? = w.heap[k]?

theorem EvSt.rdb {w wr : World} {rb b off L cap : Nat} {B : Nat → Int} {a : Nat} {e : Int} {cs : Array Value} (h : EvSt w wr rb b off L cap B a e cs) : RdB w wr rb b off L cap a e :=
  ⟨h.rd, h.os, h.tape, h.output, by have := h.size; omega, h.far⟩
theorem RdB.set {w wr : World} {rb b off L cap : Nat} {a : Nat} {e : Int} (h : RdB w wr rb b off L cap a e) (hrb : rb < w.heap.size) (p : Addr) (hp : w.heap.size ≤ p.block) (v : Value) : RdB w (wr.setCell p v) rb b off L cap a e := by
  have far : ∀ k, k ≠ p.block → (wr.setCell p v).heap[k]? = wr.heap[k]? := fun k hk => Below.heap_setCell wr _ v k hk
  exact ⟨(far _ (by omega)).trans h.blk, h.os, h.tape, h.output, by simpa using h.size, fun k hk hne => (far k (by omega)).trans (h.far k hk hne)⟩

def evR0 (B : Nat → Int) (L a : Nat) (e : Int) := rdSt B L a e
def evR1 (B : Nat → Int) (L a : Nat) (e : Int) := rdSt B L (evR0 B L a e).2.1 (evR0 B L a e).2.2
def evR2 (B : Nat → Int) (L a : Nat) (e : Int) := rdSt B L (evR1 B L a e).2.1 (evR1 B L a e).2.2
def evR3 (B : Nat → Int) (L a : Nat) (e : Int) := rdSt B L (evR2 B L a e).2.1 (evR2 B L a e).2.2
def evR4 (B : Nat → Int) (L a : Nat) (e : Int) := rdSt B L (evR3 B L a e).2.1 (evR3 B L a e).2.2
def evR5 (B : Nat → Int) (L a : Nat) (e : Int) := rdSt B L (evR4 B L a e).2.1 (evR4 B L a e).2.2
def evVals (B : Nat → Int) (L a : Nat) (e : Int) : Array Value := #[.int .u64 (evR0 B L a e).1, .int .i64 (unz (evR1 B L a e).1), .int .u64 (evR2 B L a e).1, .int .i64 (unz (evR3 B L a e).1), .int .i64 (unz (evR4 B L a e).1), .int .i64 (unz (evR5 B L a e).1)]

set_option maxHeartbeats 2000000 in
theorem event_any (rb b off L cap a0 : Nat) (e0 : Int) (B : Nat → Int) (w : World) (hR : Rdr w w rb b off L cap a0 e0) (hL : L ≤ 1000000000000000) (ha : a0 ≤ L) (hne : b ≠ rb) (hb : b < w.heap.size)
    (hB : ∀ i, i < L → w.cell? ⟨b, off + i, none⟩ = some (.int .u8 (B i))) (bB : ∀ i, i < L → 0 ≤ B i ∧ B i ≤ 255) (he : e0 = 0 ∨ e0 = 11 ∨ e0 = 12) :
    Calls Tryd.prog 21 #[.pointer (some ⟨rb, 0, none⟩)] w fun r w' => r = .returned (.agg (evVals B L a0 e0)) ∧ RdB w w' rb b off L cap (evR5 B L a0 e0).2.1 (evR5 B L a0 e0).2.2 := by
  have hrb : rb < w.heap.size := lt_of_block hR.blk
  have k0 := rdSt_ok (B := B) (L := L) (a := a0) (e := e0) bB ha he
  have k1 := rdSt_ok (B := B) (L := L) bB k0.2.1 k0.2.2.1
  have k2 := rdSt_ok (B := B) (L := L) bB k1.2.1 k1.2.2.1
  have k3 := rdSt_ok (B := B) (L := L) bB k2.2.1 k2.2.2.1
  have k4 := rdSt_ok (B := B) (L := L) bB k3.2.1 k3.2.2.1
  have s0 := EvSt.start hR hB hb hrb
  go_enter Tryd.func21, Tryd.ntmps21
  clear hB
  go_wp2_with fail
  refine (number_any rb b off L cap a0 e0 B _ s0.rdr hL ha hne s0.bs bB).mono ?_
  rintro x w0 ⟨rfl, r0⟩
  replace s0 := s0.called r0 hrb hne
  obtain ⟨c0, f0⟩ := s0.cell 0 _ rfl
  clear r0
  go_wp2_with fail
  clear c0 f0
  replace s0 := s0.store 0 (.int .u64 (evR0 B L a0 e0).1) hrb hb
  refine (signed_any rb b off L cap (evR0 B L a0 e0).2.1 (evR0 B L a0 e0).2.2 B _ s0.rdr hL k0.2.1 hne s0.bs bB k0.2.2.1).mono ?_
  rintro x w1 ⟨rfl, r0⟩
  replace s0 := s0.called r0 hrb hne
  obtain ⟨c0, f0⟩ := s0.cell 1 _ rfl
  clear r0
  go_wp2_with fail
  clear c0 f0
  replace s0 := s0.store 1 (.int .i64 (unz (evR1 B L a0 e0).1)) hrb hb
  refine (number_any rb b off L cap (evR1 B L a0 e0).2.1 (evR1 B L a0 e0).2.2 B _ s0.rdr hL k1.2.1 hne s0.bs bB).mono ?_
  rintro x w2 ⟨rfl, r0⟩
  replace s0 := s0.called r0 hrb hne
  obtain ⟨c0, f0⟩ := s0.cell 2 _ rfl
  clear r0
  go_wp2_with fail
  clear c0 f0
  replace s0 := s0.store 2 (.int .u64 (evR2 B L a0 e0).1) hrb hb
  refine (signed_any rb b off L cap (evR2 B L a0 e0).2.1 (evR2 B L a0 e0).2.2 B _ s0.rdr hL k2.2.1 hne s0.bs bB k2.2.2.1).mono ?_
  rintro x w3 ⟨rfl, r0⟩
  replace s0 := s0.called r0 hrb hne
  obtain ⟨c0, f0⟩ := s0.cell 3 _ rfl
  clear r0
  go_wp2_with fail
  clear c0 f0
  replace s0 := s0.store 3 (.int .i64 (unz (evR3 B L a0 e0).1)) hrb hb
  refine (signed_any rb b off L cap (evR3 B L a0 e0).2.1 (evR3 B L a0 e0).2.2 B _ s0.rdr hL k3.2.1 hne s0.bs bB k3.2.2.1).mono ?_
  rintro x w4 ⟨rfl, r0⟩
  replace s0 := s0.called r0 hrb hne
  obtain ⟨c0, f0⟩ := s0.cell 4 _ rfl
  clear r0
  go_wp2_with fail
  clear c0 f0
  replace s0 := s0.store 4 (.int .i64 (unz (evR4 B L a0 e0).1)) hrb hb
  refine (signed_any rb b off L cap (evR4 B L a0 e0).2.1 (evR4 B L a0 e0).2.2 B _ s0.rdr hL k4.2.1 hne s0.bs bB k4.2.2.1).mono ?_
  rintro x w5 ⟨rfl, r0⟩
  replace s0 := s0.called r0 hrb hne
  obtain ⟨c0, f0⟩ := s0.cell 5 _ rfl
  clear r0
  obtain ⟨d0, _⟩ := s0.cell 0 _ rfl
  obtain ⟨d1, _⟩ := s0.cell 1 _ rfl
  obtain ⟨d2, _⟩ := s0.cell 2 _ rfl
  obtain ⟨d3, _⟩ := s0.cell 3 _ rfl
  obtain ⟨d4, _⟩ := s0.cell 4 _ rfl
  have hres := s0.res
  go_wp2_with fail
  have hr : RdB w w5 rb b off L cap (evR5 B L a0 e0).2.1 (evR5 B L a0 e0).2.2 := s0.rdb
  refine bodyPost_ret (v := .agg (evVals B L a0 e0)) ?_ rfl ⟨rfl, ?_⟩
  · simp [results, Tryd.results21, go_sem, hres, evVals, evR5]
  · exact ((((((hr.set hrb _ (by simp) _).set hrb _ (by simp) _).set hrb _ (by simp) _).set hrb _ (by simp) _).set hrb _ (by simp) _).set hrb _ (by simp) _).set hrb _ (by simp) _
end Go.Proofs.YtcifdlncbekohaaDoor
