import Derived.Test.YtpeojhhbinfekaaClockC
namespace Go.Proofs.Ytpeojhhbinfekaa
open Go.ChangeShapes Go.WideShapes Go.ChangeAt Go.RowKit

theorem Try.info36 : (Try.prog.info? 36).map (fun i => (i.zero, i.size, i.bytes)) = some (some (.pointer none), 1, 8) := by kernel_rfl
theorem Try.info22 : (Try.prog.info? 22).map (fun i => (i.zero, i.size, i.bytes)) = some (some (.int .u64 0), 1, 8) := by kernel_rfl
theorem Try.info3 : (Try.prog.info? 3).map (fun i => (i.zero, i.size, i.bytes)) = some (some (.int .i64 0), 1, 8) := by kernel_rfl

theorem news_one (W : World) (x : Value) (T : TypeId) (A : Nat) (hA : A = W.heap.size) : ∀ j u, [x][j]? = some u → (W.alloc (.cells #[x] T)).cell? ((⟨A, 0, none⟩ : Addr).add j) = some u := by
  subst hA
  exact cell_one_new W x T

theorem row_types {w : World} {B E E' g g' n n' cap cap' : Nat} {xs xs' : List Value} (h : w.ownsRow B E 1 (.slice (some ⟨g, 0, none⟩) n cap) n xs) (h' : w.ownsRow B E' 1 (.slice (some ⟨g', 0, none⟩) n' cap') n' xs') (hne : E ≠ E') : g ≠ g' := by
  obtain ⟨c1, b1, _⟩ := ownsRow_block h
  obtain ⟨c2, b2, _⟩ := ownsRow_block h'
  intro e
  rw [e, b2] at b1
  simp at b1
  exact hne b1.2.symm

theorem row_kept {w w' : World} {B E g g0 n cap : Nat} {xs : List Value} (h : w.ownsRow B E 1 (.slice (some ⟨g, 0, none⟩) n cap) n xs) (hg : w.grownBy w' (some g0)) (hne : g ≠ g0) : w'.ownsRow B E 1 (.slice (some ⟨g, 0, none⟩) n cap) n xs :=
  h.kept hg (Or.inr (by simpa [Value.ownBlock] using hne))

section
variable {B : Nat} {w wr : World} {gc cc gt ct ge ce n : Nat} {ps : List Nat} {ts es : List Int}

theorem Inv.push1 (h : Inv B w wr gc cc gt ct ge ce n ps ts es) (O Ck Pk : Obj) {w1 : World} {gc' cc' : Nat} {x : Value}
    (hc : w1.ownsRow B 36 1 (.slice (some ⟨gc', 0, none⟩) (n + 1) cc') (n + 1) (ptrs ps ++ [x])) (hg : (((wr.alloc O).alloc Ck).alloc Pk).grownBy w1 (some gc)) :
    w1.ownsRow B 22 1 (.slice (some ⟨gt, 0, none⟩) n ct) n (ts.map (Value.int .u64)) ∧ w1.ownsRow B 3 1 (.slice (some ⟨ge, 0, none⟩) n ce) n (es.map (Value.int .i64)) ∧ gc' ≠ gt ∧ gc' ≠ ge ∧ wr.heap.size + 3 ≤ w1.heap.size ∧
    (∀ k, k < wr.heap.size → k ≠ gc → w1.heap[k]? = wr.heap[k]?) ∧ w1.heap[wr.heap.size]? = some O ∧ w1.heap[wr.heap.size + 1]? = some Ck ∧ w1.os = wr.os ∧ w1.tape = wr.tape ∧ w1.output = wr.output := by
  obtain ⟨a1, a2, a3, l1, l2, l3, b1, b2, b3⟩ := h.apart
  have r2 := row_kept (((h.rt.alloc O).alloc Ck).alloc Pk) hg (Ne.symm a1)
  have r3 := row_kept (((h.re.alloc O).alloc Ck).alloc Pk) hg (Ne.symm a2)
  have hsz : (((wr.alloc O).alloc Ck).alloc Pk).heap.size = wr.heap.size + 3 := by simp
  have e1 : ∀ k, k < wr.heap.size → (((wr.alloc O).alloc Ck).alloc Pk).heap[k]? = wr.heap[k]? := fun k hk => by
    rw [Below.heap_alloc _ _ _ (by simp <;> omega), Below.heap_alloc _ _ _ (by simp <;> omega), Below.heap_alloc _ _ _ hk]
  have e2 : (((wr.alloc O).alloc Ck).alloc Pk).heap[wr.heap.size]? = some O := by
    rw [Below.heap_alloc _ _ _ (by simp <;> omega), Below.heap_alloc _ _ _ (by simp)]
    exact heap_alloc_new wr O
  have e3 : (((wr.alloc O).alloc Ck).alloc Pk).heap[wr.heap.size + 1]? = some Ck := by
    rw [Below.heap_alloc _ _ _ (by simp)]
    have := heap_alloc_new (wr.alloc O) Ck
    simpa using this
  refine ⟨r2, r3, row_types hc r2 (by decide), row_types hc r3 (by decide), by have := hg.size; omega, fun k hk hne => (hg.block k (by omega) (by simpa using hne)).trans (e1 k hk), ?_, ?_, hg.os, hg.tape, hg.output⟩
  · exact (hg.block _ (by omega) (by simp <;> omega)).trans e2
  · exact (hg.block _ (by omega) (by simp <;> omega)).trans e3

theorem Inv.push3 (h : Inv B w wr gc cc gt ct ge ce n ps ts es) (O Pk Tk Ek : Obj) {w1 w2 w3 : World} {gc' cc' gt' ct' ge' ce' : Nat} {D : Int}
    (hc : w1.ownsRow B 36 1 (.slice (some ⟨gc', 0, none⟩) (n + 1) cc') (n + 1) (ptrs ps ++ [.pointer (some ⟨wr.heap.size + 1, 0, none⟩)])) (hg : (((wr.alloc O).alloc (.cells #[.int .u64 D, .int .i64 0] 51)).alloc Pk).grownBy w1 (some gc))
    (ht : w2.ownsRow B 22 1 (.slice (some ⟨gt', 0, none⟩) (n + 1) ct') (n + 1) (ts.map (Value.int .u64) ++ [.int .u64 D])) (hg2 : (w1.alloc Tk).grownBy w2 (some gt))
    (he : w3.ownsRow B 3 1 (.slice (some ⟨ge', 0, none⟩) (n + 1) ce') (n + 1) (es.map (Value.int .i64) ++ [.int .i64 0])) (hg3 : (w2.alloc Ek).grownBy w3 (some ge))
    (hD : 0 ≤ D ∧ D ≤ 18446744073709551615) :
    Inv B w w3 gc' cc' gt' ct' ge' ce' (n + 1) (ps ++ [wr.heap.size + 1]) (ts ++ [D]) (es ++ [0]) := by
  obtain ⟨a1, a2, a3, l1, l2, l3, b1, b2, b3⟩ := h.apart
  obtain ⟨r2, r3, x1, x2, z1, m1, _, m3, o1, o2, o3⟩ := h.push1 O _ Pk hc hg
  have r3' := row_kept (r3.alloc Tk) hg2 (Ne.symm a3)
  have hc2 := row_kept (hc.alloc Tk) hg2 x1
  have hc3 := row_kept (hc2.alloc Ek) hg3 x2
  have ht3 := row_kept (ht.alloc Ek) hg3 (row_types ht r3' (by decide))
  have s1 : (w1.alloc Tk).heap.size = w1.heap.size + 1 := by simp
  have s2 : (w2.alloc Ek).heap.size = w2.heap.size + 1 := by simp
  have g2s := hg2.size
  have g3s := hg3.size
  have mm : ∀ k, k < w1.heap.size → k ≠ gt → k ≠ ge → w3.heap[k]? = w1.heap[k]? := fun k hk n2 n3 => by
    rw [hg3.block k (by omega) (by simpa using n3), Below.heap_alloc _ _ _ (by omega), hg2.block k (by omega) (by simpa using n2), Below.heap_alloc _ _ _ hk]
  refine h.push (hg3.os.trans (hg2.os.trans o1)) (hg3.tape.trans (hg2.tape.trans o2)) (hg3.output.trans (hg2.output.trans o3)) (by omega) (fun k hk n1 n2 n3 => (mm k (by omega) n2 n3).trans (m1 k hk n1)) (by omega) ((mm _ (by omega) (by omega) (by omega)).trans m3) hc3 ht3 he hD
end

theorem inv_start (w : World) (a0 : Int) (h0 : 0 ≤ a0 ∧ a0 ≤ 18446744073709551615) :
    Inv w.heap.size w ((((w.alloc (.cells #[.int .u64 a0, .int .i64 0] 51)).alloc (.cells #[.pointer (some ⟨w.heap.size, 0, none⟩)] 36)).alloc (.cells #[.int .u64 a0] 22)).alloc (.cells #[.int .i64 0] 3)) (w.heap.size + 1) 1 (w.heap.size + 1 + 1) 1 (w.heap.size + 1 + 1 + 1) 1 1 [w.heap.size] [a0] [0] := by
  have e0 : ((((w.alloc (.cells #[.int .u64 a0, .int .i64 0] 51)).alloc (.cells #[.pointer (some ⟨w.heap.size, 0, none⟩)] 36)).alloc (.cells #[.int .u64 a0] 22)).alloc (.cells #[.int .i64 0] 3)).heap[w.heap.size]? = some (.cells #[.int .u64 a0, .int .i64 0] 51) := by
    rw [Below.heap_alloc _ _ _ (by simp <;> omega), Below.heap_alloc _ _ _ (by simp <;> omega), Below.heap_alloc _ _ _ (by simp)]
    exact heap_alloc_new w _
  have e1 : ((((w.alloc (.cells #[.int .u64 a0, .int .i64 0] 51)).alloc (.cells #[.pointer (some ⟨w.heap.size, 0, none⟩)] 36)).alloc (.cells #[.int .u64 a0] 22)).alloc (.cells #[.int .i64 0] 3)).heap[w.heap.size + 1]? = some (.cells #[.pointer (some ⟨w.heap.size, 0, none⟩)] 36) := by
    rw [Below.heap_alloc _ _ _ (by simp <;> omega), Below.heap_alloc _ _ _ (by simp)]
    simpa using heap_alloc_new (w.alloc (.cells #[.int .u64 a0, .int .i64 0] 51)) (.cells #[.pointer (some ⟨w.heap.size, 0, none⟩)] 36)
  have e2 : ((((w.alloc (.cells #[.int .u64 a0, .int .i64 0] 51)).alloc (.cells #[.pointer (some ⟨w.heap.size, 0, none⟩)] 36)).alloc (.cells #[.int .u64 a0] 22)).alloc (.cells #[.int .i64 0] 3)).heap[w.heap.size + 1 + 1]? = some (.cells #[.int .u64 a0] 22) := by
    rw [Below.heap_alloc _ _ _ (by simp)]
    simpa using heap_alloc_new ((w.alloc (.cells #[.int .u64 a0, .int .i64 0] 51)).alloc (.cells #[.pointer (some ⟨w.heap.size, 0, none⟩)] 36)) (.cells #[.int .u64 a0] 22)
  have e3 : ((((w.alloc (.cells #[.int .u64 a0, .int .i64 0] 51)).alloc (.cells #[.pointer (some ⟨w.heap.size, 0, none⟩)] 36)).alloc (.cells #[.int .u64 a0] 22)).alloc (.cells #[.int .i64 0] 3)).heap[w.heap.size + 1 + 1 + 1]? = some (.cells #[.int .i64 0] 3) := by
    simpa using heap_alloc_new (((w.alloc (.cells #[.int .u64 a0, .int .i64 0] 51)).alloc (.cells #[.pointer (some ⟨w.heap.size, 0, none⟩)] 36)).alloc (.cells #[.int .u64 a0] 22)) (.cells #[.int .i64 0] 3)
  have hbl : Below w.heap.size w ((((w.alloc (.cells #[.int .u64 a0, .int .i64 0] 51)).alloc (.cells #[.pointer (some ⟨w.heap.size, 0, none⟩)] 36)).alloc (.cells #[.int .u64 a0] 22)).alloc (.cells #[.int .i64 0] 3)) :=
    ((((Below.refl _ _).alloc (Nat.le_refl _) _).alloc (by simp) _).alloc (by simp <;> omega) _).alloc (by simp <;> omega) _
  generalize ((((w.alloc (.cells #[.int .u64 a0, .int .i64 0] 51)).alloc (.cells #[.pointer (some ⟨w.heap.size, 0, none⟩)] 36)).alloc (.cells #[.int .u64 a0] 22)).alloc (.cells #[.int .i64 0] 3)) = wr at *
  refine ⟨by omega, rfl, rfl, rfl, ⟨rfl, .inr ⟨_, 1, #[.pointer (some ⟨w.heap.size, 0, none⟩)], rfl, by omega, e1, by omega, by unfold maxLen; omega, rfl, rfl⟩⟩, ⟨rfl, .inr ⟨_, 1, #[.int .u64 a0], rfl, by omega, e2, by omega, by unfold maxLen; omega, rfl, rfl⟩⟩, ⟨rfl, .inr ⟨_, 1, #[.int .i64 0], rfl, by omega, e3, by omega, by unfold maxLen; omega, rfl, rfl⟩⟩, ?_, ?_, by simpa using h0, by simp, hbl, hbl.size⟩
  · intro i p t e hp ht he
    have hi : i < 1 := by
      rcases Nat.lt_or_ge i 1 with z | z
      · exact z
      · rw [List.getElem?_eq_none (by simpa using z)] at hp; simp at hp
    obtain rfl : i = 0 := by omega
    simp at hp ht he
    subst hp ht he
    exact ⟨Nat.le_refl _, e0⟩
  · intro i j p hi hj
    have x1 : i < 1 := by
      rcases Nat.lt_or_ge i 1 with z | z
      · exact z
      · rw [List.getElem?_eq_none (by simpa using z)] at hi; simp at hi
    have x2 : j < 1 := by
      rcases Nat.lt_or_ge j 1 with z | z
      · exact z
      · rw [List.getElem?_eq_none (by simpa using z)] at hj; simp at hj
    omega
end Go.Proofs.Ytpeojhhbinfekaa
