import Derived.Test.YtpeojhhbinfekaaClockB
namespace Go.Proofs.Ytpeojhhbinfekaa
open Go.ChangeShapes Go.WideShapes Go.ChangeAt Go.RowKit

theorem idx_any (c : Int) (n : Nat) (h0 : 0 < n) (h1 : n ≤ 10000000000000) : ∃ i : Nat, i < n ∧ wrap64 ((IntKind.u64.wrap c).tmod (n : Int)) = (i : Int) := by
  have hw : 0 ≤ IntKind.u64.wrap c := by
    simp only [IntKind.wrap, IntKind.bits, IntKind.signed]
    simp
    omega
  have h2 : (IntKind.u64.wrap c).tmod (n : Int) = IntKind.u64.wrap c % (n : Int) := Int.tmod_eq_emod_of_nonneg hw
  have h3 : 0 ≤ IntKind.u64.wrap c % (n : Int) := Int.emod_nonneg _ (by omega)
  have h4 : IntKind.u64.wrap c % (n : Int) < n := Int.emod_lt_of_pos _ (by omega)
  generalize IntKind.u64.wrap c % (n : Int) = r at *
  refine ⟨r.toNat, by omega, ?_⟩
  rw [h2]
  have h5 : wrap64 r = r := by unfold wrap64; omega
  rw [h5]
  omega

theorem keep3 {W w' : World} {p : Nat} {a1 a2 a3 : Addr} {v1 v2 v3 : Value} (hS : W.cell? a1 = some v1 ∧ W.cell? a2 = some v2 ∧ W.cell? a3 = some v3)
    (g : ∀ k, k ≠ p → w'.heap[k]? = W.heap[k]?) (n1 : a1.block ≠ p) (n2 : a2.block ≠ p) (n3 : a3.block ≠ p) : w'.cell? a1 = some v1 ∧ w'.cell? a2 = some v2 ∧ w'.cell? a3 = some v3 :=
  ⟨(World.cell?_of_block (g _ n1)).trans hS.1, (World.cell?_of_block (g _ n2)).trans hS.2.1, (World.cell?_of_block (g _ n3)).trans hS.2.2⟩

theorem heap_alloc_set {wr : World} {O : Obj} {g i k : Nat} {v : Value} (hk : k < wr.heap.size) (hne : k ≠ g) : ((wr.setCell ⟨g, i, none⟩ v).alloc O).heap[k]? = wr.heap[k]? := by
  rw [Below.heap_alloc _ O k (by simpa using hk)]
  exact Below.heap_setCell _ _ _ _ hne

theorem cell_new3 {wr : World} {g i : Nat} {v a b c : Value} {T : TypeId} : ((wr.setCell ⟨g, i, none⟩ v).alloc (.cells #[a, b, c] T)).cell? ⟨wr.heap.size, 2, none⟩ = some c := by
  have h : ((wr.setCell ⟨g, i, none⟩ v).alloc (.cells #[a, b, c] T)).heap[wr.heap.size]? = some (.cells #[a, b, c] T) := by
    have := heap_alloc_new (wr.setCell ⟨g, i, none⟩ v) (.cells #[a, b, c] T)
    simpa using this
  unfold World.cell?
  simp only [h]
  rfl

theorem startA {wr : World} {gc gt ge i : Nat} {v a b c v1 v3 : Value} {T : TypeId} (x1 : wr.cell? ⟨gc, i, none⟩ = some v1) (x3 : wr.cell? ⟨ge, i, none⟩ = some v3) (l1 : gc < wr.heap.size) (l3 : ge < wr.heap.size) (n1 : gc ≠ gt) (n3 : ge ≠ gt) :
    ((wr.setCell ⟨gt, i, none⟩ v).alloc (.cells #[a, b, c] T)).cell? ⟨gc, i, none⟩ = some v1 ∧ ((wr.setCell ⟨gt, i, none⟩ v).alloc (.cells #[a, b, c] T)).cell? ⟨wr.heap.size, 2, none⟩ = some c ∧ ((wr.setCell ⟨gt, i, none⟩ v).alloc (.cells #[a, b, c] T)).cell? ⟨ge, i, none⟩ = some v3 :=
  ⟨(World.cell?_of_block (heap_alloc_set l1 n1)).trans x1, cell_new3, (World.cell?_of_block (heap_alloc_set l3 n3)).trans x3⟩

theorem startB {wr : World} {gc ge i : Nat} {v a b c v1 v3 : Value} {T : TypeId} (x1 : wr.cell? ⟨gc, i, none⟩ = some v1) (x3 : wr.cell? ⟨ge, i, none⟩ = some v3) (l1 : gc < wr.heap.size) (l3 : ge < wr.heap.size) (n1 : gc ≠ ge) :
    ((wr.setCell ⟨ge, i, none⟩ v).alloc (.cells #[a, b, c] T)).cell? ⟨gc, i, none⟩ = some v1 ∧ ((wr.setCell ⟨ge, i, none⟩ v).alloc (.cells #[a, b, c] T)).cell? ⟨wr.heap.size, 2, none⟩ = some c ∧ ((wr.setCell ⟨ge, i, none⟩ v).alloc (.cells #[a, b, c] T)).cell? ⟨ge, i, none⟩ = some v := by
  refine ⟨(World.cell?_of_block (heap_alloc_set l1 n1)).trans x1, cell_new3, ?_⟩
  have h : ((wr.setCell ⟨ge, i, none⟩ v).alloc (.cells #[a, b, c] T)).cell? ⟨ge, i, none⟩ = (wr.setCell ⟨ge, i, none⟩ v).cell? ⟨ge, i, none⟩ :=
    World.cell?_of_block (Below.heap_alloc _ _ _ (by simpa using l3))
  rw [h]
  exact World.cell?_setCell_same _ _ _ x3

theorem set_self {α : Type} (l : List α) (i : Nat) (x : α) (h : l[i]? = some x) : l.set i x = l := by
  apply List.ext_getElem?
  intro j
  by_cases hij : i = j
  · subst hij
    rw [List.getElem?_set_self' , h]
    rfl
  · rw [List.getElem?_set_ne hij]

section
variable {B : Nat} {w wr : World} {gc cc gt ct ge ce n : Nat} {ps : List Nat} {ts es : List Int}

theorem Inv.advA (h : Inv B w wr gc cc gt ct ge ce n ps ts es) {w3 : World} {i p : Nat} {t e T : Int} (O : Obj) (hp : ps[i]? = some p) (he : es[i]? = some e) (hi : i < n)
    (h1 : w3.os = wr.os) (h2 : w3.tape = wr.tape) (h3 : w3.output = wr.output) (h4 : w3.heap.size = wr.heap.size + 1)
    (h6 : w3.heap[p]? = some (.cells #[.int .u64 T, .int .i64 e] 51 (0, 0)))
    (h5 : ∀ k, k ≠ p → w3.heap[k]? = ((wr.setCell ⟨gt, i, none⟩ (.int .u64 T)).alloc O).heap[k]?) (hT : 0 ≤ T ∧ T ≤ 18446744073709551615) (_ht : ts[i]? = some t) :
    Inv B w w3 gc cc gt ct ge ce n ps (ts.set i T) es := by
  obtain ⟨a1, a2, a3, l1, l2, l3, b1, b2, b3⟩ := h.apart
  obtain ⟨p', t', e', hp', ht', he', hB, hlt, hk, n1, n2, n3, bt, be⟩ := h.cl hi
  obtain rfl : p' = p := by rw [hp] at hp'; simpa using hp'.symm
  obtain rfl : e' = e := by rw [he] at he'; simpa using he'.symm
  have r := h.upd (w3 := w3) (T := T) (E := e') hp hi h1 h2 h3 (by omega) (fun k x1 x2 x3 _ => (h5 k x2).trans (heap_alloc_set x1 x3)) h6
    (by rw [List.map_set]; exact ownsRow_same ((ownsRow_set h.rt i _).alloc O) (h5 gt (Ne.symm n2)))
    (by rw [set_self es i e' he]; exact ownsRow_same h.re ((h5 ge (Ne.symm n3)).trans (heap_alloc_set l3 (Ne.symm a3)))) hT be
  rwa [set_self es i e' he] at r

theorem Inv.advB (h : Inv B w wr gc cc gt ct ge ce n ps ts es) {w3 : World} {i p : Nat} {t : Int} (O : Obj) (hp : ps[i]? = some p) (ht : ts[i]? = some t) (hi : i < n)
    (h1 : w3.os = wr.os) (h2 : w3.tape = wr.tape) (h3 : w3.output = wr.output) (h4 : w3.heap.size = wr.heap.size + 1)
    (h6 : w3.heap[p]? = some (.cells #[.int .u64 t, .int .i64 10] 51 (0, 0)))
    (h5 : ∀ k, k ≠ p → w3.heap[k]? = ((wr.setCell ⟨ge, i, none⟩ (.int .i64 10)).alloc O).heap[k]?) :
    Inv B w w3 gc cc gt ct ge ce n ps ts (es.set i 10) := by
  obtain ⟨a1, a2, a3, l1, l2, l3, b1, b2, b3⟩ := h.apart
  obtain ⟨p', t', e', hp', ht', he', hB, hlt, hk, n1, n2, n3, bt, be⟩ := h.cl hi
  obtain rfl : p' = p := by rw [hp] at hp'; simpa using hp'.symm
  obtain rfl : t' = t := by rw [ht] at ht'; simpa using ht'.symm
  have r := h.upd (w3 := w3) (T := t') (E := 10) hp hi h1 h2 h3 (by omega) (fun k x1 x2 _ x4 => (h5 k x2).trans (heap_alloc_set x1 x4)) h6
    (by rw [set_self ts i t' ht]; exact ownsRow_same h.rt ((h5 gt (Ne.symm n2)).trans (heap_alloc_set l2 a3)))
    (by rw [List.map_set]; exact ownsRow_same ((ownsRow_set h.re i _).alloc O) (h5 ge (Ne.symm n3))) bt (Or.inr rfl)
  rwa [set_self ts i t' ht] at r
end
end Go.Proofs.Ytpeojhhbinfekaa
