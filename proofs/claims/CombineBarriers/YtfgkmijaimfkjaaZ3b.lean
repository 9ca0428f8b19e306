import Derived.Test.YtfgkmijaimfkjaaZ3
namespace Go.Proofs.Ytfgkmijaimfkjaa
open Go.ChangeShapes Go.WideShapes Go.ChangeAt Go.RowKit
set_option linter.unusedVariables false
set_option linter.unusedSimpArgs false

/-- the place of a part without size -/
def PO (a : Addr) (c b : Nat) (r : Addr) (W : World) : Prop := Sem.run Try.prog (partAt a c b) W = .ok r W
theorem run_byteOf {W : World} {b off : Nat} {T : TypeId} {cur : Array Value} {s z x : Nat} (h : W.heap[b]? = some (.cells cur T (0, 0))) (hs : Try.prog.cellsOf T = s) (h0 : s ≠ 0) (hz : Try.prog.bytesOf T = z) (hx : byteOfCell Try.prog Try.prog.depth T (off % s) = some x) : Sem.run Try.prog (byteOf ⟨b, off, none⟩) W = .ok (off / s * z + x) W := by
  subst hs hz
  unfold byteOf
  have hsh : W.shape? b = some (T, cur.size) := by
    unfold World.shape?
    simp [h]
  have hv : Sem.run Try.prog (noView ⟨b, off, none⟩) W = .ok () W := by
    unfold noView viewAt
    simp [go_sem, h, hsh]
  simp [go_sem, hv, hsh, hx, h0]
theorem po_of {W : World} {b i : Nat} {T : TypeId} {cur : Array Value} {z x : Nat} (h : W.heap[b]? = some (.cells cur T (0, 0))) (hs : Try.prog.cellsOf T = 2) (hz : Try.prog.bytesOf T = z) (hx : byteOfCell Try.prog Try.prog.depth T 0 = some 0) (hxz : x < z) : PO ⟨b, i * 2, none⟩ 2 x ⟨b, i * 2 + 2, some (i * z + x)⟩ W := by
  have h1 := run_byteOf (off := i * 2) h hs (by decide) hz (by rw [show i * 2 % 2 = 0 by omega]; exact hx)
  have h2 := run_byteOf (off := i * 2 + 2) h hs (by decide) hz (by rw [show (i * 2 + 2) % 2 = 0 by omega]; exact hx)
  rw [show i * 2 / 2 = i by omega] at h1
  rw [show (i * 2 + 2) / 2 = i + 1 by omega] at h2
  have hne : ¬ ((i + 1) * z = i * z + x) := by rw [Nat.succ_mul]; omega
  unfold PO partAt
  simp [go_sem, h1, h2, hne]
/-- a block of this type lies there -/
def PS (b : Nat) (T : TypeId) (W : World) : Prop := ∃ cur, W.heap[b]? = some (.cells cur T (0, 0))
theorem PS.set {b : Nat} {T : TypeId} (W : World) (p : Addr) (v : Value) (h : PS b T W) : PS b T (W.setCell p v) := by
  obtain ⟨cur, h⟩ := h
  by_cases e : b = p.block
  · subst e
    obtain ⟨hlt, hk⟩ := Array.getElem?_eq_some_iff.1 h
    refine ⟨if p.spot.isSome = true then cur else cur.setIfInBounds p.off v, ?_⟩
    show (W.heap.modify p.block _)[p.block]? = _
    rw [Array.getElem?_eq_getElem (by rw [Array.size_modify]; exact hlt), Array.getElem_modify_self, hk]
  · exact ⟨cur, (Below.heap_setCell W p v b e).trans h⟩
theorem PS.later {b : Nat} {T : TypeId} {W W' : World} (h : PS b T W) (hb : Below W.heap.size W W') : PS b T W' := by
  obtain ⟨cur, h⟩ := h
  exact ⟨cur, (hb.block _ (lt_of_block h)).trans h⟩
theorem PS.alloc {b : Nat} {T : TypeId} (W : World) (o : Obj) (h : PS b T W) : PS b T (W.alloc o) := h.later ((Below.refl _ W).alloc (Nat.le_refl _) o)
theorem PS.drew {b : Nat} {T : TypeId} (W : World) (h : PS b T W) : PS b T W.drew := h.later (drewB W)
theorem PS.drewN {b : Nat} {T : TypeId} (W : World) (k : Nat) (h : PS b T W) : PS b T (W.drewN k) := h.later (below_drewNq _ _ _)
theorem part_wk {b : Nat} (i : Nat) (W : World) (h : PS b 128 W) : Sem.run Try.prog (partAt ⟨b, i * 2, none⟩ 2 16) W = .ok ⟨b, i * 2 + 2, some (i * 24 + 16)⟩ W := by
  obtain ⟨cur, h⟩ := h
  exact po_of h (by kernel_rfl) (by kernel_rfl) (by kernel_rfl) (by decide)
theorem part_cl {b : Nat} (i : Nat) (W : World) (h : PS b 125 W) : Sem.run Try.prog (partAt ⟨b, i * 2, none⟩ 2 2) W = .ok ⟨b, i * 2 + 2, some (i * 3 + 2)⟩ W := by
  obtain ⟨cur, h⟩ := h
  exact po_of h (by kernel_rfl) (by kernel_rfl) (by kernel_rfl) (by decide)
theorem NZ.ps {base hb wb cb n : Nat} {N : Nt} {W : World} (h : NZ base hb wb cb n N W) : PS wb 128 W ∧ PS cb 125 W := by
  obtain ⟨c1, h1, _⟩ := h.row.block
  obtain ⟨c2, h2, _⟩ := h.cel.block
  exact ⟨⟨_, h1⟩, ⟨_, h2⟩⟩
end Go.Proofs.Ytfgkmijaimfkjaa
