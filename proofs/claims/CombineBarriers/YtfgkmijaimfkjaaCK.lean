import Derived.Test.YtfgkmijaimfkjaaRows
import Derived.Test.YtfgkmijaimfkjaaB0
import Derived.Deep.Slices
import Derived.SizedLaws
namespace Go.Proofs.Ytfgkmijaimfkjaa
open Go.ChangeShapes Go.WideShapes Go.ChangeAt Go.RowKit Go.Deep
set_option linter.unusedVariables false
set_option maxRecDepth 100000

/-- n ints lie at p -/
def KAt (W : World) (p : Option Addr) (n : Nat) (K : Nat → Int) : Prop :=
  n = 0 ∨ ∃ b o, p = some ⟨b, o, none⟩ ∧ b < W.heap.size ∧ ∀ j, j < n → W.cell? ⟨b, o + j, none⟩ = some (.int .i64 (K j))
theorem KAt.below {W W' : World} {p : Option Addr} {n : Nat} {K : Nat → Int} {B : Nat} (h : KAt W p n K) (hB : W.heap.size ≤ B) (hb : Below B W W') : KAt W' p n K := by
  have hb := hb.mono hB
  rcases h with h | ⟨b, o, rfl, hl, hc⟩
  · exact .inl h
  · exact .inr ⟨b, o, rfl, Nat.lt_of_lt_of_le hl hb.size, fun j hj => (cell_below (a := ⟨b, o + j, none⟩) hb hl).trans (hc j hj)⟩
theorem view_ints {H : Type} {enc : TypeId × Value → H} {W : World} {base : Nat} {v : Value} {d : DataW H} {pl : List MemPlace} (hval : Value.okWide Try.prog W .any base 56 v) (h : DataW.Trod enc Try.prog W 0 (fun _ => true) true 56 v d pl) (hw : ∀ y ∈ d.weights Try.prog 56, y ≤ reachBytes) :
    ∃ (p : Option Addr) (n c : Nat) (K : Nat → Int), v = .slice p n c ∧ KAt W p n K ∧ n ≤ 17592186044416 := by
  obtain ⟨sl, len0, cap0, rfl⟩ := okWide_slice Try.underlying56 hval
  obtain ⟨fuel, g0⟩ := h
  simp only [Value.cells] at g0
  rcases open_ints Try.underlying56 Try.underlying3 (by kernel_rfl) g0 with ⟨hcs, _⟩ | ⟨a, len, cap, zs, hcs, _, hl, hm, hz, hx, hcell, hwz⟩
  · simp at hcs
    obtain ⟨rfl, rfl, rfl⟩ := hcs
    exact ⟨none, 0, 0, fun _ => 0, rfl, .inl rfl, by omega⟩
  · simp at hcs
    obtain ⟨rfl, rfl, rfl⟩ := hcs
    simp only [if_true] at hz
    have hb : len0 * 8 ≤ reachBytes := by
      have := hw ((len0 + (cap0 - len0)) * 8) (by
        simp only [Prod.mk.injEq] at hx
        rw [hx.1]
        simp only [DataW.weights, Try.underlying56]
        rw [show Try.prog.bytesOf 3 = 8 from by kernel_rfl]
        simp [lits]
        left
        congr 1
        omega)
      have e : len0 + (cap0 - len0) = cap0 := by omega
      rw [e] at this
      omega
    refine ⟨some a, len0, cap0, fun i => zs.getD i 0, rfl, ?_, by unfold reachBytes at hb; omega⟩
    rcases Nat.eq_zero_or_pos len0 with z | z
    · exact .inl z
    · obtain ⟨b, off, spot⟩ := a
      have h0 := hcell 0 (by omega)
      have hspot : spot = none := by simpa [Addr.add] using World.cell?_spot h0
      subst hspot
      have hbl := World.block_lt_of_cell? _ _ h0
      exact .inr ⟨b, off, rfl, by simpa [Addr.add] using hbl, fun i hi => by simpa [addr_add] using hcell i (by omega)⟩
end Go.Proofs.Ytfgkmijaimfkjaa
