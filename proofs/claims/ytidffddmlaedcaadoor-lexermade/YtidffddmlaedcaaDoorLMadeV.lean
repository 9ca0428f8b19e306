import Derived.Test.YtidffddmlaedcaaDoorRows
import Derived.Test.YtidffddmlaedcaaDoorLMade
import Derived.WalkKit
import Derived.ProofKit
import Derived.OpenShut
import Derived.Deep.Slices
namespace Go.Proofs.YtidffddmlaedcaaDoor
open Go.ChangeShapes Go.WideShapes Go.ChangeAt Go.RowKit Go.Deep
set_option linter.unusedVariables false
set_option maxRecDepth 100000

theorem list3 {α : Type} {l : List α} (h : l.length = 3) : ∃ a b c, l = [a, b, c] := by
  match l, h with
  | [a, b, c], _ => exact ⟨a, b, c, rfl⟩
theorem addr_add (b off i : Nat) : (⟨b, off, none⟩ : Addr).add i = ⟨b, off + i, none⟩ := by
  unfold Addr.add
  by_cases hi : i = 0 <;> simp [hi]
theorem view_pick {H : Type} {enc : TypeId × Value → H} {W : World} {fuel : Nat} {cs : List Value} {x : DataW H × List MemPlace} (h : DataW.trod enc Tryd.prog W 0 (fun _ => true) true fuel 39 cs = some x) (hl : cs.length = 3) :
    ∃ X : Pv, cs = [.int .i64 X.wh, .int .i64 X.gp, .int .u64 X.num] ∧ X.num < 18446744073709551616 := by
  obtain ⟨c0, c1, c2, rfl⟩ := list3 hl
  obtain ⟨xs, n, _, hx0, _, hxl, hx⟩ := DataW.trod_struct Tryd.underlying39 h
  obtain ⟨y0, y1, y2, rfl⟩ := list3 (by simpa using hxl)
  have k3 : Tryd.prog.cellsOf 3 = 1 := by kernel_rfl
  have k27 : Tryd.prog.cellsOf 32 = 1 := by kernel_rfl
  have g0 := hx 0 _ rfl
  have g1 := hx 1 _ rfl
  have g2 := hx 2 _ rfl
  simp [k3, k27] at g0 g1 g2
  obtain ⟨x0, s0, _, w0⟩ := DataW.trod_int Tryd.underlying3 g0
  obtain ⟨x1, s1, _, w1⟩ := DataW.trod_int Tryd.underlying3 g1
  obtain ⟨x2, s2, _, w2⟩ := DataW.trod_int Tryd.underlying32 g2
  simp at s0 s1 s2
  subst s0 s1 s2
  have b2 := bounds_u64 w2
  obtain ⟨q, rfl⟩ := Int.eq_ofNat_of_zero_le b2.1
  exact ⟨⟨x0, x1, q⟩, rfl, by show q < _; omega⟩

theorem view_picks {H : Type} {enc : TypeId × Value → H} {W : World} {base : Nat} {v : Value} {d : DataW H} {pl : List MemPlace}
    (hval : Value.okWide Tryd.prog W .any base 36 v) (h : DataW.Trod enc Tryd.prog W 0 (fun _ => true) true 36 v d pl) :
    ∃ (p : Option Addr) (n c : Nat) (X : Nat → Pv), v = .slice p n c ∧ PAt W p n X ∧ ∀ i, i < n → (X i).num < 18446744073709551616 := by
  obtain ⟨sl, len0, cap0, rfl⟩ := okWide_slice Tryd.underlying36 hval
  obtain ⟨fuel, g0⟩ := h
  have k30 : Tryd.prog.cellsOf 39 = 3 := by kernel_rfl
  simp only [Value.cells] at g0
  rcases open_slice Tryd.underlying36 g0 with ⟨hcs, _⟩ | ⟨a, len, cap, m, n', D, Pl, hcs, _, hl, hm, hmm, hy0, hel⟩
  · simp at hcs
    obtain ⟨rfl, rfl, rfl⟩ := hcs
    exact ⟨none, 0, 0, fun _ => ⟨0, 0, 0⟩, rfl, .inl rfl, fun i hi => by omega⟩
  · simp at hcs
    obtain ⟨rfl, rfl, rfl⟩ := hcs
    simp only [if_true] at hmm
    subst hmm
    rw [k30] at hel
    have hall : ∀ i, i < len0 → ∃ X : Pv, ∃ cs', W.cells? 0 (a.add (i * 3)) 3 = some cs' ∧ cs' = [.int .i64 X.wh, .int .i64 X.gp, .int .u64 X.num] ∧ X.num < 18446744073709551616 := by
      intro i hi
      obtain ⟨cs', h1, h2⟩ := hel i (by omega)
      have hlen := (World.cells?_some h1).2.1
      obtain ⟨X, h3, h4⟩ := view_pick h2 hlen
      exact ⟨X, cs', h1, h3, h4⟩
    have inh : Inhabited Pv := ⟨⟨0, 0, 0⟩⟩
    obtain ⟨N, hN⟩ := choose_lt hall
    refine ⟨some a, len0, _, N, rfl, ?_, fun i hi => by obtain ⟨_, _, _, h⟩ := hN i hi; exact h⟩
    rcases Nat.eq_zero_or_pos len0 with z | z
    · exact .inl z
    · obtain ⟨b, off, spot⟩ := a
      obtain ⟨cs0, e0, e1, _⟩ := hN 0 z
      have h0 := (World.cells?_some e0).2.2 0 (by decide)
      rw [e1] at h0
      have hspot : spot = none := by simpa [Addr.add] using World.cell?_spot h0
      subst hspot
      have hbl := World.block_lt_of_cell? _ _ h0
      refine .inr ⟨b, off, rfl, by simpa [Addr.add] using hbl, fun i hi => ?_⟩
      obtain ⟨cs', f0, f1, f2⟩ := hN i hi
      have hc := (World.cells?_some f0).2.2
      rw [f1] at hc
      refine ⟨?_, ?_, ?_⟩
      · simpa [addr_add] using hc 0 (by decide)
      · simpa [addr_add, Nat.add_assoc] using hc 1 (by decide)
      · simpa [addr_add, Nat.add_assoc] using hc 2 (by decide)
theorem law_made' (p : Option Addr) (n c : Nat) (X : Nat → Pv) (hX : ∀ i, i < n → (X i).num < 18446744073709551616) (w : World) (g : Gr w) (hP : PAt w p n X) :
    Calls Tryd.prog 4 #[.slice p n c] w fun e w' => e = .returned (.bool true) ∧ Below w.heap.size w w' := law_made p n c X hX w hP g
end Go.Proofs.YtidffddmlaedcaaDoor
