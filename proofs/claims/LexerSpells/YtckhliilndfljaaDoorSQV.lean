import Derived.Test.YtckhliilndfljaaDoorRows
import Derived.Test.YtckhliilndfljaaDoorSQ4
import Derived.WalkKit
import Derived.ProofKit
import Derived.OpenShut
import Derived.Deep.Slices
import Derived.SizedLaws
namespace Go.Proofs.YtckhliilndfljaaDoor
open Go.ChangeShapes Go.WideShapes Go.ChangeAt Go.RowKit Go.Deep
set_option linter.unusedVariables false
set_option maxRecDepth 100000

theorem list5 {α : Type} {l : List α} (h : l.length = 5) : ∃ a b c d e, l = [a, b, c, d, e] := by
  match l, h with
  | [a, b, c, d, e], _ => exact ⟨a, b, c, d, e, rfl⟩
theorem addr_addQ (b off i : Nat) : (⟨b, off, none⟩ : Addr).add i = ⟨b, off + i, none⟩ := by
  unfold Addr.add
  by_cases hi : i = 0 <;> simp [hi]
theorem view_tok {H : Type} {enc : TypeId × Value → H} {W : World} {fuel : Nat} {cs : List Value} {x : DataW H × List MemPlace} (h : DataW.trod enc Tryd.prog W 0 (fun _ => true) true fuel 34 cs = some x) (hl : cs.length = 5) :
    ∃ X : Tk, cs = tkCells X ∧ TkR X := by
  obtain ⟨c0, c1, c2, c3, c4, rfl⟩ := list5 hl
  obtain ⟨xs, n, _, hx0, _, hxl, hx⟩ := DataW.trod_struct Tryd.underlying34 h
  obtain ⟨y0, y1, y2, y3, y4, rfl⟩ := list5 (by simpa using hxl)
  have k3 : Tryd.prog.cellsOf 3 = 1 := by kernel_rfl
  have k9 : Tryd.prog.cellsOf 9 = 1 := by kernel_rfl
  have k27 : Tryd.prog.cellsOf 32 = 1 := by kernel_rfl
  have g0 := hx 0 _ rfl
  have g1 := hx 1 _ rfl
  have g2 := hx 2 _ rfl
  have g3 := hx 3 _ rfl
  have g4 := hx 4 _ rfl
  simp [k3, k9, k27] at g0 g1 g2 g3 g4
  obtain ⟨x0, s0, _, w0⟩ := DataW.trod_int Tryd.underlying3 g0
  obtain ⟨x1, s1, _, w1⟩ := DataW.trod_string Tryd.underlying9 g1
  obtain ⟨x2, s2, _, w2⟩ := DataW.trod_int Tryd.underlying32 g2
  obtain ⟨x3, s3, _, w3⟩ := DataW.trod_int Tryd.underlying3 g3
  obtain ⟨x4, s4, _, w4⟩ := DataW.trod_int Tryd.underlying3 g4
  simp at s0 s1 s2 s3 s4
  subst s0 s1 s2 s3 s4
  have b2 := bounds_u64 w2
  obtain ⟨q, rfl⟩ := Int.eq_ofNat_of_zero_le b2.1
  have e1 : (⟨x1.data.toList.toArray⟩ : ByteArray) = x1 := by cases x1; simp
  have e0 : x1.data.toList.length = x1.size := by rw [Array.length_toList]; rfl
  refine ⟨⟨x0, x1.data.toList, q, x3, x4⟩, ?_, ?_, bounds_i64 w3, bounds_i64 w4⟩
  · show _ = [Value.int .i64 x0, .string ⟨x1.data.toList.toArray⟩, .int .u64 (q : Int), .int .i64 x3, .int .i64 x4]
    rw [e1]
  · show x1.data.toList.length ≤ maxLen
    rw [e0]
    exact w1
theorem view_toks {H : Type} {enc : TypeId × Value → H} {W : World} {base : Nat} {v : Value} {d : DataW H} {pl : List MemPlace}
    (hval : Value.okWide Tryd.prog W .any base 24 v) (h : DataW.Trod enc Tryd.prog W 0 (fun _ => true) true 24 v d pl) (hw : ∀ y ∈ d.weights Tryd.prog 24, y ≤ reachBytes) :
    ∃ (p : Option Addr) (n c : Nat) (X : Nat → Tk), v = .slice p n c ∧ TX W p n X ∧ n ≤ 2932031007317 ∧ ∀ i, i < n → TkR (X i) := by
  obtain ⟨sl, len0, cap0, rfl⟩ := okWide_slice Tryd.underlying24 hval
  obtain ⟨fuel, g0⟩ := h
  have k30 : Tryd.prog.cellsOf 34 = 5 := by kernel_rfl
  simp only [Value.cells] at g0
  rcases open_slice Tryd.underlying24 g0 with ⟨hcs, _⟩ | ⟨a, len, cap, m, n', D, Pl, hcs, _, hl, hm, hmm, hy0, hel⟩
  · simp at hcs
    obtain ⟨rfl, rfl, rfl⟩ := hcs
    exact ⟨none, 0, 0, fun _ => ⟨0, [], 0, 0, 0⟩, rfl, .inl rfl, by omega, fun i hi => by omega⟩
  · simp at hcs
    obtain ⟨rfl, rfl, rfl⟩ := hcs
    simp only [if_true] at hmm
    subst hmm
    rw [k30] at hel
    simp only [Prod.mk.injEq] at hy0
    have hb : len0 * 48 ≤ reachBytes := by
      have := hw ((len0 + (m - len0)) * 48) (by
        rw [hy0.1]
        simp only [DataW.weights, Tryd.underlying24]
        rw [show Tryd.prog.bytesOf 34 = 48 from by kernel_rfl]
        simp)
      have e : len0 + (m - len0) = m := by omega
      rw [e] at this
      omega
    have hall : ∀ i, i < len0 → ∃ X : Tk, ∃ cs', W.cells? 0 (a.add (i * 5)) 5 = some cs' ∧ cs' = tkCells X ∧ TkR X := by
      intro i hi
      obtain ⟨cs', h1, h2⟩ := hel i (by omega)
      have hlen := (World.cells?_some h1).2.1
      obtain ⟨X, h3, h4⟩ := view_tok h2 hlen
      exact ⟨X, cs', h1, h3, h4⟩
    have inh : Inhabited Tk := ⟨⟨0, [], 0, 0, 0⟩⟩
    obtain ⟨N, hN⟩ := choose_lt hall
    refine ⟨some a, len0, _, N, rfl, ?_, by unfold reachBytes at hb; omega, fun i hi => by obtain ⟨_, _, _, h⟩ := hN i hi; exact h⟩
    rcases Nat.eq_zero_or_pos len0 with z | z
    · exact .inl z
    · obtain ⟨b, off, spot⟩ := a
      obtain ⟨cs0, e0, e1, _⟩ := hN 0 z
      have h0 := (World.cells?_some e0).2.2 0 (by decide)
      rw [e1] at h0
      have hspot : spot = none := by simpa [Addr.add] using World.cell?_spot h0
      subst hspot
      have hbl := World.block_lt_of_cell? _ _ h0
      refine .inr ⟨b, off, rfl, by simpa [Addr.add] using hbl, fun i r hi hr => ?_⟩
      obtain ⟨cs', f0, f1, f2⟩ := hN i hi
      have hc := (World.cells?_some f0).2.2
      rw [f1] at hc
      have h9 := hc r hr
      rw [addr_addQ, addr_addQ] at h9
      rw [h9]
      rcases (by omega : r = 0 ∨ r = 1 ∨ r = 2 ∨ r = 3 ∨ r = 4) with rfl | rfl | rfl | rfl | rfl <;> rfl
theorem spells_law' (p : Option Addr) (n cp : Nat) (X : Nat → Tk) (hz : n ≤ 2932031007317 ∧ ∀ i, i < n → TkR (X i)) (w : World) (g : Gr w) (hin : TX w p n X) : Calls Tryd.prog 5 #[.slice p n cp] w fun e w' => e = .returned (.bool true) ∧ Below w.heap.size w w' := spells_law p n cp X hz.1 hz.2 w g hin
end Go.Proofs.YtckhliilndfljaaDoor
