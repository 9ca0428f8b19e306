import Derived.Test.YtfgkmijaimfkjaaZ12
import Derived.Test.YtfgkmijaimfkjaaCK
namespace Go.Proofs.Ytfgkmijaimfkjaa
open Go.ChangeShapes Go.WideShapes Go.ChangeAt Go.RowKit Go.Deep
set_option linter.unusedVariables false
set_option maxRecDepth 100000

theorem list3n {α : Type} {l : List α} (h : l.length = 3) : ∃ a b c, l = [a, b, c] := by
  match l, h with
  | [a, b, c], _ => exact ⟨a, b, c, rfl⟩
theorem view_nstep {H : Type} {enc : TypeId × Value → H} {W : World} {fuel : Nat} {cs : List Value} {x : DataW H × List MemPlace} (h : DataW.trod enc Try.prog W 0 (fun _ => true) true fuel 39 cs = some x) (hl : cs.length = 3) :
    ∃ X : NsV, cs = (nsA X).toList := by
  obtain ⟨c0, c1, c2, rfl⟩ := list3n hl
  obtain ⟨xs, n, _, _, _, hxl, hx⟩ := DataW.trod_struct Try.underlying39 h
  obtain ⟨y0, y1, y2, rfl⟩ := list3n (by simpa using hxl)
  have k3 : Try.prog.cellsOf 3 = 1 := by kernel_rfl
  have k2 : Try.prog.cellsOf 2 = 1 := by kernel_rfl
  have g0 := hx 0 _ rfl
  have g1 := hx 1 _ rfl
  have g2 := hx 2 _ rfl
  simp [k3, k2] at g0 g1 g2
  obtain ⟨x0, s0, _, w0⟩ := DataW.trod_int Try.underlying3 g0
  obtain ⟨x1, s1, _, w1⟩ := DataW.trod_int Try.underlying3 g1
  obtain ⟨x2, s2, _, w2⟩ := DataW.trod_int Try.underlying2 g2
  simp at s0 s1 s2
  subst s0 s1 s2
  exact ⟨⟨x0, x1, x2⟩, rfl⟩
/-- a script that comes in -/
theorem view_nsteps {H : Type} {enc : TypeId × Value → H} {W : World} {base : Nat} {v : Value} {d : DataW H} {pl : List MemPlace}
    (hval : Value.okWide Try.prog W .any base 22 v) (h : DataW.Trod enc Try.prog W 0 (fun _ => true) true 22 v d pl) (hw : ∀ y ∈ d.weights Try.prog 22, y ≤ reachBytes) :
    ∃ (p : Option Addr) (n c : Nat) (X : Nat → NsV), v = .slice p n c ∧ NsIn W p n X ∧ n ≤ 10000000000000 := by
  obtain ⟨sl, len0, cap0, rfl⟩ := okWide_slice Try.underlying22 hval
  obtain ⟨fuel, g0⟩ := h
  have k30 : Try.prog.cellsOf 39 = 3 := by kernel_rfl
  simp only [Value.cells] at g0
  rcases open_slice Try.underlying22 g0 with ⟨hcs, _⟩ | ⟨a, len, cap, m, n', D, Pl, hcs, _, hl, hm, hmm, hy0, hel⟩
  · simp at hcs
    obtain ⟨rfl, rfl, rfl⟩ := hcs
    exact ⟨none, 0, 0, fun _ => ⟨0, 0, 0⟩, rfl, .inl rfl, by omega⟩
  · simp at hcs
    obtain ⟨rfl, rfl, rfl⟩ := hcs
    simp only [if_true] at hmm
    subst hmm
    rw [k30] at hel
    simp only [Prod.mk.injEq] at hy0
    have hb : len0 * 24 ≤ reachBytes := by
      have := hw ((len0 + (m - len0)) * 24) (by
        rw [hy0.1]
        simp only [DataW.weights, Try.underlying22]
        rw [show Try.prog.bytesOf 39 = 24 from by kernel_rfl]
        simp)
      have e : len0 + (m - len0) = m := by omega
      rw [e] at this
      omega
    have hall : ∀ i, i < len0 → ∃ X : NsV, ∃ cs', W.cells? 0 (a.add (i * 3)) 3 = some cs' ∧ cs' = (nsA X).toList := by
      intro i hi
      obtain ⟨cs', h1, h2⟩ := hel i (by omega)
      have hlen := (World.cells?_some h1).2.1
      obtain ⟨X, h3⟩ := view_nstep h2 hlen
      exact ⟨X, cs', h1, h3⟩
    have inh : Inhabited NsV := ⟨⟨0, 0, 0⟩⟩
    obtain ⟨N, hN⟩ := choose_lt hall
    refine ⟨some a, len0, _, N, rfl, ?_, by unfold reachBytes at hb; omega⟩
    rcases Nat.eq_zero_or_pos len0 with z | z
    · exact .inl z
    · obtain ⟨b, off, spot⟩ := a
      obtain ⟨cs0, e0, e1⟩ := hN 0 z
      have h0 := (World.cells?_some e0).2.2 0 (by decide)
      rw [e1] at h0
      have hspot : spot = none := by simpa [Addr.add] using World.cell?_spot h0
      subst hspot
      have hbl := World.block_lt_of_cell? _ _ h0
      refine .inr ⟨b, off, rfl, by simpa [Addr.add] using hbl, fun i r hi hr => ?_⟩
      obtain ⟨cs', f0, f1⟩ := hN i hi
      have hc := (World.cells?_some f0).2.2 r hr
      rw [f1] at hc
      rw [addr_add, addr_add] at hc
      have h6 : r = 0 ∨ r = 1 ∨ r = 2 := by omega
      rcases h6 with rfl | rfl | rfl <;> exact hc
end Go.Proofs.Ytfgkmijaimfkjaa
