import Derived.Test.YtlklolmhaiaaiaaKY19
import Derived.Test.YtlklolmhaiaaiaaKY20
import Derived.Test.YtlklolmhaiaaiaaKY35
namespace Go.Proofs.Ytlklolmhaiaaiaa
open Go.ChangeShapes Go.WideShapes Go.ChangeAt Go.RowKit Go.Deep
set_option linter.unusedVariables false
set_option maxRecDepth 100000

theorem list4 {α : Type} {l : List α} (h : l.length = 4) : ∃ a b c d, l = [a, b, c, d] := by
  match l, h with
  | [a, b, c, d], _ => exact ⟨a, b, c, d, rfl⟩
theorem list6 {α : Type} {l : List α} (h : l.length = 6) : ∃ a b c d e f, l = [a, b, c, d, e, f] := by
  match l, h with
  | [a, b, c, d, e, f], _ => exact ⟨a, b, c, d, e, f, rfl⟩
theorem view_evt {H : Type} {enc : TypeId × Value → H} {W : World} {fuel : Nat} {cs : List Value} {x : DataW H × List MemPlace} (h : DataW.trod enc Try.prog W 0 (fun _ => true) true fuel 64 cs = some x) (hl : cs.length = 6) :
    ∃ X : Ev, cs = evL X := by
  obtain ⟨c0, c1, c2, c3, c4, c5, rfl⟩ := list6 hl
  obtain ⟨xs, n, _, _, _, hxl, hx⟩ := DataW.trod_struct Try.underlying64 h
  obtain ⟨y0, y1, y2, y3, rfl⟩ := list4 (by simpa using hxl)
  have k24 : Try.prog.cellsOf 30 = 3 := by kernel_rfl
  have k3 : Try.prog.cellsOf 3 = 1 := by kernel_rfl
  have k2 : Try.prog.cellsOf 2 = 1 := by kernel_rfl
  have g0 := hx 0 _ rfl
  have g1 := hx 1 _ rfl
  have g2 := hx 2 _ rfl
  have g3 := hx 3 _ rfl
  simp [k24, k3, k2] at g0 g1 g2 g3
  obtain ⟨X, hX⟩ := view_key g0 rfl
  simp at hX
  obtain ⟨s0, s1, s2⟩ := hX
  obtain ⟨x3, s3, _, w3⟩ := DataW.trod_int Try.underlying3 g1
  obtain ⟨x4, s4, _, w4⟩ := DataW.trod_int Try.underlying3 g2
  obtain ⟨x5, s5, _, w5⟩ := DataW.trod_int Try.underlying2 g3
  simp at s3 s4 s5
  subst s0 s1 s2 s3 s4 s5
  exact ⟨⟨X.t, X.s, X.q, x3, x4, x5⟩, rfl⟩
/-- a list of events that comes in -/
theorem view_evts {H : Type} {enc : TypeId × Value → H} {W : World} {base : Nat} {v : Value} {d : DataW H} {pl : List MemPlace}
    (hval : Value.okWide Try.prog W .any base 27 v) (h : DataW.Trod enc Try.prog W 0 (fun _ => true) true 27 v d pl) (hw : ∀ y ∈ d.weights Try.prog 27, y ≤ reachBytes) :
    ∃ (p : Option Addr) (n c : Nat) (X : Nat → Ev), v = .slice p n c ∧ EvIn W p n X ∧ n ≤ c ∧ n ≤ 1000000000000000000 := by
  obtain ⟨sl, len0, cap0, rfl⟩ := okWide_slice Try.underlying27 hval
  obtain ⟨fuel, g0⟩ := h
  have k30 : Try.prog.cellsOf 64 = 6 := by kernel_rfl
  simp only [Value.cells] at g0
  rcases open_slice Try.underlying27 g0 with ⟨hcs, _⟩ | ⟨a, len, cap, m, n', D, Pl, hcs, _, hl, hm, hmm, hy0, hel⟩
  · simp at hcs
    obtain ⟨rfl, rfl, rfl⟩ := hcs
    exact ⟨none, 0, 0, fun _ => ev0, rfl, .inl rfl, by omega, by omega⟩
  · simp at hcs
    obtain ⟨rfl, rfl, rfl⟩ := hcs
    simp only [if_true] at hmm
    subst hmm
    rw [k30] at hel
    simp only [Prod.mk.injEq] at hy0
    have hb : len0 * 48 ≤ reachBytes := by
      have := hw ((len0 + (m - len0)) * 48) (by
        rw [hy0.1]
        simp only [DataW.weights, Try.underlying27]
        rw [show Try.prog.bytesOf 64 = 48 from by kernel_rfl]
        simp)
      have e : len0 + (m - len0) = m := by omega
      rw [e] at this
      omega
    have hall : ∀ i, i < len0 → ∃ X : Ev, ∃ cs', W.cells? 0 (a.add (i * 6)) 6 = some cs' ∧ cs' = evL X := by
      intro i hi
      obtain ⟨cs', h1, h2⟩ := hel i (by omega)
      have hlen := (World.cells?_some h1).2.1
      obtain ⟨X, h3⟩ := view_evt h2 hlen
      exact ⟨X, cs', h1, h3⟩
    have inh : Inhabited Ev := ⟨ev0⟩
    obtain ⟨N, hN⟩ := choose_lt hall
    refine ⟨some a, len0, _, N, rfl, ?_, by omega, by unfold reachBytes at hb; omega⟩
    rcases Nat.eq_zero_or_pos len0 with z | z
    · exact .inl z
    · obtain ⟨b, off, spot⟩ := a
      obtain ⟨cs0, e0, e1⟩ := hN 0 z
      have h0 := (World.cells?_some e0).2.2 0 (by decide)
      rw [e1] at h0
      have hspot : spot = none := by simpa [Addr.add] using World.cell?_spot h0
      subst hspot
      have hbl := World.block_lt_of_cell? _ _ h0
      refine .inr ⟨b, off, rfl, by simpa [Addr.add] using hbl, fun i r hi hr => ?_⟩
      obtain ⟨cs', f0, f1⟩ := hN i hi
      have hc := (World.cells?_some f0).2.2 r hr
      rw [f1] at hc
      rw [addr_add, addr_add] at hc
      have h6 : r = 0 ∨ r = 1 ∨ r = 2 ∨ r = 3 ∨ r = 4 ∨ r = 5 := by omega
      rcases h6 with rfl | rfl | rfl | rfl | rfl | rfl <;> exact hc
end Go.Proofs.Ytlklolmhaiaaiaa
namespace Go.Proofs.Ytlklolmhaiaaiaa
open Go.ChangeShapes Go.WideShapes Go.ChangeAt Go.RowKit Go.Deep
set_option linter.unusedVariables false
set_option maxRecDepth 100000

theorem list5 {α : Type} {l : List α} (h : l.length = 5) : ∃ a b c d e, l = [a, b, c, d, e] := by
  match l, h with
  | [a, b, c, d, e], _ => exact ⟨a, b, c, d, e, rfl⟩
theorem list7 {α : Type} {l : List α} (h : l.length = 7) : ∃ a b c d e f g, l = [a, b, c, d, e, f, g] := by
  match l, h with
  | [a, b, c, d, e, f, g], _ => exact ⟨a, b, c, d, e, f, g, rfl⟩
theorem view_keyA {H : Type} {enc : TypeId × Value → H} {W : World} {base : Nat} {v : Value} {d : DataW H} {p : List MemPlace}
    (hval : Value.okWide Try.prog W .any base 30 v) (h : DataW.Trod enc Try.prog W 0 (fun _ => true) true 30 v d p) :
    ∃ X : K3, v = .agg #[.int .u64 X.t, .int .i64 X.s, .int .u64 X.q] := by
  obtain ⟨cs, rfl, hsz⟩ := okWide_struct Try.underlying30 hval
  rw [show Try.prog.cellsOf 30 = 3 from by kernel_rfl] at hsz
  obtain ⟨fuel, hf⟩ := h
  obtain ⟨X, h1⟩ := view_key (cs := cs.toList) (by simpa [Value.cells] using hf) (by simpa using hsz)
  refine ⟨X, ?_⟩
  obtain ⟨l⟩ := cs
  simp at h1
  rw [h1]
theorem view_op {H : Type} {enc : TypeId × Value → H} {W : World} {fuel : Nat} {cs : List Value} {x : DataW H × List MemPlace} (h : DataW.trod enc Try.prog W 0 (fun _ => true) true fuel 32 cs = some x) (hl : cs.length = 7) :
    ∃ X : OpV, cs = (opA X).toList := by
  obtain ⟨c0, c1, c2, c3, c4, c5, c6, rfl⟩ := list7 hl
  obtain ⟨xs, n, _, _, _, hxl, hx⟩ := DataW.trod_struct Try.underlying32 h
  obtain ⟨y0, y1, y2, y3, y4, rfl⟩ := list5 (by simpa using hxl)
  have k24 : Try.prog.cellsOf 30 = 3 := by kernel_rfl
  have k3 : Try.prog.cellsOf 3 = 1 := by kernel_rfl
  have k2 : Try.prog.cellsOf 2 = 1 := by kernel_rfl
  have g0 := hx 0 _ rfl
  have g1 := hx 1 _ rfl
  have g2 := hx 2 _ rfl
  have g3 := hx 3 _ rfl
  have g4 := hx 4 _ rfl
  simp [k24, k3, k2] at g0 g1 g2 g3 g4
  obtain ⟨X, hX⟩ := view_key g2 rfl
  simp at hX
  obtain ⟨s2, s3, s4⟩ := hX
  obtain ⟨x0, s0, _, w0⟩ := DataW.trod_int Try.underlying3 g0
  obtain ⟨x1, s1, _, w1⟩ := DataW.trod_int Try.underlying3 g1
  obtain ⟨x5, s5, _, w5⟩ := DataW.trod_int Try.underlying2 g3
  obtain ⟨x6, s6, _, w6⟩ := DataW.trod_int Try.underlying3 g4
  simp at s0 s1 s5 s6
  subst s0 s1 s2 s3 s4 s5 s6
  exact ⟨⟨x0, x1, X.t, X.s, X.q, x5, x6⟩, rfl⟩
/-- a script that comes in -/
theorem view_ops {H : Type} {enc : TypeId × Value → H} {W : World} {base : Nat} {v : Value} {d : DataW H} {pl : List MemPlace}
    (hval : Value.okWide Try.prog W .any base 22 v) (h : DataW.Trod enc Try.prog W 0 (fun _ => true) true 22 v d pl) (hw : ∀ y ∈ d.weights Try.prog 22, y ≤ reachBytes) :
    ∃ (p : Option Addr) (n c : Nat) (X : Nat → OpV), v = .slice p n c ∧ OpsIn W p n X ∧ n ≤ 3000000000000 := by
  obtain ⟨sl, len0, cap0, rfl⟩ := okWide_slice Try.underlying22 hval
  obtain ⟨fuel, g0⟩ := h
  have k30 : Try.prog.cellsOf 32 = 7 := by kernel_rfl
  simp only [Value.cells] at g0
  rcases open_slice Try.underlying22 g0 with ⟨hcs, _⟩ | ⟨a, len, cap, m, n', D, Pl, hcs, _, hl, hm, hmm, hy0, hel⟩
  · simp at hcs
    obtain ⟨rfl, rfl, rfl⟩ := hcs
    exact ⟨none, 0, 0, fun _ => ⟨0, 0, 0, 0, 0, 0, 0⟩, rfl, .inl rfl, by omega⟩
  · simp at hcs
    obtain ⟨rfl, rfl, rfl⟩ := hcs
    simp only [if_true] at hmm
    subst hmm
    rw [k30] at hel
    simp only [Prod.mk.injEq] at hy0
    have hb : len0 * 56 ≤ reachBytes := by
      have := hw ((len0 + (m - len0)) * 56) (by
        rw [hy0.1]
        simp only [DataW.weights, Try.underlying22]
        rw [show Try.prog.bytesOf 32 = 56 from by kernel_rfl]
        simp)
      have e : len0 + (m - len0) = m := by omega
      rw [e] at this
      omega
    have hall : ∀ i, i < len0 → ∃ X : OpV, ∃ cs', W.cells? 0 (a.add (i * 7)) 7 = some cs' ∧ cs' = (opA X).toList := by
      intro i hi
      obtain ⟨cs', h1, h2⟩ := hel i (by omega)
      have hlen := (World.cells?_some h1).2.1
      obtain ⟨X, h3⟩ := view_op h2 hlen
      exact ⟨X, cs', h1, h3⟩
    have inh : Inhabited OpV := ⟨⟨0, 0, 0, 0, 0, 0, 0⟩⟩
    obtain ⟨N, hN⟩ := choose_lt hall
    refine ⟨some a, len0, _, N, rfl, ?_, by unfold reachBytes at hb; omega⟩
    rcases Nat.eq_zero_or_pos len0 with z | z
    · exact .inl z
    · obtain ⟨b, off, spot⟩ := a
      obtain ⟨cs0, e0, e1⟩ := hN 0 z
      have h0 := (World.cells?_some e0).2.2 0 (by decide)
      rw [e1] at h0
      have hspot : spot = none := by simpa [Addr.add] using World.cell?_spot h0
      subst hspot
      have hbl := World.block_lt_of_cell? _ _ h0
      refine .inr ⟨b, off, rfl, by simpa [Addr.add] using hbl, fun i r hi hr => ?_⟩
      obtain ⟨cs', f0, f1⟩ := hN i hi
      have hc := (World.cells?_some f0).2.2 r hr
      rw [f1] at hc
      rw [addr_add, addr_add] at hc
      have h6 : r = 0 ∨ r = 1 ∨ r = 2 ∨ r = 3 ∨ r = 4 ∨ r = 5 ∨ r = 6 := by omega
      rcases h6 with rfl | rfl | rfl | rfl | rfl | rfl | rfl <;> exact hc
end Go.Proofs.Ytlklolmhaiaaiaa
