import Derived.Test.YtmkchlhfcffdkaaRows
import Derived.Test.YtmkchlhfcffdkaaPEM
import Derived.Deep.Slices
import Derived.ChangeOld
import Derived.SizedLaws
namespace Go.Proofs.Ytmkchlhfcffdkaa
open Go.ChangeShapes Go.WideShapes Go.ChangeAt Go.RowKit Go.Deep
set_option linter.unusedVariables false
set_option maxRecDepth 100000

theorem ls6 {α : Type} {l : List α} (h : l.length = 6) : ∃ a b c d e f, l = [a, b, c, d, e, f] := by
  match l, h with
  | [a, b, c, d, e, f], _ => exact ⟨a, b, c, d, e, f, rfl⟩
theorem ls4 {α : Type} {l : List α} (h : l.length = 4) : ∃ a b c d, l = [a, b, c, d] := by
  match l, h with
  | [a, b, c, d], _ => exact ⟨a, b, c, d, rfl⟩
theorem ls3 {α : Type} {l : List α} (h : l.length = 3) : ∃ a b c, l = [a, b, c] := by
  match l, h with
  | [a, b, c], _ => exact ⟨a, b, c, rfl⟩
theorem view_sev {H : Type} {enc : TypeId × Value → H} {W : World} {fuel : Nat} {cs : List Value} {x : DataW H × List MemPlace} (h : DataW.trod enc Try.prog W 0 (fun _ => true) true fuel 44 cs = some x) (hl : cs.length = 6) :
    ∃ e : Se, cs = seL e := by
  obtain ⟨c0, c1, c2, c3, c4, c5, rfl⟩ := ls6 hl
  obtain ⟨xs, n, _, _, _, hxl, hx⟩ := DataW.trod_struct Try.underlying44 h
  obtain ⟨y0, y1, y2, y3, rfl⟩ := ls4 (by simpa using hxl)
  have k24 : Try.prog.cellsOf 42 = 3 := by kernel_rfl
  have k22 : Try.prog.cellsOf 40 = 1 := by kernel_rfl
  have k3 : Try.prog.cellsOf 3 = 1 := by kernel_rfl
  have k2 : Try.prog.cellsOf 2 = 1 := by kernel_rfl
  have g0 := hx 0 _ rfl
  have g1 := hx 1 _ rfl
  have g2 := hx 2 _ rfl
  have g3 := hx 3 _ rfl
  simp [k24, k3, k2] at g0 g1 g2 g3
  obtain ⟨ys, n', _, _, _, hyl, hy⟩ := DataW.trod_struct Try.underlying42 g0
  obtain ⟨z0, z1, z2, rfl⟩ := ls3 (by simpa using hyl)
  have e0 := hy 0 _ rfl
  have e1 := hy 1 _ rfl
  have e2 := hy 2 _ rfl
  simp [k22, k3] at e0 e1 e2
  obtain ⟨x0, s0, _, w0⟩ := DataW.trod_int Try.underlying40 e0
  obtain ⟨x1, s1, _, w1⟩ := DataW.trod_int Try.underlying3 e1
  obtain ⟨x2, s2, _, w2⟩ := DataW.trod_int Try.underlying40 e2
  obtain ⟨x3, s3, _, w3⟩ := DataW.trod_int Try.underlying3 g1
  obtain ⟨x4, s4, _, w4⟩ := DataW.trod_int Try.underlying3 g2
  obtain ⟨x5, s5, _, w5⟩ := DataW.trod_int Try.underlying2 g3
  simp at s0 s1 s2 s3 s4 s5
  subst s0 s1 s2 s3 s4 s5
  exact ⟨⟨x0, x1, x2, x3, x4, x5⟩, rfl⟩
theorem view_evs1 {H : Type} {enc : TypeId × Value → H} {W : World} {fuel : Nat} {kv : Value} {x : DataW H × List MemPlace} (h : DataW.trod enc Try.prog W 0 (fun _ => true) true fuel 47 [kv] = some x) :
    ∃ Z : LsP, kv = .slice Z.p Z.n Z.c ∧ SIn W Z.p Z.n Z.X := by
  have k6 : Try.prog.cellsOf 44 = 6 := by kernel_rfl
  have inh : Inhabited Se := ⟨zeSM⟩
  rcases open_slice Try.underlying47 h with ⟨hcs, _⟩ | ⟨a, len, cap, m, n', D, Pl, hcs, _, hl, hm, hmm, hy0, hel⟩
  · simp at hcs
    subst hcs
    exact ⟨⟨none, 0, 0, fun _ => zeSM⟩, rfl, .inl rfl⟩
  · simp at hcs
    subst hcs
    simp only [if_true] at hmm
    subst hmm
    rw [k6] at hel
    have hall : ∀ i, i < len → ∃ X : Se, ∃ cs', W.cells? 0 (a.add (i * 6)) 6 = some cs' ∧ cs' = seL X := by
      intro i hi
      obtain ⟨cs', h1, h2⟩ := hel i (by omega)
      have hlen := (World.cells?_some h1).2.1
      obtain ⟨X, h3⟩ := view_sev h2 hlen
      exact ⟨X, cs', h1, h3⟩
    obtain ⟨N, hN⟩ := choose_lt hall
    refine ⟨⟨some a, m, len, N⟩, rfl, ?_⟩
    rcases Nat.eq_zero_or_pos len with z | z
    · exact .inl z
    · obtain ⟨b, off, spot⟩ := a
      obtain ⟨cs0, e0, e1⟩ := hN 0 z
      have h0 := (World.cells?_some e0).2.2 0 (by decide)
      rw [e1] at h0
      have hspot : spot = none := by simpa [Addr.add] using World.cell?_spot h0
      subst hspot
      have hbl := World.block_lt_of_cell? _ _ h0
      refine .inr ⟨b, off, rfl, by simpa [Addr.add] using hbl, fun j hj => ?_⟩
      have hj' : j < len * 6 := hj
      obtain ⟨cs', f0, f1⟩ := hN (j / 6) (by omega)
      have hc := (World.cells?_some f0).2.2
      rw [f1] at hc
      have hr : j % 6 < 6 := by omega
      have h6 := hc (j % 6) hr
      rw [addr_add0, addr_add0, show off + j / 6 * 6 + j % 6 = off + j by omega] at h6
      rw [h6]
      unfold seF seC
      have : j % 6 = 0 ∨ j % 6 = 1 ∨ j % 6 = 2 ∨ j % 6 = 3 ∨ j % 6 = 4 ∨ j % 6 = 5 := by omega
      rcases this with e | e | e | e | e | e <;> rw [e] <;> rfl
theorem view_evss {H : Type} {enc : TypeId × Value → H} {W : World} {base : Nat} {v : Value} {d : DataW H} {pl : List MemPlace}
    (hval : Value.okWide Try.prog W .any base 36 v) (h : DataW.Trod enc Try.prog W 0 (fun _ => true) true 36 v d pl) :
    ∃ (p : Option Addr) (n c : Nat) (Y : Nat → LsP), v = .slice p n c ∧ LsIn W p n Y := by
  obtain ⟨sl, len0, cap0, rfl⟩ := okWide_slice Try.underlying36 hval
  obtain ⟨fuel, g0⟩ := h
  have k1 : Try.prog.cellsOf 47 = 1 := by kernel_rfl
  have inh : Inhabited LsP := ⟨⟨none, 0, 0, fun _ => zeSM⟩⟩
  simp only [Value.cells] at g0
  rcases open_slice1 Try.underlying36 k1 g0 with ⟨hcs, _⟩ | ⟨a, len, cap, m, n', V, D, Pl, hcs, _, hl, hm, hmm, hy0, hel⟩
  · simp at hcs
    obtain ⟨rfl, rfl, rfl⟩ := hcs
    exact ⟨none, 0, 0, fun _ => ⟨none, 0, 0, fun _ => zeSM⟩, rfl, ⟨.inl rfl, fun k hk => absurd hk (Nat.not_lt_zero _)⟩⟩
  · simp at hcs
    obtain ⟨rfl, rfl, rfl⟩ := hcs
    simp only [if_true] at hmm
    subst hmm
    simp only [Prod.mk.injEq] at hy0
    have hall : ∀ i, i < len0 → ∃ Z : LsP, V i = .slice Z.p Z.n Z.c ∧ SIn W Z.p Z.n Z.X := fun i hi => view_evs1 (hel i (by omega)).2
    obtain ⟨Y, hY⟩ := choose_lt hall
    refine ⟨some a, len0, m, Y, rfl, ⟨?_, fun k hk => (hY k hk).2⟩⟩
    rcases Nat.eq_zero_or_pos len0 with z | z
    · exact .inl z
    · obtain ⟨b, off, spot⟩ := a
      have h0 := (hel 0 (by omega)).1
      have hspot : spot = none := by simpa [Addr.add] using World.cell?_spot h0
      subst hspot
      have hbl := World.block_lt_of_cell? _ _ h0
      refine .inr ⟨b, off, rfl, by simpa [Addr.add] using hbl, fun i hi => ?_⟩
      have h9 := (hel i (by omega)).1
      rw [addr_add0, (hY i hi).1] at h9
      exact h9
end Go.Proofs.Ytmkchlhfcffdkaa
