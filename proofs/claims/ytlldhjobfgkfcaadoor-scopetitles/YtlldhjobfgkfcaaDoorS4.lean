import Derived.Test.YtlldhjobfgkfcaaDoorRows
import Derived.Test.YtlldhjobfgkfcaaDoorS1
import Derived.Deep.Slices
import Derived.SizedLaws
namespace Go.Proofs.YtlldhjobfgkfcaaDoor
open Go.ChangeShapes Go.WideShapes Go.ChangeAt Go.RowKit Go.Deep
set_option linter.unusedVariables false
set_option maxRecDepth 100000

theorem list4 {α : Type} {l : List α} (h : l.length = 4) : ∃ a b c d, l = [a, b, c, d] := by
  match l, h with
  | [a, b, c, d], _ => exact ⟨a, b, c, d, rfl⟩
def PlOk (X : Plc) : Prop := (-9223372036854775808 ≤ X.pos ∧ X.pos ≤ 9223372036854775807) ∧ (-9223372036854775808 ≤ X.size ∧ X.size ≤ 9223372036854775807) ∧ X.name.size ≤ 140737488351232
theorem mem_all {H : Type} {P : Program} {e : TypeId} {d : DataW H} : ∀ {l : List (DataW H)}, d ∈ l → ∀ x ∈ d.weights P e, x ∈ DataW.weightsAll P e l
  | [], h, _, _ => by cases h
  | a :: l, h, x, hx => by
    simp only [DataW.weightsAll, List.mem_append]
    rcases List.mem_cons.1 h with rfl | h
    · exact .inl hx
    · exact .inr (mem_all h x hx)
theorem view_place {H : Type} {enc : TypeId × Value → H} {W : World} {fuel : Nat} {cs : List Value} {x : DataW H × List MemPlace} (h : DataW.trod enc Tryd.prog W 0 (fun _ => true) true fuel 39 cs = some x) (hl : cs.length = 4) (hw : ∀ y ∈ x.1.weights Tryd.prog 39, y ≤ reachBytes) :
    ∃ X : Plc, cs = [.string X.name, .int .i64 X.typ, .int .i64 X.pos, .int .i64 X.size] ∧ PlOk X := by
  obtain ⟨c0, c1, c2, c3, rfl⟩ := list4 hl
  obtain ⟨xs, n, _, hx0, _, hxl, hx⟩ := DataW.trod_struct Tryd.underlying39 h
  obtain ⟨y0, y1, y2, y3, rfl⟩ := list4 (by simpa using hxl)
  have k3 : Tryd.prog.cellsOf 3 = 1 := by kernel_rfl
  have k9 : Tryd.prog.cellsOf 9 = 1 := by kernel_rfl
  have g0 := hx 0 _ rfl
  have g1 := hx 1 _ rfl
  have g2 := hx 2 _ rfl
  have g3 := hx 3 _ rfl
  simp [k3, k9] at g0 g1 g2 g3
  obtain ⟨x0, s0, t0, w0⟩ := DataW.trod_string Tryd.underlying9 g0
  obtain ⟨x1, s1, _, w1⟩ := DataW.trod_int Tryd.underlying3 g1
  obtain ⟨x2, s2, _, w2⟩ := DataW.trod_int Tryd.underlying3 g2
  obtain ⟨x3, s3, _, w3⟩ := DataW.trod_int Tryd.underlying3 g3
  simp at s0 s1 s2 s3
  subst s0 s1 s2 s3
  have b0 : x0.size ≤ reachBytes := by
    have e0 : x0.data.toList.length = x0.size := by rw [Array.length_toList]; rfl
    rw [← e0]
    refine hw _ ?_
    rw [hx0]
    simp only [DataW.weights, Tryd.underlying39]
    refine DataW.weights_mem_each (j := 0) (t := 9) (d := y0.1) ?_ rfl _ ?_
    · kernel_rfl
    · rw [t0]
      simp [DataW.weights]
  exact ⟨⟨x0, x1, x2, x3⟩, rfl, bounds_i64 w2, bounds_i64 w3, by unfold reachBytes at b0; exact b0⟩

theorem view_places {H : Type} {enc : TypeId × Value → H} {W : World} {base : Nat} {v : Value} {d : DataW H} {pl : List MemPlace}
    (hval : Value.okWide Tryd.prog W .any base 22 v) (h : DataW.Trod enc Tryd.prog W 0 (fun _ => true) true 22 v d pl) (hw : ∀ y ∈ d.weights Tryd.prog 22, y ≤ reachBytes) :
    ∃ (p : Option Addr) (n c : Nat) (N : Nat → Plc), v = .slice p n c ∧ QSrc W p n c N ∧ n * 40 ≤ 140737488351232 ∧ ∀ i, i < n → PlOk (N i) := by
  obtain ⟨sl, len0, cap0, rfl⟩ := okWide_slice Tryd.underlying22 hval
  obtain ⟨fuel, g0⟩ := h
  have k30 : Tryd.prog.cellsOf 39 = 4 := by kernel_rfl
  simp only [Value.cells] at g0
  rcases open_slice Tryd.underlying22 g0 with ⟨hcs, _⟩ | ⟨a, len, cap, m, n', D, Pl, hcs, _, hl, hm, hmm, hy0, hel⟩
  · simp at hcs
    obtain ⟨rfl, rfl, rfl⟩ := hcs
    exact ⟨none, 0, 0, fun _ => ⟨⟨#[]⟩, 0, 0, 0⟩, rfl, .inl ⟨rfl, rfl, rfl⟩, by omega, fun i hi => by omega⟩
  · simp at hcs
    obtain ⟨rfl, rfl, rfl⟩ := hcs
    simp only [if_true] at hmm
    subst hmm
    rw [k30] at hel
    simp only [Prod.mk.injEq] at hy0
    have hb : len0 * 40 ≤ reachBytes := by
      have := hw ((len0 + (m - len0)) * 40) (by
        rw [hy0.1]
        simp only [DataW.weights, Tryd.underlying22]
        rw [show Tryd.prog.bytesOf 39 = 40 from by kernel_rfl]
        simp)
      have e : len0 + (m - len0) = m := by omega
      rw [e] at this
      omega
    have hall : ∀ i, i < len0 → ∃ X : Plc, ∃ cs', W.cells? 0 (a.add (i * 4)) 4 = some cs' ∧ cs' = [.string X.name, .int .i64 X.typ, .int .i64 X.pos, .int .i64 X.size] ∧ PlOk X := by
      intro i hi
      obtain ⟨cs', h1, h2⟩ := hel i (by omega)
      have hlen := (World.cells?_some h1).2.1
      obtain ⟨X, h3, h4⟩ := view_place h2 hlen (fun y hy => hw y (by
        rw [hy0.1]
        simp only [DataW.weights, Tryd.underlying22]
        refine List.mem_cons_of_mem _ (List.mem_append_left _ ?_)
        exact mem_all (List.mem_map.2 ⟨i, List.mem_range.2 hi, rfl⟩) y hy))
      exact ⟨X, cs', h1, h3, h4⟩
    have inh : Inhabited Plc := ⟨⟨⟨#[]⟩, 0, 0, 0⟩⟩
    obtain ⟨N, hN⟩ := choose_lt hall
    refine ⟨some a, len0, m, N, rfl, .inr ⟨a, rfl, ?_⟩, by unfold reachBytes at hb; omega, fun i hi => by obtain ⟨_, _, _, h⟩ := hN i hi; exact h⟩
    intro j u hj
    obtain ⟨hj1, hu⟩ := plcs_back N len0 j u hj
    obtain ⟨cs', f0, f1, f2⟩ := hN (j / 4) (by omega)
    have hc := (World.cells?_some f0).2.2
    have hadd : (a.add (j / 4 * 4)).add (j % 4) = a.add j := by
      rw [Addr.add_add]
      congr 1
      omega
    rw [f1] at hc
    rw [hu, ← hadd]
    have h4 : j % 4 < 4 := Nat.mod_lt _ (by decide)
    match h : j % 4, h4 with
    | 0, _ => simpa [plc] using hc 0 (by decide)
    | 1, _ => simpa [plc] using hc 1 (by decide)
    | 2, _ => simpa [plc] using hc 2 (by decide)
    | 3, _ => simpa [plc] using hc 3 (by decide)
end Go.Proofs.YtlldhjobfgkfcaaDoor
