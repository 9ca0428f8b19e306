import Derived.Test.YtmkchlhfcffdkaaRows
import Derived.Test.YtmkchlhfcffdkaaPT2
import Derived.Deep.Slices
import Derived.SizedLaws
namespace Go.Proofs.Ytmkchlhfcffdkaa
open Go.ChangeShapes Go.WideShapes Go.ChangeAt Go.RowKit Go.Deep
set_option linter.unusedVariables false
set_option maxRecDepth 100000

theorem mem_all {H : Type} {P : Program} {e : TypeId} {d : DataW H} : ∀ {l : List (DataW H)}, d ∈ l → ∀ x ∈ d.weights P e, x ∈ DataW.weightsAll P e l
  | [], h, _, _ => by cases h
  | a :: l, h, x, hx => by
    simp only [DataW.weightsAll, List.mem_append]
    rcases List.mem_cons.1 h with rfl | h
    · exact .inl hx
    · exact .inr (mem_all h x hx)
theorem view_text {H : Type} {enc : TypeId × Value → H} {W : World} {fuel : Nat} {cs : List Value} {x : DataW H × List MemPlace} (h : DataW.trod enc Try.prog W 0 (fun _ => true) true fuel 9 cs = some x) (hw : ∀ y ∈ x.1.weights Try.prog 9, y ≤ reachBytes) :
    ∃ X : Tx, cs = [.string X.val] := by
  obtain ⟨x0, s0, t0, w0⟩ := DataW.trod_string Try.underlying9 h
  have b0 : x0.size ≤ reachBytes := by
    have e0 : x0.data.toList.length = x0.size := by rw [Array.length_toList]; rfl
    rw [← e0]
    refine hw _ ?_
    rw [t0]
    simp [DataW.weights]
  exact ⟨⟨x0, by unfold reachBytes at b0; omega⟩, s0⟩
theorem view_texts {H : Type} {enc : TypeId × Value → H} {W : World} {base : Nat} {v : Value} {d : DataW H} {pl : List MemPlace}
    (hval : Value.okWide Try.prog W .any base 22 v) (h : DataW.Trod enc Try.prog W 0 (fun _ => true) true 22 v d pl) (hw : ∀ y ∈ d.weights Try.prog 22, y ≤ reachBytes) :
    ∃ (p : Option Addr) (n c : Nat) (X : Nat → Tx), v = .slice p n c ∧ TIn W p n X := by
  obtain ⟨sl, len0, cap0, rfl⟩ := okWide_slice Try.underlying22 hval
  obtain ⟨fuel, g0⟩ := h
  have k30 : Try.prog.cellsOf 9 = 1 := by kernel_rfl
  simp only [Value.cells] at g0
  rcases open_slice Try.underlying22 g0 with ⟨hcs, _⟩ | ⟨a, len, cap, m, n', D, Pl, hcs, _, hl, hm, hmm, hy0, hel⟩
  · simp at hcs
    obtain ⟨rfl, rfl, rfl⟩ := hcs
    exact ⟨none, 0, 0, fun _ => ⟨⟨#[]⟩, by decide⟩, rfl, .inl rfl⟩
  · simp at hcs
    obtain ⟨rfl, rfl, rfl⟩ := hcs
    simp only [if_true] at hmm
    subst hmm
    rw [k30] at hel
    simp only [Prod.mk.injEq] at hy0
    have hall : ∀ i, i < len0 → ∃ X : Tx, ∃ cs', W.cells? 0 (a.add (i * 1)) 1 = some cs' ∧ cs' = [.string X.val] := by
      intro i hi
      obtain ⟨cs', h1, h2⟩ := hel i (by omega)
      obtain ⟨X, h3⟩ := view_text h2 (fun y hy => hw y (by
        rw [hy0.1]
        simp only [DataW.weights, Try.underlying22]
        refine List.mem_cons_of_mem _ (List.mem_append_left _ ?_)
        exact mem_all (List.mem_map.2 ⟨i, List.mem_range.2 hi, rfl⟩) y hy))
      exact ⟨X, cs', h1, h3⟩
    have inh : Inhabited Tx := ⟨⟨⟨#[]⟩, by decide⟩⟩
    obtain ⟨X, hX⟩ := choose_lt hall
    have hcell : ∀ i, i < len0 → W.cell? (a.add i) = some (.string (X i).val) := fun i hi => by
      obtain ⟨cs', f0, f1⟩ := hX i hi
      have hc := (World.cells?_some f0).2.2
      rw [f1] at hc
      have := hc 0 (by decide)
      rw [Addr.add_add] at this
      simpa using this
    refine ⟨some a, len0, m, X, rfl, ?_⟩
    rcases Nat.eq_zero_or_pos len0 with z | z
    · exact .inl z
    · obtain ⟨b, off, spot⟩ := a
      have h0 := hcell 0 z
      have hspot : spot = none := by simpa [Addr.add] using World.cell?_spot h0
      subst hspot
      have hbl := World.block_lt_of_cell? _ _ h0
      exact .inr ⟨b, off, rfl, by simpa [Addr.add] using hbl, fun i hi => by simpa [addr_add] using hcell i hi⟩
end Go.Proofs.Ytmkchlhfcffdkaa
