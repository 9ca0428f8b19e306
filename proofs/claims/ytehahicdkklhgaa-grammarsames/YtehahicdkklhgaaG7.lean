import Derived.Test.YtehahicdkklhgaaRows
import Derived.Test.YtehahicdkklhgaaG2
import Derived.Test.YtehahicdkklhgaaG3
import Derived.Deep.Slices
import Derived.SizedLaws
namespace Go.Proofs.Ytehahicdkklhgaa
open Go.ChangeShapes Go.WideShapes Go.ChangeAt Go.RowKit Go.Deep
set_option linter.unusedVariables false
set_option maxRecDepth 100000

theorem list7 {α : Type} {l : List α} (h : l.length = 7) : ∃ a b c d e f g, l = [a, b, c, d, e, f, g] := by
  match l, h with
  | [a, b, c, d, e, f, g], _ => exact ⟨a, b, c, d, e, f, g, rfl⟩
theorem list1 {α : Type} {l : List α} (h : l.length = 1) : ∃ a, l = [a] := by
  match l, h with
  | [a], _ => exact ⟨a, rfl⟩
def noNd : NdF := ⟨0, ⟨#[]⟩, 0, 0, none, 0, 0, fun _ => 0, 0, 0⟩
theorem mem_all {H : Type} {P : Program} {e : TypeId} {d : DataW H} : ∀ {l : List (DataW H)}, d ∈ l → ∀ x ∈ d.weights P e, x ∈ DataW.weightsAll P e l
  | [], h, _, _ => by cases h
  | a :: l, h, x, hx => by
    simp only [DataW.weightsAll, List.mem_append]
    rcases List.mem_cons.1 h with rfl | h
    · exact .inl hx
    · exact .inr (mem_all h x hx)

theorem view_kids {H : Type} {enc : TypeId × Value → H} {W : World} {fuel : Nat} {kv : Value} {x : DataW H × List MemPlace} (h : DataW.trod enc Try.prog W 0 (fun _ => true) true fuel 28 [kv] = some x) (hw : ∀ y ∈ x.1.weights Try.prog 28, y ≤ reachBytes) :
    ∃ (p : Option Addr) (n c : Nat) (K : Nat → Int), kv = .slice p n c ∧ KAt W p n K ∧ n ≤ 17592186044416 := by
  rcases open_ints Try.underlying28 Try.underlying3 (by kernel_rfl) h with ⟨hcs, _⟩ | ⟨a, len, cap, zs, hcs, _, hl, hm, hz, hx, hcell, hwz⟩
  · simp at hcs
    subst hcs
    exact ⟨none, 0, 0, fun _ => 0, rfl, .inl rfl, by omega⟩
  · simp at hcs
    subst hcs
    simp only [if_true] at hz
    have hb : len * 8 ≤ reachBytes := by
      have := hw ((len + (cap - len)) * 8) (by
        rw [hx]
        simp only [DataW.weights, Try.underlying28]
        rw [show Try.prog.bytesOf 3 = 8 from by kernel_rfl]
        simp [lits]
        left
        congr 1
        omega)
      have e : len + (cap - len) = cap := by omega
      rw [e] at this
      omega
    refine ⟨some a, len, cap, fun i => zs.getD i 0, rfl, ?_, by unfold reachBytes at hb; omega⟩
    rcases Nat.eq_zero_or_pos len with z | z
    · exact .inl z
    · obtain ⟨b, off, spot⟩ := a
      have h0 := hcell 0 (by omega)
      have hspot : spot = none := by simpa [Addr.add] using World.cell?_spot h0
      subst hspot
      have hbl := World.block_lt_of_cell? _ _ h0
      exact .inr ⟨b, off, rfl, by simpa [Addr.add] using hbl, fun i hi => by simpa [addr_add] using hcell i (by omega)⟩

theorem view_node {H : Type} {enc : TypeId × Value → H} {W : World} {fuel : Nat} {cs : List Value} {x : DataW H × List MemPlace} (h : DataW.trod enc Try.prog W 0 (fun _ => true) true fuel 30 cs = some x) (hl : cs.length = 7) (hw : ∀ y ∈ x.1.weights Try.prog 30, y ≤ reachBytes) :
    ∃ X : NdF, cs = [.int .i64 X.kind, .string X.name, .int .u64 X.num, .int .i64 X.op, .slice X.kp X.kn X.kc, .int .i64 X.line, .int .i64 X.col] ∧ KidsOk W X := by
  obtain ⟨c0, c1, c2, c3, c4, c5, c6, rfl⟩ := list7 hl
  obtain ⟨xs, n, _, hx0, _, hxl, hx⟩ := DataW.trod_struct Try.underlying30 h
  obtain ⟨y0, y1, y2, y3, y4, y5, y6, rfl⟩ := list7 (by simpa using hxl)
  have k3 : Try.prog.cellsOf 3 = 1 := by kernel_rfl
  have k9 : Try.prog.cellsOf 9 = 1 := by kernel_rfl
  have k27 : Try.prog.cellsOf 27 = 1 := by kernel_rfl
  have k28 : Try.prog.cellsOf 28 = 1 := by kernel_rfl
  have g0 := hx 0 _ rfl
  have g1 := hx 1 _ rfl
  have g2 := hx 2 _ rfl
  have g3 := hx 3 _ rfl
  have g4 := hx 4 _ rfl
  have g5 := hx 5 _ rfl
  have g6 := hx 6 _ rfl
  simp [k3, k9, k27, k28] at g0 g1 g2 g3 g4 g5 g6
  obtain ⟨x0, s0, _, w0⟩ := DataW.trod_int Try.underlying3 g0
  obtain ⟨x1, s1, _, _⟩ := DataW.trod_string Try.underlying9 g1
  obtain ⟨x2, s2, _, w2⟩ := DataW.trod_int Try.underlying27 g2
  obtain ⟨x3, s3, _, w3⟩ := DataW.trod_int Try.underlying3 g3
  obtain ⟨x5, s5, _, w5⟩ := DataW.trod_int Try.underlying3 g5
  obtain ⟨x6, s6, _, w6⟩ := DataW.trod_int Try.underlying3 g6
  obtain ⟨kp, kn, kc, K, s4, hk, hkn⟩ := view_kids g4 (fun y hy => hw y (by
    rw [hx0]
    simp only [DataW.weights, Try.underlying30]
    refine DataW.weights_mem_each (j := 4) (t := 28) (d := y4.1) ?_ rfl y hy
    kernel_rfl))
  simp at s0 s1 s2 s3 s5 s6
  subst s0 s1 s2 s3 s4 s5 s6
  exact ⟨⟨x0, x1, x2, x3, kp, kn, kc, K, x5, x6⟩, rfl, hk, hkn⟩

theorem view_tree {H : Type} {enc : TypeId × Value → H} {W : World} {base : Nat} {v : Value} {d : DataW H} {pl : List MemPlace}
    (hval : Value.okWide Try.prog W .any base 24 v) (h : DataW.Trod enc Try.prog W 0 (fun _ => true) true 24 v d pl) (hw : ∀ y ∈ d.weights Try.prog 24, y ≤ reachBytes) :
    ∃ (p : Option Addr) (n c : Nat) (N : Nat → NdF), v = .agg #[.slice p n c] ∧ NAt W p n N ∧ n * 80 ≤ 140737488351232 := by
  obtain ⟨cs, rfl, hsz⟩ := okWide_struct Try.underlying24 hval
  rw [show Try.prog.cellsOf 24 = 1 from by kernel_rfl] at hsz
  obtain ⟨fuel, hf⟩ := h
  obtain ⟨l, rfl⟩ : ∃ l : List Value, cs = l.toArray := ⟨cs.toList, by simp⟩
  obtain ⟨c0, rfl⟩ := list1 (by simpa using hsz)
  obtain ⟨xs, n, _, hx0, _, hxl, hx⟩ := DataW.trod_struct Try.underlying24 hf
  obtain ⟨y0, rfl⟩ := list1 (by simpa using hxl)
  have k22 : Try.prog.cellsOf 22 = 1 := by kernel_rfl
  have k30 : Try.prog.cellsOf 30 = 7 := by kernel_rfl
  have g0 := hx 0 _ rfl
  simp [Value.cells, k22] at g0
  simp only [Prod.mk.injEq] at hx0
  have hw' : ∀ y ∈ y0.1.weights Try.prog 22, y ≤ reachBytes := fun y hy => hw y (by
    rw [hx0.1]
    simp only [DataW.weights, Try.underlying24]
    refine DataW.weights_mem_each (j := 0) (t := 22) (d := y0.1) ?_ rfl y hy
    kernel_rfl)
  rcases open_slice Try.underlying22 g0 with ⟨hcs, _⟩ | ⟨a, len, cap, m, n', D, Pl, hcs, _, hl, hm, hmm, hy0, hel⟩
  · simp at hcs
    subst hcs
    exact ⟨none, 0, 0, fun _ => noNd, rfl, .inl rfl, by omega⟩
  · simp at hcs
    subst hcs
    simp only [if_true] at hmm
    subst hmm
    rw [k30] at hel
    have hb : len * 80 ≤ reachBytes := by
      have := hw' ((len + (m - len)) * 80) (by
        rw [hy0]
        simp only [DataW.weights, Try.underlying22]
        rw [show Try.prog.bytesOf 30 = 80 from by kernel_rfl]
        simp)
      have e : len + (m - len) = m := by omega
      rw [e] at this
      omega
    have hall : ∀ i, i < len → ∃ X : NdF, ∃ cs', W.cells? 0 (a.add (i * 7)) 7 = some cs' ∧ cs' = [.int .i64 X.kind, .string X.name, .int .u64 X.num, .int .i64 X.op, .slice X.kp X.kn X.kc, .int .i64 X.line, .int .i64 X.col] ∧ KidsOk W X := by
      intro i hi
      obtain ⟨cs', h1, h2⟩ := hel i (by omega)
      have hlen := (World.cells?_some h1).2.1
      obtain ⟨X, h3, h4⟩ := view_node h2 hlen (fun y hy => hw' y (by
        rw [hy0]
        simp only [DataW.weights, Try.underlying22]
        refine List.mem_cons_of_mem _ (List.mem_append_left _ ?_)
        exact mem_all (List.mem_map.2 ⟨i, List.mem_range.2 hi, rfl⟩) y hy))
      exact ⟨X, cs', h1, h3, h4⟩
    have inh : Inhabited NdF := ⟨noNd⟩
    obtain ⟨N, hN⟩ := choose_lt hall
    refine ⟨some a, len, m, N, rfl, ?_, by unfold reachBytes at hb; omega⟩
    rcases Nat.eq_zero_or_pos len with z | z
    · exact .inl z
    · obtain ⟨b, off, spot⟩ := a
      obtain ⟨cs0, e0, e1, _⟩ := hN 0 z
      have h0 := (World.cells?_some e0).2.2 0 (by decide)
      rw [e1] at h0
      have hspot : spot = none := by simpa [Addr.add] using World.cell?_spot h0
      subst hspot
      have hbl := World.block_lt_of_cell? _ _ h0
      refine .inr ⟨b, off, rfl, by simpa [Addr.add] using hbl, fun i hi => ?_⟩
      obtain ⟨cs', f0, f1, f2⟩ := hN i hi
      have hc := (World.cells?_some f0).2.2
      rw [f1] at hc
      refine ⟨⟨?_, ?_, ?_, ?_, ?_, ?_, ?_⟩, f2⟩
      · simpa [addr_add] using hc 0 (by decide)
      · simpa [addr_add, Nat.add_assoc] using hc 1 (by decide)
      · simpa [addr_add, Nat.add_assoc] using hc 2 (by decide)
      · simpa [addr_add, Nat.add_assoc] using hc 3 (by decide)
      · simpa [addr_add, Nat.add_assoc] using hc 4 (by decide)
      · simpa [addr_add, Nat.add_assoc] using hc 5 (by decide)
      · simpa [addr_add, Nat.add_assoc] using hc 6 (by decide)
end Go.Proofs.Ytehahicdkklhgaa
