import Derived.Test.YtkgifanlodlilaaRows
import Derived.Test.YtkgifanlodlilaaV14
import Derived.Deep.Slices
import Derived.SizedLaws
namespace Go.Proofs.Ytkgifanlodlilaa
open Go.ChangeShapes Go.WideShapes Go.ChangeAt Go.RowKit Go.Deep
set_option linter.unusedVariables false
set_option maxRecDepth 100000

theorem lst3 {α : Type} {l : List α} (h : l.length = 3) : ∃ a b c, l = [a, b, c] := by
  match l, h with
  | [a, b, c], _ => exact ⟨a, b, c, rfl⟩
theorem lst4 {α : Type} {l : List α} (h : l.length = 4) : ∃ a b c d, l = [a, b, c, d] := by
  match l, h with
  | [a, b, c, d], _ => exact ⟨a, b, c, d, rfl⟩
theorem mem_all {H : Type} {P : Program} {e : TypeId} {d : DataW H} : ∀ {l : List (DataW H)}, d ∈ l → ∀ x ∈ d.weights P e, x ∈ DataW.weightsAll P e l
  | [], h, _, _ => by cases h
  | a :: l, h, x, hx => by
    simp only [DataW.weightsAll, List.mem_append]
    rcases List.mem_cons.1 h with rfl | h
    · exact .inl hx
    · exact .inr (mem_all h x hx)

theorem view_ints {H : Type} {enc : TypeId × Value → H} {W : World} {fuel : Nat} {kv : Value} {x : DataW H × List MemPlace} (h : DataW.trod enc Try.prog W 0 (fun _ => true) true fuel 28 [kv] = some x) (hw : ∀ y ∈ x.1.weights Try.prog 28, y ≤ reachBytes) :
    ∃ (p : Option Addr) (n c : Nat) (K : Nat → Int), kv = .slice p n c ∧ KAt W p n K ∧ n ≤ 17592186044416 := by
  rcases open_ints Try.underlying28 Try.underlying3 (by kernel_rfl) h with ⟨hcs, _⟩ | ⟨a, len, cap, zs, hcs, _, hl, hm, hz, hx, hcell, hwz⟩
  · simp at hcs
    subst hcs
    exact ⟨none, 0, 0, fun _ => 0, rfl, .inl rfl, by omega⟩
  · simp at hcs
    subst hcs
    simp only [if_true] at hz
    have hb : len * 8 ≤ reachBytes := by
      have := hw ((len + (cap - len)) * 8) (by
        rw [hx]
        simp only [DataW.weights, Try.underlying28]
        rw [show Try.prog.bytesOf 3 = 8 from by kernel_rfl]
        simp [lits]
        left
        congr 1
        omega)
      have e : len + (cap - len) = cap := by omega
      rw [e] at this
      omega
    refine ⟨some a, len, cap, fun i => zs.getD i 0, rfl, ?_, by unfold reachBytes at hb; omega⟩
    rcases Nat.eq_zero_or_pos len with z | z
    · exact .inl z
    · obtain ⟨b, off, spot⟩ := a
      have h0 := hcell 0 (by omega)
      have hspot : spot = none := by simpa [Addr.add] using World.cell?_spot h0
      subst hspot
      have hbl := World.block_lt_of_cell? _ _ h0
      exact .inr ⟨b, off, rfl, by simpa [Addr.add] using hbl, fun i hi => by simpa [addr_add] using hcell i (by omega)⟩


structure In3 where
  o : Int
  a : Int
  b : Int
theorem view_instr {H : Type} {enc : TypeId × Value → H} {W : World} {fuel : Nat} {cs : List Value} {x : DataW H × List MemPlace} (h : DataW.trod enc Try.prog W 0 (fun _ => true) true fuel 73 cs = some x) (hl : cs.length = 3) :
    ∃ X : In3, cs = [.int .i64 X.o, .int .i64 X.a, .int .i64 X.b] := by
  obtain ⟨c0, c1, c2, rfl⟩ := lst3 hl
  obtain ⟨xs, n, _, hx0, _, hxl, hx⟩ := DataW.trod_struct Try.underlying73 h
  obtain ⟨y0, y1, y2, rfl⟩ := lst3 (by simpa using hxl)
  have k3 : Try.prog.cellsOf 3 = 1 := by kernel_rfl
  have k2 : Try.prog.cellsOf 2 = 1 := by kernel_rfl
  have g0 := hx 0 _ rfl
  have g1 := hx 1 _ rfl
  have g2 := hx 2 _ rfl
  simp [k3, k2] at g0 g1 g2
  obtain ⟨x0, s0, _, w0⟩ := DataW.trod_int Try.underlying3 g0
  obtain ⟨x1, s1, _, w1⟩ := DataW.trod_int Try.underlying2 g1
  obtain ⟨x2, s2, _, w2⟩ := DataW.trod_int Try.underlying2 g2
  simp at s0 s1 s2
  subst s0 s1 s2
  exact ⟨⟨x0, x1, x2⟩, rfl⟩
theorem view_code {H : Type} {enc : TypeId × Value → H} {W : World} {fuel : Nat} {kv : Value} {x : DataW H × List MemPlace} (h : DataW.trod enc Try.prog W 0 (fun _ => true) true fuel 49 [kv] = some x) (hw : ∀ y ∈ x.1.weights Try.prog 49, y ≤ reachBytes) :
    ∃ (p : Option Addr) (n c : Nat) (op a b : Nat → Int), kv = .slice p n c ∧ IAt W p n op a b ∧ n * 24 ≤ 140737488351232 := by
  have k30 : Try.prog.cellsOf 73 = 3 := by kernel_rfl
  rcases open_slice Try.underlying49 h with ⟨hcs, _⟩ | ⟨a, len, cap, m, n', D, Pl, hcs, _, hl, hm, hmm, hy0, hel⟩
  · simp at hcs
    subst hcs
    exact ⟨none, 0, 0, fun _ => 0, fun _ => 0, fun _ => 0, rfl, .inl rfl, by omega⟩
  · simp at hcs
    subst hcs
    simp only [if_true] at hmm
    subst hmm
    rw [k30] at hel
    have hb : len * 24 ≤ reachBytes := by
      have := hw ((len + (m - len)) * 24) (by
        rw [hy0]
        simp only [DataW.weights, Try.underlying49]
        rw [show Try.prog.bytesOf 73 = 24 from by kernel_rfl]
        simp)
      have e : len + (m - len) = m := by omega
      rw [e] at this
      omega
    have hall : ∀ i, i < len → ∃ X : In3, ∃ cs', W.cells? 0 (a.add (i * 3)) 3 = some cs' ∧ cs' = [.int .i64 X.o, .int .i64 X.a, .int .i64 X.b] := by
      intro i hi
      obtain ⟨cs', h1, h2⟩ := hel i (by omega)
      have hlen := (World.cells?_some h1).2.1
      obtain ⟨X, h3⟩ := view_instr h2 hlen
      exact ⟨X, cs', h1, h3⟩
    have inh : Inhabited In3 := ⟨⟨0, 0, 0⟩⟩
    obtain ⟨N, hN⟩ := choose_lt hall
    refine ⟨some a, len, m, fun i => (N i).o, fun i => (N i).a, fun i => (N i).b, rfl, ?_, by unfold reachBytes at hb; omega⟩
    rcases Nat.eq_zero_or_pos len with z | z
    · exact .inl z
    · obtain ⟨b, off, spot⟩ := a
      obtain ⟨cs0, e0, e1⟩ := hN 0 z
      have h0 := (World.cells?_some e0).2.2 0 (by decide)
      rw [e1] at h0
      have hspot : spot = none := by simpa [Addr.add] using World.cell?_spot h0
      subst hspot
      have hbl := World.block_lt_of_cell? _ _ h0
      refine .inr ⟨b, off, rfl, by simpa [Addr.add] using hbl, fun i hi => ?_⟩
      obtain ⟨cs', f0, f1⟩ := hN i hi
      have hc := (World.cells?_some f0).2.2
      rw [f1] at hc
      refine ⟨?_, ?_, ?_⟩
      · simpa [addr_add] using hc 0 (by decide)
      · simpa [addr_add, Nat.add_assoc] using hc 1 (by decide)
      · simpa [addr_add, Nat.add_assoc] using hc 2 (by decide)
/-- a program that comes in -/
theorem view_prog {H : Type} {enc : TypeId × Value → H} {W : World} {base : Nat} {v : Value} {d : DataW H} {pl : List MemPlace}
    (hval : Value.okWide Try.prog W .any base 51 v) (h : DataW.Trod enc Try.prog W 0 (fun _ => true) true 51 v d pl) (hw : ∀ y ∈ d.weights Try.prog 51, y ≤ reachBytes) :
    ∃ (P : Pg) (u : PgV), v = .agg #[.int .i64 P.words, .int .i64 P.locals, .slice u.cp P.n u.cc, .slice u.ep P.m u.ec] ∧ PAt W P u ∧ roomyP P := by
  obtain ⟨cs, rfl, hsz⟩ := okWide_struct Try.underlying51 hval
  rw [show Try.prog.cellsOf 51 = 4 from by kernel_rfl] at hsz
  obtain ⟨fuel, hf⟩ := h
  obtain ⟨l, rfl⟩ : ∃ l : List Value, cs = l.toArray := ⟨cs.toList, by simp⟩
  obtain ⟨c0, c1, c2, c3, rfl⟩ := lst4 (by simpa using hsz)
  obtain ⟨xs, n, _, hx0, _, hxl, hx⟩ := DataW.trod_struct Try.underlying51 hf
  obtain ⟨y0, y1, y2, y3, rfl⟩ := lst4 (by simpa using hxl)
  have k3 : Try.prog.cellsOf 3 = 1 := by kernel_rfl
  have k22 : Try.prog.cellsOf 49 = 1 := by kernel_rfl
  have k23 : Try.prog.cellsOf 28 = 1 := by kernel_rfl
  have g0 := hx 0 _ rfl
  have g1 := hx 1 _ rfl
  have g2 := hx 2 _ rfl
  have g3 := hx 3 _ rfl
  simp [Value.cells, k3, k22, k23] at g0 g1 g2 g3
  simp only [Prod.mk.injEq] at hx0
  obtain ⟨x0, s0, _, w0⟩ := DataW.trod_int Try.underlying3 g0
  obtain ⟨x1, s1, _, w1⟩ := DataW.trod_int Try.underlying3 g1
  obtain ⟨p, n2, c, op, a, b, s2, hi, hn⟩ := view_code g2 (fun y hy => hw y (by
    rw [hx0.1]
    simp only [DataW.weights, Try.underlying51]
    refine DataW.weights_mem_each (j := 2) (t := 49) (d := y2.1) ?_ rfl y hy
    kernel_rfl))
  obtain ⟨q, m2, e, K, s3, hk, hm⟩ := view_ints g3 (fun y hy => hw y (by
    rw [hx0.1]
    simp only [DataW.weights, Try.underlying51]
    refine DataW.weights_mem_each (j := 3) (t := 28) (d := y3.1) ?_ rfl y hy
    kernel_rfl))
  simp at s0 s1
  subst s0 s1 s2 s3
  exact ⟨⟨x0, x1, n2, op, a, b, m2, K⟩, ⟨p, c, q, e⟩, rfl, ⟨hi, hk⟩, hn, hm⟩
end Go.Proofs.Ytkgifanlodlilaa
