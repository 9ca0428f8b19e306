import Derived.Test.YtkfjcbnhohipgaaMR5
import Derived.Test.YtkfjcbnhohipgaaRows
import Derived.Deep.Slices
import Derived.SizedLaws
namespace Go.Proofs.Ytkfjcbnhohipgaa
open Go.ChangeShapes Go.WideShapes Go.ChangeAt Go.RowKit Go.Deep
set_option linter.unusedVariables false
set_option maxRecDepth 100000

theorem lsd4 {α : Type} {l : List α} (h : l.length = 4) : ∃ a b c d, l = [a, b, c, d] := by
  match l, h with
  | [a, b, c, d], _ => exact ⟨a, b, c, d, rfl⟩
theorem view_note {H : Type} {enc : TypeId × Value → H} {W : World} {fuel : Nat} {cs : List Value} {x : DataW H × List MemPlace} (h : DataW.trod enc Try.prog W 0 (fun _ => true) true fuel 90 cs = some x) (hl : cs.length = 4) :
    ∃ X : Nt, cs = [.int .i64 X.r, .int .i64 X.f, .int .i64 X.t, .int .i64 X.k] := by
  obtain ⟨c0, c1, c2, c3, rfl⟩ := lsd4 hl
  obtain ⟨xs, n, _, _, _, hxl, hx⟩ := DataW.trod_struct Try.underlying90 h
  obtain ⟨y0, y1, y2, y3, rfl⟩ := lsd4 (by simpa using hxl)
  have k3 : Try.prog.cellsOf 3 = 1 := by kernel_rfl
  have g0 := hx 0 _ rfl
  have g1 := hx 1 _ rfl
  have g2 := hx 2 _ rfl
  have g3 := hx 3 _ rfl
  simp [k3] at g0 g1 g2 g3
  obtain ⟨x0, s0, _, w0⟩ := DataW.trod_int Try.underlying3 g0
  obtain ⟨x1, s1, _, w1⟩ := DataW.trod_int Try.underlying3 g1
  obtain ⟨x2, s2, _, w2⟩ := DataW.trod_int Try.underlying3 g2
  obtain ⟨x3, s3, _, w3⟩ := DataW.trod_int Try.underlying3 g3
  simp at s0 s1 s2 s3
  subst s0 s1 s2 s3
  exact ⟨⟨x0, x1, x2, x3⟩, rfl⟩
theorem view_notes {H : Type} {enc : TypeId × Value → H} {W : World} {fuel : Nat} {kv : Value} {x : DataW H × List MemPlace} (h : DataW.trod enc Try.prog W 0 (fun _ => true) true fuel 44 [kv] = some x) :
    ∃ (p : Option Addr) (n c : Nat) (X : Nat → Nt), kv = .slice p n c ∧ NIn W p n X := by
  have k30 : Try.prog.cellsOf 90 = 4 := by kernel_rfl
  have inh : Inhabited Nt := ⟨⟨0, 0, 0, 0⟩⟩
  rcases open_slice Try.underlying44 h with ⟨hcs, _⟩ | ⟨a, len, cap, m, n', D, Pl, hcs, _, hl, hm, hmm, hy0, hel⟩
  · simp at hcs
    subst hcs
    exact ⟨none, 0, 0, fun _ => default, rfl, .inl rfl⟩
  · simp at hcs
    subst hcs
    simp only [if_true] at hmm
    subst hmm
    rw [k30] at hel
    have hall : ∀ i, i < len → ∃ X : Nt, ∃ cs', W.cells? 0 (a.add (i * 4)) 4 = some cs' ∧ cs' = [.int .i64 X.r, .int .i64 X.f, .int .i64 X.t, .int .i64 X.k] := by
      intro i hi
      obtain ⟨cs', h1, h2⟩ := hel i (by omega)
      have hlen := (World.cells?_some h1).2.1
      obtain ⟨X, h3⟩ := view_note h2 hlen
      exact ⟨X, cs', h1, h3⟩
    obtain ⟨N, hN⟩ := choose_lt hall
    refine ⟨some a, len, m, N, rfl, ?_⟩
    rcases Nat.eq_zero_or_pos len with z | z
    · exact .inl z
    · obtain ⟨b, off, spot⟩ := a
      obtain ⟨cs0, e0, e1⟩ := hN 0 z
      have h0 := (World.cells?_some e0).2.2 0 (by decide)
      rw [e1] at h0
      have hspot : spot = none := by simpa [Addr.add] using World.cell?_spot h0
      subst hspot
      have hbl := World.block_lt_of_cell? _ _ h0
      have hcc : ∀ i, i < len → ∀ r, r < 4 → W.cell? ⟨b, off + i * 4 + r, none⟩ = ([.int .i64 (N i).r, .int .i64 (N i).f, .int .i64 (N i).t, .int .i64 (N i).k] : List Value)[r]? := fun i hi r hr => by
        obtain ⟨cs', f0, f1⟩ := hN i hi
        have hc := (World.cells?_some f0).2.2 r hr
        rw [f1] at hc
        simpa [addr_add0, Nat.add_assoc] using hc
      exact .inr ⟨b, off, rfl, by simpa [Addr.add] using hbl, fun i hi => ⟨hcc i hi 0 (by decide), hcc i hi 1 (by decide), hcc i hi 2 (by decide), hcc i hi 3 (by decide)⟩⟩
theorem view_pks {H : Type} {enc : TypeId × Value → H} {W : World} {fuel : Nat} {kv : Value} {x : DataW H × List MemPlace} (h : DataW.trod enc Try.prog W 0 (fun _ => true) true fuel 45 [kv] = some x) :
    ∃ (p : Option Addr) (n c : Nat) (Z : Nat → Int), kv = .slice p n c ∧ PIn W p n Z := by
  have k30 : Try.prog.cellsOf 3 = 1 := by kernel_rfl
  rcases open_slice Try.underlying45 h with ⟨hcs, _⟩ | ⟨a, len, cap, m, n', D, Pl, hcs, _, hl, hm, hmm, hy0, hel⟩
  · simp at hcs
    subst hcs
    exact ⟨none, 0, 0, fun _ => 0, rfl, .inl rfl⟩
  · simp at hcs
    subst hcs
    simp only [if_true] at hmm
    subst hmm
    rw [k30] at hel
    have hall : ∀ i, i < len → ∃ z : Int, ∃ cs', W.cells? 0 (a.add (i * 1)) 1 = some cs' ∧ cs' = [.int .i64 z] := by
      intro i hi
      obtain ⟨cs', h1, h2⟩ := hel i (by omega)
      obtain ⟨z, s0, _, _⟩ := DataW.trod_int Try.underlying3 h2
      exact ⟨z, cs', h1, s0⟩
    obtain ⟨N, hN⟩ := choose_lt hall
    have hcell : ∀ i, i < len → W.cell? (a.add i) = some (.int .i64 (N i)) := fun i hi => by
      obtain ⟨cs', f0, f1⟩ := hN i hi
      have hc := (World.cells?_some f0).2.2
      rw [f1] at hc
      have := hc 0 (by decide)
      rw [Addr.add_add] at this
      simpa using this
    refine ⟨some a, len, m, N, rfl, ?_⟩
    rcases Nat.eq_zero_or_pos len with z | z
    · exact .inl z
    · obtain ⟨b, off, spot⟩ := a
      have h0 := hcell 0 z
      have hspot : spot = none := by simpa [Addr.add] using World.cell?_spot h0
      subst hspot
      have hbl := World.block_lt_of_cell? _ _ h0
      exact .inr ⟨b, off, rfl, by simpa [Addr.add] using hbl, fun i hi => by simpa [addr_add] using hcell i hi⟩
theorem view_course {H : Type} {enc : TypeId × Value → H} {W : World} {base : Nat} {v : Value} {d : DataW H} {pl : List MemPlace}
    (hval : Value.okWide Try.prog W .any base 47 v) (h : DataW.Trod enc Try.prog W 0 (fun _ => true) true 47 v d pl) :
    ∃ (wk rn : Int) (q : Option Addr) (N cq : Nat) (pq : Option Addr) (pn pc : Nat) (X : Nat → Nt) (Z : Nat → Int), v = .agg #[.int .i64 wk, .int .i64 rn, .slice q N cq, .slice pq pn pc] ∧ NIn W q N X ∧ PIn W pq pn Z := by
  obtain ⟨cs, rfl, hsz⟩ := okWide_struct Try.underlying47 hval
  rw [show Try.prog.cellsOf 47 = 4 from by kernel_rfl] at hsz
  obtain ⟨fuel, hf⟩ := h
  obtain ⟨l, rfl⟩ : ∃ l : List Value, cs = l.toArray := ⟨cs.toList, by simp⟩
  obtain ⟨c0, c1, c2, c3, rfl⟩ := lsd4 (by simpa using hsz)
  obtain ⟨xs, n, _, hx0, _, hxl, hx⟩ := DataW.trod_struct Try.underlying47 hf
  obtain ⟨y0, y1, y2, y3, rfl⟩ := lsd4 (by simpa using hxl)
  have k3 : Try.prog.cellsOf 3 = 1 := by kernel_rfl
  have ks : Try.prog.cellsOf 44 = 1 := by kernel_rfl
  have kp : Try.prog.cellsOf 45 = 1 := by kernel_rfl
  have g0 := hx 0 _ rfl
  have g1 := hx 1 _ rfl
  have g2 := hx 2 _ rfl
  have g3 := hx 3 _ rfl
  simp [Value.cells, k3, ks, kp] at g0 g1 g2 g3
  obtain ⟨x0, s0, _, _⟩ := DataW.trod_int Try.underlying3 g0
  obtain ⟨x1, s1, _, _⟩ := DataW.trod_int Try.underlying3 g1
  obtain ⟨q, N, cq, X, s2, h2⟩ := view_notes g2
  obtain ⟨pq, pn, pc, Z, s3, h3⟩ := view_pks g3
  simp at s0 s1
  subst s0 s1 s2 s3
  exact ⟨x0, x1, q, N, cq, pq, pn, pc, X, Z, rfl, h2, h3⟩
end Go.Proofs.Ytkfjcbnhohipgaa
