import Derived.Test.YtkfjcbnhohipgaaMCO
import Derived.Test.YtkfjcbnhohipgaaRows
import Derived.Deep.Slices
import Derived.SizedLaws
namespace Go.Proofs.Ytkfjcbnhohipgaa
open Go.ChangeShapes Go.WideShapes Go.ChangeAt Go.RowKit Go.Deep
set_option linter.unusedVariables false
set_option maxRecDepth 100000

theorem trod_array2 {H : Type} {enc : TypeId × Value → H} {P : Program} {w : World} {base : Nat} {spare : Nat → Bool} {held : Bool} {t e : TypeId} {fuel : Nat} {c0 c1 : Value} {x : DataW H × List MemPlace} (ht : P.underlying t = some (.array 2 e)) (hce : P.cellsOf e = 1)
    (h : DataW.trod enc P w base spare held fuel t [c0, c1] = some x) :
    ∃ y0 y1 n, DataW.trod enc P w base spare held n e [c0] = some y0 ∧ DataW.trod enc P w base spare held n e [c1] = some y1 := by
  cases fuel with
  | zero => simp [DataW.trod] at h
  | succ n =>
    unfold DataW.trod at h
    rw [ht] at h
    have r2 : List.range 2 = [0, 1] := rfl
    simp [r2, hce] at h
    obtain ⟨_, h⟩ := h
    cases h0 : DataW.trod enc P w base spare held n e [c0] with
    | none => simp [h0] at h
    | some y0 =>
      cases h1 : DataW.trod enc P w base spare held n e [c1] with
      | none => simp [h0, h1] at h
      | some y1 => exact ⟨y0, y1, n, h0, h1⟩
theorem lsc3 {α : Type} {l : List α} (h : l.length = 3) : ∃ a b c, l = [a, b, c] := by
  match l, h with
  | [a, b, c], _ => exact ⟨a, b, c, rfl⟩
theorem lsc5 {α : Type} {l : List α} (h : l.length = 5) : ∃ a b c d e, l = [a, b, c, d, e] := by
  match l, h with
  | [a, b, c, d, e], _ => exact ⟨a, b, c, d, e, rfl⟩
theorem view_op {H : Type} {enc : TypeId × Value → H} {W : World} {fuel : Nat} {cs : List Value} {x : DataW H × List MemPlace} (h : DataW.trod enc Try.prog W 0 (fun _ => true) true fuel 34 cs = some x) (hl : cs.length = 5) :
    ∃ X : OpV, cs = [.int .i64 X.p, .int .i64 X.kd, .int .i64 X.a, .int .i64 X.b, .int .i64 X.k] := by
  obtain ⟨c0, c1, c2, c3, c4, rfl⟩ := lsc5 hl
  obtain ⟨xs, n, _, _, _, hxl, hx⟩ := DataW.trod_struct Try.underlying34 h
  obtain ⟨y0, y1, y2, y3, y4, rfl⟩ := lsc5 (by simpa using hxl)
  have k3 : Try.prog.cellsOf 3 = 1 := by kernel_rfl
  have g0 := hx 0 _ rfl
  have g1 := hx 1 _ rfl
  have g2 := hx 2 _ rfl
  have g3 := hx 3 _ rfl
  have g4 := hx 4 _ rfl
  simp [k3] at g0 g1 g2 g3 g4
  obtain ⟨x0, s0, _, w0⟩ := DataW.trod_int Try.underlying3 g0
  obtain ⟨x1, s1, _, w1⟩ := DataW.trod_int Try.underlying3 g1
  obtain ⟨x2, s2, _, w2⟩ := DataW.trod_int Try.underlying3 g2
  obtain ⟨x3, s3, _, w3⟩ := DataW.trod_int Try.underlying3 g3
  obtain ⟨x4, s4, _, w4⟩ := DataW.trod_int Try.underlying3 g4
  simp at s0 s1 s2 s3 s4
  subst s0 s1 s2 s3 s4
  exact ⟨⟨x0, x1, x2, x3, x4⟩, rfl⟩
theorem view_ops {H : Type} {enc : TypeId × Value → H} {W : World} {fuel : Nat} {kv : Value} {x : DataW H × List MemPlace} (h : DataW.trod enc Try.prog W 0 (fun _ => true) true fuel 23 [kv] = some x) (hw : ∀ y ∈ x.1.weights Try.prog 23, y ≤ reachBytes) :
    ∃ (p : Option Addr) (n c : Nat) (X : Nat → OpV), kv = .slice p n c ∧ OpIn W p n X ∧ n * 40 ≤ 140737488351232 := by
  have k30 : Try.prog.cellsOf 34 = 5 := by kernel_rfl
  have inh : Inhabited OpV := ⟨⟨0, 0, 0, 0, 0⟩⟩
  rcases open_slice Try.underlying23 h with ⟨hcs, _⟩ | ⟨a, len, cap, m, n', D, Pl, hcs, _, hl, hm, hmm, hy0, hel⟩
  · simp at hcs
    subst hcs
    exact ⟨none, 0, 0, fun _ => default, rfl, .inl rfl, by omega⟩
  · simp at hcs
    subst hcs
    simp only [if_true] at hmm
    subst hmm
    rw [k30] at hel
    have hb : len * 40 ≤ reachBytes := by
      have := hw ((len + (m - len)) * 40) (by
        rw [hy0]
        simp only [DataW.weights, Try.underlying23]
        rw [show Try.prog.bytesOf 34 = 40 from by kernel_rfl]
        simp)
      have e : len + (m - len) = m := by omega
      rw [e] at this
      omega
    have hall : ∀ i, i < len → ∃ X : OpV, ∃ cs', W.cells? 0 (a.add (i * 5)) 5 = some cs' ∧ cs' = [.int .i64 X.p, .int .i64 X.kd, .int .i64 X.a, .int .i64 X.b, .int .i64 X.k] := by
      intro i hi
      obtain ⟨cs', h1, h2⟩ := hel i (by omega)
      have hlen := (World.cells?_some h1).2.1
      obtain ⟨X, h3⟩ := view_op h2 hlen
      exact ⟨X, cs', h1, h3⟩
    obtain ⟨N, hN⟩ := choose_lt hall
    refine ⟨some a, len, m, N, rfl, ?_, by unfold reachBytes at hb; omega⟩
    rcases Nat.eq_zero_or_pos len with z | z
    · exact .inl z
    · obtain ⟨b, off, spot⟩ := a
      obtain ⟨cs0, e0, e1⟩ := hN 0 z
      have h0 := (World.cells?_some e0).2.2 0 (by decide)
      rw [e1] at h0
      have hspot : spot = none := by simpa [Addr.add] using World.cell?_spot h0
      subst hspot
      have hbl := World.block_lt_of_cell? _ _ h0
      have hcc : ∀ i, i < len → ∀ r, r < 5 → W.cell? ⟨b, off + i * 5 + r, none⟩ = ([.int .i64 (N i).p, .int .i64 (N i).kd, .int .i64 (N i).a, .int .i64 (N i).b, .int .i64 (N i).k] : List Value)[r]? := fun i hi r hr => by
        obtain ⟨cs', f0, f1⟩ := hN i hi
        have hc := (World.cells?_some f0).2.2 r hr
        rw [f1] at hc
        simpa [addr_add0, Nat.add_assoc] using hc
      exact .inr ⟨b, off, rfl, by simpa [Addr.add] using hbl, fun i hi => ⟨hcc i hi 0 (by decide), hcc i hi 1 (by decide), hcc i hi 2 (by decide), hcc i hi 3 (by decide), hcc i hi 4 (by decide)⟩⟩
theorem view_script {H : Type} {enc : TypeId × Value → H} {W : World} {base : Nat} {v : Value} {d : DataW H} {pl : List MemPlace}
    (hval : Value.okWide Try.prog W .any base 25 v) (h : DataW.Trod enc Try.prog W 0 (fun _ => true) true 25 v d pl) (hw : ∀ y ∈ d.weights Try.prog 25, y ≤ reachBytes) :
    ∃ (w0 w1 r0 r1 : Int) (p : Option Addr) (n c : Nat) (X : Nat → OpV), v = .agg #[.int .i64 w0, .int .i64 w1, .int .i64 r0, .int .i64 r1, .slice p n c] ∧ OpIn W p n X ∧ n * 40 ≤ 140737488351232 := by
  obtain ⟨cs, rfl, hsz⟩ := okWide_struct Try.underlying25 hval
  rw [show Try.prog.cellsOf 25 = 5 from by kernel_rfl] at hsz
  obtain ⟨fuel, hf⟩ := h
  obtain ⟨l, rfl⟩ : ∃ l : List Value, cs = l.toArray := ⟨cs.toList, by simp⟩
  obtain ⟨c0, c1, c2, c3, c4, rfl⟩ := lsc5 (by simpa using hsz)
  obtain ⟨xs, n, _, hx0, _, hxl, hx⟩ := DataW.trod_struct Try.underlying25 hf
  obtain ⟨y0, y1, y2, rfl⟩ := lsc3 (by simpa using hxl)
  have k3 : Try.prog.cellsOf 3 = 1 := by kernel_rfl
  have ka : Try.prog.cellsOf 22 = 2 := by kernel_rfl
  have ks : Try.prog.cellsOf 23 = 1 := by kernel_rfl
  have g0 := hx 0 _ rfl
  have g1 := hx 1 _ rfl
  have g2 := hx 2 _ rfl
  simp [Value.cells, ka, ks] at g0 g1 g2
  simp only [Prod.mk.injEq] at hx0
  obtain ⟨a0, a1, n0, f0, f1⟩ := trod_array2 Try.underlying22 k3 g0
  obtain ⟨b0, b1, n1, f2, f3⟩ := trod_array2 Try.underlying22 k3 g1
  obtain ⟨x0, s0, _, _⟩ := DataW.trod_int Try.underlying3 f0
  obtain ⟨x1, s1, _, _⟩ := DataW.trod_int Try.underlying3 f1
  obtain ⟨x2, s2, _, _⟩ := DataW.trod_int Try.underlying3 f2
  obtain ⟨x3, s3, _, _⟩ := DataW.trod_int Try.underlying3 f3
  obtain ⟨p, m, c, X, s4, hP, hR⟩ := view_ops g2 (fun y hy => hw y (by
    rw [hx0.1]
    simp only [DataW.weights, Try.underlying25]
    refine DataW.weights_mem_each (j := 2) (t := 23) (d := y2.1) ?_ rfl y hy
    kernel_rfl))
  simp at s0 s1 s2 s3
  subst s0 s1 s2 s3 s4
  exact ⟨x0, x1, x2, x3, p, m, c, X, rfl, hP, hR⟩
end Go.Proofs.Ytkfjcbnhohipgaa
