import Derived.Test.YtopggemomcoalaaGreatRows
import Derived.Test.YtopggemomcoalaaGreatJV15
import Derived.Deep.Slices
import Derived.SizedLaws
import Derived.Test.YtopggemomcoalaaGreatJM19
namespace Go.Proofs.YtopggemomcoalaaGreat
open Go.ChangeShapes Go.WideShapes Go.ChangeAt Go.RowKit Go.Deep
set_option linter.unusedVariables false
set_option maxRecDepth 100000

theorem lst3 {α : Type} {l : List α} (h : l.length = 3) : ∃ a b c, l = [a, b, c] := by
  match l, h with
  | [a, b, c], _ => exact ⟨a, b, c, rfl⟩
theorem lst4 {α : Type} {l : List α} (h : l.length = 4) : ∃ a b c d, l = [a, b, c, d] := by
  match l, h with
  | [a, b, c, d], _ => exact ⟨a, b, c, d, rfl⟩
theorem mem_all {H : Type} {P : Program} {e : TypeId} {d : DataW H} : ∀ {l : List (DataW H)}, d ∈ l → ∀ x ∈ d.weights P e, x ∈ DataW.weightsAll P e l
  | [], h, _, _ => by cases h
  | a :: l, h, x, hx => by
    simp only [DataW.weightsAll, List.mem_append]
    rcases List.mem_cons.1 h with rfl | h
    · exact .inl hx
    · exact .inr (mem_all h x hx)

theorem view_ints {H : Type} {enc : TypeId × Value → H} {W : World} {fuel : Nat} {kv : Value} {x : DataW H × List MemPlace} (h : DataW.trod enc Tryz.prog W 0 (fun _ => true) true fuel 23 [kv] = some x) (hw : ∀ y ∈ x.1.weights Tryz.prog 23, y ≤ reachBytes) :
    ∃ (p : Option Addr) (n c : Nat) (K : Nat → Int), kv = .slice p n c ∧ KAt W p n K ∧ n ≤ 17592186044416 := by
  rcases open_ints Tryz.underlying23 Tryz.underlying3 (by kernel_rfl) h with ⟨hcs, _⟩ | ⟨a, len, cap, zs, hcs, _, hl, hm, hz, hx, hcell, hwz⟩
  · simp at hcs
    subst hcs
    exact ⟨none, 0, 0, fun _ => 0, rfl, .inl rfl, by omega⟩
  · simp at hcs
    subst hcs
    simp only [if_true] at hz
    have hb : len * 8 ≤ reachBytes := by
      have := hw ((len + (cap - len)) * 8) (by
        rw [hx]
        simp only [DataW.weights, Tryz.underlying23]
        rw [show Tryz.prog.bytesOf 3 = 8 from by kernel_rfl]
        simp [lits]
        left
        congr 1
        omega)
      have e : len + (cap - len) = cap := by omega
      rw [e] at this
      omega
    refine ⟨some a, len, cap, fun i => zs.getD i 0, rfl, ?_, by unfold reachBytes at hb; omega⟩
    rcases Nat.eq_zero_or_pos len with z | z
    · exact .inl z
    · obtain ⟨b, off, spot⟩ := a
      have h0 := hcell 0 (by omega)
      have hspot : spot = none := by simpa [Addr.add] using World.cell?_spot h0
      subst hspot
      have hbl := World.block_lt_of_cell? _ _ h0
      exact .inr ⟨b, off, rfl, by simpa [Addr.add] using hbl, fun i hi => by simpa [addr_add] using hcell i (by omega)⟩


structure In3 where
  o : Int
  a : Int
  b : Int
theorem view_instr {H : Type} {enc : TypeId × Value → H} {W : World} {fuel : Nat} {cs : List Value} {x : DataW H × List MemPlace} (h : DataW.trod enc Tryz.prog W 0 (fun _ => true) true fuel 36 cs = some x) (hl : cs.length = 3) :
    ∃ X : In3, cs = [.int .i64 X.o, .int .i64 X.a, .int .i64 X.b] := by
  obtain ⟨c0, c1, c2, rfl⟩ := lst3 hl
  obtain ⟨xs, n, _, hx0, _, hxl, hx⟩ := DataW.trod_struct Tryz.underlying36 h
  obtain ⟨y0, y1, y2, rfl⟩ := lst3 (by simpa using hxl)
  have k3 : Tryz.prog.cellsOf 3 = 1 := by kernel_rfl
  have k2 : Tryz.prog.cellsOf 2 = 1 := by kernel_rfl
  have g0 := hx 0 _ rfl
  have g1 := hx 1 _ rfl
  have g2 := hx 2 _ rfl
  simp [k3, k2] at g0 g1 g2
  obtain ⟨x0, s0, _, w0⟩ := DataW.trod_int Tryz.underlying3 g0
  obtain ⟨x1, s1, _, w1⟩ := DataW.trod_int Tryz.underlying2 g1
  obtain ⟨x2, s2, _, w2⟩ := DataW.trod_int Tryz.underlying2 g2
  simp at s0 s1 s2
  subst s0 s1 s2
  exact ⟨⟨x0, x1, x2⟩, rfl⟩
theorem view_code {H : Type} {enc : TypeId × Value → H} {W : World} {fuel : Nat} {kv : Value} {x : DataW H × List MemPlace} (h : DataW.trod enc Tryz.prog W 0 (fun _ => true) true fuel 22 [kv] = some x) (hw : ∀ y ∈ x.1.weights Tryz.prog 22, y ≤ reachBytes) :
    ∃ (p : Option Addr) (n c : Nat) (op a b : Nat → Int), kv = .slice p n c ∧ IAt W p n op a b ∧ n * 24 ≤ 140737488351232 := by
  have k30 : Tryz.prog.cellsOf 36 = 3 := by kernel_rfl
  rcases open_slice Tryz.underlying22 h with ⟨hcs, _⟩ | ⟨a, len, cap, m, n', D, Pl, hcs, _, hl, hm, hmm, hy0, hel⟩
  · simp at hcs
    subst hcs
    exact ⟨none, 0, 0, fun _ => 0, fun _ => 0, fun _ => 0, rfl, .inl rfl, by omega⟩
  · simp at hcs
    subst hcs
    simp only [if_true] at hmm
    subst hmm
    rw [k30] at hel
    have hb : len * 24 ≤ reachBytes := by
      have := hw ((len + (m - len)) * 24) (by
        rw [hy0]
        simp only [DataW.weights, Tryz.underlying22]
        rw [show Tryz.prog.bytesOf 36 = 24 from by kernel_rfl]
        simp)
      have e : len + (m - len) = m := by omega
      rw [e] at this
      omega
    have hall : ∀ i, i < len → ∃ X : In3, ∃ cs', W.cells? 0 (a.add (i * 3)) 3 = some cs' ∧ cs' = [.int .i64 X.o, .int .i64 X.a, .int .i64 X.b] := by
      intro i hi
      obtain ⟨cs', h1, h2⟩ := hel i (by omega)
      have hlen := (World.cells?_some h1).2.1
      obtain ⟨X, h3⟩ := view_instr h2 hlen
      exact ⟨X, cs', h1, h3⟩
    have inh : Inhabited In3 := ⟨⟨0, 0, 0⟩⟩
    obtain ⟨N, hN⟩ := choose_lt hall
    refine ⟨some a, len, m, fun i => (N i).o, fun i => (N i).a, fun i => (N i).b, rfl, ?_, by unfold reachBytes at hb; omega⟩
    rcases Nat.eq_zero_or_pos len with z | z
    · exact .inl z
    · obtain ⟨b, off, spot⟩ := a
      obtain ⟨cs0, e0, e1⟩ := hN 0 z
      have h0 := (World.cells?_some e0).2.2 0 (by decide)
      rw [e1] at h0
      have hspot : spot = none := by simpa [Addr.add] using World.cell?_spot h0
      subst hspot
      have hbl := World.block_lt_of_cell? _ _ h0
      refine .inr ⟨b, off, rfl, by simpa [Addr.add] using hbl, fun i hi => ?_⟩
      obtain ⟨cs', f0, f1⟩ := hN i hi
      have hc := (World.cells?_some f0).2.2
      rw [f1] at hc
      refine ⟨?_, ?_, ?_⟩
      · simpa [addr_add] using hc 0 (by decide)
      · simpa [addr_add, Nat.add_assoc] using hc 1 (by decide)
      · simpa [addr_add, Nat.add_assoc] using hc 2 (by decide)
/-- a program that comes in -/
theorem view_prog {H : Type} {enc : TypeId × Value → H} {W : World} {base : Nat} {v : Value} {d : DataW H} {pl : List MemPlace}
    (hval : Value.okWide Tryz.prog W .any base 25 v) (h : DataW.Trod enc Tryz.prog W 0 (fun _ => true) true 25 v d pl) (hw : ∀ y ∈ d.weights Tryz.prog 25, y ≤ reachBytes) :
    ∃ (P : Pg) (u : PgV), v = .agg #[.int .i64 P.words, .int .i64 P.locals, .slice u.cp P.n u.cc, .slice u.ep P.m u.ec] ∧ PAt W P u ∧ roomyP P := by
  obtain ⟨cs, rfl, hsz⟩ := okWide_struct Tryz.underlying25 hval
  rw [show Tryz.prog.cellsOf 25 = 4 from by kernel_rfl] at hsz
  obtain ⟨fuel, hf⟩ := h
  obtain ⟨l, rfl⟩ : ∃ l : List Value, cs = l.toArray := ⟨cs.toList, by simp⟩
  obtain ⟨c0, c1, c2, c3, rfl⟩ := lst4 (by simpa using hsz)
  obtain ⟨xs, n, _, hx0, _, hxl, hx⟩ := DataW.trod_struct Tryz.underlying25 hf
  obtain ⟨y0, y1, y2, y3, rfl⟩ := lst4 (by simpa using hxl)
  have k3 : Tryz.prog.cellsOf 3 = 1 := by kernel_rfl
  have k22 : Tryz.prog.cellsOf 22 = 1 := by kernel_rfl
  have k23 : Tryz.prog.cellsOf 23 = 1 := by kernel_rfl
  have g0 := hx 0 _ rfl
  have g1 := hx 1 _ rfl
  have g2 := hx 2 _ rfl
  have g3 := hx 3 _ rfl
  simp [Value.cells, k3, k22, k23] at g0 g1 g2 g3
  simp only [Prod.mk.injEq] at hx0
  obtain ⟨x0, s0, _, w0⟩ := DataW.trod_int Tryz.underlying3 g0
  obtain ⟨x1, s1, _, w1⟩ := DataW.trod_int Tryz.underlying3 g1
  obtain ⟨p, n2, c, op, a, b, s2, hi, hn⟩ := view_code g2 (fun y hy => hw y (by
    rw [hx0.1]
    simp only [DataW.weights, Tryz.underlying25]
    refine DataW.weights_mem_each (j := 2) (t := 22) (d := y2.1) ?_ rfl y hy
    kernel_rfl))
  obtain ⟨q, m2, e, K, s3, hk, hm⟩ := view_ints g3 (fun y hy => hw y (by
    rw [hx0.1]
    simp only [DataW.weights, Tryz.underlying25]
    refine DataW.weights_mem_each (j := 3) (t := 23) (d := y3.1) ?_ rfl y hy
    kernel_rfl))
  simp at s0 s1
  subst s0 s1 s2 s3
  exact ⟨⟨x0, x1, n2, op, a, b, m2, K⟩, ⟨p, c, q, e⟩, rfl, ⟨hi, hk⟩, hn, hm⟩
end Go.Proofs.YtopggemomcoalaaGreat
namespace Go.Proofs.YtopggemomcoalaaGreat
open Go.ChangeShapes Go.WideShapes Go.ChangeAt Go.RowKit Go.Deep
set_option linter.unusedVariables false
set_option maxRecDepth 100000

theorem view_instr2 {H : Type} {enc : TypeId × Value → H} {W : World} {fuel : Nat} {cs : List Value} {x : DataW H × List MemPlace} (h : DataW.trod enc Tryz.prog W 0 (fun _ => true) true fuel 36 cs = some x) (hl : cs.length = 3) :
    ∃ X : In3, cs = [.int .i64 X.o, .int .i64 X.a, .int .i64 X.b] ∧ In64 X.a := by
  obtain ⟨c0, c1, c2, rfl⟩ := lst3 hl
  obtain ⟨xs, n, _, hx0, _, hxl, hx⟩ := DataW.trod_struct Tryz.underlying36 h
  obtain ⟨y0, y1, y2, rfl⟩ := lst3 (by simpa using hxl)
  have k3 : Tryz.prog.cellsOf 3 = 1 := by kernel_rfl
  have k2 : Tryz.prog.cellsOf 2 = 1 := by kernel_rfl
  have g0 := hx 0 _ rfl
  have g1 := hx 1 _ rfl
  have g2 := hx 2 _ rfl
  simp [k3, k2] at g0 g1 g2
  obtain ⟨x0, s0, _, w0⟩ := DataW.trod_int Tryz.underlying3 g0
  obtain ⟨x1, s1, _, w1⟩ := DataW.trod_int Tryz.underlying2 g1
  obtain ⟨x2, s2, _, w2⟩ := DataW.trod_int Tryz.underlying2 g2
  simp at s0 s1 s2
  subst s0 s1 s2
  exact ⟨⟨x0, x1, x2⟩, rfl, bounds_i64 w1⟩
theorem view_code2 {H : Type} {enc : TypeId × Value → H} {W : World} {fuel : Nat} {kv : Value} {x : DataW H × List MemPlace} (h : DataW.trod enc Tryz.prog W 0 (fun _ => true) true fuel 22 [kv] = some x) (hw : ∀ y ∈ x.1.weights Tryz.prog 22, y ≤ reachBytes) :
    ∃ (p : Option Addr) (n c : Nat) (op a b : Nat → Int), kv = .slice p n c ∧ IAt W p n op a b ∧ n * 24 ≤ 140737488351232 ∧ ∀ i, i < n → In64 (a i) := by
  have k30 : Tryz.prog.cellsOf 36 = 3 := by kernel_rfl
  rcases open_slice Tryz.underlying22 h with ⟨hcs, _⟩ | ⟨a, len, cap, m, n', D, Pl, hcs, _, hl, hm, hmm, hy0, hel⟩
  · simp at hcs
    subst hcs
    exact ⟨none, 0, 0, fun _ => 0, fun _ => 0, fun _ => 0, rfl, .inl rfl, by omega, fun i hi => by omega⟩
  · simp at hcs
    subst hcs
    simp only [if_true] at hmm
    subst hmm
    rw [k30] at hel
    have hb : len * 24 ≤ reachBytes := by
      have := hw ((len + (m - len)) * 24) (by
        rw [hy0]
        simp only [DataW.weights, Tryz.underlying22]
        rw [show Tryz.prog.bytesOf 36 = 24 from by kernel_rfl]
        simp)
      have e : len + (m - len) = m := by omega
      rw [e] at this
      omega
    have hall : ∀ i, i < len → ∃ X : In3, ∃ cs', W.cells? 0 (a.add (i * 3)) 3 = some cs' ∧ (cs' = [.int .i64 X.o, .int .i64 X.a, .int .i64 X.b] ∧ In64 X.a) := by
      intro i hi
      obtain ⟨cs', h1, h2⟩ := hel i (by omega)
      have hlen := (World.cells?_some h1).2.1
      obtain ⟨X, h3⟩ := view_instr2 h2 hlen
      exact ⟨X, cs', h1, h3⟩
    have inh : Inhabited In3 := ⟨⟨0, 0, 0⟩⟩
    obtain ⟨N, hN⟩ := choose_lt hall
    refine ⟨some a, len, m, fun i => (N i).o, fun i => (N i).a, fun i => (N i).b, rfl, ?_, by unfold reachBytes at hb; omega, fun i hi => (hN i hi).choose_spec.2.2⟩
    rcases Nat.eq_zero_or_pos len with z | z
    · exact .inl z
    · obtain ⟨b, off, spot⟩ := a
      obtain ⟨cs0, e0, e1, _⟩ := hN 0 z
      have h0 := (World.cells?_some e0).2.2 0 (by decide)
      rw [e1] at h0
      have hspot : spot = none := by simpa [Addr.add] using World.cell?_spot h0
      subst hspot
      have hbl := World.block_lt_of_cell? _ _ h0
      refine .inr ⟨b, off, rfl, by simpa [Addr.add] using hbl, fun i hi => ?_⟩
      obtain ⟨cs', f0, f1, _⟩ := hN i hi
      have hc := (World.cells?_some f0).2.2
      rw [f1] at hc
      refine ⟨?_, ?_, ?_⟩
      · simpa [addr_add] using hc 0 (by decide)
      · simpa [addr_add, Nat.add_assoc] using hc 1 (by decide)
      · simpa [addr_add, Nat.add_assoc] using hc 2 (by decide)
/-- a program that comes in -/
theorem view_prog2 {H : Type} {enc : TypeId × Value → H} {W : World} {base : Nat} {v : Value} {d : DataW H} {pl : List MemPlace}
    (hval : Value.okWide Tryz.prog W .any base 25 v) (h : DataW.Trod enc Tryz.prog W 0 (fun _ => true) true 25 v d pl) (hw : ∀ y ∈ d.weights Tryz.prog 25, y ≤ reachBytes) :
    ∃ (P : Pg) (u : PgV), v = .agg #[.int .i64 P.words, .int .i64 P.locals, .slice u.cp P.n u.cc, .slice u.ep P.m u.ec] ∧ PAt W P u ∧ roomyP P ∧ ∀ i, i < P.n → In64 (P.a i) := by
  obtain ⟨cs, rfl, hsz⟩ := okWide_struct Tryz.underlying25 hval
  rw [show Tryz.prog.cellsOf 25 = 4 from by kernel_rfl] at hsz
  obtain ⟨fuel, hf⟩ := h
  obtain ⟨l, rfl⟩ : ∃ l : List Value, cs = l.toArray := ⟨cs.toList, by simp⟩
  obtain ⟨c0, c1, c2, c3, rfl⟩ := lst4 (by simpa using hsz)
  obtain ⟨xs, n, _, hx0, _, hxl, hx⟩ := DataW.trod_struct Tryz.underlying25 hf
  obtain ⟨y0, y1, y2, y3, rfl⟩ := lst4 (by simpa using hxl)
  have k3 : Tryz.prog.cellsOf 3 = 1 := by kernel_rfl
  have k22 : Tryz.prog.cellsOf 22 = 1 := by kernel_rfl
  have k23 : Tryz.prog.cellsOf 23 = 1 := by kernel_rfl
  have g0 := hx 0 _ rfl
  have g1 := hx 1 _ rfl
  have g2 := hx 2 _ rfl
  have g3 := hx 3 _ rfl
  simp [Value.cells, k3, k22, k23] at g0 g1 g2 g3
  simp only [Prod.mk.injEq] at hx0
  obtain ⟨x0, s0, _, w0⟩ := DataW.trod_int Tryz.underlying3 g0
  obtain ⟨x1, s1, _, w1⟩ := DataW.trod_int Tryz.underlying3 g1
  obtain ⟨p, n2, c, op, a, b, s2, hi, hn, ha⟩ := view_code2 g2 (fun y hy => hw y (by
    rw [hx0.1]
    simp only [DataW.weights, Tryz.underlying25]
    refine DataW.weights_mem_each (j := 2) (t := 22) (d := y2.1) ?_ rfl y hy
    kernel_rfl))
  obtain ⟨q, m2, e, K, s3, hk, hm⟩ := view_ints g3 (fun y hy => hw y (by
    rw [hx0.1]
    simp only [DataW.weights, Tryz.underlying25]
    refine DataW.weights_mem_each (j := 3) (t := 23) (d := y3.1) ?_ rfl y hy
    kernel_rfl))
  simp at s0 s1
  subst s0 s1 s2 s3
  exact ⟨⟨x0, x1, n2, op, a, b, m2, K⟩, ⟨p, c, q, e⟩, rfl, ⟨hi, hk⟩, ⟨hn, hm⟩, ha⟩
theorem view_words {H : Type} {enc : TypeId × Value → H} {W : World} {fuel : Nat} {kv : Value} {x : DataW H × List MemPlace} (h : DataW.trod enc Tryz.prog W 0 (fun _ => true) true fuel 50 [kv] = some x) (hw : ∀ y ∈ x.1.weights Tryz.prog 50, y ≤ reachBytes) :
    ∃ (p : Option Addr) (n c : Nat) (K : Nat → Int), kv = .slice p n c ∧ KAt W p n K ∧ n ≤ 17592186044416 ∧ (∀ j, In64 (K j)) ∧ (p = none → n = 0 ∧ c = 0) := by
  rcases open_ints Tryz.underlying50 Tryz.underlying2 (by kernel_rfl) h with ⟨hcs, _⟩ | ⟨a, len, cap, zs, hcs, _, hl, hm, hz, hx, hcell, hwz⟩
  · simp at hcs
    subst hcs
    exact ⟨none, 0, 0, fun _ => 0, rfl, .inl rfl, by omega, fun _ => in64_0, fun _ => ⟨rfl, rfl⟩⟩
  · simp at hcs
    subst hcs
    simp only [if_true] at hz
    have hb : len * 8 ≤ reachBytes := by
      have := hw ((len + (cap - len)) * 8) (by
        rw [hx]
        simp only [DataW.weights, Tryz.underlying50]
        rw [show Tryz.prog.bytesOf 2 = 8 from by kernel_rfl]
        simp [lits]
        left
        congr 1
        omega)
      have e : len + (cap - len) = cap := by omega
      rw [e] at this
      omega
    refine ⟨some a, len, cap, fun i => zs.getD i 0, rfl, ?_, by unfold reachBytes at hb; omega, fun j => ?_, fun e => by cases e⟩
    rotate_left
    · show In64 (zs.getD j 0)
      rcases Nat.lt_or_ge j zs.length with hj | hj
      · rw [List.getD_eq_getElem?_getD, List.getElem?_eq_getElem hj]
        exact bounds_i64 (hwz _ (List.getElem_mem hj))
      · rw [List.getD_eq_getElem?_getD, List.getElem?_eq_none hj]
        exact in64_0
    rcases Nat.eq_zero_or_pos len with z | z
    · exact .inl z
    · obtain ⟨b, off, spot⟩ := a
      have h0 := hcell 0 (by omega)
      have hspot : spot = none := by simpa [Addr.add] using World.cell?_spot h0
      subst hspot
      have hbl := World.block_lt_of_cell? _ _ h0
      exact .inr ⟨b, off, rfl, by simpa [Addr.add] using hbl, fun i hi => by simpa [addr_add] using hcell i (by omega)⟩


theorem lst5 {α : Type} {l : List α} (h : l.length = 5) : ∃ a b c d e, l = [a, b, c, d, e] := by
  match l, h with
  | [a, b, c, d, e], _ => exact ⟨a, b, c, d, e, rfl⟩
theorem lst6 {α : Type} {l : List α} (h : l.length = 6) : ∃ a b c d e f, l = [a, b, c, d, e, f] := by
  match l, h with
  | [a, b, c, d, e, f], _ => exact ⟨a, b, c, d, e, f, rfl⟩
theorem lst12 {α : Type} {l : List α} (h : l.length = 12) : ∃ a b c d e f g i j k m n, l = [a, b, c, d, e, f, g, i, j, k, m, n] := by
  match l, h with
  | [a, b, c, d, e, f, g, i, j, k, m, n], _ => exact ⟨a, b, c, d, e, f, g, i, j, k, m, n, rfl⟩
theorem view_event2 {H : Type} {enc : TypeId × Value → H} {W : World} {fuel : Nat} {c0 c1 c2 c3 c4 c5 : Value} {x : DataW H × List MemPlace} (h : DataW.trod enc Tryz.prog W 0 (fun _ => true) true fuel 49 [c0, c1, c2, c3, c4, c5] = some x) :
    ∃ t s q d k v : Int, (c0 = .int .u64 t ∧ c1 = .int .i64 s ∧ c2 = .int .u64 q ∧ c3 = .int .i64 d ∧ c4 = .int .i64 k ∧ c5 = .int .i64 v) ∧ u64ok t ∧ In64 s ∧ In64 d ∧ In64 v := by
  obtain ⟨xs, n, _, _, _, hxl, hx⟩ := DataW.trod_struct Tryz.underlying49 h
  obtain ⟨y0, y1, y2, y3, rfl⟩ := lst4 (by simpa using hxl)
  have k24 : Tryz.prog.cellsOf 47 = 3 := by kernel_rfl
  have k22 : Tryz.prog.cellsOf 45 = 1 := by kernel_rfl
  have k3 : Tryz.prog.cellsOf 3 = 1 := by kernel_rfl
  have k2 : Tryz.prog.cellsOf 2 = 1 := by kernel_rfl
  have g0 := hx 0 _ rfl
  have g1 := hx 1 _ rfl
  have g2 := hx 2 _ rfl
  have g3 := hx 3 _ rfl
  simp [k24, k3, k2] at g0 g1 g2 g3
  obtain ⟨ys, n', _, _, _, hyl, hy⟩ := DataW.trod_struct Tryz.underlying47 g0
  obtain ⟨z0, z1, z2, rfl⟩ := lst3 (by simpa using hyl)
  have e0 := hy 0 _ rfl
  have e1 := hy 1 _ rfl
  have e2 := hy 2 _ rfl
  simp [k22, k3] at e0 e1 e2
  obtain ⟨x0, s0, _, w0⟩ := DataW.trod_int Tryz.underlying45 e0
  obtain ⟨x1, s1, _, w1⟩ := DataW.trod_int Tryz.underlying3 e1
  obtain ⟨x2, s2, _, w2⟩ := DataW.trod_int Tryz.underlying45 e2
  obtain ⟨x3, s3, _, w3⟩ := DataW.trod_int Tryz.underlying3 g1
  obtain ⟨x4, s4, _, w4⟩ := DataW.trod_int Tryz.underlying3 g2
  obtain ⟨x5, s5, _, w5⟩ := DataW.trod_int Tryz.underlying2 g3
  simp at s0 s1 s2 s3 s4 s5
  exact ⟨x0, x1, x2, x3, x4, x5, ⟨s0, s1, s2, s3, s4, s5⟩, bounds_u64 w0, bounds_i64 w1, bounds_i64 w3, bounds_i64 w5⟩
theorem view_state2 {H : Type} {enc : TypeId × Value → H} {W : World} {fuel : Nat} {c0 c1 c2 : Value} {x : DataW H × List MemPlace} (h : DataW.trod enc Tryz.prog W 0 (fun _ => true) true fuel 52 [c0, c1, c2] = some x) (hw : ∀ y ∈ x.1.weights Tryz.prog 52, y ≤ reachBytes) :
    ∃ (p : Option Addr) (n c : Nat) (K : Nat → Int) (d s : Int), (c0 = .slice p n c ∧ c1 = .int .u64 d ∧ c2 = .int .u64 s) ∧ KAt W p n K ∧ n ≤ 17592186044416 ∧ (∀ j, In64 (K j)) ∧ (p = none → n = 0 ∧ c = 0) ∧ u64ok d ∧ u64ok s := by
  obtain ⟨xs, n, _, hx0, _, hxl, hx⟩ := DataW.trod_struct Tryz.underlying52 h
  obtain ⟨y0, y1, y2, rfl⟩ := lst3 (by simpa using hxl)
  have k31 : Tryz.prog.cellsOf 50 = 1 := by kernel_rfl
  have k22 : Tryz.prog.cellsOf 45 = 1 := by kernel_rfl
  have g0 := hx 0 _ rfl
  have g1 := hx 1 _ rfl
  have g2 := hx 2 _ rfl
  simp [k31, k22] at g0 g1 g2
  obtain ⟨p, n2, c, K, s0, hk, hn, hi, h0⟩ := view_words g0 (fun y hy => hw y (by
    rw [hx0]
    simp only [DataW.weights, Tryz.underlying52]
    refine DataW.weights_mem_each (j := 0) (t := 50) (d := y0.1) ?_ rfl y hy
    kernel_rfl))
  obtain ⟨x1, s1, _, w1⟩ := DataW.trod_int Tryz.underlying45 g1
  obtain ⟨x2, s2, _, w2⟩ := DataW.trod_int Tryz.underlying45 g2
  simp at s1 s2
  exact ⟨p, n2, c, K, x1, x2, ⟨s0, s1, s2⟩, hk, hn, hi, h0, bounds_u64 w1, bounds_u64 w2⟩
/-- a call that comes in -/
theorem view_call {H : Type} {enc : TypeId × Value → H} {W : World} {base : Nat} {v : Value} {d : DataW H} {pl : List MemPlace}
    (hval : Value.okWide Tryz.prog W .any base 54 v) (h : DataW.Trod enc Tryz.prog W 0 (fun _ => true) true 54 v d pl) (hw : ∀ y ∈ d.weights Tryz.prog 54, y ≤ reachBytes) :
    ∃ (cl : Cl) (p : Option Addr) (n c : Nat) (K : Nat → Int) (di se : Int), v = .agg #[.int .u64 cl.time, .int .i64 cl.src, .int .u64 cl.seq, .int .i64 cl.dst, .int .i64 cl.kind, .int .i64 cl.data, .slice p n c, .int .u64 di, .int .u64 se, .int .u64 cl.look, .int .i64 cl.parts, .int .i64 cl.fuel] ∧ CallAt W cl p n c K di se ∧ u64ok cl.look := by
  obtain ⟨cs, rfl, hsz⟩ := okWide_struct Tryz.underlying54 hval
  rw [show Tryz.prog.cellsOf 54 = 12 from by kernel_rfl] at hsz
  obtain ⟨fuel, hf⟩ := h
  obtain ⟨l, rfl⟩ : ∃ l : List Value, cs = l.toArray := ⟨cs.toList, by simp⟩
  obtain ⟨c0, c1, c2, c3, c4, c5, c6, c7, c8, c9, c10, c11, rfl⟩ := lst12 (by simpa using hsz)
  obtain ⟨xs, n, _, hx0, _, hxl, hx⟩ := DataW.trod_struct Tryz.underlying54 hf
  obtain ⟨y0, y1, y2, y3, y4, rfl⟩ := lst5 (by simpa using hxl)
  have k6 : Tryz.prog.cellsOf 49 = 6 := by kernel_rfl
  have k33 : Tryz.prog.cellsOf 52 = 3 := by kernel_rfl
  have k22 : Tryz.prog.cellsOf 45 = 1 := by kernel_rfl
  have k3 : Tryz.prog.cellsOf 3 = 1 := by kernel_rfl
  have g0 := hx 0 _ rfl
  have g1 := hx 1 _ rfl
  have g2 := hx 2 _ rfl
  have g3 := hx 3 _ rfl
  have g4 := hx 4 _ rfl
  simp [Value.cells, k6, k33, k22, k3] at g0 g1 g2 g3 g4
  simp only [Prod.mk.injEq] at hx0
  obtain ⟨t, s, q, dd, k, v, ⟨e0, e1, e2, e3, e4, e5⟩, b0, b1, b3, b5⟩ := view_event2 g0
  obtain ⟨p, n2, c, K, di, se, ⟨e6, e7, e8⟩, hk, hn, hi, h0, bd, bs⟩ := view_state2 g1 (fun y hy => hw y (by
    rw [hx0.1]
    simp only [DataW.weights, Tryz.underlying54]
    refine DataW.weights_mem_each (j := 1) (t := 52) (d := y1.1) ?_ rfl y hy
    kernel_rfl))
  obtain ⟨x9, e9, _, w9⟩ := DataW.trod_int Tryz.underlying45 g2
  obtain ⟨x10, e10, _, w10⟩ := DataW.trod_int Tryz.underlying3 g3
  obtain ⟨x11, e11, _, w11⟩ := DataW.trod_int Tryz.underlying3 g4
  simp at e9 e10 e11
  subst e0 e1 e2 e3 e4 e5 e6 e7 e8 e9 e10 e11
  exact ⟨⟨t, s, q, dd, k, v, x9, x10, x11⟩, p, n2, c, K, di, se, rfl, ⟨hk, fun e => ⟨(h0 e).1, trivial⟩, hn, ⟨b0, b1, b3, b5⟩, hi, bd, bs⟩, bounds_u64 w9⟩
end Go.Proofs.YtopggemomcoalaaGreat
