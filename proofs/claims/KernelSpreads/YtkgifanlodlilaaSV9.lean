import Derived.Test.YtkgifanlodlilaaRows
import Derived.Test.YtkgifanlodlilaaV16
import Derived.Test.YtkgifanlodlilaaSV6
import Derived.Deep.Slices
import Derived.SizedLaws
namespace Go.Proofs.Ytkgifanlodlilaa
open Go.ChangeShapes Go.WideShapes Go.ChangeAt Go.RowKit Go.Deep
set_option linter.unusedVariables false
set_option maxRecDepth 100000

theorem lst2 {α : Type} {l : List α} (h : l.length = 2) : ∃ a b, l = [a, b] := by
  match l, h with
  | [a, b], _ => exact ⟨a, b, rfl⟩
theorem lst9 {α : Type} {l : List α} (h : l.length = 9) : ∃ a b c d e f g i j, l = [a, b, c, d, e, f, g, i, j] := by
  match l, h with
  | [a, b, c, d, e, f, g, i, j], _ => exact ⟨a, b, c, d, e, f, g, i, j, rfl⟩
theorem view_wds {H : Type} {enc : TypeId × Value → H} {W : World} {fuel : Nat} {kv : Value} {x : DataW H × List MemPlace} (h : DataW.trod enc Try.prog W 0 (fun _ => true) true fuel 52 [kv] = some x) (hw : ∀ y ∈ x.1.weights Try.prog 52, y ≤ reachBytes) :
    ∃ (p : Option Addr) (n c : Nat) (K : Nat → Int), kv = .slice p n c ∧ KAt W p n K ∧ n ≤ 17592186044416 := by
  rcases open_ints Try.underlying52 Try.underlying2 (by kernel_rfl) h with ⟨hcs, _⟩ | ⟨a, len, cap, zs, hcs, _, hl, hm, hz, hx, hcell, hwz⟩
  · simp at hcs
    subst hcs
    exact ⟨none, 0, 0, fun _ => 0, rfl, .inl rfl, by omega⟩
  · simp at hcs
    subst hcs
    simp only [if_true] at hz
    have hb : len * 8 ≤ reachBytes := by
      have := hw ((len + (cap - len)) * 8) (by
        rw [hx]
        simp only [DataW.weights, Try.underlying52]
        rw [show Try.prog.bytesOf 2 = 8 from by kernel_rfl]
        simp [lits]
        left
        congr 1
        omega)
      have e : len + (cap - len) = cap := by omega
      rw [e] at this
      omega
    refine ⟨some a, len, cap, fun i => zs.getD i 0, rfl, ?_, by unfold reachBytes at hb; omega⟩
    rcases Nat.eq_zero_or_pos len with z | z
    · exact .inl z
    · obtain ⟨b, off, spot⟩ := a
      have h0 := hcell 0 (by omega)
      have hspot : spot = none := by simpa [Addr.add] using World.cell?_spot h0
      subst hspot
      have hbl := World.block_lt_of_cell? _ _ h0
      exact .inr ⟨b, off, rfl, by simpa [Addr.add] using hbl, fun i hi => by simpa [addr_add] using hcell i (by omega)⟩



theorem view_pg {H : Type} {enc : TypeId × Value → H} {W : World} {fuel : Nat} {cs : List Value} {x : DataW H × List MemPlace} (h : DataW.trod enc Try.prog W 0 (fun _ => true) true fuel 51 cs = some x) (hl : cs.length = 4) (hw : ∀ y ∈ x.1.weights Try.prog 51, y ≤ reachBytes) :
    ∃ X : Pg × PgV, cs = [.int .i64 X.1.words, .int .i64 X.1.locals, .slice X.2.cp X.1.n X.2.cc, .slice X.2.ep X.1.m X.2.ec] ∧ PAt W X.1 X.2 ∧ roomyP X.1 := by
  obtain ⟨c0, c1, c2, c3, rfl⟩ := lst4 hl
  obtain ⟨xs, n, _, hx0, _, hxl, hx⟩ := DataW.trod_struct Try.underlying51 h
  obtain ⟨y0, y1, y2, y3, rfl⟩ := lst4 (by simpa using hxl)
  have k3 : Try.prog.cellsOf 3 = 1 := by kernel_rfl
  have k22 : Try.prog.cellsOf 49 = 1 := by kernel_rfl
  have k23 : Try.prog.cellsOf 28 = 1 := by kernel_rfl
  have g0 := hx 0 _ rfl
  have g1 := hx 1 _ rfl
  have g2 := hx 2 _ rfl
  have g3 := hx 3 _ rfl
  simp [k3, k22, k23] at g0 g1 g2 g3
  obtain ⟨x0, s0, _, w0⟩ := DataW.trod_int Try.underlying3 g0
  obtain ⟨x1, s1, _, w1⟩ := DataW.trod_int Try.underlying3 g1
  obtain ⟨p, n2, c, op, a, b, s2, hi, hn⟩ := view_code g2 (fun y hy => hw y (by
    rw [hx0]
    simp only [DataW.weights, Try.underlying51]
    refine DataW.weights_mem_each (j := 2) (t := 49) (d := y2.1) ?_ rfl y hy
    kernel_rfl))
  obtain ⟨q, m2, e, K, s3, hk, hm⟩ := view_ints g3 (fun y hy => hw y (by
    rw [hx0]
    simp only [DataW.weights, Try.underlying51]
    refine DataW.weights_mem_each (j := 3) (t := 28) (d := y3.1) ?_ rfl y hy
    kernel_rfl))
  simp at s0 s1
  subst s0 s1 s2 s3
  exact ⟨(⟨x0, x1, n2, op, a, b, m2, K⟩, ⟨p, c, q, e⟩), rfl, ⟨hi, hk⟩, hn, hm⟩
structure Pt where
  pr : Int
  wp : Option Addr
  nw : Nat
  wc : Nat
  K : Nat → Int
theorem view_pt {H : Type} {enc : TypeId × Value → H} {W : World} {fuel : Nat} {cs : List Value} {x : DataW H × List MemPlace} (h : DataW.trod enc Try.prog W 0 (fun _ => true) true fuel 54 cs = some x) (hl : cs.length = 2) (hw : ∀ y ∈ x.1.weights Try.prog 54, y ≤ reachBytes) :
    ∃ X : Pt, cs = [.int .i64 X.pr, .slice X.wp X.nw X.wc] ∧ KAt W X.wp X.nw X.K ∧ X.nw ≤ 17592186044416 := by
  obtain ⟨c0, c1, rfl⟩ := lst2 hl
  obtain ⟨xs, n, _, hx0, _, hxl, hx⟩ := DataW.trod_struct Try.underlying54 h
  obtain ⟨y0, y1, rfl⟩ := lst2 (by simpa using hxl)
  have k3 : Try.prog.cellsOf 3 = 1 := by kernel_rfl
  have k23 : Try.prog.cellsOf 52 = 1 := by kernel_rfl
  have g0 := hx 0 _ rfl
  have g1 := hx 1 _ rfl
  simp [k3, k23] at g0 g1
  obtain ⟨x0, s0, _, w0⟩ := DataW.trod_int Try.underlying3 g0
  obtain ⟨q, m2, e, K, s3, hk, hm⟩ := view_wds g1 (fun y hy => hw y (by
    rw [hx0]
    simp only [DataW.weights, Try.underlying54]
    refine DataW.weights_mem_each (j := 1) (t := 52) (d := y1.1) ?_ rfl y hy
    kernel_rfl))
  simp at s0
  subst s0 s3
  exact ⟨⟨x0, q, m2, e, K⟩, rfl, hk, hm⟩
theorem view_st {H : Type} {enc : TypeId × Value → H} {W : World} {fuel : Nat} {cs : List Value} {x : DataW H × List MemPlace} (h : DataW.trod enc Try.prog W 0 (fun _ => true) true fuel 36 cs = some x) (hl : cs.length = 4) (hw : ∀ y ∈ x.1.weights Try.prog 36, y ≤ reachBytes) :
    ∃ X : St, cs = [.int .u64 X.t, .int .i64 X.d, .int .i64 X.k, .int .i64 X.v] ∧ True := by
  obtain ⟨c0, c1, c2, c3, rfl⟩ := lst4 hl
  obtain ⟨xs, n, _, hx0, _, hxl, hx⟩ := DataW.trod_struct Try.underlying36 h
  obtain ⟨y0, y1, y2, y3, rfl⟩ := lst4 (by simpa using hxl)
  have k3 : Try.prog.cellsOf 3 = 1 := by kernel_rfl
  have k8 : Try.prog.cellsOf 25 = 1 := by kernel_rfl
  have k6 : Try.prog.cellsOf 2 = 1 := by kernel_rfl
  have g0 := hx 0 _ rfl
  have g1 := hx 1 _ rfl
  have g2 := hx 2 _ rfl
  have g3 := hx 3 _ rfl
  simp [k3, k8, k6] at g0 g1 g2 g3
  obtain ⟨x0, s0, _, w0⟩ := DataW.trod_int Try.underlying25 g0
  obtain ⟨x1, s1, _, w1⟩ := DataW.trod_int Try.underlying3 g1
  obtain ⟨x2, s2, _, w2⟩ := DataW.trod_int Try.underlying3 g2
  obtain ⟨x3, s3, _, w3⟩ := DataW.trod_int Try.underlying2 g3
  simp at s0 s1 s2 s3
  subst s0 s1 s2 s3
  exact ⟨⟨x0, x1, x2, x3⟩, rfl, trivial⟩
theorem view_pgs {H : Type} {enc : TypeId × Value → H} {W : World} {fuel : Nat} {kv : Value} {x : DataW H × List MemPlace} (h : DataW.trod enc Try.prog W 0 (fun _ => true) true fuel 22 [kv] = some x) (hw : ∀ y ∈ x.1.weights Try.prog 22, y ≤ reachBytes) :
    ∃ (p : Option Addr) (n c : Nat) (X : Nat → Pg × PgV), kv = .slice p n c ∧ (PsAt W p n (fun j => (X j).1) (fun j => (X j).2) ∧ ∀ j, j < n → roomyP (X j).1) ∧ n * 64 ≤ 140737488351232 := by
  have k30 : Try.prog.cellsOf 51 = 4 := by kernel_rfl
  have inh : Inhabited (Pg × PgV) := ⟨(⟨0, 0, 0, fun _ => 0, fun _ => 0, fun _ => 0, 0, fun _ => 0⟩, ⟨none, 0, none, 0⟩)⟩
  rcases open_slice Try.underlying22 h with ⟨hcs, _⟩ | ⟨a, len, cap, m, n', D, Pl, hcs, _, hl, hm, hmm, hy0, hel⟩
  · simp at hcs
    subst hcs
    exact ⟨none, 0, 0, fun _ => default, rfl, ⟨.inl rfl, fun j hj => absurd hj (Nat.not_lt_zero _)⟩, by omega⟩
  · simp at hcs
    subst hcs
    simp only [if_true] at hmm
    subst hmm
    rw [k30] at hel
    have hb : len * 64 ≤ reachBytes := by
      have := hw ((len + (m - len)) * 64) (by
        rw [hy0]
        simp only [DataW.weights, Try.underlying22]
        rw [show Try.prog.bytesOf 51 = 64 from by kernel_rfl]
        simp)
      have e : len + (m - len) = m := by omega
      rw [e] at this
      omega
    have hall : ∀ i, i < len → ∃ X : Pg × PgV, ∃ cs', W.cells? 0 (a.add (i * 4)) 4 = some cs' ∧ cs' = [.int .i64 X.1.words, .int .i64 X.1.locals, .slice X.2.cp X.1.n X.2.cc, .slice X.2.ep X.1.m X.2.ec] ∧ PAt W X.1 X.2 ∧ roomyP X.1 := by
      intro i hi
      obtain ⟨cs', h1, h2⟩ := hel i (by omega)
      have hlen := (World.cells?_some h1).2.1
      obtain ⟨X, h3, h4⟩ := view_pg h2 hlen (fun y hy => hw y (by
        rw [hy0]
        simp only [DataW.weights, Try.underlying22]
        refine List.mem_cons_of_mem _ (List.mem_append_left _ ?_)
        exact mem_all (List.mem_map.2 ⟨i, List.mem_range.2 hi, rfl⟩) y hy))
      exact ⟨X, cs', h1, h3, h4⟩
    obtain ⟨N, hN⟩ := choose_lt hall
    refine ⟨some a, len, m, N, rfl, ⟨?_, fun j hj => (hN j hj).choose_spec.2.2.2⟩, by unfold reachBytes at hb; omega⟩
    rcases Nat.eq_zero_or_pos len with z | z
    · exact .inl z
    · obtain ⟨b, off, spot⟩ := a
      obtain ⟨cs0, e0, e1, _⟩ := hN 0 z
      have h0 := (World.cells?_some e0).2.2 0 (by decide)
      rw [e1] at h0
      have hspot : spot = none := by simpa [Addr.add] using World.cell?_spot h0
      subst hspot
      have hbl := World.block_lt_of_cell? _ _ h0
      have hcc : ∀ i, i < len → ∀ r, r < 4 → W.cell? ⟨b, off + i * 4 + r, none⟩ = ([.int .i64 (N i).1.words, .int .i64 (N i).1.locals, .slice (N i).2.cp (N i).1.n (N i).2.cc, .slice (N i).2.ep (N i).1.m (N i).2.ec] : List Value)[r]? := fun i hi r hr => by
        obtain ⟨cs', f0, f1, f2⟩ := hN i hi
        have hc := (World.cells?_some f0).2.2 r hr
        rw [f1] at hc
        simpa [addr_add, Nat.add_assoc] using hc
      exact .inr ⟨b, off, rfl, by simpa [Addr.add] using hbl, fun i hi => ⟨hcc i hi 0 (by decide), hcc i hi 1 (by decide), hcc i hi 2 (by decide), hcc i hi 3 (by decide)⟩, fun j hj => (hN j hj).choose_spec.2.2.1⟩
theorem view_pts {H : Type} {enc : TypeId × Value → H} {W : World} {fuel : Nat} {kv : Value} {x : DataW H × List MemPlace} (h : DataW.trod enc Try.prog W 0 (fun _ => true) true fuel 23 [kv] = some x) (hw : ∀ y ∈ x.1.weights Try.prog 23, y ≤ reachBytes) :
    ∃ (p : Option Addr) (n c : Nat) (X : Nat → Pt), kv = .slice p n c ∧ (TsAt W p n (fun j => (X j).pr) (fun j => (X j).nw) (fun j => (X j).K) (fun j => (X j).wp) (fun j => (X j).wc) ∧ ∀ j, j < n → (X j).nw ≤ 17592186044416) ∧ n * 32 ≤ 140737488351232 := by
  have k30 : Try.prog.cellsOf 54 = 2 := by kernel_rfl
  have inh : Inhabited Pt := ⟨⟨0, none, 0, 0, fun _ => 0⟩⟩
  rcases open_slice Try.underlying23 h with ⟨hcs, _⟩ | ⟨a, len, cap, m, n', D, Pl, hcs, _, hl, hm, hmm, hy0, hel⟩
  · simp at hcs
    subst hcs
    exact ⟨none, 0, 0, fun _ => default, rfl, ⟨.inl rfl, fun j hj => absurd hj (Nat.not_lt_zero _)⟩, by omega⟩
  · simp at hcs
    subst hcs
    simp only [if_true] at hmm
    subst hmm
    rw [k30] at hel
    have hb : len * 32 ≤ reachBytes := by
      have := hw ((len + (m - len)) * 32) (by
        rw [hy0]
        simp only [DataW.weights, Try.underlying23]
        rw [show Try.prog.bytesOf 54 = 32 from by kernel_rfl]
        simp)
      have e : len + (m - len) = m := by omega
      rw [e] at this
      omega
    have hall : ∀ i, i < len → ∃ X : Pt, ∃ cs', W.cells? 0 (a.add (i * 2)) 2 = some cs' ∧ cs' = [.int .i64 X.pr, .slice X.wp X.nw X.wc] ∧ KAt W X.wp X.nw X.K ∧ X.nw ≤ 17592186044416 := by
      intro i hi
      obtain ⟨cs', h1, h2⟩ := hel i (by omega)
      have hlen := (World.cells?_some h1).2.1
      obtain ⟨X, h3, h4⟩ := view_pt h2 hlen (fun y hy => hw y (by
        rw [hy0]
        simp only [DataW.weights, Try.underlying23]
        refine List.mem_cons_of_mem _ (List.mem_append_left _ ?_)
        exact mem_all (List.mem_map.2 ⟨i, List.mem_range.2 hi, rfl⟩) y hy))
      exact ⟨X, cs', h1, h3, h4⟩
    obtain ⟨N, hN⟩ := choose_lt hall
    refine ⟨some a, len, m, N, rfl, ⟨?_, fun j hj => (hN j hj).choose_spec.2.2.2⟩, by unfold reachBytes at hb; omega⟩
    rcases Nat.eq_zero_or_pos len with z | z
    · exact .inl z
    · obtain ⟨b, off, spot⟩ := a
      obtain ⟨cs0, e0, e1, _⟩ := hN 0 z
      have h0 := (World.cells?_some e0).2.2 0 (by decide)
      rw [e1] at h0
      have hspot : spot = none := by simpa [Addr.add] using World.cell?_spot h0
      subst hspot
      have hbl := World.block_lt_of_cell? _ _ h0
      have hcc : ∀ i, i < len → ∀ r, r < 2 → W.cell? ⟨b, off + i * 2 + r, none⟩ = ([.int .i64 (N i).pr, .slice (N i).wp (N i).nw (N i).wc] : List Value)[r]? := fun i hi r hr => by
        obtain ⟨cs', f0, f1, f2⟩ := hN i hi
        have hc := (World.cells?_some f0).2.2 r hr
        rw [f1] at hc
        simpa [addr_add, Nat.add_assoc] using hc
      exact .inr ⟨b, off, rfl, by simpa [Addr.add] using hbl, fun i hi => ⟨hcc i hi 0 (by decide), hcc i hi 1 (by decide)⟩, fun j hj => (hN j hj).choose_spec.2.2.1⟩
theorem view_sts {H : Type} {enc : TypeId × Value → H} {W : World} {fuel : Nat} {kv : Value} {x : DataW H × List MemPlace} (h : DataW.trod enc Try.prog W 0 (fun _ => true) true fuel 24 [kv] = some x) (hw : ∀ y ∈ x.1.weights Try.prog 24, y ≤ reachBytes) :
    ∃ (p : Option Addr) (n c : Nat) (X : Nat → St), kv = .slice p n c ∧ StAt W p n X ∧ n * 32 ≤ 140737488351232 := by
  have k30 : Try.prog.cellsOf 36 = 4 := by kernel_rfl
  have inh : Inhabited St := ⟨⟨0, 0, 0, 0⟩⟩
  rcases open_slice Try.underlying24 h with ⟨hcs, _⟩ | ⟨a, len, cap, m, n', D, Pl, hcs, _, hl, hm, hmm, hy0, hel⟩
  · simp at hcs
    subst hcs
    exact ⟨none, 0, 0, fun _ => default, rfl, .inl rfl, by omega⟩
  · simp at hcs
    subst hcs
    simp only [if_true] at hmm
    subst hmm
    rw [k30] at hel
    have hb : len * 32 ≤ reachBytes := by
      have := hw ((len + (m - len)) * 32) (by
        rw [hy0]
        simp only [DataW.weights, Try.underlying24]
        rw [show Try.prog.bytesOf 36 = 32 from by kernel_rfl]
        simp)
      have e : len + (m - len) = m := by omega
      rw [e] at this
      omega
    have hall : ∀ i, i < len → ∃ X : St, ∃ cs', W.cells? 0 (a.add (i * 4)) 4 = some cs' ∧ cs' = [.int .u64 X.t, .int .i64 X.d, .int .i64 X.k, .int .i64 X.v] ∧ True := by
      intro i hi
      obtain ⟨cs', h1, h2⟩ := hel i (by omega)
      have hlen := (World.cells?_some h1).2.1
      obtain ⟨X, h3, h4⟩ := view_st h2 hlen (fun y hy => hw y (by
        rw [hy0]
        simp only [DataW.weights, Try.underlying24]
        refine List.mem_cons_of_mem _ (List.mem_append_left _ ?_)
        exact mem_all (List.mem_map.2 ⟨i, List.mem_range.2 hi, rfl⟩) y hy))
      exact ⟨X, cs', h1, h3, h4⟩
    obtain ⟨N, hN⟩ := choose_lt hall
    refine ⟨some a, len, m, N, rfl, ?_, by unfold reachBytes at hb; omega⟩
    rcases Nat.eq_zero_or_pos len with z | z
    · exact .inl z
    · obtain ⟨b, off, spot⟩ := a
      obtain ⟨cs0, e0, e1, _⟩ := hN 0 z
      have h0 := (World.cells?_some e0).2.2 0 (by decide)
      rw [e1] at h0
      have hspot : spot = none := by simpa [Addr.add] using World.cell?_spot h0
      subst hspot
      have hbl := World.block_lt_of_cell? _ _ h0
      have hcc : ∀ i, i < len → ∀ r, r < 4 → W.cell? ⟨b, off + i * 4 + r, none⟩ = ([.int .u64 (N i).t, .int .i64 (N i).d, .int .i64 (N i).k, .int .i64 (N i).v] : List Value)[r]? := fun i hi r hr => by
        obtain ⟨cs', f0, f1, f2⟩ := hN i hi
        have hc := (World.cells?_some f0).2.2 r hr
        rw [f1] at hc
        simpa [addr_add, Nat.add_assoc] using hc
      exact .inr ⟨b, off, rfl, by simpa [Addr.add] using hbl, fun i hi => ⟨hcc i hi 0 (by decide), hcc i hi 1 (by decide), hcc i hi 2 (by decide), hcc i hi 3 (by decide)⟩⟩
/-- a plan that comes in -/
theorem view_plan {H : Type} {enc : TypeId × Value → H} {W : World} {base : Nat} {v : Value} {d : DataW H} {pl : List MemPlace}
    (hval : Value.okWide Try.prog W .any base 27 v) (h : DataW.Trod enc Try.prog W 0 (fun _ => true) true 27 v d pl) (hw : ∀ y ∈ d.weights Try.prog 27, y ≤ reachBytes) :
    ∃ (p : Pl) (u : PlV), v = .agg #[.int .i64 p.ki, .slice u.pp p.np u.pc, .slice u.tp p.nq u.tc, .slice u.sp p.ns u.sc, .int .u64 p.sd, .int .u64 p.lk, .int .u64 p.en, .int .i64 p.bu, .int .i64 p.fu] ∧ PlAt W p u ∧ RoomyL p := by
  obtain ⟨cs, rfl, hsz⟩ := okWide_struct Try.underlying27 hval
  rw [show Try.prog.cellsOf 27 = 9 from by kernel_rfl] at hsz
  obtain ⟨fuel, hf⟩ := h
  obtain ⟨l, rfl⟩ : ∃ l : List Value, cs = l.toArray := ⟨cs.toList, by simp⟩
  obtain ⟨c0, c1, c2, c3, c4, c5, c6, c7, c8, rfl⟩ := lst9 (by simpa using hsz)
  obtain ⟨xs, n, _, hx0, _, hxl, hx⟩ := DataW.trod_struct Try.underlying27 hf
  obtain ⟨y0, y1, y2, y3, y4, y5, y6, y7, y8, rfl⟩ := lst9 (by simpa using hxl)
  have k3 : Try.prog.cellsOf 3 = 1 := by kernel_rfl
  have k8 : Try.prog.cellsOf 25 = 1 := by kernel_rfl
  have kp : Try.prog.cellsOf 22 = 1 := by kernel_rfl
  have kt : Try.prog.cellsOf 23 = 1 := by kernel_rfl
  have ks : Try.prog.cellsOf 24 = 1 := by kernel_rfl
  have g0 := hx 0 _ rfl
  have g1 := hx 1 _ rfl
  have g2 := hx 2 _ rfl
  have g3 := hx 3 _ rfl
  have g4 := hx 4 _ rfl
  have g5 := hx 5 _ rfl
  have g6 := hx 6 _ rfl
  have g7 := hx 7 _ rfl
  have g8 := hx 8 _ rfl
  simp [Value.cells, k3, k8, kp, kt, ks] at g0 g1 g2 g3 g4 g5 g6 g7 g8
  simp only [Prod.mk.injEq] at hx0
  obtain ⟨x0, s0, _, w0⟩ := DataW.trod_int Try.underlying3 g0
  obtain ⟨x4, s4, _, w4⟩ := DataW.trod_int Try.underlying25 g4
  obtain ⟨x5, s5, _, w5⟩ := DataW.trod_int Try.underlying25 g5
  obtain ⟨x6, s6, _, w6⟩ := DataW.trod_int Try.underlying25 g6
  obtain ⟨x7, s7, _, w7⟩ := DataW.trod_int Try.underlying3 g7
  obtain ⟨x8, s8, _, w8⟩ := DataW.trod_int Try.underlying3 g8
  obtain ⟨p1, n1, e1, X1, s1, ⟨hp, hpr⟩, hn1⟩ := view_pgs g1 (fun y hy => hw y (by
    rw [hx0.1]
    simp only [DataW.weights, Try.underlying27]
    refine DataW.weights_mem_each (j := 1) (t := 22) (d := y1.1) ?_ rfl y hy
    kernel_rfl))
  obtain ⟨p2, n2, e2, X2, s2, ⟨ht, htr⟩, hn2⟩ := view_pts g2 (fun y hy => hw y (by
    rw [hx0.1]
    simp only [DataW.weights, Try.underlying27]
    refine DataW.weights_mem_each (j := 2) (t := 23) (d := y2.1) ?_ rfl y hy
    kernel_rfl))
  obtain ⟨p3, n3, e3, X3, s3, hs, hn3⟩ := view_sts g3 (fun y hy => hw y (by
    rw [hx0.1]
    simp only [DataW.weights, Try.underlying27]
    refine DataW.weights_mem_each (j := 3) (t := 24) (d := y3.1) ?_ rfl y hy
    kernel_rfl))
  simp at s0 s4 s5 s6 s7 s8
  subst s0 s1 s2 s3 s4 s5 s6 s7 s8
  exact ⟨⟨x0, n1, fun j => (X1 j).1, n2, fun j => (X2 j).pr, fun j => (X2 j).nw, fun j => (X2 j).K, n3, X3, x4, x5, x6, x7, x8⟩, ⟨p1, e1, fun j => (X1 j).2, p2, e2, fun j => (X2 j).wp, fun j => (X2 j).wc, p3, e3⟩, rfl, ⟨hp, ht, hs⟩, ⟨hn1, hpr, hn2, htr, hn3⟩⟩
end Go.Proofs.Ytkgifanlodlilaa
