import Derived.Test.YtijkokckdbhkcaaDoorRows
import Derived.Test.YtijkokckdbhkcaaDoorTP1
import Derived.Deep.Slices
import Derived.SizedLaws
namespace Go.Proofs.YtijkokckdbhkcaaDoor
open Go.ChangeShapes Go.WideShapes Go.ChangeAt Go.RowKit Go.Deep
set_option linter.unusedVariables false
set_option linter.unusedSimpArgs false
set_option maxRecDepth 100000

/-- an event's numbers are in their ranges -/
def SeOk (e : Se) : Prop := (0 ≤ e.t ∧ e.t < 18446744073709551616) ∧ (-9223372036854775808 ≤ e.s ∧ e.s < 9223372036854775808) ∧ (0 ≤ e.q ∧ e.q < 18446744073709551616) ∧ (-9223372036854775808 ≤ e.d ∧ e.d < 9223372036854775808) ∧ (-9223372036854775808 ≤ e.k ∧ e.k < 9223372036854775808) ∧ (-9223372036854775808 ≤ e.v ∧ e.v < 9223372036854775808)
theorem wf_i64 {n : Int} (h : (Lit.int .i64 n).wf = true) : -9223372036854775808 ≤ n ∧ n < 9223372036854775808 := by
  have := bounds_i64 h
  omega
theorem wf_u64 {n : Int} (h : (Lit.int .u64 n).wf = true) : 0 ≤ n ∧ n < 18446744073709551616 := by
  have := bounds_u64 h
  omega
theorem lst3 {α : Type} {l : List α} (h : l.length = 3) : ∃ a b c, l = [a, b, c] := by
  match l, h with
  | [a, b, c], _ => exact ⟨a, b, c, rfl⟩
theorem lst4 {α : Type} {l : List α} (h : l.length = 4) : ∃ a b c d, l = [a, b, c, d] := by
  match l, h with
  | [a, b, c, d], _ => exact ⟨a, b, c, d, rfl⟩
theorem mem_all {H : Type} {P : Program} {e : TypeId} {d : DataW H} : ∀ {l : List (DataW H)}, d ∈ l → ∀ x ∈ d.weights P e, x ∈ DataW.weightsAll P e l
  | [], h, _, _ => by cases h
  | a :: l, h, x, hx => by
    simp only [DataW.weightsAll, List.mem_append]
    rcases List.mem_cons.1 h with rfl | h
    · exact .inl hx
    · exact .inr (mem_all h x hx)
theorem lst2 {α : Type} {l : List α} (h : l.length = 2) : ∃ a b, l = [a, b] := by
  match l, h with
  | [a, b], _ => exact ⟨a, b, rfl⟩
theorem view_wds {H : Type} {enc : TypeId × Value → H} {W : World} {fuel : Nat} {kv : Value} {x : DataW H × List MemPlace} (h : DataW.trod enc Tryd.prog W 0 (fun _ => true) true fuel 36 [kv] = some x) (hw : ∀ y ∈ x.1.weights Tryd.prog 36, y ≤ reachBytes) :
    ∃ (p : Option Addr) (n c : Nat) (K : Nat → Int), kv = .slice p n c ∧ KAt W p n K ∧ n ≤ 17592186044416 := by
  rcases open_ints Tryd.underlying36 Tryd.underlying2 (by kernel_rfl) h with ⟨hcs, _⟩ | ⟨a, len, cap, zs, hcs, _, hl, hm, hz, hx, hcell, hwz⟩
  · simp at hcs
    subst hcs
    exact ⟨none, 0, 0, fun _ => 0, rfl, .inl rfl, by omega⟩
  · simp at hcs
    subst hcs
    simp only [if_true] at hz
    have hb : len * 8 ≤ reachBytes := by
      have := hw ((len + (cap - len)) * 8) (by
        rw [hx]
        simp only [DataW.weights, Tryd.underlying36]
        rw [show Tryd.prog.bytesOf 2 = 8 from by kernel_rfl]
        simp [lits]
        left
        congr 1
        omega)
      have e : len + (cap - len) = cap := by omega
      rw [e] at this
      omega
    refine ⟨some a, len, cap, fun i => zs.getD i 0, rfl, ?_, by unfold reachBytes at hb; omega⟩
    rcases Nat.eq_zero_or_pos len with z | z
    · exact .inl z
    · obtain ⟨b, off, spot⟩ := a
      have h0 := hcell 0 (by omega)
      have hspot : spot = none := by simpa [Addr.add] using World.cell?_spot h0
      subst hspot
      have hbl := World.block_lt_of_cell? _ _ h0
      exact .inr ⟨b, off, rfl, by simpa [Addr.add] using hbl, fun i hi => by simpa [addr_add] using hcell i (by omega)⟩
theorem lst6 {α : Type} {l : List α} (h : l.length = 6) : ∃ a b c d e f, l = [a, b, c, d, e, f] := by
  match l, h with
  | [a, b, c, d, e, f], _ => exact ⟨a, b, c, d, e, f, rfl⟩
theorem view_sa {H : Type} {enc : TypeId × Value → H} {W : World} {fuel : Nat} {cs : List Value} {x : DataW H × List MemPlace} (h : DataW.trod enc Tryd.prog W 0 (fun _ => true) true fuel 38 cs = some x) (hl : cs.length = 3) (hw : ∀ y ∈ x.1.weights Tryd.prog 38, y ≤ reachBytes) :
    ∃ X : Sa × (Nat → Int), cs = [.slice X.1.p X.1.n X.1.c, .int .u64 X.1.d, .int .u64 X.1.s] ∧ KAt W X.1.p X.1.n X.2 ∧ X.1.n ≤ 17592186044416 := by
  obtain ⟨c0, c1, c2, rfl⟩ := lst3 hl
  obtain ⟨xs, n, _, hx0, _, hxl, hx⟩ := DataW.trod_struct Tryd.underlying38 h
  obtain ⟨y0, y1, y2, rfl⟩ := lst3 (by simpa using hxl)
  have k8 : Tryd.prog.cellsOf 23 = 1 := by kernel_rfl
  have k23 : Tryd.prog.cellsOf 36 = 1 := by kernel_rfl
  have g0 := hx 0 _ rfl
  have g1 := hx 1 _ rfl
  have g2 := hx 2 _ rfl
  simp [k8, k23] at g0 g1 g2
  obtain ⟨x1, s1, _, w1⟩ := DataW.trod_int Tryd.underlying23 g1
  obtain ⟨x2, s2, _, w2⟩ := DataW.trod_int Tryd.underlying23 g2
  obtain ⟨q, m2, e, K, s0, hk, hm⟩ := view_wds g0 (fun y hy => hw y (by
    rw [hx0]
    simp only [DataW.weights, Tryd.underlying38]
    refine DataW.weights_mem_each (j := 0) (t := 36) (d := y0.1) ?_ rfl y hy
    kernel_rfl))
  simp at s1 s2
  subst s0 s1 s2
  exact ⟨(⟨q, m2, e, x1, x2⟩, K), rfl, hk, hm⟩
theorem view_se {H : Type} {enc : TypeId × Value → H} {W : World} {fuel : Nat} {cs : List Value} {x : DataW H × List MemPlace} (h : DataW.trod enc Tryd.prog W 0 (fun _ => true) true fuel 41 cs = some x) (hl : cs.length = 6) (hw : ∀ y ∈ x.1.weights Tryd.prog 41, y ≤ reachBytes) :
    ∃ X : Se, cs = [.int .u64 X.t, .int .i64 X.s, .int .u64 X.q, .int .i64 X.d, .int .i64 X.k, .int .i64 X.v] ∧ SeOk X := by
  obtain ⟨c0, c1, c2, c3, c4, c5, rfl⟩ := lst6 hl
  obtain ⟨xs, n, _, hx0, _, hxl, hx⟩ := DataW.trod_struct Tryd.underlying41 h
  obtain ⟨y0, y1, y2, y3, rfl⟩ := lst4 (by simpa using hxl)
  have k3 : Tryd.prog.cellsOf 3 = 1 := by kernel_rfl
  have k8 : Tryd.prog.cellsOf 23 = 1 := by kernel_rfl
  have k6 : Tryd.prog.cellsOf 2 = 1 := by kernel_rfl
  have k5 : Tryd.prog.cellsOf 25 = 3 := by kernel_rfl
  have g0 := hx 0 _ rfl
  have g1 := hx 1 _ rfl
  have g2 := hx 2 _ rfl
  have g3 := hx 3 _ rfl
  simp [k3, k6, k5] at g0 g1 g2 g3
  obtain ⟨xs', n', _, hx0', _, hxl', hx'⟩ := DataW.trod_struct Tryd.underlying25 g0
  obtain ⟨z0, z1, z2, rfl⟩ := lst3 (by simpa using hxl')
  have f0 := hx' 0 _ rfl
  have f1 := hx' 1 _ rfl
  have f2 := hx' 2 _ rfl
  simp [k3, k8] at f0 f1 f2
  obtain ⟨x0, s0, _, w0⟩ := DataW.trod_int Tryd.underlying23 f0
  obtain ⟨x1, s1, _, w1⟩ := DataW.trod_int Tryd.underlying3 f1
  obtain ⟨x2, s2, _, w2⟩ := DataW.trod_int Tryd.underlying23 f2
  obtain ⟨x3, s3, _, w3⟩ := DataW.trod_int Tryd.underlying3 g1
  obtain ⟨x4, s4, _, w4⟩ := DataW.trod_int Tryd.underlying3 g2
  obtain ⟨x5, s5, _, w5⟩ := DataW.trod_int Tryd.underlying2 g3
  simp at s0 s1 s2 s3 s4 s5
  subst s0 s1 s2 s3 s4 s5
  exact ⟨⟨x0, x1, x2, x3, x4, x5⟩, rfl, wf_u64 w0, wf_i64 w1, wf_u64 w2, wf_i64 w3, wf_i64 w4, wf_i64 w5⟩
theorem view_sas {H : Type} {enc : TypeId × Value → H} {W : World} {fuel : Nat} {kv : Value} {x : DataW H × List MemPlace} (h : DataW.trod enc Tryd.prog W 0 (fun _ => true) true fuel 26 [kv] = some x) (hw : ∀ y ∈ x.1.weights Tryd.prog 26, y ≤ reachBytes) :
    ∃ (p : Option Addr) (n c : Nat) (X : Nat → Sa × (Nat → Int)), kv = .slice p n c ∧ (SsAt W p n (fun j => (X j).1) (fun j => (X j).2) ∧ ∀ j, j < n → (X j).1.n ≤ 17592186044416) ∧ n * 40 ≤ 140737488351232 := by
  have k30 : Tryd.prog.cellsOf 38 = 3 := by kernel_rfl
  have inh : Inhabited (Sa × (Nat → Int)) := ⟨(⟨none, 0, 0, 0, 0⟩, fun _ => 0)⟩
  rcases open_slice Tryd.underlying26 h with ⟨hcs, _⟩ | ⟨a, len, cap, m, n', D, Pl, hcs, _, hl, hm, hmm, hy0, hel⟩
  · simp at hcs
    subst hcs
    exact ⟨none, 0, 0, fun _ => default, rfl, ⟨.inl rfl, fun j hj => absurd hj (Nat.not_lt_zero _)⟩, by omega⟩
  · simp at hcs
    subst hcs
    simp only [if_true] at hmm
    subst hmm
    rw [k30] at hel
    have hb : len * 40 ≤ reachBytes := by
      have := hw ((len + (m - len)) * 40) (by
        rw [hy0]
        simp only [DataW.weights, Tryd.underlying26]
        rw [show Tryd.prog.bytesOf 38 = 40 from by kernel_rfl]
        simp)
      have e : len + (m - len) = m := by omega
      rw [e] at this
      omega
    have hall : ∀ i, i < len → ∃ X : Sa × (Nat → Int), ∃ cs', W.cells? 0 (a.add (i * 3)) 3 = some cs' ∧ cs' = [.slice X.1.p X.1.n X.1.c, .int .u64 X.1.d, .int .u64 X.1.s] ∧ KAt W X.1.p X.1.n X.2 ∧ X.1.n ≤ 17592186044416 := by
      intro i hi
      obtain ⟨cs', h1, h2⟩ := hel i (by omega)
      have hlen := (World.cells?_some h1).2.1
      obtain ⟨X, h3, h4⟩ := view_sa h2 hlen (fun y hy => hw y (by
        rw [hy0]
        simp only [DataW.weights, Tryd.underlying26]
        refine List.mem_cons_of_mem _ (List.mem_append_left _ ?_)
        exact mem_all (List.mem_map.2 ⟨i, List.mem_range.2 hi, rfl⟩) y hy))
      exact ⟨X, cs', h1, h3, h4⟩
    obtain ⟨N, hN⟩ := choose_lt hall
    refine ⟨some a, len, m, N, rfl, ⟨?_, fun j hj => (hN j hj).choose_spec.2.2.2⟩, by unfold reachBytes at hb; omega⟩
    rcases Nat.eq_zero_or_pos len with z | z
    · exact .inl z
    · obtain ⟨b, off, spot⟩ := a
      obtain ⟨cs0, e0, e1, _⟩ := hN 0 z
      have h0 := (World.cells?_some e0).2.2 0 (by decide)
      rw [e1] at h0
      have hspot : spot = none := by simpa [Addr.add] using World.cell?_spot h0
      subst hspot
      have hbl := World.block_lt_of_cell? _ _ h0
      have hcc : ∀ i, i < len → ∀ r, r < 3 → W.cell? ⟨b, off + i * 3 + r, none⟩ = ([.slice (N i).1.p (N i).1.n (N i).1.c, .int .u64 (N i).1.d, .int .u64 (N i).1.s] : List Value)[r]? := fun i hi r hr => by
        obtain ⟨cs', f0, f1, f2⟩ := hN i hi
        have hc := (World.cells?_some f0).2.2 r hr
        rw [f1] at hc
        simpa [addr_add, Nat.add_assoc] using hc
      exact .inr ⟨b, off, rfl, by simpa [Addr.add] using hbl, fun i hi => ⟨hcc i hi 0 (by decide), hcc i hi 1 (by decide), hcc i hi 2 (by decide)⟩, fun j hj => (hN j hj).choose_spec.2.2.1⟩
theorem view_ses {H : Type} {enc : TypeId × Value → H} {W : World} {fuel : Nat} {kv : Value} {x : DataW H × List MemPlace} (h : DataW.trod enc Tryd.prog W 0 (fun _ => true) true fuel 27 [kv] = some x) (hw : ∀ y ∈ x.1.weights Tryd.prog 27, y ≤ reachBytes) :
    ∃ (p : Option Addr) (n c : Nat) (X : Nat → Se), kv = .slice p n c ∧ (SIn W p n X ∧ ∀ j, j < n → SeOk (X j)) ∧ n * 48 ≤ 140737488351232 := by
  have k30 : Tryd.prog.cellsOf 41 = 6 := by kernel_rfl
  have inh : Inhabited Se := ⟨⟨0, 0, 0, 0, 0, 0⟩⟩
  rcases open_slice Tryd.underlying27 h with ⟨hcs, _⟩ | ⟨a, len, cap, m, n', D, Pl, hcs, _, hl, hm, hmm, hy0, hel⟩
  · simp at hcs
    subst hcs
    exact ⟨none, 0, 0, fun _ => default, rfl, ⟨.inl rfl, fun j hj => absurd hj (Nat.not_lt_zero _)⟩, by omega⟩
  · simp at hcs
    subst hcs
    simp only [if_true] at hmm
    subst hmm
    rw [k30] at hel
    have hb : len * 48 ≤ reachBytes := by
      have := hw ((len + (m - len)) * 48) (by
        rw [hy0]
        simp only [DataW.weights, Tryd.underlying27]
        rw [show Tryd.prog.bytesOf 41 = 48 from by kernel_rfl]
        simp)
      have e : len + (m - len) = m := by omega
      rw [e] at this
      omega
    have hall : ∀ i, i < len → ∃ X : Se, ∃ cs', W.cells? 0 (a.add (i * 6)) 6 = some cs' ∧ cs' = [.int .u64 X.t, .int .i64 X.s, .int .u64 X.q, .int .i64 X.d, .int .i64 X.k, .int .i64 X.v] ∧ SeOk X := by
      intro i hi
      obtain ⟨cs', h1, h2⟩ := hel i (by omega)
      have hlen := (World.cells?_some h1).2.1
      obtain ⟨X, h3, h4⟩ := view_se h2 hlen (fun y hy => hw y (by
        rw [hy0]
        simp only [DataW.weights, Tryd.underlying27]
        refine List.mem_cons_of_mem _ (List.mem_append_left _ ?_)
        exact mem_all (List.mem_map.2 ⟨i, List.mem_range.2 hi, rfl⟩) y hy))
      exact ⟨X, cs', h1, h3, h4⟩
    obtain ⟨N, hN⟩ := choose_lt hall
    refine ⟨some a, len, m, N, rfl, ⟨?_, fun j hj => (hN j hj).choose_spec.2.2⟩, by unfold reachBytes at hb; omega⟩
    rcases Nat.eq_zero_or_pos len with z | z
    · exact .inl z
    · obtain ⟨b, off, spot⟩ := a
      obtain ⟨cs0, e0, e1, _⟩ := hN 0 z
      have h0 := (World.cells?_some e0).2.2 0 (by decide)
      rw [e1] at h0
      have hspot : spot = none := by simpa [Addr.add] using World.cell?_spot h0
      subst hspot
      have hbl := World.block_lt_of_cell? _ _ h0
      have hcc : ∀ i, i < len → ∀ r, r < 6 → W.cell? ⟨b, off + i * 6 + r, none⟩ = ([.int .u64 (N i).t, .int .i64 (N i).s, .int .u64 (N i).q, .int .i64 (N i).d, .int .i64 (N i).k, .int .i64 (N i).v] : List Value)[r]? := fun i hi r hr => by
        obtain ⟨cs', f0, f1, f2⟩ := hN i hi
        have hc := (World.cells?_some f0).2.2 r hr
        rw [f1] at hc
        simpa [addr_add, Nat.add_assoc] using hc
      refine .inr ⟨b, off, rfl, by simpa [Addr.add] using hbl, fun j hj => ?_⟩
      have h9 := hcc (j / 6) (by omega) (j % 6) (Nat.mod_lt _ (by decide))
      rw [show off + j / 6 * 6 + j % 6 = off + j by omega] at h9
      rw [h9]
      unfold seF seC seL
      have hr := Nat.mod_lt j (show 0 < 6 by decide)
      generalize j % 6 = r at hr ⊢
      match r, hr with
      | 0, _ => rfl
      | 1, _ => rfl
      | 2, _ => rfl
      | 3, _ => rfl
      | 4, _ => rfl
      | 5, _ => rfl
theorem lst8k {α : Type} {l : List α} (h : l.length = 8) : ∃ a b c d e f g i, l = [a, b, c, d, e, f, g, i] := by
  match l, h with
  | [a, b, c, d, e, f, g, i], _ => exact ⟨a, b, c, d, e, f, g, i, rfl⟩
theorem view_res {H : Type} {enc : TypeId × Value → H} {W : World} {base : Nat} {v : Value} {d : DataW H} {pl : List MemPlace}
    (hval : Value.okWide Tryd.prog W .any base 29 v) (h : DataW.Trod enc Tryd.prog W 0 (fun _ => true) true 29 v d pl) (hw : ∀ y ∈ d.weights Tryd.prog 29, y ≤ reachBytes) :
    ∃ (k c a0 a1 a2 m : Int) (q x : Option Addr) (n cq nx cx : Nat) (A : Nat → Sa) (K : Nat → Nat → Int) (X : Nat → Se), v = .agg #[.int .i64 k, .int .i64 c, .int .u64 a0, .int .i64 a1, .int .u64 a2, .int .i64 m, .slice q n cq, .slice x nx cx] ∧ ((-9223372036854775808 ≤ k ∧ k < 9223372036854775808) ∧ (-9223372036854775808 ≤ c ∧ c < 9223372036854775808) ∧ (0 ≤ a0 ∧ a0 < 18446744073709551616) ∧ (-9223372036854775808 ≤ a1 ∧ a1 < 9223372036854775808) ∧ (0 ≤ a2 ∧ a2 < 18446744073709551616) ∧ (-9223372036854775808 ≤ m ∧ m < 9223372036854775808)) ∧ (∀ j, j < nx → SeOk (X j)) ∧ n * 40 ≤ 140737488355328 ∧ (∀ j, j < n → (A j).n ≤ 17592186044416) ∧ nx ≤ 2932031007402 ∧ SsAt W q n A K ∧ SIn W x nx X := by
  obtain ⟨cs, rfl, hsz⟩ := okWide_struct Tryd.underlying29 hval
  rw [show Tryd.prog.cellsOf 29 = 8 from by kernel_rfl] at hsz
  obtain ⟨fuel, hf⟩ := h
  obtain ⟨l, rfl⟩ : ∃ l : List Value, cs = l.toArray := ⟨cs.toList, by simp⟩
  obtain ⟨c0, c1, c2, c3, c4, c5, c6, c7, rfl⟩ := lst8k (by simpa using hsz)
  obtain ⟨xs, n, _, hx0, _, hxl, hx⟩ := DataW.trod_struct Tryd.underlying29 hf
  obtain ⟨y0, y1, y2, y3, y4, y5, rfl⟩ := lst6 (by simpa using hxl)
  have k3 : Tryd.prog.cellsOf 3 = 1 := by kernel_rfl
  have k8 : Tryd.prog.cellsOf 23 = 1 := by kernel_rfl
  have k5 : Tryd.prog.cellsOf 25 = 3 := by kernel_rfl
  have ke : Tryd.prog.cellsOf 22 = 1 := by kernel_rfl
  have ks : Tryd.prog.cellsOf 26 = 1 := by kernel_rfl
  have kv : Tryd.prog.cellsOf 27 = 1 := by kernel_rfl
  have g0 := hx 0 _ rfl
  have g1 := hx 1 _ rfl
  have g2 := hx 2 _ rfl
  have g3 := hx 3 _ rfl
  have g4 := hx 4 _ rfl
  have g5 := hx 5 _ rfl
  simp [Value.cells, k3, k8, k5, ke, ks, kv] at g0 g1 g2 g3 g4 g5
  simp only [Prod.mk.injEq] at hx0
  obtain ⟨x0, s0, _, w0⟩ := DataW.trod_int Tryd.underlying3 g0
  obtain ⟨x1, s1, _, w1⟩ := DataW.trod_int Tryd.underlying22 g1
  obtain ⟨x3, s3, _, w3⟩ := DataW.trod_int Tryd.underlying3 g3
  obtain ⟨xs', n', _, hx0', _, hxl', hx'⟩ := DataW.trod_struct Tryd.underlying25 g2
  obtain ⟨z0, z1, z2, rfl⟩ := lst3 (by simpa using hxl')
  have f0 := hx' 0 _ rfl
  have f1 := hx' 1 _ rfl
  have f2 := hx' 2 _ rfl
  simp [k3, k8] at f0 f1 f2
  obtain ⟨b0, r0, _, u0⟩ := DataW.trod_int Tryd.underlying23 f0
  obtain ⟨b1, r1, _, u1⟩ := DataW.trod_int Tryd.underlying3 f1
  obtain ⟨b2, r2, _, u2⟩ := DataW.trod_int Tryd.underlying23 f2
  obtain ⟨p1, n1, e1, X1, s4, ⟨hp, hpr⟩, hn1⟩ := view_sas g4 (fun y hy => hw y (by
    rw [hx0.1]
    simp only [DataW.weights, Tryd.underlying29]
    refine DataW.weights_mem_each (j := 4) (t := 26) (d := y4.1) ?_ rfl y hy
    kernel_rfl))
  obtain ⟨p2, n2, e2, X2, s5, ⟨ht, hok⟩, hn2⟩ := view_ses g5 (fun y hy => hw y (by
    rw [hx0.1]
    simp only [DataW.weights, Tryd.underlying29]
    refine DataW.weights_mem_each (j := 5) (t := 27) (d := y5.1) ?_ rfl y hy
    kernel_rfl))
  simp at s0 s1 s3 r0 r1 r2
  subst s0 s1 s3 s4 s5 r0 r1 r2
  exact ⟨x0, x1, b0, b1, b2, x3, p1, p2, n1, e1, n2, e2, fun j => (X1 j).1, fun j => (X1 j).2, X2, rfl, ⟨wf_i64 w0, wf_i64 w1, wf_u64 u0, wf_i64 u1, wf_u64 u2, wf_i64 w3⟩, hok, by omega, hpr, by omega, hp, ht⟩
end Go.Proofs.YtijkokckdbhkcaaDoor
