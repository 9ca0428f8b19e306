import Derived.Test.YtpicobmilcbmlaaKR1
import Derived.Test.YtpicobmilcbmlaaSV9
namespace Go.Proofs.Ytpicobmilcbmlaa
open Go.ChangeShapes Go.WideShapes Go.ChangeAt Go.RowKit Go.Deep
set_option linter.unusedVariables false
set_option linter.unusedSimpArgs false

set_option maxRecDepth 100000
structure Se where
  t : Int
  s : Int
  q : Int
  d : Int
  k : Int
  v : Int
def seL (e : Se) : List Value := [.int .u64 e.t, .int .i64 e.s, .int .u64 e.q, .int .i64 e.d, .int .i64 e.k, .int .i64 e.v]
def seC (e : Se) (r : Nat) : Value := (seL e).getD r undef
def seF (c : Nat → Se) (j : Nat) : Value := seC (c (j / 6)) (j % 6)
theorem seF_at (c : Nat → Se) (i r : Nat) (h : r < 6) : seF c (i * 6 + r) = seC (c i) r := by
  unfold seF
  rw [show (i * 6 + r) / 6 = i by omega, show (i * 6 + r) % 6 = r by omega]
theorem seF_one (X : Nat → Se) (j : Nat) : (seF X j).oneCell' = true := by
  unfold seF seC seL
  have hr := Nat.mod_lt j (show 0 < 6 by decide)
  generalize j % 6 = r at hr ⊢
  match r, hr with
  | 0, _ => rfl
  | 1, _ => rfl
  | 2, _ => rfl
  | 3, _ => rfl
  | 4, _ => rfl
  | 5, _ => rfl
def SIn (W : World) (p : Option Addr) (m : Nat) (X : Nat → Se) : Prop := CIn W p m 6 (seF X)
theorem lst6 {α : Type} {l : List α} (h : l.length = 6) : ∃ a b c d e f, l = [a, b, c, d, e, f] := by
  match l, h with
  | [a, b, c, d, e, f], _ => exact ⟨a, b, c, d, e, f, rfl⟩
theorem view_sa {H : Type} {enc : TypeId × Value → H} {W : World} {fuel : Nat} {cs : List Value} {x : DataW H × List MemPlace} (h : DataW.trod enc Try.prog W 0 (fun _ => true) true fuel 84 cs = some x) (hl : cs.length = 3) (hw : ∀ y ∈ x.1.weights Try.prog 84, y ≤ reachBytes) :
    ∃ X : Sa × (Nat → Int), cs = [.slice X.1.p X.1.n X.1.c, .int .u64 X.1.d, .int .u64 X.1.s] ∧ KAt W X.1.p X.1.n X.2 ∧ X.1.n ≤ 17592186044416 := by
  obtain ⟨c0, c1, c2, rfl⟩ := lst3 hl
  obtain ⟨xs, n, _, hx0, _, hxl, hx⟩ := DataW.trod_struct Try.underlying84 h
  obtain ⟨y0, y1, y2, rfl⟩ := lst3 (by simpa using hxl)
  have k8 : Try.prog.cellsOf 23 = 1 := by kernel_rfl
  have k23 : Try.prog.cellsOf 76 = 1 := by kernel_rfl
  have g0 := hx 0 _ rfl
  have g1 := hx 1 _ rfl
  have g2 := hx 2 _ rfl
  simp [k8, k23] at g0 g1 g2
  obtain ⟨x1, s1, _, w1⟩ := DataW.trod_int Try.underlying23 g1
  obtain ⟨x2, s2, _, w2⟩ := DataW.trod_int Try.underlying23 g2
  obtain ⟨q, m2, e, K, s0, hk, hm⟩ := view_wds g0 (fun y hy => hw y (by
    rw [hx0]
    simp only [DataW.weights, Try.underlying84]
    refine DataW.weights_mem_each (j := 0) (t := 76) (d := y0.1) ?_ rfl y hy
    kernel_rfl))
  simp at s1 s2
  subst s0 s1 s2
  exact ⟨(⟨q, m2, e, x1, x2⟩, K), rfl, hk, hm⟩
theorem view_se {H : Type} {enc : TypeId × Value → H} {W : World} {fuel : Nat} {cs : List Value} {x : DataW H × List MemPlace} (h : DataW.trod enc Try.prog W 0 (fun _ => true) true fuel 142 cs = some x) (hl : cs.length = 6) (hw : ∀ y ∈ x.1.weights Try.prog 142, y ≤ reachBytes) :
    ∃ X : Se, cs = [.int .u64 X.t, .int .i64 X.s, .int .u64 X.q, .int .i64 X.d, .int .i64 X.k, .int .i64 X.v] ∧ True := by
  obtain ⟨c0, c1, c2, c3, c4, c5, rfl⟩ := lst6 hl
  obtain ⟨xs, n, _, hx0, _, hxl, hx⟩ := DataW.trod_struct Try.underlying142 h
  obtain ⟨y0, y1, y2, y3, rfl⟩ := lst4 (by simpa using hxl)
  have k3 : Try.prog.cellsOf 3 = 1 := by kernel_rfl
  have k8 : Try.prog.cellsOf 23 = 1 := by kernel_rfl
  have k6 : Try.prog.cellsOf 2 = 1 := by kernel_rfl
  have k5 : Try.prog.cellsOf 25 = 3 := by kernel_rfl
  have g0 := hx 0 _ rfl
  have g1 := hx 1 _ rfl
  have g2 := hx 2 _ rfl
  have g3 := hx 3 _ rfl
  simp [k3, k6, k5] at g0 g1 g2 g3
  obtain ⟨xs', n', _, hx0', _, hxl', hx'⟩ := DataW.trod_struct Try.underlying25 g0
  obtain ⟨z0, z1, z2, rfl⟩ := lst3 (by simpa using hxl')
  have f0 := hx' 0 _ rfl
  have f1 := hx' 1 _ rfl
  have f2 := hx' 2 _ rfl
  simp [k3, k8] at f0 f1 f2
  obtain ⟨x0, s0, _, w0⟩ := DataW.trod_int Try.underlying23 f0
  obtain ⟨x1, s1, _, w1⟩ := DataW.trod_int Try.underlying3 f1
  obtain ⟨x2, s2, _, w2⟩ := DataW.trod_int Try.underlying23 f2
  obtain ⟨x3, s3, _, w3⟩ := DataW.trod_int Try.underlying3 g1
  obtain ⟨x4, s4, _, w4⟩ := DataW.trod_int Try.underlying3 g2
  obtain ⟨x5, s5, _, w5⟩ := DataW.trod_int Try.underlying2 g3
  simp at s0 s1 s2 s3 s4 s5
  subst s0 s1 s2 s3 s4 s5
  exact ⟨⟨x0, x1, x2, x3, x4, x5⟩, rfl, trivial⟩
theorem view_sas {H : Type} {enc : TypeId × Value → H} {W : World} {fuel : Nat} {kv : Value} {x : DataW H × List MemPlace} (h : DataW.trod enc Try.prog W 0 (fun _ => true) true fuel 26 [kv] = some x) (hw : ∀ y ∈ x.1.weights Try.prog 26, y ≤ reachBytes) :
    ∃ (p : Option Addr) (n c : Nat) (X : Nat → Sa × (Nat → Int)), kv = .slice p n c ∧ (SsAt W p n (fun j => (X j).1) (fun j => (X j).2) ∧ ∀ j, j < n → (X j).1.n ≤ 17592186044416) ∧ n * 40 ≤ 140737488351232 := by
  have k30 : Try.prog.cellsOf 84 = 3 := by kernel_rfl
  have inh : Inhabited (Sa × (Nat → Int)) := ⟨(⟨none, 0, 0, 0, 0⟩, fun _ => 0)⟩
  rcases open_slice Try.underlying26 h with ⟨hcs, _⟩ | ⟨a, len, cap, m, n', D, Pl, hcs, _, hl, hm, hmm, hy0, hel⟩
  · simp at hcs
    subst hcs
    exact ⟨none, 0, 0, fun _ => default, rfl, ⟨.inl rfl, fun j hj => absurd hj (Nat.not_lt_zero _)⟩, by omega⟩
  · simp at hcs
    subst hcs
    simp only [if_true] at hmm
    subst hmm
    rw [k30] at hel
    have hb : len * 40 ≤ reachBytes := by
      have := hw ((len + (m - len)) * 40) (by
        rw [hy0]
        simp only [DataW.weights, Try.underlying26]
        rw [show Try.prog.bytesOf 84 = 40 from by kernel_rfl]
        simp)
      have e : len + (m - len) = m := by omega
      rw [e] at this
      omega
    have hall : ∀ i, i < len → ∃ X : Sa × (Nat → Int), ∃ cs', W.cells? 0 (a.add (i * 3)) 3 = some cs' ∧ cs' = [.slice X.1.p X.1.n X.1.c, .int .u64 X.1.d, .int .u64 X.1.s] ∧ KAt W X.1.p X.1.n X.2 ∧ X.1.n ≤ 17592186044416 := by
      intro i hi
      obtain ⟨cs', h1, h2⟩ := hel i (by omega)
      have hlen := (World.cells?_some h1).2.1
      obtain ⟨X, h3, h4⟩ := view_sa h2 hlen (fun y hy => hw y (by
        rw [hy0]
        simp only [DataW.weights, Try.underlying26]
        refine List.mem_cons_of_mem _ (List.mem_append_left _ ?_)
        exact mem_all (List.mem_map.2 ⟨i, List.mem_range.2 hi, rfl⟩) y hy))
      exact ⟨X, cs', h1, h3, h4⟩
    obtain ⟨N, hN⟩ := choose_lt hall
    refine ⟨some a, len, m, N, rfl, ⟨?_, fun j hj => (hN j hj).choose_spec.2.2.2⟩, by unfold reachBytes at hb; omega⟩
    rcases Nat.eq_zero_or_pos len with z | z
    · exact .inl z
    · obtain ⟨b, off, spot⟩ := a
      obtain ⟨cs0, e0, e1, _⟩ := hN 0 z
      have h0 := (World.cells?_some e0).2.2 0 (by decide)
      rw [e1] at h0
      have hspot : spot = none := by simpa [Addr.add] using World.cell?_spot h0
      subst hspot
      have hbl := World.block_lt_of_cell? _ _ h0
      have hcc : ∀ i, i < len → ∀ r, r < 3 → W.cell? ⟨b, off + i * 3 + r, none⟩ = ([.slice (N i).1.p (N i).1.n (N i).1.c, .int .u64 (N i).1.d, .int .u64 (N i).1.s] : List Value)[r]? := fun i hi r hr => by
        obtain ⟨cs', f0, f1, f2⟩ := hN i hi
        have hc := (World.cells?_some f0).2.2 r hr
        rw [f1] at hc
        simpa [addr_add, Nat.add_assoc] using hc
      exact .inr ⟨b, off, rfl, by simpa [Addr.add] using hbl, fun i hi => ⟨hcc i hi 0 (by decide), hcc i hi 1 (by decide), hcc i hi 2 (by decide)⟩, fun j hj => (hN j hj).choose_spec.2.2.1⟩
theorem view_ses {H : Type} {enc : TypeId × Value → H} {W : World} {fuel : Nat} {kv : Value} {x : DataW H × List MemPlace} (h : DataW.trod enc Try.prog W 0 (fun _ => true) true fuel 27 [kv] = some x) (hw : ∀ y ∈ x.1.weights Try.prog 27, y ≤ reachBytes) :
    ∃ (p : Option Addr) (n c : Nat) (X : Nat → Se), kv = .slice p n c ∧ SIn W p n X ∧ n * 48 ≤ 140737488351232 := by
  have k30 : Try.prog.cellsOf 142 = 6 := by kernel_rfl
  have inh : Inhabited Se := ⟨⟨0, 0, 0, 0, 0, 0⟩⟩
  rcases open_slice Try.underlying27 h with ⟨hcs, _⟩ | ⟨a, len, cap, m, n', D, Pl, hcs, _, hl, hm, hmm, hy0, hel⟩
  · simp at hcs
    subst hcs
    exact ⟨none, 0, 0, fun _ => default, rfl, .inl rfl, by omega⟩
  · simp at hcs
    subst hcs
    simp only [if_true] at hmm
    subst hmm
    rw [k30] at hel
    have hb : len * 48 ≤ reachBytes := by
      have := hw ((len + (m - len)) * 48) (by
        rw [hy0]
        simp only [DataW.weights, Try.underlying27]
        rw [show Try.prog.bytesOf 142 = 48 from by kernel_rfl]
        simp)
      have e : len + (m - len) = m := by omega
      rw [e] at this
      omega
    have hall : ∀ i, i < len → ∃ X : Se, ∃ cs', W.cells? 0 (a.add (i * 6)) 6 = some cs' ∧ cs' = [.int .u64 X.t, .int .i64 X.s, .int .u64 X.q, .int .i64 X.d, .int .i64 X.k, .int .i64 X.v] ∧ True := by
      intro i hi
      obtain ⟨cs', h1, h2⟩ := hel i (by omega)
      have hlen := (World.cells?_some h1).2.1
      obtain ⟨X, h3, h4⟩ := view_se h2 hlen (fun y hy => hw y (by
        rw [hy0]
        simp only [DataW.weights, Try.underlying27]
        refine List.mem_cons_of_mem _ (List.mem_append_left _ ?_)
        exact mem_all (List.mem_map.2 ⟨i, List.mem_range.2 hi, rfl⟩) y hy))
      exact ⟨X, cs', h1, h3, h4⟩
    obtain ⟨N, hN⟩ := choose_lt hall
    refine ⟨some a, len, m, N, rfl, ?_, by unfold reachBytes at hb; omega⟩
    rcases Nat.eq_zero_or_pos len with z | z
    · exact .inl z
    · obtain ⟨b, off, spot⟩ := a
      obtain ⟨cs0, e0, e1, _⟩ := hN 0 z
      have h0 := (World.cells?_some e0).2.2 0 (by decide)
      rw [e1] at h0
      have hspot : spot = none := by simpa [Addr.add] using World.cell?_spot h0
      subst hspot
      have hbl := World.block_lt_of_cell? _ _ h0
      have hcc : ∀ i, i < len → ∀ r, r < 6 → W.cell? ⟨b, off + i * 6 + r, none⟩ = ([.int .u64 (N i).t, .int .i64 (N i).s, .int .u64 (N i).q, .int .i64 (N i).d, .int .i64 (N i).k, .int .i64 (N i).v] : List Value)[r]? := fun i hi r hr => by
        obtain ⟨cs', f0, f1, f2⟩ := hN i hi
        have hc := (World.cells?_some f0).2.2 r hr
        rw [f1] at hc
        simpa [addr_add, Nat.add_assoc] using hc
      refine .inr ⟨b, off, rfl, by simpa [Addr.add] using hbl, fun j hj => ?_⟩
      have h9 := hcc (j / 6) (by omega) (j % 6) (Nat.mod_lt _ (by decide))
      rw [show off + j / 6 * 6 + j % 6 = off + j by omega] at h9
      rw [h9]
      unfold seF seC seL
      have hr := Nat.mod_lt j (show 0 < 6 by decide)
      generalize j % 6 = r at hr ⊢
      match r, hr with
      | 0, _ => rfl
      | 1, _ => rfl
      | 2, _ => rfl
      | 3, _ => rfl
      | 4, _ => rfl
      | 5, _ => rfl
theorem lst8k {α : Type} {l : List α} (h : l.length = 8) : ∃ a b c d e f g i, l = [a, b, c, d, e, f, g, i] := by
  match l, h with
  | [a, b, c, d, e, f, g, i], _ => exact ⟨a, b, c, d, e, f, g, i, rfl⟩
theorem view_res {H : Type} {enc : TypeId × Value → H} {W : World} {base : Nat} {v : Value} {d : DataW H} {pl : List MemPlace}
    (hval : Value.okWide Try.prog W .any base 29 v) (h : DataW.Trod enc Try.prog W 0 (fun _ => true) true 29 v d pl) (hw : ∀ y ∈ d.weights Try.prog 29, y ≤ reachBytes) :
    ∃ (k c a0 a1 a2 m : Int) (q x : Option Addr) (n cq nx cx : Nat) (A : Nat → Sa) (K : Nat → Nat → Int) (X : Nat → Value), v = .agg #[.int .i64 k, .int .i64 c, .int .u64 a0, .int .i64 a1, .int .u64 a2, .int .i64 m, .slice q n cq, .slice x nx cx] ∧ (∀ j, (X j).oneCell' = true) ∧ n * 40 ≤ 140737488355328 ∧ (∀ j, j < n → (A j).n ≤ 17592186044416) ∧ nx ≤ 2932031007402 ∧ SsAt W q n A K ∧ CIn W x nx 6 X := by
  obtain ⟨cs, rfl, hsz⟩ := okWide_struct Try.underlying29 hval
  rw [show Try.prog.cellsOf 29 = 8 from by kernel_rfl] at hsz
  obtain ⟨fuel, hf⟩ := h
  obtain ⟨l, rfl⟩ : ∃ l : List Value, cs = l.toArray := ⟨cs.toList, by simp⟩
  obtain ⟨c0, c1, c2, c3, c4, c5, c6, c7, rfl⟩ := lst8k (by simpa using hsz)
  obtain ⟨xs, n, _, hx0, _, hxl, hx⟩ := DataW.trod_struct Try.underlying29 hf
  obtain ⟨y0, y1, y2, y3, y4, y5, rfl⟩ := lst6 (by simpa using hxl)
  have k3 : Try.prog.cellsOf 3 = 1 := by kernel_rfl
  have k8 : Try.prog.cellsOf 23 = 1 := by kernel_rfl
  have k5 : Try.prog.cellsOf 25 = 3 := by kernel_rfl
  have ke : Try.prog.cellsOf 22 = 1 := by kernel_rfl
  have ks : Try.prog.cellsOf 26 = 1 := by kernel_rfl
  have kv : Try.prog.cellsOf 27 = 1 := by kernel_rfl
  have g0 := hx 0 _ rfl
  have g1 := hx 1 _ rfl
  have g2 := hx 2 _ rfl
  have g3 := hx 3 _ rfl
  have g4 := hx 4 _ rfl
  have g5 := hx 5 _ rfl
  simp [Value.cells, k3, k8, k5, ke, ks, kv] at g0 g1 g2 g3 g4 g5
  simp only [Prod.mk.injEq] at hx0
  obtain ⟨x0, s0, _, w0⟩ := DataW.trod_int Try.underlying3 g0
  obtain ⟨x1, s1, _, w1⟩ := DataW.trod_int Try.underlying22 g1
  obtain ⟨x3, s3, _, w3⟩ := DataW.trod_int Try.underlying3 g3
  obtain ⟨xs', n', _, hx0', _, hxl', hx'⟩ := DataW.trod_struct Try.underlying25 g2
  obtain ⟨z0, z1, z2, rfl⟩ := lst3 (by simpa using hxl')
  have f0 := hx' 0 _ rfl
  have f1 := hx' 1 _ rfl
  have f2 := hx' 2 _ rfl
  simp [k3, k8] at f0 f1 f2
  obtain ⟨b0, r0, _, u0⟩ := DataW.trod_int Try.underlying23 f0
  obtain ⟨b1, r1, _, u1⟩ := DataW.trod_int Try.underlying3 f1
  obtain ⟨b2, r2, _, u2⟩ := DataW.trod_int Try.underlying23 f2
  obtain ⟨p1, n1, e1, X1, s4, ⟨hp, hpr⟩, hn1⟩ := view_sas g4 (fun y hy => hw y (by
    rw [hx0.1]
    simp only [DataW.weights, Try.underlying29]
    refine DataW.weights_mem_each (j := 4) (t := 26) (d := y4.1) ?_ rfl y hy
    kernel_rfl))
  obtain ⟨p2, n2, e2, X2, s5, ht, hn2⟩ := view_ses g5 (fun y hy => hw y (by
    rw [hx0.1]
    simp only [DataW.weights, Try.underlying29]
    refine DataW.weights_mem_each (j := 5) (t := 27) (d := y5.1) ?_ rfl y hy
    kernel_rfl))
  simp at s0 s1 s3 r0 r1 r2
  subst s0 s1 s3 s4 s5 r0 r1 r2
  exact ⟨x0, x1, b0, b1, b2, x3, p1, p2, n1, e1, n2, e2, fun j => (X1 j).1, fun j => (X1 j).2, seF X2, rfl, seF_one X2, by omega, hpr, by omega, hp, ht⟩
end Go.Proofs.Ytpicobmilcbmlaa
