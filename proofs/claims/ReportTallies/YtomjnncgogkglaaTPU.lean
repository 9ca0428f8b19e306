import Derived.Test.YtomjnncgogkglaaRows
import Derived.Test.YtomjnncgogkglaaTP2
import Derived.Test.YtomjnncgogkglaaTPT3
import Derived.Deep.Slices
import Derived.SizedLaws
namespace Go.Proofs.Ytomjnncgogkglaa
open Go.ChangeShapes Go.WideShapes Go.ChangeAt Go.RowKit Go.Deep
set_option linter.unusedVariables false
set_option linter.unusedSimpArgs false
set_option maxRecDepth 100000

theorem bulk_posO {H : Type} (d : DataW H) : 1 ≤ Rows.uptoBulk d := by
  unfold Rows.uptoBulk
  split <;> omega
theorem bulk_lenO {H : Type} : ∀ l : List (DataW H), l.length ≤ Rows.uptoBulkAll l
  | [] => Nat.zero_le _
  | d :: r => by
    have := bulk_posO d
    have := bulk_lenO r
    simp only [List.length_cons, Rows.uptoBulkAll]
    omega
theorem view_sesU {H : Type} {enc : TypeId × Value → H} {W : World} {fuel : Nat} {kv : Value} {x : DataW H × List MemPlace} (h : DataW.trod enc Try.prog W 0 (fun _ => true) true fuel 27 [kv] = some x) (hw : ∀ y ∈ x.1.weights Try.prog 27, y ≤ reachBytes) :
    ∃ (p : Option Addr) (n c : Nat) (X : Nat → Se), kv = .slice p n c ∧ (SIn W p n X ∧ ∀ j, j < n → SeOk (X j)) ∧ n * 48 ≤ 140737488351232 ∧ n ≤ Rows.uptoBulk x.1 := by
  have k30 : Try.prog.cellsOf 67 = 6 := by kernel_rfl
  have inh : Inhabited Se := ⟨⟨0, 0, 0, 0, 0, 0⟩⟩
  rcases open_slice Try.underlying27 h with ⟨hcs, _⟩ | ⟨a, len, cap, m, n', D, Pl, hcs, _, hl, hm, hmm, hy0, hel⟩
  · simp at hcs
    subst hcs
    exact ⟨none, 0, 0, fun _ => default, rfl, ⟨.inl rfl, fun j hj => absurd hj (Nat.not_lt_zero _)⟩, by omega, Nat.zero_le _⟩
  · simp at hcs
    subst hcs
    simp only [if_true] at hmm
    subst hmm
    rw [k30] at hel
    have hb : len * 48 ≤ reachBytes := by
      have := hw ((len + (m - len)) * 48) (by
        rw [hy0]
        simp only [DataW.weights, Try.underlying27]
        rw [show Try.prog.bytesOf 67 = 48 from by kernel_rfl]
        simp)
      have e : len + (m - len) = m := by omega
      rw [e] at this
      omega
    have hbk : len ≤ Rows.uptoBulk x.1 := by
      rw [hy0]
      unfold Rows.uptoBulk
      have := bulk_lenO ((List.range len).map D)
      simp only [List.length_map, List.length_range] at this
      omega
    have hall : ∀ i, i < len → ∃ X : Se, ∃ cs', W.cells? 0 (a.add (i * 6)) 6 = some cs' ∧ cs' = [.int .u64 X.t, .int .i64 X.s, .int .u64 X.q, .int .i64 X.d, .int .i64 X.k, .int .i64 X.v] ∧ SeOk X := by
      intro i hi
      obtain ⟨cs', h1, h2⟩ := hel i (by omega)
      have hlen := (World.cells?_some h1).2.1
      obtain ⟨X, h3, h4⟩ := view_se h2 hlen (fun y hy => hw y (by
        rw [hy0]
        simp only [DataW.weights, Try.underlying27]
        refine List.mem_cons_of_mem _ (List.mem_append_left _ ?_)
        exact mem_all (List.mem_map.2 ⟨i, List.mem_range.2 hi, rfl⟩) y hy))
      exact ⟨X, cs', h1, h3, h4⟩
    obtain ⟨N, hN⟩ := choose_lt hall
    refine ⟨some a, len, m, N, rfl, ⟨?_, fun j hj => (hN j hj).choose_spec.2.2⟩, by unfold reachBytes at hb; omega, hbk⟩
    rcases Nat.eq_zero_or_pos len with z | z
    · exact .inl z
    · obtain ⟨b, off, spot⟩ := a
      obtain ⟨cs0, e0, e1, _⟩ := hN 0 z
      have h0 := (World.cells?_some e0).2.2 0 (by decide)
      rw [e1] at h0
      have hspot : spot = none := by simpa [Addr.add] using World.cell?_spot h0
      subst hspot
      have hbl := World.block_lt_of_cell? _ _ h0
      have hcc : ∀ i, i < len → ∀ r, r < 6 → W.cell? ⟨b, off + i * 6 + r, none⟩ = ([.int .u64 (N i).t, .int .i64 (N i).s, .int .u64 (N i).q, .int .i64 (N i).d, .int .i64 (N i).k, .int .i64 (N i).v] : List Value)[r]? := fun i hi r hr => by
        obtain ⟨cs', f0, f1, f2⟩ := hN i hi
        have hc := (World.cells?_some f0).2.2 r hr
        rw [f1] at hc
        simpa [addr_add, Nat.add_assoc] using hc
      refine .inr ⟨b, off, rfl, by simpa [Addr.add] using hbl, fun j hj => ?_⟩
      have h9 := hcc (j / 6) (by omega) (j % 6) (Nat.mod_lt _ (by decide))
      rw [show off + j / 6 * 6 + j % 6 = off + j by omega] at h9
      rw [h9]
      unfold seF seC seL
      have hr := Nat.mod_lt j (show 0 < 6 by decide)
      generalize j % 6 = r at hr ⊢
      match r, hr with
      | 0, _ => rfl
      | 1, _ => rfl
      | 2, _ => rfl
      | 3, _ => rfl
      | 4, _ => rfl
      | 5, _ => rfl
theorem view_resU {H : Type} {enc : TypeId × Value → H} {W : World} {base : Nat} {v : Value} {d : DataW H} {pl : List MemPlace}
    (hval : Value.okWide Try.prog W .any base 29 v) (h : DataW.Trod enc Try.prog W 0 (fun _ => true) true 29 v d pl) (hw : ∀ y ∈ d.weights Try.prog 29, y ≤ reachBytes) (hbk : Rows.uptoBulk d ≤ 1048576) :
    ∃ (k c a0 a1 a2 m : Int) (q x : Option Addr) (n cq nx cx : Nat) (A : Nat → Sa) (K : Nat → Nat → Int) (X : Nat → Se), v = .agg #[.int .i64 k, .int .i64 c, .int .u64 a0, .int .i64 a1, .int .u64 a2, .int .i64 m, .slice q n cq, .slice x nx cx] ∧ ((-9223372036854775808 ≤ k ∧ k < 9223372036854775808) ∧ (-9223372036854775808 ≤ c ∧ c < 9223372036854775808) ∧ (0 ≤ a0 ∧ a0 < 18446744073709551616) ∧ (-9223372036854775808 ≤ a1 ∧ a1 < 9223372036854775808) ∧ (0 ≤ a2 ∧ a2 < 18446744073709551616) ∧ (-9223372036854775808 ≤ m ∧ m < 9223372036854775808)) ∧ (∀ j, j < nx → SeOk (X j)) ∧ n * 40 ≤ 140737488355328 ∧ (∀ j, j < n → (A j).n ≤ 17592186044416) ∧ nx ≤ 1048576 ∧ SsAt W q n A K ∧ SIn W x nx X := by
  obtain ⟨cs, rfl, hsz⟩ := okWide_struct Try.underlying29 hval
  rw [show Try.prog.cellsOf 29 = 8 from by kernel_rfl] at hsz
  obtain ⟨fuel, hf⟩ := h
  obtain ⟨l, rfl⟩ : ∃ l : List Value, cs = l.toArray := ⟨cs.toList, by simp⟩
  obtain ⟨c0, c1, c2, c3, c4, c5, c6, c7, rfl⟩ := lst8k (by simpa using hsz)
  obtain ⟨xs, n, _, hx0, _, hxl, hx⟩ := DataW.trod_struct Try.underlying29 hf
  obtain ⟨y0, y1, y2, y3, y4, y5, rfl⟩ := lst6 (by simpa using hxl)
  have k3 : Try.prog.cellsOf 3 = 1 := by kernel_rfl
  have k8 : Try.prog.cellsOf 23 = 1 := by kernel_rfl
  have k5 : Try.prog.cellsOf 25 = 3 := by kernel_rfl
  have ke : Try.prog.cellsOf 22 = 1 := by kernel_rfl
  have ks : Try.prog.cellsOf 26 = 1 := by kernel_rfl
  have kv : Try.prog.cellsOf 27 = 1 := by kernel_rfl
  have g0 := hx 0 _ rfl
  have g1 := hx 1 _ rfl
  have g2 := hx 2 _ rfl
  have g3 := hx 3 _ rfl
  have g4 := hx 4 _ rfl
  have g5 := hx 5 _ rfl
  simp [Value.cells, k3, k8, k5, ke, ks, kv] at g0 g1 g2 g3 g4 g5
  simp only [Prod.mk.injEq] at hx0
  obtain ⟨x0, s0, _, w0⟩ := DataW.trod_int Try.underlying3 g0
  obtain ⟨x1, s1, _, w1⟩ := DataW.trod_int Try.underlying22 g1
  obtain ⟨x3, s3, _, w3⟩ := DataW.trod_int Try.underlying3 g3
  obtain ⟨xs', n', _, hx0', _, hxl', hx'⟩ := DataW.trod_struct Try.underlying25 g2
  obtain ⟨z0, z1, z2, rfl⟩ := lst3 (by simpa using hxl')
  have f0 := hx' 0 _ rfl
  have f1 := hx' 1 _ rfl
  have f2 := hx' 2 _ rfl
  simp [k3, k8] at f0 f1 f2
  obtain ⟨b0, r0, _, u0⟩ := DataW.trod_int Try.underlying23 f0
  obtain ⟨b1, r1, _, u1⟩ := DataW.trod_int Try.underlying3 f1
  obtain ⟨b2, r2, _, u2⟩ := DataW.trod_int Try.underlying23 f2
  obtain ⟨p1, n1, e1, X1, s4, ⟨hp, hpr⟩, hn1⟩ := view_sas g4 (fun y hy => hw y (by
    rw [hx0.1]
    simp only [DataW.weights, Try.underlying29]
    refine DataW.weights_mem_each (j := 4) (t := 26) (d := y4.1) ?_ rfl y hy
    kernel_rfl))
  obtain ⟨p2, n2, e2, X2, s5, ⟨ht, hok⟩, hn2, hbk5⟩ := view_sesU g5 (fun y hy => hw y (by
    rw [hx0.1]
    simp only [DataW.weights, Try.underlying29]
    refine DataW.weights_mem_each (j := 5) (t := 27) (d := y5.1) ?_ rfl y hy
    kernel_rfl))
  have hb5 : n2 ≤ 1048576 := by
    rw [hx0.1] at hbk
    have h9 : Rows.uptoBulk y5.1 ≤ 1048576 := by
      simp only [Rows.uptoBulk, List.map_cons, List.map_nil, Rows.uptoBulkAll] at hbk
      omega
    omega
  simp at s0 s1 s3 r0 r1 r2
  subst s0 s1 s3 s4 s5 r0 r1 r2
  exact ⟨x0, x1, b0, b1, b2, x3, p1, p2, n1, e1, n2, e2, fun j => (X1 j).1, fun j => (X1 j).2, X2, rfl, ⟨wf_i64 w0, wf_i64 w1, wf_u64 u0, wf_i64 u1, wf_u64 u2, wf_i64 w3⟩, hok, by omega, hpr, hb5, hp, ht⟩
structure RP where
  k : Int
  c : Int
  a0 : Int
  a1 : Int
  a2 : Int
  m : Int
  q : Option Addr
  x : Option Addr
  n : Nat
  cq : Nat
  nx : Nat
  cx : Nat
  A : Nat → Sa
  K : Nat → Nat → Int
  X : Nat → Se
def RP.v (r : RP) : Value := .agg #[.int .i64 r.k, .int .i64 r.c, .int .u64 r.a0, .int .i64 r.a1, .int .u64 r.a2, .int .i64 r.m, .slice r.q r.n r.cq, .slice r.x r.nx r.cx]
theorem view_RP {H : Type} {enc : TypeId × Value → H} {W : World} {base : Nat} {v : Value} {d : DataW H} {pl : List MemPlace}
    (hval : Value.okWide Try.prog W .any base 29 v) (h : DataW.Trod enc Try.prog W 0 (fun _ => true) true 29 v d pl) (hw : ∀ y ∈ d.weights Try.prog 29, y ≤ reachBytes) (hbk : Rows.uptoBulk d ≤ 1048576) :
    ∃ (r : RP) (_ : Unit) (_ : Unit) (_ : Unit), v = r.v ∧ (SsAt W r.q r.n r.A r.K ∧ SIn W r.x r.nx r.X) ∧ ((∀ j, j < r.nx → SeOk (r.X j)) ∧ r.n * 40 ≤ 140737488355328 ∧ (∀ j, j < r.n → (r.A j).n ≤ 17592186044416) ∧ r.nx ≤ 1048576) := by
  obtain ⟨k, c, a0, a1, a2, m, q, x, n, cq, nx, cx, Aa, K, X, rfl, hR, hX, hn, hw, hnx, hS, hC⟩ := view_resU hval h hw hbk
  exact ⟨⟨k, c, a0, a1, a2, m, q, x, n, cq, nx, cx, Aa, K, X⟩, (), (), (), rfl, ⟨hS, hC⟩, hX, hn, hw, hnx⟩
theorem tallies_RP (r : RP) (_ _ _ : Unit) (hz : (∀ j, j < r.nx → SeOk (r.X j)) ∧ r.n * 40 ≤ 140737488355328 ∧ (∀ j, j < r.n → (r.A j).n ≤ 17592186044416) ∧ r.nx ≤ 1048576) (W : World) (_ : True) (hy : SsAt W r.q r.n r.A r.K ∧ SIn W r.x r.nx r.X) :
    Calls Try.prog 8 #[r.v] W fun e w' => e = .returned (.bool true) ∧ Below W.heap.size W w' :=
  talliess_law r.k r.c r.a0 r.a1 r.a2 r.m r.q r.x r.n r.cq r.nx r.cx r.A r.K r.X hz.2.1 hz.2.2.1 hz.1 (by have := hz.2.2.2; omega) W hy.1 hy.2
end Go.Proofs.Ytomjnncgogkglaa
