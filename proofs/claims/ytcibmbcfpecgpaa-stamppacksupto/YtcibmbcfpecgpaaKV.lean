import Derived.Test.YtcibmbcfpecgpaaRows
import Derived.Test.YtcibmbcfpecgpaaK9
import Derived.Deep.Slices
import Derived.ChangeOld
import Derived.SizedLaws
namespace Go.Proofs.Ytcibmbcfpecgpaa
open Go.ChangeShapes Go.WideShapes Go.ChangeAt Go.RowKit Go.Deep
set_option linter.unusedVariables false
set_option maxRecDepth 100000

theorem l6 {α : Type} {l : List α} (h : l.length = 6) : ∃ a b c d e f, l = [a, b, c, d, e, f] := by
  match l, h with
  | [a, b, c, d, e, f], _ => exact ⟨a, b, c, d, e, f, rfl⟩
theorem l4 {α : Type} {l : List α} (h : l.length = 4) : ∃ a b c d, l = [a, b, c, d] := by
  match l, h with
  | [a, b, c, d], _ => exact ⟨a, b, c, d, rfl⟩
theorem l3 {α : Type} {l : List α} (h : l.length = 3) : ∃ a b c, l = [a, b, c] := by
  match l, h with
  | [a, b, c], _ => exact ⟨a, b, c, rfl⟩
theorem view_cells {H : Type} {enc : TypeId × Value → H} {W : World} {fuel : Nat} {cs : List Value} {x : DataW H × List MemPlace} (h : DataW.trod enc Try.prog W 0 (fun _ => true) true fuel 26 cs = some x) (hl : cs.length = 6) :
    ∃ e : Ev, cs = [.int .u64 e.t, .int .i64 e.s, .int .u64 e.q, .int .i64 e.d, .int .i64 e.k, .int .i64 e.v] ∧ e.In := by
  obtain ⟨c0, c1, c2, c3, c4, c5, rfl⟩ := l6 hl
  obtain ⟨xs, n, _, _, _, hxl, hx⟩ := DataW.trod_struct Try.underlying26 h
  obtain ⟨y0, y1, y2, y3, rfl⟩ := l4 (by simpa using hxl)
  have k24 : Try.prog.cellsOf 24 = 3 := by kernel_rfl
  have k22 : Try.prog.cellsOf 22 = 1 := by kernel_rfl
  have k3 : Try.prog.cellsOf 3 = 1 := by kernel_rfl
  have k2 : Try.prog.cellsOf 2 = 1 := by kernel_rfl
  have g0 := hx 0 _ rfl
  have g1 := hx 1 _ rfl
  have g2 := hx 2 _ rfl
  have g3 := hx 3 _ rfl
  simp [k24, k3, k2] at g0 g1 g2 g3
  obtain ⟨ys, n', _, _, _, hyl, hy⟩ := DataW.trod_struct Try.underlying24 g0
  obtain ⟨z0, z1, z2, rfl⟩ := l3 (by simpa using hyl)
  have e0 := hy 0 _ rfl
  have e1 := hy 1 _ rfl
  have e2 := hy 2 _ rfl
  simp [k22, k3] at e0 e1 e2
  obtain ⟨x0, s0, _, w0⟩ := DataW.trod_int Try.underlying22 e0
  obtain ⟨x1, s1, _, w1⟩ := DataW.trod_int Try.underlying3 e1
  obtain ⟨x2, s2, _, w2⟩ := DataW.trod_int Try.underlying22 e2
  obtain ⟨x3, s3, _, w3⟩ := DataW.trod_int Try.underlying3 g1
  obtain ⟨x4, s4, _, w4⟩ := DataW.trod_int Try.underlying3 g2
  obtain ⟨x5, s5, _, w5⟩ := DataW.trod_int Try.underlying2 g3
  simp at s0 s1 s2 s3 s4 s5
  subst s0 s1 s2 s3 s4 s5
  have b0 := bounds_u64 w0
  have b2 := bounds_u64 w2
  obtain ⟨t, rfl⟩ := Int.eq_ofNat_of_zero_le b0.1
  obtain ⟨q, rfl⟩ := Int.eq_ofNat_of_zero_le b2.1
  exact ⟨⟨t, q, x1, x3, x4, x5⟩, rfl, ⟨by show t < _; omega, by show q < _; omega, bounds_i64 w1, bounds_i64 w3, bounds_i64 w4, bounds_i64 w5⟩⟩
theorem view_evE {H : Type} {enc : TypeId × Value → H} {W : World} {base : Nat} {v : Value} {d : DataW H} {p : List MemPlace}
    (hval : Value.okWide Try.prog W .any base 26 v) (h : DataW.Trod enc Try.prog W 0 (fun _ => true) true 26 v d p) :
    ∃ e : Ev, v = .agg #[.int .u64 e.t, .int .i64 e.s, .int .u64 e.q, .int .i64 e.d, .int .i64 e.k, .int .i64 e.v] ∧ e.In := by
  obtain ⟨cs, rfl, hsz⟩ := okWide_struct Try.underlying26 hval
  rw [show Try.prog.cellsOf 26 = 6 from by kernel_rfl] at hsz
  obtain ⟨fuel, hf⟩ := h
  obtain ⟨e, h1, h2⟩ := view_cells (cs := cs.toList) (by simpa [Value.cells] using hf) (by simpa using hsz)
  refine ⟨e, ?_, h2⟩
  rw [← h1]
theorem bulk_pos1 {H : Type} (d : DataW H) : 1 ≤ Rows.uptoBulk d := by
  unfold Rows.uptoBulk
  split <;> omega
theorem bulk_len1 {H : Type} : ∀ l : List (DataW H), l.length ≤ Rows.uptoBulkAll l
  | [] => Nat.zero_le _
  | d :: r => by
    have := bulk_pos1 d
    have := bulk_len1 r
    simp only [List.length_cons, Rows.uptoBulkAll]
    omega
theorem view_evsU {H : Type} {enc : TypeId × Value → H} {W : World} {base : Nat} {v : Value} {d : DataW H} {pl : List MemPlace}
    (hval : Value.okWide Try.prog W .any base 27 v) (h : DataW.Trod enc Try.prog W 0 (fun _ => true) true 27 v d pl) (hb : Rows.uptoBulk d ≤ 1048576) :
    ∃ (p : Option Addr) (n c : Nat) (es : List Ev), v = .slice p n c ∧ EvsAt W p es ∧ (es.length = n ∧ n ≤ 1048576) := by
  obtain ⟨sl, len0, cap0, rfl⟩ := okWide_slice Try.underlying27 hval
  obtain ⟨fuel, g0⟩ := h
  have k6 : Try.prog.cellsOf 26 = 6 := by kernel_rfl
  simp only [Value.cells] at g0
  rcases open_slice Try.underlying27 g0 with ⟨hcs, _⟩ | ⟨a, len, cap, m, n', D, Pl, hcs, _, hl, hm, hmm, hy0, hel⟩
  · simp at hcs
    obtain ⟨rfl, rfl, rfl⟩ := hcs
    exact ⟨none, 0, 0, [], rfl, ⟨.inl rfl, fun e he => by cases he⟩, rfl, by omega⟩
  · simp at hcs
    obtain ⟨rfl, rfl, rfl⟩ := hcs
    simp only [if_true] at hmm
    subst hmm
    rw [k6] at hel
    simp only [Prod.mk.injEq] at hy0
    have hlen0 : len0 ≤ 1048576 := by
      have h1 := bulk_len1 ((List.range len0).map D)
      rw [hy0.1] at hb
      simp only [Rows.uptoBulk] at hb
      simp only [List.length_map, List.length_range] at h1
      omega
    have hall : ∀ i, i < len0 → ∃ X : Ev, ∃ cs', W.cells? 0 (a.add (i * 6)) 6 = some cs' ∧ cs' = [.int .u64 X.t, .int .i64 X.s, .int .u64 X.q, .int .i64 X.d, .int .i64 X.k, .int .i64 X.v] ∧ X.In := by
      intro i hi
      obtain ⟨cs', h1, h2⟩ := hel i (by omega)
      have hlen := (World.cells?_some h1).2.1
      obtain ⟨X, h3, h4⟩ := view_cells h2 hlen
      exact ⟨X, cs', h1, h3, h4⟩
    have inh : Inhabited Ev := ⟨ev0⟩
    obtain ⟨N, hN⟩ := choose_lt hall
    refine ⟨some a, len0, m, (List.range len0).map N, rfl, ⟨?_, fun e he => ?_⟩, by simp, hlen0⟩
    · rcases Nat.eq_zero_or_pos len0 with z | z
      · exact .inl (by simp [z])
      · obtain ⟨b, off, spot⟩ := a
        obtain ⟨cs0, e0, e1, _⟩ := hN 0 z
        have h0 := (World.cells?_some e0).2.2 0 (by decide)
        rw [e1] at h0
        have hspot : spot = none := by simpa [Addr.add] using World.cell?_spot h0
        subst hspot
        have hbl := World.block_lt_of_cell? _ _ h0
        refine .inr ⟨b, off, rfl, by simpa [Addr.add] using hbl, fun i hi => ?_⟩
        have hi' : i < len0 := by simpa using hi
        obtain ⟨cs', f0, f1, f2⟩ := hN i hi'
        have hc := (World.cells?_some f0).2.2
        rw [f1] at hc
        have eN : ((List.range len0).map N)[i] = N i := by simp
        rw [eN]
        refine ⟨?_, ?_, ?_, ?_, ?_, ?_⟩
        · simpa [addr_add0] using hc 0 (by decide)
        · simpa [addr_add0, Nat.add_assoc] using hc 1 (by decide)
        · simpa [addr_add0, Nat.add_assoc] using hc 2 (by decide)
        · simpa [addr_add0, Nat.add_assoc] using hc 3 (by decide)
        · simpa [addr_add0, Nat.add_assoc] using hc 4 (by decide)
        · simpa [addr_add0, Nat.add_assoc] using hc 5 (by decide)
    · obtain ⟨i, hi, rfl⟩ := List.mem_map.1 he
      obtain ⟨_, _, _, h⟩ := hN i (List.mem_range.1 hi)
      exact h
theorem law_pk' (e : Ev) (p : Option Addr) (n c : Nat) (es : List Ev) (he : e.In) (hz : es.length = n ∧ n ≤ 1048576) (w : World) (_ : True) (hy : EvsAt w p es) :
    Calls Try.prog 3 #[.agg #[.int .u64 e.t, .int .i64 e.s, .int .u64 e.q, .int .i64 e.d, .int .i64 e.k, .int .i64 e.v], .slice p n c] w fun e w' => e = .returned (.bool true) ∧ Below w.heap.size w w' := by
  obtain ⟨rfl, h2⟩ := hz
  exact law_packs e he es p c w hy h2
end Go.Proofs.Ytcibmbcfpecgpaa
