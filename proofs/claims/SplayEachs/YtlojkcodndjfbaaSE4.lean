import Derived.Test.YtlojkcodndjfbaaSE3b
import Derived.Sort.LoopGhostIn
import Derived.Shelf.Abstract
import Derived.Test.YtlojkcodndjfbaaYW
namespace Go.Proofs.Ytlojkcodndjfbaa
open Go.ChangeShapes Go.WideShapes Go.ChangeAt Go.RowKit Go.Shelf
set_option linter.unusedVariables false
set_option linter.unusedSimpArgs false
attribute [local go_sem] Oper.semAt_some

def dsl (l : List Nat) : List Deferred := l.map fun D => { target := .collected D, args := #[] }
theorem below_put9 {B : Nat} {w W : World} (h : Below B w W) (r : Nat) (o : Obj) (hr : B ≤ r) : Below B w (W.putObj r o) := ⟨h.os, h.tape, h.output, by have := h.size; simp; omega, fun k hk => (World.putObj_heap_other (by omega)).trans (h.block k hk)⟩
theorem cell_of {W : World} {b : Nat} {v : Value} {t : TypeId} (h : W.heap[b]? = some (.cells #[v] t (0, 0))) : W.cell? ⟨b, 0, none⟩ = some v ∧ W.frozen? ⟨b, 0, none⟩ = false := by
  constructor
  · simp [World.cell?, h]
  · simp [World.frozen?, h]
theorem ops_cells {W : World} {po : Option Addr} {ns : Nat} {O : Nat → OpV} (h : OpsIn W po ns O) {j : Nat} (hj : j < ns) : ∃ b o, po = some ⟨b, o, none⟩ ∧ W.cell? ⟨b, o + j * 7, none⟩ = some (.int .i64 (O j).kd) ∧ W.cell? ⟨b, o + j * 7 + 1, none⟩ = some (.int .i64 (O j).wh) ∧ W.cell? ⟨b, o + j * 7 + 2, none⟩ = some (.int .u64 (O j).t) ∧ W.cell? ⟨b, o + j * 7 + 3, none⟩ = some (.int .i64 (O j).s) ∧ W.cell? ⟨b, o + j * 7 + 4, none⟩ = some (.int .u64 (O j).q) ∧ W.cell? ⟨b, o + j * 7 + 5, none⟩ = some (.int .i64 (O j).d) ∧ W.cell? ⟨b, o + j * 7 + 6, none⟩ = some (.int .i64 (O j).n) := by
  rcases h with h | ⟨b, o, h1, h2, h3⟩
  · omega
  · exact ⟨b, o, h1, h3 j 0 hj (by omega), h3 j 1 hj (by omega), h3 j 2 hj (by omega), h3 j 3 hj (by omega), h3 j 4 hj (by omega), h3 j 5 hj (by omega), h3 j 6 hj (by omega)⟩
theorem ops_below {W W' : World} {po : Option Addr} {ns : Nat} {O : Nat → OpV} (h : OpsIn W po ns O) (hb : Below W.heap.size W W') : OpsIn W' po ns O := by
  rcases h with h | ⟨b, o, h1, h2, h3⟩
  · exact .inl h
  · exact .inr ⟨b, o, h1, Nat.lt_of_lt_of_le h2 hb.size, fun i r hi hr => (cell_below (a := ⟨b, o + i * 7 + r, none⟩) hb h2).trans (h3 i r hi hr)⟩

def FRM (w w1 w3 : World) (r : Nat) (t : Array Value) : Prop := t.size = 87 ∧ t[6]? = some (.pointer (some ⟨w.heap.size + 1, 0, none⟩)) ∧ t[7]? = some (.pointer (some ⟨w.heap.size + 1 + 1, 0, none⟩)) ∧ t[8]? = some (.pointer (some ⟨w.heap.size + 1 + 1 + 1, 0, none⟩)) ∧ t[9]? = some (.pointer (some ⟨w1.heap.size, 0, none⟩)) ∧ t[11]? = some (.func (.func 24) #[] #[.pointer (some ⟨w1.heap.size + 1, 0, none⟩)]) ∧ t[13]? = some (.pointer (some ⟨w3.heap.size, 0, none⟩)) ∧ t[14]? = some (.int .i64 (r : Int))
theorem arr_map (t : Array Value) : t = ((List.range t.size).map fun k => t[k]?.getD undef).toArray := by
  apply Array.ext_getElem?
  intro i
  by_cases h : i < t.size
  · simp [h]
  · simp [h]
set_option maxRecDepth 100000 in
theorem FRM.lit {w w1 w3 : World} {r : Nat} {t : Array Value} (h : FRM w w1 w3 r t) : ∃ u : Nat → Value, t = #[u 0, u 1, u 2, u 3, u 4, u 5, .pointer (some ⟨w.heap.size + 1, 0, none⟩), .pointer (some ⟨w.heap.size + 1 + 1, 0, none⟩), .pointer (some ⟨w.heap.size + 1 + 1 + 1, 0, none⟩), .pointer (some ⟨w1.heap.size, 0, none⟩), u 10, .func (.func 24) #[] #[.pointer (some ⟨w1.heap.size + 1, 0, none⟩)], u 12, .pointer (some ⟨w3.heap.size, 0, none⟩), .int .i64 (r : Int), u 15, u 16, u 17, u 18, u 19, u 20, u 21, u 22, u 23, u 24, u 25, u 26, u 27, u 28, u 29, u 30, u 31, u 32, u 33, u 34, u 35, u 36, u 37, u 38, u 39, u 40, u 41, u 42, u 43, u 44, u 45, u 46, u 47, u 48, u 49, u 50, u 51, u 52, u 53, u 54, u 55, u 56, u 57, u 58, u 59, u 60, u 61, u 62, u 63, u 64, u 65, u 66, u 67, u 68, u 69, u 70, u 71, u 72, u 73, u 74, u 75, u 76, u 77, u 78, u 79, u 80, u 81, u 82, u 83, u 84, u 85, u 86] := by
  have h' : t.size = 87 ∧ t[6]?.getD undef = (.pointer (some ⟨w.heap.size + 1, 0, none⟩)) ∧ t[7]?.getD undef = (.pointer (some ⟨w.heap.size + 1 + 1, 0, none⟩)) ∧ t[8]?.getD undef = (.pointer (some ⟨w.heap.size + 1 + 1 + 1, 0, none⟩)) ∧ t[9]?.getD undef = (.pointer (some ⟨w1.heap.size, 0, none⟩)) ∧ t[11]?.getD undef = (.func (.func 24) #[] #[.pointer (some ⟨w1.heap.size + 1, 0, none⟩)]) ∧ t[13]?.getD undef = (.pointer (some ⟨w3.heap.size, 0, none⟩)) ∧ t[14]?.getD undef = (.int .i64 (r : Int)) := by
    obtain ⟨h0, h1, h2, h3, h4, h5, h6, h7⟩ := h
    exact ⟨h0, by rw [h1]; rfl, by rw [h2]; rfl, by rw [h3]; rfl, by rw [h4]; rfl, by rw [h5]; rfl, by rw [h6]; rfl, by rw [h7]; rfl⟩
  clear h
  have e := arr_map t
  rw [h'.1] at e
  obtain ⟨f, hf⟩ : ∃ f : Nat → Value, (fun k => t[k]?.getD undef) = f := ⟨_, rfl⟩
  rw [hf] at e
  have hk : ∀ k, t[k]?.getD undef = f k := fun k => by rw [← hf]
  simp only [hk] at h'
  obtain ⟨_, h1, h2, h3, h4, h5, h6, h7⟩ := h'
  have e2 : ((List.range 87).map f).toArray = #[f 0, f 1, f 2, f 3, f 4, f 5, f 6, f 7, f 8, f 9, f 10, f 11, f 12, f 13, f 14, f 15, f 16, f 17, f 18, f 19, f 20, f 21, f 22, f 23, f 24, f 25, f 26, f 27, f 28, f 29, f 30, f 31, f 32, f 33, f 34, f 35, f 36, f 37, f 38, f 39, f 40, f 41, f 42, f 43, f 44, f 45, f 46, f 47, f 48, f 49, f 50, f 51, f 52, f 53, f 54, f 55, f 56, f 57, f 58, f 59, f 60, f 61, f 62, f 63, f 64, f 65, f 66, f 67, f 68, f 69, f 70, f 71, f 72, f 73, f 74, f 75, f 76, f 77, f 78, f 79, f 80, f 81, f 82, f 83, f 84, f 85, f 86] := rfl
  rw [e2, h1, h2, h3, h4, h5, h6, h7] at e
  exact ⟨f, e⟩
set_option maxRecDepth 100000 in
set_option maxHeartbeats 8000000 in
theorem eachs_law (p : Option Addr) (n c : Nat) (Y : Nat → Ev) (hE : n ≤ c ∧ n ≤ 1000000000000000000) (ah : Ev) (po : Option Addr) (ns co : Nat) (O : Nat → OpV) (hO : ns ≤ 3000000000000) (stop : Int) (hst : -9223372036854775808 ≤ stop ∧ stop ≤ 9223372036854775807) (w : World) (hy : EvIn w p n Y) (ho : OpsIn w po ns O) : Calls Try.prog 3 #[.slice p n c, .agg #[.int .u64 ah.t, .int .i64 ah.s, .int .u64 ah.q, .int .i64 ah.d, .int .i64 ah.k, .int .i64 ah.v], .slice po ns co, .int .i64 stop] w fun e w' => e = .returned (.bool true) ∧ Below w.heap.size w w' := by
  obtain ⟨wa, hwa⟩ : ∃ wa, (((w.alloc (.cells #[.int .u64 ah.t, .int .i64 ah.s, .int .u64 ah.q, .int .i64 ah.d, .int .i64 ah.k, .int .i64 ah.v] 27)).alloc (.cells #[.slice po ns co] 28)).alloc (.cells #[.int .i64 stop] 3)).alloc (.cells #[.bool false] 4) = wa := ⟨_, rfl⟩
  have hba : Below w.heap.size w wa := by rw [← hwa]; exact ((((Below.refl _ w).alloc (Nat.le_refl _) _).alloc (by simp <;> omega) _).alloc (by simp <;> omega) _).alloc (by simp <;> omega) _
  have hya : EvIn wa p n Y := by
    rcases hy with h | ⟨b, o, h1, h2, h3⟩
    · exact .inl h
    · exact .inr ⟨b, o, h1, Nat.lt_of_lt_of_le h2 hba.size, fun i r hi hr => (cell_below (a := ⟨b, o + i * 6 + r, none⟩) hba h2).trans (h3 i r hi hr)⟩
  have HF := callsIn_wide (n := 3) |>.2 (filled_any p n c Y wa hya hE.1 hE.2)
  have HW : Hid ((((w.alloc (.cells #[.int .u64 ah.t, .int .i64 ah.s, .int .u64 ah.q, .int .i64 ah.d, .int .i64 ah.k, .int .i64 ah.v] 27)).alloc (.cells #[.slice po ns co] 28)).alloc (.cells #[.int .i64 stop] 3)).alloc (.cells #[.bool false] 4) = wa) := hwa
  clear hwa
  refine (callsIn_wide (n := 4)).1 ?_
  refine callsIn_of_wp_marks Try.func3 rfl trivial ?_ rfl
  simp only [Try.ntmps3, List.size_toArray, List.length_cons, List.length_nil, Nat.reduceAdd, Nat.reduceSub, Array.replicate_succ, Array.replicate_zero, List.push_toArray, List.append_toArray, List.nil_append, List.cons_append]
  have hA0 : wa.heap[w.heap.size]? = some (.cells #[.int .u64 ah.t, .int .i64 ah.s, .int .u64 ah.q, .int .i64 ah.d, .int .i64 ah.k, .int .i64 ah.v] 27 (0, 0)) ∧ wa.heap[w.heap.size + 1]? = some (.cells #[.slice po ns co] 28 (0, 0)) ∧ wa.heap[w.heap.size + 2]? = some (.cells #[.int .i64 stop] 3 (0, 0)) ∧ wa.heap[w.heap.size + 3]? = some (.cells #[.bool false] 4 (0, 0)) ∧ wa.heap.size = w.heap.size + 4 := by
    rw [← HW.out]
    refine ⟨?_, ?_, ?_, ?_, by simp⟩
    · exact (Below.heap_alloc _ _ _ (by simp <;> omega)).trans ((Below.heap_alloc _ _ _ (by simp <;> omega)).trans ((Below.heap_alloc _ _ _ (by simp <;> omega)).trans (World.alloc_heap_new w _)))
    · have h := World.alloc_heap_new (w.alloc (.cells #[.int .u64 ah.t, .int .i64 ah.s, .int .u64 ah.q, .int .i64 ah.d, .int .i64 ah.k, .int .i64 ah.v] 27)) (.cells #[.slice po ns co] 28 (0, 0))
      rw [World.size_alloc] at h
      exact (Below.heap_alloc _ _ _ (by simp <;> omega)).trans ((Below.heap_alloc _ _ _ (by simp <;> omega)).trans h)
    · have h := World.alloc_heap_new ((w.alloc (.cells #[.int .u64 ah.t, .int .i64 ah.s, .int .u64 ah.q, .int .i64 ah.d, .int .i64 ah.k, .int .i64 ah.v] 27)).alloc (.cells #[.slice po ns co] 28 (0, 0))) (.cells #[.int .i64 stop] 3 (0, 0))
      rw [World.size_alloc, World.size_alloc] at h
      exact (Below.heap_alloc _ _ _ (by simp <;> omega)).trans h
    · have h := World.alloc_heap_new (((w.alloc (.cells #[.int .u64 ah.t, .int .i64 ah.s, .int .u64 ah.q, .int .i64 ah.d, .int .i64 ah.k, .int .i64 ah.v] 27)).alloc (.cells #[.slice po ns co] 28 (0, 0))).alloc (.cells #[.int .i64 stop] 3 (0, 0))) (.cells #[.bool false] 4 (0, 0))
      rw [World.size_alloc, World.size_alloc, World.size_alloc] at h
      exact h
  have HA : Hid (wa.heap[w.heap.size]? = some (.cells #[.int .u64 ah.t, .int .i64 ah.s, .int .u64 ah.q, .int .i64 ah.d, .int .i64 ah.k, .int .i64 ah.v] 27 (0, 0)) ∧ wa.heap[w.heap.size + 1]? = some (.cells #[.slice po ns co] 28 (0, 0)) ∧ wa.heap[w.heap.size + 2]? = some (.cells #[.int .i64 stop] 3 (0, 0)) ∧ wa.heap[w.heap.size + 3]? = some (.cells #[.bool false] 4 (0, 0)) ∧ wa.heap.size = w.heap.size + 4) := hA0
  have HBA : Hid (Below w.heap.size w wa) := hba
  clear hA0 hba hya hy
  obtain ⟨zs, hzs⟩ : ∃ zs : Nat, zs = stop.toNat := ⟨_, rfl⟩
  have HZS : Hid (zs = stop.toNat) := hzs
  clear hzs
  obtain ⟨zn, dneg, hzn⟩ : ∃ zn : Bool, decide (stop < 0) = zn ∧ (zn = false ∧ 0 ≤ stop ∨ zn = true ∧ stop < 0) := by
    by_cases h : stop < 0
    · exact ⟨true, by simp; omega, .inr ⟨rfl, h⟩⟩
    · exact ⟨false, by simp; omega, .inl ⟨rfl, by omega⟩⟩
  cases zn
  all_goals
  gi_wp2_with (refine ⟨trivial, ?_⟩; first
    | (gi_at_call 5; rw [HW.out]; (with_reducible refine HF.mono ?_); rintro e1 w1 ⟨qb, g, M, L, rfl, hq1, hM, hM2, hM3, hfo, hb1⟩
       obtain ⟨a0, a1, a2, a3, a4⟩ := HA.out
       have z1 := hb1.size
       have k0 := (hb1.block _ (by omega)).trans a0
       have y0 : w1.cell? ⟨w.heap.size, 0, none⟩ = some (.int .u64 ah.t) := by simp [World.cell?, k0]
       have y1 : w1.cell? ⟨w.heap.size, 1, none⟩ = some (.int .i64 ah.s) := by simp [World.cell?, k0]
       have y2 : w1.cell? ⟨w.heap.size, 2, none⟩ = some (.int .u64 ah.q) := by simp [World.cell?, k0]
       have y3 : w1.cell? ⟨w.heap.size, 3, none⟩ = some (.int .i64 ah.d) := by simp [World.cell?, k0]
       have y4 : w1.cell? ⟨w.heap.size, 4, none⟩ = some (.int .i64 ah.k) := by simp [World.cell?, k0]
       have y5 : w1.cell? ⟨w.heap.size, 5, none⟩ = some (.int .i64 ah.v) := by simp [World.cell?, k0]
       have hl1 : w.heap.size < w1.heap.size := by omega
       have H1 : Hid (QS wa.heap.size qb g ((M : Int) + 1) (8192 * (M : Int)) L w1 ∧ M ≤ 4000 ∧ L.length ≤ M ∧ Below wa.heap.size wa w1) := ⟨hq1, hM, hfo.1, hb1⟩
       clear hq1 hM hM2 hM3 hfo hb1 a0 a1 a2 a3 a4 k0 z1)
    | (gi_at_call 6; (with_reducible refine (callsIn_wide.2 (each_any qb _)).mono ?_); rintro e2 w2 ⟨rfl, rfl⟩
       have hbb : Below w1.heap.size w1 ((w1.alloc (.cells #[.pointer (some ⟨qb, 0, none⟩)] 29)).alloc (.cells #[.pointer (some ⟨qb, 0, none⟩)] 29)) := ((Below.refl _ w1).alloc (Nat.le_refl _) _).alloc (by simp <;> omega) _
       have HI : CallsIn Fence.wide 3 Try.prog 7 #[.pointer (some ⟨qb, 0, none⟩), .agg #[.int .u64 ah.t, .int .i64 ah.s, .int .u64 ah.q, .int .i64 ah.d, .int .i64 ah.k, .int .i64 ah.v]] ((w1.alloc (.cells #[.pointer (some ⟨qb, 0, none⟩)] 29)).alloc (.cells #[.pointer (some ⟨qb, 0, none⟩)] 29)) fun e' W' => ∃ code, e' = .returned (.int .i64 code) ∧ (code = 0 ∨ code = 81) ∧ ∃ g' L', QS wa.heap.size qb g' ((M : Int) + 1) (8192 * (M : Int) + 8192) L' W' ∧ (g' = g ∨ ((w1.alloc (.cells #[.pointer (some ⟨qb, 0, none⟩)] 29)).alloc (.cells #[.pointer (some ⟨qb, 0, none⟩)] 29)).heap.size ≤ g') ∧ Ch (S2 qb g) ((w1.alloc (.cells #[.pointer (some ⟨qb, 0, none⟩)] 29)).alloc (.cells #[.pointer (some ⟨qb, 0, none⟩)] 29)) W' := by
         refine (callsIn_wide (n := 3) |>.2 (ins_any ah _ (H1.out.1.later hbb) (by have := H1.out.2.1; omega))).mono ?_
         rintro e9 w9 ⟨code, rfl, g', hc, hg', hch⟩
         have hll := H1.out.2.2.1
         rcases hc with ⟨h1, _⟩ | ⟨_, _, h2, h3⟩ | ⟨_, _, h2, L', h3, _⟩
         · omega
         · exact ⟨code, rfl, .inr h2, g', L, h3, hg', hch⟩
         · exact ⟨code, rfl, .inl h2, g', L', h3, hg', hch⟩)
    | (gi_at_call 7; (with_reducible refine HI.mono ?_); rintro e3 w3 ⟨code, rfl, hcode, g1, L1, hq3, hg1, hch3⟩
       obtain ⟨a0, a1, a2, a3, a4⟩ := HA.out
       have hl := H1.out.1.lt
       have hz1 := H1.out.2.2.2.size
       have hzz : ((w1.alloc (.cells #[.pointer (some ⟨qb, 0, none⟩)] 29)).alloc (.cells #[.pointer (some ⟨qb, 0, none⟩)] 29)).heap.size = w1.heap.size + 2 := by simp
       have hz3 := hch3.size
       rw [hzz] at hg1 hz3
       have f3 : ∀ k, k < wa.heap.size → w3.heap[k]? = wa.heap[k]? := fun k hk => (hch3.block k (by omega) (by rintro (e | e) <;> omega)).trans ((hbb.block k (by omega)).trans (H1.out.2.2.2.block k hk))
       have q1 : w3.heap[w1.heap.size]? = some (.cells #[.pointer (some ⟨qb, 0, none⟩)] 29 (0, 0)) := (hch3.block _ (by omega) (by rintro (e | e) <;> omega)).trans ((Below.heap_alloc _ _ _ (by simp)).trans (World.alloc_heap_new w1 _))
       have q2 : w3.heap[w1.heap.size + 1]? = some (.cells #[.pointer (some ⟨qb, 0, none⟩)] 29 (0, 0)) := (hch3.block _ (by omega) (by rintro (e | e) <;> omega)).trans (by have h := World.alloc_heap_new (w1.alloc (.cells #[.pointer (some ⟨qb, 0, none⟩)] 29 (0, 0))) (.cells #[.pointer (some ⟨qb, 0, none⟩)] 29 (0, 0)); rw [World.size_alloc] at h; exact h)
       have bst := (f3 (w.heap.size + 2) (by omega)).trans a2
       have cst : w3.cell? ⟨w.heap.size + 1 + 1, 0, none⟩ = some (.int .i64 stop) := by simp [World.cell?, bst]
       have fst' : w3.frozen? ⟨w.heap.size + 1 + 1, 0, none⟩ = false := by simp [World.frozen?, bst]
       have hl3 : w.heap.size + 1 + 1 < w3.heap.size := by omega
       have HQ3 : Hid (QS wa.heap.size qb g1 ((M : Int) + 1) (8192 * (M : Int) + 8192) L1 w3 ∧ (g1 = g ∨ w1.heap.size + 2 ≤ g1) ∧ (∀ k, k < wa.heap.size → w3.heap[k]? = wa.heap[k]?) ∧ Below wa.heap.size wa w3 ∧ w3.heap[w1.heap.size]? = some (.cells #[.pointer (some ⟨qb, 0, none⟩)] 29 (0, 0)) ∧ w3.heap[w1.heap.size + 1]? = some (.cells #[.pointer (some ⟨qb, 0, none⟩)] 29 (0, 0)) ∧ w1.heap.size + 2 ≤ w3.heap.size) := ⟨hq3, hg1, f3, (H1.out.2.2.2.trans (hbb.mono hz1)).trans (hch3.toBelow (by omega) (by rintro k (e | e) <;> omega)), q1, q2, hz3⟩
       have hlq := hq3.lt
       have hbw3 : Below wa.heap.size wa w3 := (H1.out.2.2.2.trans (hbb.mono hz1)).trans (hch3.toBelow (by omega) (by rintro k (e | e) <;> omega))
       have HQT : Hid (∀ W4, (W4 = w3 ∧ 0 ≤ stop ∨ W4 = w3.setCell ⟨w.heap.size + 1 + 1, 0, none⟩ (.int .i64 0) ∧ stop < 0) → TI w wa.heap.size qb (w1.heap.size + 1) ((M : Int) + 1) (8192 * (M : Int) + 8192) (.slice po ns co) zs (w.heap.size + 1) (w.heap.size + 1 + 1) (w.heap.size + 1 + 1 + 1) w1.heap.size w3.heap.size 0 [] g1 L1 0 (W4.alloc (.cells #[.int .i64 0] 3))) := by
         intro W4 h4
         have hc4 : Ch (fun k => k = w.heap.size + 1 + 1) w3 W4 := by
           rcases h4 with ⟨h4, _⟩ | ⟨h4, _⟩
           · rw [h4]; exact Ch.refl _ _
           · rw [h4]; exact Ch.set _ w3 _ 0 _ rfl
         have hs4 : W4.heap.size = w3.heap.size := by
           rcases h4 with ⟨h4, _⟩ | ⟨h4, _⟩
           · rw [h4]
           · rw [h4]; simp
         have st4 : W4.heap[w.heap.size + 1 + 1]? = some (.cells #[.int .i64 (zs : Int)] 3 (0, 0)) := by
           rw [HZS.out]
           rcases h4 with ⟨h4, h5⟩ | ⟨h4, h5⟩
           · rw [h4, bst, Int.toNat_of_nonneg h5]
           · rw [h4, setCell_block w3 _ 0 _ bst, Int.toNat_of_nonpos (by omega)]; rfl
         have hal : Below W4.heap.size W4 (W4.alloc (.cells #[.int .i64 0] 3)) := (Below.refl _ W4).alloc (Nat.le_refl _) _
         have g4 : ∀ k, k < w3.heap.size → k ≠ w.heap.size + 1 + 1 → (W4.alloc (.cells #[.int .i64 0] 3)).heap[k]? = w3.heap[k]? := fun k hk hn => (hal.block k (by omega)).trans (hc4.block k hk hn)
         have nsp := World.alloc_heap_new W4 (.cells #[.int .i64 0] 3 (0, 0))
         rw [hs4] at nsp
         refine ⟨((hq3.keep hc4 (by omega) (by omega)).later hal).mono (by omega), by omega, by simpa using nsp, (hal.block _ (by omega)).trans st4, (g4 _ (by omega) (by omega)).trans ((f3 (w.heap.size + 1) (by omega)).trans a1), (g4 _ (by omega) (by omega)).trans ((f3 (w.heap.size + 3) (by omega)).trans a3), (g4 _ (by omega) (by omega)).trans q1, (g4 _ (by omega) (by omega)).trans q2, by simp, List.nodup_nil, rfl, ?_, ?_⟩
         · rintro k (rfl | rfl | rfl | rfl | rfl | rfl) <;> omega
         · exact (HBA.out.trans (hbw3.mono HBA.out.size)).trans ((hc4.toBelow (by omega) (by rintro k rfl; omega)).trans (hal.mono (by omega)))
       have HS3 : Hid (w.heap.size + 4 = wa.heap.size ∧ wa.heap.size ≤ w1.heap.size ∧ w1.heap.size + 2 ≤ w3.heap.size ∧ M ≤ 4000) := ⟨by omega, by omega, by omega, H1.out.2.1⟩
       clear a0 a1 a2 a3 a4 hl hz1 hzz hz3 f3 q1 q2 bst hq3 hg1 hch3 hbb HI HF HQ3 H1 hlq hbw3 y0 y1 y2 y3 y4 y5 hl1
       rcases hcode with rfl | rfl))
  all_goals
    clear HW HA HBA cst fst' hl3 dneg
    first
      | (have h0 : 0 ≤ stop := by rcases hzn with ⟨_, h⟩ | ⟨h, _⟩ <;> first | exact h | cases h
         have hTI := HQT.out w3 (.inl ⟨rfl, h0⟩)
         clear h0)
      | (have h0 : stop < 0 := by rcases hzn with ⟨h, _⟩ | ⟨_, h⟩ <;> first | exact h | cases h
         have hTI := HQT.out (w3.setCell ⟨w.heap.size + 1 + 1, 0, none⟩ (.int .i64 0)) (.inr ⟨rfl, h0⟩)
         clear h0)
    clear HQT
    have HOP : Hid (OpsIn w po ns O) := ho
    clear ho hE hzn
    refine wpIn_loop_ghost_k (fun n a W => ∃ r ds g L s t, r + n = 2 ∧ FRM w w1 w3 r t ∧ a = { tmps := t, defers := dsl ds } ∧ TI w wa.heap.size qb (w1.heap.size + 1) ((M : Int) + 1) (8192 * (M : Int) + 8192) (.slice po ns co) zs (w.heap.size + 1) (w.heap.size + 1 + 1) (w.heap.size + 1 + 1 + 1) w1.heap.size w3.heap.size r ds g L s W) 2 ?start ?round
    case start => exact ⟨0, [], _, _, 0, _, rfl, ⟨rfl, rfl, rfl, rfl, rfl, rfl, rfl, rfl⟩, rfl, hTI⟩
    case round =>
      clear hTI
      rintro n a W ⟨r, ds, g0, L0, s, t, hrn, hfr, rfl, ht⟩ J K hJ hK
      obtain ⟨u, hu⟩ := FRM.lit hfr
      subst hu
      clear hfr
      have HJ : Hid (r < 2 → ∀ a' w', (∃ ds g L s t, FRM w w1 w3 (r + 1) t ∧ a' = { tmps := t, defers := dsl ds } ∧ TI w wa.heap.size qb (w1.heap.size + 1) ((M : Int) + 1) (8192 * (M : Int) + 8192) (.slice po ns co) zs (w.heap.size + 1) (w.heap.size + 1 + 1) (w.heap.size + 1 + 1 + 1) w1.heap.size w3.heap.size (r + 1) ds g L s w') → K a' w') := fun h2 a' w' h => by
        obtain ⟨x1, x2, x3, x4, x5, x6, x7, x8⟩ := h
        exact hK _ _ ⟨n - 1, by omega, hJ _ _ _ ⟨r + 1, x1, x2, x3, x4, x5, by omega, x6, x7, x8⟩⟩
      clear hJ hK
      by_cases h2r : r < 2
      case neg =>
        obtain rfl : r = 2 := by omega
        obtain ⟨D2, D1, rfl⟩ : ∃ D2 D1, ds = [D2, D1] := by
          match ds, ht.dr with
          | [D2, D1], _ => exact ⟨D2, D1, rfl⟩
        obtain ⟨p1, p2, p3, p4⟩ := ht.dd D2 (by simp)
        obtain ⟨o1, o2, o3, o4⟩ := ht.dd D1 (by simp)
        have hdn : D1 ≠ D2 := by have := ht.nd; simp at this; exact fun e => this e.symm
        have m2 : D2 ≠ w.heap.size + 1 + 1 + 1 := fun e => by have := ht.an; rw [← e, p1] at this; simp at this
        have m1 : D1 ≠ w.heap.size + 1 + 1 + 1 := fun e => by have := ht.an; rw [← e, o1] at this; simp at this
        obtain ⟨z1, z1f⟩ := cell_of ht.an
        have k2 := (set_other (w := W) (b := w.heap.size + 1 + 1 + 1) (k := D2) (.bool true) m2).trans p1
        have k0 := (set_other (w := W) (b := w.heap.size + 1 + 1 + 1) (k := D1) (.bool true) m1).trans o1
        have k1 : ((W.setCell ⟨w.heap.size + 1 + 1 + 1, 0, none⟩ (.bool true)).putObj D2 (.deferred none)).heap[D1]? = some (.deferred (some [])) := (World.putObj_heap_other hdn).trans k0
        have kA : (((W.setCell ⟨w.heap.size + 1 + 1 + 1, 0, none⟩ (.bool true)).putObj D2 (.deferred none)).putObj D1 (.deferred none)).heap[w.heap.size + 1 + 1 + 1]? = some (.cells #[.bool true] 4 (0, 0)) := (World.putObj_heap_other (fun e => m1 e.symm)).trans ((World.putObj_heap_other (fun e => m2 e.symm)).trans (setCell_block W _ 0 _ ht.an))
        have dR := (cell_of kA).1
        have fin : Below w.heap.size w (((W.setCell ⟨w.heap.size + 1 + 1 + 1, 0, none⟩ (.bool true)).putObj D2 (.deferred none)).putObj D1 (.deferred none)) := below_put9 (below_put9 (ht.bel.setCell (p := ⟨w.heap.size + 1 + 1 + 1, 0, none⟩) (by simp; omega) (.bool true)) D2 _ p4) D1 _ o4
        simp only [dsl, List.map]
        have HE : Hid ((W.setCell ⟨w.heap.size + 1 + 1 + 1, 0, none⟩ (.bool true)).heap[D2]? = some (.deferred (some [])) ∧ ((W.setCell ⟨w.heap.size + 1 + 1 + 1, 0, none⟩ (.bool true)).putObj D2 (.deferred none)).heap[D1]? = some (.deferred (some [])) ∧ (((W.setCell ⟨w.heap.size + 1 + 1 + 1, 0, none⟩ (.bool true)).putObj D2 (.deferred none)).putObj D1 (.deferred none)).cell? ⟨w.heap.size + 1 + 1 + 1, 0, none⟩ = some (.bool true) ∧ Below w.heap.size w (((W.setCell ⟨w.heap.size + 1 + 1 + 1, 0, none⟩ (.bool true)).putObj D2 (.deferred none)).putObj D1 (.deferred none))) := ⟨k2, k1, dR, fin⟩
        clear HJ h2r hrn ht p1 p2 p3 p4 o1 o2 o3 o4 hdn m1 m2 k2 k0 k1 kA dR fin HS3 HOP hst hO
        gi_wp2
        obtain ⟨k2, k1, dR, fin⟩ := HE.out
        refine ⟨by simp, .inl ⟨_, _, rfl, run_takeDeferred k2, ?_⟩⟩
        refine ⟨by simp, .inl ⟨_, _, rfl, run_takeDeferred k1, ?_⟩⟩
        exact ⟨_, by simp [results, Try.results3, go_sem, dR], rfl, fin⟩
      have dr : decide ((r : Int) < 2) = true := decide_eq_true (by omega)
      have zq := (cell_of ht.qx).1
      have HL := callsIn_wide (n := 3) |>.2 (listS W ht.q)
      have HT : Hid (TI w wa.heap.size qb (w1.heap.size + 1) ((M : Int) + 1) (8192 * (M : Int) + 8192) (.slice po ns co) zs (w.heap.size + 1) (w.heap.size + 1 + 1) (w.heap.size + 1 + 1 + 1) w1.heap.size w3.heap.size r ds g0 L0 s W ∧ r < 2 ∧ r + n = 2) := ⟨ht, h2r, hrn⟩
      clear ht h2r hrn
      gi_wp2_with (refine ⟨trivial, ?_⟩; gi_at_call 8; (with_reducible refine HL.mono ?_); rintro e4 W4 ⟨b0, X, rfl, hE4, hm4, hX4, hb4, hq4, hc4⟩)
      obtain ⟨W5, hW5⟩ : ∃ W5, (W4.alloc (.cells #[.slice (some ⟨b0, 0, none⟩) L0.length L0.length] 22)).alloc (.cells #[.int .i64 0] 3) = W5 := ⟨_, rfl⟩
      obtain ⟨N, hN⟩ : ∃ N, L0.length = N := ⟨_, rfl⟩
      obtain ⟨a5, c5, d5⟩ := two_alloc W4 _ _ _ _ W5 hW5
      have z5 : W5.heap.size = W4.heap.size + 2 := by rw [← hW5]; simp
      rw [hW5]
      rw [hN] at hE4 hX4 a5 ⊢
      obtain ⟨hT0, hr2, hrn⟩ := HT.out
      obtain ⟨v1, v2, v3, v4⟩ := HS3.out
      have zW := hc4.size
      have hlq := hq4.lt
      have HZ4 : Hid (W.heap.size ≤ W4.heap.size) := zW
      have hlq0 := hT0.q.lt
      have hlen := hT0.q.len
      have hN8 : N ≤ 8192 := by omega
      have hc5 : Ch (S2 qb g0) W W5 := hc4.trans (Ch.below d5)
      have hb04 := hE4.1
      have lsp := blk_lt hT0.sp
      have lqx := blk_lt hT0.qx
      have lbx := blk_lt hT0.hb
      have lan := blk_lt hT0.an
      have hq5 : QS wa.heap.size qb g0 ((M : Int) + 1) (8192 * (M : Int) + 8192 + 140000000 * (r : Int)) L0 W5 := hq4.later d5
      have hgS : ∀ k, k < W.heap.size → k ≠ qb → k ≠ g0 → W5.heap[k]? = W.heap[k]? := fun k hk k1 k2 => hc5.block k hk (fun e => by rcases e with e | e <;> contradiction)
      have n1 := hT0.ne (w.heap.size + 1) (by simp)
      have n2 := hT0.ne (w.heap.size + 1 + 1) (by simp)
      have n3 := hT0.ne (w.heap.size + 1 + 1 + 1) (by simp)
      have n4 := hT0.ne w1.heap.size (by simp)
      have n5 := hT0.ne w3.heap.size (by simp)
      have n6 := hT0.ne (w1.heap.size + 1) (by simp)
      have hBne : ∀ k, Bx.has (⟨w.heap.size + 1, w.heap.size + 1 + 1, w.heap.size + 1 + 1 + 1, w1.heap.size, w3.heap.size, W4.heap.size, W4.heap.size + 1, b0, W5.heap.size⟩ : Bx) k → k ≠ qb ∧ k ≠ g0 ∧ k ≠ (W5.heap.size + 1) := by
        rintro k (rfl | rfl | rfl | rfl | rfl | rfl | rfl | rfl | rfl) <;> refine ⟨?_, ?_, ?_⟩ <;> ((try dsimp only); omega)
      have hBOk : Bx.Ok (⟨w.heap.size + 1, w.heap.size + 1 + 1, w.heap.size + 1 + 1 + 1, w1.heap.size, w3.heap.size, W4.heap.size, W4.heap.size + 1, b0, W5.heap.size⟩ : Bx) := ⟨by (try dsimp only); omega, by (try dsimp only); omega⟩
      have hxL : ¬ Bx.has (⟨w.heap.size + 1, w.heap.size + 1 + 1, w.heap.size + 1 + 1 + 1, w1.heap.size, w3.heap.size, W4.heap.size, W4.heap.size + 1, b0, W5.heap.size⟩ : Bx) (W5.heap.size + 1) := fun h => (hBne _ h).2.2 rfl
      have hqL : (W5.heap.size + 1) ≠ qb := by omega
      have HQL : Hid ((W5.heap.size + 1) ≠ qb) := hqL
      have HH : Hid (EvsL W4 b0 N X ∧ (∀ i, i < N → L0[i]? = some (X i)) ∧ Ch (S2 qb g0) W W5 ∧ QS wa.heap.size qb g0 ((M : Int) + 1) (8192 * (M : Int) + 8192 + 140000000 * (r : Int)) L0 W5 ∧ W5.heap.size = W4.heap.size + 2 ∧ Below W4.heap.size W4 W5 ∧ W5.heap[W4.heap.size]? = some (.cells #[.slice (some ⟨b0, 0, none⟩) N N] 22 (0, 0)) ∧ W5.heap[W4.heap.size + 1]? = some (.cells #[.int .i64 0] 3 (0, 0)) ∧ N ≤ 8192 ∧ (∀ k, Bx.has (⟨w.heap.size + 1, w.heap.size + 1 + 1, w.heap.size + 1 + 1 + 1, w1.heap.size, w3.heap.size, W4.heap.size, W4.heap.size + 1, b0, W5.heap.size⟩ : Bx) k → k ≠ qb ∧ k ≠ g0 ∧ k ≠ (W5.heap.size + 1)) ∧ Bx.Ok (⟨w.heap.size + 1, w.heap.size + 1 + 1, w.heap.size + 1 + 1 + 1, w1.heap.size, w3.heap.size, W4.heap.size, W4.heap.size + 1, b0, W5.heap.size⟩ : Bx) ∧ L0.length = N) := ⟨hE4, hX4, hc5, hq5, z5, d5, a5, c5, hN8, hBne, hBOk, hN⟩
      have HG : Hid (W5.heap[w.heap.size + 1]? = some (.cells #[.slice po ns co] 28 (0, 0)) ∧ W5.heap[w.heap.size + 1 + 1]? = some (.cells #[.int .i64 (zs : Int)] 3 (0, 0)) ∧ W5.heap[w.heap.size + 1 + 1 + 1]? = some (.cells #[.bool false] 4 (0, 0)) ∧ W5.heap[w1.heap.size]? = some (.cells #[.pointer (some ⟨qb, 0, none⟩)] 29 (0, 0)) ∧ W5.heap[w3.heap.size]? = some (.cells #[.int .i64 (s : Int)] 3 (0, 0)) ∧ W5.heap[w1.heap.size + 1]? = some (.cells #[.pointer (some ⟨qb, 0, none⟩)] 29 (0, 0)) ∧ Below w.heap.size w W5 ∧ w1.heap.size + 1 < W5.heap.size ∧ g0 < W5.heap.size ∧ qb < W5.heap.size) := ⟨(hgS _ (by omega) n1.1 n1.2).trans hT0.sc, (hgS _ (by omega) n2.1 n2.2).trans hT0.st, (hgS _ (by omega) n3.1 n3.2).trans hT0.an, (hgS _ (by omega) n4.1 n4.2).trans hT0.qx, (hgS _ (by omega) n5.1 n5.2).trans hT0.sp, (hgS _ (by omega) n6.1 n6.2).trans hT0.hb, hT0.bel.trans (hc5.toBelow hT0.bel.size (by rintro k (rfl | rfl) <;> omega)), by omega, by omega, by omega⟩
      clear HL hE4 hm4 hX4 hb4 hq4 hc4 hW5 hN a5 c5 d5 z5 hT0 hr2 hrn zW hlq hlq0 hlen hN8 hc5 hb04 lsp lqx lbx lan hq5 hgS n1 n2 n3 n4 n5 n6 hBne hBOk v1 v2 v3 v4 zq dr
      refine range_mut (n := 4) (by decide) (gf := 24) (lb := #[.pointer (some ⟨w1.heap.size + 1, 0, none⟩)]) rfl (enters_of Try.func24 (by kernel_rfl) rfl)
        (fun vs W => ∃ b i, i < N ∧ vs = #[.agg #[.int .u64 (X i).t, .int .i64 (X i).s, .int .u64 (X i).q, .int .i64 (X i).d, .int .i64 (X i).k, .int .i64 (X i).v]] ∧ JJ (⟨w.heap.size + 1, w.heap.size + 1 + 1, w.heap.size + 1 + 1 + 1, w1.heap.size, w3.heap.size, W4.heap.size, W4.heap.size + 1, b0, W5.heap.size⟩ : Bx) wa.heap.size qb ((M : Int) + 1) (8192 * (M : Int) + 8192 + 140000000 * (r : Int)) N X (.slice po ns co) zs s (W5.heap.size + 1) W5 g0 b i W)
        (fun vs W a' W' => ∃ b i, i < N ∧ vs = #[.agg #[.int .u64 (X i).t, .int .i64 (X i).s, .int .u64 (X i).q, .int .i64 (X i).d, .int .i64 (X i).k, .int .i64 (X i).v]] ∧ JJ (⟨w.heap.size + 1, w.heap.size + 1 + 1, w.heap.size + 1 + 1 + 1, w1.heap.size, w3.heap.size, W4.heap.size, W4.heap.size + 1, b0, W5.heap.size⟩ : Bx) wa.heap.size qb ((M : Int) + 1) (8192 * (M : Int) + 8192 + 140000000 * (r : Int)) N X (.slice po ns co) zs s (W5.heap.size + 1) W5 g0 b i W ∧ a' = { tmps := #[u 0, u 1, u 2, u 3, u 4, u 5, .pointer (some ⟨w.heap.size + 1, 0, none⟩), .pointer (some ⟨w.heap.size + 1 + 1, 0, none⟩), .pointer (some ⟨w.heap.size + 1 + 1 + 1, 0, none⟩), .pointer (some ⟨w1.heap.size, 0, none⟩), u 10, .func (.func 24) #[] #[.pointer (some ⟨w1.heap.size + 1, 0, none⟩)], u 12, .pointer (some ⟨w3.heap.size, 0, none⟩), .int .i64 (r : Int), .pointer (some ⟨W4.heap.size, 0, none⟩), .pointer (some ⟨W4.heap.size + 1, 0, none⟩), .pointer (some ⟨W.heap.size, 0, none⟩), u 18, u 19, u 20, u 21, u 22, u 23, u 24, u 25, u 26, u 27, u 28, u 29, u 30, u 31, u 32, u 33, u 34, u 35, u 36, u 37, .int .i64 (r : Int), .bool true, u 40, u 41, .pointer (some ⟨qb, 0, none⟩), .slice (some ⟨b0, 0, none⟩) N N, .func (.func 24) #[] #[.pointer (some ⟨w1.heap.size + 1, 0, none⟩)], .agg #[.int .u64 (X i).t, .int .i64 (X i).s, .int .u64 (X i).q, .int .i64 (X i).d, .int .i64 (X i).k, .int .i64 (X i).v], u 46, u 47, u 48, u 49, u 50, u 51, u 52, u 53, u 54, u 55, u 56, u 57, u 58, u 59, u 60, u 61, u 62, u 63, u 64, u 65, u 66, u 67, u 68, u 69, u 70, u 71, u 72, u 73, u 74, u 75, u 76, u 77, u 78, u 79, u 80, u 81, u 82, u 83, u 84, u 85, u 86], defers := [] } ∧ But (W5.heap.size + 1) (W.alloc (.cells #[.int .u64 (X i).t, .int .i64 (X i).s, .int .u64 (X i).q, .int .i64 (X i).d, .int .i64 (X i).k, .int .i64 (X i).v] 27)) W')
        (fun vs W W' => OO (⟨w.heap.size + 1, w.heap.size + 1 + 1, w.heap.size + 1 + 1 + 1, w1.heap.size, w3.heap.size, W4.heap.size, W4.heap.size + 1, b0, W5.heap.size⟩ : Bx) wa.heap.size qb ((M : Int) + 1) (8192 * (M : Int) + 8192 + 140000000 * (r : Int)) N X (.slice po ns co) zs s (W5.heap.size + 1) W W') (fun c vs W W' => OX (⟨w.heap.size + 1, w.heap.size + 1 + 1, w.heap.size + 1 + 1 + 1, w1.heap.size, w3.heap.size, W4.heap.size, W4.heap.size + 1, b0, W5.heap.size⟩ : Bx) wa.heap.size qb ((M : Int) + 1) (8192 * (M : Int) + 8192 + 140000000 * (r : Int)) N X (.slice po ns co) zs s (W5.heap.size + 1) c W W') ?hA (fun vs W W1 W2 h1 h2 => h1.but hxL hqL h2) (fun c vs W W1 W2 h1 h2 => h1.but hxL hqL h2) ?assign ?body ?ps
        (fun W => ∃ g i, ET (⟨w.heap.size + 1, w.heap.size + 1 + 1, w.heap.size + 1 + 1 + 1, w1.heap.size, w3.heap.size, W4.heap.size, W4.heap.size + 1, b0, W5.heap.size⟩ : Bx) wa.heap.size qb ((M : Int) + 1) (8192 * (M : Int) + 8192 + 140000000 * (r : Int)) N X (.slice po ns co) zs s (W5.heap.size + 1) W5 g0 g i W) (fun c W => c = .exit 2 ∧ ∃ g i, ET (⟨w.heap.size + 1, w.heap.size + 1 + 1, w.heap.size + 1 + 1 + 1, w1.heap.size, w3.heap.size, W4.heap.size, W4.heap.size + 1, b0, W5.heap.size⟩ : Bx) wa.heap.size qb ((M : Int) + 1) (8192 * (M : Int) + 8192 + 140000000 * (r : Int)) N X (.slice po ns co) zs s (W5.heap.size + 1) W5 g0 g i W) ?seq ?done ?stop
      case hA =>
        rintro vs W a' W1 W2 ⟨b, i, h0, h1, h2, h3, h4⟩ hb
        exact ⟨b, i, h0, h1, h2, h3, ⟨⟨hb.1.1.trans h4.1.1, hb.1.2.1.trans h4.1.2.1, hb.1.2.2.trans h4.1.2.2⟩, hb.2.1.trans h4.2.1, fun k hk => (hb.2.2 k hk).trans (h4.2.2 k hk)⟩⟩
      case ps =>
        rintro vs W ⟨b, i, h0, rfl, _⟩
        rfl
      case assign =>
        rintro m vs W K ⟨b, i, h0, rfl, h1⟩ hLs hK
        gi_wp2
        exact hK _ _ ⟨b, i, h0, rfl, h1, rfl, ⟨⟨rfl, rfl, rfl⟩, rfl, fun _ _ => rfl⟩⟩ (((Below.refl _ W).alloc (Nat.le_refl _) _).block _ hLs)
      case body =>
        rintro m vs V a' V' rc ⟨b, i, hi, rfl, hj, rfl, hbut⟩ hlr
        obtain ⟨a1, a2, a3, a4, a5, a6, a7, a8, a9, a10, a11, a12⟩ := HH.out
        obtain ⟨g1', g2, g3, g4, g5, g6, g7, g8, g9, g10⟩ := HG.out
        obtain ⟨v1, v2, v3, v4⟩ := HS3.out
        obtain ⟨hT0, hr2, hrn⟩ := HT.out
        obtain ⟨b1, b2, b3, b4, b5, b6, b7, b8, b9⟩ := Bx.h1 (⟨w.heap.size + 1, w.heap.size + 1 + 1, w.heap.size + 1 + 1 + 1, w1.heap.size, w3.heap.size, W4.heap.size, W4.heap.size + 1, b0, W5.heap.size⟩ : Bx)
        obtain ⟨g, hs, hgb, hgL⟩ := hj.j.s
        have hll := hj.j.ll
        have hz := hj.z
        have hsl := hT0.hs
        have hfz := hj.f.ch.size
        have hbV : Below w.heap.size w V := g7.trans (hj.f.ch.toBelow g7.size (by rintro k (rfl | rfl | rfl | rfl); exact Nat.le_trans (by omega) (QS.lt hT0.q).1.2; exact Nat.le_trans (by omega) (QS.lt hT0.q).2.2; exact (by (try dsimp only); have := HZ4.out; have := hT0.bel.size; omega); exact (by (try dsimp only); omega)))
        have hal : Below V.heap.size V (V.alloc (.cells #[.int .u64 (X i).t, .int .i64 (X i).s, .int .u64 (X i).q, .int .i64 (X i).d, .int .i64 (X i).k, .int .i64 (X i).v] 27)) := (Below.refl _ V).alloc (Nat.le_refl _) _
        have hVz : V'.heap.size = V.heap.size + 1 := by rw [hbut.2.1]; simp
        have hcb : Ch (fun k => k = (W5.heap.size + 1)) V V' := ⟨hbut.1.1.trans hal.os, hbut.1.2.1.trans hal.tape, hbut.1.2.2.trans hal.output, by omega, fun k hk hk2 => (hbut.2.2 k hk2).trans (hal.block k hk)⟩
        have hs' : Sti (⟨w.heap.size + 1, w.heap.size + 1 + 1, w.heap.size + 1 + 1 + 1, w1.heap.size, w3.heap.size, W4.heap.size, W4.heap.size + 1, b0, W5.heap.size⟩ : Bx) wa.heap.size qb ((M : Int) + 1) (8192 * (M : Int) + 8192 + 140000000 * (r : Int)) N X (.slice po ns co) zs s g i i V' := hs.keep hcb (fun k hk e => (a10 k hk).2.2 e) (fun e => hqL e.symm) hgL
        have hE : V'.heap[V.heap.size]? = some (.cells #[.int .u64 (X i).t, .int .i64 (X i).s, .int .u64 (X i).q, .int .i64 (X i).d, .int .i64 (X i).k, .int .i64 (X i).v] 27 (0, 0)) := (hbut.2.2 _ (by omega)).trans (World.alloc_heap_new V _)
        obtain ⟨si, hsi⟩ : ∃ si, s + i = si := ⟨_, rfl⟩
        have HFIN : Hid (∀ (Va : World) (g' : Nat), Sti (⟨w.heap.size + 1, w.heap.size + 1 + 1, w.heap.size + 1 + 1 + 1, w1.heap.size, w3.heap.size, W4.heap.size, W4.heap.size + 1, b0, W5.heap.size⟩ : Bx) wa.heap.size qb ((M : Int) + 1) (8192 * (M : Int) + 8192 + 140000000 * (r : Int)) N X (.slice po ns co) zs s g' i (i + 1) Va → (g' = g ∨ V.heap.size ≤ g') → g' ≠ (W5.heap.size + 1) → Ch (fun k => k = qb ∨ k = g ∨ k = (W5.heap.size + 1)) V Va → Va.heap[(W5.heap.size + 1)]? = some (.loop rc) → ((Va.setCell ⟨w3.heap.size, 0, none⟩ (.int .i64 ((si : Int) + 1))).setCell ⟨W4.heap.size + 1, 0, none⟩ (.int .i64 ((i : Int) + 1))).heap[(W5.heap.size + 1)]? = some (.loop rc) ∧ (i + 1 ≤ zs → OO (⟨w.heap.size + 1, w.heap.size + 1 + 1, w.heap.size + 1 + 1 + 1, w1.heap.size, w3.heap.size, W4.heap.size, W4.heap.size + 1, b0, W5.heap.size⟩ : Bx) wa.heap.size qb ((M : Int) + 1) (8192 * (M : Int) + 8192 + 140000000 * (r : Int)) N X (.slice po ns co) zs s (W5.heap.size + 1) V ((Va.setCell ⟨w3.heap.size, 0, none⟩ (.int .i64 ((si : Int) + 1))).setCell ⟨W4.heap.size + 1, 0, none⟩ (.int .i64 ((i : Int) + 1)))) ∧ (i = zs → OX (⟨w.heap.size + 1, w.heap.size + 1 + 1, w.heap.size + 1 + 1 + 1, w1.heap.size, w3.heap.size, W4.heap.size, W4.heap.size + 1, b0, W5.heap.size⟩ : Bx) wa.heap.size qb ((M : Int) + 1) (8192 * (M : Int) + 8192 + 140000000 * (r : Int)) N X (.slice po ns co) zs s (W5.heap.size + 1) (.exit 2) V ((Va.setCell ⟨w3.heap.size, 0, none⟩ (.int .i64 ((si : Int) + 1))).setCell ⟨W4.heap.size + 1, 0, none⟩ (.int .i64 ((i : Int) + 1))))) := by
          intro Va g' h1 h2 h3 h4 h5
          have hn := h1.next a11
          rw [hsi] at hn
          have hoe : OE (⟨w.heap.size + 1, w.heap.size + 1 + 1, w.heap.size + 1 + 1 + 1, w1.heap.size, w3.heap.size, W4.heap.size, W4.heap.size + 1, b0, W5.heap.size⟩ : Bx) wa.heap.size qb ((M : Int) + 1) (8192 * (M : Int) + 8192 + 140000000 * (r : Int)) N X (.slice po ns co) zs s (W5.heap.size + 1) V ((Va.setCell ⟨w3.heap.size, 0, none⟩ (.int .i64 ((si : Int) + 1))).setCell ⟨W4.heap.size + 1, 0, none⟩ (.int .i64 ((i : Int) + 1))) := by
            refine ⟨g, g', i, hs, hn, h2, h3, ?_⟩
            refine (h4.mono ?_).trans ((Ch.set _ Va _ 0 _ ?_).trans (Ch.set _ _ _ 0 _ ?_))
            · rintro k (e | e | e)
              · exact .inl e
              · exact .inr (.inl e)
              · exact .inr (.inr (.inr (.inr e)))
            · exact .inr (.inr (.inr (.inl rfl)))
            · exact .inr (.inr (.inl rfl))
          refine ⟨(set_other _ (fun e => (a10 _ b7).2.2 e.symm)).trans ((set_other _ (fun e => (a10 _ b5).2.2 e.symm)).trans h5), fun hh => ⟨hoe, i + 1, hh, hn.at_⟩, fun hh => ⟨rfl, hoe, by rw [← hh]; exact hn.at_⟩⟩
        have HST : Hid (∀ (Y : World) (g' j : Nat), Sti (⟨w.heap.size + 1, w.heap.size + 1 + 1, w.heap.size + 1 + 1 + 1, w1.heap.size, w3.heap.size, W4.heap.size, W4.heap.size + 1, b0, W5.heap.size⟩ : Bx) wa.heap.size qb ((M : Int) + 1) (8192 * (M : Int) + 8192 + 140000000 * (r : Int)) N X (.slice po ns co) zs s g' i j Y → Y.heap[w3.heap.size]? = some (.cells #[.int .i64 (si : Int)] 3 (0, 0))) := fun Y g' j h => by have := h.sp; rw [hsi] at this; exact this
        have HV : Hid (Sti (⟨w.heap.size + 1, w.heap.size + 1 + 1, w.heap.size + 1 + 1 + 1, w1.heap.size, w3.heap.size, W4.heap.size, W4.heap.size + 1, b0, W5.heap.size⟩ : Bx) wa.heap.size qb ((M : Int) + 1) (8192 * (M : Int) + 8192 + 140000000 * (r : Int)) N X (.slice po ns co) zs s g i i V' ∧ Ch (fun k => k = (W5.heap.size + 1)) V V' ∧ V'.heap[(W5.heap.size + 1)]? = some (.loop rc) ∧ g ≠ (W5.heap.size + 1) ∧ (W5.heap.size + 1) < V.heap.size ∧ V'.heap.size = V.heap.size + 1 ∧ Below w.heap.size w V ∧ i < N ∧ N ≤ 8192 ∧ M ≤ 4000 ∧ r < 2 ∧ i ≤ zs ∧ W4.heap.size + 1 ≠ w3.heap.size ∧ wa.heap.size ≤ qb ∧ w.heap.size + 4 = wa.heap.size) := ⟨hs', hcb, hlr, hgL, hll, hVz, hbV, hi, a9, v4, hr2, hz, (a11.a).2.2.2.2.1, hT0.q.lt.1.2, v1⟩
        have z1 : V'.cell? ⟨W4.heap.size + 1, 0, none⟩ = some (.int .i64 (i : Int)) := (cell_of hs'.at_).1
        have z2 : V'.cell? ⟨W4.heap.size, 0, none⟩ = some (.slice (some ⟨b0, 0, none⟩) N N) := (cell_of hs'.al).1
        obtain ⟨eb, heb⟩ : ∃ eb, V.heap.size = eb := ⟨_, rfl⟩
        rw [heb] at hE ⊢
        have HEB : Hid (V.heap.size = eb) := heb
        obtain ⟨y0, y1, y2, y3, y4, y5⟩ := evsAt1 hs'.ra hi
        obtain ⟨xt, hxt⟩ : ∃ x, (X i).t = x := ⟨_, rfl⟩
        obtain ⟨xs, hxs⟩ : ∃ x, (X i).s = x := ⟨_, rfl⟩
        obtain ⟨xq, hxq⟩ : ∃ x, (X i).q = x := ⟨_, rfl⟩
        obtain ⟨xd, hxd⟩ : ∃ x, (X i).d = x := ⟨_, rfl⟩
        obtain ⟨xk, hxk⟩ : ∃ x, (X i).k = x := ⟨_, rfl⟩
        obtain ⟨xv, hxv⟩ : ∃ x, (X i).v = x := ⟨_, rfl⟩
        rw [hxt, hxs, hxq, hxd, hxk, hxv] at hE ⊢
        rw [hxt] at y0
        rw [hxs] at y1
        rw [hxq] at y2
        rw [hxd] at y3
        rw [hxk] at y4
        rw [hxv] at y5
        have x0 : V'.cell? ⟨eb, 0, none⟩ = some (.int .u64 xt) := by simp [World.cell?, hE]
        have x1 : V'.cell? ⟨eb, 1, none⟩ = some (.int .i64 xs) := by simp [World.cell?, hE]
        have x2 : V'.cell? ⟨eb, 2, none⟩ = some (.int .u64 xq) := by simp [World.cell?, hE]
        have x3 : V'.cell? ⟨eb, 3, none⟩ = some (.int .i64 xd) := by simp [World.cell?, hE]
        have x4 : V'.cell? ⟨eb, 4, none⟩ = some (.int .i64 xk) := by simp [World.cell?, hE]
        have x5 : V'.cell? ⟨eb, 5, none⟩ = some (.int .i64 xv) := by simp [World.cell?, hE]
        have ne1 := neq_evV xt xs xq xd xk xv
        have d1 : decide ((i : Int) ≥ (N : Int)) = false := decide_eq_false (by omega)
        have d2 : decide ((N : Int) ≤ (i : Int)) = false := decide_eq_false (by omega)
        have d3 : decide (N ≤ i) = false := decide_eq_false (by omega)
        have i0 : (0 : Int) ≤ (i : Int) := by omega
        have i1 : (i : Int) < (N : Int) := by omega
        have ei : IntKind.i64.wrap ((i : Int) + 1) = (i : Int) + 1 := by rw [IntKind.wrap_i64]; omega
        have es : IntKind.i64.wrap ((si : Int) + 1) = (si : Int) + 1 := by rw [IntKind.wrap_i64]; omega
        clear a1 a2 a3 a4 a5 a6 a7 a8 a9 a10 a11 a12 g1' g2 g3 g4 g5 g6 g7 g8 g9 g10 v1 v2 v3 v4 hT0 hr2 hrn b1 b2 b3 b4 b5 b6 b7 b8 b9 hs hgb hgL hll hz hsl hfz hbV hal hVz hcb hs' hE hj hbut hlr hi hsi hxt hxs hxq hxd hxk hxv heb hxL hqL
        gi_wp2
        refine region_quietR (by kernel_rfl) (by kernel_rfl) (by kernel_rfl) ?_
        repeat (gi_big_quiet_step (fail))
        refine wpQuietIn_nil ?_
        intro _ hw'
        obtain ⟨nq, hw''⟩ := hw'
        subst hw''
        obtain ⟨Vq, hVq⟩ : ∃ Vq, V'.drewN nq = Vq := ⟨_, rfl⟩
        have hbq : Below V'.heap.size V' Vq := by rw [← hVq]; exact below_drewNq _ _ _
        rw [hVq]
        clear hVq z1 z2 y0 y1 y2 y3 y4 y5 x0 x1 x2 x3 x4 x5 ne1 d1 d2 d3 i0 i1
        obtain ⟨c1, c2, c3, c4, c5, c6, c7', c8, c9, c10, c11, c12, c13, c14, c15⟩ := HV.out
        have hsq := c1.later hbq
        have f1 : Vq.cell? ⟨w3.heap.size, 0, none⟩ = some (.int .i64 (si : Int)) := (cell_of (HST.out Vq g i hsq)).1
        have f2 : Vq.cell? ⟨w.heap.size + 1, 0, none⟩ = some (.slice po ns co) := (cell_of hsq.sc).1
        have hcq : Ch (fun k => k = (W5.heap.size + 1)) V Vq := c2.trans (Ch.below hbq)
        have hlq := (hbq.block (W5.heap.size + 1) (by omega)).trans c3
        have hszq := hbq.size
        have HQ : Hid (Sti (⟨w.heap.size + 1, w.heap.size + 1 + 1, w.heap.size + 1 + 1 + 1, w1.heap.size, w3.heap.size, W4.heap.size, W4.heap.size + 1, b0, W5.heap.size⟩ : Bx) wa.heap.size qb ((M : Int) + 1) (8192 * (M : Int) + 8192 + 140000000 * (r : Int)) N X (.slice po ns co) zs s g i i Vq ∧ Ch (fun k => k = (W5.heap.size + 1)) V Vq ∧ Vq.heap[(W5.heap.size + 1)]? = some (.loop rc) ∧ (W5.heap.size + 1) < Vq.heap.size ∧ V.heap.size ≤ Vq.heap.size) := ⟨hsq, hcq, hlq, by omega, by omega⟩
        have FAC : ∀ (Va : World) (g' j : Nat), Sti (⟨w.heap.size + 1, w.heap.size + 1 + 1, w.heap.size + 1 + 1 + 1, w1.heap.size, w3.heap.size, W4.heap.size, W4.heap.size + 1, b0, W5.heap.size⟩ : Bx) wa.heap.size qb ((M : Int) + 1) (8192 * (M : Int) + 8192 + 140000000 * (r : Int)) N X (.slice po ns co) zs s g' i j Va → Hid ((Va.cell? ⟨w3.heap.size, 0, none⟩ = some (.int .i64 (si : Int)) ∧ Va.frozen? ⟨w3.heap.size, 0, none⟩ = false) ∧ ((Va.setCell ⟨w3.heap.size, 0, none⟩ (.int .i64 ((si : Int) + 1))).cell? ⟨W4.heap.size + 1, 0, none⟩ = some (.int .i64 (i : Int)) ∧ (Va.setCell ⟨w3.heap.size, 0, none⟩ (.int .i64 ((si : Int) + 1))).frozen? ⟨W4.heap.size + 1, 0, none⟩ = false) ∧ ((Va.setCell ⟨w3.heap.size, 0, none⟩ (.int .i64 ((si : Int) + 1))).setCell ⟨W4.heap.size + 1, 0, none⟩ (.int .i64 ((i : Int) + 1))).cell? ⟨W4.heap.size + 1, 0, none⟩ = some (.int .i64 ((i : Int) + 1)) ∧ ((Va.setCell ⟨w3.heap.size, 0, none⟩ (.int .i64 ((si : Int) + 1))).setCell ⟨W4.heap.size + 1, 0, none⟩ (.int .i64 ((i : Int) + 1))).cell? ⟨w.heap.size + 1 + 1, 0, none⟩ = some (.int .i64 (zs : Int))) := fun Va g' j h => by
          have k0 := HST.out Va g' j h
          have hBO := HH.out.2.2.2.2.2.2.2.2.2.2.1
          have k1 := (set_other (w := Va) (b := w3.heap.size) (k := W4.heap.size + 1) (.int .i64 ((si : Int) + 1)) (HV.out.2.2.2.2.2.2.2.2.2.2.2.2.1)).trans h.at_
          have k2 := setCell_block (Va.setCell ⟨w3.heap.size, 0, none⟩ (.int .i64 ((si : Int) + 1))) (W4.heap.size + 1) 0 (.int .i64 ((i : Int) + 1)) k1
          have k3 : ((Va.setCell ⟨w3.heap.size, 0, none⟩ (.int .i64 ((si : Int) + 1))).setCell ⟨W4.heap.size + 1, 0, none⟩ (.int .i64 ((i : Int) + 1))).heap[w.heap.size + 1 + 1]? = _ := (set_other _ (fun e => hBO.a.2.1 e.symm)).trans ((set_other _ (fun e => hBO.s.2.1 e.symm)).trans h.st)
          exact ⟨cell_of k0, cell_of k1, (cell_of k2).1, (cell_of k3).1⟩
        have FINI : ∀ (Va : World) (g' : Nat), Sti (⟨w.heap.size + 1, w.heap.size + 1 + 1, w.heap.size + 1 + 1 + 1, w1.heap.size, w3.heap.size, W4.heap.size, W4.heap.size + 1, b0, W5.heap.size⟩ : Bx) wa.heap.size qb ((M : Int) + 1) (8192 * (M : Int) + 8192 + 140000000 * (r : Int)) N X (.slice po ns co) zs s g' i (i + 1) Va → (g' = g ∨ Vq.heap.size ≤ g') → Ch (S2 qb g) Vq Va → Hid (((Va.setCell ⟨w3.heap.size, 0, none⟩ (.int .i64 ((si : Int) + 1))).setCell ⟨W4.heap.size + 1, 0, none⟩ (.int .i64 ((i : Int) + 1))).heap[(W5.heap.size + 1)]? = some (.loop rc) ∧ (i + 1 ≤ zs → OO (⟨w.heap.size + 1, w.heap.size + 1 + 1, w.heap.size + 1 + 1 + 1, w1.heap.size, w3.heap.size, W4.heap.size, W4.heap.size + 1, b0, W5.heap.size⟩ : Bx) wa.heap.size qb ((M : Int) + 1) (8192 * (M : Int) + 8192 + 140000000 * (r : Int)) N X (.slice po ns co) zs s (W5.heap.size + 1) V ((Va.setCell ⟨w3.heap.size, 0, none⟩ (.int .i64 ((si : Int) + 1))).setCell ⟨W4.heap.size + 1, 0, none⟩ (.int .i64 ((i : Int) + 1)))) ∧ (i = zs → OX (⟨w.heap.size + 1, w.heap.size + 1 + 1, w.heap.size + 1 + 1 + 1, w1.heap.size, w3.heap.size, W4.heap.size, W4.heap.size + 1, b0, W5.heap.size⟩ : Bx) wa.heap.size qb ((M : Int) + 1) (8192 * (M : Int) + 8192 + 140000000 * (r : Int)) N X (.slice po ns co) zs s (W5.heap.size + 1) (.exit 2) V ((Va.setCell ⟨w3.heap.size, 0, none⟩ (.int .i64 ((si : Int) + 1))).setCell ⟨W4.heap.size + 1, 0, none⟩ (.int .i64 ((i : Int) + 1))))) := fun Va g' h1 h2 h3 => by
          obtain ⟨q1, q2, q3, q4, q5⟩ := HQ.out
          have hgl := HV.out.2.2.2.1
          refine HFIN.out Va g' h1 ?_ ?_ ?_ ?_
          · rcases h2 with h2 | h2
            · exact .inl h2
            · exact .inr (by omega)
          · rcases h2 with rfl | h2
            · exact hgl
            · omega
          · exact (q2.mono fun k e => .inr (.inr e)).trans (h3.mono fun k e => by rcases e with e | e; exact .inl e; exact .inr (.inl e))
          · exact (h3.block _ q4 (fun e => by rcases e with e | e; exact HQL.out e; exact hgl e.symm)).trans q3
        clear hsq hcq hlq hszq hbq c1 c2 c3 c4 c5 c6 c7' c8 c9 c10 c11 c12 c13 c14 c15
        by_cases hlt : si < ns
        case neg =>
          have dlt : decide ((si : Int) < (ns : Int)) = false := decide_eq_false (by omega)
          have dltN : decide (si < ns) = false := decide_eq_false (by omega)
          have hidle := HQ.out.1.idle
          have FI := FINI Vq g hidle (.inl rfl) (Ch.refl _ _)
          obtain ⟨⟨e1, e2⟩, ⟨e3, e4⟩, e5, e6⟩ := (FAC Vq g i HQ.out.1).out
          clear FINI FAC HFIN HST hidle f1 hlt
          by_cases hiz : i = zs
          case pos =>
            have dg : decide ((i : Int) + 1 > (zs : Int)) = true := decide_eq_true (by omega)
            have dg2 : decide ((zs : Int) < (i : Int) + 1) = true := decide_eq_true (by omega)
            have FI2 : Hid (_ ∧ OX (⟨w.heap.size + 1, w.heap.size + 1 + 1, w.heap.size + 1 + 1 + 1, w1.heap.size, w3.heap.size, W4.heap.size, W4.heap.size + 1, b0, W5.heap.size⟩ : Bx) wa.heap.size qb ((M : Int) + 1) (8192 * (M : Int) + 8192 + 140000000 * (r : Int)) N X (.slice po ns co) zs s (W5.heap.size + 1) (.exit 2) V _) := ⟨FI.out.1, FI.out.2.2 hiz⟩
            clear FI hiz
            gi_wp2
            exact FI2.out
          case neg =>
            have hz := HV.out.2.2.2.2.2.2.2.2.2.2.2.1
            have dg : decide ((i : Int) + 1 > (zs : Int)) = false := decide_eq_false (by omega)
            have dg2 : decide ((zs : Int) < (i : Int) + 1) = false := decide_eq_false (by omega)
            have FI2 : Hid (_ ∧ OO (⟨w.heap.size + 1, w.heap.size + 1 + 1, w.heap.size + 1 + 1 + 1, w1.heap.size, w3.heap.size, W4.heap.size, W4.heap.size + 1, b0, W5.heap.size⟩ : Bx) wa.heap.size qb ((M : Int) + 1) (8192 * (M : Int) + 8192 + 140000000 * (r : Int)) N X (.slice po ns co) zs s (W5.heap.size + 1) V _) := ⟨FI.out.1, FI.out.2.1 (by omega)⟩
            clear FI hiz hz
            gi_wp2
            exact FI2.out
        case pos =>
          have dlt : decide ((si : Int) < (ns : Int)) = true := decide_eq_true (by omega)
          have dltN : decide (si < ns) = true := decide_eq_true (by omega)
          have hz := HV.out.2.2.2.2.2.2.2.2.2.2.2.1
          have hbw := HV.out.2.2.2.2.2.2.1
          have hbVq : Below w.heap.size w Vq := hbw.trans (HQ.out.2.1.toBelow hbw.size (by rintro k rfl; have := HH.out.2.2.2.2.1; have := HZ4.out; have := HT.out.1.bel.size; omega))
          obtain ⟨pb, po', hpo, _⟩ := ops_cells HOP.out hlt
          subst hpo
          have KS : ∀ (Y : World) (g' j : Nat), Sti (⟨w.heap.size + 1, w.heap.size + 1 + 1, w.heap.size + 1 + 1 + 1, w1.heap.size, w3.heap.size, W4.heap.size, W4.heap.size + 1, b0, W5.heap.size⟩ : Bx) wa.heap.size qb ((M : Int) + 1) (8192 * (M : Int) + 8192 + 140000000 * (r : Int)) N X (.slice (some ⟨pb, po', none⟩) ns co) zs s g' i j Y → Below w.heap.size w Y → ((Y.cell? ⟨w1.heap.size, 0, none⟩ = some (.pointer (some ⟨qb, 0, none⟩)) ∧ Y.cell? ⟨w.heap.size + 1, 0, none⟩ = some (.slice (some ⟨pb, po', none⟩) ns co) ∧ Y.cell? ⟨w3.heap.size, 0, none⟩ = some (.int .i64 (si : Int))) ∧ Y.cell? ⟨pb, po' + si * 7, none⟩ = some (.int .i64 (O si).kd) ∧ Y.cell? ⟨pb, po' + si * 7 + 1, none⟩ = some (.int .i64 (O si).wh) ∧ Y.cell? ⟨pb, po' + si * 7 + 2, none⟩ = some (.int .u64 (O si).t) ∧ Y.cell? ⟨pb, po' + si * 7 + 3, none⟩ = some (.int .i64 (O si).s) ∧ Y.cell? ⟨pb, po' + si * 7 + 4, none⟩ = some (.int .u64 (O si).q) ∧ Y.cell? ⟨pb, po' + si * 7 + 5, none⟩ = some (.int .i64 (O si).d) ∧ Y.cell? ⟨pb, po' + si * 7 + 6, none⟩ = some (.int .i64 (O si).n)) := fun Y g' j h1 h2 => by
            refine ⟨⟨(cell_of h1.qx).1, (cell_of h1.sc).1, (cell_of (HST.out Y g' j h1)).1⟩, ?_⟩
            obtain ⟨b', o', e', h9⟩ := ops_cells (ops_below HOP.out h2) hlt
            injection e' with e'
            injection e' with e1 e2
            subst e1 e2
            exact h9
          have HKS : Hid (∀ (Y : World) (g' j : Nat), Sti (⟨w.heap.size + 1, w.heap.size + 1 + 1, w.heap.size + 1 + 1 + 1, w1.heap.size, w3.heap.size, W4.heap.size, W4.heap.size + 1, b0, W5.heap.size⟩ : Bx) wa.heap.size qb ((M : Int) + 1) (8192 * (M : Int) + 8192 + 140000000 * (r : Int)) N X (.slice (some ⟨pb, po', none⟩) ns co) zs s g' i j Y → Below w.heap.size w Y → _) := KS
          have HBV : Hid (Below w.heap.size w Vq) := hbVq
          obtain ⟨LQ, hqq⟩ := HQ.out.1.q
          have hdrw : Below Vq.heap.size Vq Vq.drew := (Below.refl _ Vq).drew
          have hsd := HQ.out.1.later hdrw
          have hAC := act_any (O si) Vq.drew (hqq.later hdrw) (by have := HV.out.2.2.2.2.2.2.2.2; have := HV.out.2.2.2.2.2.2.2.1; omega)
          have HAC : Hid (Calls Try.prog 9 #[.pointer (some ⟨qb, 0, none⟩), .agg (opA (O si))] Vq.drew fun e W' => e = .returned (.tuple #[]) ∧ ∃ g' L', QS wa.heap.size qb g' ((M : Int) + 1) ((8192 * (M : Int) + 8192 + 140000000 * (r : Int)) + 16384 * (i : Int) + 16384) L' W' ∧ (g' = g ∨ Vq.drew.heap.size ≤ g') ∧ Ch (S2 qb g) Vq.drew W') := hAC
          have s0 : (0 : Int) ≤ (si : Int) := by omega
          have s1 : (si : Int) < (ns : Int) := by omega
          have HSD : Hid (Sti (⟨w.heap.size + 1, w.heap.size + 1 + 1, w.heap.size + 1 + 1 + 1, w1.heap.size, w3.heap.size, W4.heap.size, W4.heap.size + 1, b0, W5.heap.size⟩ : Bx) wa.heap.size qb ((M : Int) + 1) (8192 * (M : Int) + 8192 + 140000000 * (r : Int)) N X (.slice (some ⟨pb, po', none⟩) ns co) zs s g i i Vq.drew ∧ Below w.heap.size w Vq.drew ∧ Vq.drew.heap.size = Vq.heap.size ∧ Below Vq.heap.size Vq Vq.drew ∧ wa.heap.size ≤ qb ∧ wa.heap.size ≤ g ∧ w.heap.size ≤ wa.heap.size) := ⟨hsd, hbVq.trans (hdrw.mono hbVq.size), rfl, hdrw, hqq.lt.1.2, hqq.lt.2.2, by have := HV.out.2.2.2.2.2.2.2.2.2.2.2.2.2.2; omega⟩
          have hkd := KS Vq.drew g i hsd HSD.out.2.1
          clear hAC hsd hdrw hqq hbVq hbw KS hlt HST
          gi_wp2_with fail
          refine region_heldR (S := fun Y => ((Y.cell? ⟨w1.heap.size, 0, none⟩ = some (.pointer (some ⟨qb, 0, none⟩)) ∧ Y.cell? ⟨w.heap.size + 1, 0, none⟩ = some (.slice (some ⟨pb, po', none⟩) ns co) ∧ Y.cell? ⟨w3.heap.size, 0, none⟩ = some (.int .i64 (si : Int))) ∧ Y.cell? ⟨pb, po' + si * 7, none⟩ = some (.int .i64 (O si).kd) ∧ Y.cell? ⟨pb, po' + si * 7 + 1, none⟩ = some (.int .i64 (O si).wh) ∧ Y.cell? ⟨pb, po' + si * 7 + 2, none⟩ = some (.int .u64 (O si).t) ∧ Y.cell? ⟨pb, po' + si * 7 + 3, none⟩ = some (.int .i64 (O si).s) ∧ Y.cell? ⟨pb, po' + si * 7 + 4, none⟩ = some (.int .u64 (O si).q) ∧ Y.cell? ⟨pb, po' + si * 7 + 5, none⟩ = some (.int .i64 (O si).d) ∧ Y.cell? ⟨pb, po' + si * 7 + 6, none⟩ = some (.int .i64 (O si).n))) (by kernel_rfl) (by rintro ⟨_, _, h9⟩; exact h9.2) (by kernel_rfl) hkd (fun hHeld => ?_)
          refine wpAnyH_take (i := 0) (v := .pointer (some ⟨qb, 0, none⟩)) rfl (by kernel_rfl) (by kernel_rfl) (by kernel_rfl) (fun _ _ _ h => h) (Or.inl ⟨by rfl, by (intro W9 hSw; obtain ⟨⟨t0, t1, t2⟩, t3, t4, t5, t6, t7, t8, t9⟩ := hSw; go_simp; try with_reducible rfl)⟩) (by assumption) ?_
          simp only [List.getElem_toArray, List.getElem_cons_zero, List.getElem_cons_succ, Act.put, List.setIfInBounds_toArray, List.set_cons_zero, List.set_cons_succ]
          refine wpAnyH_take (i := 1) (v := .slice (some ⟨pb, po', none⟩) ns co) rfl (by kernel_rfl) (by kernel_rfl) (by kernel_rfl) (fun _ _ _ h => h) (Or.inl ⟨by rfl, by (intro W9 hSw; obtain ⟨⟨t0, t1, t2⟩, t3, t4, t5, t6, t7, t8, t9⟩ := hSw; go_simp; try with_reducible rfl)⟩) (by assumption) ?_
          simp only [List.getElem_toArray, List.getElem_cons_zero, List.getElem_cons_succ, Act.put, List.setIfInBounds_toArray, List.set_cons_zero, List.set_cons_succ]
          refine wpAnyH_take (i := 2) (v := .int .i64 (si : Int)) rfl (by kernel_rfl) (by kernel_rfl) (by kernel_rfl) (fun _ _ _ h => h) (Or.inl ⟨by rfl, by (intro W9 hSw; obtain ⟨⟨t0, t1, t2⟩, t3, t4, t5, t6, t7, t8, t9⟩ := hSw; go_simp; try with_reducible rfl)⟩) (by assumption) ?_
          simp only [List.getElem_toArray, List.getElem_cons_zero, List.getElem_cons_succ, Act.put, List.setIfInBounds_toArray, List.set_cons_zero, List.set_cons_succ]
          refine wpAnyH_take (i := 3) (v := .pointer (some ⟨pb, po' + si * 7, none⟩)) rfl (by kernel_rfl) (by kernel_rfl) (by kernel_rfl) (fun _ _ _ h => h) (Or.inl ⟨by rfl, by (intro W9 hSw; obtain ⟨⟨t0, t1, t2⟩, t3, t4, t5, t6, t7, t8, t9⟩ := hSw; go_simp; try with_reducible rfl)⟩) (by assumption) ?_
          simp only [List.getElem_toArray, List.getElem_cons_zero, List.getElem_cons_succ, Act.put, List.setIfInBounds_toArray, List.set_cons_zero, List.set_cons_succ]
          refine wpAnyH_take (i := 4) (v := .agg #[.int .i64 (O si).kd, .int .i64 (O si).wh, .int .u64 (O si).t, .int .i64 (O si).s, .int .u64 (O si).q, .int .i64 (O si).d, .int .i64 (O si).n]) rfl (by kernel_rfl) (by kernel_rfl) (by kernel_rfl) (fun _ _ _ h => h) (Or.inl ⟨by rfl, by (intro W9 hSw; obtain ⟨⟨t0, t1, t2⟩, t3, t4, t5, t6, t7, t8, t9⟩ := hSw; go_simp; try with_reducible rfl)⟩) (by assumption) ?_
          simp only [List.getElem_toArray, List.getElem_cons_zero, List.getElem_cons_succ, Act.put, List.setIfInBounds_toArray, List.set_cons_zero, List.set_cons_succ]
          refine wpAnyH_ready (rs := [5]) (by kernel_rfl) (by simp) (AllReadyH.cons rfl (fun KK9 hK => ?_) AllReadyH.nil)
          dsimp -proj only [List.getElem_toArray, List.getElem_cons_zero, List.getElem_cons_succ]
          go_simp
          go_at_call 9
          refine (HAC.out).mono ?_
          rintro e9 Va ⟨rfl, g', L9, hq9, hg9, hc9⟩
          try go_wp2_with fail
          obtain ⟨k1, k2, k3, k4, k5, k6, k7⟩ := HSD.out
          have hsa : Sti (⟨w.heap.size + 1, w.heap.size + 1 + 1, w.heap.size + 1 + 1 + 1, w1.heap.size, w3.heap.size, W4.heap.size, W4.heap.size + 1, b0, W5.heap.size⟩ : Bx) wa.heap.size qb ((M : Int) + 1) (8192 * (M : Int) + 8192 + 140000000 * (r : Int)) N X (.slice (some ⟨pb, po', none⟩) ns co) zs s g' i (i + 1) Va := k1.acted hq9 hg9 hc9
          have hba : Below w.heap.size w Va := k2.trans (hc9.toBelow k2.size (by rintro k (rfl | rfl) <;> omega))
          have FI := FINI Va g' hsa (by rw [k3] at hg9; exact hg9) ((Ch.below k4).trans hc9)
          obtain ⟨⟨e1, e2⟩, ⟨e3, e4⟩, e5, e6⟩ := (FAC Va g' (i + 1) hsa).out
          refine hK.out _ _ (HKS.out Va g' (i + 1) hsa hba) (fun hHeld => ?_)
          clear hK KK9 hHeld FINI FAC HFIN f1 f2 hq9 hg9 hc9 k1 k2 k3 k4 k5 k6 k7 hsa hba HKS
          try simp only [Act.put, List.setIfInBounds_toArray, List.set_cons_zero, List.set_cons_succ]
          refine wpAnyH_done (by kernel_rfl) ?_ _
          by_cases hiz : i = zs
          case pos =>
            have dg : decide ((i : Int) + 1 > (zs : Int)) = true := decide_eq_true (by omega)
            have dg2 : decide ((zs : Int) < (i : Int) + 1) = true := decide_eq_true (by omega)
            have FI2 : Hid (_ ∧ OX (⟨w.heap.size + 1, w.heap.size + 1 + 1, w.heap.size + 1 + 1 + 1, w1.heap.size, w3.heap.size, W4.heap.size, W4.heap.size + 1, b0, W5.heap.size⟩ : Bx) wa.heap.size qb ((M : Int) + 1) (8192 * (M : Int) + 8192 + 140000000 * (r : Int)) N X (.slice (some ⟨pb, po', none⟩) ns co) zs s (W5.heap.size + 1) (.exit 2) V _) := ⟨FI.out.1, FI.out.2.2 hiz⟩
            clear FI hiz hz
            gi_wp2
            exact FI2.out
          case neg =>
            have dg : decide ((i : Int) + 1 > (zs : Int)) = false := decide_eq_false (by omega)
            have dg2 : decide ((zs : Int) < (i : Int) + 1) = false := decide_eq_false (by omega)
            have FI2 : Hid (_ ∧ OO (⟨w.heap.size + 1, w.heap.size + 1 + 1, w.heap.size + 1 + 1 + 1, w1.heap.size, w3.heap.size, W4.heap.size, W4.heap.size + 1, b0, W5.heap.size⟩ : Bx) wa.heap.size qb ((M : Int) + 1) (8192 * (M : Int) + 8192 + 140000000 * (r : Int)) N X (.slice (some ⟨pb, po', none⟩) ns co) zs s (W5.heap.size + 1) V _) := ⟨FI.out.1, FI.out.2.1 (by omega)⟩
            clear FI hiz hz
            gi_wp2
            exact FI2.out
      case seq =>
        intro L D rc rx W6 hB6 hsz6 hD hL hl hd hY
        subst hD
        subst hL
        obtain ⟨a1, a2, a3, a4, a5, a6, a7, a8, a9, a10, a11, a12⟩ := HH.out
        obtain ⟨g1', g2, g3, g4, g5, g6, g7, g8, g9, g10⟩ := HG.out
        obtain ⟨b1, b2, b3, b4, b5, b6, b7, b8, b9⟩ := Bx.h1 (⟨w.heap.size + 1, w.heap.size + 1 + 1, w.heap.size + 1 + 1 + 1, w1.heap.size, w3.heap.size, W4.heap.size, W4.heap.size + 1, b0, W5.heap.size⟩ : Bx)
        have hz4 := a6.size
        refine (each1_mut W6 wa.heap.size qb g0 ((M : Int) + 1) (8192 * (M : Int) + 8192 + 140000000 * (r : Int)) L0 (a4.later hB6) (by omega) _ (W5.heap.size + 1) _ (w1.heap.size + 1) ((hB6.block _ g8).trans g6) hl (by rintro (e | e) <;> omega) (fun b i W => JJ (⟨w.heap.size + 1, w.heap.size + 1 + 1, w.heap.size + 1 + 1 + 1, w1.heap.size, w3.heap.size, W4.heap.size, W4.heap.size + 1, b0, W5.heap.size⟩ : Bx) wa.heap.size qb ((M : Int) + 1) (8192 * (M : Int) + 8192 + 140000000 * (r : Int)) N X (.slice po ns co) zs s (W5.heap.size + 1) W5 g0 b i W) (fun b i W => ∃ c, W.heap[(W5.heap.size + 1)]? = some (.loop (rx c)) ∧ c = .exit 2 ∧ ∃ g i, ET (⟨w.heap.size + 1, w.heap.size + 1 + 1, w.heap.size + 1 + 1 + 1, w1.heap.size, w3.heap.size, W4.heap.size, W4.heap.size + 1, b0, W5.heap.size⟩ : Bx) wa.heap.size qb ((M : Int) + 1) (8192 * (M : Int) + 8192 + 140000000 * (r : Int)) N X (.slice po ns co) zs s (W5.heap.size + 1) W5 g0 g i W) ?j0 (fun b i w w' h hb => h.later hb) ?yy).mono ?out
        case j0 =>
          intro b W7 hq7 hc7 hb7 hb8
          have hz7 := hc7.size
          have f7 : ∀ k, k < W5.heap.size → k ≠ qb → k ≠ g0 → W7.heap[k]? = W5.heap[k]? := fun k hk k1 k2 => (hc7.block k (by omega) (fun e => by rcases e with e | e <;> contradiction)).trans (hB6.block k hk)
          have hsti : Sti (⟨w.heap.size + 1, w.heap.size + 1 + 1, w.heap.size + 1 + 1 + 1, w1.heap.size, w3.heap.size, W4.heap.size, W4.heap.size + 1, b0, W5.heap.size⟩ : Bx) wa.heap.size qb ((M : Int) + 1) (8192 * (M : Int) + 8192 + 140000000 * (r : Int)) N X (.slice po ns co) zs s g0 0 0 W7 := by
            refine ⟨⟨L0, by simpa using hq7⟩, ?_, ?_, ?_, ?_, ?_, ?_, ?_, ?_, ?_, fun k hk => ⟨(a10 k hk).1, (a10 k hk).2.1⟩⟩
            · exact (f7 (W4.heap.size + 1) (by omega) (a10 _ b7).1 (a10 _ b7).2.1).trans a8
            · exact (f7 _ (blk_lt g5) (a10 _ b5).1 (a10 _ b5).2.1).trans g5
            · exact (f7 _ (blk_lt g2) (a10 _ b2).1 (a10 _ b2).2.1).trans g2
            · exact (f7 _ (blk_lt g1') (a10 _ b1).1 (a10 _ b1).2.1).trans g1'
            · exact (f7 _ (blk_lt g3) (a10 _ b3).1 (a10 _ b3).2.1).trans g3
            · exact (f7 _ (blk_lt g4) (a10 _ b4).1 (a10 _ b4).2.1).trans g4
            · exact (f7 W4.heap.size (by omega) (a10 _ b6).1 (a10 _ b6).2.1).trans a7
            · exact evsKeep a1 (by omega) ((f7 _ (Nat.lt_of_lt_of_le a1.1 hz4) (a10 _ b8).1 (a10 _ b8).2.1).trans (a6.block _ a1.1))
            · exact (hc7.block W5.heap.size (by omega) (fun e => by rcases e with e | e; exact (a10 _ b9).1 e; exact (a10 _ b9).2.1 e)).trans hd
          refine ⟨⟨⟨g0, hsti, by omega, by omega⟩, by omega, ?_, by omega, hb8, by omega⟩, Nat.zero_le _, ⟨⟨hc7.os.trans hB6.os, hc7.tape.trans hB6.tape, hc7.output.trans hB6.output, by omega, fun k hk hk2 => f7 k hk (fun e => hk2 (.inl e)) (fun e => hk2 (.inr (.inl e)))⟩, fun g i j h => .inl ((h.one hsti).1)⟩⟩
          intro h
          have lt5 := blk_lt g1'
          have lt6 := blk_lt g2
          have lt7 := blk_lt g3
          have lt8 := blk_lt g4
          have lt9 := blk_lt g5
          have lt0 := a1.1
          rcases h with rfl | rfl | rfl | rfl | rfl | rfl | rfl | rfl | rfl <;> ((try dsimp only at hb7); omega)
        case yy =>
          intro m b i e W7 he hj hb7 hl7
          have hi : i < N := by rw [← a12]; exact (List.getElem?_eq_some_iff.1 he).1
          obtain rfl : X i = e := by have := a2 i hi; rw [he] at this; exact (Option.some.inj this).symm
          obtain ⟨fn, tm, asg, bd, hy, hRd⟩ := hY m #[.agg #[.int .u64 (X i).t, .int .i64 (X i).s, .int .u64 (X i).q, .int .i64 (X i).d, .int .i64 (X i).k, .int .i64 (X i).v]] W7 ⟨b, i, hi, rfl, hj⟩ hl7
          refine ⟨fn, tm, asg, bd, hy, hRd.mono ?_⟩
          rintro e' W8 (⟨rfl, ho, hl9⟩ | ⟨rfl, c9, hx9, hl9⟩)
          · obtain ⟨k1, k2, k3⟩ := ho.use (by omega) hj
            exact .inl ⟨rfl, hl9, k1, k2, k3⟩
          · exact .inr ⟨rfl, c9, hl9, hx9.et (by omega) hi hj⟩
        case out =>
          rintro e W7 ⟨hv, ⟨b, hj, hl7⟩ | ⟨b, i, hi, c, hl7, hc7, g, i', het⟩⟩
          · rw [a12] at hj
            obtain ⟨g, i, het⟩ := hj.et
            exact ⟨hv, het.s.d, .inl ⟨hl7, g, i, het⟩⟩
          · exact ⟨hv, het.s.d, .inr ⟨c, hl7, hc7, g, i', het⟩⟩
      case done =>
        rintro D L W'' W' hD hL hLt ⟨g, i, het⟩ hbut hdd
        subst hD
        subst hL
        obtain ⟨a1, a2, a3, a4, a5, a6, a7, a8, a9, a10, a11, a12⟩ := HH.out
        obtain ⟨v1, v2, v3, v4⟩ := HS3.out
        obtain ⟨hT0, hr2, hrn⟩ := HT.out
        have het' := het.but hxL hqL (by omega) hbut
        clear het hbut
        have hs := het'.s
        have hil := het'.l
        obtain ⟨L', hq⟩ := hs.q
        have z1 : W'.cell? ⟨W4.heap.size + 1, 0, none⟩ = some (.int .i64 (i : Int)) := (cell_of hs.at_).1
        have z2 : W'.cell? ⟨W4.heap.size, 0, none⟩ = some (.slice (some ⟨b0, 0, none⟩) N N) := (cell_of hs.al).1
        have z3 : W'.cell? ⟨w.heap.size + 1 + 1, 0, none⟩ = some (.int .i64 (zs : Int)) := (cell_of hs.st).1
        have z4 : W'.cell? ⟨w1.heap.size, 0, none⟩ = some (.pointer (some ⟨qb, 0, none⟩)) := (cell_of hs.qx).1
        have er : IntKind.i64.wrap ((r : Int) + 1) = ((r + 1 : Nat) : Int) := by rw [IntKind.wrap_i64]; omega
        have HP := callsIn_wide (n := 3) |>.2 (popS2 W' hq (by omega))
        have HN : Hid (∀ (W2 : World) (L2 : List Ev), QS wa.heap.size qb g ((M : Int) + 1) ((8192 * (M : Int) + 8192 + 140000000 * (r : Int)) + 16384 * (i : Int) + 16384) L2 W2 → Ch (S2 qb g) W' W2 → TI w wa.heap.size qb (w1.heap.size + 1) ((M : Int) + 1) (8192 * (M : Int) + 8192) (.slice po ns co) zs (w.heap.size + 1) (w.heap.size + 1 + 1) (w.heap.size + 1 + 1 + 1) w1.heap.size w3.heap.size (r + 1) (W5.heap.size :: ds) g L2 (s + i) W2) := fun W2 L2 h1 h2 => hT0.next a3 het' a9 ⟨rfl, rfl, rfl, rfl, rfl, by (try dsimp only); have := a3.size; have := HZ4.out; omega, rfl⟩ (by omega) (by omega) (by omega) h1 h2
        have HJ2 := HJ.out hr2
        have HJ3 : Hid (∀ a' w', (∃ ds g L s t, FRM w w1 w3 (r + 1) t ∧ a' = { tmps := t, defers := dsl ds } ∧ TI w wa.heap.size qb (w1.heap.size + 1) ((M : Int) + 1) (8192 * (M : Int) + 8192) (.slice po ns co) zs (w.heap.size + 1) (w.heap.size + 1 + 1) (w.heap.size + 1 + 1 + 1) w1.heap.size w3.heap.size (r + 1) ds g L s w') → K a' w') := HJ2
        have hie := het'.e
        have hi8 : i ≤ 8192 := by omega
        clear a1 a2 a3 a4 a5 a6 a7 a8 a9 a10 a11 a12 hT0 hq hs hdd hLt het' HJ2 hxL hqL v1 v2 v3 v4 hr2 hrn
        by_cases hiN : i = N
        case' pos =>
          have dN : ((i : Int) == (N : Int)) = true := by simp; omega
          have dN2 : ((i : Int) != (N : Int)) = false := by simp; omega
          clear hie hil hiN hi8
        case' neg =>
          have dN : ((i : Int) == (N : Int)) = false := by simp; omega
          have dN2 : ((i : Int) != (N : Int)) = true := by simp; omega
          have ez : IntKind.i64.wrap ((zs : Int) + 1) = (i : Int) := by rw [IntKind.wrap_i64]; omega
          clear hie hil hiN hi8
        all_goals
          gi_wp2_with (refine ⟨trivial, ?_⟩; gi_at_call 10; (with_reducible refine HP.mono ?_); rintro e9 W9 ⟨x9, code9, L9, rfl, _, hq9, hc9⟩)
          exact HJ3.out _ _ ⟨W5.heap.size :: ds, g, L9, s + i, _, ⟨rfl, rfl, rfl, rfl, rfl, rfl, rfl, rfl⟩, rfl, HN.out _ _ hq9 hc9⟩
      case stop =>
        rintro D L c W'' W' hD hL hLt ⟨rfl, g, i, het⟩ hbut hdd
        subst hD
        subst hL
        obtain ⟨a1, a2, a3, a4, a5, a6, a7, a8, a9, a10, a11, a12⟩ := HH.out
        obtain ⟨v1, v2, v3, v4⟩ := HS3.out
        obtain ⟨hT0, hr2, hrn⟩ := HT.out
        have het' := het.but hxL hqL (by omega) hbut
        clear het hbut
        have hs := het'.s
        have hil := het'.l
        obtain ⟨L', hq⟩ := hs.q
        have z1 : W'.cell? ⟨W4.heap.size + 1, 0, none⟩ = some (.int .i64 (i : Int)) := (cell_of hs.at_).1
        have z2 : W'.cell? ⟨W4.heap.size, 0, none⟩ = some (.slice (some ⟨b0, 0, none⟩) N N) := (cell_of hs.al).1
        have z3 : W'.cell? ⟨w.heap.size + 1 + 1, 0, none⟩ = some (.int .i64 (zs : Int)) := (cell_of hs.st).1
        have z4 : W'.cell? ⟨w1.heap.size, 0, none⟩ = some (.pointer (some ⟨qb, 0, none⟩)) := (cell_of hs.qx).1
        have er : IntKind.i64.wrap ((r : Int) + 1) = ((r + 1 : Nat) : Int) := by rw [IntKind.wrap_i64]; omega
        have HP := callsIn_wide (n := 3) |>.2 (popS2 W' hq (by omega))
        have HN : Hid (∀ (W2 : World) (L2 : List Ev), QS wa.heap.size qb g ((M : Int) + 1) ((8192 * (M : Int) + 8192 + 140000000 * (r : Int)) + 16384 * (i : Int) + 16384) L2 W2 → Ch (S2 qb g) W' W2 → TI w wa.heap.size qb (w1.heap.size + 1) ((M : Int) + 1) (8192 * (M : Int) + 8192) (.slice po ns co) zs (w.heap.size + 1) (w.heap.size + 1 + 1) (w.heap.size + 1 + 1 + 1) w1.heap.size w3.heap.size (r + 1) (W5.heap.size :: ds) g L2 (s + i) W2) := fun W2 L2 h1 h2 => hT0.next a3 het' a9 ⟨rfl, rfl, rfl, rfl, rfl, by (try dsimp only); have := a3.size; have := HZ4.out; omega, rfl⟩ (by omega) (by omega) (by omega) h1 h2
        have HJ2 := HJ.out hr2
        have HJ3 : Hid (∀ a' w', (∃ ds g L s t, FRM w w1 w3 (r + 1) t ∧ a' = { tmps := t, defers := dsl ds } ∧ TI w wa.heap.size qb (w1.heap.size + 1) ((M : Int) + 1) (8192 * (M : Int) + 8192) (.slice po ns co) zs (w.heap.size + 1) (w.heap.size + 1 + 1) (w.heap.size + 1 + 1 + 1) w1.heap.size w3.heap.size (r + 1) ds g L s w') → K a' w') := HJ2
        have hie := het'.e
        have hi8 : i ≤ 8192 := by omega
        clear a1 a2 a3 a4 a5 a6 a7 a8 a9 a10 a11 a12 hT0 hq hs hdd hLt het' HJ2 hxL hqL v1 v2 v3 v4 hr2 hrn
        by_cases hiN : i = N
        case' pos =>
          have dN : ((i : Int) == (N : Int)) = true := by simp; omega
          have dN2 : ((i : Int) != (N : Int)) = false := by simp; omega
          clear hie hil hiN hi8
        case' neg =>
          have dN : ((i : Int) == (N : Int)) = false := by simp; omega
          have dN2 : ((i : Int) != (N : Int)) = true := by simp; omega
          have ez : IntKind.i64.wrap ((zs : Int) + 1) = (i : Int) := by rw [IntKind.wrap_i64]; omega
          clear hie hil hiN hi8
        all_goals
          gi_wp2_with (refine ⟨trivial, ?_⟩; gi_at_call 10; (with_reducible refine HP.mono ?_); rintro e9 W9 ⟨x9, code9, L9, rfl, _, hq9, hc9⟩)
          exact HJ3.out _ _ ⟨W5.heap.size :: ds, g, L9, s + i, _, ⟨rfl, rfl, rfl, rfl, rfl, rfl, rfl, rfl⟩, rfl, HN.out _ _ hq9 hc9⟩
end Go.Proofs.Ytlojkcodndjfbaa
