import Derived.Test.YtpeojhhbinfekaaClockA
import Derived.Deep.AppendLies
import Derived.Deep.DeepCutAuto
import Derived.WalkLawsBesides
import Derived.BigQuiet
import Derived.Deep.QuietTactic
namespace Go.Proofs.Ytpeojhhbinfekaa
open Go.ChangeShapes Go.WideShapes Go.ChangeAt Go.RowKit

def ptrs (ps : List Nat) : List Value := ps.map fun p => .pointer (some ⟨p, 0, none⟩)

structure Inv (B : Nat) (w wr : World) (gc cc gt ct ge ce n : Nat) (ps : List Nat) (ts es : List Int) : Prop where
  pos : 0 < n
  lp : ps.length = n
  lt : ts.length = n
  le : es.length = n
  rc : wr.ownsRow B 36 1 (.slice (some ⟨gc, 0, none⟩) n cc) n (ptrs ps)
  rt : wr.ownsRow B 22 1 (.slice (some ⟨gt, 0, none⟩) n ct) n (ts.map (Value.int .u64))
  re : wr.ownsRow B 3 1 (.slice (some ⟨ge, 0, none⟩) n ce) n (es.map (Value.int .i64))
  ck : ∀ (i p : Nat) (t e : Int), ps[i]? = some p → ts[i]? = some t → es[i]? = some e → B ≤ p ∧ wr.heap[p]? = some (.cells #[.int .u64 t, .int .i64 e] 51 (0, 0))
  nd : ∀ (i j p : Nat), ps[i]? = some p → ps[j]? = some p → i = j
  bt : ∀ t ∈ ts, 0 ≤ t ∧ t ≤ 18446744073709551615
  be : ∀ e ∈ es, e = 0 ∨ e = 10
  bl : Below B w wr
  sz : B ≤ wr.heap.size

theorem ownsRow_block {w : World} {B E g n cap : Nat} {xs : List Value} (h : w.ownsRow B E 1 (.slice (some ⟨g, 0, none⟩) n cap) n xs) : ∃ cur : Array Value, w.heap[g]? = some (.cells cur E (0, 0)) ∧ B ≤ g := by
  obtain ⟨_, h | ⟨g', cap', cur, hv, hb, hh, _⟩⟩ := h
  · simp at h
  · simp at hv
    obtain ⟨rfl, _⟩ := hv
    exact ⟨cur, hh, hb⟩

theorem ownsRow_same {w w' : World} {B E g n cap : Nat} {xs : List Value} (h : w.ownsRow B E 1 (.slice (some ⟨g, 0, none⟩) n cap) n xs) (hg : w'.heap[g]? = w.heap[g]?) : w'.ownsRow B E 1 (.slice (some ⟨g, 0, none⟩) n cap) n xs := by
  obtain ⟨h1, h | ⟨g', cap', cur, hv, hb, hh, r⟩⟩ := h
  · simp at h
  · have hv' := hv
    simp at hv
    obtain ⟨rfl, _⟩ := hv
    exact ⟨h1, .inr ⟨g, cap', cur, hv', hb, hg.trans hh, r⟩⟩

theorem ownsRow_set {w : World} {B E g n cap : Nat} {xs : List Value} (h : w.ownsRow B E 1 (.slice (some ⟨g, 0, none⟩) n cap) n xs) (j : Nat) (u : Value) : (w.setCell ⟨g, j, none⟩ u).ownsRow B E 1 (.slice (some ⟨g, 0, none⟩) n cap) n (xs.set j u) :=
  (h.stored j u).1

section
variable {B : Nat} {w wr : World} {gc cc gt ct ge ce n : Nat} {ps : List Nat} {ts es : List Int}

theorem Inv.cl (h : Inv B w wr gc cc gt ct ge ce n ps ts es) {i : Nat} (hi : i < n) : ∃ p t e, ps[i]? = some p ∧ ts[i]? = some t ∧ es[i]? = some e ∧ B ≤ p ∧ p < wr.heap.size ∧ wr.heap[p]? = some (.cells #[.int .u64 t, .int .i64 e] 51 (0, 0)) ∧ p ≠ gc ∧ p ≠ gt ∧ p ≠ ge ∧ (0 ≤ t ∧ t ≤ 18446744073709551615) ∧ (e = 0 ∨ e = 10) := by
  have h1 : i < ps.length := by rw [h.lp]; exact hi
  have h2 : i < ts.length := by rw [h.lt]; exact hi
  have h3 : i < es.length := by rw [h.le]; exact hi
  obtain ⟨hB, hk⟩ := h.ck i ps[i] ts[i] es[i] (by simp [h1]) (by simp [h2]) (by simp [h3])
  obtain ⟨c1, b1, _⟩ := ownsRow_block h.rc
  obtain ⟨c2, b2, _⟩ := ownsRow_block h.rt
  obtain ⟨c3, b3, _⟩ := ownsRow_block h.re
  refine ⟨ps[i], ts[i], es[i], by simp [h1], by simp [h2], by simp [h3], hB, lt_of_block hk, hk, ?_, ?_, ?_, h.bt _ (List.getElem_mem h2), h.be _ (List.getElem_mem h3)⟩
  · intro e; rw [e, b1] at hk; simp at hk
  · intro e; rw [e, b2] at hk; simp at hk
  · intro e; rw [e, b3] at hk; simp at hk

theorem Inv.apart (h : Inv B w wr gc cc gt ct ge ce n ps ts es) : gc ≠ gt ∧ gc ≠ ge ∧ gt ≠ ge ∧ gc < wr.heap.size ∧ gt < wr.heap.size ∧ ge < wr.heap.size ∧ B ≤ gc ∧ B ≤ gt ∧ B ≤ ge := by
  obtain ⟨c1, b1, l1⟩ := ownsRow_block h.rc
  obtain ⟨c2, b2, l2⟩ := ownsRow_block h.rt
  obtain ⟨c3, b3, l3⟩ := ownsRow_block h.re
  refine ⟨?_, ?_, ?_, lt_of_block b1, lt_of_block b2, lt_of_block b3, l1, l2, l3⟩
  · intro e; rw [e, b2] at b1; simp at b1
  · intro e; rw [e, b3] at b1; simp at b1
  · intro e; rw [e, b3] at b2; simp at b2

theorem Inv.ext (h : Inv B w wr gc cc gt ct ge ce n ps ts es) {w' : World} (hb : Below wr.heap.size wr w') : Inv B w w' gc cc gt ct ge ce n ps ts es := by
  obtain ⟨_, _, _, l1, l2, l3, _⟩ := h.apart
  refine ⟨h.pos, h.lp, h.lt, h.le, ownsRow_same h.rc (hb.block _ l1), ownsRow_same h.rt (hb.block _ l2), ownsRow_same h.re (hb.block _ l3), ?_, h.nd, h.bt, h.be, h.bl.trans (hb.mono h.sz), Nat.le_trans h.sz hb.size⟩
  intro i p t e hp ht he
  obtain ⟨a, b⟩ := h.ck i p t e hp ht he
  exact ⟨a, (hb.block p (lt_of_block b)).trans b⟩

theorem Inv.cells (h : Inv B w wr gc cc gt ct ge ce n ps ts es) {i p : Nat} {t e : Int} (hp : ps[i]? = some p) (ht : ts[i]? = some t) (he : es[i]? = some e) (hi : i < n) :
    wr.cell? ⟨gc, i, none⟩ = some (.pointer (some ⟨p, 0, none⟩)) ∧ wr.cell? ⟨gt, i, none⟩ = some (.int .u64 t) ∧ wr.cell? ⟨ge, i, none⟩ = some (.int .i64 e) ∧ wr.frozen? ⟨gt, i, none⟩ = false ∧ wr.frozen? ⟨ge, i, none⟩ = false := by
  refine ⟨?_, ?_, ?_, h.rt.frozenAt i, h.re.frozenAt i⟩
  · rw [h.rc.cellAt i (by omega)]; simp [ptrs, hp]
  · rw [h.rt.cellAt i (by omega)]; simp [ht]
  · rw [h.re.cellAt i (by omega)]; simp [he]

theorem Inv.upd (h : Inv B w wr gc cc gt ct ge ce n ps ts es) {w3 : World} {i p : Nat} {T E : Int} (hp : ps[i]? = some p) (hi : i < n)
    (h1 : w3.os = wr.os) (h2 : w3.tape = wr.tape) (h3 : w3.output = wr.output) (h4 : wr.heap.size ≤ w3.heap.size)
    (h5 : ∀ k, k < wr.heap.size → k ≠ p → k ≠ gt → k ≠ ge → w3.heap[k]? = wr.heap[k]?)
    (h6 : w3.heap[p]? = some (.cells #[.int .u64 T, .int .i64 E] 51 (0, 0)))
    (h7 : w3.ownsRow B 22 1 (.slice (some ⟨gt, 0, none⟩) n ct) n ((ts.set i T).map (Value.int .u64)))
    (h8 : w3.ownsRow B 3 1 (.slice (some ⟨ge, 0, none⟩) n ce) n ((es.set i E).map (Value.int .i64)))
    (hT : 0 ≤ T ∧ T ≤ 18446744073709551615) (hE : E = 0 ∨ E = 10) :
    Inv B w w3 gc cc gt ct ge ce n ps (ts.set i T) (es.set i E) := by
  obtain ⟨a1, a2, a3, l1, l2, l3, b1, b2, b3⟩ := h.apart
  obtain ⟨p', t, e, hp', ht, he, hB, hlt, hk, n1, n2, n3, _, _⟩ := h.cl hi
  obtain rfl : p' = p := by rw [hp] at hp'; simpa using hp'.symm
  refine ⟨h.pos, h.lp, by simp [h.lt], by simp [h.le], ownsRow_same h.rc (h5 gc l1 (Ne.symm n1) a1 a2), h7, h8, ?_, h.nd, ?_, ?_, ?_, Nat.le_trans h.sz h4⟩
  · intro j q t' e' hq ht' he'
    by_cases hij : i = j
    · subst hij
      rw [hp] at hq
      obtain rfl : p' = q := by simpa using hq
      have hti : i < ts.length := by rw [h.lt]; exact hi
      have hei : i < es.length := by rw [h.le]; exact hi
      simp [hti] at ht'
      simp [hei] at he'
      subst ht' he'
      exact ⟨hB, h6⟩
    · rw [List.getElem?_set_ne hij] at ht' he'
      obtain ⟨x, y⟩ := h.ck j q t' e' hq ht' he'
      have hj : j < n := by
        rw [← h.lp]
        rcases Nat.lt_or_ge j ps.length with z | z
        · exact z
        · rw [List.getElem?_eq_none z] at hq; simp at hq
      obtain ⟨q', _, _, hq', _, _, _, _, _, m1, m2, m3, _⟩ := h.cl hj
      obtain rfl : q' = q := by rw [hq] at hq'; simpa using hq'.symm
      exact ⟨x, (h5 q' (lt_of_block y) (fun e => hij (h.nd i j p' hp (by rw [hq, e]))) m2 m3).trans y⟩
  · intro x hx
    rcases List.mem_or_eq_of_mem_set hx with hx | rfl
    · exact h.bt x hx
    · exact hT
  · intro x hx
    rcases List.mem_or_eq_of_mem_set hx with hx | rfl
    · exact h.be x hx
    · exact hE
  · refine ⟨h1.trans h.bl.os, h2.trans h.bl.tape, h3.trans h.bl.output, Nat.le_trans h.bl.size h4, fun k hk2 => ?_⟩
    rw [h5 k (by have := h.sz; omega) (by omega) (by omega) (by omega)]
    exact h.bl.block k hk2

theorem Inv.push (h : Inv B w wr gc cc gt ct ge ce n ps ts es) {w6 : World} {p gc' cc' gt' ct' ge' ce' : Nat} {D : Int}
    (h1 : w6.os = wr.os) (h2 : w6.tape = wr.tape) (h3 : w6.output = wr.output) (h4 : wr.heap.size ≤ w6.heap.size)
    (h5 : ∀ k, k < wr.heap.size → k ≠ gc → k ≠ gt → k ≠ ge → w6.heap[k]? = wr.heap[k]?)
    (hpn : wr.heap.size ≤ p) (h6 : w6.heap[p]? = some (.cells #[.int .u64 D, .int .i64 0] 51 (0, 0)))
    (hc : w6.ownsRow B 36 1 (.slice (some ⟨gc', 0, none⟩) (n + 1) cc') (n + 1) (ptrs ps ++ [.pointer (some ⟨p, 0, none⟩)]))
    (ht : w6.ownsRow B 22 1 (.slice (some ⟨gt', 0, none⟩) (n + 1) ct') (n + 1) (ts.map (Value.int .u64) ++ [.int .u64 D]))
    (he : w6.ownsRow B 3 1 (.slice (some ⟨ge', 0, none⟩) (n + 1) ce') (n + 1) (es.map (Value.int .i64) ++ [.int .i64 0]))
    (hD : 0 ≤ D ∧ D ≤ 18446744073709551615) :
    Inv B w w6 gc' cc' gt' ct' ge' ce' (n + 1) (ps ++ [p]) (ts ++ [D]) (es ++ [0]) := by
  obtain ⟨a1, a2, a3, l1, l2, l3, b1, b2, b3⟩ := h.apart
  have old : ∀ (j q : Nat), ps[j]? = some q → q < wr.heap.size := by
    intro j q hq
    have hj : j < n := by
      rw [← h.lp]
      rcases Nat.lt_or_ge j ps.length with z | z
      · exact z
      · rw [List.getElem?_eq_none z] at hq; simp at hq
    obtain ⟨q', _, _, hq', _, _, _, hlt, _⟩ := h.cl hj
    obtain rfl : q' = q := by rw [hq] at hq'; simpa using hq'.symm
    exact hlt
  refine ⟨by omega, by simp [h.lp], by simp [h.lt], by simp [h.le], by simpa [ptrs] using hc, by simpa using ht, by simpa using he, ?_, ?_, ?_, ?_, ?_, Nat.le_trans h.sz h4⟩
  · intro j q t' e' hq ht' he'
    rcases Nat.lt_or_ge j n with hj | hj
    · rw [List.getElem?_append_left (by rw [h.lp]; exact hj)] at hq
      rw [List.getElem?_append_left (by rw [h.lt]; exact hj)] at ht'
      rw [List.getElem?_append_left (by rw [h.le]; exact hj)] at he'
      obtain ⟨x, y⟩ := h.ck j q t' e' hq ht' he'
      obtain ⟨q', _, _, hq', _, _, _, _, _, m1, m2, m3, _⟩ := h.cl hj
      obtain rfl : q' = q := by rw [hq] at hq'; simpa using hq'.symm
      exact ⟨x, (h5 q' (lt_of_block y) m1 m2 m3).trans y⟩
    · rw [List.getElem?_append_right (by rw [h.lp]; exact hj)] at hq
      rw [List.getElem?_append_right (by rw [h.lt]; exact hj)] at ht'
      rw [List.getElem?_append_right (by rw [h.le]; exact hj)] at he'
      rw [h.lp] at hq
      rw [h.lt] at ht'
      rw [h.le] at he'
      have hj0 : j - n = 0 := by
        rcases Nat.eq_zero_or_pos (j - n) with z | z
        · exact z
        · rw [List.getElem?_eq_none (by simp; omega)] at hq; simp at hq
      rw [hj0] at hq ht' he'
      simp at hq ht' he'
      subst hq ht' he'
      exact ⟨by have := h.sz; omega, h6⟩
  · intro i j q hi hj
    rcases Nat.lt_or_ge i n with hi' | hi' <;> rcases Nat.lt_or_ge j n with hj' | hj'
    · rw [List.getElem?_append_left (by rw [h.lp]; omega)] at hi hj
      exact h.nd i j q hi hj
    · rw [List.getElem?_append_left (by rw [h.lp]; omega)] at hi
      rw [List.getElem?_append_right (by rw [h.lp]; omega)] at hj
      have := old i q hi
      have hq : q ∈ [p] := List.mem_of_getElem? hj
      simp at hq
      omega
    · rw [List.getElem?_append_left (by rw [h.lp]; omega)] at hj
      rw [List.getElem?_append_right (by rw [h.lp]; omega)] at hi
      have := old j q hj
      have hq : q ∈ [p] := List.mem_of_getElem? hi
      simp at hq
      omega
    · rw [List.getElem?_append_right (by rw [h.lp]; omega), h.lp] at hi hj
      have x1 : i - n < 1 := by
        rcases Nat.lt_or_ge (i - n) 1 with z | z
        · exact z
        · rw [List.getElem?_eq_none (by simpa using z)] at hi; simp at hi
      have x2 : j - n < 1 := by
        rcases Nat.lt_or_ge (j - n) 1 with z | z
        · exact z
        · rw [List.getElem?_eq_none (by simpa using z)] at hj; simp at hj
      omega
  · intro x hx
    rcases List.mem_append.1 hx with hx | hx
    · exact h.bt x hx
    · simp at hx; subst hx; exact hD
  · intro x hx
    rcases List.mem_append.1 hx with hx | hx
    · exact h.be x hx
    · simp at hx; subst hx; exact Or.inl rfl
  · refine ⟨h1.trans h.bl.os, h2.trans h.bl.tape, h3.trans h.bl.output, Nat.le_trans h.bl.size h4, fun k hk2 => ?_⟩
    rw [h5 k (by have := h.sz; omega) (by omega) (by omega) (by omega)]
    exact h.bl.block k hk2
end
end Go.Proofs.Ytpeojhhbinfekaa
