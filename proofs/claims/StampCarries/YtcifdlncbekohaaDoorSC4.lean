import Derived.Test.YtcifdlncbekohaaDoorSC1
import Derived.Test.YtcifdlncbekohaaDoorSC2
import Derived.Test.YtcifdlncbekohaaDoorSameB
import Derived.Test.YtcifdlncbekohaaDoorParse2
import Derived.Test.YtcifdlncbekohaaDoorRO5
import Derived.Laws.CopyOwn
namespace Go.Proofs.YtcifdlncbekohaaDoor
open Go.ChangeShapes Go.WideShapes Go.ChangeAt Go.RowKit
set_option linter.unusedVariables false
set_option linter.unusedSimpArgs false

/-! ### events with their ranges -/
structure SeIn (e : Se) : Prop where
  t : 0 ≤ e.t ∧ e.t < 18446744073709551616
  q : 0 ≤ e.q ∧ e.q < 18446744073709551616
  s : -9223372036854775808 ≤ e.s ∧ e.s ≤ 9223372036854775807
  d : -9223372036854775808 ≤ e.d ∧ e.d ≤ 9223372036854775807
  k : -9223372036854775808 ≤ e.k ∧ e.k ≤ 9223372036854775807
  v : -9223372036854775808 ≤ e.v ∧ e.v ≤ 9223372036854775807
def toEv (e : Se) : Ev := ⟨e.t.toNat, e.q.toNat, e.s, e.d, e.k, e.v⟩
theorem toEv_in {e : Se} (h : SeIn e) : (toEv e).In := ⟨by have := h.t; show e.t.toNat < _; omega, by have := h.q; show e.q.toNat < _; omega, h.s, h.d, h.k, h.v⟩
theorem toEv_t {e : Se} (h : SeIn e) : (((toEv e).t : Nat) : Int) = e.t := by have := h.t; show ((e.t.toNat : Nat) : Int) = e.t; omega
theorem toEv_q {e : Se} (h : SeIn e) : (((toEv e).q : Nat) : Int) = e.q := by have := h.q; show ((e.q.toNat : Nat) : Int) = e.q; omega
theorem toEv_cells {e : Se} (h : SeIn e) : (toEv e).cells = (seL e).toArray := by
  unfold Ev.cells
  rw [toEv_t h, toEv_q h]
  rfl
def evL (X : Nat → Se) (n : Nat) : List Ev := (List.range n).map fun i => toEv (X i)
theorem evL_len (X : Nat → Se) (n : Nat) : (evL X n).length = n := by simp [evL]
theorem evL_in {X : Nat → Se} {n : Nat} (h : ∀ i, i < n → SeIn (X i)) : ∀ e ∈ evL X n, e.In := fun e he => by
  obtain ⟨i, hi, rfl⟩ := List.mem_map.1 he
  exact toEv_in (h i (List.mem_range.1 hi))
theorem evL_get (X : Nat → Se) {n i : Nat} (h : i < (evL X n).length) : (evL X n)[i] = toEv (X i) := by simp [evL]
theorem evsC_app (a b : List Ev) : evsC (a ++ b) = evsC a ++ evsC b := by
  induction a with
  | nil => rfl
  | cons x a ih => simp [evsC, ih]
theorem evsC_evL {X : Nat → Se} : ∀ {n : Nat}, (∀ i, i < n → SeIn (X i)) → evsC (evL X n) = cellsF (seF X) (n * 6)
  | 0, _ => rfl
  | n + 1, h => by
    have e1 : evL X (n + 1) = evL X n ++ [toEv (X n)] := by simp [evL, List.range_succ]
    rw [e1, evsC_app, evsC_evL (fun i hi => h i (by omega))]
    have e2 : evsC [toEv (X n)] = cellsF (seC (X n)) 6 := by
      show (toEv (X n)).cells.toList ++ [] = _
      rw [toEv_cells (h n (by omega))]
      rfl
    rw [e2, cellsF_append, Nat.add_mul]
    refine cellsF_congr fun j hj => ?_
    by_cases hl : j < n * 6
    · rw [if_pos hl]
    · rw [if_neg hl]
      unfold seF
      rw [show j / 6 = n by omega, show j - n * 6 = j % 6 by omega]
theorem evsAt_of {W : World} {p : Option Addr} {n : Nat} {X : Nat → Se} (h : SIn W p n X) (hi : ∀ i, i < n → SeIn (X i)) : EvsAt W p (evL X n) := by
  refine ⟨?_, evL_in hi⟩
  rcases h with h | ⟨b, o, h1, h2, h3⟩
  · exact .inl (by rw [evL_len]; exact h)
  · refine .inr ⟨b, o, h1, h2, fun i hl => ?_⟩
    have hn : i < n := by rw [evL_len] at hl; exact hl
    rw [evL_get X hl, toEv_t (hi i hn), toEv_q (hi i hn)]
    have f : ∀ r, r < 6 → W.cell? ⟨b, o + i * 6 + r, none⟩ = some (seC (X i) r) := fun r hr => by
      have := h3 (i * 6 + r) (by omega)
      rw [show o + (i * 6 + r) = o + i * 6 + r by omega] at this
      rw [this]
      unfold seF
      rw [show (i * 6 + r) / 6 = i by omega, show (i * 6 + r) % 6 = r by omega]
    exact ⟨f 0 (by omega), f 1 (by omega), f 2 (by omega), f 3 (by omega), f 4 (by omega), f 5 (by omega)⟩

/-! ### rows of bytes -/
def BRow (W : World) (base : Nat) (v : Value) (l : List Nat) : Prop := W.ownsRow base 5 1 v l.length (bcs l)
def TailAt (W : World) (p : Option Addr) (t : List Nat) : Prop := (t.length = 0 ∨ ∃ b o, p = some ⟨b, o, none⟩ ∧ b < W.heap.size ∧ ∀ i, i < t.length → W.cell? ⟨b, o + i, none⟩ = some (.int .u8 (bOf t i))) ∧ ∀ x ∈ t, x < 256
theorem TailAt.below {W W' : World} {p : Option Addr} {t : List Nat} (h : TailAt W p t) (hb : Below W.heap.size W W') : TailAt W' p t := by
  refine ⟨?_, h.2⟩
  rcases h.1 with h | ⟨b, o, h1, h2, h3⟩
  · exact .inl h
  · exact .inr ⟨b, o, h1, Nat.lt_of_lt_of_le h2 hb.size, fun i hi => (cell_below (a := ⟨b, o + i, none⟩) hb h2).trans (h3 i hi)⟩
theorem bcs_get {t : List Nat} {j : Nat} (h : j < t.length) : (bcs t)[j]? = some (.int .u8 (bOf t j)) := by
  simp [bcs, bOf, h]
theorem bcs_one (t : List Nat) : ∀ u ∈ bcs t, u.oneCell' = true := fun u hu => by
  obtain ⟨x, _, rfl⟩ := List.mem_map.1 hu
  rfl
theorem app_bytes (W : World) (base : Nat) (ty : TypeId) (v : Value) (l : List Nat) (p : Option Addr) (t : List Nat) (c : Nat) (ho : BRow W base v l) (ht : TailAt W p t) (hnm : l.length + t.length ≤ 1000000000000) (hb : base ≤ W.heap.size) :
    ∃ v' w', (Builtin.append_ #[23, 23] ty #[v, .slice p t.length c]).run Tryd.prog W = .ok v' w' ∧ BRow w' base v' (l ++ t) ∧ Below base W w' := by
  obtain ⟨iE, hE1, hE2, hE3, hE4⟩ := sinfo Tryd.info5'
  have hlo : ∀ k, v.ownBlock = some k → base ≤ k := fun k hk => (Own.lt (own_of_row ho) k hk).1
  by_cases h0 : t.length = 0
  · obtain rfl : t = [] := List.eq_nil_of_length_eq_zero h0
    obtain ⟨vp, vc, rfl⟩ := own_slice (own_of_row ho)
    have hle : l.length ≤ vc := by
      rcases (own_of_row ho).form with ⟨h1, h2⟩ | ⟨g, c', h1, _, _⟩
      · omega
      · have hoo := own_of_row ho
        rw [h1] at hoo
        obtain ⟨_, _, _, h5, _⟩ := Own.block hoo
        injection h1 with e1 e2 e3
        omega
    refine ⟨.slice vp l.length vc, W, ?_, by rw [List.append_nil]; exact ho, Below.refl _ _⟩
    refine run_append_nothing W 23 23 ty 5 iE Tryd.underlying23 hE1 vp l.length vc hle (.slice p 0 c) ?_
    cases p with
    | none => exact Src.ofNil W Tryd.underlying23 c
    | some a => exact Src.ofSlice W Tryd.underlying23 a 0 c [] (by simp) (fun j u h => by simp at h) (fun u h => by cases h)
  · rcases ht.1 with h | ⟨b, o, rfl, hlt, hc⟩
    · exact absurd h h0
    have hnews : ∀ j u, (bcs t)[j]? = some u → W.cell? ((⟨b, o, none⟩ : Addr).add j) = some u := fun j u hu => by
      have hj : j < t.length := by
        have := (List.getElem?_eq_some_iff.1 hu).1
        rwa [bcs_len] at this
      rw [bcs_get hj] at hu
      cases hu
      rw [addr_add0]
      exact hc j hj
    obtain ⟨v', w', hr, h2, h3, h4, h5⟩ := run_append_own_at (P := Tryd.prog) W base 23 ty 5 iE _ 1 1 Tryd.underlying23 hE1 hE2 hE3 hE4 rfl (by decide) v l.length _ ho ⟨b, o, none⟩ t.length c (bcs t) (by rw [bcs_len, Nat.mul_one]) hnews (bcs_one t) (by unfold maxLen; omega) (by omega) hb
    refine ⟨v', w', hr, ?_, (Below.refl _ W).grown h3 hb hlo⟩
    unfold BRow
    rw [List.length_append, bcs_app]
    exact h2
end Go.Proofs.YtcifdlncbekohaaDoor
