import Derived.Test.YtkfjcbnhohipgaaMD4
import Derived.Test.YtkfjcbnhohipgaaSO1
import Derived.BigQuiet
import Derived.Deep.RegionLaw
import Derived.Deep.RegionHeld3
import Derived.Deep.Cut
import Derived.Deep.DeepCutAuto
import Derived.Deep.CutBlock
import Derived.Deep.CutRange
import Derived.Deep.AppendLies
import Derived.Handy
import Derived.Lib.RabinKarpLaws
namespace Go.Proofs.Ytkfjcbnhohipgaa
open Go.ChangeShapes Go.WideShapes Go.ChangeAt Go.RowKit
set_option linter.unusedVariables false
set_option linter.unusedSimpArgs false


/-- the order in which things come: by K where it counts, then by senders, then by sending -/
def RL (srt : Bool) (a b : Lt) : Prop := (srt = true ∧ a.k < b.k) ∨ ((srt = true → a.k = b.k) ∧ (a.f < b.f ∨ (a.f = b.f ∧ a.m < b.m)))
theorem RL.tr {srt : Bool} {a b c : Lt} (h1 : RL srt a b) (h2 : RL srt b c) : RL srt a c := by
  unfold RL at *
  cases srt
  · simp at *; omega
  · simp at *; omega
theorem RL.tot {srt : Bool} {a b : Lt} (h : ¬ RL srt a b) (hm : a.m ≠ b.m) : RL srt b a := by
  unfold RL at *
  cases srt
  · simp at *; omega
  · simp at *; omega
theorem RL.irr {srt : Bool} {a : Lt} : ¬ RL srt a a := by
  unfold RL
  cases srt
  · simp
  · simp
def ah (srt : Bool) (a b : Lt) : Bool := if (srt && (a.k != b.k)) = true then decide (a.k < b.k) else decide (a.f < b.f)
theorem ah_RL {srt : Bool} {a b : Lt} (hm : b.m < a.m) : ah srt a b = true ↔ RL srt a b := by
  unfold ah RL
  cases srt
  · simp
    omega
  · by_cases e : a.k = b.k
    · simp [e]
      omega
    · simp [e]
structure IS (srt : Bool) (m i k : Nat) (c : Nat → Lt) : Prop where
  s1 : ∀ p q, p < q → q ≤ i → p ≠ k → q ≠ k → RL srt (c p) (c q)
  s2 : ∀ q, k < q → q ≤ i → RL srt (c k) (c q)
  d : ∀ p, p ≤ i → p ≠ k → (c p).m < (c k).m
  e : ∀ p q, p ≤ i → i < q → q < m → (c p).m < (c q).m
  f : ∀ p q, i < p → p < q → q < m → (c p).m < (c q).m
structure OS (srt : Bool) (m i : Nat) (c : Nat → Lt) : Prop where
  s : ∀ p q, p < q → q < i → RL srt (c p) (c q)
  e : ∀ p q, p < i → i ≤ q → q < m → (c p).m < (c q).m
  f : ∀ p q, i ≤ p → p < q → q < m → (c p).m < (c q).m
theorem swp_k (c : Nat → Lt) {k : Nat} (hk : 0 < k) (p : Nat) : swp c k (k - 1) p = if p = k then c (k - 1) else if p = k - 1 then c k else c p := by
  unfold swp
  rfl
theorem OS.toIS {srt : Bool} {m i : Nat} {c : Nat → Lt} (h : OS srt m i c) (hi : i < m) : IS srt m i i c := ⟨fun p q h1 h2 h3 h4 => h.s p q h1 (by omega), fun q h1 h2 => by omega, fun p h1 h2 => h.e p i (by omega) (Nat.le_refl _) hi, fun p q h1 h2 h3 => by
  by_cases e : p = i
  · subst e; exact h.f p q (Nat.le_refl _) h2 h3
  · exact h.e p q (by omega) (by omega) h3, fun p q h1 h2 h3 => h.f p q (by omega) h2 h3⟩
theorem IS.step {srt : Bool} {m i k : Nat} {c : Nat → Lt} (h : IS srt m i k c) (hk : 0 < k) (hki : k ≤ i) (hr : RL srt (c k) (c (k - 1))) : IS srt m i (k - 1) (swp c k (k - 1)) := by
  have sw := swp_k c hk
  refine ⟨fun p q h1 h2 h3 h4 => ?_, fun q h1 h2 => ?_, fun p h1 h2 => ?_, fun p q h1 h2 h3 => ?_, fun p q h1 h2 h3 => ?_⟩
  · rw [sw p, sw q, if_neg h3, if_neg h4]
    by_cases e1 : p = k
    · rw [if_pos e1]
      by_cases e2 : q = k
      · omega
      · rw [if_neg e2]; exact h.s1 (k - 1) q (by omega) h2 (by omega) e2
    · rw [if_neg e1]
      by_cases e2 : q = k
      · rw [if_pos e2]; exact h.s1 p (k - 1) (by omega) (by omega) e1 (by omega)
      · rw [if_neg e2]; exact h.s1 p q h1 h2 e1 e2
  · rw [sw (k - 1), if_neg (by omega), if_pos rfl, sw q]
    by_cases e2 : q = k
    · rw [if_pos e2]; exact hr
    · rw [if_neg e2, if_neg (by omega)]; exact h.s2 q (by omega) h2
  · rw [sw (k - 1), if_neg (by omega), if_pos rfl, sw p, if_neg h2]
    by_cases e2 : p = k
    · rw [if_pos e2]; exact h.d (k - 1) (by omega) (by omega)
    · rw [if_neg e2]; exact h.d p h1 e2
  · rw [sw q, if_neg (by omega), if_neg (by omega), sw p]
    by_cases e1 : p = k
    · rw [if_pos e1]; exact h.e (k - 1) q (by omega) h2 h3
    · rw [if_neg e1]
      by_cases e2 : p = k - 1
      · rw [if_pos e2]; exact h.e k q hki h2 h3
      · rw [if_neg e2]; exact h.e p q h1 h2 h3
  · rw [sw q, if_neg (by omega), if_neg (by omega), sw p, if_neg (by omega), if_neg (by omega)]
    exact h.f p q h1 h2 h3
theorem IS.stop {srt : Bool} {m i k : Nat} {c : Nat → Lt} (h : IS srt m i k c) (hki : k ≤ i) (hr : 0 < k → ¬ RL srt (c k) (c (k - 1))) : OS srt m (i + 1) c := by
  have hb : ∀ p, p < k → RL srt (c p) (c k) := fun p hp => by
    have h0 : RL srt (c (k - 1)) (c k) := RL.tot (hr (by omega)) (by have := h.d (k - 1) (by omega) (by omega); omega)
    by_cases e : p = k - 1
    · rw [e]; exact h0
    · exact (h.s1 p (k - 1) (by omega) (by omega) (by omega) (by omega)).tr h0
  refine ⟨fun p q h1 h2 => ?_, fun p q h1 h2 h3 => h.e p q (by omega) (by omega) h3, fun p q h1 h2 h3 => h.f p q (by omega) h2 h3⟩
  by_cases e1 : p = k
  · subst e1; exact h.s2 q h1 (by omega)
  · by_cases e2 : q = k
    · subst e2; exact hb p h1
    · exact h.s1 p q h1 (by omega) e1 e2
/-- the same things -/
def Mem (m : Nat) (c d : Nat → Lt) : Prop := ∀ l, (∃ p, p < m ∧ c p = l) ↔ ∃ p, p < m ∧ d p = l
theorem Mem.swp {m k : Nat} {c d : Nat → Lt} (h : Mem m c d) (hk : 0 < k) (hkm : k < m) : Mem m (swp c k (k - 1)) d := fun l => by
  rw [← h l]
  have sw := swp_k c hk
  constructor
  · rintro ⟨p, hp, e⟩
    rw [sw p] at e
    by_cases e1 : p = k
    · rw [if_pos e1] at e; exact ⟨k - 1, by omega, e⟩
    · rw [if_neg e1] at e
      by_cases e2 : p = k - 1
      · rw [if_pos e2] at e; exact ⟨k, hkm, e⟩
      · rw [if_neg e2] at e; exact ⟨p, hp, e⟩
  · rintro ⟨p, hp, e⟩
    by_cases e1 : p = k
    · subst e1; exact ⟨p - 1, by omega, by rw [sw, if_neg (by omega), if_pos rfl]; exact e⟩
    · by_cases e2 : p = k - 1
      · subst e2; exact ⟨k, hkm, by rw [sw, if_pos rfl]; exact e⟩
      · exact ⟨p, hp, by rw [sw, if_neg e1, if_neg e2]; exact e⟩
def lG (c : Nat → Lt) (j : Nat) : Value := ltV (c (j / 5)) (j % 5)
theorem lF_lG (L : List Lt) : lF L = lG fun i => L.getD i lt0 := rfl
theorem lG_at (c : Nat → Lt) (i r : Nat) (hr : r < 5) : lG c (i * 5 + r) = ltV (c i) r := by
  unfold lG
  rw [show (i * 5 + r) / 5 = i by omega, show (i * 5 + r) % 5 = r by omega]
theorem lgc {W : World} {base g m c : Nat} {d : Nat → Lt} (h : Own W base 110 5 (.slice (some ⟨g, 0, none⟩) m c) m (lG d)) {i : Nat} (hi : i < m) : W.cell? ⟨g, i * 5, none⟩ = some (.int .i64 ((d i).f : Int)) ∧ W.cell? ⟨g, i * 5 + 1, none⟩ = some (.int .i64 ((d i).t : Int)) ∧ W.cell? ⟨g, i * 5 + 2, none⟩ = some (.int .i64 (d i).p) ∧ W.cell? ⟨g, i * 5 + 3, none⟩ = some (.int .i64 (d i).k) ∧ W.cell? ⟨g, i * 5 + 4, none⟩ = some (.int .i64 (d i).m) := by
  have a : ∀ r, r < 5 → W.cell? ⟨g, i * 5 + r, none⟩ = some (ltV (d i) r) := fun r hr => by rw [h.cell (j := i * 5 + r) (by omega), lG_at d i r hr]
  exact ⟨a 0 (by decide), a 1 (by decide), a 2 (by decide), a 3 (by decide), a 4 (by decide)⟩
def ltL (l : Lt) : List Value := [.int .i64 (l.f : Int), .int .i64 (l.t : Int), .int .i64 l.p, .int .i64 l.k, .int .i64 l.m]
theorem ltL_at (l : Lt) (r : Nat) (hr : r < 5) : (ltL l)[r]? = some (ltV l r) := by
  rcases (by omega : r = 0 ∨ r = 1 ∨ r = 2 ∨ r = 3 ∨ r = 4) with rfl | rfl | rfl | rfl | rfl <;> rfl
def setLt (c : Nat → Lt) (k : Nat) (l : Lt) : Nat → Lt := fun i => if i = k then l else c i
/-- a letter of a row is another -/
theorem own_set {W : World} {base g m cp : Nat} {d : Nat → Lt} (h : Own W base 110 5 (.slice (some ⟨g, 0, none⟩) m cp) m (lG d)) (k : Nat) (l : Lt) : Own (W.setCells g (k * 5) (ltL l)) base 110 5 (.slice (some ⟨g, 0, none⟩) m cp) m (lG (setLt d k l)) := by
  refine Own.congr (h.put (k * 5) (ltL l)) fun j hj => ?_
  have hl : (ltL l).length = 5 := rfl
  unfold putF
  by_cases x : k * 5 ≤ j ∧ j < k * 5 + (ltL l).length
  · rw [if_pos x]
    obtain ⟨r, hr, rfl⟩ : ∃ r, r < 5 ∧ j = k * 5 + r := ⟨j - k * 5, by omega, by omega⟩
    rw [lG_at _ _ _ hr, show k * 5 + r - k * 5 = r by omega]
    unfold setLt
    rw [if_pos rfl]
    first | exact ltL_at l r hr | (rw [List.getD_eq_getElem?_getD, ltL_at l r hr]; rfl)
  · rw [if_neg x]
    unfold lG setLt
    rw [if_neg (by omega)]
theorem swp_setLt (c : Nat → Lt) {k : Nat} (hk : 0 < k) : setLt (setLt c k (c (k - 1))) (k - 1) (c k) = swp c k (k - 1) := by
  funext p
  rw [swp_k c hk]
  unfold setLt
  by_cases e1 : p = k - 1
  · rw [if_pos e1, if_neg (by omega), if_pos e1]
  · rw [if_neg e1]
    by_cases e2 : p = k
    · rw [if_pos e2, if_pos e2]
    · rw [if_neg e2, if_neg e2, if_neg e1]
set_option maxRecDepth 100000 in
theorem rahead_any (a b : Lt) {Fo : Nat → Option Obj} {base qb pb fb n : Nat} {room : Int} {srt : Bool} {ph fl : Nat → Int} {v : Value} {L : List Lt} (W : World) (h : RX Fo W base qb pb fb n room srt ph fl v L) : Calls Try.prog 58 #[.pointer (some ⟨qb, 0, none⟩), .agg #[.int .i64 (a.f : Int), .int .i64 (a.t : Int), .int .i64 a.p, .int .i64 a.k, .int .i64 a.m], .agg #[.int .i64 (b.f : Int), .int .i64 (b.t : Int), .int .i64 b.p, .int .i64 b.k, .int .i64 b.m]] W fun e W' => e = .returned (.bool (ah srt a b)) ∧ Below W.heap.size W W' := by
  obtain ⟨af, at_, ap, ak, am⟩ := a
  obtain ⟨bf, bt, bp, bk, bm⟩ := b
  obtain ⟨W2, hW2⟩ : ∃ W2, (W.alloc (.cells #[.int .i64 (af : Int), .int .i64 (at_ : Int), .int .i64 ap, .int .i64 ak, .int .i64 am] 110)).alloc (.cells #[.int .i64 (bf : Int), .int .i64 (bt : Int), .int .i64 bp, .int .i64 bk, .int .i64 bm] 110) = W2 := ⟨_, rfl⟩
  have hb : Below W.heap.size W W2 := by rw [← hW2]; exact ((Below.refl _ W).alloc (Nat.le_refl _) _).alloc (by rw [World.size_alloc]; omega) _
  have lq := lt_of_block h.p
  obtain ⟨c0, c1, c2, c3, c4, c5⟩ := h.cells
  have HB := mhid hb
  have HW := mhid hW2
  unfold ah
  clear h hb hW2
  simp only
  cases srt
  · by_cases e1 : af < bf
    · have d1 : decide ((af : Int) < (bf : Int)) = true := by simp; omega
      have d1n : decide (af < bf) = true := by simpa using e1
      simp only [Bool.false_and, Bool.false_eq_true, if_false, d1n]
      clear e1
      go_enter Try.func58, Try.ntmps58
      go_wp2
      go_ret
      exact ⟨rfl, by first | exact HB.out | (rw [HW.out]; exact HB.out)⟩
    · have d1 : decide ((af : Int) < (bf : Int)) = false := by simp; omega
      have d1n : decide (af < bf) = false := by simpa using e1
      simp only [Bool.false_and, Bool.false_eq_true, if_false, d1n]
      clear e1
      go_enter Try.func58, Try.ntmps58
      go_wp2
      go_ret
      exact ⟨rfl, by first | exact HB.out | (rw [HW.out]; exact HB.out)⟩
  · by_cases e0 : ak = bk
    · have d0 : (ak != bk) = false := by simp [e0]
      have d0b : (ak == bk) = true := by simp [e0]
      by_cases e1 : af < bf
      · have d1 : decide ((af : Int) < (bf : Int)) = true := by simp; omega
        have d1n : decide (af < bf) = true := by simpa using e1
        simp only [d0, Bool.and_false, Bool.false_eq_true, if_false, d1n]
        clear e1 e0
        go_enter Try.func58, Try.ntmps58
        go_wp2
        go_ret
        exact ⟨rfl, by first | exact HB.out | (rw [HW.out]; exact HB.out)⟩
      · have d1 : decide ((af : Int) < (bf : Int)) = false := by simp; omega
        have d1n : decide (af < bf) = false := by simpa using e1
        simp only [d0, Bool.and_false, Bool.false_eq_true, if_false, d1n]
        clear e1 e0
        go_enter Try.func58, Try.ntmps58
        go_wp2
        go_ret
        exact ⟨rfl, by first | exact HB.out | (rw [HW.out]; exact HB.out)⟩
    · have d0 : (ak != bk) = true := by simp [e0]
      have d0b : (ak == bk) = false := by simp [e0]
      by_cases e1 : ak < bk
      · have d1 : decide (ak < bk) = true := by simpa using e1
        simp only [d0, Bool.and_true, if_true, d1]
        clear e1 e0
        go_enter Try.func58, Try.ntmps58
        go_wp2
        go_ret
        exact ⟨rfl, by first | exact HB.out | (rw [HW.out]; exact HB.out)⟩
      · have d1 : decide (ak < bk) = false := by simpa using e1
        simp only [d0, Bool.and_true, if_true, d1]
        clear e1 e0
        go_enter Try.func58, Try.ntmps58
        go_wp2
        go_ret
        exact ⟨rfl, by first | exact HB.out | (rw [HW.out]; exact HB.out)⟩
end Go.Proofs.Ytkfjcbnhohipgaa
