import Derived.Test.YtomjnncgogkglaaTP2
import Derived.Maps.Own
import Derived.Maps.Ext
import Derived.Maps.RangeWalk
namespace Go.Proofs.Ytomjnncgogkglaa
open Go.ChangeShapes Go.WideShapes Go.ChangeAt Go.RowKit
set_option linter.unusedVariables false
set_option linter.unusedSimpArgs false

/-! ### how often each key comes -/
def kc (κ : Nat → Int) (k : Int) : Nat → Nat
  | 0 => 0
  | n + 1 => if κ n = k then kc κ k n + 1 else kc κ k n
theorem kc_le (κ : Nat → Int) (k : Int) (n : Nat) : kc κ k n ≤ n := by
  induction n with
  | zero => exact Nat.le_refl _
  | succ n ih => unfold kc; split <;> omega
theorem kc_yes {κ : Nat → Int} {k : Int} {n : Nat} (h : κ n = k) : kc κ k (n + 1) = kc κ k n + 1 := by show (if _ then _ else _) = _; rw [if_pos h]
theorem kc_no {κ : Nat → Int} {k : Int} {n : Nat} (h : κ n ≠ k) : kc κ k (n + 1) = kc κ k n := by show (if _ then _ else _) = _; rw [if_neg h]
theorem kc_pos {κ : Nat → Int} {k : Int} {n : Nat} (h : 0 < kc κ k n) : ∃ j, j < n ∧ κ j = k := by
  induction n with
  | zero => exact absurd h (Nat.lt_irrefl _)
  | succ n ih =>
    by_cases e : κ n = k
    · exact ⟨n, by omega, e⟩
    · rw [kc_no e] at h
      obtain ⟨j, h1, h2⟩ := ih h
      exact ⟨j, by omega, h2⟩
theorem pw_one {α : Type} {R : α → α → Prop} (asy : ∀ x y, R x y → R y x → False) : ∀ {L M : List α}, L.Pairwise R → M.Pairwise R → (∀ x, x ∈ L ↔ x ∈ M) → L = M
  | [], [], _, _, _ => rfl
  | [], b :: m, _, _, h => by have := (h b).2 (by simp); cases this
  | a :: l, [], _, _, h => by have := (h a).1 (by simp); cases this
  | a :: l, b :: m, hl, hm, h => by
    obtain ⟨hl1, hl2⟩ := List.pairwise_cons.1 hl
    obtain ⟨hm1, hm2⟩ := List.pairwise_cons.1 hm
    have e : a = b := by
      rcases List.mem_cons.1 ((h a).1 (by simp)) with h1 | h1
      · exact h1
      · rcases List.mem_cons.1 ((h b).2 (by simp)) with h2 | h2
        · exact h2.symm
        · exact (asy _ _ (hl1 b h2) (hm1 a h1)).elim
    subst e
    rw [pw_one asy hl2 hm2 fun x => ⟨fun hx => ?_, fun hx => ?_⟩]
    · rcases List.mem_cons.1 ((h x).1 (List.mem_cons_of_mem _ hx)) with h1 | h1
      · subst h1; exact (asy _ _ (hl1 _ hx) (hl1 _ hx)).elim
      · exact h1
    · rcases List.mem_cons.1 ((h x).2 (List.mem_cons_of_mem _ hx)) with h1 | h1
      · subst h1; exact (asy _ _ (hm1 _ hx) (hm1 _ hx)).elim
      · exact h1
/-- a list of keys with their counts: each key that comes, once -/
structure HM (κ : Nat → Int) (N : Nat) (L : List (Int × Int)) : Prop where
  nd : L.Pairwise (fun x y => x.1 ≠ y.1)
  mem : ∀ k c, (k, c) ∈ L ↔ (0 < kc κ k N ∧ c = kc κ k N)
theorem HM.perm {κ : Nat → Int} {N : Nat} {L M : List (Int × Int)} (h : HM κ N L) (hp : L.Perm M) : HM κ N M := ⟨(hp.pairwise_iff (fun h => fun e => h e.symm)).1 h.nd, fun k c => hp.mem_iff.symm.trans (h.mem k c)⟩
/-! ### a map of counts -/
/-- what the map reads as behind n keys -/
structure MI (H : Type) (q : IntKind) (κ : Nat → Int) (n : Nat) (D : DataW H) : Prop where
  has : ∀ k, Maps.has D (.int q k) = decide (0 < kc κ k n)
  val : ∀ k, D.atKey (.int q k) (.lit (.int .i64 0)) = .lit (.int .i64 (kc κ k n))
theorem MI.zero (H : Type) (q : IntKind) (κ : Nat → Int) : MI H q κ 0 (.map []) := ⟨fun k => by simp [Maps.has, kc], fun k => WideAt.atKey_none _ (by simp)⟩
theorem isKeyInt (q : IntKind) (k : Int) : WideAt.IsKeyLit (.int q k) := by simp [WideAt.IsKeyLit]
theorem MI.step {H : Type} {q : IntKind} {κ : Nat → Int} {n : Nat} {D : DataW H} (h : MI H q κ n D) (hm : Maps.IsMap D) : MI H q κ (n + 1) (D.put (.int q (κ n)) (.lit (.int .i64 (kc κ (κ n) n + 1)))) := by
  refine ⟨fun k => ?_, fun k => ?_⟩
  · by_cases e : κ n = k
    · subst e
      rw [Maps.has_put_same hm (isKeyInt _ _), kc_yes rfl]
      simp
    · rw [Maps.has_put_other (fun e9 => by injection e9 with _ e9; exact e e9.symm), kc_no e, h.has]
  · by_cases e : κ n = k
    · subst e
      rw [Maps.atKey_put_same hm (isKeyInt _ _), kc_yes rfl]
      simp
    · rw [Maps.atKey_put_other (fun e9 => by injection e9 with _ e9; exact e e9.symm), kc_no e, h.val]
/-! ### a map of counts told entry by entry -/
structure JL (q : IntKind) (κ : Nat → Int) (N : Nat) (L : List (Int × Int)) (left : Lit → Bool) : Prop where
  nd : L.Pairwise (fun x y => x.1 ≠ y.1)
  told : ∀ k c, (k, c) ∈ L → c = kc κ k N ∧ 0 < kc κ k N ∧ left (.int q k) = false
  all : ∀ k, 0 < kc κ k N → left (.int q k) = false → ∃ c, (k, c) ∈ L
theorem JL.start {H : Type} {q : IntKind} {κ : Nat → Int} {N : Nat} {D : DataW H} (h : MI H q κ N D) : JL q κ N [] (Maps.has D) := ⟨List.Pairwise.nil, fun _ _ h => absurd h (List.not_mem_nil), fun k h1 h2 => by rw [h.has, decide_eq_true h1] at h2; cases h2⟩
theorem same_int (q : IntKind) (a b : Int) : (Lit.int q a).sameKey (.int q b) = decide (a = b) := by
  by_cases h : a = b <;> simp [Lit.sameKey, h]
theorem JL.step {q : IntKind} {κ : Nat → Int} {N : Nat} {L : List (Int × Int)} {left : Lit → Bool} (h : JL q κ N L left) {x : Int} (hx : left (.int q x) = true) (hp : 0 < kc κ x N) : JL q κ N (L ++ [(x, (kc κ x N : Int))]) (fun z => left z && !z.sameKey (.int q x)) := by
  refine ⟨?_, fun k c hm => ?_, fun k h1 h2 => ?_⟩
  · rw [List.pairwise_append]
    refine ⟨h.nd, by simp, fun a ha b hb => ?_⟩
    rw [List.mem_singleton.1 hb]
    intro e
    have := (h.told a.1 a.2 ha).2.2
    rw [e] at this
    simp only at this
    rw [hx] at this
    cases this
  · rcases List.mem_append.1 hm with hm | hm
    · obtain ⟨a1, a2, a3⟩ := h.told k c hm
      exact ⟨a1, a2, by simp [a3]⟩
    · have := List.mem_singleton.1 hm
      injection this with e1 e2
      subst e1 e2
      exact ⟨rfl, hp, by simp [same_int]⟩
  · by_cases e : k = x
    · subst e
      exact ⟨_, List.mem_append_right _ (List.mem_singleton.2 rfl)⟩
    · rw [same_int, decide_eq_false e] at h2
      obtain ⟨c, hc⟩ := h.all k h1 (by simpa using h2)
      exact ⟨c, List.mem_append_left _ hc⟩
theorem JL.done {q : IntKind} {κ : Nat → Int} {N : Nat} {L : List (Int × Int)} {left : Lit → Bool} (h : JL q κ N L left) (hl : ∀ k, left k = false) : HM κ N L := ⟨h.nd, fun k c => ⟨fun hm => ⟨(h.told k c hm).2.1, (h.told k c hm).1⟩, fun ⟨h1, h2⟩ => by
  obtain ⟨c', hc⟩ := h.all k h1 (hl _)
  rw [h2, ← (h.told k c' hc).1]
  exact hc⟩⟩
theorem JL.pos {H : Type} {q : IntKind} {κ : Nat → Int} {N : Nat} {D : DataW H} {x c : Int} (h : MI H q κ N D) (hat : ∀ zd, D.atKey (.int q x) zd = .lit (.int .i64 c)) : c = kc κ x N ∧ 0 < kc κ x N := by
  refine ⟨?_, ?_⟩
  · have := hat (.lit (.int .i64 0))
    rw [h.val] at this
    injection this with this
    injection this with _ this
    exact this.symm
  · have := Maps.has_true_of_atKey hat
    rw [h.has] at this
    simpa using this
theorem owns_size {H : Type} {P : Program} {k : TypeId} {R : Value → Option (DataW H × List MemPlace)} {w : World} {b n : Nat} {D : DataW H} (h : w.ownsMap P k R b n D) : Maps.size D ≤ n := by
  obtain ⟨es, clock, _, _, hs, rfl⟩ := h
  show List.length _ ≤ n
  rw [length_sorted]
  simpa using hs
theorem owns_isMap {H : Type} {P : Program} {k : TypeId} {R : Value → Option (DataW H × List MemPlace)} {w : World} {b n : Nat} {D : DataW H} (h : w.ownsMap P k R b n D) : Maps.IsMap D := by
  obtain ⟨es, clock, _, _, hs, rfl⟩ := h
  exact ⟨_, rfl⟩
end Go.Proofs.Ytomjnncgogkglaa
