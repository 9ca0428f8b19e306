import Derived.Test.YtomjnncgogkglaaTPT0
import Derived.Test.YtomjnncgogkglaaTPR
import Derived.Test.YtomjnncgogkglaaTPM
namespace Go.Proofs.Ytomjnncgogkglaa
open Go.ChangeShapes Go.WideShapes Go.ChangeAt Go.RowKit
set_option linter.unusedVariables false
set_option linter.unusedSimpArgs false

theorem keyIT : Maps.Keyed Try.prog 3 := Maps.int_keyed Try.underlying3
theorem zeroT (w : World) : (zeroValue 65).run Try.prog w = .ok (.agg #[.int .i64 0, .int .i64 0, .int .i64 0, .int .u64 0, .int .u64 0]) w := by go_simp
/-! ### the tallies behind n events -/
def tmid (x : Ty) (e : Se) (k : Int) : Ty := if e.d = k then htT x e.t else x
def tl (X : Nat → Se) (k : Int) : Nat → Ty
  | 0 => ⟨0, 0, 0, 0, 0⟩
  | n + 1 => if (X n).s = k then stT (tmid (tl X k n) (X n) k) else tmid (tl X k n) (X n) k
def pr (X : Nat → Se) (k : Int) : Nat → Bool
  | 0 => false
  | n + 1 => decide (k = (X n).s) || (decide (k = (X n).d) || pr X k n)
theorem tmid_le (x : Ty) (e : Se) (k : Int) : (tmid x e k).s = x.s ∧ x.e ≤ (tmid x e k).e ∧ (tmid x e k).e ≤ x.e + 1 ∧ (tmid x e k).p = x.p := by
  unfold tmid
  split
  · exact ⟨rfl, by show x.e ≤ x.e + 1; omega, by show x.e + 1 ≤ x.e + 1; omega, rfl⟩
  · exact ⟨rfl, Int.le_refl _, by omega, rfl⟩
theorem tl_le (X : Nat → Se) (k : Int) (n : Nat) : (0 ≤ (tl X k n).e ∧ (tl X k n).e ≤ n) ∧ (0 ≤ (tl X k n).s ∧ (tl X k n).s ≤ n) ∧ (tl X k n).p = 0 := by
  induction n with
  | zero => exact ⟨⟨Int.le_refl 0, Int.le_refl 0⟩, ⟨Int.le_refl 0, Int.le_refl 0⟩, rfl⟩
  | succ n ih =>
    obtain ⟨a1, a2, a3, a4⟩ := tmid_le (tl X k n) (X n) k
    have hs : (tl X k (n + 1)).e = (tmid (tl X k n) (X n) k).e ∧ ((tl X k (n + 1)).s = (tmid (tl X k n) (X n) k).s ∨ (tl X k (n + 1)).s = (tmid (tl X k n) (X n) k).s + 1) ∧ (tl X k (n + 1)).p = (tmid (tl X k n) (X n) k).p := by
      show ((if _ then _ else _ : Ty).e = _) ∧ ((if _ then _ else _ : Ty).s = _ ∨ (if _ then _ else _ : Ty).s = _) ∧ (if _ then _ else _ : Ty).p = _
      split
      · exact ⟨rfl, .inr rfl, rfl⟩
      · exact ⟨rfl, .inl rfl, rfl⟩
    obtain ⟨b1, b2, b3⟩ := hs
    obtain ⟨⟨i1, i2⟩, ⟨i3, i4⟩, i5⟩ := ih
    refine ⟨⟨by omega, by omega⟩, ⟨?_, ?_⟩, by omega⟩
    · rcases b2 with b2 | b2 <;> omega
    · rcases b2 with b2 | b2 <;> omega
/-! ### a map of tallies -/
def tyD (x : Ty) : DataW Unit := .agg [.lit (.int .i64 x.p), .lit (.int .i64 x.e), .lit (.int .i64 x.s), .lit (.int .u64 x.f), .lit (.int .u64 x.l)]
theorem tyD_inj {x y : Ty} (h : tyD x = tyD y) : x = y := by
  obtain ⟨a, b, c, d, e⟩ := x
  obtain ⟨a', b', c', d', e'⟩ := y
  simp [tyD] at h
  simp [h]
def tyR (v : Value) : Option (DataW Unit × List MemPlace) :=
  match v with
  | .agg cs => match cs.toList with
    | [.int .i64 a, .int .i64 b, .int .i64 c, .int .u64 d, .int .u64 e] => some (tyD ⟨a, b, c, d, e⟩, [])
    | _ => none
  | _ => none
theorem tyR_mk (x : Ty) : tyR (.agg (tyL x).toArray) = some (tyD x, []) := rfl
theorem tyR_inv {v : Value} {z : DataW Unit × List MemPlace} (h : tyR v = some z) : ∃ x, v = .agg (tyL x).toArray ∧ z = (tyD x, []) := by
  unfold tyR at h
  split at h
  · rename_i cs
    split at h
    · rename_i a b c d e hc
      injection h with h
      refine ⟨⟨a, b, c, d, e⟩, ?_, h.symm⟩
      congr 1
      exact Array.toList_inj.1 (by rw [hc]; rfl)
    · cases h
  · cases h
structure MT (V : Int → Ty) (p : Int → Bool) (D : DataW Unit) : Prop where
  has : ∀ k, Maps.has D (.int .i64 k) = p k
  val : ∀ k, D.atKey (.int .i64 k) (tyD ⟨0, 0, 0, 0, 0⟩) = tyD (V k)
theorem MT.zero (X : Nat → Se) : MT (fun k => tl X k 0) (fun k => pr X k 0) (.map []) := ⟨fun k => by simp [Maps.has, pr], fun k => WideAt.atKey_none _ (by simp)⟩
theorem MT.put {V : Int → Ty} {p : Int → Bool} {D : DataW Unit} (h : MT V p D) (hm : Maps.IsMap D) (k0 : Int) (y : Ty) {V' : Int → Ty} {p' : Int → Bool} (hV : ∀ k, V' k = if k = k0 then y else V k) (hp : ∀ k, p' k = (decide (k = k0) || p k)) : MT V' p' (D.put (.int .i64 k0) (tyD y)) := by
  refine ⟨fun k => ?_, fun k => ?_⟩
  · rw [hp]
    by_cases e : k = k0
    · subst e
      rw [Maps.has_put_same hm (isKeyInt _ _)]
      simp
    · rw [Maps.has_put_other (fun e9 => by injection e9 with _ e9; exact e e9), h.has, decide_eq_false e]
      rfl
  · rw [hV]
    by_cases e : k = k0
    · subst e
      rw [Maps.atKey_put_same hm (isKeyInt _ _), if_pos rfl]
    · rw [Maps.atKey_put_other (fun e9 => by injection e9 with _ e9; exact e e9), h.val, if_neg e]
set_option maxRecDepth 100000 in
theorem MT.look {V : Int → Ty} {p : Int → Bool} {D : DataW Unit} (h : MT V p D) {w : World} {b n : Nat} (ho : w.ownsMap Try.prog 3 tyR b n D) {k : Int} (hk : (Lit.int .i64 k).wf = true) : (Instr.lookup 84 (.map (some b)) (.int .i64 k) false).run Try.prog w = .ok (.agg (tyL (V k)).toArray) w := by
  obtain ⟨v, ps, h1, h2⟩ := ho.lookup keyIT Try.underlying84 (zeroT w) (zd := tyD ⟨0, 0, 0, 0, 0⟩) (zp := []) (tyR_mk ⟨0, 0, 0, 0, 0⟩) (Maps.keyOf_int_mk (P := Try.prog) Try.underlying3 hk)
  obtain ⟨x, rfl, h3⟩ := tyR_inv h2
  injection h3 with h3 _
  rw [h.val] at h3
  rw [h1, tyD_inj h3]
theorem tl_mid (X : Nat → Se) (n : Nat) : ∀ k, tmid (tl X k n) (X n) k = if k = (X n).d then htT (tl X (X n).d n) (X n).t else tl X k n := fun k => by
  unfold tmid
  by_cases e : (X n).d = k
  · rw [if_pos e, if_pos e.symm, e]
  · rw [if_neg e, if_neg (fun h => e h.symm)]
theorem tl_end (X : Nat → Se) (n : Nat) : ∀ k, tl X k (n + 1) = if k = (X n).s then stT (tmid (tl X (X n).s n) (X n) (X n).s) else tmid (tl X k n) (X n) k := fun k => by
  show (if _ then _ else _) = _
  by_cases e : (X n).s = k
  · rw [if_pos e, if_pos e.symm, e]
  · rw [if_neg e, if_neg (fun h => e h.symm)]
theorem grown_of {w w' : World} (h : Below w.heap.size w w') : w.grownBy w' none := ⟨h.os, h.tape, h.output, h.size, fun k hk _ => h.block k hk⟩
/-! ### the keys told entry by entry -/
structure KL (p : Int → Bool) (L : List Int) (left : Lit → Bool) : Prop where
  nd : L.Pairwise (fun x y => x ≠ y)
  told : ∀ k, k ∈ L → p k = true ∧ left (.int .i64 k) = false
  all : ∀ k, p k = true → left (.int .i64 k) = false → k ∈ L
theorem KL.start {V : Int → Ty} {p : Int → Bool} {D : DataW Unit} (h : MT V p D) : KL p [] (Maps.has D) := ⟨List.Pairwise.nil, fun _ h => absurd h (List.not_mem_nil), fun k h1 h2 => by rw [h.has, h1] at h2; cases h2⟩
theorem KL.step {p : Int → Bool} {L : List Int} {left : Lit → Bool} (h : KL p L left) {x : Int} (hx : left (.int .i64 x) = true) (hp : p x = true) : KL p (L ++ [x]) (fun z => left z && !z.sameKey (.int .i64 x)) := by
  refine ⟨?_, fun k hm => ?_, fun k h1 h2 => ?_⟩
  · rw [List.pairwise_append]
    refine ⟨h.nd, by simp, fun a ha b hb => ?_⟩
    rw [List.mem_singleton.1 hb]
    intro e
    have := (h.told a ha).2
    rw [e, hx] at this
    cases this
  · rcases List.mem_append.1 hm with hm | hm
    · obtain ⟨a2, a3⟩ := h.told k hm
      exact ⟨a2, by simp [a3]⟩
    · rw [List.mem_singleton.1 hm]
      exact ⟨hp, by simp [same_int]⟩
  · by_cases e : k = x
    · subst e
      simp
    · rw [same_int, decide_eq_false e] at h2
      exact List.mem_append_left _ (h.all k h1 (by simpa using h2))
theorem KL.done {p : Int → Bool} {L : List Int} {left : Lit → Bool} (h : KL p L left) (hl : ∀ k, left k = false) : ∀ k, k ∈ L ↔ p k = true := fun k => ⟨fun hm => (h.told k hm).1, fun hp => h.all k hp (hl _)⟩
theorem KL.pos {V : Int → Ty} {p : Int → Bool} {D : DataW Unit} {x : Int} {y : Ty} (h : MT V p D) (hat : ∀ zd, D.atKey (.int .i64 x) zd = tyD y) : y = V x ∧ p x = true := by
  refine ⟨?_, ?_⟩
  · have := hat (tyD ⟨0, 0, 0, 0, 0⟩)
    rw [h.val] at this
    exact (tyD_inj this).symm
  · have := Maps.has_true_of_atKey hat
    rw [h.has] at this
    exact this
/-- a part's tally as it is told -/
def fin (X : Nat → Se) (N : Nat) (k : Int) : Ty := ⟨k, (tl X k N).e, (tl X k N).s, (tl X k N).f, (tl X k N).l⟩
end Go.Proofs.Ytomjnncgogkglaa
