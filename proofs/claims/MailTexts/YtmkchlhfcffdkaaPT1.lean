import Derived.Test.YtmkchlhfcffdkaaPS12
import Derived.Test.YtmkchlhfcffdkaaSS8
import Derived.BigQuiet
import Derived.Deep.RegionLaw
import Derived.Deep.RegionHeld3
import Derived.Deep.Cut
import Derived.Deep.DeepCutAuto
import Derived.Deep.CutBlock
import Derived.Deep.CutRange
import Derived.Deep.AppendLies
import Derived.Handy
import Derived.Lib.RabinKarpLaws
import Derived.ArgAppend
import Derived.Lib.JoinLaws
namespace Go.Proofs.Ytmkchlhfcffdkaa
open Go.ChangeShapes Go.WideShapes Go.ChangeAt Go.RowKit
set_option linter.unusedVariables false
set_option linter.unusedSimpArgs false

abbrev No : Nat → Option Obj := fun _ => none
/-- the blocks that a post writes, and those that it stands on -/
def PBm (wb n : Nat) (R : Nat → Nat) (H : Nat → Nat → Nat → Hf) (k : Nat) : Prop := k = wb ∨ (∃ i, i < n ∧ k = R i) ∨ ∃ i j h, i < n ∧ j < n ∧ h < 2 ∧ (H i j h).v.ownBlock = some k
def FP (hb wb bb n : Nat) (R : Nat → Nat) (H : Nat → Nat → Nat → Hf) (k : Nat) : Prop := k = hb ∨ k = bb ∨ PBm wb n R H k
theorem MP.weak {W : World} {Fo Fo' : Nat → Option Obj} {base hb wb bb n : Nat} {room : Int} {cmp : Value} {R : Nat → Nat} {ph fl : Nat → Int} {H : Nat → Nat → Nat → Hf} (h : MP Fo W base hb wb bb n room cmp R ph fl H) (hf : ∀ k o, Fo' k = some o → Fo k = some o) : MP Fo' W base hb wb bb n room cmp R ph fl H := ⟨h.p, h.w, h.b, h.r, h.ap, h.h, h.hd, h.hbs, h.s, fun k o hk => h.fr k o (hf k o hk)⟩
theorem MP.full {W : World} {base hb wb bb n : Nat} {room : Int} {cmp : Value} {R : Nat → Nat} {ph fl : Nat → Int} {H : Nat → Nat → Nat → Hf} (h : MP No W base hb wb bb n room cmp R ph fl H) (X : Nat → Prop) : ∃ Fo : Nat → Option Obj, (∀ k, ¬ PBm wb n R H k → ¬ X k → Fo k = W.heap[k]?) ∧ (∀ k, X k → ∀ o, Fo k ≠ some o) ∧ MP Fo W base hb wb bb n room cmp R ph fl H := by
  classical
  refine ⟨fun k => if PBm wb n R H k ∨ X k then none else W.heap[k]?, fun k h1 h2 => if_neg (fun h3 => h3.elim h1 h2), fun k hk o => ?_, ⟨h.p, h.w, h.b, h.r, h.ap, h.h, h.hd, h.hbs, h.s, fun k o hk => ?_⟩⟩
  · show (if PBm wb n R H k ∨ X k then none else W.heap[k]?) ≠ some o
    rw [if_pos (.inr hk)]
    intro e
    cases e
  · have hk' : (if PBm wb n R H k ∨ X k then none else W.heap[k]?) = some o := hk
    by_cases hp : PBm wb n R H k ∨ X k
    · rw [if_pos hp] at hk'; cases hk'
    · rw [if_neg hp] at hk'
      exact ⟨hk', fun e => hp (.inl (.inl e)), fun i hi e => hp (.inl (.inr (.inl ⟨i, hi, e⟩))), fun i j h9 hi hj hh e => hp (.inl (.inr (.inr ⟨i, j, h9, hi, hj, hh, e⟩)))⟩
theorem MP.after {W W' : World} {Fo : Nat → Option Obj} {X : Nat → Prop} {base hb wb bb n : Nat} {room : Int} {cmp : Value} {R : Nat → Nat} {ph' fl' : Nat → Int} {H H' : Nat → Nat → Nat → Hf} (hF : ∀ k, ¬ PBm wb n R H k → ¬ X k → Fo k = W.heap[k]?) (h : MP Fo W' base hb wb bb n room cmp R ph' fl' H') : MP No W' base hb wb bb n room cmp R ph' fl' H' ∧ (∀ k, k < W.heap.size → ¬ PBm wb n R H k → ¬ X k → W'.heap[k]? = W.heap[k]?) ∧ (∀ k, FP hb wb bb n R H' k → FP hb wb bb n R H k ∨ X k ∨ W.heap.size ≤ k) := by
  have key : ∀ k, k < W.heap.size → ¬ PBm wb n R H k → ¬ X k → ∃ o, Fo k = some o ∧ W.heap[k]? = some o := fun k h1 h2 h3 => ⟨_, by rw [hF k h2 h3, Array.getElem?_eq_getElem h1], Array.getElem?_eq_getElem h1⟩
  refine ⟨h.weak (fun k o hk => by cases hk), fun k h1 h2 h3 => ?_, fun k hk => ?_⟩
  · obtain ⟨o, h4, h5⟩ := key k h1 h2 h3
    rw [(h.fr k o h4).1, h5]
  · rcases Nat.lt_or_ge k W.heap.size with h1 | h1
    · by_cases h2 : PBm wb n R H k
      · exact .inl (.inr (.inr h2))
      · by_cases h3 : X k
        · exact .inr (.inl h3)
        · obtain ⟨o, h4, h5⟩ := key k h1 h2 h3
          obtain ⟨_, f1, f2, f3⟩ := h.fr k o h4
          rcases hk with hk | hk | hk | ⟨i, hi, hk⟩ | ⟨i, j, h9, hi, hj, hh, hk⟩
          · exact .inl (.inl hk)
          · exact .inl (.inr (.inl hk))
          · exact absurd hk f1
          · exact absurd hk (f2 i hi)
          · exact absurd hk (f3 i j h9 hi hj hh)
    · exact .inr (.inr h1)
theorem MP.keep {W W' : World} {base hb wb bb n : Nat} {room : Int} {cmp : Value} {R : Nat → Nat} {ph fl : Nat → Int} {H : Nat → Nat → Nat → Hf} (h : MP No W base hb wb bb n room cmp R ph fl H) (hk : ∀ k, FP hb wb bb n R H k → W'.heap[k]? = W.heap[k]?) : MP No W' base hb wb bb n room cmp R ph fl H := by
  refine ⟨(hk hb (.inl rfl)).trans h.p, h.w.far fun k hk' => hk k ?_, h.b.far fun k hk' => hk k ?_, fun i hi => (h.r i hi).far fun k hk' => hk k ?_, h.ap, fun i j e hi hj he => (h.h i j e hi hj he).far fun k hk' => hk k (.inr (.inr (.inr (.inr ⟨i, j, e, hi, hj, he, hk'⟩)))), h.hd, h.hbs, h.s, fun k o hk => by cases hk⟩
  · simp [Value.ownBlock] at hk'; subst hk'; exact .inr (.inr (.inl rfl))
  · simp [Value.ownBlock] at hk'; subst hk'; exact .inr (.inl rfl)
  · simp [Value.ownBlock] at hk'; subst hk'; exact .inr (.inr (.inr (.inl ⟨i, hi, rfl⟩)))
theorem MP.foot {W : World} {Fo : Nat → Option Obj} {base hb wb bb n : Nat} {room : Int} {cmp : Value} {R : Nat → Nat} {ph fl : Nat → Int} {H : Nat → Nat → Nat → Hf} (h : MP Fo W base hb wb bb n room cmp R ph fl H) {k : Nat} (hk : FP hb wb bb n R H k) : base ≤ k ∧ k < W.heap.size := by
  rcases hk with rfl | rfl | rfl | ⟨i, hi, rfl⟩ | ⟨i, j, e, hi, hj, he, hk⟩
  · exact ⟨h.hbs, lt_of_block h.p⟩
  · exact Own.lt h.b _ rfl
  · exact Own.lt h.w _ rfl
  · exact Own.lt (h.r i hi) _ rfl
  · exact (h.h i j e hi hj he).lt k hk

def kcT (p q : Tx) : Int := (p.val.size : Int) - (q.val.size : Int)
set_option maxRecDepth 100000 in
theorem len_any (p q : Tx) (W : World) : Calls Try.prog 6 #[.string p.val, .string q.val] W fun e w' => e = .returned (.int .i64 (kcT p q)) ∧ Below W.heap.size W w' := by
  have e : IntKind.i64.wrap ((p.val.size : Int) - (q.val.size : Int)) = kcT p q := by
    have h1 := p.2
    have h2 := q.2
    unfold kcT
    rw [IntKind.wrap_i64]
    omega
  generalize kcT p q = kk at e
  go_enter Try.func6, Try.ntmps6
  go_wp2
  go_ret
  exact ⟨rfl, Below.refl _ _⟩
abbrev ltT : Tx → Tx → Bool := SS.klt kcT
theorem ltT_eq (p q : Tx) : ltT p q = decide (p.val.size < q.val.size) := decide_eq_decide.2 (by unfold kcT; omega)
theorem ltT_ord : SOrd ltT where
  irr x := by rw [ltT_eq]; simp
  tr x y z h1 h2 := by
    rw [ltT_eq, decide_eq_true_eq] at h1 h2 ⊢
    omega
  ntr x y z h1 h2 := by
    rw [ltT_eq, decide_eq_false_iff_not] at h1 h2 ⊢
    omega
abbrev cvT : Value := .func (.func 6) #[] #[]
theorem texts_sorts : Sorts cvT ltT (fun _ => False) (fun _ => True) := fun W base g S c hS ho _ _ =>
  (SS.sortS_any (rp := (Subtype.val : Tx → ByteArray)) (kc := kcT) ltT_ord (by omega) W (base := base) (g := g) (n := S) (cap := S) (c := c) ho (fun _ p q w' _ => len_any p q w')).mono fun r W' ⟨h1, d, h2, h3, h4, h5⟩ => ⟨h1, d, h2, h3, h4, ⟨h5.os, h5.tape, h5.output, h5.size, fun k hk hne _ => h5.block k hk hne⟩, trivial⟩
theorem neq_str_same (a : ByteArray) (W : World) : (binOp .neq 9 (.string a) (.string a)).run Try.prog W = .ok (.bool false) W := by
  simp [binOp, Op.stringOp]
set_option maxRecDepth 100000 in
set_option maxHeartbeats 4000000 in
theorem sameTx_yes (m : Nat) (k k2 : Nat → Tx) (v u : Value) {B B2 : Nat} (W : World) (h : Own W B 9 1 v m (thF k)) (h2 : Own W B2 9 1 u m (thF k2)) (he : ∀ i, i < m → k i = k2 i) (hm : m ≤ 1000000) : Calls Try.prog 11 #[v, u] W fun e W' => e = .returned (.bool true) ∧ Below W.heap.size W W' := by
  obtain ⟨q, c, rfl⟩ : ∃ q c, v = .slice q m c := by
    rcases h.form with ⟨a, b⟩ | ⟨g, c, a, _⟩
    · exact ⟨none, 0, by rw [a, b]⟩
    · exact ⟨_, _, a⟩
  obtain ⟨q2, c2, rfl⟩ : ∃ q c, u = .slice q m c := by
    rcases h2.form with ⟨a, b⟩ | ⟨g, c, a, _⟩
    · exact ⟨none, 0, by rw [a, b]⟩
    · exact ⟨_, _, a⟩
  have nq : ((m : Int) != (m : Int)) = false := by simp
  have HQ := mhid (And.intro h (And.intro h2 he))
  clear h h2 he
  go_enter Try.func11, Try.ntmps11
  go_wp2_with fail
  go_loopw [13] (fun y wr => ∃ j : Nat, y = .int .i64 (j : Int) ∧ j ≤ m ∧ Below W.heap.size W wr) (fun y _ => m - (intOf y).toNat)
  case atStart => exact ⟨0, rfl, Nat.zero_le _, Below.refl _ _⟩
  case round =>
    obtain ⟨j, rfl, hj, hbr⟩ := hrel
    have HB := mhid hbr
    by_cases hlt : j < m
    · have dl : decide ((j : Int) < (m : Int)) = true := by simp; omega
      have dln : decide (j < m) = true := by simp; omega
      have hme := meas hlt
      have ek : IntKind.i64.wrap ((j : Int) + 1) = (j : Int) + 1 := by rw [IntKind.wrap_i64]; omega
      have k0 : (0 : Int) ≤ (j : Int) := by omega
      have k1 : (j : Int) < (m : Int) := by omega
      have o1 := HQ.out.1.later hbr
      have o2 := HQ.out.2.1.later hbr
      rcases o1.form with ⟨_, h0⟩ | ⟨g, c', h1, _⟩
      · omega
      injection h1 with h1 _ h1c
      rcases o2.form with ⟨_, h0⟩ | ⟨g2, c2', h1', _⟩
      · omega
      injection h1' with h1' _ h1c'
      subst h1 h1c h1' h1c'
      have a0 : wr.cell? ⟨g, j, none⟩ = some (.string (k j).val) := o1.cell (j := j) (by omega)
      have b0 : wr.cell? ⟨g2, j, none⟩ = some (.string (k2 j).val) := o2.cell (j := j) (by omega)
      rw [← HQ.out.2.2 j hlt] at b0
      generalize (k j).val = s at a0 b0
      have eqn := fun (W : World) => neq_str_same s W
      have HLT := mhid hlt
      clear o1 o2 hbr hlt hj
      go_upto_region 6 with fail
      go_quiet (fail)
      go_wp2_with fail
      exact ⟨⟨j + 1, rfl, HLT.out, HB.out.trans (below_drewNq _ _ _)⟩, hme⟩
    · have dl : decide ((j : Int) < (m : Int)) = false := by simp; omega
      have dln : decide (j < m) = false := by simp; omega
      obtain rfl : m = j := by omega
      clear hj hlt hbr
      go_wp2_with fail
      go_ret
      exact ⟨rfl, HB.out⟩
theorem Stb.base {c c' d : Nat → Tx} {m : Nat} (h : Stb ltT 0 m c d) (he : ∀ i, i < m → c i = c' i) : ∃ d', Stb ltT 0 m c' d' ∧ ∀ i, i < m → d' i = d i := by
  obtain ⟨f, g, h⟩ := h
  have hd : ∀ i, i < m → c' (f i) = d i := fun i hi => by rw [h.val i, he _ (h.inr i (Nat.zero_le _) hi).2]
  refine ⟨fun i => c' (f i), ⟨f, g, h.out, h.inr, h.li, h.ri, fun _ => rfl, fun i j hij => ?_⟩, hd⟩
  by_cases hj : j < m
  · have hi : i < m := by omega
    show f i < f j ∨ ltT (c' (f i)) (c' (f j)) = true
    rw [hd i hi, hd j hj]
    exact h.st i j hij
  · left
    have e2 := h.out j (by omega)
    by_cases hi : i < m
    · have e1 := (h.inr i (Nat.zero_le _) hi).2
      omega
    · have e1 := h.out i (by omega)
      omega
theorem Stb.far {c d : Nat → Tx} {m : Nat} (h : Stb ltT 0 m c d) {i : Nat} (hi : m ≤ i) : d i = c i := by
  obtain ⟨f, g, h⟩ := h
  rw [h.val i, h.out i (by omega)]
theorem own_set1 {W : World} {B g n c : Nat} {k : Nat → Tx} (h : Own W B 9 1 (.slice (some ⟨g, 0, none⟩) n c) n (thF k)) (i : Nat) (a : Tx) : Own (W.setCell ⟨g, i, none⟩ (.string a.val)) B 9 1 (.slice (some ⟨g, 0, none⟩) n c) n (thF (SS.setS k i a)) := by
  refine Own.congr (h.put i [.string a.val]) fun j hj => ?_
  unfold putF thF SS.setS
  simp only [List.length_singleton]
  by_cases e : j = i
  · subst e
    rw [if_pos (by omega), if_pos rfl, show j - j = 0 by omega]
    rfl
  · rw [if_neg (by omega), if_neg e]
end Go.Proofs.Ytmkchlhfcffdkaa
