import Derived.Test.YtkfjcbnhohipgaaMG4
import Derived.BigQuiet
import Derived.Deep.RegionLaw
import Derived.Deep.RegionHeld3
import Derived.Deep.Cut
import Derived.Deep.DeepCutAuto
import Derived.Deep.CutBlock
import Derived.Deep.CutRange
import Derived.Deep.AppendLies
import Derived.Handy
import Derived.Lib.RabinKarpLaws
namespace Go.Proofs.Ytkfjcbnhohipgaa
open Go.ChangeShapes Go.WideShapes Go.ChangeAt Go.RowKit
set_option linter.unusedVariables false
set_option linter.unusedSimpArgs false


abbrev No : Nat → Option Obj := fun _ => none
/-- the blocks that a post writes, and those that it stands on -/
def PBm (wb n : Nat) (R : Nat → Nat) (H : Nat → Nat → Nat → Hf) (k : Nat) : Prop := k = wb ∨ (∃ i, i < n ∧ k = R i) ∨ ∃ i j h, i < n ∧ j < n ∧ h < 2 ∧ (H i j h).v.ownBlock = some k
def FP (hb wb bb n : Nat) (R : Nat → Nat) (H : Nat → Nat → Nat → Hf) (k : Nat) : Prop := k = hb ∨ k = bb ∨ PBm wb n R H k
def FQ (qb pb fb : Nat) (v : Value) (k : Nat) : Prop := k = qb ∨ k = pb ∨ k = fb ∨ v.ownBlock = some k
def FS (sb : Nat) (V : Nat → Value) (k : Nat) : Prop := k = sb ∨ ∃ i, True ∧ (V i).ownBlock = some k
theorem MP.weak {W : World} {Fo Fo' : Nat → Option Obj} {base hb wb bb n : Nat} {room : Int} {cmp : Value} {R : Nat → Nat} {ph fl : Nat → Int} {H : Nat → Nat → Nat → Hf} (h : MP Fo W base hb wb bb n room cmp R ph fl H) (hf : ∀ k o, Fo' k = some o → Fo k = some o) : MP Fo' W base hb wb bb n room cmp R ph fl H := ⟨h.p, h.w, h.b, h.r, h.ap, h.h, h.hd, h.hbs, h.s, fun k o hk => h.fr k o (hf k o hk)⟩
theorem MP.full {W : World} {base hb wb bb n : Nat} {room : Int} {cmp : Value} {R : Nat → Nat} {ph fl : Nat → Int} {H : Nat → Nat → Nat → Hf} (h : MP No W base hb wb bb n room cmp R ph fl H) (X : Nat → Prop) : ∃ Fo : Nat → Option Obj, (∀ k, ¬ PBm wb n R H k → ¬ X k → Fo k = W.heap[k]?) ∧ (∀ k, X k → ∀ o, Fo k ≠ some o) ∧ MP Fo W base hb wb bb n room cmp R ph fl H := by
  classical
  refine ⟨fun k => if PBm wb n R H k ∨ X k then none else W.heap[k]?, fun k h1 h2 => if_neg (fun h3 => h3.elim h1 h2), fun k hk o => ?_, ⟨h.p, h.w, h.b, h.r, h.ap, h.h, h.hd, h.hbs, h.s, fun k o hk => ?_⟩⟩
  · show (if PBm wb n R H k ∨ X k then none else W.heap[k]?) ≠ some o
    rw [if_pos (.inr hk)]
    intro e
    cases e
  · have hk' : (if PBm wb n R H k ∨ X k then none else W.heap[k]?) = some o := hk
    by_cases hp : PBm wb n R H k ∨ X k
    · rw [if_pos hp] at hk'; cases hk'
    · rw [if_neg hp] at hk'
      exact ⟨hk', fun e => hp (.inl (.inl e)), fun i hi e => hp (.inl (.inr (.inl ⟨i, hi, e⟩))), fun i j h9 hi hj hh e => hp (.inl (.inr (.inr ⟨i, j, h9, hi, hj, hh, e⟩)))⟩
theorem MP.after {W W' : World} {Fo : Nat → Option Obj} {X : Nat → Prop} {base hb wb bb n : Nat} {room : Int} {cmp : Value} {R : Nat → Nat} {ph' fl' : Nat → Int} {H H' : Nat → Nat → Nat → Hf} (hF : ∀ k, ¬ PBm wb n R H k → ¬ X k → Fo k = W.heap[k]?) (h : MP Fo W' base hb wb bb n room cmp R ph' fl' H') : MP No W' base hb wb bb n room cmp R ph' fl' H' ∧ (∀ k, k < W.heap.size → ¬ PBm wb n R H k → ¬ X k → W'.heap[k]? = W.heap[k]?) ∧ (∀ k, FP hb wb bb n R H' k → FP hb wb bb n R H k ∨ X k ∨ W.heap.size ≤ k) := by
  have key : ∀ k, k < W.heap.size → ¬ PBm wb n R H k → ¬ X k → ∃ o, Fo k = some o ∧ W.heap[k]? = some o := fun k h1 h2 h3 => ⟨_, by rw [hF k h2 h3, Array.getElem?_eq_getElem h1], Array.getElem?_eq_getElem h1⟩
  refine ⟨h.weak (fun k o hk => by cases hk), fun k h1 h2 h3 => ?_, fun k hk => ?_⟩
  · obtain ⟨o, h4, h5⟩ := key k h1 h2 h3
    rw [(h.fr k o h4).1, h5]
  · rcases Nat.lt_or_ge k W.heap.size with h1 | h1
    · by_cases h2 : PBm wb n R H k
      · exact .inl (.inr (.inr h2))
      · by_cases h3 : X k
        · exact .inr (.inl h3)
        · obtain ⟨o, h4, h5⟩ := key k h1 h2 h3
          obtain ⟨_, f1, f2, f3⟩ := h.fr k o h4
          rcases hk with hk | hk | hk | ⟨i, hi, hk⟩ | ⟨i, j, h9, hi, hj, hh, hk⟩
          · exact .inl (.inl hk)
          · exact .inl (.inr (.inl hk))
          · exact absurd hk f1
          · exact absurd hk (f2 i hi)
          · exact absurd hk (f3 i j h9 hi hj hh)
    · exact .inr (.inr h1)
theorem MP.keep {W W' : World} {base hb wb bb n : Nat} {room : Int} {cmp : Value} {R : Nat → Nat} {ph fl : Nat → Int} {H : Nat → Nat → Nat → Hf} (h : MP No W base hb wb bb n room cmp R ph fl H) (hk : ∀ k, FP hb wb bb n R H k → W'.heap[k]? = W.heap[k]?) : MP No W' base hb wb bb n room cmp R ph fl H := by
  refine ⟨(hk hb (.inl rfl)).trans h.p, h.w.far fun k hk' => hk k ?_, h.b.far fun k hk' => hk k ?_, fun i hi => (h.r i hi).far fun k hk' => hk k ?_, h.ap, fun i j e hi hj he => (h.h i j e hi hj he).far fun k hk' => hk k (.inr (.inr (.inr (.inr ⟨i, j, e, hi, hj, he, hk'⟩)))), h.hd, h.hbs, h.s, fun k o hk => by cases hk⟩
  · simp [Value.ownBlock] at hk'; subst hk'; exact .inr (.inr (.inl rfl))
  · simp [Value.ownBlock] at hk'; subst hk'; exact .inr (.inl rfl)
  · simp [Value.ownBlock] at hk'; subst hk'; exact .inr (.inr (.inr (.inl ⟨i, hi, rfl⟩)))
theorem MP.foot {W : World} {Fo : Nat → Option Obj} {base hb wb bb n : Nat} {room : Int} {cmp : Value} {R : Nat → Nat} {ph fl : Nat → Int} {H : Nat → Nat → Nat → Hf} (h : MP Fo W base hb wb bb n room cmp R ph fl H) {k : Nat} (hk : FP hb wb bb n R H k) : base ≤ k ∧ k < W.heap.size := by
  rcases hk with rfl | rfl | rfl | ⟨i, hi, rfl⟩ | ⟨i, j, e, hi, hj, he, hk⟩
  · exact ⟨h.hbs, lt_of_block h.p⟩
  · exact Own.lt h.b _ rfl
  · exact Own.lt h.w _ rfl
  · exact Own.lt (h.r i hi) _ rfl
  · exact (h.h i j e hi hj he).lt k hk
theorem MP.lower {W : World} {Fo : Nat → Option Obj} {base base' hb wb bb n : Nat} {room : Int} {cmp : Value} {R : Nat → Nat} {ph fl : Nat → Int} {H : Nat → Nat → Nat → Hf} (h : MP Fo W base hb wb bb n room cmp R ph fl H) (hb' : base' ≤ base) : MP Fo W base' hb wb bb n room cmp R ph fl H := ⟨h.p, h.w.lower hb', h.b.lower hb', fun i hi => (h.r i hi).lower hb', h.ap, fun i j k hi hj hk => (h.h i j k hi hj hk).lower hb', h.hd, Nat.le_trans hb' h.hbs, h.s, h.fr⟩
theorem RX.weak {W : World} {Fo Fo' : Nat → Option Obj} {base qb pb fb n : Nat} {room : Int} {srt : Bool} {ph fl : Nat → Int} {v : Value} {L : List Lt} (h : RX Fo W base qb pb fb n room srt ph fl v L) (hf : ∀ k o, Fo' k = some o → Fo k = some o) : RX Fo' W base qb pb fb n room srt ph fl v L := ⟨h.p, h.h, h.f, h.l, h.ne, h.hbs, fun k o hk => h.fr k o (hf k o hk)⟩
theorem RX.full {W : World} {base qb pb fb n : Nat} {room : Int} {srt : Bool} {ph fl : Nat → Int} {v : Value} {L : List Lt} (h : RX No W base qb pb fb n room srt ph fl v L) : ∃ Fo : Nat → Option Obj, (∀ k, ¬ FQ qb pb fb v k → Fo k = W.heap[k]?) ∧ RX Fo W base qb pb fb n room srt ph fl v L := by
  classical
  refine ⟨fun k => if FQ qb pb fb v k then none else W.heap[k]?, fun k h1 => if_neg h1, ⟨h.p, h.h, h.f, h.l, h.ne, h.hbs, fun k o hk => ?_⟩⟩
  have hk' : (if FQ qb pb fb v k then none else W.heap[k]?) = some o := hk
  by_cases hp : FQ qb pb fb v k
  · rw [if_pos hp] at hk'; cases hk'
  · rw [if_neg hp] at hk'
    exact ⟨hk', fun e => hp (.inl e), fun e => hp (.inr (.inl e)), fun e => hp (.inr (.inr (.inl e))), fun e => hp (.inr (.inr (.inr e)))⟩
theorem RX.after {W W' : World} {Fo : Nat → Option Obj} {base qb pb fb n : Nat} {room : Int} {srt : Bool} {ph' fl' : Nat → Int} {v v' : Value} {L' : List Lt} (hF : ∀ k, ¬ FQ qb pb fb v k → Fo k = W.heap[k]?) (h : RX Fo W' base qb pb fb n room srt ph' fl' v' L') : RX No W' base qb pb fb n room srt ph' fl' v' L' ∧ (∀ k, k < W.heap.size → ¬ FQ qb pb fb v k → W'.heap[k]? = W.heap[k]?) ∧ (∀ k, FQ qb pb fb v' k → FQ qb pb fb v k ∨ W.heap.size ≤ k) := by
  have key : ∀ k, k < W.heap.size → ¬ FQ qb pb fb v k → ∃ o, Fo k = some o ∧ W.heap[k]? = some o := fun k h1 h2 => ⟨_, by rw [hF k h2, Array.getElem?_eq_getElem h1], Array.getElem?_eq_getElem h1⟩
  refine ⟨h.weak (fun k o hk => by cases hk), fun k h1 h2 => ?_, fun k hk => ?_⟩
  · obtain ⟨o, h4, h5⟩ := key k h1 h2
    rw [(h.fr k o h4).1, h5]
  · rcases Nat.lt_or_ge k W.heap.size with h1 | h1
    · by_cases h2 : FQ qb pb fb v k
      · exact .inl h2
      · obtain ⟨o, h4, h5⟩ := key k h1 h2
        obtain ⟨_, f1, f2, f3, f4⟩ := h.fr k o h4
        rcases hk with hk | hk | hk | hk
        · exact absurd hk f1
        · exact absurd hk f2
        · exact absurd hk f3
        · exact absurd hk f4
    · exact .inr h1
theorem RX.keep {W W' : World} {base qb pb fb n : Nat} {room : Int} {srt : Bool} {ph fl : Nat → Int} {v : Value} {L : List Lt} (h : RX No W base qb pb fb n room srt ph fl v L) (hk : ∀ k, FQ qb pb fb v k → W'.heap[k]? = W.heap[k]?) : RX No W' base qb pb fb n room srt ph fl v L := by
  refine ⟨(hk qb (.inl rfl)).trans h.p, h.h.far fun k hk' => hk k ?_, h.f.far fun k hk' => hk k ?_, h.l.far fun k hk' => hk k (.inr (.inr (.inr hk'))), h.ne, h.hbs, fun k o hk => by cases hk⟩
  · simp [Value.ownBlock] at hk'; subst hk'; exact .inr (.inl rfl)
  · simp [Value.ownBlock] at hk'; subst hk'; exact .inr (.inr (.inl rfl))
theorem RX.foot {W : World} {Fo : Nat → Option Obj} {base qb pb fb n : Nat} {room : Int} {srt : Bool} {ph fl : Nat → Int} {v : Value} {L : List Lt} (h : RX Fo W base qb pb fb n room srt ph fl v L) {k : Nat} (hk : FQ qb pb fb v k) : base ≤ k ∧ k < W.heap.size := by
  rcases hk with rfl | rfl | rfl | hk
  · exact ⟨h.hbs, lt_of_block h.p⟩
  · exact Own.lt h.h _ rfl
  · exact Own.lt h.f _ rfl
  · exact h.l.lt k hk
/-- what lies on the shelf: T: from here on there is nothing; xl, xw: where the lists that are kept as they are, and their copies, stand -/
structure SC (W : World) (base : Nat) (V : Nat → Value) (n : Nat → Nat) (F : Nat → Nat → Value) (T : Nat) (xl xw : Nat → Nat) : Prop where
  e1 : n 0 = n 1
  e2 : n 2 = n 3
  t4 : 4 ≤ T
  top : ∀ i, T ≤ i → V i = .slice none 0 0
  pr : ∀ j, j < n 0 → ∃ x y mm k, (4 ≤ x ∧ x < T) ∧ (4 ≤ y ∧ y < T) ∧ (∀ i, i < n 2 → (x ≠ xl i ∧ x ≠ xw i) ∧ (y ≠ xl i ∧ y ≠ xw i)) ∧ F 0 j = V x ∧ F 1 j = V y ∧ mm ≤ 70000 ∧ Own W base 31 2 (V x) mm (thF k) ∧ Own W base 31 2 (V y) mm (thF k)
  lt : ∀ j, j < n 2 → (4 ≤ xl j ∧ xl j < T) ∧ (4 ≤ xw j ∧ xw j < T) ∧ F 2 j = V (xl j) ∧ F 3 j = V (xw j) ∧ ∃ mm k, mm ≤ 65536 ∧ Own W base 31 2 (V (xl j)) mm (thF k) ∧ Own W base 31 2 (V (xw j)) mm (thF k)
  ex : ∀ j, j < n 2 → ∀ y b, 4 ≤ y → (V y).ownBlock = some b → (y ≠ xl j → (V (xl j)).ownBlock ≠ some b) ∧ (y ≠ xw j → (V (xw j)).ownBlock ≠ some b)
  ne : ∀ i j, i < n 2 → j < n 2 → xl i ≠ xw j ∧ (i ≠ j → xl i ≠ xl j ∧ xw i ≠ xw j)
  en : ∀ i, 4 ≤ i → ∃ mm k, Own W base 31 2 (V i) mm (thF k)
structure SH (Fo : Nat → Option Obj) (W : World) (base sb : Nat) (V : Nat → Value) (m : Nat) : Prop where
  x : ∃ n F T xl xw, SX Fo W base sb V n F m ∧ SC W base V n F T xl xw
  fe : ∀ k o, Fo k = some o → ∀ i, 4 ≤ i → (V i).ownBlock ≠ some k
theorem SC.keep {W W' : World} {base : Nat} {V : Nat → Value} {n : Nat → Nat} {F : Nat → Nat → Value} {T : Nat} {xl xw : Nat → Nat} (h : SC W base V n F T xl xw) (hk : ∀ i k, 4 ≤ i → (V i).ownBlock = some k → W'.heap[k]? = W.heap[k]?) : SC W' base V n F T xl xw := by
  have far : ∀ i, 4 ≤ i → ∀ {mm : Nat} {k : Nat → Int × Int}, Own W base 31 2 (V i) mm (thF k) → Own W' base 31 2 (V i) mm (thF k) := fun i hi mm k h1 => h1.far fun k hk' => hk i k hi hk'
  refine ⟨h.e1, h.e2, h.t4, h.top, fun j hj => ?_, fun j hj => ?_, h.ex, h.ne, fun i hi => ?_⟩
  · obtain ⟨x, y, mm, k, h1, h2, hx, h3, h4, h5, h6, h7⟩ := h.pr j hj
    exact ⟨x, y, mm, k, h1, h2, hx, h3, h4, h5, far x h1.1 h6, far y h2.1 h7⟩
  · obtain ⟨h1, h2, h3, h4, mm, k, h5, h6, h7⟩ := h.lt j hj
    exact ⟨h1, h2, h3, h4, mm, k, h5, far _ h1.1 h6, far _ h2.1 h7⟩
  · obtain ⟨mm, k, h1⟩ := h.en i hi
    exact ⟨mm, k, far i hi h1⟩
theorem SX.weak {W : World} {Fo Fo' : Nat → Option Obj} {base sb : Nat} {V : Nat → Value} {n : Nat → Nat} {F : Nat → Nat → Value} {m : Nat} (h : SX Fo W base sb V n F m) (hf : ∀ k o, Fo' k = some o → W.heap[k]? = some o ∧ k ≠ sb ∧ ∀ i, i < 4 → (V i).ownBlock ≠ some k) : SX Fo' W base sb V n F m := ⟨h.p, h.o, h.ap, h.hbs, hf⟩
theorem SX.same {W : World} {Fo : Nat → Option Obj} {base sb : Nat} {V V' : Nat → Value} {n : Nat → Nat} {F : Nat → Nat → Value} {m : Nat} (h : SX Fo W base sb V n F m) (he : ∀ i, i < 4 → V' i = V i) : SX Fo W base sb V' n F m := ⟨by rw [he 0 (by decide), he 1 (by decide), he 2 (by decide), he 3 (by decide)]; exact h.p, fun i hi => by rw [he i hi]; exact h.o i hi, fun i j hi hj => by rw [he i hi, he j hj]; exact h.ap i j hi hj, h.hbs, fun k o hk => ⟨(h.fr k o hk).1, (h.fr k o hk).2.1, fun i hi => by rw [he i hi]; exact (h.fr k o hk).2.2 i hi⟩⟩
theorem SH.later {W W' : World} {Fo : Nat → Option Obj} {base sb : Nat} {V : Nat → Value} {m : Nat} (h : SH Fo W base sb V m) (hb : Below W.heap.size W W') : SH Fo W' base sb V m := by
  obtain ⟨n, F, T, xl, xw, h1, h2⟩ := h.x
  exact ⟨⟨n, F, T, xl, xw, h1.later hb, h2.keep fun i k hi hk => by obtain ⟨mm, k', h3⟩ := h2.en i hi; exact hb.block k (h3.lt k hk).2⟩, h.fe⟩
theorem SH.full {W : World} {base sb : Nat} {V : Nat → Value} {m : Nat} (h : SH No W base sb V m) (X : Nat → Prop) : ∃ Fo : Nat → Option Obj, (∀ k, ¬ FS sb V k → ¬ X k → Fo k = W.heap[k]?) ∧ (∀ k, X k → ∀ o, Fo k ≠ some o) ∧ SH Fo W base sb V m := by
  classical
  obtain ⟨n, F, T, xl, xw, h1, h2⟩ := h.x
  have key : ∀ k o, (if FS sb V k ∨ X k then none else W.heap[k]?) = some o → W.heap[k]? = some o ∧ ¬ FS sb V k := fun k o hk => by
    by_cases hp : FS sb V k ∨ X k
    · rw [if_pos hp] at hk; cases hk
    · rw [if_neg hp] at hk
      exact ⟨hk, fun e => hp (.inl e)⟩
  refine ⟨fun k => if FS sb V k ∨ X k then none else W.heap[k]?, fun k h1 h2 => if_neg (fun h3 => h3.elim h1 h2), fun k hk o => ?_, ⟨n, F, T, xl, xw, h1.weak fun k o hk => ⟨(key k o hk).1, fun e => (key k o hk).2 (.inl e), fun i _ e => (key k o hk).2 (.inr ⟨i, trivial, e⟩)⟩, h2⟩, fun k o hk i _ e => (key k o hk).2 (.inr ⟨i, trivial, e⟩)⟩
  show (if FS sb V k ∨ X k then none else W.heap[k]?) ≠ some o
  rw [if_pos (.inr hk)]
  intro e
  cases e
theorem SH.after {W W' : World} {Fo : Nat → Option Obj} {X : Nat → Prop} {base sb : Nat} {V V' : Nat → Value} {m' : Nat} (hF : ∀ k, ¬ FS sb V k → ¬ X k → Fo k = W.heap[k]?) (h : SH Fo W' base sb V' m') : SH No W' base sb V' m' ∧ (∀ k, k < W.heap.size → ¬ FS sb V k → ¬ X k → W'.heap[k]? = W.heap[k]?) ∧ (∀ k, FS sb V' k → FS sb V k ∨ X k ∨ W.heap.size ≤ k) := by
  have key : ∀ k, k < W.heap.size → ¬ FS sb V k → ¬ X k → ∃ o, Fo k = some o ∧ W.heap[k]? = some o := fun k h1 h2 h3 => ⟨_, by rw [hF k h2 h3, Array.getElem?_eq_getElem h1], Array.getElem?_eq_getElem h1⟩
  obtain ⟨n, F, T, xl, xw, x1, x2⟩ := h.x
  refine ⟨⟨⟨n, F, T, xl, xw, x1.weak (fun k o hk => by cases hk), x2⟩, fun k o hk => by cases hk⟩, fun k h1 h2 h3 => ?_, fun k hk => ?_⟩
  · obtain ⟨o, h4, h5⟩ := key k h1 h2 h3
    rw [(x1.fr k o h4).1, h5]
  · rcases Nat.lt_or_ge k W.heap.size with h1 | h1
    · by_cases h2 : FS sb V k
      · exact .inl h2
      · by_cases h3 : X k
        · exact .inr (.inl h3)
        · obtain ⟨o, h4, h5⟩ := key k h1 h2 h3
          obtain ⟨_, f1, f2⟩ := x1.fr k o h4
          rcases hk with hk | ⟨i, _, hk⟩
          · exact absurd hk f1
          · rcases Nat.lt_or_ge i 4 with hi | hi
            · exact absurd hk (f2 i hi)
            · exact absurd hk (h.fe k o h4 i hi)
    · exact .inr (.inr h1)
theorem SH.keep {W W' : World} {base sb : Nat} {V : Nat → Value} {m : Nat} (h : SH No W base sb V m) (hk : ∀ k, FS sb V k → W'.heap[k]? = W.heap[k]?) : SH No W' base sb V m := by
  obtain ⟨n, F, T, xl, xw, x1, x2⟩ := h.x
  exact ⟨⟨n, F, T, xl, xw, ⟨(hk sb (.inl rfl)).trans x1.p, fun i hi => ⟨(x1.o i hi).1.far fun k hk' => hk k (.inr ⟨i, trivial, hk'⟩), (x1.o i hi).2⟩, x1.ap, x1.hbs, fun k o hk => by cases hk⟩, x2.keep fun i k _ hk' => hk k (.inr ⟨i, trivial, hk'⟩)⟩, fun k o hk => by cases hk⟩
theorem SH.foot {W : World} {Fo : Nat → Option Obj} {base sb : Nat} {V : Nat → Value} {m : Nat} (h : SH Fo W base sb V m) {k : Nat} (hk : FS sb V k) : base ≤ k ∧ k < W.heap.size := by
  obtain ⟨n, F, T, xl, xw, x1, x2⟩ := h.x
  rcases hk with rfl | ⟨i, _, hk⟩
  · exact ⟨x1.hbs, lt_of_block x1.p⟩
  · rcases Nat.lt_or_ge i 4 with hi | hi
    · exact (x1.o i hi).1.lt k hk
    · obtain ⟨mm, k', h3⟩ := x2.en i hi
      exact h3.lt k hk
def ad4 (V : Nat → Value) (T : Nat) (a b c d : Value) : Nat → Value := fun i => if i = T then a else if i = T + 1 then b else if i = T + 2 then c else if i = T + 3 then d else V i
theorem ad4_0 (V : Nat → Value) (T : Nat) (a b c d : Value) : ad4 V T a b c d T = a := if_pos rfl
theorem ad4_1 (V : Nat → Value) (T : Nat) (a b c d : Value) : ad4 V T a b c d (T + 1) = b := by unfold ad4; rw [if_neg (by omega), if_pos rfl]
theorem ad4_2 (V : Nat → Value) (T : Nat) (a b c d : Value) : ad4 V T a b c d (T + 2) = c := by unfold ad4; rw [if_neg (by omega), if_neg (by omega), if_pos rfl]
theorem ad4_3 (V : Nat → Value) (T : Nat) (a b c d : Value) : ad4 V T a b c d (T + 3) = d := by unfold ad4; rw [if_neg (by omega), if_neg (by omega), if_neg (by omega), if_pos rfl]
theorem ad4_lt (V : Nat → Value) {T i : Nat} (a b c d : Value) (h : i < T) : ad4 V T a b c d i = V i := by unfold ad4; rw [if_neg (by omega), if_neg (by omega), if_neg (by omega), if_neg (by omega)]
theorem ad4_gt (V : Nat → Value) {T i : Nat} (a b c d : Value) (h : T + 4 ≤ i) : ad4 V T a b c d i = V i := by unfold ad4; rw [if_neg (by omega), if_neg (by omega), if_neg (by omega), if_neg (by omega)]
theorem five (T i : Nat) : i < T ∨ i = T ∨ i = T + 1 ∨ i = T + 2 ∨ i = T + 3 ∨ T + 4 ≤ i := by omega
theorem own0t (W : World) (base : Nat) : Own W base 31 2 (.slice none 0 0) 0 (thF fun _ => (0, 0)) := Own.nil _ _ _ _ _
theorem SC.even {W' : World} {base H0 : Nat} {V V' : Nat → Value} {n n' : Nat → Nat} {F F' : Nat → Nat → Value} {T : Nat} {xl xw : Nat → Nat} {l want : Value} {S : Nat} (h : SC W' base V n F T xl xw) (hV : ∀ i, 4 ≤ i → V' i = V i) (hl0 : ∀ i b, 4 ≤ i → (V i).ownBlock = some b → b < H0) (hw : ∀ b, want.ownBlock = some b → H0 ≤ b) (hl : ∀ b, l.ownBlock = some b → b < H0 ∧ ∀ i, 4 ≤ i → (V i).ownBlock ≠ some b) (hS : S ≤ 65536) (te : TE W' base l want S n n' F F') : SC W' base (ad4 V' T l want (.slice none 0 0) (.slice none 0 0)) n' F' (T + 4) (st1 xl (n 2) T) (st1 xw (n 2) (T + 1)) := by
  obtain ⟨⟨a1, a2, a3, a4⟩, ⟨b1, b2, b3, b4⟩, k, o1, o2⟩ := te
  have ht4 := h.t4
  have old : ∀ i, 4 ≤ i → i < T → ad4 V' T l want (.slice none 0 0) (.slice none 0 0) i = V i := fun i h1 h2 => by rw [ad4_lt _ _ _ _ _ h2]; exact hV i h1
  have own : ∀ i b, 4 ≤ i → (ad4 V' T l want (.slice none 0 0) (.slice none 0 0) i).ownBlock = some b → (i < T ∧ (V i).ownBlock = some b) ∨ (i = T ∧ l.ownBlock = some b) ∨ (i = T + 1 ∧ want.ownBlock = some b) := fun i b h1 h2 => by
    rcases five T i with h3 | rfl | rfl | rfl | rfl | h3
    · rw [old i h1 h3] at h2; exact .inl ⟨h3, h2⟩
    · rw [ad4_0] at h2; exact .inr (.inl ⟨rfl, h2⟩)
    · rw [ad4_1] at h2; exact .inr (.inr ⟨rfl, h2⟩)
    · rw [ad4_2] at h2; cases h2
    · rw [ad4_3] at h2; cases h2
    · rw [ad4_gt _ _ _ _ _ h3, hV i h1, h.top i (by omega)] at h2; cases h2
  refine ⟨by rw [a1, a2]; exact h.e1, by rw [b1, b2, h.e2], by omega, fun i hi => ?_, fun j hj => ?_, fun j hj => ?_, fun j hj y b hy hb => ?_, fun i j hi hj => ?_, fun i hi => ?_⟩
  · rw [ad4_gt _ _ _ _ _ hi, hV i (by omega)]; exact h.top i (by omega)
  · rw [a1] at hj
    obtain ⟨x, y, mm, kk, h1, h2, hx, h3, h4, h5, h6, h7⟩ := h.pr j hj
    refine ⟨x, y, mm, kk, ⟨h1.1, by omega⟩, ⟨h2.1, by omega⟩, fun i hi => ?_, ?_, ?_, h5, ?_, ?_⟩
    · rw [b1] at hi
      rcases Nat.lt_or_eq_of_le (Nat.le_of_lt_succ hi) with h9 | rfl
      · rw [st1_ne _ _ (by omega), st1_ne _ _ (by omega)]; exact hx i h9
      · rw [st1_at, st1_at]; omega
    · rw [a3, old x h1.1 h1.2]; exact h3
    · rw [a4, old y h2.1 h2.2]; exact h4
    · rw [old x h1.1 h1.2]; exact h6
    · rw [old y h2.1 h2.2]; exact h7
  · rw [b1] at hj
    rcases Nat.lt_or_eq_of_le (Nat.le_of_lt_succ hj) with h1 | rfl
    · obtain ⟨c1, c2, c3, c4, mm, kk, c5, c6, c7⟩ := h.lt j h1
      rw [st1_ne _ _ (by omega), st1_ne _ _ (by omega), old _ c1.1 c1.2, old _ c2.1 c2.2]
      exact ⟨⟨c1.1, by omega⟩, ⟨c2.1, by omega⟩, by rw [b3, apF_lt _ _ h1]; exact c3, by rw [b4, apF_lt _ _ (by rw [← h.e2]; exact h1)]; exact c4, mm, kk, c5, c6, c7⟩
    · rw [st1_at, st1_at, ad4_0, ad4_1]
      exact ⟨⟨ht4, by omega⟩, ⟨by omega, by omega⟩, by rw [b3]; exact apF_at _ _ 0 _, by rw [b4, h.e2]; exact apF_at _ _ 0 _, S, k, hS, o1, o2⟩
  · rw [b1] at hj
    have hyo := own y b hy hb
    rcases Nat.lt_or_eq_of_le (Nat.le_of_lt_succ hj) with h1 | rfl
    · obtain ⟨c1, c2, _⟩ := h.lt j h1
      rw [st1_ne _ _ (by omega), st1_ne _ _ (by omega), old _ c1.1 c1.2, old _ c2.1 c2.2]
      rcases hyo with ⟨_, e⟩ | ⟨_, e⟩ | ⟨_, e⟩
      · exact h.ex j h1 y b hy e
      · exact ⟨fun _ => (hl b e).2 _ c1.1, fun _ => (hl b e).2 _ c2.1⟩
      · exact ⟨fun _ e2 => by have := hl0 _ b c1.1 e2; have := hw b e; omega, fun _ e2 => by have := hl0 _ b c2.1 e2; have := hw b e; omega⟩
    · rw [st1_at, st1_at, ad4_0, ad4_1]
      rcases hyo with ⟨_, e⟩ | ⟨e0, e⟩ | ⟨e0, e⟩
      · exact ⟨fun _ e2 => (hl b e2).2 y hy e, fun _ e2 => by have := hl0 y b hy e; have := hw b e2; omega⟩
      · exact ⟨fun h9 => absurd e0 h9, fun _ e2 => by have := (hl b e).1; have := hw b e2; omega⟩
      · exact ⟨fun _ e2 => by have := (hl b e2).1; have := hw b e; omega, fun h9 => absurd e0 h9⟩
  · rw [b1] at hi hj
    have key : ∀ i, i < n 2 + 1 → (i < n 2 ∧ st1 xl (n 2) T i = xl i ∧ st1 xw (n 2) (T + 1) i = xw i ∧ xl i < T ∧ xw i < T) ∨ (i = n 2 ∧ st1 xl (n 2) T i = T ∧ st1 xw (n 2) (T + 1) i = T + 1) := fun i hi => by
      rcases Nat.lt_or_eq_of_le (Nat.le_of_lt_succ hi) with h1 | rfl
      · obtain ⟨c1, c2, _⟩ := h.lt i h1
        exact .inl ⟨h1, st1_ne _ _ (by omega), st1_ne _ _ (by omega), c1.2, c2.2⟩
      · exact .inr ⟨rfl, st1_at _ _ _, st1_at _ _ _⟩
    rcases key i hi with ⟨i1, i2, i3, i4, i5⟩ | ⟨i1, i2, i3⟩
    · rcases key j hj with ⟨j1, j2, j3, j4, j5⟩ | ⟨j1, j2, j3⟩
      · rw [i2, i3, j2, j3]; exact h.ne i j i1 j1
      · rw [i2, i3, j2, j3]; omega
    · rcases key j hj with ⟨j1, j2, j3, j4, j5⟩ | ⟨j1, j2, j3⟩
      · rw [i2, i3, j2, j3]; omega
      · rw [i2, i3, j2, j3]; omega
  · rcases five T i with h3 | rfl | rfl | rfl | rfl | h3
    · rw [old i hi h3]; exact h.en i hi
    · rw [ad4_0]; exact ⟨S, k, o1⟩
    · rw [ad4_1]; exact ⟨S, k, o2⟩
    · rw [ad4_2]; exact ⟨0, _, own0t _ _⟩
    · rw [ad4_3]; exact ⟨0, _, own0t _ _⟩
    · rw [ad4_gt _ _ _ _ _ h3, hV i hi]; exact h.en i hi
theorem SC.odd {W0 W' : World} {base H0 : Nat} {V V' : Nat → Value} {n n' : Nat → Nat} {F F' : Nat → Nat → Value} {T : Nat} {xl xw : Nat → Nat} {l want : Value} {S : Nat} (h : SC W' base V n F T xl xw) (hV : ∀ i, 4 ≤ i → V' i = V i) (hl0 : ∀ i b, 4 ≤ i → (V i).ownBlock = some b → b < H0) (hw : ∀ b, want.ownBlock = some b → H0 ≤ b) (hl : ∀ b, l.ownBlock = some b → b < H0 ∧ ∀ i, 4 ≤ i → (V i).ownBlock ≠ some b) (hS : S ≤ 65536) (hH : W0.heap.size = H0) (te : TO W0 W' base l want S n n' F F') : ∃ gl gw, SC W' base (ad4 V' T l want gl gw) n' F' (T + 4) xl xw ∧ (∀ b, gl.ownBlock = some b → l.ownBlock = some b ∨ H0 ≤ b) ∧ (∀ b, gw.ownBlock = some b → H0 ≤ b) := by
  obtain ⟨⟨a1, a2, a3, a4⟩, gl, gw, ⟨b1, b2, b3, b4⟩, hgl, hgw, k, k2, o1, o2, o3, o4⟩ := te
  rw [hH] at hgl hgw
  have ht4 := h.t4
  have old : ∀ i, 4 ≤ i → i < T → ad4 V' T l want gl gw i = V i := fun i h1 h2 => by rw [ad4_lt _ _ _ _ _ h2]; exact hV i h1
  have own : ∀ i b, 4 ≤ i → (ad4 V' T l want gl gw i).ownBlock = some b → (V i).ownBlock = some b ∨ (b < H0 ∧ ∀ i, 4 ≤ i → (V i).ownBlock ≠ some b) ∨ H0 ≤ b := fun i b h1 h2 => by
    rcases five T i with h3 | rfl | rfl | rfl | rfl | h3
    · rw [old i h1 h3] at h2; exact .inl h2
    · rw [ad4_0] at h2; exact .inr (.inl (hl b h2))
    · rw [ad4_1] at h2; exact .inr (.inr (hw b h2))
    · rw [ad4_2] at h2
      rcases hgl b h2 with h4 | h4
      · exact .inr (.inl (hl b h4))
      · exact .inr (.inr h4)
    · rw [ad4_3] at h2; exact .inr (.inr (hgw b h2))
    · rw [ad4_gt _ _ _ _ _ h3, hV i h1] at h2; exact .inl h2
  refine ⟨gl, gw, ⟨by rw [b1, b2, h.e1], by rw [a1, a2]; exact h.e2, by omega, fun i hi => ?_, fun j hj => ?_, fun j hj => ?_, fun j hj y b hy hb => ?_, fun i j hi hj => by rw [a1] at hi hj; exact h.ne i j hi hj, fun i hi => ?_⟩, hgl, hgw⟩
  · rw [ad4_gt _ _ _ _ _ hi, hV i (by omega)]; exact h.top i (by omega)
  · rw [b1] at hj
    rcases (by omega : j < n 0 ∨ j = n 0 ∨ j = n 0 + 1) with h1 | rfl | rfl
    · obtain ⟨x, y, mm, kk, h1', h2, hx, h3, h4, h5, h6, h7⟩ := h.pr j h1
      refine ⟨x, y, mm, kk, ⟨h1'.1, by omega⟩, ⟨h2.1, by omega⟩, fun i hi => hx i (by rw [a1] at hi; exact hi), ?_, ?_, h5, ?_, ?_⟩
      · rw [b3, apF_lt _ _ h1, old x h1'.1 h1'.2]; exact h3
      · rw [b4, apF_lt _ _ (by rw [← h.e1]; exact h1), old y h2.1 h2.2]; exact h4
      · rw [old x h1'.1 h1'.2]; exact h6
      · rw [old y h2.1 h2.2]; exact h7
    · exact ⟨T, T + 1, S, k, ⟨ht4, by omega⟩, ⟨by omega, by omega⟩, fun i hi => by obtain ⟨c1, c2, _⟩ := h.lt i (by rw [a1] at hi; exact hi); omega, by rw [b3, ad4_0]; exact apF_at _ _ 0 _, by rw [b4, ad4_1, h.e1]; exact apF_at _ _ 0 _, by omega, by rw [ad4_0]; exact o1, by rw [ad4_1]; exact o2⟩
    · exact ⟨T + 2, T + 3, S + 64, k2, ⟨by omega, by omega⟩, ⟨by omega, by omega⟩, fun i hi => by obtain ⟨c1, c2, _⟩ := h.lt i (by rw [a1] at hi; exact hi); omega, by rw [b3, ad4_2]; exact apF_at _ _ 1 _, by rw [b4, ad4_3, h.e1]; exact apF_at _ _ 1 _, by omega, by rw [ad4_2]; exact o3, by rw [ad4_3]; exact o4⟩
  · rw [a1] at hj
    obtain ⟨c1, c2, c3, c4, mm, kk, c5, c6, c7⟩ := h.lt j hj
    rw [old _ c1.1 c1.2, old _ c2.1 c2.2]
    exact ⟨⟨c1.1, by omega⟩, ⟨c2.1, by omega⟩, by rw [a3]; exact c3, by rw [a4]; exact c4, mm, kk, c5, c6, c7⟩
  · rw [a1] at hj
    obtain ⟨c1, c2, _⟩ := h.lt j hj
    rw [old _ c1.1 c1.2, old _ c2.1 c2.2]
    rcases own y b hy hb with e | e | e
    · exact h.ex j hj y b hy e
    · exact ⟨fun _ => e.2 _ c1.1, fun _ => e.2 _ c2.1⟩
    · exact ⟨fun _ e2 => by have := hl0 _ b c1.1 e2; omega, fun _ e2 => by have := hl0 _ b c2.1 e2; omega⟩
  · rcases five T i with h3 | rfl | rfl | rfl | rfl | h3
    · rw [old i hi h3]; exact h.en i hi
    · rw [ad4_0]; exact ⟨S, k, o1⟩
    · rw [ad4_1]; exact ⟨S, k, o2⟩
    · rw [ad4_2]; exact ⟨S + 64, k2, o3⟩
    · rw [ad4_3]; exact ⟨S + 64, k2, o4⟩
    · rw [ad4_gt _ _ _ _ _ h3, hV i hi]; exact h.en i hi
theorem take_any (st : Nat) {Fo : Nat → Option Obj} {base sb : Nat} {V : Nat → Value} {m : Nat} (hst : st ≤ 100000) (hm : m ≤ 100000) (l : Value) (S : Nat) (k : Nat → Int × Int) (W : World) (h : SH Fo W base sb V m) (hbase : base ≤ W.heap.size) (ho : Own W base 31 2 l S (thF k)) (hS : S ≤ 65536) (hF : ∀ j, l.ownBlock = some j → ∀ o, Fo j ≠ some o) (hlV : ∀ i b, 4 ≤ i → l.ownBlock = some b → (V i).ownBlock ≠ some b) :
    Calls Try.prog 47 #[.pointer (some ⟨sb, 0, none⟩), l, .int .i64 (st : Int)] W fun e W' => e = .returned (.tuple #[]) ∧ (∃ V', SH Fo W' base sb V' (m + 4)) ∧ Below base W W' := by
  classical
  obtain ⟨n, F, T, xl, xw, x1, x2⟩ := h.x
  have hlt : ∀ i b, 4 ≤ i → (V i).ownBlock = some b → b < W.heap.size := fun i b hi hb => by obtain ⟨mm, k', h3⟩ := x2.en i hi; exact (h3.lt b hb).2
  obtain ⟨Fo2, hFo2⟩ : ∃ Fo2 : Nat → Option Obj, ∀ k, Fo2 k = if (∃ i, 4 ≤ i ∧ (V i).ownBlock = some k) then W.heap[k]? else Fo k := ⟨_, fun _ => rfl⟩
  have x12 : SX Fo2 W base sb V n F m := x1.weak fun k o hk => by
    rw [hFo2] at hk
    by_cases e : ∃ i, 4 ≤ i ∧ (V i).ownBlock = some k
    · rw [if_pos e] at hk
      obtain ⟨i, hi, hb⟩ := e
      obtain ⟨mm, k', h3⟩ := x2.en i hi
      refine ⟨hk, fun e2 => ?_, fun j hj e2 => ?_⟩
      · exact h3.apart x1.p (by decide) k hb e2
      · exact (x1.o j hj).1.clash h3 (by decide) e2 hb
    · rw [if_neg e] at hk
      exact x1.fr k o hk
  have hF2 : ∀ j, l.ownBlock = some j → ∀ o, Fo2 j ≠ some o := fun j hj o => by
    rw [hFo2, if_neg (fun ⟨i, hi, hb⟩ => hlV i j hi hj hb)]
    exact hF j hj o
  refine (take_x st hst hm l S k W x12 hbase ho hS hF2).mono fun e W' ⟨h1, h2, want, V1, n', F', s1, hV1, hw, hh⟩ => ⟨h1, ?_, h2⟩
  have keep : ∀ i k, 4 ≤ i → (V i).ownBlock = some k → W'.heap[k]? = W.heap[k]? := fun i k hi hk => by
    obtain ⟨mm, k', h3⟩ := x2.en i hi
    rcases h3.form with ⟨e, _⟩ | ⟨g, c, e, _⟩
    · rw [e] at hk; cases hk
    · rw [e] at hk h3
      simp [Value.ownBlock] at hk
      subst hk
      obtain ⟨cu, c1, _⟩ := h3.block
      rw [c1]
      exact (s1.fr g _ (by rw [hFo2, if_pos ⟨i, hi, by rw [e]; rfl⟩]; exact c1)).1
  have x2' := x2.keep keep
  have hl : ∀ b, l.ownBlock = some b → b < W.heap.size ∧ ∀ i, 4 ≤ i → (V i).ownBlock ≠ some b := fun b hb => ⟨(ho.lt b hb).2, fun i hi => hlV i b hi hb⟩
  have sx : ∀ a b c d, SX Fo W' base sb (ad4 V1 T a b c d) n' F' (m + 4) := fun a b c d => (s1.weak fun k o hk => s1.fr k o (by
    rw [hFo2, if_neg (fun ⟨i, hi, hb⟩ => h.fe k o hk i hi hb)]
    exact hk)).same fun i hi => ad4_lt _ _ _ _ _ (by have := x2.t4; omega)
  have fe : ∀ a b c d : Value, (∀ k, a.ownBlock = some k → l.ownBlock = some k ∨ W.heap.size ≤ k) → (∀ k, b.ownBlock = some k → W.heap.size ≤ k) → (∀ k, c.ownBlock = some k → l.ownBlock = some k ∨ W.heap.size ≤ k) → (∀ k, d.ownBlock = some k → W.heap.size ≤ k) → ∀ k o, Fo k = some o → ∀ i, 4 ≤ i → (ad4 V1 T a b c d i).ownBlock ≠ some k := fun a b c d ha hb hc hd k o hk i hi e => by
    have hks := lt_of_block (x1.fr k o hk).1
    rcases five T i with h3 | rfl | rfl | rfl | rfl | h3
    · rw [ad4_lt _ _ _ _ _ h3, hV1 i hi] at e; exact h.fe k o hk i hi e
    · rw [ad4_0] at e
      rcases ha k e with h4 | h4
      · exact hF k h4 o hk
      · omega
    · rw [ad4_1] at e; have := hb k e; omega
    · rw [ad4_2] at e
      rcases hc k e with h4 | h4
      · exact hF k h4 o hk
      · omega
    · rw [ad4_3] at e; have := hd k e; omega
    · rw [ad4_gt _ _ _ _ _ h3, hV1 i hi] at e; exact h.fe k o hk i hi e
  rcases hh with te | tod
  · exact ⟨_, ⟨_, _, _, _, _, sx l want (.slice none 0 0) (.slice none 0 0), x2'.even hV1 (fun i b hi hb => hlt i b hi hb) hw hl hS te⟩, fe l want (.slice none 0 0) (.slice none 0 0) (fun k hk => .inl hk) hw (fun k hk => by cases hk) (fun k hk => by cases hk)⟩
  · obtain ⟨gl, gw, sc, hgl, hgw⟩ := x2'.odd hV1 (fun i b hi hb => hlt i b hi hb) hw hl hS rfl tod
    exact ⟨_, ⟨_, _, _, _, _, sx l want gl gw, sc⟩, fe l want gl gw (fun k hk => .inl hk) hw hgl hgw⟩
end Go.Proofs.Ytkfjcbnhohipgaa
