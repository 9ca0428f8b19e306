import Derived.Test.YtoihddhjpbahlaaME4
import Derived.BigQuiet
import Derived.Deep.RegionLaw
import Derived.Deep.RegionHeld3
import Derived.Deep.Cut
import Derived.Deep.DeepCutAuto
import Derived.Deep.CutBlock
import Derived.Deep.CutRange
import Derived.Deep.AppendLies
import Derived.Handy
import Derived.Lib.RabinKarpLaws
namespace Go.Proofs.Ytoihddhjpbahlaa
open Go.ChangeShapes Go.WideShapes Go.ChangeAt Go.RowKit
set_option linter.unusedVariables false
set_option linter.unusedSimpArgs false


abbrev No : Nat → Option Obj := fun _ => none
/-- the blocks that a post writes, and those that it stands on -/
def PBm (wb n : Nat) (R : Nat → Nat) (H : Nat → Nat → Nat → Hf) (k : Nat) : Prop := k = wb ∨ (∃ i, i < n ∧ k = R i) ∨ ∃ i j h, i < n ∧ j < n ∧ h < 2 ∧ (H i j h).v.ownBlock = some k
def FP (hb wb bb n : Nat) (R : Nat → Nat) (H : Nat → Nat → Nat → Hf) (k : Nat) : Prop := k = hb ∨ k = bb ∨ PBm wb n R H k
def FQ (qb pb fb : Nat) (v : Value) (k : Nat) : Prop := k = qb ∨ k = pb ∨ k = fb ∨ v.ownBlock = some k
def FS (sb : Nat) (V : Nat → Value) (k : Nat) : Prop := k = sb ∨ ∃ i, i < 4 ∧ (V i).ownBlock = some k
theorem MP.weak {W : World} {Fo Fo' : Nat → Option Obj} {base hb wb bb n : Nat} {room : Int} {cmp : Value} {R : Nat → Nat} {ph fl : Nat → Int} {H : Nat → Nat → Nat → Hf} (h : MP Fo W base hb wb bb n room cmp R ph fl H) (hf : ∀ k o, Fo' k = some o → Fo k = some o) : MP Fo' W base hb wb bb n room cmp R ph fl H := ⟨h.p, h.w, h.b, h.r, h.ap, h.h, h.hd, h.hbs, h.s, fun k o hk => h.fr k o (hf k o hk)⟩
theorem MP.full {W : World} {base hb wb bb n : Nat} {room : Int} {cmp : Value} {R : Nat → Nat} {ph fl : Nat → Int} {H : Nat → Nat → Nat → Hf} (h : MP No W base hb wb bb n room cmp R ph fl H) (X : Nat → Prop) : ∃ Fo : Nat → Option Obj, (∀ k, ¬ PBm wb n R H k → ¬ X k → Fo k = W.heap[k]?) ∧ (∀ k, X k → ∀ o, Fo k ≠ some o) ∧ MP Fo W base hb wb bb n room cmp R ph fl H := by
  classical
  refine ⟨fun k => if PBm wb n R H k ∨ X k then none else W.heap[k]?, fun k h1 h2 => if_neg (fun h3 => h3.elim h1 h2), fun k hk o => ?_, ⟨h.p, h.w, h.b, h.r, h.ap, h.h, h.hd, h.hbs, h.s, fun k o hk => ?_⟩⟩
  · show (if PBm wb n R H k ∨ X k then none else W.heap[k]?) ≠ some o
    rw [if_pos (.inr hk)]
    intro e
    cases e
  · have hk' : (if PBm wb n R H k ∨ X k then none else W.heap[k]?) = some o := hk
    by_cases hp : PBm wb n R H k ∨ X k
    · rw [if_pos hp] at hk'; cases hk'
    · rw [if_neg hp] at hk'
      exact ⟨hk', fun e => hp (.inl (.inl e)), fun i hi e => hp (.inl (.inr (.inl ⟨i, hi, e⟩))), fun i j h9 hi hj hh e => hp (.inl (.inr (.inr ⟨i, j, h9, hi, hj, hh, e⟩)))⟩
theorem MP.after {W W' : World} {Fo : Nat → Option Obj} {X : Nat → Prop} {base hb wb bb n : Nat} {room : Int} {cmp : Value} {R : Nat → Nat} {ph' fl' : Nat → Int} {H H' : Nat → Nat → Nat → Hf} (hF : ∀ k, ¬ PBm wb n R H k → ¬ X k → Fo k = W.heap[k]?) (h : MP Fo W' base hb wb bb n room cmp R ph' fl' H') : MP No W' base hb wb bb n room cmp R ph' fl' H' ∧ (∀ k, k < W.heap.size → ¬ PBm wb n R H k → ¬ X k → W'.heap[k]? = W.heap[k]?) ∧ (∀ k, FP hb wb bb n R H' k → FP hb wb bb n R H k ∨ X k ∨ W.heap.size ≤ k) := by
  have key : ∀ k, k < W.heap.size → ¬ PBm wb n R H k → ¬ X k → ∃ o, Fo k = some o ∧ W.heap[k]? = some o := fun k h1 h2 h3 => ⟨_, by rw [hF k h2 h3, Array.getElem?_eq_getElem h1], Array.getElem?_eq_getElem h1⟩
  refine ⟨h.weak (fun k o hk => by cases hk), fun k h1 h2 h3 => ?_, fun k hk => ?_⟩
  · obtain ⟨o, h4, h5⟩ := key k h1 h2 h3
    rw [(h.fr k o h4).1, h5]
  · rcases Nat.lt_or_ge k W.heap.size with h1 | h1
    · by_cases h2 : PBm wb n R H k
      · exact .inl (.inr (.inr h2))
      · by_cases h3 : X k
        · exact .inr (.inl h3)
        · obtain ⟨o, h4, h5⟩ := key k h1 h2 h3
          obtain ⟨_, f1, f2, f3⟩ := h.fr k o h4
          rcases hk with hk | hk | hk | ⟨i, hi, hk⟩ | ⟨i, j, h9, hi, hj, hh, hk⟩
          · exact .inl (.inl hk)
          · exact .inl (.inr (.inl hk))
          · exact absurd hk f1
          · exact absurd hk (f2 i hi)
          · exact absurd hk (f3 i j h9 hi hj hh)
    · exact .inr (.inr h1)
theorem MP.keep {W W' : World} {base hb wb bb n : Nat} {room : Int} {cmp : Value} {R : Nat → Nat} {ph fl : Nat → Int} {H : Nat → Nat → Nat → Hf} (h : MP No W base hb wb bb n room cmp R ph fl H) (hk : ∀ k, FP hb wb bb n R H k → W'.heap[k]? = W.heap[k]?) : MP No W' base hb wb bb n room cmp R ph fl H := by
  refine ⟨(hk hb (.inl rfl)).trans h.p, h.w.far fun k hk' => hk k ?_, h.b.far fun k hk' => hk k ?_, fun i hi => (h.r i hi).far fun k hk' => hk k ?_, h.ap, fun i j e hi hj he => (h.h i j e hi hj he).far fun k hk' => hk k (.inr (.inr (.inr (.inr ⟨i, j, e, hi, hj, he, hk'⟩)))), h.hd, h.hbs, h.s, fun k o hk => by cases hk⟩
  · simp [Value.ownBlock] at hk'; subst hk'; exact .inr (.inr (.inl rfl))
  · simp [Value.ownBlock] at hk'; subst hk'; exact .inr (.inl rfl)
  · simp [Value.ownBlock] at hk'; subst hk'; exact .inr (.inr (.inr (.inl ⟨i, hi, rfl⟩)))
theorem MP.foot {W : World} {Fo : Nat → Option Obj} {base hb wb bb n : Nat} {room : Int} {cmp : Value} {R : Nat → Nat} {ph fl : Nat → Int} {H : Nat → Nat → Nat → Hf} (h : MP Fo W base hb wb bb n room cmp R ph fl H) {k : Nat} (hk : FP hb wb bb n R H k) : base ≤ k ∧ k < W.heap.size := by
  rcases hk with rfl | rfl | rfl | ⟨i, hi, rfl⟩ | ⟨i, j, e, hi, hj, he, hk⟩
  · exact ⟨h.hbs, lt_of_block h.p⟩
  · exact Own.lt h.b _ rfl
  · exact Own.lt h.w _ rfl
  · exact Own.lt (h.r i hi) _ rfl
  · exact (h.h i j e hi hj he).lt k hk
theorem MP.lower {W : World} {Fo : Nat → Option Obj} {base base' hb wb bb n : Nat} {room : Int} {cmp : Value} {R : Nat → Nat} {ph fl : Nat → Int} {H : Nat → Nat → Nat → Hf} (h : MP Fo W base hb wb bb n room cmp R ph fl H) (hb' : base' ≤ base) : MP Fo W base' hb wb bb n room cmp R ph fl H := ⟨h.p, h.w.lower hb', h.b.lower hb', fun i hi => (h.r i hi).lower hb', h.ap, fun i j k hi hj hk => (h.h i j k hi hj hk).lower hb', h.hd, Nat.le_trans hb' h.hbs, h.s, h.fr⟩
theorem RX.weak {W : World} {Fo Fo' : Nat → Option Obj} {base qb pb fb n : Nat} {room : Int} {srt : Bool} {ph fl : Nat → Int} {v : Value} {L : List Lt} (h : RX Fo W base qb pb fb n room srt ph fl v L) (hf : ∀ k o, Fo' k = some o → Fo k = some o) : RX Fo' W base qb pb fb n room srt ph fl v L := ⟨h.p, h.h, h.f, h.l, h.ne, h.hbs, fun k o hk => h.fr k o (hf k o hk)⟩
theorem RX.full {W : World} {base qb pb fb n : Nat} {room : Int} {srt : Bool} {ph fl : Nat → Int} {v : Value} {L : List Lt} (h : RX No W base qb pb fb n room srt ph fl v L) : ∃ Fo : Nat → Option Obj, (∀ k, ¬ FQ qb pb fb v k → Fo k = W.heap[k]?) ∧ RX Fo W base qb pb fb n room srt ph fl v L := by
  classical
  refine ⟨fun k => if FQ qb pb fb v k then none else W.heap[k]?, fun k h1 => if_neg h1, ⟨h.p, h.h, h.f, h.l, h.ne, h.hbs, fun k o hk => ?_⟩⟩
  have hk' : (if FQ qb pb fb v k then none else W.heap[k]?) = some o := hk
  by_cases hp : FQ qb pb fb v k
  · rw [if_pos hp] at hk'; cases hk'
  · rw [if_neg hp] at hk'
    exact ⟨hk', fun e => hp (.inl e), fun e => hp (.inr (.inl e)), fun e => hp (.inr (.inr (.inl e))), fun e => hp (.inr (.inr (.inr e)))⟩
theorem RX.after {W W' : World} {Fo : Nat → Option Obj} {base qb pb fb n : Nat} {room : Int} {srt : Bool} {ph' fl' : Nat → Int} {v v' : Value} {L' : List Lt} (hF : ∀ k, ¬ FQ qb pb fb v k → Fo k = W.heap[k]?) (h : RX Fo W' base qb pb fb n room srt ph' fl' v' L') : RX No W' base qb pb fb n room srt ph' fl' v' L' ∧ (∀ k, k < W.heap.size → ¬ FQ qb pb fb v k → W'.heap[k]? = W.heap[k]?) ∧ (∀ k, FQ qb pb fb v' k → FQ qb pb fb v k ∨ W.heap.size ≤ k) := by
  have key : ∀ k, k < W.heap.size → ¬ FQ qb pb fb v k → ∃ o, Fo k = some o ∧ W.heap[k]? = some o := fun k h1 h2 => ⟨_, by rw [hF k h2, Array.getElem?_eq_getElem h1], Array.getElem?_eq_getElem h1⟩
  refine ⟨h.weak (fun k o hk => by cases hk), fun k h1 h2 => ?_, fun k hk => ?_⟩
  · obtain ⟨o, h4, h5⟩ := key k h1 h2
    rw [(h.fr k o h4).1, h5]
  · rcases Nat.lt_or_ge k W.heap.size with h1 | h1
    · by_cases h2 : FQ qb pb fb v k
      · exact .inl h2
      · obtain ⟨o, h4, h5⟩ := key k h1 h2
        obtain ⟨_, f1, f2, f3, f4⟩ := h.fr k o h4
        rcases hk with hk | hk | hk | hk
        · exact absurd hk f1
        · exact absurd hk f2
        · exact absurd hk f3
        · exact absurd hk f4
    · exact .inr h1
theorem RX.keep {W W' : World} {base qb pb fb n : Nat} {room : Int} {srt : Bool} {ph fl : Nat → Int} {v : Value} {L : List Lt} (h : RX No W base qb pb fb n room srt ph fl v L) (hk : ∀ k, FQ qb pb fb v k → W'.heap[k]? = W.heap[k]?) : RX No W' base qb pb fb n room srt ph fl v L := by
  refine ⟨(hk qb (.inl rfl)).trans h.p, h.h.far fun k hk' => hk k ?_, h.f.far fun k hk' => hk k ?_, h.l.far fun k hk' => hk k (.inr (.inr (.inr hk'))), h.ne, h.hbs, fun k o hk => by cases hk⟩
  · simp [Value.ownBlock] at hk'; subst hk'; exact .inr (.inl rfl)
  · simp [Value.ownBlock] at hk'; subst hk'; exact .inr (.inr (.inl rfl))
theorem RX.foot {W : World} {Fo : Nat → Option Obj} {base qb pb fb n : Nat} {room : Int} {srt : Bool} {ph fl : Nat → Int} {v : Value} {L : List Lt} (h : RX Fo W base qb pb fb n room srt ph fl v L) {k : Nat} (hk : FQ qb pb fb v k) : base ≤ k ∧ k < W.heap.size := by
  rcases hk with rfl | rfl | rfl | hk
  · exact ⟨h.hbs, lt_of_block h.p⟩
  · exact Own.lt h.h _ rfl
  · exact Own.lt h.f _ rfl
  · exact h.l.lt k hk
theorem SH.full {W : World} {base sb : Nat} {V : Nat → Value} {m : Nat} (h : SH No W base sb V m) (X : Nat → Prop) : ∃ Fo : Nat → Option Obj, (∀ k, ¬ FS sb V k → ¬ X k → Fo k = W.heap[k]?) ∧ (∀ k, X k → ∀ o, Fo k ≠ some o) ∧ SH Fo W base sb V m := by
  classical
  refine ⟨fun k => if FS sb V k ∨ X k then none else W.heap[k]?, fun k h1 h2 => if_neg (fun h3 => h3.elim h1 h2), fun k hk o => ?_, ⟨h.p, h.o, h.ap, h.hbs, fun k o hk => ?_⟩⟩
  · show (if FS sb V k ∨ X k then none else W.heap[k]?) ≠ some o
    rw [if_pos (.inr hk)]
    intro e
    cases e
  · have hk' : (if FS sb V k ∨ X k then none else W.heap[k]?) = some o := hk
    by_cases hp : FS sb V k ∨ X k
    · rw [if_pos hp] at hk'; cases hk'
    · rw [if_neg hp] at hk'
      exact ⟨hk', fun e => hp (.inl (.inl e)), fun i hi e => hp (.inl (.inr ⟨i, hi, e⟩))⟩
theorem SH.after {W W' : World} {Fo : Nat → Option Obj} {X : Nat → Prop} {base sb : Nat} {V V' : Nat → Value} {m' : Nat} (hF : ∀ k, ¬ FS sb V k → ¬ X k → Fo k = W.heap[k]?) (h : SH Fo W' base sb V' m') : SH No W' base sb V' m' ∧ (∀ k, k < W.heap.size → ¬ FS sb V k → ¬ X k → W'.heap[k]? = W.heap[k]?) ∧ (∀ k, FS sb V' k → FS sb V k ∨ X k ∨ W.heap.size ≤ k) := by
  have key : ∀ k, k < W.heap.size → ¬ FS sb V k → ¬ X k → ∃ o, Fo k = some o ∧ W.heap[k]? = some o := fun k h1 h2 h3 => ⟨_, by rw [hF k h2 h3, Array.getElem?_eq_getElem h1], Array.getElem?_eq_getElem h1⟩
  refine ⟨⟨h.p, h.o, h.ap, h.hbs, fun k o hk => by cases hk⟩, fun k h1 h2 h3 => ?_, fun k hk => ?_⟩
  · obtain ⟨o, h4, h5⟩ := key k h1 h2 h3
    rw [(h.fr k o h4).1, h5]
  · rcases Nat.lt_or_ge k W.heap.size with h1 | h1
    · by_cases h2 : FS sb V k
      · exact .inl h2
      · by_cases h3 : X k
        · exact .inr (.inl h3)
        · obtain ⟨o, h4, h5⟩ := key k h1 h2 h3
          obtain ⟨_, f1, f2⟩ := h.fr k o h4
          rcases hk with hk | ⟨i, hi, hk⟩
          · exact absurd hk f1
          · exact absurd hk (f2 i hi)
    · exact .inr (.inr h1)
theorem SH.keep {W W' : World} {base sb : Nat} {V : Nat → Value} {m : Nat} (h : SH No W base sb V m) (hk : ∀ k, FS sb V k → W'.heap[k]? = W.heap[k]?) : SH No W' base sb V m := ⟨(hk sb (.inl rfl)).trans h.p, fun i hi => by obtain ⟨n, F, h1, h2⟩ := h.o i hi; exact ⟨n, F, h1.far fun k hk' => hk k (.inr ⟨i, hi, hk'⟩), h2⟩, h.ap, h.hbs, fun k o hk => by cases hk⟩
theorem SH.foot {W : World} {Fo : Nat → Option Obj} {base sb : Nat} {V : Nat → Value} {m : Nat} (h : SH Fo W base sb V m) {k : Nat} (hk : FS sb V k) : base ≤ k ∧ k < W.heap.size := by
  rcases hk with rfl | ⟨i, hi, hk⟩
  · exact ⟨h.hbs, lt_of_block h.p⟩
  · obtain ⟨n, F, h1, _⟩ := h.o i hi; exact h1.lt k hk
theorem SH.more {W : World} {Fo : Nat → Option Obj} {base sb : Nat} {V : Nat → Value} {m m' : Nat} (h : SH Fo W base sb V m) (hm : m ≤ m') : SH Fo W base sb V m' := ⟨h.p, fun i hi => by obtain ⟨n, F, h1, h2⟩ := h.o i hi; exact ⟨n, F, h1, Nat.le_trans h2 hm⟩, h.ap, h.hbs, h.fr⟩
end Go.Proofs.Ytoihddhjpbahlaa
