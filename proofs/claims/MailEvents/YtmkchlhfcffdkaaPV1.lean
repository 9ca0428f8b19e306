import Derived.Test.YtmkchlhfcffdkaaPE12
import Derived.Test.YtmkchlhfcffdkaaSM8
import Derived.Test.YtmkchlhfcffdkaaPEM
import Derived.BigQuiet
import Derived.Deep.RegionLaw
import Derived.Deep.RegionHeld3
import Derived.Deep.Cut
import Derived.Deep.DeepCutAuto
import Derived.Deep.CutBlock
import Derived.Deep.CutRange
import Derived.Deep.AppendLies
import Derived.Handy
import Derived.Lib.RabinKarpLaws
import Derived.ArgAppend
import Derived.Lib.JoinLaws
namespace Go.Proofs.Ytmkchlhfcffdkaa
open Go.ChangeShapes Go.WideShapes Go.ChangeAt Go.RowKit
set_option linter.unusedVariables false
set_option linter.unusedSimpArgs false

abbrev No : Nat → Option Obj := fun _ => none
/-- the blocks that a post writes, and those that it stands on -/
def PBm (wb n : Nat) (R : Nat → Nat) (H : Nat → Nat → Nat → Hf) (k : Nat) : Prop := k = wb ∨ (∃ i, i < n ∧ k = R i) ∨ ∃ i j h, i < n ∧ j < n ∧ h < 2 ∧ (H i j h).v.ownBlock = some k
def FP (hb wb bb n : Nat) (R : Nat → Nat) (H : Nat → Nat → Nat → Hf) (k : Nat) : Prop := k = hb ∨ k = bb ∨ PBm wb n R H k
theorem MP.weak {W : World} {Fo Fo' : Nat → Option Obj} {base hb wb bb n : Nat} {room : Int} {cmp : Value} {R : Nat → Nat} {ph fl : Nat → Int} {H : Nat → Nat → Nat → Hf} (h : MP Fo W base hb wb bb n room cmp R ph fl H) (hf : ∀ k o, Fo' k = some o → Fo k = some o) : MP Fo' W base hb wb bb n room cmp R ph fl H := ⟨h.p, h.w, h.b, h.r, h.ap, h.h, h.hd, h.hbs, h.s, fun k o hk => h.fr k o (hf k o hk)⟩
theorem MP.full {W : World} {base hb wb bb n : Nat} {room : Int} {cmp : Value} {R : Nat → Nat} {ph fl : Nat → Int} {H : Nat → Nat → Nat → Hf} (h : MP No W base hb wb bb n room cmp R ph fl H) (X : Nat → Prop) : ∃ Fo : Nat → Option Obj, (∀ k, ¬ PBm wb n R H k → ¬ X k → Fo k = W.heap[k]?) ∧ (∀ k, X k → ∀ o, Fo k ≠ some o) ∧ MP Fo W base hb wb bb n room cmp R ph fl H := by
  classical
  refine ⟨fun k => if PBm wb n R H k ∨ X k then none else W.heap[k]?, fun k h1 h2 => if_neg (fun h3 => h3.elim h1 h2), fun k hk o => ?_, ⟨h.p, h.w, h.b, h.r, h.ap, h.h, h.hd, h.hbs, h.s, fun k o hk => ?_⟩⟩
  · show (if PBm wb n R H k ∨ X k then none else W.heap[k]?) ≠ some o
    rw [if_pos (.inr hk)]
    intro e
    cases e
  · have hk' : (if PBm wb n R H k ∨ X k then none else W.heap[k]?) = some o := hk
    by_cases hp : PBm wb n R H k ∨ X k
    · rw [if_pos hp] at hk'; cases hk'
    · rw [if_neg hp] at hk'
      exact ⟨hk', fun e => hp (.inl (.inl e)), fun i hi e => hp (.inl (.inr (.inl ⟨i, hi, e⟩))), fun i j h9 hi hj hh e => hp (.inl (.inr (.inr ⟨i, j, h9, hi, hj, hh, e⟩)))⟩
theorem MP.after {W W' : World} {Fo : Nat → Option Obj} {X : Nat → Prop} {base hb wb bb n : Nat} {room : Int} {cmp : Value} {R : Nat → Nat} {ph' fl' : Nat → Int} {H H' : Nat → Nat → Nat → Hf} (hF : ∀ k, ¬ PBm wb n R H k → ¬ X k → Fo k = W.heap[k]?) (h : MP Fo W' base hb wb bb n room cmp R ph' fl' H') : MP No W' base hb wb bb n room cmp R ph' fl' H' ∧ (∀ k, k < W.heap.size → ¬ PBm wb n R H k → ¬ X k → W'.heap[k]? = W.heap[k]?) ∧ (∀ k, FP hb wb bb n R H' k → FP hb wb bb n R H k ∨ X k ∨ W.heap.size ≤ k) := by
  have key : ∀ k, k < W.heap.size → ¬ PBm wb n R H k → ¬ X k → ∃ o, Fo k = some o ∧ W.heap[k]? = some o := fun k h1 h2 h3 => ⟨_, by rw [hF k h2 h3, Array.getElem?_eq_getElem h1], Array.getElem?_eq_getElem h1⟩
  refine ⟨h.weak (fun k o hk => by cases hk), fun k h1 h2 h3 => ?_, fun k hk => ?_⟩
  · obtain ⟨o, h4, h5⟩ := key k h1 h2 h3
    rw [(h.fr k o h4).1, h5]
  · rcases Nat.lt_or_ge k W.heap.size with h1 | h1
    · by_cases h2 : PBm wb n R H k
      · exact .inl (.inr (.inr h2))
      · by_cases h3 : X k
        · exact .inr (.inl h3)
        · obtain ⟨o, h4, h5⟩ := key k h1 h2 h3
          obtain ⟨_, f1, f2, f3⟩ := h.fr k o h4
          rcases hk with hk | hk | hk | ⟨i, hi, hk⟩ | ⟨i, j, h9, hi, hj, hh, hk⟩
          · exact .inl (.inl hk)
          · exact .inl (.inr (.inl hk))
          · exact absurd hk f1
          · exact absurd hk (f2 i hi)
          · exact absurd hk (f3 i j h9 hi hj hh)
    · exact .inr (.inr h1)
theorem MP.keep {W W' : World} {base hb wb bb n : Nat} {room : Int} {cmp : Value} {R : Nat → Nat} {ph fl : Nat → Int} {H : Nat → Nat → Nat → Hf} (h : MP No W base hb wb bb n room cmp R ph fl H) (hk : ∀ k, FP hb wb bb n R H k → W'.heap[k]? = W.heap[k]?) : MP No W' base hb wb bb n room cmp R ph fl H := by
  refine ⟨(hk hb (.inl rfl)).trans h.p, h.w.far fun k hk' => hk k ?_, h.b.far fun k hk' => hk k ?_, fun i hi => (h.r i hi).far fun k hk' => hk k ?_, h.ap, fun i j e hi hj he => (h.h i j e hi hj he).far fun k hk' => hk k (.inr (.inr (.inr (.inr ⟨i, j, e, hi, hj, he, hk'⟩)))), h.hd, h.hbs, h.s, fun k o hk => by cases hk⟩
  · simp [Value.ownBlock] at hk'; subst hk'; exact .inr (.inr (.inl rfl))
  · simp [Value.ownBlock] at hk'; subst hk'; exact .inr (.inl rfl)
  · simp [Value.ownBlock] at hk'; subst hk'; exact .inr (.inr (.inr (.inl ⟨i, hi, rfl⟩)))
theorem MP.foot {W : World} {Fo : Nat → Option Obj} {base hb wb bb n : Nat} {room : Int} {cmp : Value} {R : Nat → Nat} {ph fl : Nat → Int} {H : Nat → Nat → Nat → Hf} (h : MP Fo W base hb wb bb n room cmp R ph fl H) {k : Nat} (hk : FP hb wb bb n R H k) : base ≤ k ∧ k < W.heap.size := by
  rcases hk with rfl | rfl | rfl | ⟨i, hi, rfl⟩ | ⟨i, j, e, hi, hj, he, hk⟩
  · exact ⟨h.hbs, lt_of_block h.p⟩
  · exact Own.lt h.b _ rfl
  · exact Own.lt h.w _ rfl
  · exact Own.lt (h.r i hi) _ rfl
  · exact (h.h i j e hi hj he).lt k hk

set_option maxRecDepth 100000 in
theorem mce_any (x y : Se) (w : World) : Calls Try.prog 13 #[.agg #[.int .u64 x.t, .int .i64 x.s, .int .u64 x.q, .int .i64 x.d, .int .i64 x.k, .int .i64 x.v], .agg #[.int .u64 y.t, .int .i64 y.s, .int .u64 y.q, .int .i64 y.d, .int .i64 y.k, .int .i64 y.v]] w fun e w' => e = .returned (.int .i64 (kc x y)) ∧ Below w.heap.size w w' := by
  unfold kc
  have HC := fun w' => compare_any x.t x.s x.q y.t y.s y.q w'
  generalize keyCmp x.t x.s x.q y.t y.s y.q = r at *
  go_enter Try.func13, Try.ntmps13
  go_wp2_with (go_at_call 14; (with_reducible refine (HC _).mono ?_); rintro e w1 ⟨rfl, hb⟩)
  go_ret
  refine ⟨rfl, Below.trans (b := (w.alloc _).alloc _) ?_ (hb.mono (by simp [World.size_alloc]; omega))⟩
  exact ((Below.refl _ w).alloc (Nat.le_refl _) _).alloc (by simp [World.size_alloc]) _
abbrev cvE : Value := .func (.func 13) #[] #[]
theorem smF_eq (c : Nat → Se) : ∀ j, SM.eF (id : Se → Se) c j = seF c j := fun j => by
  unfold SM.eF seF seC seL
  have : j % 6 = 0 ∨ j % 6 = 1 ∨ j % 6 = 2 ∨ j % 6 = 3 ∨ j % 6 = 4 ∨ j % 6 = 5 := by omega
  rcases this with e | e | e | e | e | e <;> rw [e] <;> rfl
theorem events_sorts : Sorts cvE klt (fun _ => False) (fun _ => True) := fun W base g S c hS ho _ _ =>
  (SM.sortS_any (rp := (id : Se → Se)) (kc := kc) klt_ord (by omega) W (base := base) (g := g) (n := S) (cap := S) (c := c) (Own.congr ho fun j _ => (smF_eq c j).symm) (fun _ p q w' _ => mce_any p q w')).mono fun r W' ⟨h1, d, h2, h3, h4, h5⟩ => ⟨h1, d, Own.congr h2 fun j _ => smF_eq d j, h3, h4, ⟨h5.os, h5.tape, h5.output, h5.size, fun k hk hne _ => h5.block k hk hne⟩, trivial⟩
theorem Stb.baseE {c c' d : Nat → Se} {m : Nat} (h : Stb klt 0 m c d) (he : ∀ i, i < m → c i = c' i) : ∃ d', Stb klt 0 m c' d' ∧ ∀ i, i < m → d' i = d i := by
  obtain ⟨f, g, h⟩ := h
  have hd : ∀ i, i < m → c' (f i) = d i := fun i hi => by rw [h.val i, he _ (h.inr i (Nat.zero_le _) hi).2]
  refine ⟨fun i => c' (f i), ⟨f, g, h.out, h.inr, h.li, h.ri, fun _ => rfl, fun i j hij => ?_⟩, hd⟩
  by_cases hj : j < m
  · have hi : i < m := by omega
    show f i < f j ∨ klt (c' (f i)) (c' (f j)) = true
    rw [hd i hi, hd j hj]
    exact h.st i j hij
  · left
    have e2 := h.out j (by omega)
    by_cases hi : i < m
    · have e1 := (h.inr i (Nat.zero_le _) hi).2
      omega
    · have e1 := h.out i (by omega)
      omega
def LsP.v (Z : LsP) : Value := .slice Z.p Z.n Z.c
/-- the post of events; the first i workers have sent their lists; the lists of the statement lie beside it -/
structure ES (W : World) (B hb wb bb n : Nat) (R : Nat → Nat) (ph : Nat → Int) (H : Nat → Nat → Nat → Hf) (sent : Value) (i : Nat) (Y : Nat → LsP) : Prop where
  mp : MP No W B hb wb bb n 1024 cvE R ph (fun _ => 0) H
  hl : ∀ j, j < i → (H j 0 0).l = (Y j).n ∧ ∀ t, t < (Y j).n → (H j 0 0).k t = (Y j).X t
  h0 : ∀ a b c, a < n → b < n → c < 2 → ¬ (b = 0 ∧ c = 0 ∧ a < i) → (H a b c).l = 0
  sn : Own W B 47 1 sent i (fun j => (Y j).v)
  rr : ∀ j, j < i → Own W B 44 6 (Y j).v (Y j).n (seF (Y j).X) ∧ (Y j).n ≤ 200
  sa : ∀ k, sent.ownBlock = some k → ¬ FP hb wb bb n R H k
  ar : ∀ j, j < i → ∀ k, (Y j).v.ownBlock = some k → ¬ FP hb wb bb n R H k
  bs : B ≤ W.heap.size
section
variable {W W' : World} {B hb wb bb n : Nat} {R : Nat → Nat} {ph : Nat → Int} {H : Nat → Nat → Nat → Hf} {sent : Value} {i : Nat} {Y : Nat → LsP}
theorem ES.later (h : ES W B hb wb bb n R ph H sent i Y) (hb' : Below W.heap.size W W') : ES W' B hb wb bb n R ph H sent i Y := ⟨h.mp.later hb', h.hl, h.h0, h.sn.later hb', fun j hj => ⟨(h.rr j hj).1.later hb', (h.rr j hj).2⟩, h.sa, h.ar, Nat.le_trans h.bs hb'.size⟩
theorem parn : par (0 - 1) = 1 := by decide
/-- worker i is about to send its list: own has m events of it -/
structure EI (W : World) (B hb wb bb n : Nat) (R : Nat → Nat) (H : Nat → Nat → Nat → Hf) (sent : Value) (i : Nat) (Y : Nat → LsP) (B2 : Nat) (own : Value) (m : Nat) (X : Nat → Se) : Prop where
  mp : MP No W B hb wb bb n 1024 cvE R (fun _ => 0) (fun _ => 0) H
  hl : ∀ j, j < i → (H j 0 0).l = (Y j).n ∧ ∀ t, t < (Y j).n → (H j 0 0).k t = (Y j).X t
  li : (H i 0 0).l = m ∧ ∀ t, t < m → (H i 0 0).k t = X t
  h0 : ∀ a b c, a < n → b < n → c < 2 → ¬ (b = 0 ∧ c = 0 ∧ a < i + 1) → (H a b c).l = 0
  sn : Own W B 47 1 sent i (fun j => (Y j).v)
  rr : ∀ j, j < i → Own W B 44 6 (Y j).v (Y j).n (seF (Y j).X) ∧ (Y j).n ≤ 200
  lo : ∀ j, j < i → ∀ k, (Y j).v.ownBlock = some k → k < B2
  ow : Own W B2 44 6 own m (seF X)
  sa : ∀ k, sent.ownBlock = some k → ¬ FP hb wb bb n R H k
  ar : ∀ j, j < i → ∀ k, (Y j).v.ownBlock = some k → ¬ FP hb wb bb n R H k
  ao : ∀ k, own.ownBlock = some k → ¬ FP hb wb bb n R H k
  b2 : B ≤ B2
  bs : B2 ≤ W.heap.size
variable {B2 m : Nat} {own : Value} {X : Nat → Se}
theorem ES.open (h : ES W B hb wb bb n R (fun _ => 0) H sent i Y) (hi : i < n) (X : Nat → Se) : EI W B hb wb bb n R H sent i Y W.heap.size (.slice none 0 0) 0 X := ⟨h.mp, h.hl, ⟨h.h0 i 0 0 hi (by omega) (by decide) (by omega), fun t ht => absurd ht (Nat.not_lt_zero _)⟩, fun a b c ha hb hc hne => h.h0 a b c ha hb hc (by omega), h.sn, h.rr, fun j hj k hk => ((h.rr j hj).1.lt k hk).2, ⟨rfl, .inl ⟨rfl, rfl⟩⟩, h.sa, h.ar, fun k hk => by simp [Value.ownBlock] at hk, h.bs, Nat.le_refl _⟩
/-- Send of the next event -/
theorem EI.send (h : EI W B hb wb bb n R H sent i Y B2 own m X) (hi : i < n) (hm : m < 200) : Calls Try.prog 15 #[.pointer (some ⟨hb, 0, none⟩), .int .i64 (i : Int), .int .i64 0, .agg #[.int .u64 (X m).t, .int .i64 (X m).s, .int .u64 (X m).q, .int .i64 (X m).d, .int .i64 (X m).k, .int .i64 (X m).v]] W fun e W' => e = .returned (.int .i64 0) ∧ Below B W W' ∧ W.heap.size ≤ W'.heap.size ∧ ∃ H', MP No W' B hb wb bb n 1024 cvE R (fun _ => 0) (fun _ => 0) H' ∧ (∀ j, j < i → (H' j 0 0).l = (Y j).n ∧ ∀ t, t < (Y j).n → (H' j 0 0).k t = (Y j).X t) ∧ ((H' i 0 0).l = m + 1 ∧ ∀ t, t < m + 1 → (H' i 0 0).k t = X t) ∧ (∀ a b c, a < n → b < n → c < 2 → ¬ (b = 0 ∧ c = 0 ∧ a < i + 1) → (H' a b c).l = 0) ∧ Own W' B 47 1 sent i (fun j => (Y j).v) ∧ (∀ j, j < i → Own W' B 44 6 (Y j).v (Y j).n (seF (Y j).X) ∧ (Y j).n ≤ 200) ∧ Own W' B2 44 6 own m (seF X) ∧ (∀ k, sent.ownBlock = some k → ¬ FP hb wb bb n R H' k) ∧ (∀ j, j < i → ∀ k, (Y j).v.ownBlock = some k → ¬ FP hb wb bb n R H' k) ∧ (∀ k, own.ownBlock = some k → ¬ FP hb wb bb n R H' k) := by
  obtain ⟨Fo, hF, _, hM⟩ := h.mp.full (fun _ => False)
  have hl : (H i 0 (par 0)).l = m := h.li.1
  have hB : B ≤ W.heap.size := Nat.le_trans h.b2 h.bs
  have hs := send_put i 0 (X m) hi (by omega) (by decide) rfl W hM hB (by rw [hl]; omega) (by rw [hl]; omega)
  refine hs.mono fun e W' ⟨e1, ⟨q, c, hM'⟩, hb'⟩ => ⟨e1, hb', hb'.size, ?_⟩
  obtain ⟨a1, a2, a3⟩ := MP.after hF hM'
  have nf : ∀ (v : Value) (k : Nat), v.ownBlock = some k → k < W.heap.size → (∀ k, v.ownBlock = some k → ¬ FP hb wb bb n R H k) → ¬ FP hb wb bb n R (setHf H i 0 0 (more (H i 0 0) q c (X m))) k := fun v k hk hlt hn e => by
    rcases a3 k e with e | e | e
    · exact hn k hk e
    · exact e
    · omega
  refine ⟨_, a1, fun j hj => ?_, ⟨?_, fun t ht => ?_⟩, fun a b c' ha hb hc hne => ?_, h.sn.far fun k hk => a2 k (h.sn.lt k hk).2 (fun e => h.sa k hk (.inr (.inr e))) (fun e => e), fun j hj => ⟨(h.rr j hj).1.far fun k hk => a2 k ((h.rr j hj).1.lt k hk).2 (fun e => h.ar j hj k hk (.inr (.inr e))) (fun e => e), (h.rr j hj).2⟩, h.ow.far fun k hk => a2 k (h.ow.lt k hk).2 (fun e => h.ao k hk (.inr (.inr e))) (fun e => e), fun k hk => nf sent k hk (h.sn.lt k hk).2 h.sa, fun j hj k hk => nf (Y j).v k hk ((h.rr j hj).1.lt k hk).2 (h.ar j hj), fun k hk => nf own k hk (h.ow.lt k hk).2 h.ao⟩
  · show (setHf H i 0 0 (more (H i 0 0) q c (X m)) j 0 0).l = (Y j).n ∧ ∀ t, t < (Y j).n → (setHf H i 0 0 (more (H i 0 0) q c (X m)) j 0 0).k t = (Y j).X t
    rw [setHf_ne _ _ _ _ _ (by omega)]
    exact h.hl j hj
  · show (setHf H i 0 0 (more (H i 0 0) q c (X m)) i 0 0).l = m + 1
    rw [setHf_at]
    show (H i 0 0).l + 1 = m + 1
    rw [h.li.1]
  · show (setHf H i 0 0 (more (H i 0 0) q c (X m)) i 0 0).k t = X t
    rw [setHf_at]
    show (if t = (H i 0 0).l then X m else (H i 0 0).k t) = X t
    rw [h.li.1]
    by_cases e : t = m
    · rw [if_pos e, e]
    · rw [if_neg e]
      exact h.li.2 t (by omega)
  · show (setHf H i 0 0 (more (H i 0 0) q c (X m)) a b c').l = 0
    rw [setHf_ne _ _ _ _ _ (by omega)]
    exact h.h0 a b c' ha hb hc hne
/-- own is written behind its end -/
theorem EI.grow {own' : Value} (mp : MP No W B hb wb bb n 1024 cvE R (fun _ => 0) (fun _ => 0) H) (hl : ∀ j, j < i → (H j 0 0).l = (Y j).n ∧ ∀ t, t < (Y j).n → (H j 0 0).k t = (Y j).X t) (li : (H i 0 0).l = m + 1 ∧ ∀ t, t < m + 1 → (H i 0 0).k t = X t) (h0 : ∀ a b c, a < n → b < n → c < 2 → ¬ (b = 0 ∧ c = 0 ∧ a < i + 1) → (H a b c).l = 0) (sn : Own W B 47 1 sent i (fun j => (Y j).v)) (rr : ∀ j, j < i → Own W B 44 6 (Y j).v (Y j).n (seF (Y j).X) ∧ (Y j).n ≤ 200) (lo : ∀ j, j < i → ∀ k, (Y j).v.ownBlock = some k → k < B2) (ow : Own W B2 44 6 own m (seF X)) (sa : ∀ k, sent.ownBlock = some k → ¬ FP hb wb bb n R H k) (ar : ∀ j, j < i → ∀ k, (Y j).v.ownBlock = some k → ¬ FP hb wb bb n R H k) (ao : ∀ k, own.ownBlock = some k → ¬ FP hb wb bb n R H k) (b2 : B ≤ B2) (bs : B2 ≤ W.heap.size) (hg : W.grownBy W' own.ownBlock) (hown : Own W' B2 44 6 own' (m + 1) (seF X)) (hat : own'.ownBlock = own.ownBlock ∨ own'.ownBlock = some W.heap.size) : EI W' B hb wb bb n R H sent i Y B2 own' (m + 1) X := by
  refine ⟨mp.keep fun k hk => hg.block k (mp.foot hk).2 fun e => ao k e.symm hk, hl, li, h0, sn.keptBy hg fun k hk e => sn.clash ow (by decide) hk e, fun j hj => ⟨(rr j hj).1.keptBy hg fun k hk e => ?_, (rr j hj).2⟩, lo, hown, sa, ar, fun k hk e => ?_, b2, Nat.le_trans bs hg.4⟩
  · have h1 := lo j hj k hk
    have h2 := (ow.lt k e).1
    omega
  · rcases hat with h1 | h1
    · exact ao k (h1.symm.trans hk) e
    · rw [h1] at hk
      injection hk with hk
      have := (mp.foot e).2
      omega
/-- the list is laid beside the others -/
theorem EI.close {sent' : Value} {q : Option Addr} {c : Nat} (h : EI W B hb wb bb n R H sent i Y B2 (.slice q m c) m X) (hm : m ≤ 200) (hg : W.grownBy W' sent.ownBlock) (hown : Own W' B 47 1 sent' (i + 1) (fun j => if j = i then .slice q m c else (Y j).v)) (hat : sent'.ownBlock = sent.ownBlock ∨ sent'.ownBlock = some W.heap.size) : ES W' B hb wb bb n R (fun _ => 0) H sent' (i + 1) (fun j => if j = i then ⟨q, c, m, X⟩ else Y j) := by
  have hYi : (if i = i then (⟨q, c, m, X⟩ : LsP) else Y i) = ⟨q, c, m, X⟩ := if_pos rfl
  have hYj : ∀ j, j ≠ i → (if j = i then (⟨q, c, m, X⟩ : LsP) else Y j) = Y j := fun j hj => if_neg hj
  refine ⟨h.mp.keep fun k hk => hg.block k (h.mp.foot hk).2 fun e => h.sa k e.symm hk, fun j hj => ?_, h.h0, hown.congr fun j hj => ?_, fun j hj => ?_, fun k hk e => ?_, fun j hj k hk => ?_, Nat.le_trans (Nat.le_trans h.b2 h.bs) hg.4⟩
  · by_cases e : j = i
    · subst e; show _ = (if j = j then (⟨q, c, m, X⟩ : LsP) else Y j).n ∧ _; simp only [if_true]; exact h.li
    · simp only [if_neg e]; exact h.hl j (by omega)
  · by_cases e : j = i
    · subst e; simp only [if_true]; rfl
    · simp only [if_neg e]
  · by_cases e : j = i
    · subst e
      simp only [if_true]
      exact ⟨(h.ow.lower h.b2).keptBy hg fun k hk e => h.sn.clash h.ow (by decide) e hk, hm⟩
    · simp only [if_neg e]
      exact ⟨(h.rr j (by omega)).1.keptBy hg fun k hk e9 => h.sn.clash (h.rr j (by omega)).1 (by decide) e9 hk, (h.rr j (by omega)).2⟩
  · rcases hat with h1 | h1
    · exact h.sa k (h1.symm.trans hk) e
    · rw [h1] at hk
      injection hk with hk
      have := (h.mp.foot e).2
      omega
  · by_cases e : j = i
    · subst e
      simp only [if_true] at hk
      exact h.ao k hk
    · simp only [if_neg e] at hk
      exact h.ar j (by omega) k hk
/-- Flip of the next worker -/
theorem ES.flip (h : ES W B hb wb bb n R ph H sent n Y) (hn : n ≤ 64) (x : Nat) (hx : x < n) (hp : ph x = 0) (h1 : ∀ i, i < n → 0 ≤ ph i) : Calls Try.prog 16 #[.pointer (some ⟨hb, 0, none⟩), .int .i64 (x : Int)] W fun e W' => e = .returned (.int .i64 0) ∧ Below B W W' ∧ ES W' B hb wb bb n R (fun i => if i = x then 1 else ph i) H sent n Y := by
  obtain ⟨Fo, hF, _, hM⟩ := h.mp.full (fun _ => False)
  refine (flip_any x hx hn (by rw [hp]; decide) W hM h.bs).mono fun e W' ⟨hb', hc⟩ => ?_
  have hz : ∀ i j, i < n → j < n → (H i j 1).l = 0 := fun i j hi hj => h.h0 i j 1 hi hj (by decide) (by omega)
  have no : ¬ (Low ph n x ∨ sentP H n x (ph x - 1) ∨ dueP H ph n x) := by
    rintro (⟨i, hi, hl⟩ | ⟨j, hj, hl⟩ | ⟨i, hi, _, hl⟩)
    · have := h1 i hi; omega
    · rw [hp, parn, hz x j hx hj] at hl; omega
    · rw [hp, parn, hz i x hi hx] at hl; omega
  rcases hc with ⟨c1, _⟩ | ⟨_, c2, _⟩ | ⟨_, _, c3, c4⟩
  · exact absurd rfl c1
  · exact absurd c2 no
  · obtain ⟨a1, a2, a3⟩ := MP.after hF c4
    rw [hp] at a1
    exact ⟨c3, hb', a1, h.hl, h.h0, h.sn.far fun k hk => a2 k (h.sn.lt k hk).2 (fun e => h.sa k hk (.inr (.inr e))) (fun e => e), fun j hj => ⟨(h.rr j hj).1.far fun k hk => a2 k ((h.rr j hj).1.lt k hk).2 (fun e => h.ar j hj k hk (.inr (.inr e))) (fun e => e), (h.rr j hj).2⟩, h.sa, h.ar, Nat.le_trans h.bs hb'.size⟩
theorem dueI_all (ph : Nat → Int) (x : Nat) : ∀ n, (∀ i, i < n → ph i = ph x) → dueI ph x n = List.range n
  | 0, _ => rfl
  | n + 1, h => by
    show (if ph n = ph x then dueI ph x n ++ [n] else dueI ph x n) = _
    rw [if_pos (h n (by omega)), dueI_all ph x n (fun i hi => h i (by omega)), List.range_succ]
theorem ES.lsin (h : ES W B hb wb bb n R ph H sent n Y) : ∃ p c, sent = .slice p n c ∧ LsIn W p n Y := by
  have hr : ∀ k, k < n → SIn W (Y k).p (Y k).n (Y k).X := fun k hk => own_sin0 (h.rr k hk).1
  rcases h.sn.form with ⟨a, b⟩ | ⟨g, c, a, _⟩
  · exact ⟨none, 0, by rw [a, b], .inl b, hr⟩
  · have hs := h.sn
    rw [a] at hs
    exact ⟨_, _, a, .inr ⟨g, 0, rfl, (hs.lt g rfl).2, fun k hk => by rw [Nat.zero_add]; exact hs.cell (j := k) (by omega)⟩, hr⟩
/-- the Drain at the end: the same as the merge of the lists -/
theorem ES.drain (h : ES W B hb wb bb n R ph H sent n Y) (hn : n ≤ 64) (h1 : 1 ≤ n) (hph : ∀ i, i < n → ph i = 1) : Calls Try.prog 17 #[.pointer (some ⟨hb, 0, none⟩), .int .i64 0] W fun e W' => ∃ g d2, e = .returned (.tuple #[.slice (some ⟨g, 0, none⟩) (offL Y n) (offL Y n), .int .i64 0]) ∧ Below B W W' ∧ SIn W' (some ⟨g, 0, none⟩) (offL Y n) d2 ∧ (∃ p c, sent = .slice p n c ∧ LsIn W' p n Y) ∧ Stb klt 0 (offL Y n) (catL Y n) d2 ∧ Srt klt 0 (offL Y n) d2 := by
  obtain ⟨Fo, hF, _, hM⟩ := h.mp.full (fun _ => False)
  have p0 := hph 0 (by omega)
  have hI : dueI ph 0 n = List.range n := dueI_all ph 0 n fun i hi => by rw [hph i hi, p0]
  have hN : dueN ph n 0 = n := by unfold dueN; rw [hI, List.length_range]
  obtain ⟨jf, hjf⟩ : ∃ jf, dueJ ph n 0 = jf := ⟨_, rfl⟩
  have hj : ∀ j, j < n → jf j = j := fun j hj => by
    rw [← hjf]
    unfold dueJ
    rw [hI, List.getD_eq_getElem?_getD, List.getElem?_range hj]
    rfl
  have hsm : ∀ k, k ≤ n → sm (gln H 0 0 jf) k = offL Y k := fun k hk => by
    induction k with
    | zero => rfl
    | succ k ih =>
      show sm (gln H 0 0 jf) k + gln H 0 0 jf k = offL Y k + (Y k).n
      rw [ih (by omega)]
      unfold gln
      rw [hj k (by omega), (h.hl k (by omega)).1]
  have hK : ∀ k, k ≤ n → ∀ t, t < offL Y k → gKn H 0 0 jf k t = catL Y k t := fun k hk => by
    induction k with
    | zero => exact fun t ht => absurd ht (Nat.not_lt_zero _)
    | succ k ih =>
      intro t ht
      show catF (gKn H 0 0 jf k) (sm (gln H 0 0 jf) k) (H (jf k) 0 0).k t = catS (catL Y k) (Y k).X (offL Y k) t
      rw [hsm k (by omega), hj k (by omega)]
      unfold catF catS
      by_cases e : t < offL Y k
      · rw [if_pos e, if_pos e]
        exact ih (by omega) t e
      · rw [if_neg e, if_neg e]
        have ht' : t < offL Y k + (Y k).n := ht
        exact (h.hl k (by omega)).2 _ (by omega)
  have hlow : ¬ Low ph n 0 := fun ⟨i, hi, hl⟩ => by have := hph i hi; omega
  have hs := drain_ok 0 (lt := klt) (A := fun _ => False) (J := fun _ => True) (by omega) hn (by rw [p0]; decide) hlow W hM h.bs events_sorts (fun _ h => h.elim) (fun _ _ => trivial) 0 n (offL Y n) jf (by rw [p0]; decide) hN hjf (hsm n (Nat.le_refl _))
  refine hs.mono fun e W' ⟨g, d2, e1, hg, h3, h4, h5, h6, h7, _⟩ => ?_
  obtain ⟨a1, a2, a3⟩ := MP.after hF h6
  obtain ⟨d3, s1, s2⟩ := h4.baseE (hK n (Nat.le_refl _))
  have h3' : Own W' B 44 6 (.slice (some ⟨g, 0, none⟩) (offL Y n) (offL Y n)) (offL Y n) (seF d2) := h3
  refine ⟨g, d3, e1, ⟨h7.os, h7.tape, h7.output, h7.size, fun k hk => h7.block k hk (fun e => e)⟩, ?_, ?_, s1, h5.congr fun i _ hi => s2 i hi⟩
  · refine (own_sin0 h3').congr fun i hi => ?_
    exact (s2 i hi).symm
  · have h9 : ES W' B hb wb bb n R ph H sent n Y → ∃ p c, sent = .slice p n c ∧ LsIn W' p n Y := fun h => h.lsin
    have hsn := h.sn.far (W' := W') fun k hk => a2 k (h.sn.lt k hk).2 (fun e => h.sa k hk (.inr (.inr e))) (fun e => e)
    have hrw : ∀ j, j < n → Own W' B 44 6 (Y j).v (Y j).n (seF (Y j).X) := fun j hj => (h.rr j hj).1.far fun k hk => a2 k ((h.rr j hj).1.lt k hk).2 (fun e => h.ar j hj k hk (.inr (.inr e))) (fun e => e)
    have hr : ∀ k, k < n → SIn W' (Y k).p (Y k).n (Y k).X := fun k hk => own_sin0 (hrw k hk)
    rcases hsn.form with ⟨a, b⟩ | ⟨g, c, a, _⟩
    · exact ⟨none, 0, by rw [a, b], .inl b, hr⟩
    · rw [a] at hsn
      exact ⟨_, _, a, .inr ⟨g, 0, rfl, (hsn.lt g rfl).2, fun k hk => by rw [Nat.zero_add]; exact hsn.cell (j := k) (by omega)⟩, hr⟩
end
end Go.Proofs.Ytmkchlhfcffdkaa
