import Derived.Test.YtkfjcbnhohipgaaKP2
import Derived.Test.YtkfjcbnhohipgaaMC2
import Derived.BigQuiet
import Derived.Deep.RegionLaw
import Derived.Deep.RegionHeld3
import Derived.Deep.Cut
import Derived.Deep.DeepCutAuto
import Derived.Deep.CutBlock
import Derived.Deep.CutRange
import Derived.Deep.AppendLies
import Derived.Handy
import Derived.Lib.RabinKarpLaws
namespace Go.Proofs.Ytkfjcbnhohipgaa
open Go.ChangeShapes Go.WideShapes Go.ChangeAt Go.RowKit
set_option linter.unusedVariables false
set_option linter.unusedSimpArgs false


/-- a block that no post writes -/
def Oth (t : TypeId) : Bool := (t != 81) && (t != 78) && (t != 31)
def Fat (W : World) : Nat → Option Obj := fun k => match W.heap[k]? with
  | some (.cells cs t fz) => if Oth t = true then some (.cells cs t fz) else none
  | _ => none
abbrev Fn : Nat → Option Obj := fun _ => none
def KT (W W' : World) : Prop := ∀ (k : Nat) (cs : Array Value) (t : TypeId) (fz : Nat × Nat), W.heap[k]? = some (Obj.cells cs t fz) → Oth t = true → W'.heap[k]? = some (Obj.cells cs t fz)
theorem KT.refl (W : World) : KT W W := fun _ _ _ _ h _ => h
theorem KT.trans {W W' W'' : World} (h : KT W W') (h' : KT W' W'') : KT W W'' := fun k cs t fz h1 h2 => h' k cs t fz (h k cs t fz h1 h2) h2
theorem KT.below {W W' : World} (h : Below W.heap.size W W') : KT W W' := fun k cs t fz h1 _ => (h.block k (lt_of_block h1)).trans h1
theorem Own.kt {W W' : World} {B s m : Nat} {t : TypeId} {v : Value} {F : Nat → Value} (o : Own W B t s v m F) (h : KT W W') (ht : Oth t = true) : Own W' B t s v m F := o.far fun k hk => by
  rcases o.form with ⟨rfl, _⟩ | ⟨g, c, rfl, _⟩
  · simp [Value.ownBlock] at hk
  · simp [Value.ownBlock] at hk
    subst hk
    obtain ⟨cu, h1, _⟩ := o.block
    rw [h1]
    exact h _ _ _ _ h1 ht
theorem MP.fat {W : World} {base hb wb bb n : Nat} {room : Int} {cmp : Value} {R : Nat → Nat} {ph fl : Nat → Int} {H : Nat → Nat → Nat → Hf} (h : MP Fn W base hb wb bb n room cmp R ph fl H) : MP (Fat W) W base hb wb bb n room cmp R ph fl H := by
  refine ⟨h.p, h.w, h.b, h.r, h.ap, h.h, h.hd, h.hbs, h.s, fun k ob hk => ?_⟩
  unfold Fat at hk
  cases hw : W.heap[k]? with
  | none => rw [hw] at hk; cases hk
  | some o =>
    rw [hw] at hk
    cases o with
    | cells cs t fz =>
      simp only at hk
      by_cases ho : Oth t = true
      · rw [if_pos ho] at hk
        unfold Oth at ho
        simp only [Bool.and_eq_true, bne_iff_ne, ne_eq] at ho
        have key : ∀ {tt : TypeId} {s m : Nat} {v : Value} {F : Nat → Value}, Own W base tt s v m F → tt ≠ t → v.ownBlock ≠ some k := fun o1 hne e => o1.apart hw hne k e rfl
        refine ⟨hk, fun e2 => ?_, fun i hi e2 => ?_, fun i j h9 hi hj hh e2 => ?_⟩
        · subst e2; exact key h.w (Ne.symm ho.1.1) rfl
        · subst e2; exact key (h.r i hi) (Ne.symm ho.1.2) rfl
        · exact key (h.h i j h9 hi hj hh) (Ne.symm ho.2) e2
      · rw [if_neg ho] at hk; cases hk
    | _ => simp only at hk; cases hk
theorem MP.fatK {W W' : World} {base hb wb bb n : Nat} {room : Int} {cmp : Value} {R : Nat → Nat} {ph fl : Nat → Int} {H : Nat → Nat → Nat → Hf} (h : MP (Fat W) W' base hb wb bb n room cmp R ph fl H) : MP Fn W' base hb wb bb n room cmp R ph fl H ∧ KT W W' := by
  refine ⟨⟨h.p, h.w, h.b, h.r, h.ap, h.h, h.hd, h.hbs, h.s, fun k ob hk => by cases hk⟩, fun k cs t fz h1 h2 => ?_⟩
  exact (h.fr k _ (by unfold Fat; rw [h1]; simp only; rw [if_pos h2])).1
/-- the post with its letters, and the fates -/
structure PK (W : World) (B hb wb bb n : Nat) (room : Int) (cmp : Value) (R : Nat → Nat) (ph fl : Nat → Int) (H : Nat → Nat → Nat → Hf) (L : List Lt) (fb N : Nat) (G : Nat → Ft) (t : Nat) : Prop where
  mp : MP Fn W B hb wb bb n room cmp R ph fl H
  re : RE n room ph H L t
  fo : Own W B 56 6 (.slice (some ⟨fb, 0, none⟩) N N) N (ftF G)
variable {B hb wb bb n : Nat} {room : Int} {cmp : Value} {R : Nat → Nat} {ph fl : Nat → Int} {H : Nat → Nat → Nat → Hf} {L : List Lt} {fb N : Nat} {G : Nat → Ft} {t : Nat}
theorem PK.later {W W' : World} (h : PK W B hb wb bb n room cmp R ph fl H L fb N G t) (hb' : Below W.heap.size W W') : PK W' B hb wb bb n room cmp R ph fl H L fb N G t := ⟨h.mp.later hb', h.re, h.fo.later hb'⟩
theorem PK.next {W W' : World} (h : PK W B hb wb bb n room cmp R ph fl H L fb N G t) {ph' fl' : Nat → Int} {H' : Nat → Nat → Nat → Hf} {L' : List Lt} {t' : Nat} (k : MP (Fat W) W' B hb wb bb n room cmp R ph' fl' H') (re : RE n room ph' H' L' t') : PK W' B hb wb bb n room cmp R ph' fl' H' L' fb N G t' ∧ KT W W' := ⟨⟨k.fatK.1, re, h.fo.kt k.fatK.2 (by decide)⟩, k.fatK.2⟩
/-- the fates alone have changed -/
theorem PK.fates {W W' : World} (h : PK W B hb wb bb n room cmp R ph fl H L fb N G t) {G' : Nat → Ft} (ho : Own W' B 56 6 (.slice (some ⟨fb, 0, none⟩) N N) N (ftF G')) (hk : ∀ k, k < W.heap.size → k ≠ fb → W'.heap[k]? = W.heap[k]?) : PK W' B hb wb bb n room cmp R ph fl H L fb N G' t := by
  have m := h.mp
  have far : ∀ {tt : TypeId} {s mm : Nat} {v : Value} {F : Nat → Value}, Own W B tt s v mm F → tt ≠ 56 → Own W' B tt s v mm F := fun o1 hne => o1.far fun k hk' => hk k (o1.lt k hk').2 fun e => by
    subst e
    exact o1.clash h.fo hne hk' rfl
  obtain ⟨cu, h1, _⟩ := h.fo.block
  refine ⟨⟨(hk hb (lt_of_block m.p) (typ_ne m.p h1 (by decide))).trans m.p, far m.w (by decide), far m.b (by decide), fun i hi => far (m.r i hi) (by decide), m.ap, fun i j k hi hj hk9 => far (m.h i j k hi hj hk9) (by decide), m.hd, m.hbs, m.s, fun k o hk' => by cases hk'⟩, h.re, ho⟩
theorem send_pk (hn : n ≤ 64) (hr : 1 ≤ room ∧ room ≤ 1024) (ht : t ≤ 1000) (hre : RE n room ph H L t) (oa ob ok : Int) :
    (∃ x y : Nat, oa = (x : Int) ∧ ob = (y : Int) ∧ x < n ∧ y < n ∧ ∀ W, PK W B hb wb bb n room cmp R ph fl H L fb N G t → B ≤ W.heap.size → Calls Try.prog 15 #[.pointer (some ⟨hb, 0, none⟩), .int .i64 oa, .int .i64 ob, .agg #[.int .i64 ok, .int .i64 (t : Int)]] W fun r W' => r = .returned (.int .i64 0) ∧ Below B W W' ∧ ∃ H', PK W' B hb wb bb n room cmp R ph fl H' (L ++ [⟨x, y, ph x, ok, (t : Int)⟩]) fb N G (t + 1) ∧ KT W W') ∨
    (∃ (z : Int) (fl' : Nat → Int), z ≠ 0 ∧ ((oa < 0 ∨ (n : Int) ≤ oa) ∨ ∃ x : Nat, x < n ∧ oa = (x : Int) ∧ fl' x ≠ 0) ∧ ∀ W, PK W B hb wb bb n room cmp R ph fl H L fb N G t → B ≤ W.heap.size → Calls Try.prog 15 #[.pointer (some ⟨hb, 0, none⟩), .int .i64 oa, .int .i64 ob, .agg #[.int .i64 ok, .int .i64 (t : Int)]] W fun r W' => r = .returned (.int .i64 z) ∧ Below B W W' ∧ PK W' B hb wb bb n room cmp R ph fl' H L fb N G (t + 1) ∧ KT W W') := by
  rcases who oa n with hx | ⟨x, hx, rfl⟩
  · refine .inr ⟨91, fl, by decide, .inl hx, fun W h hB => ?_⟩
    exact (send_no oa ob ok (t : Int) hx W h.mp.fat).mono fun r W' ⟨k1, k2, k3⟩ => ⟨k1, k3.mono hB, h.next k2 hre.up⟩
  have hp : 0 ≤ ph x ∧ ph x < 4611686018427387904 := ⟨hre.lo x hx, by have := hre.hi x hx; omega⟩
  by_cases hf : fl x = 0
  case neg =>
    refine .inr ⟨fl x, fl, hf, .inr ⟨x, hx, rfl, hf⟩, fun W h hB => ?_⟩
    exact (send_failed x ob ok (t : Int) hx hf W h.mp.fat).mono fun r W' ⟨k1, k2, k3⟩ => ⟨k1, k3.mono hB, h.next k2 hre.up⟩
  case pos =>
  rcases who ob n with hy | ⟨y, hy, rfl⟩
  · refine .inr ⟨91, fun i => if i = x then 91 else fl i, by decide, .inr ⟨x, hx, rfl, by simp⟩, fun W h hB => ?_⟩
    exact (send_who x ob ok (t : Int) hx hy hf W h.mp.fat hB).mono fun r W' ⟨k1, k2, k3⟩ => ⟨k1, k3, h.next k2 hre.up⟩
  have hrm := hre.rm x y (par (ph x))
  by_cases hrr : ((H x y (par (ph x))).l : Int) = room
  · refine .inr ⟨90, fun i => if i = x then 90 else fl i, by decide, .inr ⟨x, hx, rfl, by simp⟩, fun W h hB => ?_⟩
    exact (send_full x y ok (t : Int) hx hy hp hf W h.mp.fat hB hrr).mono fun r W' ⟨k1, k2, k3⟩ => ⟨k1, k3, h.next k2 hre.up⟩
  · refine .inl ⟨x, y, rfl, rfl, hx, hy, fun W h hB => ?_⟩
    exact (send_put x y ok (t : Int) hx hy hp hf W h.mp.fat hB hrr (by omega)).mono fun r W' ⟨k1, ⟨q, c, k2⟩, k3⟩ => ⟨k1, k3, _, h.next k2 (hre.send x y hx hy q c ok hrr)⟩
theorem flip_pk (hn : n ≤ 64) (ht : t ≤ 1000) (oa : Int) (W : World) (h : PK W B hb wb bb n room cmp R ph fl H L fb N G t) (hB : B ≤ W.heap.size) : Calls Try.prog 16 #[.pointer (some ⟨hb, 0, none⟩), .int .i64 oa] W fun r W' => (∃ z, r = .returned (.int .i64 z)) ∧ Below B W W' ∧ ∃ ph', PK W' B hb wb bb n room cmp R ph' fl H L fb N G (t + 1) ∧ KT W W' := by
  have hre := h.re
  rcases who oa n with hx | ⟨x, hx, rfl⟩
  · exact (flip_no oa hx W h.mp).mono fun r W' ⟨k1, k2⟩ => ⟨⟨_, k1⟩, by rw [k2]; exact Below.refl _ _, ph, by rw [k2]; exact ⟨⟨h.mp, hre.up, h.fo⟩, KT.refl _⟩⟩
  have hp : 0 ≤ ph x ∧ ph x < 4611686018427387904 := ⟨hre.lo x hx, by have := hre.hi x hx; omega⟩
  refine (flip_any x hx hn hp W h.mp.fat hB).mono fun r W' ⟨h1, h2⟩ => ?_
  rcases h2 with ⟨_, h3, h4⟩ | ⟨_, _, h3, h4⟩ | ⟨_, h5, h3, h4⟩
  · exact ⟨⟨_, h3⟩, h1, ph, h.next h4 hre.up⟩
  · exact ⟨⟨_, h3⟩, h1, ph, h.next h4 hre.up⟩
  · exact ⟨⟨_, h3⟩, h1, _, h.next h4 (hre.flip hx h5)⟩
theorem drop_pk (hn : n ≤ 64) (ht : t ≤ 1000) (hre : RE n room ph H L t) (oa : Int) :
    (∃ x : Nat, oa = (x : Int) ∧ x < n ∧ ∀ W, PK W B hb wb bb n room cmp R ph fl H L fb N G t → B ≤ W.heap.size → Calls Try.prog 18 #[.pointer (some ⟨hb, 0, none⟩), .int .i64 oa] W fun r W' => r = .returned (.tuple #[.int .i64 ((L.countP (dq x (ph x)) : Nat) : Int), .int .i64 0]) ∧ Below B W W' ∧ ∃ fl' H', PK W' B hb wb bb n room cmp R ph fl' H' (L.filter fun l => !dq x (ph x) l) fb N G (t + 1) ∧ KT W W') ∨
    ((oa < 0 ∨ (n : Int) ≤ oa) ∧ ∀ W, PK W B hb wb bb n room cmp R ph fl H L fb N G t → Calls Try.prog 18 #[.pointer (some ⟨hb, 0, none⟩), .int .i64 oa] W fun r W' => r = .returned (.tuple #[.int .i64 0, .int .i64 91]) ∧ W' = W) := by
  rcases who oa n with hx | ⟨x, hx, rfl⟩
  · exact .inr ⟨hx, fun W h => drop_no oa hx W h.mp⟩
  have hp : 0 ≤ ph x ∧ ph x < 4611686018427387904 := ⟨hre.lo x hx, by have := hre.hi x hx; omega⟩
  refine .inl ⟨x, rfl, hx, fun W h hB => ?_⟩
  refine (drop_any x hx hn hp W h.mp.fat hB).mono fun r W' ⟨k3, k4, k5⟩ => ⟨?_, k3, _, _, h.next k5 (hre.drop hx)⟩
  rw [k4, hre.dropN hx]
theorem drain_pk (hn : n ≤ 64) (ht : t ≤ 1000) (hre : RE n room ph H L t) {lt : Int × Int → Int × Int → Bool} (hso : Sorts cmp lt (fun _ => False) (fun _ => True)) (oa : Int) :
    (∃ x : Nat, oa = (x : Int) ∧ x < n ∧ ∀ W, PK W B hb wb bb n room cmp R ph fl H L fb N G t → B ≤ W.heap.size → Calls Try.prog 17 #[.pointer (some ⟨hb, 0, none⟩), .int .i64 oa] W fun r W' => ∃ g S d H', r = .returned (.tuple #[.slice (some ⟨g, 0, none⟩) S S, .int .i64 0]) ∧ Own W' B 31 2 (.slice (some ⟨g, 0, none⟩) S S) S (thF d) ∧ S ≤ 65536 ∧ Below B W W' ∧ (PK W' B hb wb bb n room cmp R ph fl H' ((L.filter fun l => !mq x (ph x - 1) l)) fb N G (t + 1) ∧ KT W W') ∧ (∀ v, (∃ p, p < S ∧ d p = v) ↔ ∃ l, l ∈ L.filter (mq x (ph x - 1)) ∧ kv l = v) ∧ ∀ p q, p < S → q < S → p ≠ q → (d p).2 ≠ (d q).2) ∨
    (∃ z : Int, z ≠ 0 ∧ ∀ W, PK W B hb wb bb n room cmp R ph fl H L fb N G t → B ≤ W.heap.size → Calls Try.prog 17 #[.pointer (some ⟨hb, 0, none⟩), .int .i64 oa] W fun r W' => r = .returned (.tuple #[.slice none 0 0, .int .i64 z]) ∧ Below B W W' ∧ PK W' B hb wb bb n room cmp R ph fl H L fb N G (t + 1) ∧ KT W W') := by
  rcases who oa n with hx | ⟨x, hx, rfl⟩
  · exact .inr ⟨91, by decide, fun W h hB => (drain_no oa hx W h.mp).mono fun r W' ⟨k1, k2⟩ => ⟨k1, by rw [k2]; exact Below.refl _ _, by rw [k2]; exact ⟨⟨h.mp, hre.up, h.fo⟩, KT.refl _⟩⟩⟩
  have hp : 0 ≤ ph x ∧ ph x < 4611686018427387904 := ⟨hre.lo x hx, by have := hre.hi x hx; omega⟩
  by_cases hl : Low ph n x
  · exact .inr ⟨92, by decide, fun W h hB => (drain_low x hx hn hl W h.mp.fat).mono fun r W' ⟨k1, k2, k3⟩ => ⟨k1, k3.mono hB, h.next k2 hre.up⟩⟩
  · refine .inl ⟨x, rfl, hx, fun W h hB => ?_⟩
    obtain ⟨S, hS⟩ : ∃ S, sm (gln H x (par (ph x - 1)) (dueJ ph n x)) (dueN ph n x) = S := ⟨_, rfl⟩
    have hS6 : S ≤ 65536 := by
      have h1 := sm_le (gln H x (par (ph x - 1)) (dueJ ph n x)) 1024 (fun j => h.mp.s _ _ _) (dueN ph n x)
      have h2 := dueI_len ph x n
      unfold dueN at h1 hS
      omega
    refine (drain_ok x hx hn hp hl W h.mp.fat hB hso (fun k hk => hk.elim) (fun _ _ => trivial) _ _ _ _ rfl rfl rfl hS).mono fun r W' ⟨g, d, k1, k2, k3, k4, k5, k6, k7, k8⟩ => ⟨g, S, d, _, k1, k3, hS6, below_of k7, h.next k6 (hre.drain hl), (hre.given hx hl hS k4).1, (hre.given hx hl hS k4).2⟩
/-- what the fates say of those that came -/
theorem FR.dg (hf : FR L G N t) {S : Nat} {d : Nat → Int × Int} (x : Nat) (z : Int) (hd : ∀ v, (∃ p, p < S ∧ d p = v) ↔ ∃ l, l ∈ L.filter (mq x z) ∧ kv l = v) (hne : ∀ p q, p < S → q < S → p ≠ q → (d p).2 ≠ (d q).2) : DG G d N S (x : Int) z := by
  refine ⟨fun i hi => ?_, hne⟩
  obtain ⟨l, h1, h2⟩ := (hd (d i)).1 ⟨i, hi, rfl⟩
  have h3 := List.mem_filter.1 h1
  obtain ⟨h4, h5, h6⟩ := hf.sv l h3.1
  obtain ⟨s, hs⟩ : ∃ s : Nat, l.m = (s : Int) := ⟨l.m.toNat, by omega⟩
  obtain ⟨e1, e2, e3⟩ := h6 s hs
  have h7 := (hf.ly s).2 ⟨l, h3.1, hs⟩
  have h8 := h3.2
  simp only [mq, Bool.and_eq_true, beq_iff_eq] at h8
  simp only [lyB, Bool.and_eq_true, Bool.not_eq_true', beq_iff_eq] at h7
  exact ⟨s, by rw [← h2]; exact hs, by omega, h7.1.1, h7.1.2, by rw [e2]; exact h8.1, by rw [e3]; exact h8.2, h7.2⟩
theorem cntF_zero (P : Ft → Bool) (G : Nat → Ft) (h : ∀ s, P (G s) = false) : ∀ n, cntF P G n = 0
  | 0 => rfl
  | n + 1 => by rw [cntF_no (h n)]; exact cntF_zero P G h n
theorem lyP_ly {a b lo hi : Int} {g : Ft} (h : lyP a b lo hi g = true) : lyB g = true := by
  unfold lyP at h
  simp only [Bool.and_eq_true] at h
  exact h.1
theorem lyP_eq {a b lo hi : Int} {g : Ft} (h : lyB g = true) : lyP a b lo hi g = ((decide (a < 0) || (g.f == a)) && ((decide (b < 0) || (g.t == b)) && (decide (lo ≤ g.p) && decide (g.p ≤ hi)))) := by
  unfold lyP
  rw [h, Bool.true_and]
/-- nothing is left behind -/
theorem FR.left {x : Nat} {z : Int} (hf : FR (L.filter fun l => !mq x z l) G N t) (hi : L.Pairwise fun a b => a.m < b.m) : cntF (lyP (-1) (x : Nat) z z) G N = 0 := by
  rw [hf.count (hi.filter _) _ (mq x z) (fun g => lyP_ly) (fun l hl s hs => ?_), List.countP_eq_zero]
  · intro l hl
    have := (List.mem_filter.1 hl).2
    simpa using this
  · rw [lyP_eq ((hf.ly s).2 ⟨l, hl, hs⟩)]
    obtain ⟨e1, e2, e3⟩ := (hf.sv l hl).2.2 s hs
    rw [e2, e3, Bool.eq_iff_iff]
    simp only [mq, Bool.and_eq_true, Bool.or_eq_true, beq_iff_eq, decide_eq_true_eq]
    constructor
    · rintro ⟨_, h2, h3, h4⟩; exact ⟨by omega, by omega⟩
    · rintro ⟨h2, h3⟩; exact ⟨.inl (by decide), .inr h2, by omega, by omega⟩
theorem FR.dropC (hf : FR L G N t) (hi : L.Pairwise fun a b => a.m < b.m) (x : Nat) (z : Int) : cntF (lyP (x : Nat) (-1) z z) G N = L.countP (dq x z) := by
  refine hf.count hi _ _ (fun g => lyP_ly) (fun l hl s hs => ?_)
  rw [lyP_eq ((hf.ly s).2 ⟨l, hl, hs⟩)]
  obtain ⟨e1, e2, e3⟩ := (hf.sv l hl).2.2 s hs
  rw [e1, e3, Bool.eq_iff_iff]
  simp only [dq, Bool.and_eq_true, Bool.or_eq_true, beq_iff_eq, decide_eq_true_eq]
  constructor
  · rintro ⟨h1, _, h3, h4⟩; exact ⟨by omega, by omega⟩
  · rintro ⟨h2, h3⟩; exact ⟨.inr h2, .inl (by decide), by omega, by omega⟩
theorem FR.waitC (hf : FR L G N t) (hre : RE n room ph H L t) (ht : t ≤ 1000) (x : Nat) : cntF (lyP (-1) (x : Nat) 0 1152921504606846976) G N = L.countP (cm (-1) x (-1)) := by
  refine hf.count hre.inc _ _ (fun g => lyP_ly) (fun l hl s hs => ?_)
  rw [lyP_eq ((hf.ly s).2 ⟨l, hl, hs⟩)]
  obtain ⟨e1, e2, e3⟩ := (hf.sv l hl).2.2 s hs
  obtain ⟨o1, _, o3, o4⟩ := hre.own l hl
  have o5 := hre.hi l.f o1
  rw [e2, e3, Bool.eq_iff_iff]
  simp only [cm, Bool.and_eq_true, Bool.or_eq_true, beq_iff_eq, decide_eq_true_eq]
  constructor
  · rintro ⟨_, h2, _⟩; exact ⟨⟨.inl (by decide), by omega⟩, .inl trivial⟩
  · rintro ⟨⟨_, h2⟩, _⟩; exact ⟨.inl (by decide), by omega, by omega, by omega⟩
theorem FR.noneC (hf : FR L G N t) (a : Int) : cntF (lyP a (-1) (-1) (-1)) G N = 0 := by
  refine cntF_zero _ _ (fun s => ?_) N
  have := hf.p0 s
  unfold lyP
  rw [show decide ((G s).p ≤ -1) = false by simp; omega]
  simp
end Go.Proofs.Ytkfjcbnhohipgaa
