import Derived.Test.YtkfjcbnhohipgaaMD7
import Derived.Test.YtkfjcbnhohipgaaMC4
import Derived.BigQuiet
import Derived.Deep.RegionLaw
import Derived.Deep.RegionHeld3
import Derived.Deep.Cut
import Derived.Deep.DeepCutAuto
import Derived.Deep.CutBlock
import Derived.Deep.CutRange
import Derived.Deep.AppendLies
import Derived.Handy
import Derived.Lib.RabinKarpLaws
namespace Go.Proofs.Ytkfjcbnhohipgaa
open Go.ChangeShapes Go.WideShapes Go.ChangeAt Go.RowKit
set_option linter.unusedVariables false
set_option linter.unusedSimpArgs false


def hls (f : Hf) : List (Int × Int) := (List.range f.l).map f.k
theorem hls_len (f : Hf) : (hls f).length = f.l := by simp [hls]
def bq (i j e : Nat) (l : Lt) : Bool := (l.f == i) && (l.t == j) && (par l.p == e)
def kv (l : Lt) : Int × Int := (l.k, l.m)
structure RE (n : Nat) (room : Int) (ph : Nat → Int) (H : Nat → Nat → Nat → Hf) (L : List Lt) (t : Nat) : Prop where
  hl : ∀ i j e, i < n → j < n → e < 2 → hls (H i j e) = (L.filter (bq i j e)).map kv
  inc : L.Pairwise fun a b => a.m < b.m
  lim : ∀ l ∈ L, l.m < (t : Int)
  own : ∀ l ∈ L, l.f < n ∧ l.t < n ∧ 0 ≤ l.p ∧ (l.p = ph l.f ∨ l.p = ph l.f - 1)
  lo : ∀ i, i < n → 0 ≤ ph i
  hi : ∀ i, i < n → ph i ≤ t
  rm : ∀ i j k, ((H i j k).l : Int) ≤ room
  len : L.length ≤ t
variable {n : Nat} {room : Int} {ph : Nat → Int} {H : Nat → Nat → Nat → Hf} {L : List Lt} {t : Nat}
theorem RE.up (h : RE n room ph H L t) : RE n room ph H L (t + 1) := ⟨h.hl, h.inc, fun l hl => by have := h.lim l hl; omega, h.own, h.lo, fun i hi => by have := h.hi i hi; omega, h.rm, Nat.le_succ_of_le h.len⟩
theorem RE.cnt (h : RE n room ph H L t) {i j e : Nat} (hi : i < n) (hj : j < n) (he : e < 2) : (H i j e).l = L.countP (bq i j e) := by
  rw [← hls_len, h.hl i j e hi hj he, List.length_map, List.countP_eq_length_filter]
theorem RE.ppos (h : RE n room ph H L t) {x : Nat} (hx : x < n) : 0 ≤ ph x ∧ ph x < 4611686018427387904 ∨ 1000 < t := by
  have h1 := h.lo x hx
  have h2 := h.hi x hx
  omega
theorem par_lt (p : Int) : par p < 2 := by have := par_le p; omega
/-- of a sender's letters, the half tells the phase -/
theorem RE.half (h : RE n room ph H L t) {l : Lt} (hl : l ∈ L) : (par l.p = par (ph l.f) ↔ l.p = ph l.f) ∧ (par l.p = par (ph l.f - 1) ↔ l.p = ph l.f - 1) := by
  obtain ⟨_, _, _, h1⟩ := h.own l hl
  have hn := par_ne (ph l.f)
  rcases h1 with h1 | h1
  · rw [h1]; exact ⟨⟨fun _ => rfl, fun _ => rfl⟩, fun e => absurd e.symm hn, fun e => by omega⟩
  · rw [h1]; exact ⟨⟨fun e => absurd e hn, fun e => by omega⟩, fun _ => rfl, fun _ => rfl⟩
theorem RE.scount (h : RE n room ph H L t) {x y : Nat} (hx : x < n) (hy : y < n) : ((H x y (par (ph x))).l) = L.countP (cm x y (ph x)) := by
  rw [h.cnt hx hy (par_lt _)]
  refine List.countP_congr fun l hl => ?_
  have h1 := (h.half hl).1
  have h0 := h.lo x hx
  simp only [bq, cm, Bool.and_eq_true, Bool.or_eq_true, beq_iff_eq, decide_eq_true_eq]
  constructor
  · rintro ⟨⟨e1, e2⟩, e3⟩
    subst e1
    exact ⟨⟨.inr (by omega), .inr (by omega)⟩, .inr (h1.1 e3)⟩
  · rintro ⟨⟨e1, e2⟩, e3⟩
    have e4 : l.f = x := by omega
    have e5 : l.t = y := by omega
    subst e4
    exact ⟨⟨rfl, e5⟩, h1.2 (by omega)⟩
theorem hls_more (f : Hf) (q : Option Addr) (c : Nat) (a b : Int) : hls (more f q c a b) = hls f ++ [(a, b)] := by
  unfold hls more
  simp only [List.range_succ, List.map_append, List.map_cons, List.map_nil, if_pos]
  congr 1
  refine List.map_congr_left fun i hi => ?_
  rw [if_neg (by have := List.mem_range.1 hi; omega)]
theorem RE.send (h : RE n room ph H L t) (x y : Nat) (hx : x < n) (hy : y < n) (q : Option Addr) (c : Nat) (a : Int) (hr : ((H x y (par (ph x))).l : Int) ≠ room) : RE n room ph (setHf H x y (par (ph x)) (more (H x y (par (ph x))) q c a (t : Int))) (L ++ [⟨x, y, ph x, a, (t : Int)⟩]) (t + 1) := by
  refine ⟨fun i j e hi hj he => ?_, ?_, fun l hl => ?_, fun l hl => ?_, h.lo, fun i hi => by have := h.hi i hi; omega, fun i j k => ?_, ?_⟩
  · rw [List.filter_append, List.map_append]
    by_cases e1 : i = x ∧ j = y ∧ e = par (ph x)
    · obtain ⟨rfl, rfl, rfl⟩ := e1
      rw [setHf_at, hls_more, h.hl i j _ hi hj he]
      simp [bq, kv]
    · rw [setHf_ne _ _ _ _ _ e1, h.hl i j e hi hj he]
      have : bq i j e ⟨x, y, ph x, a, (t : Int)⟩ = false := by
        simp only [bq, Bool.and_eq_false_iff, beq_eq_false_iff_ne, ne_eq]
        by_cases e2 : x = i
        · by_cases e3 : y = j
          · right; intro e4; exact e1 ⟨e2.symm, e3.symm, e4.symm⟩
          · left; right; exact e3
        · left; left; exact e2
      simp [this]
  · rw [List.pairwise_append]
    refine ⟨h.inc, by simp, fun l hl l' hl' => ?_⟩
    simp at hl'
    subst hl'
    exact h.lim l hl
  · rw [List.mem_append] at hl
    rcases hl with hl | hl
    · have := h.lim l hl; omega
    · simp at hl; subst hl; show (t : Int) < ((t + 1 : Nat) : Int); omega
  · rw [List.mem_append] at hl
    rcases hl with hl | hl
    · exact h.own l hl
    · simp at hl; subst hl; exact ⟨hx, hy, h.lo x hx, .inl rfl⟩
  · by_cases e : i = x ∧ j = y ∧ k = par (ph x)
    · obtain ⟨rfl, rfl, rfl⟩ := e
      rw [setHf_at]
      have := h.rm i j (par (ph i))
      show (((H i j (par (ph i))).l + 1 : Nat) : Int) ≤ room
      omega
    · rw [setHf_ne _ _ _ _ _ e]
      exact h.rm i j k
  · rw [List.length_append, List.length_singleton]
    have := h.len
    omega
theorem RE.pos (h : RE n room ph H L t) {i j e : Nat} (hi : i < n) (hj : j < n) (he : e < 2) : 0 < (H i j e).l ↔ ∃ l, l ∈ L ∧ l.f = i ∧ l.t = j ∧ par l.p = e := by
  rw [h.cnt hi hj he, List.countP_pos_iff]
  constructor
  · rintro ⟨l, h1, h2⟩
    simp only [bq, Bool.and_eq_true, beq_iff_eq] at h2
    exact ⟨l, h1, h2.1.1, h2.1.2, h2.2⟩
  · rintro ⟨l, h1, h2, h3, h4⟩
    exact ⟨l, h1, by simp [bq, h2, h3, h4]⟩
theorem RE.flipP (h : RE n room ph H L t) {x : Nat} (hx : x < n) : (Low ph n x ∨ sentP H n x (ph x - 1) ∨ dueP H ph n x) ↔ rfP L ph n x := by
  unfold rfP
  by_cases hl : Low ph n x
  · exact ⟨fun _ => .inl hl, fun _ => .inl hl⟩
  have hs : sentP H n x (ph x - 1) ↔ ∃ l, l ∈ L ∧ l.f = x ∧ l.p = ph x - 1 := by
    constructor
    · rintro ⟨j, hj, h1⟩
      obtain ⟨l, h2, h3, h4, h5⟩ := (h.pos hx hj (par_lt _)).1 h1
      refine ⟨l, h2, h3, ?_⟩
      subst h3
      exact (h.half h2).2.1 h5
    · rintro ⟨l, h2, h3, h4⟩
      obtain ⟨_, ht, _, _⟩ := h.own l h2
      exact ⟨l.t, ht, (h.pos hx ht (par_lt _)).2 ⟨l, h2, h3, rfl, by rw [h4]⟩⟩
  have hd : dueP H ph n x ↔ ∃ l, l ∈ L ∧ l.t = x ∧ l.p = ph x - 1 := by
    constructor
    · rintro ⟨i, hi, he, h1⟩
      obtain ⟨l, h2, h3, h4, h5⟩ := (h.pos hi hx (par_lt _)).1 h1
      refine ⟨l, h2, h4, ?_⟩
      subst h3
      rw [← he] at h5 ⊢
      exact (h.half h2).2.1 h5
    · rintro ⟨l, h2, h3, h4⟩
      obtain ⟨hf, _, _, h5⟩ := h.own l h2
      have h6 : ph l.f = ph x := by
        rcases h5 with h5 | h5
        · exact absurd ⟨l.f, hf, by omega⟩ hl
        · omega
      exact ⟨l.f, hf, h6, (h.pos hf hx (par_lt _)).2 ⟨l, h2, rfl, h3, by rw [h4]⟩⟩
  have c1 : 0 < ph x → (0 < L.countP (cm x (-1) (ph x - 1)) ↔ ∃ l, l ∈ L ∧ l.f = x ∧ l.p = ph x - 1) := fun h0 => by
    rw [List.countP_pos_iff]
    constructor
    · rintro ⟨l, h1, h2⟩
      simp only [cm, Bool.and_eq_true, Bool.or_eq_true, beq_iff_eq, decide_eq_true_eq] at h2
      exact ⟨l, h1, by omega, by omega⟩
    · rintro ⟨l, h1, h2, h3⟩
      refine ⟨l, h1, ?_⟩
      simp only [cm, Bool.and_eq_true, Bool.or_eq_true, beq_iff_eq, decide_eq_true_eq]
      exact ⟨⟨.inr (by omega), .inl (by decide)⟩, .inr h3⟩
  have c2 : 0 < ph x → (0 < L.countP (cm (-1) x (ph x - 1)) ↔ ∃ l, l ∈ L ∧ l.t = x ∧ l.p = ph x - 1) := fun h0 => by
    rw [List.countP_pos_iff]
    constructor
    · rintro ⟨l, h1, h2⟩
      simp only [cm, Bool.and_eq_true, Bool.or_eq_true, beq_iff_eq, decide_eq_true_eq] at h2
      exact ⟨l, h1, by omega, by omega⟩
    · rintro ⟨l, h1, h2, h3⟩
      refine ⟨l, h1, ?_⟩
      simp only [cm, Bool.and_eq_true, Bool.or_eq_true, beq_iff_eq, decide_eq_true_eq]
      exact ⟨⟨.inl (by decide), .inr (by omega)⟩, .inr h3⟩
  rw [hs, hd]
  constructor
  · rintro (h1 | ⟨l, h1, h2, h3⟩ | ⟨l, h1, h2, h3⟩)
    · exact absurd h1 hl
    · have h0 : 0 < ph x := by have := (h.own l h1).2.2.1; omega
      exact .inr ⟨h0, .inl ((c1 h0).2 ⟨l, h1, h2, h3⟩)⟩
    · have h0 : 0 < ph x := by have := (h.own l h1).2.2.1; omega
      exact .inr ⟨h0, .inr ((c2 h0).2 ⟨l, h1, h2, h3⟩)⟩
  · rintro (h1 | ⟨h0, h1 | h1⟩)
    · exact absurd h1 hl
    · exact .inr (.inl ((c1 h0).1 h1))
    · exact .inr (.inr ((c2 h0).1 h1))
theorem RE.flip (h : RE n room ph H L t) {x : Nat} (hx : x < n) (hf : ¬ (Low ph n x ∨ sentP H n x (ph x - 1) ∨ dueP H ph n x)) : RE n room (fun i => if i = x then ph x + 1 else ph i) H L (t + 1) := by
  refine ⟨h.hl, h.inc, fun l hl => by have := h.lim l hl; omega, fun l hl => ?_, fun i hi => ?_, fun i hi => ?_, h.rm, Nat.le_succ_of_le h.len⟩
  · obtain ⟨h1, h2, h3, h4⟩ := h.own l hl
    refine ⟨h1, h2, h3, ?_⟩
    show l.p = (if l.f = x then ph x + 1 else ph l.f) ∨ l.p = (if l.f = x then ph x + 1 else ph l.f) - 1
    by_cases e : l.f = x
    · rw [if_pos e]
      rw [e] at h4
      rcases h4 with h4 | h4
      · right; omega
      · exact absurd (.inr (.inl ⟨l.t, h2, (h.pos hx h2 (par_lt _)).2 ⟨l, hl, e, rfl, by rw [h4]⟩⟩)) hf
    · rw [if_neg e]; exact h4
  · have h1 := h.lo i hi
    have h2 := h.lo x hx
    show 0 ≤ if i = x then ph x + 1 else ph i
    split <;> omega
  · have h1 := h.hi i hi
    have h2 := h.hi x hx
    show (if i = x then ph x + 1 else ph i) ≤ ((t + 1 : Nat) : Int)
    split <;> omega
theorem hls_emptied (f : Hf) : hls (emptied f) = [] := rfl
/-- letters are taken out -/
theorem RE.out (h : RE n room ph H L t) (q : Lt → Bool) (H' : Nat → Nat → Nat → Hf) (hle : ∀ i j k, (H' i j k).l ≤ (H i j k).l) (hh : ∀ i j e, i < n → j < n → e < 2 → (H' i j e = H i j e ∧ ∀ l, l ∈ L → bq i j e l = true → q l = false) ∨ (hls (H' i j e) = [] ∧ ∀ l, l ∈ L → bq i j e l = true → q l = true)) : RE n room ph H' (L.filter fun l => !q l) (t + 1) := by
  refine ⟨fun i j e hi hj he => ?_, h.inc.filter _, fun l hl => by have := h.lim l (List.mem_filter.1 hl).1; omega, fun l hl => h.own l (List.mem_filter.1 hl).1, h.lo, fun i hi => by have := h.hi i hi; omega, fun i j k => by have h1 := hle i j k; have h2 := h.rm i j k; omega, Nat.le_succ_of_le (Nat.le_trans (List.length_filter_le _ _) h.len)⟩
  rw [List.filter_filter]
  rcases hh i j e hi hj he with ⟨h1, h2⟩ | ⟨h1, h2⟩
  · rw [h1, h.hl i j e hi hj he]
    congr 1
    refine List.filter_congr fun l hl => ?_
    by_cases hb : bq i j e l = true
    · rw [hb, h2 l hl hb]; rfl
    · have : bq i j e l = false := by simpa using hb
      rw [this]; rfl
  · rw [h1]
    symm
    rw [List.map_eq_nil_iff, List.filter_eq_nil_iff]
    intro l hl
    by_cases hb : bq i j e l = true
    · rw [hb, h2 l hl hb]; simp
    · have : bq i j e l = false := by simpa using hb
      rw [this]; simp
theorem RE.drop (h : RE n room ph H L t) {x : Nat} (hx : x < n) : RE n room ph (dropH H x (par (ph x)) n) (L.filter fun l => !dq x (ph x) l) (t + 1) := by
  refine h.out (dq x (ph x)) _ (dropH_le _ _ _ _) fun i j e hi hj he => ?_
  by_cases e1 : i = x ∧ e = par (ph x)
  · obtain ⟨rfl, rfl⟩ := e1
    refine .inr ⟨?_, fun l hl hb => ?_⟩
    · unfold dropH
      rw [if_pos ⟨rfl, rfl, hj⟩]
      rfl
    · simp only [bq, Bool.and_eq_true, beq_iff_eq] at hb
      obtain ⟨⟨rfl, _⟩, h3⟩ := hb
      simp [dq, (h.half hl).1.1 h3]
  · refine .inl ⟨?_, fun l hl hb => ?_⟩
    · unfold dropH
      rw [if_neg (fun h9 => e1 ⟨h9.1, h9.2.1⟩)]
    · simp only [bq, Bool.and_eq_true, beq_iff_eq] at hb
      obtain ⟨⟨rfl, _⟩, h3⟩ := hb
      simp only [dq, Bool.and_eq_false_iff, beq_eq_false_iff_ne, ne_eq]
      by_cases e2 : l.f = x
      · right
        intro e3
        subst e2
        exact e1 ⟨rfl, by rw [← h3, e3]⟩
      · left; omega
theorem sm_countP (q : Nat → Lt → Bool) (r : Lt → Bool) (n : Nat) : ∀ L : List Lt, (∀ l ∈ L, sm (fun j => if q j l = true then 1 else 0) n = if r l = true then 1 else 0) → sm (fun j => L.countP (q j)) n = L.countP r
  | [], _ => by
    have : ∀ k, sm (fun j => List.countP (q j) []) k = 0 := fun k => by
      induction k with
      | zero => rfl
      | succ k ih => show sm _ k + 0 = 0; rw [ih]
    rw [this]; rfl
  | l :: L, h => by
    have ih := sm_countP q r n L fun l' hl' => h l' (List.mem_cons_of_mem _ hl')
    have h1 := h l (List.mem_cons_self ..)
    have key : ∀ k, sm (fun j => List.countP (q j) (l :: L)) k = sm (fun j => L.countP (q j)) k + sm (fun j => if q j l = true then 1 else 0) k := fun k => by
      induction k with
      | zero => rfl
      | succ k ihk =>
        show sm _ k + List.countP (q k) (l :: L) = (sm _ k + L.countP (q k)) + (sm _ k + if q k l = true then 1 else 0)
        rw [ihk, List.countP_cons]
        omega
    rw [key, ih, h1, List.countP_cons]
theorem sm_one (c : Nat) (b : Bool) : ∀ n, sm (fun j => if (b && (c == j)) = true then 1 else 0) n = if (b && decide (c < n)) = true then 1 else 0
  | 0 => by cases b <;> rfl
  | n + 1 => by
    show sm _ n + _ = _
    rw [sm_one c b n]
    cases b
    · simp
    · simp only [Bool.true_and, beq_iff_eq, decide_eq_true_eq]
      by_cases e : c = n
      · subst e; simp
      · rw [if_neg e]
        by_cases e2 : c < n
        · rw [if_pos e2, if_pos (by omega)]
        · rw [if_neg e2, if_neg (by omega)]
theorem sm_congr (f g : Nat → Nat) : ∀ n, (∀ i, i < n → f i = g i) → sm f n = sm g n
  | 0, _ => rfl
  | n + 1, h => by
    show sm f n + f n = sm g n + g n
    rw [sm_congr f g n fun i hi => h i (by omega), h n (by omega)]
theorem RE.dropN (h : RE n room ph H L t) {x : Nat} (hx : x < n) : sm (fun j => (H x j (par (ph x))).l) n = L.countP (dq x (ph x)) := by
  rw [sm_congr _ (fun j => L.countP (bq x j (par (ph x)))) n fun j hj => h.cnt hx hj (par_lt _)]
  refine sm_countP _ _ n L fun l hl => ?_
  have h1 : ∀ j, bq x j (par (ph x)) l = (dq x (ph x) l && (l.t == j)) := fun j => by
    rw [Bool.eq_iff_iff]
    simp only [bq, dq, Bool.and_eq_true, beq_iff_eq]
    constructor
    · rintro ⟨⟨rfl, h3⟩, h4⟩
      exact ⟨⟨by omega, (h.half hl).1.1 h4⟩, h3⟩
    · rintro ⟨⟨h2, h3⟩, h4⟩
      have h5 : l.f = x := by omega
      subst h5
      exact ⟨⟨rfl, h4⟩, (h.half hl).1.2 h3⟩
  simp only [h1]
  rw [sm_one, show decide (l.t < n) = true by simpa using (h.own l hl).2.1, Bool.and_true]
theorem RE.waitN (h : RE n room ph H L t) {x : Nat} (hx : x < n) : sm (fun i => (H i x 0).l + (H i x 1).l) n = L.countP (cm (-1) x (-1)) := by
  rw [sm_congr _ (fun i => L.countP (fun l => (l.t == x) && (l.f == i))) n fun i hi => ?_]
  · refine sm_countP _ _ n L fun l hl => ?_
    have h1 : cm (-1) x (-1) l = (l.t == x) := by
      rw [Bool.eq_iff_iff]
      simp only [cm, Bool.and_eq_true, Bool.or_eq_true, beq_iff_eq, decide_eq_true_eq]
      constructor
      · rintro ⟨⟨_, h2⟩, _⟩; omega
      · intro h2; exact ⟨⟨.inl (by decide), .inr (by omega)⟩, .inl trivial⟩
    rw [sm_one, h1, show decide (l.f < n) = true by simpa using (h.own l hl).1, Bool.and_true]
  · rw [h.cnt hi hx (by decide), h.cnt hi hx (by decide)]
    have key : ∀ L : List Lt, L.countP (bq i x 0) + L.countP (bq i x 1) = L.countP (fun l => (l.t == x) && (l.f == i)) := fun L => by
      induction L with
      | nil => rfl
      | cons l L ih =>
        rw [List.countP_cons, List.countP_cons, List.countP_cons]
        have hp := par_lt l.p
        have h3 : (if bq i x 0 l = true then 1 else 0) + (if bq i x 1 l = true then 1 else 0) = if ((l.t == x) && (l.f == i)) = true then 1 else 0 := by
          unfold bq
          rcases (by omega : par l.p = 0 ∨ par l.p = 1) with e | e
          · rw [e]; simp [and_comm]
          · rw [e]; simp [and_comm]
        omega
    exact key L
theorem RE.new (n : Nat) (room : Int) (hr : 0 ≤ room) : RE n room (fun _ => 0) noH [] 0 := ⟨fun _ _ _ _ _ _ => rfl, List.Pairwise.nil, fun l hl => (by cases hl), fun l hl => (by cases hl), fun _ _ => Int.le_refl _, fun _ _ => Int.le_refl _, fun _ _ _ => hr, Nat.le_refl _⟩
end Go.Proofs.Ytkfjcbnhohipgaa
