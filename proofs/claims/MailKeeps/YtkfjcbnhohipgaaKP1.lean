import Derived.Test.YtkfjcbnhohipgaaME2
import Derived.BigQuiet
import Derived.Deep.RegionLaw
import Derived.Deep.RegionHeld3
import Derived.Deep.Cut
import Derived.Deep.DeepCutAuto
import Derived.Deep.CutBlock
import Derived.Deep.CutRange
import Derived.Deep.AppendLies
import Derived.Handy
import Derived.Lib.RabinKarpLaws
namespace Go.Proofs.Ytkfjcbnhohipgaa
open Go.ChangeShapes Go.WideShapes Go.ChangeAt Go.RowKit
set_option linter.unusedVariables false
set_option linter.unusedSimpArgs false


/-- a fate -/
structure Ft where
  f : Int
  t : Int
  p : Int
  s : Bool
  b : Bool
  c : Int
def ft0 : Ft := ⟨0, 0, 0, false, false, 0⟩
def ftV (g : Ft) (r : Nat) : Value := if r = 0 then .int .i64 g.f else if r = 1 then .int .i64 g.t else if r = 2 then .int .i64 g.p else if r = 3 then .bool g.s else if r = 4 then .bool g.b else .int .i64 g.c
def ftF (G : Nat → Ft) (j : Nat) : Value := ftV (G (j / 6)) (j % 6)
theorem ftF_at (G : Nat → Ft) (i r : Nat) (hr : r < 6) : ftF G (i * 6 + r) = ftV (G i) r := by
  unfold ftF
  rw [show (i * 6 + r) / 6 = i by omega, show (i * 6 + r) % 6 = r by omega]
theorem ftc {W : World} {base g m c : Nat} {G : Nat → Ft} (h : Own W base 56 6 (.slice (some ⟨g, 0, none⟩) m c) m (ftF G)) {i : Nat} (hi : i < m) : W.cell? ⟨g, i * 6, none⟩ = some (.int .i64 (G i).f) ∧ W.cell? ⟨g, i * 6 + 1, none⟩ = some (.int .i64 (G i).t) ∧ W.cell? ⟨g, i * 6 + 2, none⟩ = some (.int .i64 (G i).p) ∧ W.cell? ⟨g, i * 6 + 3, none⟩ = some (.bool (G i).s) ∧ W.cell? ⟨g, i * 6 + 4, none⟩ = some (.bool (G i).b) ∧ W.cell? ⟨g, i * 6 + 5, none⟩ = some (.int .i64 (G i).c) := by
  have a : ∀ r, r < 6 → W.cell? ⟨g, i * 6 + r, none⟩ = some (ftV (G i) r) := fun r hr => by rw [h.cell (j := i * 6 + r) (by omega), ftF_at G i r hr]
  exact ⟨a 0 (by decide), a 1 (by decide), a 2 (by decide), a 3 (by decide), a 4 (by decide), a 5 (by decide)⟩
def setG (G : Nat → Ft) (i : Nat) (g : Ft) : Nat → Ft := fun j => if j = i then g else G j
theorem setG_at (G : Nat → Ft) (i : Nat) (g : Ft) : setG G i g i = g := if_pos rfl
theorem setG_ne (G : Nat → Ft) {i j : Nat} (g : Ft) (h : j ≠ i) : setG G i g j = G j := if_neg h
def lyB (g : Ft) : Bool := g.s && !g.b && (g.c == 0)
def lyP (a b lo hi : Int) (g : Ft) : Bool := lyB g && ((decide (a < 0) || (g.f == a)) && ((decide (b < 0) || (g.t == b)) && (decide (lo ≤ g.p) && decide (g.p ≤ hi))))
def one (b : Bool) : Nat := if b = true then 1 else 0
def cntF (P : Ft → Bool) (G : Nat → Ft) (n : Nat) : Nat := sm (fun s => one (P (G s))) n
structure FR (L : List Lt) (G : Nat → Ft) (N t : Nat) : Prop where
  z : ∀ s, t ≤ s → G s = ft0
  ly : ∀ s : Nat, lyB (G s) = true ↔ ∃ l, l ∈ L ∧ l.m = (s : Int)
  sv : ∀ l, l ∈ L → 0 ≤ l.m ∧ l.m < (N : Int) ∧ ∀ s : Nat, l.m = (s : Int) → (G s).f = (l.f : Int) ∧ (G s).t = (l.t : Int) ∧ (G s).p = l.p
  p0 : ∀ s, 0 ≤ (G s).p
theorem count_one (Q : Lt → Bool) (s : Nat) : ∀ L : List Lt, (L.Pairwise fun a b => a.m < b.m) → (∀ l ∈ L, 0 ≤ l.m) → L.countP (fun l => Q l && (l.m.toNat == s)) = one (L.any fun l => Q l && (l.m.toNat == s))
  | [], _, _ => rfl
  | a :: L, hp, h0 => by
    have ih := count_one Q s L (List.pairwise_cons.1 hp).2 fun l hl => h0 l (List.mem_cons_of_mem _ hl)
    rw [List.countP_cons, List.any_cons, ih]
    cases ha : (Q a && (a.m.toNat == s)) with
    | false => simp [one]
    | true =>
      have : (L.any fun l => Q l && (l.m.toNat == s)) = false := by
        rw [List.any_eq_false]
        intro l hl h1
        have h2 := (List.pairwise_cons.1 hp).1 l hl
        have h3 := h0 a (List.mem_cons_self ..)
        simp only [Bool.and_eq_true, beq_iff_eq] at ha h1
        omega
      rw [this]
      simp [one]
theorem FR.count {L : List Lt} {G : Nat → Ft} {N t : Nat} (h : FR L G N t) (hi : L.Pairwise fun a b => a.m < b.m) (P : Ft → Bool) (Q : Lt → Bool) (hP : ∀ g, P g = true → lyB g = true) (hQ : ∀ l, l ∈ L → ∀ s : Nat, l.m = (s : Int) → P (G s) = Q l) : cntF P G N = L.countP Q := by
  rw [← sm_countP (fun s l => Q l && (l.m.toNat == s)) Q N L fun l hl => ?_]
  · unfold cntF
    refine sm_congr _ _ N fun s hs => ?_
    rw [count_one Q s L hi fun l hl => (h.sv l hl).1]
    congr 1
    rw [Bool.eq_iff_iff, List.any_eq_true]
    constructor
    · intro h1
      obtain ⟨l, h2, h3⟩ := (h.ly s).1 (hP _ h1)
      refine ⟨l, h2, ?_⟩
      rw [← hQ l h2 s h3, h1]
      simp only [Bool.true_and, beq_iff_eq]
      omega
    · rintro ⟨l, h2, h3⟩
      simp only [Bool.and_eq_true, beq_iff_eq] at h3
      have h4 := (h.sv l h2).1
      rw [hQ l h2 s (by omega)]
      exact h3.1
  · have h1 := sm_one l.m.toNat (Q l) N
    rw [h1]
    have h2 := h.sv l hl
    rw [show decide (l.m.toNat < N) = true by simp; omega, Bool.and_true]
theorem FR.up {L : List Lt} {G : Nat → Ft} {N t : Nat} (h : FR L G N t) : FR L G N (t + 1) := ⟨fun s hs => h.z s (by omega), h.ly, h.sv, h.p0⟩
theorem FR.new (N : Nat) : FR [] (fun _ => ft0) N 0 := ⟨fun _ _ => rfl, fun s => ⟨fun h => (by simp [lyB, ft0] at h), fun ⟨l, h, _⟩ => (by cases h)⟩, fun l h => (by cases h), fun _ => Int.le_refl _⟩
theorem FR.send {L : List Lt} {G : Nat → Ft} {N t : Nat} (h : FR L G N t) (ht : t < N) (hlim : ∀ l ∈ L, l.m < (t : Int)) (x y : Nat) (p k : Int) (hp : 0 ≤ p) : FR (L ++ [⟨x, y, p, k, (t : Int)⟩]) (setG G t ⟨x, y, p, true, false, 0⟩) N (t + 1) := by
  refine ⟨fun s hs => ?_, fun s => ?_, fun l hl => ?_, fun s => ?_⟩
  · rw [setG_ne _ _ (by omega)]; exact h.z s (by omega)
  · by_cases e : s = t
    · subst e
      rw [setG_at]
      exact ⟨fun _ => ⟨_, List.mem_append_right _ (List.mem_singleton.2 rfl), rfl⟩, fun _ => rfl⟩
    · rw [setG_ne _ _ e, h.ly s]
      constructor
      · rintro ⟨l, h1, h2⟩; exact ⟨l, List.mem_append_left _ h1, h2⟩
      · rintro ⟨l, h1, h2⟩
        rcases List.mem_append.1 h1 with h3 | h3
        · exact ⟨l, h3, h2⟩
        · rw [List.mem_singleton] at h3
          subst h3
          have : (t : Int) = s := h2
          omega
  · rcases List.mem_append.1 hl with h3 | h3
    · obtain ⟨h4, h5, h6⟩ := h.sv l h3
      refine ⟨h4, h5, fun s hs => ?_⟩
      have := hlim l h3
      rw [setG_ne _ _ (by omega)]
      exact h6 s hs
    · rw [List.mem_singleton] at h3
      subst h3
      refine ⟨by show (0 : Int) ≤ t; omega, by show (t : Int) < N; omega, fun s hs => ?_⟩
      have : (t : Int) = s := hs
      obtain rfl : s = t := by omega
      rw [setG_at]
      exact ⟨rfl, rfl, rfl⟩
  · by_cases e : s = t
    · subst e; rw [setG_at]; exact hp
    · rw [setG_ne _ _ e]; exact h.p0 s
/-- letters are taken out: their fates lie no more -/
theorem FR.out {L : List Lt} {G G' : Nat → Ft} {N t : Nat} (h : FR L G N t) (hi : L.Pairwise fun a b => a.m < b.m) (q : Lt → Bool) (hlim : ∀ l ∈ L, l.m < (t : Int)) (hs : ∀ s, (G' s).f = (G s).f ∧ (G' s).t = (G s).t ∧ (G' s).p = (G s).p ∧ (t ≤ s → G' s = G s)) (hl : ∀ l, l ∈ L → ∀ s : Nat, l.m = (s : Int) → lyB (G' s) = !q l) (hn : ∀ s, lyB (G' s) = true → lyB (G s) = true) : FR (L.filter fun l => !q l) G' N (t + 1) := by
  refine ⟨fun s h1 => ?_, fun s => ?_, fun l h1 => ?_, fun s => ?_⟩
  · rw [(hs s).2.2.2 (by omega)]; exact h.z s (by omega)
  · constructor
    · intro h1
      obtain ⟨l, h2, h3⟩ := (h.ly s).1 (hn s h1)
      exact ⟨l, List.mem_filter.2 ⟨h2, by rw [← hl l h2 s h3]; exact h1⟩, h3⟩
    · rintro ⟨l, h1, h2⟩
      have h3 := List.mem_filter.1 h1
      rw [hl l h3.1 s h2]
      exact h3.2
  · have h3 := List.mem_filter.1 h1
    obtain ⟨h4, h5, h6⟩ := h.sv l h3.1
    refine ⟨h4, h5, fun s h7 => ?_⟩
    rw [(hs s).1, (hs s).2.1, (hs s).2.2.1]
    exact h6 s h7
  · rw [(hs s).2.2.1]; exact h.p0 s
/-- what came -/
def CA (G : Nat → Ft) (d : Nat → Int × Int) (S : Nat) (G' : Nat → Ft) : Prop := ∀ s : Nat, ((∃ i, i < S ∧ (d i).2 = (s : Int)) → G' s = { G s with c := 1 }) ∧ ((¬ ∃ i, i < S ∧ (d i).2 = (s : Int)) → G' s = G s)
theorem FR.drain {L : List Lt} {G G' : Nat → Ft} {N t S : Nat} {d : Nat → Int × Int} (h : FR L G N t) (hi : L.Pairwise fun a b => a.m < b.m) (hlim : ∀ l ∈ L, l.m < (t : Int)) (x : Nat) (z : Int) (hd : ∀ v, (∃ p, p < S ∧ d p = v) ↔ ∃ l, l ∈ L.filter (mq x z) ∧ kv l = v) (hc : CA G d S G') : FR (L.filter fun l => !mq x z l) G' N (t + 1) := by
  have mem : ∀ s : Nat, (∃ i, i < S ∧ (d i).2 = (s : Int)) ↔ ∃ l, l ∈ L ∧ mq x z l = true ∧ l.m = (s : Int) := fun s => by
    constructor
    · rintro ⟨i, h1, h2⟩
      obtain ⟨l, h3, h4⟩ := (hd (d i)).1 ⟨i, h1, rfl⟩
      have h5 := List.mem_filter.1 h3
      exact ⟨l, h5.1, h5.2, by rw [← h2, ← h4]; rfl⟩
    · rintro ⟨l, h1, h2, h3⟩
      obtain ⟨i, h4, h5⟩ := (hd (kv l)).2 ⟨l, List.mem_filter.2 ⟨h1, h2⟩, rfl⟩
      exact ⟨i, h4, by rw [h5]; exact h3⟩
  have two : ∀ s, G' s = { G s with c := 1 } ∨ G' s = G s := fun s => by
    by_cases e : ∃ i, i < S ∧ (d i).2 = (s : Int)
    · exact .inl ((hc s).1 e)
    · exact .inr ((hc s).2 e)
  refine h.out hi (mq x z) hlim (fun s => ⟨?_, ?_, ?_, fun h1 => ?_⟩) (fun l hl s hs => ?_) fun s h1 => ?_
  · rcases two s with e | e <;> rw [e]
  · rcases two s with e | e <;> rw [e]
  · rcases two s with e | e <;> rw [e]
  · refine (hc s).2 fun h2 => ?_
    obtain ⟨l, h3, _, h4⟩ := (mem s).1 h2
    have := hlim l h3
    omega
  · by_cases e : mq x z l = true
    · rw [(hc s).1 ((mem s).2 ⟨l, hl, e, hs⟩), e]
      simp [lyB]
    · have e' : mq x z l = false := by simpa using e
      rw [(hc s).2 (fun h2 => by
        obtain ⟨l', h3, h4, h5⟩ := (mem s).1 h2
        rw [inc_inj hi h3 hl (by omega)] at h4
        exact e h4), e', (h.ly s).2 ⟨l, hl, hs⟩]
      rfl
  · rcases two s with e | e
    · rw [e] at h1; simp [lyB] at h1
    · rw [e] at h1; exact h1
/-- what is taken back -/
def TB (G : Nat → Ft) (t : Nat) (x z : Int) (G' : Nat → Ft) : Prop := ∀ s, G' s = if s < t ∧ (G s).f = x ∧ (G s).p = z then { G s with b := true } else G s
theorem FR.drop {L : List Lt} {G G' : Nat → Ft} {N t : Nat} (h : FR L G N t) (hi : L.Pairwise fun a b => a.m < b.m) (hlim : ∀ l ∈ L, l.m < (t : Int)) (x : Nat) (z : Int) (hc : TB G t (x : Int) z G') : FR (L.filter fun l => !dq x z l) G' N (t + 1) := by
  have two : ∀ s, G' s = { G s with b := true } ∨ G' s = G s := fun s => by
    rw [hc s]
    by_cases e : s < t ∧ (G s).f = x ∧ (G s).p = z
    · rw [if_pos e]; exact .inl rfl
    · rw [if_neg e]; exact .inr rfl
  refine h.out hi (dq x z) hlim (fun s => ⟨?_, ?_, ?_, fun h1 => ?_⟩) (fun l hl s hs => ?_) fun s h1 => ?_
  · rcases two s with e | e <;> rw [e]
  · rcases two s with e | e <;> rw [e]
  · rcases two s with e | e <;> rw [e]
  · rw [hc s, if_neg (by omega)]
  · obtain ⟨_, _, h6⟩ := h.sv l hl
    obtain ⟨e1, e2, e3⟩ := h6 s hs
    have h7 := hlim l hl
    rw [hc s]
    by_cases e : dq x z l = true
    · have e' := e
      simp only [dq, Bool.and_eq_true, beq_iff_eq] at e'
      rw [if_pos ⟨by omega, by rw [e1]; exact e'.1, by rw [e3]; exact e'.2⟩, e]
      simp [lyB]
    · have e' : dq x z l = false := by simpa using e
      rw [if_neg (fun h8 => e (by simp only [dq, Bool.and_eq_true, beq_iff_eq]; exact ⟨by rw [← e1]; exact h8.2.1, by rw [← e3]; exact h8.2.2⟩)), e', (h.ly s).2 ⟨l, hl, hs⟩]
      rfl
  · rcases two s with e | e
    · rw [e] at h1; simp [lyB] at h1
    · rw [e] at h1; exact h1
/-- with a phase that is none, nothing is taken back -/
theorem TB.none {G G' : Nat → Ft} {L : List Lt} {N t : Nat} (h : FR L G N t) {x z : Int} (hz : z < 0) (hc : TB G t x z G') : G' = G := by
  funext s
  rw [hc s, if_neg]
  rintro ⟨_, _, h1⟩
  have := h.p0 s
  omega
variable {n : Nat} {room : Int} {ph : Nat → Int} {H : Nat → Nat → Nat → Hf} {L : List Lt} {t : Nat}
/-- what a Drain hands out, without the document's own post -/
theorem RE.given (h : RE n room ph H L t) {x : Nat} (hx : x < n) (hl : ¬ Low ph n x) {lt : Int × Int → Int × Int → Bool} {S : Nat} (hS : sm (gln H x (par (ph x - 1)) (dueJ ph n x)) (dueN ph n x) = S) {d : Nat → Int × Int} (hst : Stb lt 0 S (gKn H x (par (ph x - 1)) (dueJ ph n x) (dueN ph n x)) d) : (∀ v, (∃ p, p < S ∧ d p = v) ↔ ∃ l, l ∈ L.filter (mq x (ph x - 1)) ∧ kv l = v) ∧ ∀ p q, p < S → q < S → p ≠ q → (d p).2 ≠ (d q).2 := by
  have hlist := gK_list H x (par (ph x - 1)) (dueJ ph n x) (dueN ph n x)
  rw [due_list, hS] at hlist
  obtain ⟨c0, hc0⟩ : ∃ c0, gKn H x (par (ph x - 1)) (dueJ ph n x) (dueN ph n x) = c0 := ⟨_, rfl⟩
  rw [hc0] at hst hlist
  have hmem0 : ∀ v, (∃ p, p < S ∧ c0 p = v) ↔ ∃ l, l ∈ L.filter (mq x (ph x - 1)) ∧ kv l = v := fun v => by
    rw [← h.dueMem hx hl v, ← hlist, List.mem_map]
    constructor
    · rintro ⟨p, h1, h2⟩; exact ⟨p, List.mem_range.2 h1, h2⟩
    · rintro ⟨p, h1, h2⟩; exact ⟨p, List.mem_range.1 h1, h2⟩
  have hpw0 : ∀ p q, p < q → q < S → QP L (c0 p) (c0 q) := fun p q h1 h2 => by
    have := h.dueList hx
    rw [← hlist, List.pairwise_map, List.pairwise_iff_getElem] at this
    have := this p q (by simp; omega) (by simpa using h2) h1
    simpa using this
  obtain ⟨f, g, hf⟩ := hst
  have hdm : ∀ v, (∃ p, p < S ∧ d p = v) ↔ ∃ l, l ∈ L.filter (mq x (ph x - 1)) ∧ kv l = v := fun v => by
    rw [← hmem0 v]
    constructor
    · rintro ⟨p, h1, h2⟩
      exact ⟨f p, (hf.inr p (Nat.zero_le _) h1).2, by rw [← hf.val]; exact h2⟩
    · rintro ⟨p, h1, h2⟩
      have h3 : g p < S := by
        rcases Nat.lt_or_ge (g p) S with h4 | h4
        · exact h4
        · have := hf.out (g p) (by omega)
          rw [hf.ri] at this
          omega
      exact ⟨g p, h3, by rw [hf.val, hf.ri]; exact h2⟩
  refine ⟨hdm, fun p q hp hq hne he => ?_⟩
  have hfp := (hf.inr p (Nat.zero_le _) hp).2
  have hfq := (hf.inr q (Nat.zero_le _) hq).2
  have hff : f p ≠ f q := fun e => by
    have h1 := hf.li p
    have h2 := hf.li q
    rw [e] at h1
    omega
  have key : ∀ a b, a < b → b < S → (c0 a).2 ≠ (c0 b).2 := fun a b h1 h2 h3 => by
    have h4 := hpw0 a b h1 h2
    unfold QP at h4
    rw [h3] at h4
    omega
  rw [hf.val, hf.val] at he
  rcases Nat.lt_or_gt_of_ne hff with h1 | h1
  · exact key _ _ h1 hfq he
  · exact key _ _ h1 hfp he.symm
end Go.Proofs.Ytkfjcbnhohipgaa
