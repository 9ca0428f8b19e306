import Derived.Test.YtkfjcbnhohipgaaMB9
import Derived.Test.YtkfjcbnhohipgaaSO2
import Derived.BigQuiet
import Derived.Deep.RegionLaw
import Derived.Deep.RegionHeld3
import Derived.Deep.Cut
import Derived.Deep.DeepCutAuto
import Derived.Deep.CutBlock
import Derived.Deep.CutRange
import Derived.Deep.AppendLies
import Derived.Handy
import Derived.Lib.RabinKarpLaws
namespace Go.Proofs.Ytkfjcbnhohipgaa
open Go.ChangeShapes Go.WideShapes Go.ChangeAt Go.RowKit
set_option linter.unusedVariables false
set_option linter.unusedSimpArgs false


/-- the senders whose things are due to x -/
def dueI (ph : Nat → Int) (x : Nat) : Nat → List Nat
  | 0 => []
  | k + 1 => if ph k = ph x then dueI ph x k ++ [k] else dueI ph x k
theorem dueI_mem (ph : Nat → Int) (x i : Nat) : ∀ k, i ∈ dueI ph x k ↔ i < k ∧ ph i = ph x
  | 0 => ⟨fun h => by simp [dueI] at h, fun h => by omega⟩
  | k + 1 => by
    have ih := dueI_mem ph x i k
    unfold dueI
    split
    · rename_i h0
      rw [List.mem_append, ih, List.mem_singleton]
      constructor
      · rintro (h | rfl)
        · exact ⟨by omega, h.2⟩
        · exact ⟨by omega, h0⟩
      · rintro ⟨h1, h2⟩
        by_cases e : i = k
        · exact .inr e
        · exact .inl ⟨by omega, h2⟩
    · rename_i h0
      rw [ih]
      constructor
      · rintro ⟨h1, h2⟩; exact ⟨by omega, h2⟩
      · rintro ⟨h1, h2⟩
        by_cases e : i = k
        · subst e; exact absurd h2 h0
        · exact ⟨by omega, h2⟩
theorem dueI_nodup (ph : Nat → Int) (x : Nat) : ∀ k, (dueI ph x k).Nodup
  | 0 => by simp [dueI]
  | k + 1 => by
    have ih := dueI_nodup ph x k
    unfold dueI
    split
    · rw [List.nodup_append]
      refine ⟨ih, by simp, fun a ha b hb => ?_⟩
      have := ((dueI_mem ph x a k).1 ha).1
      simp at hb
      omega
    · exact ih
theorem dueI_len (ph : Nat → Int) (x : Nat) : ∀ k, (dueI ph x k).length ≤ k
  | 0 => Nat.le_refl _
  | k + 1 => by
    have := dueI_len ph x k
    unfold dueI
    split
    · simp; omega
    · omega
theorem dueA_eq (R : Nat → Nat) (ph : Nat → Int) (x : Nat) : ∀ k, dueA R ph x k = (dueI ph x k).map fun i => halfAt (R i) x (ph x - 1)
  | 0 => rfl
  | k + 1 => by
    unfold dueA dueI
    rw [dueA_eq R ph x k]
    split <;> simp
def dueJ (ph : Nat → Int) (n x : Nat) (j : Nat) : Nat := (dueI ph x n).getD j 0
def dueN (ph : Nat → Int) (n x : Nat) : Nat := (dueI ph x n).length
theorem dueJ_at {ph : Nat → Int} {n x j : Nat} (h : j < dueN ph n x) : (dueI ph x n)[j]? = some (dueJ ph n x j) := by
  unfold dueJ dueN at *
  rw [List.getD_eq_getElem?_getD, List.getElem?_eq_getElem h]
  rfl
theorem dueJ_lt {ph : Nat → Int} {n x j : Nat} (h : j < dueN ph n x) : dueJ ph n x j < n ∧ ph (dueJ ph n x j) = ph x := (dueI_mem ph x _ n).1 (List.mem_iff_getElem?.2 ⟨j, dueJ_at h⟩)
theorem dueJ_inj {ph : Nat → Int} {n x i j : Nat} (h1 : i < dueN ph n x) (h2 : j < dueN ph n x) (h : dueJ ph n x i = dueJ ph n x j) : i = j := by
  have a1 := dueJ_at h1
  have a2 := dueJ_at h2
  rw [h] at a1
  unfold dueN at h1 h2
  rw [List.getElem?_eq_getElem h1] at a1
  rw [List.getElem?_eq_getElem h2] at a2
  have e := (Option.some.inj a1).trans (Option.some.inj a2).symm
  have hp := List.pairwise_iff_getElem.1 (dueI_nodup ph x n)
  rcases Nat.lt_trichotomy i j with h3 | h3 | h3
  · exact absurd e (hp i j h1 h2 h3)
  · exact h3
  · exact absurd e.symm (hp j i h2 h1 h3)
/-- all blocks but one and those of A stay -/
structure KpA (A : Nat → Prop) (g : Nat) (W W' : World) : Prop where
  os : W'.os = W.os
  tape : W'.tape = W.tape
  output : W'.output = W.output
  size : W.heap.size ≤ W'.heap.size
  block : ∀ k, k < W.heap.size → k ≠ g → ¬ A k → W'.heap[k]? = W.heap[k]?
/-- all blocks below a number but those of A stay -/
structure BlA (A : Nat → Prop) (b : Nat) (W W' : World) : Prop where
  os : W'.os = W.os
  tape : W'.tape = W.tape
  output : W'.output = W.output
  size : W.heap.size ≤ W'.heap.size
  block : ∀ k, k < b → ¬ A k → W'.heap[k]? = W.heap[k]?
/-- this compare sorts things by lt, stably; besides the row it writes into blocks of A alone -/
def Sorts (cmp : Value) (lt : Int × Int → Int × Int → Bool) (A : Nat → Prop) (J : World → Prop) : Prop := ∀ (W : World) (base g S : Nat) (c : Nat → Int × Int), S ≤ 65536 → Own W base 31 2 (.slice (some ⟨g, 0, none⟩) S S) S (thF c) → J W → ¬ A g → Calls Try.prog 38 #[.slice (some ⟨g, 0, none⟩) S S, cmp] W fun r W' => r = .returned (.tuple #[]) ∧ ∃ d, Own W' base 31 2 (.slice (some ⟨g, 0, none⟩) S S) S (thF d) ∧ Stb lt 0 S c d ∧ Srt lt 0 S d ∧ KpA A g W W' ∧ J W'
theorem MP.aside2 {W : World} {Fo : Nat → Option Obj} {base hb wb bb n : Nat} {room : Int} {cmp : Value} {R : Nat → Nat} {ph fl : Nat → Int} {H : Nat → Nat → Nat → Hf} {W' : World} {g : Nat} {A : Nat → Prop} {cur : Array Value} {fz : Nat × Nat} (h : MP Fo W base hb wb bb n room cmp R ph fl H) (hk : ∀ k, k < W.heap.size → k ≠ g → ¬ A k → W'.heap[k]? = W.heap[k]?) (hgt : W.heap[g]? = some (.cells cur 31 fz)) (hap : ∀ i j k, i < n → j < n → k < 2 → (H i j k).v.ownBlock ≠ some g) (hFg : ∀ o, Fo g ≠ some o) (hA : ∀ k, A k → k < base ∧ ∀ o, Fo k ≠ some o) : MP Fo W' base hb wb bb n room cmp R ph fl H := by
  have nA : ∀ k, base ≤ k → ¬ A k := fun k h1 h2 => by have := (hA k h2).1; omega
  refine ⟨(hk hb (lt_of_block h.p) (typ_ne h.p hgt (by decide)) (nA hb h.hbs)).trans h.p, h.w.far fun k hk' => hk k (h.w.lt k hk').2 (h.w.apart hgt (by decide) k hk') (nA k (h.w.lt k hk').1), h.b.far fun k hk' => hk k (h.b.lt k hk').2 (h.b.apart hgt (by decide) k hk') (nA k (h.b.lt k hk').1), fun i hi => (h.r i hi).far fun k hk' => hk k ((h.r i hi).lt k hk').2 ((h.r i hi).apart hgt (by decide) k hk') (nA k ((h.r i hi).lt k hk').1), h.ap, fun i j k hi hj hk9 => (h.h i j k hi hj hk9).far fun k' hk' => hk k' ((h.h i j k hi hj hk9).lt k' hk').2 (fun e2 => hap i j k hi hj hk9 (by rw [hk', e2])) (nA k' ((h.h i j k hi hj hk9).lt k' hk').1), h.hd, h.hbs, h.s, fun k o hk' => ⟨(hk k (lt_of_block (h.fr k o hk').1) (fun e2 => hFg o (by rw [← e2]; exact hk')) (fun a => (hA k a).2 o hk')).trans (h.fr k o hk').1, (h.fr k o hk').2⟩⟩
set_option maxRecDepth 100000 in
set_option maxHeartbeats 4000000 in
theorem drain_ok (x : Nat) {cmp : Value} {lt : Int × Int → Int × Int → Bool} {A : Nat → Prop} {J : World → Prop} {Fo : Nat → Option Obj} {base hb wb bb n : Nat} {room : Int} {R : Nat → Nat} {ph fl : Nat → Int} {H : Nat → Nat → Nat → Hf} (hx : x < n) (hn : n ≤ 64) (hp : 0 ≤ ph x ∧ ph x < 4611686018427387904) (hlow : ¬ Low ph n x) (W : World) (h : MP Fo W base hb wb bb n room cmp R ph fl H) (hbase : base ≤ W.heap.size) (hso : Sorts cmp lt A J) (hA : ∀ k, A k → k < base ∧ ∀ o, Fo k ≠ some o) (hJ : ∀ W', Below base W W' → J W') (e m S : Nat) (jf : Nat → Nat) (he : par (ph x - 1) = e) (hm : dueN ph n x = m) (hjf : dueJ ph n x = jf) (hS : sm (gln H x e jf) m = S) :
    Calls Try.prog 17 #[.pointer (some ⟨hb, 0, none⟩), .int .i64 (x : Int)] W fun r W' => ∃ g d, r = .returned (.tuple #[.slice (some ⟨g, 0, none⟩) S S, .int .i64 0]) ∧ W.heap.size ≤ g ∧ Own W' base 31 2 (.slice (some ⟨g, 0, none⟩) S S) S (thF d) ∧ Stb lt 0 S (gKn H x e jf m) d ∧ Srt lt 0 S d ∧ MP Fo W' base hb wb bb n room cmp R ph fl (gHn H x e jf m) ∧ BlA A base W W' ∧ J W' := by
  have HK := knows_yes hb wb bb n room x hx _ W h.p
  have HLD := leads_any hb wb bb n room x hx hn _ ph fl W h.p h.wk (Own.lt h.w wb rfl).2 (lt_of_block h.p)
  have he2 : e < 2 := by rw [← he]; have := par_le (ph x - 1); omega
  have hmn : m ≤ 64 := by rw [← hm]; have := dueI_len ph x n; unfold dueN; omega
  have HDU : Hid (∀ w2, MP Fo w2 base hb wb bb n room cmp R ph fl H → Calls Try.prog 36 #[.pointer (some ⟨hb, 0, none⟩), .int .i64 (x : Int)] w2 fun r w3 => ∃ q c, r = .returned (.slice q m c) ∧ (m = 0 ∨ ∃ g cur, q = some ⟨g, 0, none⟩ ∧ w3.heap[g]? = some (.cells cur 75 (0, 0)) ∧ ∀ j, j < m → cur[j]? = some (.pointer (some ⟨R (jf j), x * 2 + e, none⟩))) ∧ Below w2.heap.size w2 w3) := fun w2 h2 => by
    refine (due_any hb wb bb n room x hx hn _ R ph fl hp w2 h2.bs h2.wk (Own.lt h2.w wb rfl).2).mono fun r w3 ⟨v, k1, k2, k3⟩ => ?_
    rw [dueL_eq, dueA_eq] at k2
    have hlen : (ptrV ((dueI ph x n).map fun i => halfAt (R i) x (ph x - 1))).length = m := by simp [ptrV, ← hm, dueN]
    rcases k2.2 with ⟨rfl, h0⟩ | ⟨g, cap, cur, rfl, hbg, hg, h3, h4, h5, h6⟩
    · rw [hlen] at h0
      subst h0
      exact ⟨none, 0, k1, .inl rfl, k3⟩
    · rw [hlen] at k1 h6
      refine ⟨_, _, k1, .inr ⟨g, cur, rfl, hg, fun j hj => ?_⟩, k3⟩
      have h7 : (ptrV ((dueI ph x n).map fun i => halfAt (R i) x (ph x - 1)))[j]? = some (.pointer (some ⟨R (jf j), x * 2 + e, none⟩)) := by
        have := dueJ_at (ph := ph) (n := n) (x := x) (j := j) (by rw [hm]; exact hj)
        simp only [ptrV, List.getElem?_map, this, Option.map_some, hjf, halfAt, he]
      rw [← h6, List.getElem?_take, if_pos (by omega)] at h7
      simpa using h7
  have HGA : Hid (∀ w3 q c, MP Fo w3 base hb wb bb n room cmp R ph fl H → base ≤ w3.heap.size → (m = 0 ∨ ∃ g cur, q = some ⟨g, 0, none⟩ ∧ w3.heap[g]? = some (.cells cur 75 (0, 0)) ∧ ∀ j, j < m → cur[j]? = some (.pointer (some ⟨R (jf j), x * 2 + e, none⟩))) → Calls Try.prog 37 #[.slice q m c] w3 fun r w4 => ∃ g, r = .returned (.slice (some ⟨g, 0, none⟩) S S) ∧ w3.heap.size ≤ g ∧ Own w4 w3.heap.size 31 2 (.slice (some ⟨g, 0, none⟩) S S) S (thF (gKn H x e jf m)) ∧ MP Fo w4 base hb wb bb n room cmp R ph fl (gHn H x e jf m) ∧ Below base w3 w4) := fun w3 q c h3 hb3 hq => by
    have := gather_any x e m c jf q hx he2 hmn (fun j hj => by rw [← hjf]; exact (dueJ_lt (by rw [hm]; exact hj)).1) (fun i j hi hj hh => dueJ_inj (ph := ph) (n := n) (x := x) (by rw [hm]; exact hi) (by rw [hm]; exact hj) (by rw [hjf]; exact hh)) w3 h3 hb3 hq
    rw [hS] at this
    exact this
  have hSb : S ≤ 65536 := by
    have := sm_le (gln H x e jf) 1024 (fun j => h.s _ _ _) m
    omega
  have HBL : Hid (∀ i j k, i < n → j < n → k < 2 → ∀ g, (H i j k).v.ownBlock = some g → g < W.heap.size) := fun i j k hi hj hk g hg => ((h.h i j k hi hj hk).lt g hg).2
  have HFG : Hid (∀ k o, Fo k = some o → k < W.heap.size) := fun k o ho => lt_of_block (h.fr _ o ho).1
  have HSO0 := mhid (And.intro hso (And.intro hA hJ))
  have HH := mhid (And.intro h (And.intro hlow hbase))
  clear h hlow hS hm hjf he hbase hp hso hA hJ
  go_enter Try.func17, Try.ntmps17
  go_upto_region 5 with (first | (go_at_call 30; (with_reducible refine HK.mono ?_); rintro r9 w1 ⟨rfl, h9⟩; subst h9) | (go_at_call 33; (with_reducible refine HLD.mono ?_); rintro r9 w2 ⟨b2, rfl, h2, h3⟩; obtain rfl : b2 = false := (by cases b2; rfl; exact absurd (h2.1 rfl) HH.out.2.1); have B2 := mhid h3; clear h2 h3))
  have H2 := mhid (HH.out.1.later B2.out)
  have HC2 := HDU.out w2 H2.out
  clear HK HLD
  go_upto_region 6 with (first | (go_at_call 36; (with_reducible refine HC2.mono ?_); rintro r9 w3 ⟨q3, c3, rfl, p3, b3⟩; have B3 := mhid b3; have HC3 := HGA.out w3 q3 c3 (H2.out.later b3) (Nat.le_trans HH.out.2.2 (Nat.le_trans B2.out.size b3.size)) p3; clear p3 b3) | (go_at_call 37; (with_reducible refine HC3.mono ?_); rintro r9 w4 ⟨g, rfl, h4a, h4b, h4c, h4d⟩))
  have H4 := mhid (And.intro h4a (And.intro h4b (And.intro h4c h4d)))
  have b4 : Below base w1 w4 := ((B2.out.mono HH.out.2.2).trans (B3.out.mono (Nat.le_trans HH.out.2.2 B2.out.size))).trans h4d
  have B4 := mhid b4
  have HSO := HSO0.out.1 w4 w3.heap.size g S (gKn H x e jf m) hSb h4b (HSO0.out.2.2 w4 b4) (fun a => by have a1 := (HSO0.out.2.1 g a).1; have a2 := HH.out.2.2; have a3 := B2.out.size; have a4 := B3.out.size; omega)
  clear b4
  obtain ⟨c0, c1, c2, c3⟩ := h4c.p.cells
  clear h4a h4b h4c h4d HC2 HC3
  go_wp2_with (go_at_call 38; (with_reducible refine HSO.mono ?_); rintro r9 w5 ⟨rfl, d, s1, s2, s3, s4, s5⟩)
  refine bodyPost_ret (v := .tuple #[.slice (some ⟨g, 0, none⟩) S S, .int .i64 0]) (by simp [results, Try.results17, go_sem]) rfl ?_
  have hs3 : base ≤ w3.heap.size := Nat.le_trans HH.out.2.2 (Nat.le_trans B2.out.size B3.out.size)
  refine ⟨g, d, rfl, Nat.le_trans (Nat.le_trans B2.out.size B3.out.size) H4.out.1, Own.lower s1 hs3, s2, s3, ?_, ?_, s5⟩
  · obtain ⟨cu, z1, _⟩ := H4.out.2.1.block
    have a2 := H4.out.1
    have a3 := B2.out.size
    have a4 := B3.out.size
    refine H4.out.2.2.1.aside2 s4.block z1 (fun i j k hi hj hk e2 => ?_) (fun o ho => by have := HFG.out g o ho; omega) HSO0.out.2.1
    rw [gHn_block] at e2
    have a1 := HBL.out i j k hi hj hk g e2
    omega
  · have hl4 := B4.out.size
    have hgb := Nat.le_trans hs3 H4.out.1
    exact ⟨s4.os.trans B4.out.os, s4.tape.trans B4.out.tape, s4.output.trans B4.out.output, Nat.le_trans hl4 s4.size, fun k hk ha => (s4.block k (Nat.lt_of_lt_of_le hk (Nat.le_trans HH.out.2.2 hl4)) (by omega) ha).trans (B4.out.block k hk)⟩
end Go.Proofs.Ytkfjcbnhohipgaa
