import Derived.Test.YtkfjcbnhohipgaaME1
import Derived.BigQuiet
import Derived.Deep.RegionLaw
import Derived.Deep.RegionHeld3
import Derived.Deep.Cut
import Derived.Deep.DeepCutAuto
import Derived.Deep.CutBlock
import Derived.Deep.CutRange
import Derived.Deep.AppendLies
import Derived.Handy
import Derived.Lib.RabinKarpLaws
namespace Go.Proofs.Ytkfjcbnhohipgaa
open Go.ChangeShapes Go.WideShapes Go.ChangeAt Go.RowKit
set_option linter.unusedVariables false
set_option linter.unusedSimpArgs false


theorem gHn_in (H : Nat → Nat → Nat → Hf) (x e : Nat) (jf : Nat → Nat) (i : Nat) : ∀ m, (∃ t, t < m ∧ jf t = i) → (gHn H x e jf m i x e).l = 0
  | 0, ⟨t, h, _⟩ => absurd h (Nat.not_lt_zero _)
  | m + 1, h => by
    unfold gHn
    by_cases e1 : i = jf m ∧ x = x ∧ e = e
    · obtain ⟨rfl, _, _⟩ := e1
      rw [setHf_at]
      rfl
    · rw [setHf_ne _ _ _ _ _ e1]
      obtain ⟨t, h1, h2⟩ := h
      exact gHn_in H x e jf i m ⟨t, by
        by_cases e2 : t = m
        · subst e2; exact absurd ⟨h2.symm, rfl, rfl⟩ e1
        · omega, h2⟩
theorem gHn_out (H : Nat → Nat → Nat → Hf) (x e : Nat) (jf : Nat → Nat) (i j k : Nat) : ∀ m, ¬ (j = x ∧ k = e ∧ ∃ t, t < m ∧ jf t = i) → gHn H x e jf m i j k = H i j k
  | 0, _ => rfl
  | m + 1, h => by
    unfold gHn
    rw [setHf_ne _ _ _ _ _ (fun h1 => h ⟨h1.2.1, h1.2.2, m, by omega, h1.1.symm⟩)]
    exact gHn_out H x e jf i j k m fun ⟨h1, h2, t, h3, h4⟩ => h ⟨h1, h2, t, by omega, h4⟩
theorem due_has {ph : Nat → Int} {n x i : Nat} : (∃ t, t < dueN ph n x ∧ dueJ ph n x t = i) ↔ i < n ∧ ph i = ph x := by
  rw [← dueI_mem]
  constructor
  · rintro ⟨t, h1, h2⟩
    have := dueJ_at h1
    rw [h2] at this
    exact List.mem_iff_getElem?.2 ⟨t, this⟩
  · intro h
    obtain ⟨t, h1⟩ := List.mem_iff_getElem?.1 h
    have h2 : t < dueN ph n x := by
      unfold dueN
      rcases Nat.lt_or_ge t (dueI ph x n).length with h3 | h3
      · exact h3
      · rw [List.getElem?_eq_none h3] at h1; cases h1
    have := dueJ_at h2
    rw [h1] at this
    injection this with this
    exact ⟨t, h2, this.symm⟩
variable {n : Nat} {room : Int} {ph : Nat → Int} {H : Nat → Nat → Nat → Hf} {L : List Lt} {t : Nat}
/-- which letters are due -/
theorem RE.dueL (h : RE n room ph H L t) {x : Nat} (hl : ¬ Low ph n x) {l : Lt} (hm : l ∈ L) : (l.t = x ∧ par l.p = par (ph x - 1) ∧ ph l.f = ph x) ↔ mq x (ph x - 1) l = true := by
  obtain ⟨hf, _, _, h5⟩ := h.own l hm
  simp only [mq, Bool.and_eq_true, beq_iff_eq]
  constructor
  · rintro ⟨h1, h2, h3⟩
    rw [← h3] at h2 ⊢
    exact ⟨by omega, (h.half hm).2.1 h2⟩
  · rintro ⟨h1, h2⟩
    have h6 : ph l.f = ph x := by
      rcases h5 with h5 | h5
      · exact absurd ⟨l.f, hf, by omega⟩ hl
      · omega
    exact ⟨by omega, by rw [h2], h6⟩
theorem RE.drain (h : RE n room ph H L t) {x : Nat} (hl : ¬ Low ph n x) : RE n room ph (gHn H x (par (ph x - 1)) (dueJ ph n x) (dueN ph n x)) (L.filter fun l => !mq x (ph x - 1) l) (t + 1) := by
  refine h.out (mq x (ph x - 1)) _ (gHn_le _ _ _ _ _) fun i j e hi hj he => ?_
  by_cases e1 : j = x ∧ e = par (ph x - 1) ∧ ∃ t, t < dueN ph n x ∧ dueJ ph n x t = i
  · obtain ⟨rfl, rfl, h3⟩ := e1
    have h4 := due_has.1 h3
    refine .inr ⟨?_, fun l hm hb => ?_⟩
    · have := gHn_in H j (par (ph j - 1)) (dueJ ph n j) i _ h3
      unfold hls
      rw [this]
      rfl
    · simp only [bq, Bool.and_eq_true, beq_iff_eq] at hb
      obtain ⟨⟨h5, h6⟩, h7⟩ := hb
      exact (h.dueL hl hm).1 ⟨h6, h7, by rw [h5]; exact h4.2⟩
  · refine .inl ⟨gHn_out _ _ _ _ _ _ _ _ e1, fun l hm hb => ?_⟩
    simp only [bq, Bool.and_eq_true, beq_iff_eq] at hb
    obtain ⟨⟨h5, h6⟩, h7⟩ := hb
    cases hq : mq x (ph x - 1) l with
    | false => rfl
    | true =>
      obtain ⟨k1, k2, k3⟩ := (h.dueL hl hm).2 hq
      exact absurd ⟨by omega, by omega, due_has.2 ⟨hi, by rw [← h5]; exact k3⟩⟩ e1
theorem gK_list (H : Nat → Nat → Nat → Hf) (x e : Nat) (jf : Nat → Nat) : ∀ m, (List.range (sm (gln H x e jf) m)).map (gKn H x e jf m) = ((List.range m).map jf).flatMap fun i => hls (H i x e)
  | 0 => rfl
  | m + 1 => by
    have ih := gK_list H x e jf m
    show (List.range (sm (gln H x e jf) m + gln H x e jf m)).map (catF (gKn H x e jf m) (sm (gln H x e jf) m) (H (jf m) x e).k) = _
    rw [List.range_add, List.map_append, List.range_succ, List.map_append, List.flatMap_append, ← ih]
    congr 1
    · refine List.map_congr_left fun i hi => ?_
      unfold catF
      rw [if_pos (List.mem_range.1 hi)]
    · simp only [List.map_cons, List.map_nil, List.flatMap_cons, List.flatMap_nil, List.append_nil, List.map_map]
      unfold hls gln
      refine List.map_congr_left fun i hi => ?_
      show catF _ _ _ (_ + i) = _
      unfold catF
      rw [if_neg (by omega)]
      congr 1
      omega
theorem due_list (ph : Nat → Int) (n x : Nat) : (List.range (dueN ph n x)).map (dueJ ph n x) = dueI ph x n := by
  apply List.ext_getElem?
  intro i
  by_cases h : i < dueN ph n x
  · rw [List.getElem?_map, List.getElem?_range h, dueJ_at h]
    rfl
  · rw [List.getElem?_eq_none (by simp; omega), List.getElem?_eq_none (by unfold dueN at h; omega)]
theorem dueI_inc (ph : Nat → Int) (x : Nat) : ∀ k, (dueI ph x k).Pairwise (· < ·)
  | 0 => by simp [dueI]
  | k + 1 => by
    have ih := dueI_inc ph x k
    unfold dueI
    split
    · rw [List.pairwise_append]
      refine ⟨ih, by simp, fun a ha b hb => ?_⟩
      have := ((dueI_mem ph x a k).1 ha).1
      simp at hb
      omega
    · exact ih
theorem inc_inj {L : List Lt} (h : L.Pairwise fun a b => a.m < b.m) {l l' : Lt} (h1 : l ∈ L) (h2 : l' ∈ L) (he : l.m = l'.m) : l = l' := by
  obtain ⟨i, hi, rfl⟩ := List.mem_iff_getElem.1 h1
  obtain ⟨j, hj, rfl⟩ := List.mem_iff_getElem.1 h2
  have hp := List.pairwise_iff_getElem.1 h
  rcases Nat.lt_trichotomy i j with h3 | h3 | h3
  · have := hp i j hi hj h3; omega
  · subst h3; rfl
  · have := hp j i hj hi h3; omega
/-- who has sent the thing of this number -/
def frL (L : List Lt) (z : Int) : Nat := match L.find? (fun l => l.m == z) with | some l => l.f | none => 0
theorem frL_at {L : List Lt} (h : L.Pairwise fun a b => a.m < b.m) {l : Lt} (hl : l ∈ L) : frL L l.m = l.f := by
  unfold frL
  cases hf : L.find? (fun l' => l'.m == l.m) with
  | none =>
    have := List.find?_eq_none.1 hf l hl
    simp at this
  | some l' =>
    have h1 := List.find?_some hf
    have h2 := List.mem_of_find?_eq_some hf
    simp at h1
    rw [inc_inj h h2 hl h1]
def RPP (srt : Bool) (L : List Lt) (a b : Int × Int) : Prop := RL srt ⟨frL L a.2, 0, 0, a.1, a.2⟩ ⟨frL L b.2, 0, 0, b.1, b.2⟩
theorem RPP_kv {srt : Bool} {L : List Lt} (h : L.Pairwise fun a b => a.m < b.m) {l l' : Lt} (h1 : l ∈ L) (h2 : l' ∈ L) : RPP srt L (kv l) (kv l') ↔ RL srt l l' := by
  unfold RPP kv RL
  simp only
  rw [frL_at h h1, frL_at h h2]
def QP (L : List Lt) (u v : Int × Int) : Prop := frL L u.2 < frL L v.2 ∨ (frL L u.2 = frL L v.2 ∧ u.2 < v.2)
theorem RE.dueList (h : RE n room ph H L t) {x : Nat} (hx : x < n) : ((dueI ph x n).flatMap fun i => hls (H i x (par (ph x - 1)))).Pairwise (QP L) := by
  rw [List.pairwise_flatMap]
  refine ⟨fun i hi => ?_, (dueI_inc ph x n).imp_of_mem fun {a b} ha hb hab => ?_⟩
  · rw [h.hl i x _ ((dueI_mem ph x i n).1 hi).1 hx (par_lt _), List.pairwise_map]
    refine (h.inc.filter _).imp_of_mem fun {a b} ha hb hab => ?_
    have ha := List.mem_filter.1 ha
    have hb := List.mem_filter.1 hb
    have e1 : a.f = i := by have := ha.2; simp only [bq, Bool.and_eq_true, beq_iff_eq] at this; exact this.1.1
    have e2 : b.f = i := by have := hb.2; simp only [bq, Bool.and_eq_true, beq_iff_eq] at this; exact this.1.1
    refine .inr ⟨?_, hab⟩
    show frL L a.m = frL L b.m
    rw [frL_at h.inc ha.1, frL_at h.inc hb.1, e1, e2]
  · intro u hu v hv
    rw [h.hl a x _ ((dueI_mem ph x a n).1 ha).1 hx (par_lt _)] at hu
    rw [h.hl b x _ ((dueI_mem ph x b n).1 hb).1 hx (par_lt _)] at hv
    obtain ⟨l, hl, rfl⟩ := List.mem_map.1 hu
    obtain ⟨l', hl', rfl⟩ := List.mem_map.1 hv
    have hl := List.mem_filter.1 hl
    have hl' := List.mem_filter.1 hl'
    have e1 : l.f = a := by have := hl.2; simp only [bq, Bool.and_eq_true, beq_iff_eq] at this; exact this.1.1
    have e2 : l'.f = b := by have := hl'.2; simp only [bq, Bool.and_eq_true, beq_iff_eq] at this; exact this.1.1
    left
    show frL L l.m < frL L l'.m
    rw [frL_at h.inc hl.1, frL_at h.inc hl'.1, e1, e2]
    exact hab
theorem RE.dueMem (h : RE n room ph H L t) {x : Nat} (hx : x < n) (hl : ¬ Low ph n x) (v : Int × Int) : v ∈ ((dueI ph x n).flatMap fun i => hls (H i x (par (ph x - 1)))) ↔ ∃ l, l ∈ L.filter (mq x (ph x - 1)) ∧ kv l = v := by
  rw [List.mem_flatMap]
  constructor
  · rintro ⟨i, hi, hv⟩
    have hi := (dueI_mem ph x i n).1 hi
    rw [h.hl i x _ hi.1 hx (par_lt _)] at hv
    obtain ⟨l, hm, rfl⟩ := List.mem_map.1 hv
    have hm := List.mem_filter.1 hm
    have hb := hm.2
    simp only [bq, Bool.and_eq_true, beq_iff_eq] at hb
    exact ⟨l, List.mem_filter.2 ⟨hm.1, (h.dueL hl hm.1).1 ⟨hb.1.2, hb.2, by rw [hb.1.1]; exact hi.2⟩⟩, rfl⟩
  · rintro ⟨l, hm, rfl⟩
    have hm := List.mem_filter.1 hm
    obtain ⟨k1, k2, k3⟩ := (h.dueL hl hm.1).2 hm.2
    obtain ⟨hf, _⟩ := h.own l hm.1
    refine ⟨l.f, (dueI_mem ph x l.f n).2 ⟨hf, k3⟩, ?_⟩
    rw [h.hl l.f x _ hf hx (par_lt _)]
    exact List.mem_map.2 ⟨l, List.mem_filter.2 ⟨hm.1, by simp [bq, k1, k2]⟩, rfl⟩
/-- two rising rows of the same things are one -/
theorem two_half {α : Type} {R : α → α → Prop} (irr : ∀ a, ¬ R a a) (tr : ∀ a b c, R a b → R b c → R a c) {s t : Nat} {a b : Nat → α} (ha : ∀ p q, p < q → q < s → R (a p) (a q)) (hb : ∀ p q, p < q → q < t → R (b p) (b q)) (hab : ∀ v, (∃ p, p < s ∧ a p = v) ↔ ∃ p, p < t ∧ b p = v) : ∀ i, i < s → i < t ∧ a i = b i := by
  intro i
  induction i using Nat.strongRecOn with
  | ind i ih =>
    intro hi
    obtain ⟨j, hj, ej⟩ := (hab (a i)).1 ⟨i, hi, rfl⟩
    have hij : i ≤ j := by
      rcases Nat.lt_or_ge j i with h1 | h1
      · obtain ⟨_, h2⟩ := ih j h1 (by omega)
        have h3 := ha j i h1 hi
        rw [h2, ej] at h3
        exact absurd h3 (irr _)
      · exact h1
    have hit : i < t := by omega
    refine ⟨hit, ?_⟩
    by_cases e : i = j
    · rw [e]; rw [e] at ej; exact ej.symm
    · have h1 := hb i j (by omega) hj
      rw [ej] at h1
      obtain ⟨k, hk, ek⟩ := (hab (b i)).2 ⟨i, hit, rfl⟩
      have hki : i ≤ k := by
        rcases Nat.lt_or_ge k i with h2 | h2
        · obtain ⟨_, h3⟩ := ih k h2 (by omega)
          have h4 := hb k i h2 hit
          rw [← h3, ek] at h4
          exact absurd h4 (irr _)
        · exact h2
      by_cases e2 : i = k
      · rw [e2, ek, ← e2]
      · have h2 := ha i k (by omega) hk
        rw [ek] at h2
        exact absurd (tr _ _ _ h1 h2) (irr _)
theorem two_one {α : Type} {R : α → α → Prop} (irr : ∀ a, ¬ R a a) (tr : ∀ a b c, R a b → R b c → R a c) {s t : Nat} {a b : Nat → α} (ha : ∀ p q, p < q → q < s → R (a p) (a q)) (hb : ∀ p q, p < q → q < t → R (b p) (b q)) (hab : ∀ v, (∃ p, p < s ∧ a p = v) ↔ ∃ p, p < t ∧ b p = v) : s = t ∧ ∀ i, i < s → a i = b i := by
  have h1 := two_half irr tr ha hb hab
  have h2 := two_half irr tr hb ha fun v => (hab v).symm
  refine ⟨?_, fun i hi => (h1 i hi).2⟩
  rcases Nat.lt_trichotomy s t with h | h | h
  · have := (h2 s h).1; omega
  · exact h
  · have := (h1 t h).1; omega
/-- what is handed out, on both sides -/
theorem RE.same (h : RE n room ph H L t) {x : Nat} (hx : x < n) (hl : ¬ Low ph n x) {srt : Bool} {lt : Int × Int → Int × Int → Bool} (hlt : ∀ a b, lt a b = (srt && decide (a.1 < b.1))) {S S' : Nat} (hS : sm (gln H x (par (ph x - 1)) (dueJ ph n x)) (dueN ph n x) = S) (hS' : (L.filter (mq x (ph x - 1))).length = S') {d : Nat → Int × Int} (hst : Stb lt 0 S (gKn H x (par (ph x - 1)) (dueJ ph n x) (dueN ph n x)) d) (hsr : Srt lt 0 S d) {c : Nat → Lt} (hc : ∀ p q, p < q → q < S' → RL srt (c p) (c q)) (hm : ∀ l, (∃ p, p < S' ∧ c p = l) ↔ l ∈ L.filter (mq x (ph x - 1))) : S = S' ∧ ∀ i, i < S → d i = kv (c i) := by
  have hlist := gK_list H x (par (ph x - 1)) (dueJ ph n x) (dueN ph n x)
  rw [due_list, hS] at hlist
  obtain ⟨c0, hc0⟩ : ∃ c0, gKn H x (par (ph x - 1)) (dueJ ph n x) (dueN ph n x) = c0 := ⟨_, rfl⟩
  rw [hc0] at hst hlist
  have hmem0 : ∀ v, (∃ p, p < S ∧ c0 p = v) ↔ ∃ l, l ∈ L.filter (mq x (ph x - 1)) ∧ kv l = v := fun v => by
    rw [← h.dueMem hx hl v, ← hlist, List.mem_map]
    constructor
    · rintro ⟨p, h1, h2⟩; exact ⟨p, List.mem_range.2 h1, h2⟩
    · rintro ⟨p, h1, h2⟩; exact ⟨p, List.mem_range.1 h1, h2⟩
  have hpw0 : ∀ p q, p < q → q < S → QP L (c0 p) (c0 q) := fun p q h1 h2 => by
    have := h.dueList hx
    rw [← hlist, List.pairwise_map, List.pairwise_iff_getElem] at this
    have := this p q (by simp; omega) (by simpa using h2) h1
    simpa using this
  obtain ⟨f, g, hf⟩ := hst
  have hdm : ∀ v, (∃ p, p < S ∧ d p = v) ↔ ∃ l, l ∈ L.filter (mq x (ph x - 1)) ∧ kv l = v := fun v => by
    rw [← hmem0 v]
    constructor
    · rintro ⟨p, h1, h2⟩
      exact ⟨f p, (hf.inr p (Nat.zero_le _) h1).2, by rw [← hf.val]; exact h2⟩
    · rintro ⟨p, h1, h2⟩
      have h3 : g p < S := by
        rcases Nat.lt_or_ge (g p) S with h4 | h4
        · exact h4
        · have := hf.out (g p) (by omega)
          rw [hf.ri] at this
          omega
      exact ⟨g p, h3, by rw [hf.val, hf.ri]; exact h2⟩
  have hdr : ∀ p q, p < q → q < S → RPP srt L (d p) (d q) := fun p q h1 h2 => by
    have h3 := hsr p q (Nat.zero_le _) h1 h2
    have h4 := hf.st p q h1
    rw [hlt] at h3 h4
    unfold RPP RL
    simp only
    cases srt with
    | false =>
      simp at h4
      have h5 := hpw0 (f p) (f q) h4 (hf.inr q (Nat.zero_le _) h2).2
      rw [← hf.val, ← hf.val] at h5
      exact .inr ⟨fun e => (by cases e), h5⟩
    | true =>
      simp at h3 h4
      by_cases h6 : (d p).1 < (d q).1
      · exact .inl ⟨rfl, h6⟩
      · have h7 := h4.resolve_right h6
        have h5 := hpw0 (f p) (f q) h7 (hf.inr q (Nat.zero_le _) h2).2
        rw [← hf.val, ← hf.val] at h5
        exact .inr ⟨fun _ => by omega, h5⟩
  have hinL : ∀ p, p < S' → c p ∈ L := fun p hp => (List.mem_filter.1 ((hm (c p)).1 ⟨p, hp, rfl⟩)).1
  exact two_one (R := RPP srt L) (fun a => RL.irr) (fun a b c h1 h2 => RL.tr h1 h2) (a := d) (b := fun i => kv (c i)) hdr (fun p q h1 h2 => (RPP_kv h.inc (hinL p (by omega)) (hinL q h2)).2 (hc p q h1 h2)) (fun v => by
    rw [hdm v]
    constructor
    · rintro ⟨l, h1, h2⟩
      obtain ⟨p, h3, h4⟩ := (hm l).2 h1
      exact ⟨p, h3, by rw [← h2, ← h4]⟩
    · rintro ⟨p, h1, h2⟩
      exact ⟨c p, (hm (c p)).1 ⟨p, h1, rfl⟩, h2⟩)
end Go.Proofs.Ytkfjcbnhohipgaa
