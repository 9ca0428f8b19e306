import Derived.Below
namespace Go.Proofs.YtopggemomcoalaaGreat
set_option linter.unusedVariables false

/-! ### a program, plainly -/
structure Pg where
  words : Int
  locals : Int
  n : Nat
  op : Nat → Int
  a : Nat → Int
  b : Nat → Int
  m : Nat
  en : Nat → Int

def popTab : List Int := [0, 0, 1, 0, 1, 1, 2, 0, 1, 0, 0, 0, 0, 2, 2, 2, 2, 2, 2, 2, 2, 2, 2, 1, 1, 1, 2, 2, 2, 2, 2, 2, 2, 2, 1, 0, 1, 1, 1, 3, 1, 1]
def pushTab : List Int := [0, 1, 0, 1, 0, 1, 0, 1, 0, 1, 1, 1, 1, 1, 1, 1, 1, 1, 1, 1, 1, 1, 1, 1, 1, 1, 1, 1, 1, 1, 1, 1, 1, 1, 1, 0, 0, 1, 1, 0, 0, 1]
def pops (o : Int) : Int := popTab.getD o.toNat 0
def pushes (o : Int) : Int := pushTab.getD o.toNat 0
def jmp (o : Int) : Bool := o == 35 || o == 36
def ends (o : Int) : Bool := o == 0 || o == 35 || o == 40
theorem tab_mem {l : List Int} {k : Nat} {P : Int → Prop} (h0 : P 0) (h : ∀ x ∈ l, P x) : P (l.getD k 0) := by
  rw [List.getD_eq_getElem?_getD]
  rcases hk : l[k]? with _ | x
  · exact h0
  · exact h x (List.mem_of_getElem? hk)
theorem pops_b (o : Int) : 0 ≤ pops o ∧ pops o ≤ 3 := tab_mem (P := fun x => 0 ≤ x ∧ x ≤ 3) (by decide) (by decide)
theorem pushes_b (o : Int) : 0 ≤ pushes o ∧ pushes o ≤ 1 := tab_mem (P := fun x => 0 ≤ x ∧ x ≤ 1) (by decide) (by decide)

/-- the numbers are such as may stand there -/
structure Gd (P : Pg) : Prop where
  op : ∀ i, i < P.n → 0 ≤ P.op i ∧ P.op i < 42
  a : ∀ i, i < P.n → jmp (P.op i) = true → 0 ≤ P.a i ∧ P.a i < P.n
  en : ∀ j, j < P.m → -1 ≤ P.en j ∧ P.en j < P.n

inductive Rch (P : Pg) : Nat → Prop
  | entry (j : Nat) (hj : j < P.m) (h : 0 ≤ P.en j) : Rch P (P.en j).toNat
  | next (i : Nat) (h : Rch P i) (hi : i < P.n) (he : ends (P.op i) = false) : Rch P (i + 1)
  | jump (i : Nat) (h : Rch P i) (hi : i < P.n) (he : jmp (P.op i) = true) : Rch P (P.a i).toNat
def fine (P : Pg) (i : Nat) (d : Int) : Prop := 0 ≤ d - pops (P.op i) ∧ d - pops (P.op i) + pushes (P.op i) ≤ 64
instance (P : Pg) (i : Nat) (d : Int) : Decidable (fine P i d) := by unfold fine; exact inferInstance
def aft (P : Pg) (i : Nat) (d : Int) : Int := d - pops (P.op i) + pushes (P.op i)
theorem aft_nn {P : Pg} {i : Nat} {d : Int} (h : fine P i d) : 0 ≤ aft P i d := by
  have := pushes_b (P.op i)
  unfold aft
  have := h.1
  omega
inductive Dp (P : Pg) : Nat → Int → Prop
  | entry (j : Nat) (hj : j < P.m) (h : 0 ≤ P.en j) : Dp P (P.en j).toNat 0
  | next (i : Nat) (d : Int) (h : Dp P i d) (hi : i < P.n) (hf : fine P i d) (he : ends (P.op i) = false) : Dp P (i + 1) (aft P i d)
  | jump (i : Nat) (d : Int) (h : Dp P i d) (hi : i < P.n) (hf : fine P i d) (he : jmp (P.op i) = true) : Dp P (P.a i).toNat (aft P i d)
def BadD (P : Pg) : Prop := (∃ i d, Dp P i d ∧ i < P.n ∧ ¬ fine P i d) ∨ ∃ i d d', Dp P i d ∧ Dp P i d' ∧ i < P.n ∧ d ≠ d'
theorem Dp.rch {P : Pg} {i : Nat} {d : Int} (h : Dp P i d) : Rch P i := by
  induction h with
  | entry j hj h => exact .entry j hj h
  | next i d h hi hf he ih => exact .next i ih hi he
  | jump i d h hi hf he ih => exact .jump i ih hi he
theorem Dp.nn {P : Pg} {i : Nat} {d : Int} (h : Dp P i d) : 0 ≤ d := by
  cases h with
  | entry j hj h => omega
  | next i d h hi hf he => exact aft_nn hf
  | jump i d h hi hf he => exact aft_nn hf
theorem Rch.le {P : Pg} (g : Gd P) {i : Nat} (h : Rch P i) : i ≤ P.n := by
  cases h with
  | entry j hj h => have := g.en j hj; omega
  | next i h hi he => omega
  | jump i h hi he => have := g.a i hi he; omega

/-- all depths are known, and agree -/
structure Sol (P : Pg) (L : Nat → Int) : Prop where
  dp : ∀ i, i < P.n → L i ≠ -1 → Dp P i (L i)
  en : ∀ j, j < P.m → 0 ≤ P.en j → L (P.en j).toNat = 0
  fine : ∀ i, i < P.n → L i ≠ -1 → fine P i (L i)
  next : ∀ i, i < P.n → L i ≠ -1 → ends (P.op i) = false → L (i + 1) = aft P i (L i)
  jump : ∀ i, i < P.n → L i ≠ -1 → jmp (P.op i) = true → L (P.a i).toNat = aft P i (L i)
theorem Sol.eq {P : Pg} (g : Gd P) (hn : ¬ Rch P P.n) {L : Nat → Int} (s : Sol P L) {i : Nat} {d : Int} (h : Dp P i d) : i < P.n ∧ L i = d := by
  refine ⟨?_, ?_⟩
  · have h1 := h.rch.le g
    rcases Nat.lt_or_eq_of_le h1 with h2 | h2
    · exact h2
    · subst h2; exact absurd h.rch hn
  · induction h with
    | entry j hj h => exact s.en j hj h
    | next i d h hi hf he ih => rw [s.next i hi (by rw [ih]; have := h.nn; omega) he, ih]
    | jump i d h hi hf he ih => rw [s.jump i hi (by rw [ih]; have := h.nn; omega) he, ih]
theorem Sol.good {P : Pg} (g : Gd P) (hn : ¬ Rch P P.n) {L : Nat → Int} (s : Sol P L) : ¬ BadD P := by
  rintro (⟨i, d, h, hi, hf⟩ | ⟨i, d, d', h, h', hi, hne⟩)
  · have e := (s.eq g hn h).2
    apply hf
    have := s.fine i hi (by rw [e]; have := h.nn; omega)
    rwa [e] at this
  · exact hne ((s.eq g hn h).2.symm.trans (s.eq g hn h').2)
open Classical in
/-- the depth at a place, -1 where there is none -/
noncomputable def dL (P : Pg) (i : Nat) : Int := if h : ∃ d, Dp P i d then Classical.choose h else -1
theorem Sol.dL {P : Pg} (g : Gd P) (hn : ¬ Rch P P.n) {L : Nat → Int} (s : Sol P L) {i : Nat} (hi : i < P.n) : L i = dL P i := by
  unfold Go.Proofs.YtopggemomcoalaaGreat.dL
  by_cases h : ∃ d, Dp P i d
  · rw [dif_pos h]
    exact (s.eq g hn (Classical.choose_spec h)).2
  · rw [dif_neg h]
    apply Classical.byContradiction
    intro hne
    exact h ⟨_, s.dp i hi hne⟩
theorem sol_dL {P : Pg} (g : Gd P) (hn : ¬ Rch P P.n) (hb : ¬ BadD P) : Sol P (dL P) := by
  have key : ∀ {i d}, Dp P i d → i < P.n ∧ dL P i = d := by
    intro i d h
    have hi : i < P.n := by
      have h1 := h.rch.le g
      rcases Nat.lt_or_eq_of_le h1 with h2 | h2
      · exact h2
      · subst h2; exact absurd h.rch hn
    refine ⟨hi, ?_⟩
    have he : ∃ d, Dp P i d := ⟨d, h⟩
    unfold dL
    rw [dif_pos he]
    apply Classical.byContradiction
    intro hne
    exact hb (.inr ⟨i, _, _, Classical.choose_spec he, h, hi, hne⟩)
  have bk : ∀ i, dL P i ≠ -1 → Dp P i (dL P i) := by
    intro i h
    by_cases he : ∃ d, Dp P i d
    · obtain ⟨d, hd⟩ := he
      rw [(key hd).2]
      exact hd
    · exact absurd (by unfold dL; rw [dif_neg he]) h
  refine ⟨fun i _ h => bk i h, fun j hj h => (key (.entry j hj h)).2, fun i hi h => ?_, fun i hi h he => ?_, fun i hi h he => ?_⟩
  · apply Classical.byContradiction
    intro hf
    exact hb (.inl ⟨i, _, bk i h, hi, hf⟩)
  · have hf : fine P i (dL P i) := by
      apply Classical.byContradiction
      intro hf
      exact hb (.inl ⟨i, _, bk i h, hi, hf⟩)
    exact (key (.next i _ (bk i h) hi hf he)).2
  · have hf : fine P i (dL P i) := by
      apply Classical.byContradiction
      intro hf
      exact hb (.inl ⟨i, _, bk i h, hi, hf⟩)
    exact (key (.jump i _ (bk i h) hi hf he)).2

/-! ### the survey -/
def updI (L : Nat → Int) (k : Nat) (d : Int) : Nat → Int := fun i => if i = k then d else L i
theorem updI_at (L : Nat → Int) (k : Nat) (d : Int) : updI L k d k = d := by unfold updI; rw [if_pos rfl]
theorem updI_ne (L : Nat → Int) {k i : Nat} (d : Int) (h : i ≠ k) : updI L k d i = L i := by unfold updI; rw [if_neg h]
structure Sv where
  L : Nat → Int
  S : List Nat
  bey : Bool
  un : Bool
/-- arrive -/
def arr (n : Nat) (s : Sv) (k : Nat) (d : Int) : Sv :=
  if k = n then { s with bey := true }
  else if s.L k = -1 then { s with L := updI s.L k d, S := s.S ++ [k] }
  else if s.L k = d then s
  else { s with un := true }
/-- goOn -/
def gon (P : Pg) (s : Sv) (k : Nat) : Sv :=
  let bad := decide (s.L k - pops (P.op k) < 0) || decide (64 < s.L k - pops (P.op k) + pushes (P.op k))
  let d := (if bad then 0 else s.L k - pops (P.op k)) + pushes (P.op k)
  let s1 := { s with un := s.un || bad }
  let s2 := if jmp (P.op k) then arr P.n s1 (P.a k).toNat d else s1
  if ends (P.op k) then s2 else arr P.n s2 (k + 1) d

/-- what holds all the time, but for the places in S and Y, which are yet to be gone on from -/
structure Inv (P : Pg) (s : Sv) (Y : Nat → Prop) (m : Nat) : Prop where
  rch : ∀ i, i < P.n → s.L i ≠ -1 → Rch P i
  bey : s.bey = true → Rch P P.n
  ent : ∀ j, j < m → 0 ≤ P.en j → s.L (P.en j).toNat ≠ -1
  nx : ∀ i, i < P.n → s.L i ≠ -1 → ¬ (i ∈ s.S ∨ Y i) → ends (P.op i) = false → (i + 1 = P.n ∧ s.bey = true) ∨ (i + 1 < P.n ∧ s.L (i + 1) ≠ -1)
  jp : ∀ i, i < P.n → s.L i ≠ -1 → ¬ (i ∈ s.S ∨ Y i) → jmp (P.op i) = true → s.L (P.a i).toNat ≠ -1
  st : ∀ i, i ∈ s.S → i < P.n ∧ s.L i ≠ -1
  un : s.un = true → BadD P
  dp : s.un = false → ∀ i, i < P.n → s.L i ≠ -1 → Dp P i (s.L i)
  ent0 : s.un = false → ∀ j, j < m → 0 ≤ P.en j → s.L (P.en j).toNat = 0
  fin : s.un = false → ∀ i, i < P.n → s.L i ≠ -1 → ¬ (i ∈ s.S ∨ Y i) → fine P i (s.L i)
  nx0 : s.un = false → ∀ i, i < P.n → s.L i ≠ -1 → ¬ (i ∈ s.S ∨ Y i) → ends (P.op i) = false → i + 1 < P.n → s.L (i + 1) = aft P i (s.L i)
  jp0 : s.un = false → ∀ i, i < P.n → s.L i ≠ -1 → ¬ (i ∈ s.S ∨ Y i) → jmp (P.op i) = true → s.L (P.a i).toNat = aft P i (s.L i)
  wide : ∀ i, i < P.n → -1 ≤ s.L i ∧ s.L i ≤ 64
theorem arr_keep {n : Nat} {s : Sv} {k : Nat} {d : Int} {i : Nat} (h : s.L i ≠ -1) : (arr n s k d).L i = s.L i := by
  unfold arr
  by_cases h1 : k = n
  · rw [if_pos h1]
  · rw [if_neg h1]
    by_cases h2 : s.L k = -1
    · rw [if_pos h2]
      exact updI_ne _ _ (by rintro rfl; exact h h2)
    · rw [if_neg h2]
      by_cases h3 : s.L k = d
      · rw [if_pos h3]
      · rw [if_neg h3]
theorem arr_at {n : Nat} {s : Sv} {k : Nat} {d : Int} (hd : d ≠ -1) (hk : k ≠ n) : (arr n s k d).L k ≠ -1 := by
  unfold arr
  rw [if_neg hk]
  by_cases h2 : s.L k = -1
  · rw [if_pos h2]
    show updI s.L k d k ≠ -1
    rw [updI_at]
    exact hd
  · rw [if_neg h2]
    by_cases h3 : s.L k = d
    · rw [if_pos h3]; exact h2
    · rw [if_neg h3]; exact h2
theorem arr_at0 {n : Nat} {s : Sv} {k : Nat} {d : Int} (hk : k ≠ n) (h : (arr n s k d).un = false) : (arr n s k d).L k = d := by
  revert h
  unfold arr
  rw [if_neg hk]
  by_cases h2 : s.L k = -1
  · rw [if_pos h2]
    intro _
    exact updI_at _ _ _
  · rw [if_neg h2]
    by_cases h3 : s.L k = d
    · rw [if_pos h3]; intro _; exact h3
    · rw [if_neg h3]; intro h; cases h
theorem arr_bey {n : Nat} {s : Sv} {k : Nat} {d : Int} : (arr n s k d).bey = (s.bey || decide (k = n)) := by
  unfold arr
  by_cases h1 : k = n
  · simp [h1]
  · rw [if_neg h1]
    by_cases h2 : s.L k = -1
    · rw [if_pos h2]; simp [h1]
    · rw [if_neg h2]
      by_cases h3 : s.L k = d
      · rw [if_pos h3]; simp [h1]
      · rw [if_neg h3]; simp [h1]
theorem arr_un {n : Nat} {s : Sv} {k : Nat} {d : Int} (h : (arr n s k d).un = false) : s.un = false := by
  revert h
  unfold arr
  by_cases h1 : k = n
  · rw [if_pos h1]; exact id
  · rw [if_neg h1]
    by_cases h2 : s.L k = -1
    · rw [if_pos h2]; exact id
    · rw [if_neg h2]
      by_cases h3 : s.L k = d
      · rw [if_pos h3]; exact id
      · rw [if_neg h3]; intro h; cases h
theorem Inv.arr {P : Pg} {s : Sv} {Y : Nat → Prop} {m k : Nat} {d : Int} (h : Inv P s Y m) (hk : k ≤ P.n) (hr : Rch P k) (hd : 0 ≤ d ∧ d ≤ 64) (hdp : s.un = false → Dp P k d) : Inv P (arr P.n s k d) Y m := by
  unfold Go.Proofs.YtopggemomcoalaaGreat.arr
  by_cases h1 : k = P.n
  · rw [if_pos h1]
    exact ⟨h.rch, fun _ => h1 ▸ hr, h.ent, fun i hi hl hx he => (h.nx i hi hl hx he).imp (fun h => ⟨h.1, rfl⟩) id, h.jp, h.st, h.un, h.dp, h.ent0, h.fin, h.nx0, h.jp0, h.wide⟩
  · rw [if_neg h1]
    have hkn : k < P.n := by omega
    by_cases h2 : s.L k = -1
    · rw [if_pos h2]
      have ne : ∀ {i}, updI s.L k d i ≠ -1 → i = k ∨ s.L i ≠ -1 := by
        intro i hi
        by_cases e : i = k
        · exact .inl e
        · rw [updI_ne _ _ e] at hi; exact .inr hi
      have up : ∀ {i}, s.L i ≠ -1 → updI s.L k d i = s.L i := fun {i} hi => updI_ne _ _ (by rintro rfl; exact hi h2)
      have up' : ∀ {i}, s.L i ≠ -1 → updI s.L k d i ≠ -1 := fun {i} hi => by rw [up hi]; exact hi
      have old : ∀ {i}, updI s.L k d i ≠ -1 → ¬ (i ∈ s.S ++ [k] ∨ Y i) → s.L i ≠ -1 ∧ ¬ (i ∈ s.S ∨ Y i) := by
        intro i hi hx
        have hik : i ≠ k := by rintro rfl; exact hx (.inl (by simp))
        rw [updI_ne _ _ hik] at hi
        exact ⟨hi, fun hc => hx (hc.imp (fun hc => by simp [hc]) id)⟩
      refine ⟨fun i hi hl => ?_, h.bey, fun j hj he => up' (h.ent j hj he), fun i hi hl hx he => ?_, fun i hi hl hx he => ?_, fun i hi => ?_, h.un, fun hu i hi hl => ?_, fun hu j hj he => ?_, fun hu i hi hl hx => ?_, fun hu i hi hl hx he hin => ?_, fun hu i hi hl hx he => ?_, fun i hi => ?_⟩
      · rcases ne hl with rfl | hl
        · exact hr
        · exact h.rch i hi hl
      · obtain ⟨hl', hx'⟩ := old hl hx
        exact (h.nx i hi hl' hx' he).imp id (fun h => ⟨h.1, up' h.2⟩)
      · obtain ⟨hl', hx'⟩ := old hl hx
        exact up' (h.jp i hi hl' hx' he)
      · rcases List.mem_append.1 hi with hi | hi
        · exact ⟨(h.st i hi).1, up' (h.st i hi).2⟩
        · obtain rfl := List.mem_singleton.1 hi
          exact ⟨hkn, by show updI s.L i d i ≠ -1; rw [updI_at]; omega⟩
      · rcases ne hl with rfl | hl'
        · show Dp P i (updI s.L i d i)
          rw [updI_at]
          exact hdp hu
        · show Dp P i (updI s.L k d i)
          rw [up hl']
          exact h.dp hu i hi hl'
      · show updI s.L k d _ = 0
        rw [up (h.ent j hj he)]
        exact h.ent0 hu j hj he
      · obtain ⟨hl', hx'⟩ := old hl hx
        show fine P i (updI s.L k d i)
        rw [up hl']
        exact h.fin hu i hi hl' hx'
      · obtain ⟨hl', hx'⟩ := old hl hx
        have e := h.nx0 hu i hi hl' hx' he hin
        rcases h.nx i hi hl' hx' he with ⟨h3, _⟩ | ⟨_, h3⟩
        · omega
        · show updI s.L k d (i + 1) = aft P i (updI s.L k d i)
          rw [up h3, up hl', e]
      · obtain ⟨hl', hx'⟩ := old hl hx
        show updI s.L k d _ = aft P i (updI s.L k d i)
        rw [up (h.jp i hi hl' hx' he), up hl']
        exact h.jp0 hu i hi hl' hx' he
      · show -1 ≤ updI s.L k d i ∧ updI s.L k d i ≤ 64
        by_cases e : i = k
        · subst e; rw [updI_at]; omega
        · rw [updI_ne _ _ e]; exact h.wide i hi
    · rw [if_neg h2]
      by_cases h3 : s.L k = d
      · rw [if_pos h3]; exact h
      · rw [if_neg h3]
        have hbad : BadD P := by
          by_cases hu : s.un = true
          · exact h.un hu
          · have hu' : s.un = false := by simpa using hu
            exact .inr ⟨k, _, _, h.dp hu' k hkn h2, hdp hu', hkn, h3⟩
        exact ⟨h.rch, h.bey, h.ent, h.nx, h.jp, h.st, fun _ => hbad, fun hu => (by cases hu), fun hu => (by cases hu), fun hu => (by cases hu), fun hu => (by cases hu), fun hu => (by cases hu), h.wide⟩
/-- a place that is gone on from -/
theorem Inv.gon {P : Pg} (g : Gd P) {s : Sv} {m k : Nat} (h : Inv P s (fun i => i = k) m) (hk : k < P.n) (hl : s.L k ≠ -1) : Inv P (gon P s k) (fun _ => False) m := by
  have hpp := pops_b (P.op k)
  have hpu := pushes_b (P.op k)
  have hw := h.wide k hk
  have hrk := h.rch k hk hl
  have hb : ∃ bad, (decide (s.L k - pops (P.op k) < 0) || decide (64 < s.L k - pops (P.op k) + pushes (P.op k))) = bad := ⟨_, rfl⟩
  obtain ⟨bad, hbad⟩ := hb
  have hfine : bad = false ↔ fine P k (s.L k) := by
    rw [← hbad]
    unfold fine
    simp
  have hgo : Go.Proofs.YtopggemomcoalaaGreat.gon P s k = (let d := (if bad then 0 else s.L k - pops (P.op k)) + pushes (P.op k)
      let s1 : Sv := { s with un := s.un || bad }
      let s2 := if jmp (P.op k) then Go.Proofs.YtopggemomcoalaaGreat.arr P.n s1 (P.a k).toNat d else s1
      if ends (P.op k) then s2 else Go.Proofs.YtopggemomcoalaaGreat.arr P.n s2 (k + 1) d) := by
    unfold Go.Proofs.YtopggemomcoalaaGreat.gon
    rw [hbad]
  rw [hgo]
  obtain ⟨d, hd⟩ : ∃ d, (if bad then 0 else s.L k - pops (P.op k)) + pushes (P.op k) = d := ⟨_, rfl⟩
  obtain ⟨s1, hs1⟩ : ∃ s1 : Sv, { s with un := s.un || bad } = s1 := ⟨_, rfl⟩
  simp only [hd, hs1]
  have s1L : s1.L = s.L := by rw [← hs1]
  have s1S : s1.S = s.S := by rw [← hs1]
  have s1b : s1.bey = s.bey := by rw [← hs1]
  have s1u : s1.un = (s.un || bad) := by rw [← hs1]
  have hun : s1.un = false → s.un = false ∧ fine P k (s.L k) ∧ d = aft P k (s.L k) := by
    intro hu
    rw [s1u] at hu
    simp at hu
    refine ⟨hu.1, hfine.1 hu.2, ?_⟩
    rw [← hd, hu.2]
    rfl
  have hd64 : 0 ≤ d ∧ d ≤ 64 := by
    rw [← hd]
    rcases hbb : bad with _ | _
    · have := hfine.1 hbb
      unfold fine at this
      simp
      omega
    · simp
      omega
  have i1 : Inv P s1 (fun i => i = k) m := by
    refine ⟨by rw [s1L]; exact h.rch, by rw [s1b]; exact h.bey, by rw [s1L]; exact h.ent, by rw [s1L, s1S, s1b]; exact h.nx, by rw [s1L, s1S]; exact h.jp, by rw [s1L, s1S]; exact h.st, ?_, ?_, ?_, ?_, ?_, ?_, by rw [s1L]; exact h.wide⟩
    · intro hu
      rw [s1u] at hu
      by_cases hu' : s.un = true
      · exact h.un hu'
      · simp at hu'
        rw [hu', Bool.false_or] at hu
        refine .inl ⟨k, _, h.dp hu' k hk hl, hk, fun hf => ?_⟩
        rw [hfine.2 hf] at hu
        cases hu
    · rw [s1L]; intro hu; exact h.dp (hun hu).1
    · rw [s1L]; intro hu; exact h.ent0 (hun hu).1
    · rw [s1L, s1S]; intro hu; exact h.fin (hun hu).1
    · rw [s1L, s1S]; intro hu; exact h.nx0 (hun hu).1
    · rw [s1L, s1S]; intro hu; exact h.jp0 (hun hu).1
  have hdp1 : s1.un = false → Dp P k (s.L k) ∧ fine P k (s.L k) ∧ d = aft P k (s.L k) := fun hu => ⟨h.dp (hun hu).1 k hk hl, (hun hu).2⟩
  obtain ⟨s2, hs2⟩ : ∃ s2, (if jmp (P.op k) then Go.Proofs.YtopggemomcoalaaGreat.arr P.n s1 (P.a k).toNat d else s1) = s2 := ⟨_, rfl⟩
  rw [hs2]
  have f2 : Inv P s2 (fun i => i = k) m ∧ s2.L k = s.L k ∧ (s2.un = false → s1.un = false) ∧ (jmp (P.op k) = true → s2.L (P.a k).toNat ≠ -1 ∧ (s2.un = false → s2.L (P.a k).toNat = d)) := by
    rw [← hs2]
    by_cases hj : jmp (P.op k) = true
    · rw [if_pos hj]
      have ha := g.a k hk hj
      have hne : (P.a k).toNat ≠ P.n := by omega
      refine ⟨i1.arr (by omega) (.jump k hrk hk hj) hd64 (fun hu => by rw [(hdp1 hu).2.2]; exact .jump k _ (hdp1 hu).1 hk (hdp1 hu).2.1 hj), ?_, arr_un, fun _ => ⟨arr_at (by omega) hne, arr_at0 hne⟩⟩
      rw [arr_keep (by rw [s1L]; exact hl), s1L]
    · rw [if_neg hj]
      exact ⟨i1, by rw [s1L], id, fun hj' => absurd hj' hj⟩
  obtain ⟨i2, l2, u2, j2⟩ := f2
  obtain ⟨s3, hs3⟩ : ∃ s3, (if ends (P.op k) then s2 else Go.Proofs.YtopggemomcoalaaGreat.arr P.n s2 (k + 1) d) = s3 := ⟨_, rfl⟩
  rw [hs3]
  have f3 : Inv P s3 (fun i => i = k) m ∧ s3.L k = s.L k ∧ (s3.un = false → s1.un = false) ∧ (jmp (P.op k) = true → s3.L (P.a k).toNat ≠ -1 ∧ (s3.un = false → s3.L (P.a k).toNat = d)) ∧ (ends (P.op k) = false → ((k + 1 = P.n ∧ s3.bey = true) ∨ (k + 1 < P.n ∧ s3.L (k + 1) ≠ -1)) ∧ (s3.un = false → k + 1 < P.n → s3.L (k + 1) = d)) := by
    rw [← hs3]
    by_cases he : ends (P.op k) = true
    · rw [if_pos he]
      exact ⟨i2, l2, u2, j2, fun he' => by rw [he] at he'; cases he'⟩
    · rw [if_neg he]
      have he' : ends (P.op k) = false := by simpa using he
      refine ⟨i2.arr (by omega) (.next k hrk hk he') hd64 (fun hu => by rw [(hdp1 (u2 hu)).2.2]; exact .next k _ (hdp1 (u2 hu)).1 hk (hdp1 (u2 hu)).2.1 he'), ?_, fun hu => u2 (arr_un hu), fun hj => ⟨?_, fun hu => ?_⟩, fun _ => ⟨?_, fun hu hlt => arr_at0 (by omega) hu⟩⟩
      · rw [arr_keep (by rw [l2]; exact hl), l2]
      · rw [arr_keep (j2 hj).1]; exact (j2 hj).1
      · rw [arr_keep (j2 hj).1]; exact (j2 hj).2 (arr_un hu)
      · by_cases e : k + 1 = P.n
        · refine .inl ⟨e, ?_⟩
          rw [arr_bey]
          simp [e]
        · exact .inr ⟨by omega, arr_at (by omega) e⟩
  obtain ⟨i3, l3, u3, j3, n3⟩ := f3
  have split : ∀ {i}, ¬ (i ∈ s3.S ∨ False) → i = k ∨ ¬ (i ∈ s3.S ∨ i = k) := by
    intro i hx
    by_cases e : i = k
    · exact .inl e
    · exact .inr (fun hc => hc.elim (fun hc => hx (.inl hc)) e)
  refine ⟨i3.rch, i3.bey, i3.ent, fun i hi hl hx he => ?_, fun i hi hl hx he => ?_, i3.st, i3.un, i3.dp, i3.ent0, fun hu i hi hl hx => ?_, fun hu i hi hl hx he hin => ?_, fun hu i hi hl hx he => ?_, i3.wide⟩
  · rcases split hx with rfl | hx
    · exact (n3 he).1
    · exact i3.nx i hi hl hx he
  · rcases split hx with rfl | hx
    · exact (j3 he).1
    · exact i3.jp i hi hl hx he
  · rcases split hx with rfl | hx
    · rw [l3]; exact (hdp1 (u3 hu)).2.1
    · exact i3.fin hu i hi hl hx
  · rcases split hx with rfl | hx
    · rw [l3, (n3 he).2 hu hin]; exact (hdp1 (u3 hu)).2.2
    · exact i3.nx0 hu i hi hl hx he hin
  · rcases split hx with rfl | hx
    · rw [l3, (j3 he).2 hu]; exact (hdp1 (u3 hu)).2.2
    · exact i3.jp0 hu i hi hl hx he
/-- nothing is left to be gone on from -/
theorem Inv.done {P : Pg} (g : Gd P) {s : Sv} (h : Inv P s (fun _ => False) P.m) (hS : s.S = []) : (s.bey = true ↔ Rch P P.n) ∧ (¬ Rch P P.n → (s.un = true ↔ BadD P) ∧ (s.un = false → Sol P s.L)) := by
  have hx : ∀ i, ¬ (i ∈ s.S ∨ False) := by intro i hc; rw [hS] at hc; simp at hc
  have all : ∀ i, Rch P i → (i < P.n ∧ s.L i ≠ -1) ∨ (i = P.n ∧ s.bey = true) := by
    intro i hr
    induction hr with
    | entry j hj he => exact .inl ⟨by have := g.en j hj; omega, h.ent j hj he⟩
    | next i hr hi he ih =>
      rcases ih with ⟨_, hl⟩ | ⟨e, _⟩
      · rcases h.nx i hi hl (hx i) he with h1 | h1
        · exact .inr h1
        · exact .inl h1
      · omega
    | jump i hr hi he ih =>
      rcases ih with ⟨_, hl⟩ | ⟨e, _⟩
      · exact .inl ⟨by have := g.a i hi he; omega, h.jp i hi hl (hx i) he⟩
      · omega
  refine ⟨⟨h.bey, fun hr => ?_⟩, fun hr => ?_⟩
  · rcases all _ hr with ⟨h1, _⟩ | ⟨_, h1⟩
    · omega
    · exact h1
  · have hsol : s.un = false → Sol P s.L := fun hu => ⟨h.dp hu, h.ent0 hu, fun i hi hl => h.fin hu i hi hl (hx i), fun i hi hl he => by
      rcases h.nx i hi hl (hx i) he with ⟨_, h1⟩ | ⟨h1, _⟩
      · exact absurd (h.bey h1) hr
      · exact h.nx0 hu i hi hl (hx i) he h1, fun i hi hl he => h.jp0 hu i hi hl (hx i) he⟩
    refine ⟨⟨h.un, fun hb => ?_⟩, hsol⟩
    rcases hu : s.un with _ | _
    · exact absurd hb ((hsol hu).good g hr)
    · rfl
/-- how much is left -/
def left (n : Nat) (L : Nat → Int) : Nat := ((List.range n).filter fun i => L i == -1).length
theorem left_upd {n : Nat} {L : Nat → Int} {k : Nat} {d : Int} (hk : k < n) (h : L k = -1) (hd : d ≠ -1) : left n (updI L k d) + 1 = left n L := by
  unfold left
  induction n with
  | zero => omega
  | succ n ih =>
    rw [List.range_succ, List.filter_append, List.filter_append, List.length_append, List.length_append]
    by_cases hkn : k = n
    · subst hkn
      have e : ((List.range k).filter fun i => updI L k d i == -1) = (List.range k).filter fun i => L i == -1 := by
        apply List.filter_congr
        intro i hi
        rw [updI_ne _ _ (by have := List.mem_range.1 hi; omega)]
      rw [e]
      have e1 : ([k].filter fun i => updI L k d i == -1) = [] := by simp [updI_at, hd]
      have e2 : ([k].filter fun i => L i == -1) = [k] := by simp [h]
      rw [e1, e2]
      simp
    · have := ih (by omega)
      have e : ([n].filter fun i => updI L k d i == -1) = [n].filter fun i => L i == -1 := by
        apply List.filter_congr
        intro i hi
        rw [updI_ne _ _ (by have := List.mem_singleton.1 hi; omega)]
      rw [e]
      omega
end Go.Proofs.YtopggemomcoalaaGreat
