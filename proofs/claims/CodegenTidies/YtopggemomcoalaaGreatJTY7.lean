import Derived.Test.YtopggemomcoalaaGreatJV7
namespace Go.Proofs.YtopggemomcoalaaGreat
set_option linter.unusedVariables false
set_option linter.unusedSimpArgs false

/-! ### the tidier, plainly: a program that passes, by any labels -/
structure Vf (P : Pg) (L : Nat → Int) : Prop where
  sz : sizedP P
  ins : ∀ i, i < P.n → insE P i = 0
  en : ∀ j, j < P.m → -1 ≤ P.en j ∧ P.en j < P.n
  le : ∀ j, j < P.m → 0 ≤ P.en j → L (P.en j).toNat = 0
  nn : ∀ i, i < P.n → -1 ≤ L i
  fn : ∀ i, i < P.n → L i ≠ -1 → fine P i (L i)
  nx : ∀ i, i < P.n → L i ≠ -1 → ends (P.op i) = false → i + 1 < P.n ∧ L (i + 1) = aft P i (L i)
  jp : ∀ i, i < P.n → L i ≠ -1 → jmp (P.op i) = true → L (P.a i).toNat = aft P i (L i)
theorem ferr_all {f : Nat → Int} : ∀ {k i : Nat}, (∀ j, i ≤ j → j < i + k → f j = 0) → ferr f i k = 0
  | 0, i, _ => rfl
  | k + 1, i, h => by
    show (if f i ≠ 0 then f i else ferr f (i + 1) k) = 0
    rw [if_neg (by rw [h i (Nat.le_refl _) (by omega)]; simp)]
    exact ferr_all fun j h1 h2 => h j (by omega) (by omega)
theorem Vf.gd {P : Pg} {L : Nat → Int} (v : Vf P L) : Gd P := ⟨fun i hi => (ins_good (v.ins i hi)).1, fun i hi hj => (ins_good (v.ins i hi)).2 hj, v.en⟩
theorem Vf.rch {P : Pg} {L : Nat → Int} (v : Vf P L) {i : Nat} (h : Rch P i) : i < P.n ∧ L i ≠ -1 := by
  have g := v.gd
  induction h with
  | entry j hj h =>
    have h1 := v.en j hj
    have h2 := v.le j hj h
    exact ⟨by omega, by rw [h2]; decide⟩
  | next i h hi he ih =>
    obtain ⟨h1, h2⟩ := v.nx i hi ih.2 he
    have := aft_nn (v.fn i hi ih.2)
    exact ⟨h1, by rw [h2]; omega⟩
  | jump i h hi he ih =>
    have h2 := v.jp i hi ih.2 he
    have := aft_nn (v.fn i hi ih.2)
    have := g.a i hi he
    exact ⟨by omega, by rw [h2]; omega⟩
theorem Vf.dp {P : Pg} {L : Nat → Int} (v : Vf P L) {i : Nat} {d : Int} (h : Dp P i d) : i < P.n ∧ L i = d := by
  induction h with
  | entry j hj h => have h1 := v.en j hj; exact ⟨by omega, v.le j hj h⟩
  | next i d h hi hf he ih =>
    have hl : L i ≠ -1 := by rw [ih.2]; have := h.nn; omega
    obtain ⟨h1, h2⟩ := v.nx i hi hl he
    exact ⟨h1, by rw [h2, ih.2]⟩
  | jump i d h hi hf he ih =>
    have hl : L i ≠ -1 := by rw [ih.2]; have := h.nn; omega
    have h2 := v.jp i hi hl he
    have := v.gd.a i hi he
    exact ⟨by omega, by rw [h2, ih.2]⟩
theorem Vf.notn {P : Pg} {L : Nat → Int} (v : Vf P L) : ¬ Rch P P.n := fun h => Nat.lt_irrefl _ (v.rch h).1
theorem Vf.good {P : Pg} {L : Nat → Int} (v : Vf P L) : ¬ BadD P := by
  rintro (⟨i, d, h, hi, hf⟩ | ⟨i, d, d', h, h', hi, hne⟩)
  · have h1 := v.dp h
    have hl : L i ≠ -1 := by rw [h1.2]; have := h.nn; omega
    have := v.fn i hi hl
    rw [h1.2] at this
    exact hf this
  · exact hne ((v.dp h).2.symm.trans (v.dp h').2)
theorem Vf.code {P : Pg} {L : Nat → Int} (v : Vf P L) : dcode P P.m = 0 :=
  dcode_5 v.sz (ferr_all fun j _ hj => v.ins j (by omega)) (ferr_all fun j _ hj => by unfold entE; rw [if_pos (v.en j (by omega))]) v.notn v.good
theorem vf_of {P : Pg} {kinds : Int} (h : dcode P kinds = 0) : kinds = P.m ∧ Vf P (dL P) := by
  obtain ⟨h1, h2, h3, h4, h5, h6⟩ := dcode_zero h
  have s := sol_dL h4 h5 h6
  have hd : ∀ i, dL P i ≠ -1 → Dp P i (dL P i) := fun i hi => by
    unfold dL at hi ⊢
    by_cases he : ∃ d, Dp P i d
    · rw [dif_pos he]; exact Classical.choose_spec he
    · rw [dif_neg he] at hi; exact absurd rfl hi
  refine ⟨h1, h2, fun i hi => ferr_zero h3 i (Nat.zero_le _) (by omega), h4.en, s.en, fun i hi => ?_, s.fine, fun i hi hl he => ⟨?_, s.next i hi hl he⟩, s.jump⟩
  · by_cases hl : dL P i = -1
    · omega
    · have := (hd i hl).nn; omega
  · have hr := (Dp.next i _ (hd i hl) hi (s.fine i hi hl) he).rch
    have hle := hr.le h4
    rcases Nat.lt_or_eq_of_le hle with h9 | h9
    · exact h9
    · rw [h9] at hr; exact absurd hr h5
/-- what is not reached has no depth, what is has one -/
theorem Vf.dL {P : Pg} {L : Nat → Int} (v : Vf P L) {i : Nat} (hi : i < P.n) (hr : Rch P i) : dL P i = L i ∧ dL P i ≠ -1 := by
  have hs := sol_dL v.gd v.notn v.good
  have hex : ∃ d, Dp P i d := by
    have key : ∀ {k : Nat}, Rch P k → ∃ d, Dp P k d := fun {k} h => by
      induction h with
      | entry j hj h => exact ⟨_, .entry j hj h⟩
      | next k h hk he ih =>
        obtain ⟨d, hd⟩ := ih
        have h1 := v.dp hd
        exact ⟨_, .next k d hd hk (by rw [← h1.2]; exact v.fn k hk (by rw [h1.2]; have := hd.nn; omega)) he⟩
      | jump k h hk he ih =>
        obtain ⟨d, hd⟩ := ih
        have h1 := v.dp hd
        exact ⟨_, .jump k d hd hk (by rw [← h1.2]; exact v.fn k hk (by rw [h1.2]; have := hd.nn; omega)) he⟩
    exact key hr
  obtain ⟨d, hd⟩ := hex
  have e := (hs.eq v.gd v.notn hd).2
  have e2 := (v.dp hd).2
  have := hd.nn
  exact ⟨by rw [e, e2], by rw [e]; omega⟩
/-! ### jumps -/
def jst (P : Pg) (x : Nat) : Nat := if P.op x = 35 then (P.a x).toNat else x
def jit (P : Pg) : Nat → Nat → Nat
  | 0, x => x
  | k + 1, x => jit P k (jst P x)
theorem jit_add (P : Pg) : ∀ (j k x : Nat), jit P (j + k) x = jit P k (jit P j x)
  | 0, k, x => by rw [Nat.zero_add]; rfl
  | j + 1, k, x => by rw [show j + 1 + k = (j + k) + 1 by omega]; exact jit_add P j k (jst P x)
theorem jit_fix {P : Pg} {x : Nat} (h : P.op x ≠ 35) : ∀ k, jit P k x = x
  | 0 => rfl
  | k + 1 => by show jit P k (jst P x) = x; unfold jst; rw [if_neg h]; exact jit_fix h k
theorem jst_lt {P : Pg} (g : Gd P) {x : Nat} (hx : x < P.n) : jst P x < P.n := by
  unfold jst
  split
  · rename_i h
    have := g.a x hx (by rw [h]; rfl)
    omega
  · exact hx
theorem jit_lt {P : Pg} (g : Gd P) : ∀ (k : Nat) {x : Nat}, x < P.n → jit P k x < P.n
  | 0, x, hx => hx
  | k + 1, x, hx => jit_lt g k (jst_lt g hx)
theorem pops35 : pops 35 = 0 ∧ pushes 35 = 0 := by decide
theorem jst_L {P : Pg} {L : Nat → Int} (v : Vf P L) {x : Nat} (hx : x < P.n) (hl : L x ≠ -1) : L (jst P x) = L x := by
  unfold jst
  split
  · rename_i h
    have h2 := v.jp x hx hl (by rw [h]; rfl)
    unfold aft at h2
    rw [h, pops35.1, pops35.2] at h2
    omega
  · rfl
theorem jit_L {P : Pg} {L : Nat → Int} (v : Vf P L) : ∀ (k : Nat) {x : Nat}, x < P.n → L x ≠ -1 → L (jit P k x) = L x
  | 0, x, _, _ => rfl
  | k + 1, x, hx, hl => by
    have h1 := jst_L v hx hl
    show L (jit P k (jst P x)) = L x
    rw [jit_L v k (jst_lt v.gd hx) (by rw [h1]; exact hl), h1]
/-- the end of a place, where it was sought long enough -/
def EndA (P : Pg) (x y : Nat) : Prop := (y = x ∧ ∃ k, P.n ≤ k ∧ P.op (jit P k x) = 35) ∨ (∃ k, y = jit P k x) ∧ P.op y ≠ 35
theorem EndA.lt {P : Pg} (g : Gd P) {x y : Nat} (h : EndA P x y) (hx : x < P.n) : y < P.n := by
  rcases h with ⟨rfl, _⟩ | ⟨⟨k, rfl⟩, _⟩
  · exact hx
  · exact jit_lt g k hx
theorem EndA.L {P : Pg} {L : Nat → Int} (v : Vf P L) {x y : Nat} (h : EndA P x y) (hx : x < P.n) (hl : L x ≠ -1) : L y = L x := by
  rcases h with ⟨rfl, _⟩ | ⟨⟨k, rfl⟩, _⟩
  · rfl
  · exact jit_L v k hx hl
/-- all numbers of places led elsewhere -/
def leadP (P : Pg) (t : Nat → Nat) : Pg := { P with a := fun i => if jmp (P.op i) = true then ((t (P.a i).toNat : Nat) : Int) else P.a i, en := fun j => if P.en j = -1 then -1 else ((t (P.en j).toNat : Nat) : Int) }
theorem ins_jmp {P : Pg} {i : Nat} (h : insE P i = 0) (hj : jmp (P.op i) = true) : P.b i = 0 := by
  unfold insE insErr at h
  have hw : wantsI (P.op i) ≠ 2 := fun hw => by rw [(wants2 hw).2] at hj; cases hj
  by_cases hb : P.b i = 0
  · exact hb
  · rw [if_neg (by simpa using (ins_good (P := P) (i := i) (by unfold insE insErr; exact h)).1), if_neg hw, if_pos hb] at h
    cases h
theorem lim_jmp {P : Pg} {o : Int} (hj : jmp o = true) : limI P o = P.n ∧ o ≠ 1 ∧ wantsI o ≠ 2 ∧ (0 ≤ o ∧ o < 42) := by
  have ho : o = 35 ∨ o = 36 := by unfold jmp at hj; simpa using hj
  refine ⟨?_, by omega, by rcases ho with rfl | rfl <;> decide, by omega⟩
  unfold limI
  rw [if_neg (by omega), if_neg (by omega), if_pos ho]
theorem ins_jump {P : Pg} {o a : Int} (hj : jmp o = true) (ha : 0 ≤ a ∧ a < P.n) : insErr P o a 0 = 0 := by
  obtain ⟨h1, h2, h3, h4⟩ := lim_jmp (P := P) hj
  unfold insErr
  rw [if_neg (by simpa using h4), if_neg h3, if_neg (by simp), if_pos (.inr ⟨ha.1, by rw [h1]; omega⟩)]
/-- an instruction that is no jump is right in any program of the same measures -/
theorem ins_same {P Q : Pg} (h1 : Q.words = P.words) (h2 : Q.locals = P.locals) (h3 : Q.m = P.m) {o : Int} (hj : jmp o = false) (a b : Int) : insErr Q o a b = insErr P o a b := by
  have hn : ¬ (o = 35 ∨ o = 36) := by unfold jmp at hj; simpa using hj
  have hl : limI Q o = limI P o := by
    unfold limI
    rw [h1, h2, h3, if_neg hn, if_neg hn]
  unfold insErr
  rw [hl]
theorem leadP_vf {P : Pg} {L : Nat → Int} (v : Vf P L) {t : Nat → Nat} (ht : ∀ x, x < P.n → t x < P.n ∧ (L x ≠ -1 → L (t x) = L x)) : Vf (leadP P t) L := by
  have g := v.gd
  have ha : ∀ i, i < P.n → jmp (P.op i) = true → (P.a i).toNat < P.n := fun i hi hj => by have := g.a i hi hj; omega
  refine ⟨v.sz, fun i hi => ?_, fun j hj => ?_, fun j hj h0 => ?_, v.nn, v.fn, v.nx, fun i hi hl hj => ?_⟩
  · show insErr (leadP P t) (P.op i) (if jmp (P.op i) = true then ((t (P.a i).toNat : Nat) : Int) else P.a i) (P.b i) = 0
    by_cases hj : jmp (P.op i) = true
    · rw [if_pos hj, ins_jmp (v.ins i hi) hj]
      exact ins_jump hj ⟨by omega, by show ((t (P.a i).toNat : Nat) : Int) < (P.n : Int); have := (ht _ (ha i hi hj)).1; omega⟩
    · rw [if_neg hj, ins_same rfl rfl rfl (by simpa using hj)]
      exact v.ins i hi
  · show -1 ≤ (if P.en j = -1 then -1 else ((t (P.en j).toNat : Nat) : Int)) ∧ (if P.en j = -1 then -1 else ((t (P.en j).toNat : Nat) : Int)) < (P.n : Int)
    have h1 := v.en j hj
    split
    · omega
    · have := (ht (P.en j).toNat (by omega)).1
      omega
  · have e : (leadP P t).en j = if P.en j = -1 then -1 else ((t (P.en j).toNat : Nat) : Int) := rfl
    rw [e] at h0 ⊢
    have h1 := v.en j hj
    by_cases h2 : P.en j = -1
    · rw [if_pos h2] at h0; omega
    · rw [if_neg h2]
      have h3 := v.le j hj (by omega)
      rw [Int.toNat_natCast, (ht (P.en j).toNat (by omega)).2 (by rw [h3]; decide), h3]
  · have e : (leadP P t).a i = if jmp (P.op i) = true then ((t (P.a i).toNat : Nat) : Int) else P.a i := rfl
    have hj : jmp (P.op i) = true := hj
    rw [e, if_pos hj, Int.toNat_natCast]
    have h2 := v.jp i hi hl hj
    have h3 := aft_nn (v.fn i hi hl)
    rw [(ht _ (ha i hi hj)).2 (by rw [h2]; omega)]
    exact h2
end Go.Proofs.YtopggemomcoalaaGreat
namespace Go.Proofs.YtopggemomcoalaaGreat
set_option linter.unusedVariables false
set_option linter.unusedSimpArgs false

/-! ### no more different numbers below n than n -/
theorem inj_le : ∀ (n m : Nat) (f : Nat → Nat), (∀ i, i < m → f i < n) → (∀ i j, i < j → j < m → f i ≠ f j) → m ≤ n
  | 0, m, f, h1, _ => by
    rcases Nat.eq_zero_or_pos m with h | h
    · omega
    · have := h1 0 h; omega
  | n + 1, 0, f, _, _ => Nat.zero_le _
  | n + 1, m + 1, f, h1, h2 => by
    have hv := h1 m (by omega)
    have := inj_le n m (fun i => if f i = n then f m else f i) (fun i hi => by
      have ha := h1 i (by omega)
      have hb := h2 i m hi (by omega)
      split
      · rename_i h; omega
      · omega) (fun i j hi hj => by
      have ha := h2 i j hi (by omega)
      have hb := h2 i m (by omega) (by omega)
      have hc := h2 j m hj (by omega)
      split <;> split <;> omega)
    omega
/-- what is reached from jump to jump is reached in fewer steps than there are places -/
theorem jit_short {P : Pg} (g : Gd P) {x : Nat} (hx : x < P.n) : ∀ {m : Nat}, P.op (jit P m x) ≠ 35 → ∀ k, P.n ≤ k → jit P k x = jit P m x
  | m, h, k, hk => by
    -- the first such step
    have key : ∀ (d : Nat), (∃ q, q ≤ d ∧ P.op (jit P q x) ≠ 35) → ∃ q, P.op (jit P q x) ≠ 35 ∧ ∀ i, i < q → P.op (jit P i x) = 35 := by
      intro d
      induction d with
      | zero =>
        rintro ⟨q, hq, h9⟩
        obtain rfl : q = 0 := by omega
        exact ⟨0, h9, fun i hi => absurd hi (Nat.not_lt_zero i)⟩
      | succ d ih =>
        rintro ⟨q, hq, h9⟩
        by_cases h8 : ∃ q, q ≤ d ∧ P.op (jit P q x) ≠ 35
        · exact ih h8
        · refine ⟨q, h9, fun i hi => Classical.byContradiction fun h7 => h8 ⟨i, by omega, h7⟩⟩
    obtain ⟨q, h1, h2⟩ := key m ⟨m, Nat.le_refl _, h⟩
    have after : ∀ j, q ≤ j → jit P j x = jit P q x := fun j hj => by
      rw [show j = q + (j - q) by omega, jit_add]
      exact jit_fix h1 _
    have hq : q + 1 ≤ P.n := by
      refine inj_le P.n (q + 1) (fun i => jit P i x) (fun i _ => jit_lt g i hx) fun i j hij hj he => ?_
      have he : jit P i x = jit P j x := he
      have e2 : jit P (i + (q - j)) x = jit P q x := by
        rw [jit_add, he, ← jit_add, show j + (q - j) = q by omega]
      have := h2 (i + (q - j)) (by omega)
      rw [e2] at this
      exact h1 this
    have hm : jit P m x = jit P q x := by
      rcases Nat.lt_or_ge m q with h9 | h9
      · exact absurd (h2 m h9) h
      · exact after m h9
    rw [hm]
    exact after k (by omega)
/-- the end of a place -/
def endP (P : Pg) (x : Nat) : Nat := if P.op (jit P P.n x) = 35 then x else jit P P.n x
theorem endA_iff {P : Pg} (g : Gd P) {x y : Nat} (hx : x < P.n) : EndA P x y ↔ y = endP P x := by
  constructor
  · rintro (⟨rfl, k, hk, h⟩ | ⟨⟨k, rfl⟩, h⟩)
    · unfold endP
      by_cases h9 : P.op (jit P P.n y) = 35
      · rw [if_pos h9]
      · have := jit_short g hx h9 k hk
        rw [this] at h
        exact absurd h h9
    · have := jit_short g hx h P.n (Nat.le_refl _)
      unfold endP
      rw [this, if_neg h]
  · rintro rfl
    unfold endP
    split
    · rename_i h; exact .inl ⟨rfl, P.n, Nat.le_refl _, h⟩
    · rename_i h; exact .inr ⟨⟨P.n, rfl⟩, h⟩
theorem endP_A {P : Pg} (g : Gd P) {x : Nat} (hx : x < P.n) : EndA P x (endP P x) := (endA_iff g hx).2 rfl
theorem endP_no {P : Pg} {x : Nat} (h : P.op x ≠ 35) : endP P x = x := by
  unfold endP
  rw [jit_fix h, if_neg h]
/-- which places stay -/
def kpt (g : Nat → Bool) (n : Nat) : List Nat := (List.range n).filter fun i => !g i
def tox (g : Nat → Bool) (x : Nat) : Nat := (kpt g x).length
theorem kpt_succ (g : Nat → Bool) (n : Nat) : kpt g (n + 1) = kpt g n ++ (if g n then [] else [n]) := by
  unfold kpt
  rw [List.range_succ, List.filter_append]
  cases h : g n <;> simp [h]
theorem tox_succ (g : Nat → Bool) (x : Nat) : tox g (x + 1) = tox g x + (if g x then 0 else 1) := by
  unfold tox
  rw [kpt_succ, List.length_append]
  split <;> rfl
theorem tox_le (g : Nat → Bool) : ∀ x, tox g x ≤ x
  | 0 => Nat.le_refl _
  | x + 1 => by rw [tox_succ]; have := tox_le g x; split <;> omega
theorem tox_mono (g : Nat → Bool) {x y : Nat} (h : x ≤ y) : tox g x ≤ tox g y := by
  induction h with
  | refl => exact Nat.le_refl _
  | step h ih => rw [tox_succ]; omega
theorem kpt_get (g : Nat → Bool) : ∀ (n : Nat) {x : Nat}, x < n → g x = false → (kpt g n)[tox g x]? = some x
  | n + 1, x, hx, hg => by
    rw [kpt_succ]
    by_cases h : x < n
    · have h2 := kpt_get g n h hg
      rw [List.getElem?_append_left (List.getElem?_eq_some_iff.1 h2).1]
      exact h2
    · obtain rfl : x = n := by omega
      show (kpt g x ++ if g x = true then [] else [x])[(kpt g x).length]? = some x
      rw [hg, List.getElem?_append_right (Nat.le_refl _), Nat.sub_self]
      rfl
theorem kpt_at (g : Nat → Bool) (n : Nat) {k : Nat} (hk : k < tox g n) : ∃ x, x < n ∧ g x = false ∧ tox g x = k ∧ (kpt g n).getD k 0 = x := by
  induction n with
  | zero => exact absurd hk (by show ¬ k < 0; omega)
  | succ n ih =>
    rw [tox_succ] at hk
    by_cases h : k < tox g n
    · obtain ⟨x, h1, h2, h3, h4⟩ := ih h
      refine ⟨x, by omega, h2, h3, ?_⟩
      rw [kpt_succ, List.getD_eq_getElem?_getD, List.getElem?_append_left (by exact h), ← List.getD_eq_getElem?_getD]
      exact h4
    · have hg : g n = false := by
        cases h9 : g n with
        | false => rfl
        | true => rw [h9] at hk; simp at hk; omega
      rw [hg] at hk
      simp at hk
      have hk2 : k = tox g n := by omega
      refine ⟨n, by omega, hg, hk2.symm, ?_⟩
      rw [List.getD_eq_getElem?_getD, hk2, kpt_get g (n + 1) (Nat.lt_succ_self n) hg]
      rfl
/-- some places left out, all at once -/
def dropP (P : Pg) (g : Nat → Bool) : Pg := leadP { P with n := tox g P.n, op := fun k => P.op ((kpt g P.n).getD k 0), a := fun k => P.a ((kpt g P.n).getD k 0), b := fun k => P.b ((kpt g P.n).getD k 0) } (tox g)
theorem stays {P : Pg} {L : Nat → Int} (g : Nat → Bool) (hg : ∀ x, x < P.n → L x ≠ -1 → g x = true → x + 1 < P.n ∧ L (x + 1) = L x) : ∀ (d x : Nat), P.n - x ≤ d → x < P.n → L x ≠ -1 → ∃ y, y < P.n ∧ g y = false ∧ tox g y = tox g x ∧ L y = L x
  | 0, x, hd, hx, _ => by omega
  | d + 1, x, hd, hx, hl => by
    cases h : g x with
    | false => exact ⟨x, hx, h, rfl, rfl⟩
    | true =>
      obtain ⟨h1, h2⟩ := hg x hx hl h
      obtain ⟨y, h3, h4, h5, h6⟩ := stays g hg d (x + 1) (by omega) h1 (by rw [h2]; exact hl)
      exact ⟨y, h3, h4, by rw [h5, tox_succ, h]; rfl, by rw [h6, h2]⟩
theorem stays_to {P : Pg} {L : Nat → Int} (g : Nat → Bool) (hg : ∀ x, x < P.n → L x ≠ -1 → g x = true → x + 1 < P.n ∧ L (x + 1) = L x) {x : Nat} (hx : x < P.n) (hl : L x ≠ -1) : tox g x < tox g P.n ∧ L ((kpt g P.n).getD (tox g x) 0) = L x := by
  obtain ⟨y, h1, h2, h3, h4⟩ := stays g hg _ x (Nat.le_refl _) hx hl
  have h5 := kpt_get g P.n h1 h2
  have h6 := (List.getElem?_eq_some_iff.1 h5).1
  rw [h3] at h5 h6
  exact ⟨h6, by rw [List.getD_eq_getElem?_getD, h5]; exact h4⟩
theorem dropP_vf {P : Pg} {L : Nat → Int} (v : Vf P L) (g : Nat → Bool) (hg : ∀ x, x < P.n → L x ≠ -1 → g x = true → x + 1 < P.n ∧ L (x + 1) = L x) (hk : ∀ x, x < P.n → g x = false → L x ≠ -1) : Vf (dropP P g) (fun k => L ((kpt g P.n).getD k 0)) ∧ ∀ k, k < (dropP P g).n → L ((kpt g P.n).getD k 0) ≠ -1 := by
  have gd := v.gd
  have hn : (dropP P g).n = tox g P.n := rfl
  have hop : ∀ k, (dropP P g).op k = P.op ((kpt g P.n).getD k 0) := fun k => rfl
  have hb : ∀ k, (dropP P g).b k = P.b ((kpt g P.n).getD k 0) := fun k => rfl
  have ha : ∀ k, (dropP P g).a k = if jmp (P.op ((kpt g P.n).getD k 0)) = true then ((tox g (P.a ((kpt g P.n).getD k 0)).toNat : Nat) : Int) else P.a ((kpt g P.n).getD k 0) := fun k => rfl
  have hen : ∀ j, (dropP P g).en j = if P.en j = -1 then -1 else ((tox g (P.en j).toNat : Nat) : Int) := fun j => rfl
  have hsz : tox g P.n ≤ P.n := tox_le g P.n
  have tgt : ∀ x, x < P.n → L x ≠ -1 → jmp (P.op x) = true → tox g (P.a x).toNat < tox g P.n ∧ L ((kpt g P.n).getD (tox g (P.a x).toNat) 0) = aft P x (L x) := fun x hx hl hj => by
    have h1 := gd.a x hx hj
    have h2 := v.jp x hx hl hj
    have h3 := aft_nn (v.fn x hx hl)
    have h4 := stays_to g hg (x := (P.a x).toNat) (by omega) (by rw [h2]; omega)
    exact ⟨h4.1, by rw [h4.2, h2]⟩
  refine ⟨⟨⟨v.sz.1, v.sz.2.1, by rw [hn]; have := v.sz.2.2.1; omega, v.sz.2.2.2⟩, fun k hk9 => ?_, fun j hj => ?_, fun j hj h0 => ?_, fun k hk9 => ?_, fun k hk9 hl => ?_, fun k hk9 hl he => ?_, fun k hk9 hl hj => ?_⟩, fun k hk9 => ?_⟩
  · obtain ⟨x, h1, h2, h3, h4⟩ := kpt_at g P.n hk9
    show insErr (dropP P g) ((dropP P g).op k) ((dropP P g).a k) ((dropP P g).b k) = 0
    rw [hop, ha, hb, h4]
    by_cases hj : jmp (P.op x) = true
    · rw [if_pos hj, ins_jmp (v.ins x h1) hj]
      have := (tgt x h1 (hk x h1 h2) hj).1
      exact ins_jump hj ⟨by omega, by rw [hn]; omega⟩
    · rw [if_neg hj, ins_same (P := P) (Q := dropP P g) rfl rfl rfl (by simpa using hj)]
      exact v.ins x h1
  · rw [hen, hn]
    have h1 := v.en j hj
    by_cases h2 : P.en j = -1
    · rw [if_pos h2]; omega
    · rw [if_neg h2]
      have h3 := v.le j hj (by omega)
      have := (stays_to g hg (x := (P.en j).toNat) (by omega) (by rw [h3]; decide)).1
      omega
  · rw [hen] at h0 ⊢
    have h1 := v.en j hj
    by_cases h2 : P.en j = -1
    · rw [if_pos h2] at h0; omega
    · rw [if_neg h2, Int.toNat_natCast]
      have h3 := v.le j hj (by omega)
      rw [(stays_to g hg (x := (P.en j).toNat) (by omega) (by rw [h3]; decide)).2, h3]
  · obtain ⟨x, h1, h2, h3, h4⟩ := kpt_at g P.n hk9
    rw [h4]
    exact v.nn x h1
  · obtain ⟨x, h1, h2, h3, h4⟩ := kpt_at g P.n hk9
    rw [h4] at hl ⊢
    have := v.fn x h1 hl
    unfold fine at this ⊢
    rw [hop, h4]
    exact this
  · obtain ⟨x, h1, h2, h3, h4⟩ := kpt_at g P.n hk9
    rw [hop, h4] at he
    rw [h4] at hl ⊢
    have h5 := v.nx x h1 hl he
    have h6 := aft_nn (v.fn x h1 hl)
    have h7 := stays_to g hg (x := x + 1) h5.1 (by rw [h5.2]; omega)
    rw [tox_succ, h2, h3] at h7
    refine ⟨h7.1, ?_⟩
    have h8 := h7.2
    rw [show k + (if false = true then 0 else 1) = k + 1 from rfl] at h8
    rw [h8, h5.2]
    unfold aft
    rw [hop, h4]
  · obtain ⟨x, h1, h2, h3, h4⟩ := kpt_at g P.n hk9
    rw [hop, h4] at hj
    rw [h4] at hl
    rw [ha, h4, if_pos hj, Int.toNat_natCast, (tgt x h1 hl hj).2]
    unfold aft
    rw [hop, h4]
  · obtain ⟨x, h1, h2, h3, h4⟩ := kpt_at g P.n hk9
    rw [h4]
    exact hk x h1 h2
end Go.Proofs.YtopggemomcoalaaGreat
namespace Go.Proofs.YtopggemomcoalaaGreat
set_option linter.unusedVariables false
set_option linter.unusedSimpArgs false

/-! ### some places written anew -/
def setI (P : Pg) (k : Nat) (o a b : Int) : Pg := { P with op := fun i => if i = k then o else P.op i, a := fun i => if i = k then a else P.a i, b := fun i => if i = k then b else P.b i }
def stepI (P : Pg) (k : Nat) : Pg := setI P k 35 ((k + 1 : Nat) : Int) 0
theorem setI_op (P : Pg) (k : Nat) (o a b : Int) (i : Nat) : (setI P k o a b).op i = if i = k then o else P.op i := rfl
theorem setI_a (P : Pg) (k : Nat) (o a b : Int) (i : Nat) : (setI P k o a b).a i = if i = k then a else P.a i := rfl
theorem setI_b (P : Pg) (k : Nat) (o a b : Int) (i : Nat) : (setI P k o a b).b i = if i = k then b else P.b i := rfl
/-- one comes to x from the place ahead of it alone -/
def FreeP (P : Pg) (x : Nat) : Prop := (∀ i, i < P.n → jmp (P.op i) = true → (P.a i).toNat ≠ x) ∧ ∀ j, j < P.m → P.en j ≠ -1 → (P.en j).toNat ≠ x
def Full (P : Pg) (L : Nat → Int) : Prop := ∀ i, i < P.n → L i ≠ -1
/-- the places c to c + s - 1 of Q are others than those of P -/
structure Patch (P Q : Pg) (c s : Nat) : Prop where
  w : Q.words = P.words
  l : Q.locals = P.locals
  n : Q.n = P.n
  m : Q.m = P.m
  en : ∀ j, Q.en j = P.en j
  op : ∀ i, (i < c ∨ c + s ≤ i) → Q.op i = P.op i
  a : ∀ i, (i < c ∨ c + s ≤ i) → Q.a i = P.a i
  b : ∀ i, (i < c ∨ c + s ≤ i) → Q.b i = P.b i
  le : c + s ≤ P.n
def relab (L : Nat → Int) (c s : Nat) : Nat → Int := fun i => if c < i ∧ i < c + s then L c else L i
theorem insErr_eq {P Q : Pg} (h1 : Q.words = P.words) (h2 : Q.locals = P.locals) (h3 : Q.m = P.m) (h4 : Q.n = P.n) (o a b : Int) : insErr Q o a b = insErr P o a b := by
  have hl : limI Q o = limI P o := by unfold limI; rw [h1, h2, h3, h4]
  unfold insErr
  rw [hl]
theorem patch_vf {P Q : Pg} {L : Nat → Int} (v : Vf P L) (hf : Full P L) {c s : Nat} (h : Patch P Q c s) (h0 : 0 < s) (hfr : ∀ x, c < x → x < c + s → FreeP P x)
    (hi : ∀ i, c ≤ i → i < c + s → insErr P (Q.op i) (Q.a i) (Q.b i) = 0 ∧ fine Q i (L c) ∧ (ends (Q.op i) = false → i + 1 < P.n ∧ relab L c s (i + 1) = aft Q i (L c)) ∧ (jmp (Q.op i) = true → relab L c s (Q.a i).toNat = aft Q i (L c))) : Vf Q (relab L c s) ∧ Full Q (relab L c s) := by
  have g := v.gd
  have hle := h.le
  have out : ∀ i, (i ≤ c ∨ c + s ≤ i) → relab L c s i = L i := fun i hi => by unfold relab; rw [if_neg (by omega)]
  have inn : ∀ i, c ≤ i → i < c + s → relab L c s i = L c := fun i h1 h2 => by
    unfold relab
    by_cases h9 : c < i
    · rw [if_pos ⟨h9, h2⟩]
    · rw [if_neg (by omega), show i = c by omega]
  have far : ∀ x, FreeP P x → (∀ i, i < P.n → jmp (P.op i) = true → (P.a i).toNat ≠ x) := fun x hx => hx.1
  refine ⟨⟨?_, fun i hi9 => ?_, fun j hj => ?_, fun j hj hj0 => ?_, fun i hi9 => ?_, fun i hi9 hl => ?_, fun i hi9 hl he => ?_, fun i hi9 hl hj => ?_⟩, fun i hi9 => ?_⟩
  · unfold sizedP
    rw [h.w, h.l, h.n, h.m]
    exact v.sz
  · rw [h.n] at hi9
    show insErr Q (Q.op i) (Q.a i) (Q.b i) = 0
    rw [insErr_eq h.w h.l h.m h.n]
    by_cases h9 : c ≤ i ∧ i < c + s
    · exact (hi i h9.1 h9.2).1
    · rw [h.op i (by omega), h.a i (by omega), h.b i (by omega)]
      exact v.ins i hi9
  · rw [h.m] at hj
    rw [h.en, h.n]
    exact v.en j hj
  · rw [h.m] at hj
    rw [h.en] at hj0 ⊢
    have h1 := v.le j hj hj0
    have h2 : ¬ (c < (P.en j).toNat ∧ (P.en j).toNat < c + s) := fun hx => (hfr _ hx.1 hx.2).2 j hj (by omega) rfl
    rw [out _ (by omega)]
    exact h1
  · rw [h.n] at hi9
    unfold relab
    split
    · exact v.nn c (by omega)
    · exact v.nn i hi9
  · rw [h.n] at hi9
    by_cases h9 : c ≤ i ∧ i < c + s
    · rw [inn i h9.1 h9.2]
      exact (hi i h9.1 h9.2).2.1
    · rw [out i (by omega)]
      have := v.fn i hi9 (hf i hi9)
      unfold fine at this ⊢
      rw [h.op i (by omega)]
      exact this
  · rw [h.n] at hi9 ⊢
    by_cases h9 : c ≤ i ∧ i < c + s
    · rw [inn i h9.1 h9.2]
      exact (hi i h9.1 h9.2).2.2.1 he
    · rw [h.op i (by omega)] at he
      have h1 := v.nx i hi9 (hf i hi9) he
      rw [out i (by omega), out (i + 1) (by omega)]
      refine ⟨h1.1, h1.2.trans ?_⟩
      unfold aft
      rw [h.op i (by omega)]
  · rw [h.n] at hi9
    by_cases h9 : c ≤ i ∧ i < c + s
    · rw [inn i h9.1 h9.2]
      exact (hi i h9.1 h9.2).2.2.2 hj
    · rw [h.op i (by omega)] at hj
      have h1 := v.jp i hi9 (hf i hi9) hj
      have h2 : ¬ (c < (P.a i).toNat ∧ (P.a i).toNat < c + s) := fun hx => (hfr _ hx.1 hx.2).1 i hi9 hj rfl
      rw [h.a i (by omega), out _ (by omega), out i (by omega)]
      refine h1.trans ?_
      unfold aft
      rw [h.op i (by omega)]
  · rw [h.n] at hi9
    unfold relab
    split
    · exact hf c (by omega)
    · exact hf i hi9
theorem stepI_patch {P : Pg} {k : Nat} (hk : k < P.n) : Patch P (stepI P k) k 1 := ⟨rfl, rfl, rfl, rfl, fun _ => rfl, fun i hi => if_neg (by omega), fun i hi => if_neg (by omega), fun i hi => if_neg (by omega), by omega⟩
theorem Patch.more {P Q R : Pg} {c s c' s' : Nat} (h : Patch P Q c s) (h' : Patch Q R c' s') {d r : Nat} (h1 : d ≤ c ∧ c + s ≤ d + r) (h2 : d ≤ c' ∧ c' + s' ≤ d + r) (h3 : d + r ≤ P.n) : Patch P R d r :=
  ⟨h'.w.trans h.w, h'.l.trans h.l, h'.n.trans h.n, h'.m.trans h.m, fun j => (h'.en j).trans (h.en j), fun i hi => (h'.op i (by omega)).trans (h.op i (by omega)), fun i hi => (h'.a i (by omega)).trans (h.a i (by omega)), fun i hi => (h'.b i (by omega)).trans (h.b i (by omega)), h3⟩
theorem setI_patch {P : Pg} {k : Nat} (o a b : Int) (hk : k < P.n) : Patch P (setI P k o a b) k 1 := ⟨rfl, rfl, rfl, rfl, fun _ => rfl, fun i hi => if_neg (by omega), fun i hi => if_neg (by omega), fun i hi => if_neg (by omega), by omega⟩
/-- what takes two values and gives one, what takes one and gives one -/
def two2 (o : Int) : Bool := (decide (13 ≤ o) && decide (o ≤ 22)) || (decide (26 ≤ o) && decide (o ≤ 33))
def one1 (o : Int) : Bool := (decide (23 ≤ o) && decide (o ≤ 25)) || o == 34
theorem two2_io {o : Int} (h : two2 o = true) : pops o = 2 ∧ pushes o = 1 ∧ ends o = false ∧ jmp o = false := by
  have h1 : o = 13 ∨ o = 14 ∨ o = 15 ∨ o = 16 ∨ o = 17 ∨ o = 18 ∨ o = 19 ∨ o = 20 ∨ o = 21 ∨ o = 22 ∨ o = 26 ∨ o = 27 ∨ o = 28 ∨ o = 29 ∨ o = 30 ∨ o = 31 ∨ o = 32 ∨ o = 33 := by
    unfold two2 at h
    simp at h
    omega
  rcases h1 with rfl | rfl | rfl | rfl | rfl | rfl | rfl | rfl | rfl | rfl | rfl | rfl | rfl | rfl | rfl | rfl | rfl | rfl <;> decide
theorem one1_io {o : Int} (h : one1 o = true) : pops o = 1 ∧ pushes o = 1 ∧ ends o = false ∧ jmp o = false := by
  have h1 : o = 23 ∨ o = 24 ∨ o = 25 ∨ o = 34 := by
    unfold one1 at h
    simp at h
    omega
  rcases h1 with rfl | rfl | rfl | rfl <;> decide
theorem push_ins (P : Pg) (z : Int) : insErr P 1 z 0 = 0 := by
  unfold insErr
  rw [if_neg (by decide), if_neg (by decide), if_neg (by decide), if_pos (.inl rfl)]
theorem step_ins {P : Pg} {k : Nat} (hk : k + 1 < P.n) : insErr P 35 ((k + 1 : Nat) : Int) 0 = 0 := ins_jump (by decide) ⟨by omega, by omega⟩
/-- a value reckoned ahead: s - 1 steps, then the push -/
def fold3 (P : Pg) (c : Nat) (z : Int) : Pg := setI (stepI (stepI P c) (c + 1)) (c + 2) 1 z 0
def fold2 (P : Pg) (c : Nat) (z : Int) : Pg := setI (stepI P c) (c + 1) 1 z 0
def foldPop (P : Pg) (c : Nat) : Pg := stepI (stepI P c) (c + 1)
def foldZero (P : Pg) (c : Nat) : Pg := if P.a c = 0 then stepI (setI P (c + 1) 35 (P.a (c + 1)) (P.b (c + 1))) c else stepI (stepI P (c + 1)) c
section
variable {P : Pg} {L : Nat → Int} {c : Nat}
theorem push_L (v : Vf P L) (hf : Full P L) (hc : c < P.n) (h : P.op c = 1) : c + 1 < P.n ∧ L (c + 1) = L c + 1 ∧ L c + 1 ≤ 64 := by
  have h1 := v.nx c hc (hf c hc) (by rw [h]; rfl)
  have h2 := v.fn c hc (hf c hc)
  unfold aft at h1
  unfold fine at h2
  rw [h, show pops 1 = 0 from rfl, show pushes 1 = 1 from rfl] at h1 h2
  exact ⟨h1.1, by omega, by omega⟩
theorem L_nn (v : Vf P L) (hf : Full P L) (hc : c < P.n) : 0 ≤ L c := by have := v.nn c hc; have := hf c hc; omega
theorem fold3_vf (v : Vf P L) (hf : Full P L) (hc : c < P.n) (h1 : P.op c = 1) (h2 : P.op (c + 1) = 1) (h3 : two2 (P.op (c + 2)) = true) (f1 : FreeP P (c + 1)) (f2 : FreeP P (c + 2)) (z : Int) : Vf (fold3 P c z) (relab L c 3) ∧ Full (fold3 P c z) (relab L c 3) ∧ Patch P (fold3 P c z) c 3 := by
  obtain ⟨n1, l1, b1⟩ := push_L v hf hc h1
  obtain ⟨n2, l2, b2⟩ := push_L v hf n1 h2
  have l2 : L (c + 2) = L (c + 1) + 1 := l2
  have n2 : c + 2 < P.n := n2
  obtain ⟨p1, p2, p3, p4⟩ := two2_io h3
  have n3 := v.nx (c + 2) n2 (hf _ n2) p3
  have hp : Patch P (fold3 P c z) c 3 := ((stepI_patch hc).more (stepI_patch (P := stepI P c) (k := c + 1) n1) (d := c) (r := 2) (by omega) (by omega) (by omega)).more (setI_patch (P := stepI (stepI P c) (c + 1)) 1 z 0 (k := c + 2) n2) (by omega) (by omega) (by omega)
  have h0 := L_nn v hf hc
  unfold aft at n3
  rw [p1, p2] at n3
  have hr := patch_vf v hf hp (by decide) (fun x h1 h2 => by rcases (by omega : x = c + 1 ∨ x = c + 2) with rfl | rfl; exact f1; exact f2) (fun i hi1 hi2 => by
    rcases (by omega : i = c ∨ i = c + 1 ∨ i = c + 2) with rfl | rfl | rfl
    · have e : (fold3 P i z).op i = 35 := by unfold fold3 stepI; rw [setI_op, if_neg (by omega), setI_op, if_neg (by omega), setI_op, if_pos rfl]
      have e2 : (fold3 P i z).a i = ((i + 1 : Nat) : Int) := by unfold fold3 stepI; rw [setI_a, if_neg (by omega), setI_a, if_neg (by omega), setI_a, if_pos rfl]
      have e3 : (fold3 P i z).b i = 0 := by unfold fold3 stepI; rw [setI_b, if_neg (by omega), setI_b, if_neg (by omega), setI_b, if_pos rfl]
      unfold fine aft
      rw [e, e2, e3, pops35.1, pops35.2]
      refine ⟨step_ins n1, ⟨by omega, by omega⟩, fun h => (by cases h), fun _ => ?_⟩
      rw [Int.toNat_natCast]
      unfold relab
      rw [if_pos (by omega)]
      omega
    · have e : (fold3 P c z).op (c + 1) = 35 := by unfold fold3 stepI; rw [setI_op, if_neg (by omega), setI_op, if_pos rfl]
      have e2 : (fold3 P c z).a (c + 1) = ((c + 1 + 1 : Nat) : Int) := by unfold fold3 stepI; rw [setI_a, if_neg (by omega), setI_a, if_pos rfl]
      have e3 : (fold3 P c z).b (c + 1) = 0 := by unfold fold3 stepI; rw [setI_b, if_neg (by omega), setI_b, if_pos rfl]
      unfold fine aft
      rw [e, e2, e3, pops35.1, pops35.2]
      refine ⟨step_ins n2, ⟨by omega, by omega⟩, fun h => (by cases h), fun _ => ?_⟩
      rw [Int.toNat_natCast]
      unfold relab
      rw [if_pos (by omega)]
      omega
    · have e : (fold3 P c z).op (c + 2) = 1 := by unfold fold3; rw [setI_op, if_pos rfl]
      have e2 : (fold3 P c z).a (c + 2) = z := by unfold fold3; rw [setI_a, if_pos rfl]
      have e3 : (fold3 P c z).b (c + 2) = 0 := by unfold fold3; rw [setI_b, if_pos rfl]
      unfold fine aft
      rw [e, e2, e3, show pops 1 = 0 from rfl, show pushes 1 = 1 from rfl]
      refine ⟨push_ins P z, ⟨by omega, by omega⟩, fun _ => ⟨n3.1, ?_⟩, fun h => by cases h⟩
      unfold relab
      rw [if_neg (by omega), n3.2]
      omega)
  exact ⟨hr.1, hr.2, hp⟩
theorem fold2_vf (v : Vf P L) (hf : Full P L) (hc : c < P.n) (h1 : P.op c = 1) (h3 : one1 (P.op (c + 1)) = true) (f1 : FreeP P (c + 1)) (z : Int) : Vf (fold2 P c z) (relab L c 2) ∧ Full (fold2 P c z) (relab L c 2) ∧ Patch P (fold2 P c z) c 2 := by
  obtain ⟨n1, l1, b1⟩ := push_L v hf hc h1
  obtain ⟨p1, p2, p3, p4⟩ := one1_io h3
  have n3 := v.nx (c + 1) n1 (hf _ n1) p3
  have hp : Patch P (fold2 P c z) c 2 := (stepI_patch hc).more (setI_patch (P := stepI P c) 1 z 0 (k := c + 1) n1) (by omega) (by omega) (by omega)
  have h0 := L_nn v hf hc
  unfold aft at n3
  rw [p1, p2] at n3
  have hr := patch_vf v hf hp (by decide) (fun x h1 h2 => by obtain rfl : x = c + 1 := by omega
                                                             exact f1) (fun i hi1 hi2 => by
    rcases (by omega : i = c ∨ i = c + 1) with rfl | rfl
    · have e : (fold2 P i z).op i = 35 := by unfold fold2 stepI; rw [setI_op, if_neg (by omega), setI_op, if_pos rfl]
      have e2 : (fold2 P i z).a i = ((i + 1 : Nat) : Int) := by unfold fold2 stepI; rw [setI_a, if_neg (by omega), setI_a, if_pos rfl]
      have e3 : (fold2 P i z).b i = 0 := by unfold fold2 stepI; rw [setI_b, if_neg (by omega), setI_b, if_pos rfl]
      unfold fine aft
      rw [e, e2, e3, pops35.1, pops35.2]
      refine ⟨step_ins n1, ⟨by omega, by omega⟩, fun h => (by cases h), fun _ => ?_⟩
      rw [Int.toNat_natCast]
      unfold relab
      rw [if_pos (by omega)]
      omega
    · have e : (fold2 P c z).op (c + 1) = 1 := by unfold fold2; rw [setI_op, if_pos rfl]
      have e2 : (fold2 P c z).a (c + 1) = z := by unfold fold2; rw [setI_a, if_pos rfl]
      have e3 : (fold2 P c z).b (c + 1) = 0 := by unfold fold2; rw [setI_b, if_pos rfl]
      unfold fine aft
      rw [e, e2, e3, show pops 1 = 0 from rfl, show pushes 1 = 1 from rfl]
      refine ⟨push_ins P z, ⟨by omega, by omega⟩, fun _ => ⟨n3.1, ?_⟩, fun h => by cases h⟩
      unfold relab
      rw [if_neg (by omega), n3.2]
      omega)
  exact ⟨hr.1, hr.2, hp⟩
theorem foldPop_vf (v : Vf P L) (hf : Full P L) (hc : c < P.n) (h1 : P.op c = 1) (h3 : P.op (c + 1) = 2) (f1 : FreeP P (c + 1)) : Vf (foldPop P c) (relab L c 2) ∧ Full (foldPop P c) (relab L c 2) ∧ Patch P (foldPop P c) c 2 := by
  obtain ⟨n1, l1, b1⟩ := push_L v hf hc h1
  have n3 := v.nx (c + 1) n1 (hf _ n1) (by rw [h3]; rfl)
  have hp : Patch P (foldPop P c) c 2 := (stepI_patch hc).more (stepI_patch (P := stepI P c) (k := c + 1) n1) (by omega) (by omega) (by omega)
  have h0 := L_nn v hf hc
  unfold aft at n3
  rw [h3, show pops 2 = 1 from rfl, show pushes 2 = 0 from rfl] at n3
  have hr := patch_vf v hf hp (by decide) (fun x h1 h2 => by obtain rfl : x = c + 1 := by omega
                                                             exact f1) (fun i hi1 hi2 => by
    rcases (by omega : i = c ∨ i = c + 1) with rfl | rfl
    · have e : (foldPop P i).op i = 35 := by unfold foldPop stepI; rw [setI_op, if_neg (by omega), setI_op, if_pos rfl]
      have e2 : (foldPop P i).a i = ((i + 1 : Nat) : Int) := by unfold foldPop stepI; rw [setI_a, if_neg (by omega), setI_a, if_pos rfl]
      have e3 : (foldPop P i).b i = 0 := by unfold foldPop stepI; rw [setI_b, if_neg (by omega), setI_b, if_pos rfl]
      unfold fine aft
      rw [e, e2, e3, pops35.1, pops35.2]
      refine ⟨step_ins n1, ⟨by omega, by omega⟩, fun h => (by cases h), fun _ => ?_⟩
      rw [Int.toNat_natCast]
      unfold relab
      rw [if_pos (by omega)]
      omega
    · have e : (foldPop P c).op (c + 1) = 35 := by unfold foldPop stepI; rw [setI_op, if_pos rfl]
      have e2 : (foldPop P c).a (c + 1) = ((c + 1 + 1 : Nat) : Int) := by unfold foldPop stepI; rw [setI_a, if_pos rfl]
      have e3 : (foldPop P c).b (c + 1) = 0 := by unfold foldPop stepI; rw [setI_b, if_pos rfl]
      unfold fine aft
      rw [e, e2, e3, pops35.1, pops35.2]
      refine ⟨step_ins n3.1, ⟨by omega, by omega⟩, fun h => (by cases h), fun _ => ?_⟩
      rw [Int.toNat_natCast]
      unfold relab
      rw [if_neg (by omega), n3.2]
      omega)
  exact ⟨hr.1, hr.2, hp⟩
theorem foldZero_vf (v : Vf P L) (hf : Full P L) (hc : c < P.n) (h1 : P.op c = 1) (h3 : P.op (c + 1) = 36) (f1 : FreeP P (c + 1)) : Vf (foldZero P c) (relab L c 2) ∧ Full (foldZero P c) (relab L c 2) ∧ Patch P (foldZero P c) c 2 := by
  obtain ⟨n1, l1, b1⟩ := push_L v hf hc h1
  have n3 := v.nx (c + 1) n1 (hf _ n1) (by rw [h3]; rfl)
  have j3 := v.jp (c + 1) n1 (hf _ n1) (by rw [h3]; rfl)
  have ga := v.gd.a (c + 1) n1 (by rw [h3]; rfl)
  have b3 := ins_jmp (v.ins (c + 1) n1) (by rw [h3]; rfl)
  have h0 := L_nn v hf hc
  unfold aft at n3 j3
  rw [h3, show pops 36 = 1 from rfl, show pushes 36 = 0 from rfl] at n3 j3
  have hfx : ¬ (c < (P.a (c + 1)).toNat ∧ (P.a (c + 1)).toNat < c + 2) := fun hx => f1.1 (c + 1) n1 (by rw [h3]; rfl) (by omega)
  by_cases hz : P.a c = 0
  · have hq : foldZero P c = stepI (setI P (c + 1) 35 (P.a (c + 1)) (P.b (c + 1))) c := if_pos hz
    rw [hq]
    have hp : Patch P (stepI (setI P (c + 1) 35 (P.a (c + 1)) (P.b (c + 1))) c) c 2 := (setI_patch 35 _ _ n1).more (stepI_patch (P := setI P (c + 1) 35 (P.a (c + 1)) (P.b (c + 1))) (k := c) hc) (by omega) (by omega) (by omega)
    have hr := patch_vf v hf hp (by decide) (fun x h1 h2 => by obtain rfl : x = c + 1 := by omega
                                                               exact f1) (fun i hi1 hi2 => by
      rcases (by omega : i = c ∨ i = c + 1) with rfl | rfl
      · have e : (stepI (setI P (i + 1) 35 (P.a (i + 1)) (P.b (i + 1))) i).op i = 35 := by unfold stepI; rw [setI_op, if_pos rfl]
        have e2 : (stepI (setI P (i + 1) 35 (P.a (i + 1)) (P.b (i + 1))) i).a i = ((i + 1 : Nat) : Int) := by unfold stepI; rw [setI_a, if_pos rfl]
        have e3 : (stepI (setI P (i + 1) 35 (P.a (i + 1)) (P.b (i + 1))) i).b i = 0 := by unfold stepI; rw [setI_b, if_pos rfl]
        unfold fine aft
        rw [e, e2, e3, pops35.1, pops35.2]
        refine ⟨step_ins n1, ⟨by omega, by omega⟩, fun h => (by cases h), fun _ => ?_⟩
        rw [Int.toNat_natCast]
        unfold relab
        rw [if_pos (by omega)]
        omega
      · have e : (stepI (setI P (c + 1) 35 (P.a (c + 1)) (P.b (c + 1))) c).op (c + 1) = 35 := by unfold stepI; rw [setI_op, if_neg (by omega), setI_op, if_pos rfl]
        have e2 : (stepI (setI P (c + 1) 35 (P.a (c + 1)) (P.b (c + 1))) c).a (c + 1) = P.a (c + 1) := by unfold stepI; rw [setI_a, if_neg (by omega), setI_a, if_pos rfl]
        have e3 : (stepI (setI P (c + 1) 35 (P.a (c + 1)) (P.b (c + 1))) c).b (c + 1) = 0 := by unfold stepI; rw [setI_b, if_neg (by omega), setI_b, if_pos rfl, b3]
        unfold fine aft
        rw [e, e2, e3, pops35.1, pops35.2]
        refine ⟨ins_jump (by decide) ga, ⟨by omega, by omega⟩, fun h => (by cases h), fun _ => ?_⟩
        unfold relab
        rw [if_neg hfx, j3]
        omega)
    exact ⟨hr.1, hr.2, hp⟩
  · have hq : foldZero P c = stepI (stepI P (c + 1)) c := if_neg hz
    rw [hq]
    have hp : Patch P (stepI (stepI P (c + 1)) c) c 2 := (stepI_patch n1).more (stepI_patch (P := stepI P (c + 1)) (k := c) hc) (by omega) (by omega) (by omega)
    have hr := patch_vf v hf hp (by decide) (fun x h1 h2 => by obtain rfl : x = c + 1 := by omega
                                                               exact f1) (fun i hi1 hi2 => by
      rcases (by omega : i = c ∨ i = c + 1) with rfl | rfl
      · have e : (stepI (stepI P (i + 1)) i).op i = 35 := by unfold stepI; rw [setI_op, if_pos rfl]
        have e2 : (stepI (stepI P (i + 1)) i).a i = ((i + 1 : Nat) : Int) := by unfold stepI; rw [setI_a, if_pos rfl]
        have e3 : (stepI (stepI P (i + 1)) i).b i = 0 := by unfold stepI; rw [setI_b, if_pos rfl]
        unfold fine aft
        rw [e, e2, e3, pops35.1, pops35.2]
        refine ⟨step_ins n1, ⟨by omega, by omega⟩, fun h => (by cases h), fun _ => ?_⟩
        rw [Int.toNat_natCast]
        unfold relab
        rw [if_pos (by omega)]
        omega
      · have e : (stepI (stepI P (c + 1)) c).op (c + 1) = 35 := by unfold stepI; rw [setI_op, if_neg (by omega), setI_op, if_pos rfl]
        have e2 : (stepI (stepI P (c + 1)) c).a (c + 1) = ((c + 1 + 1 : Nat) : Int) := by unfold stepI; rw [setI_a, if_neg (by omega), setI_a, if_pos rfl]
        have e3 : (stepI (stepI P (c + 1)) c).b (c + 1) = 0 := by unfold stepI; rw [setI_b, if_neg (by omega), setI_b, if_pos rfl]
        unfold fine aft
        rw [e, e2, e3, pops35.1, pops35.2]
        refine ⟨step_ins n3.1, ⟨by omega, by omega⟩, fun h => (by cases h), fun _ => ?_⟩
        rw [Int.toNat_natCast]
        unfold relab
        rw [if_neg (by omega), n3.2]
        omega)
    exact ⟨hr.1, hr.2, hp⟩
end
end Go.Proofs.YtopggemomcoalaaGreat
namespace Go.Proofs.YtopggemomcoalaaGreat
set_option linter.unusedVariables false
set_option linter.unusedSimpArgs false

/-! ### how heavy a program is -/
def sumN (f : Nat → Nat) : Nat → Nat
  | 0 => 0
  | n + 1 => sumN f n + f n
theorem sumN_congr {f g : Nat → Nat} : ∀ {n : Nat}, (∀ i, i < n → f i = g i) → sumN f n = sumN g n
  | 0, _ => rfl
  | n + 1, h => by show sumN f n + f n = sumN g n + g n; rw [sumN_congr (fun i hi => h i (by omega)), h n (Nat.lt_succ_self n)]
theorem sumN_add (f : Nat → Nat) (c : Nat) : ∀ s, sumN f (c + s) = sumN f c + sumN (fun k => f (c + k)) s
  | 0 => rfl
  | s + 1 => by show sumN f (c + s) + f (c + s) = sumN f c + (sumN (fun k => f (c + k)) s + f (c + s)); rw [sumN_add f c s]; omega
theorem sumN_patch {f g : Nat → Nat} {c s n : Nat} (h : ∀ i, (i < c ∨ c + s ≤ i) → f i = g i) (hn : c + s ≤ n) : sumN f n + sumN (fun k => g (c + k)) s = sumN g n + sumN (fun k => f (c + k)) s := by
  obtain ⟨d, rfl⟩ : ∃ d, n = c + s + d := ⟨n - (c + s), by omega⟩
  rw [sumN_add f (c + s) d, sumN_add g (c + s) d, sumN_add f c s, sumN_add g c s, sumN_congr (f := f) (g := g) (fun i hi => h i (by omega)), sumN_congr (f := fun k => f (c + s + k)) (g := fun k => g (c + s + k)) (fun i hi => h _ (by omega))]
  omega
def wt (o : Int) : Nat := if o = 35 then 2 else if o = 0 then 1 else 3
theorem wt_pos (o : Int) : 1 ≤ wt o := by
  unfold wt
  repeat' split
  all_goals omega
def mu (P : Pg) : Nat := sumN (fun i => wt (P.op i)) P.n
/-- the same, as far as they are looked at -/
structure PEq (P Q : Pg) : Prop where
  w : P.words = Q.words
  l : P.locals = Q.locals
  n : P.n = Q.n
  m : P.m = Q.m
  op : ∀ i, i < P.n → P.op i = Q.op i
  a : ∀ i, i < P.n → P.a i = Q.a i
  b : ∀ i, i < P.n → P.b i = Q.b i
  en : ∀ j, j < P.m → P.en j = Q.en j
theorem PEq.refl (P : Pg) : PEq P P := ⟨rfl, rfl, rfl, rfl, fun _ _ => rfl, fun _ _ => rfl, fun _ _ => rfl, fun _ _ => rfl⟩
theorem PEq.symm {P Q : Pg} (h : PEq P Q) : PEq Q P := ⟨h.w.symm, h.l.symm, h.n.symm, h.m.symm, fun i hi => (h.op i (by rw [h.n]; exact hi)).symm, fun i hi => (h.a i (by rw [h.n]; exact hi)).symm, fun i hi => (h.b i (by rw [h.n]; exact hi)).symm, fun j hj => (h.en j (by rw [h.m]; exact hj)).symm⟩
theorem PEq.trans {P Q R : Pg} (h : PEq P Q) (h' : PEq Q R) : PEq P R := ⟨h.w.trans h'.w, h.l.trans h'.l, h.n.trans h'.n, h.m.trans h'.m, fun i hi => (h.op i hi).trans (h'.op i (by rw [← h.n]; exact hi)), fun i hi => (h.a i hi).trans (h'.a i (by rw [← h.n]; exact hi)), fun i hi => (h.b i hi).trans (h'.b i (by rw [← h.n]; exact hi)), fun j hj => (h.en j hj).trans (h'.en j (by rw [← h.m]; exact hj))⟩
theorem PEq.mu {P Q : Pg} (h : PEq P Q) : mu P = mu Q := by
  unfold Go.Proofs.YtopggemomcoalaaGreat.mu
  rw [← h.n]
  exact sumN_congr fun i hi => by rw [h.op i hi]
theorem Patch.mu {P Q : Pg} {c s : Nat} (h : Patch P Q c s) : mu Q + sumN (fun k => wt (P.op (c + k))) s = mu P + sumN (fun k => wt (Q.op (c + k))) s := by
  unfold Go.Proofs.YtopggemomcoalaaGreat.mu
  rw [h.n]
  exact sumN_patch (f := fun i => wt (Q.op i)) (g := fun i => wt (P.op i)) (fun i hi => by rw [h.op i hi]) h.le
/-! ### the first step -/
def stp1 (P : Pg) (k : Nat) : Pg := if P.op k = 35 ∧ P.op (P.a k).toNat = 0 then setI P k 0 0 0 else P
def stpN (P : Pg) : Nat → Pg
  | 0 => P
  | k + 1 => stp1 (stpN P k) k
theorem stp1_vf {P : Pg} {L : Nat → Int} (v : Vf P L) {k : Nat} (hk : k < P.n) : Vf (stp1 P k) L ∧ (stp1 P k).n = P.n := by
  unfold stp1
  split
  · rename_i h
    have hpa := setI_patch (P := P) 0 0 0 hk
    have hop : ∀ i, (setI P k 0 0 0).op i = if i = k then 0 else P.op i := fun i => rfl
    refine ⟨⟨v.sz, fun i hi => ?_, v.en, v.le, v.nn, fun i hi hl => ?_, fun i hi hl he => ?_, fun i hi hl hj => ?_⟩, rfl⟩
    · show insErr (setI P k 0 0 0) (if i = k then 0 else P.op i) (if i = k then 0 else P.a i) (if i = k then 0 else P.b i) = 0
      rw [insErr_eq (P := P) (Q := setI P k 0 0 0) rfl rfl rfl rfl]
      by_cases hik : i = k
      · rw [if_pos hik, if_pos hik, if_pos hik]
        unfold insErr
        have hl : limI P 0 = 1 := by unfold limI; rw [if_neg (by omega), if_neg (by omega), if_neg (by omega), if_neg (by omega), if_neg (by omega)]
        rw [if_neg (by decide), if_neg (by decide), if_neg (by decide), if_pos (.inr ⟨by omega, by rw [hl]; omega⟩)]
      · rw [if_neg hik, if_neg hik, if_neg hik]
        exact v.ins i hi
    · have h1 := v.fn i hi hl
      unfold fine at h1 ⊢
      rw [hop]
      by_cases hik : i = k
      · subst hik
        rw [h.1, pops35.1, pops35.2] at h1
        rw [if_pos rfl, show pops 0 = 0 from rfl, show pushes 0 = 0 from rfl]
        exact h1
      · rw [if_neg hik]; exact h1
    · rw [hop] at he
      by_cases hik : i = k
      · rw [if_pos hik] at he; cases he
      · rw [if_neg hik] at he
        have h1 := v.nx i hi hl he
        refine ⟨h1.1, h1.2.trans ?_⟩
        unfold aft
        rw [hop, if_neg hik]
    · rw [hop] at hj
      by_cases hik : i = k
      · rw [if_pos hik] at hj; cases hj
      · rw [if_neg hik] at hj
        have h1 := v.jp i hi hl hj
        rw [setI_a, if_neg hik, h1]
        unfold aft
        rw [hop, if_neg hik]
  · exact ⟨v, rfl⟩
theorem stp1_mu {P : Pg} {k : Nat} (hk : k < P.n) : mu (stp1 P k) ≤ mu P ∧ (mu (stp1 P k) = mu P → stp1 P k = P ∧ ¬ (P.op k = 35 ∧ P.op (P.a k).toNat = 0)) := by
  unfold stp1
  split
  · rename_i h
    have h1 := (setI_patch (P := P) 0 0 0 hk).mu
    have e1 : sumN (fun j => wt (P.op (k + j))) 1 = 2 := by show 0 + wt (P.op (k + 0)) = 2; rw [Nat.add_zero, h.1]; rfl
    have e2 : sumN (fun j => wt ((setI P k 0 0 0).op (k + j))) 1 = 1 := by show 0 + wt ((setI P k 0 0 0).op (k + 0)) = 1; rw [Nat.add_zero, setI_op, if_pos rfl]; rfl
    rw [e1, e2] at h1
    exact ⟨by omega, fun h9 => by omega⟩
  · rename_i h
    exact ⟨Nat.le_refl _, fun _ => ⟨rfl, h⟩⟩
theorem stpN_vf {P : Pg} {L : Nat → Int} (v : Vf P L) : ∀ k, k ≤ P.n → Vf (stpN P k) L ∧ (stpN P k).n = P.n
  | 0, _ => ⟨v, rfl⟩
  | k + 1, hk => by
    obtain ⟨h1, h2⟩ := stpN_vf v k (by omega)
    obtain ⟨h3, h4⟩ := stp1_vf h1 (k := k) (by omega)
    exact ⟨h3, h4.trans h2⟩
theorem stp1_n (P : Pg) (k : Nat) : (stp1 P k).n = P.n ∧ (stp1 P k).m = P.m ∧ (stp1 P k).words = P.words ∧ (stp1 P k).locals = P.locals ∧ (stp1 P k).en = P.en := by
  unfold stp1
  split <;> exact ⟨rfl, rfl, rfl, rfl, rfl⟩
theorem stpN_n (P : Pg) : ∀ k, (stpN P k).n = P.n ∧ (stpN P k).m = P.m ∧ (stpN P k).words = P.words ∧ (stpN P k).locals = P.locals ∧ (stpN P k).en = P.en
  | 0 => ⟨rfl, rfl, rfl, rfl, rfl⟩
  | k + 1 => by
    obtain ⟨a, b, c, d, e⟩ := stpN_n P k
    obtain ⟨a', b', c', d', e'⟩ := stp1_n (stpN P k) k
    exact ⟨a'.trans a, b'.trans b, c'.trans c, d'.trans d, e'.trans e⟩
theorem stpN_mu (P : Pg) : ∀ k, k ≤ P.n → mu (stpN P k) ≤ mu P ∧ (mu (stpN P k) = mu P → stpN P k = P ∧ ∀ i, i < k → ¬ (P.op i = 35 ∧ P.op (P.a i).toNat = 0))
  | 0, _ => ⟨Nat.le_refl _, fun _ => ⟨rfl, fun i hi => absurd hi (Nat.not_lt_zero i)⟩⟩
  | k + 1, hk => by
    obtain ⟨h1, h2⟩ := stpN_mu P k (by omega)
    obtain ⟨h3, h4⟩ := stp1_mu (P := stpN P k) (k := k) (by rw [(stpN_n P k).1]; omega)
    refine ⟨Nat.le_trans h3 h1, fun h9 => ?_⟩
    have h9 : mu (stp1 (stpN P k) k) = mu P := h9
    obtain ⟨h5, h6⟩ := h2 (by omega)
    rw [h5] at h4
    obtain ⟨h7, h8⟩ := h4 (by rw [h5] at h9; exact h9)
    refine ⟨by show stp1 (stpN P k) k = P; rw [h5]; exact h7, fun i hi => ?_⟩
    rcases Nat.lt_or_eq_of_le (Nat.le_of_lt_succ hi) with h | rfl
    · exact h6 i h
    · exact h8
/-! ### what leaving out weighs -/
theorem kpt_sum (g : Nat → Bool) (f : Nat → Nat) : ∀ n, sumN (fun k => f ((kpt g n).getD k 0)) (tox g n) = sumN (fun i => if g i then 0 else f i) n
  | 0 => rfl
  | n + 1 => by
    show _ = sumN (fun i => if g i then 0 else f i) n + (if g n then 0 else f n)
    rw [← kpt_sum g f n, tox_succ]
    have e : ∀ k, k < tox g n → (kpt g (n + 1)).getD k 0 = (kpt g n).getD k 0 := fun k hk => by
      rw [kpt_succ, List.getD_eq_getElem?_getD, List.getElem?_append_left hk, ← List.getD_eq_getElem?_getD]
    cases h : g n with
    | true =>
      simp only [if_true, Nat.add_zero]
      exact sumN_congr fun k hk => by rw [e k hk]
    | false =>
      have h2 := kpt_get g (n + 1) (Nat.lt_succ_self n) h
      show sumN _ (tox g n) + f ((kpt g (n + 1)).getD (tox g n) 0) = _
      rw [sumN_congr (f := fun k => f ((kpt g (n + 1)).getD k 0)) (g := fun k => f ((kpt g n).getD k 0)) (fun k hk => by rw [e k hk]), List.getD_eq_getElem?_getD, h2]
      simp
theorem drop_sum (g : Nat → Bool) (f : Nat → Nat) (hf : ∀ i, 1 ≤ f i) : ∀ n, sumN (fun i => if g i then 0 else f i) n ≤ sumN f n ∧ (sumN (fun i => if g i then 0 else f i) n = sumN f n → ∀ i, i < n → g i = false)
  | 0 => ⟨Nat.le_refl _, fun _ i hi => absurd hi (Nat.not_lt_zero i)⟩
  | n + 1 => by
    obtain ⟨h1, h2⟩ := drop_sum g f hf n
    have h3 := hf n
    show sumN _ n + (if g n then 0 else f n) ≤ sumN f n + f n ∧ (sumN _ n + (if g n then 0 else f n) = sumN f n + f n → _)
    cases h : g n with
    | true => simp only [if_true]; exact ⟨by omega, fun h9 => by omega⟩
    | false =>
      simp only [Bool.false_eq_true, if_false]
      refine ⟨by omega, fun h9 i hi => ?_⟩
      rcases Nat.lt_or_eq_of_le (Nat.le_of_lt_succ hi) with h8 | rfl
      · exact h2 (by omega) i h8
      · exact h
theorem tox_id {g : Nat → Bool} : ∀ {n : Nat}, (∀ i, i < n → g i = false) → ∀ x, x ≤ n → tox g x = x
  | n, h, 0, _ => rfl
  | n, h, x + 1, hx => by rw [tox_succ, tox_id h x (by omega), h x (by omega)]; rfl
theorem kpt_id {g : Nat → Bool} {n : Nat} (h : ∀ i, i < n → g i = false) {k : Nat} (hk : k < n) : (kpt g n).getD k 0 = k := by
  have h1 := kpt_get g n hk (h k hk)
  rw [tox_id h k (by omega)] at h1
  rw [List.getD_eq_getElem?_getD, h1]
  rfl
theorem dropP_mu {P : Pg} (gd : Gd P) (g : Nat → Bool) : mu (dropP P g) ≤ mu P ∧ (mu (dropP P g) = mu P → (∀ i, i < P.n → g i = false) ∧ PEq (dropP P g) P) := by
  have e : mu (dropP P g) = sumN (fun i => if g i then 0 else wt (P.op i)) P.n := kpt_sum g (fun i => wt (P.op i)) P.n
  obtain ⟨h1, h2⟩ := drop_sum g (fun i => wt (P.op i)) (fun i => wt_pos _) P.n
  rw [e]
  refine ⟨h1, fun h9 => ?_⟩
  have h3 := h2 h9
  refine ⟨h3, rfl, rfl, tox_id h3 _ (Nat.le_refl _), rfl, fun i hi => ?_, fun i hi => ?_, fun i hi => ?_, fun j hj => ?_⟩
  all_goals (try (have hi2 : i < P.n := Nat.lt_of_lt_of_le hi (tox_le g P.n)))
  · show P.op ((kpt g P.n).getD i 0) = _
    rw [kpt_id h3 hi2]
  · show (if jmp (P.op ((kpt g P.n).getD i 0)) = true then ((tox g (P.a ((kpt g P.n).getD i 0)).toNat : Nat) : Int) else P.a ((kpt g P.n).getD i 0)) = _
    rw [kpt_id h3 hi2]
    split
    · rename_i hj
      have := gd.a i hi2 hj
      rw [tox_id h3 _ (by omega)]
      omega
    · rfl
  · show P.b ((kpt g P.n).getD i 0) = _
    rw [kpt_id h3 hi2]
  · show (if P.en j = -1 then -1 else ((tox g (P.en j).toNat : Nat) : Int)) = _
    have := gd.en j hj
    split
    · omega
    · rw [tox_id h3 _ (by omega)]; omega
end Go.Proofs.YtopggemomcoalaaGreat
namespace Go.Proofs.YtopggemomcoalaaGreat
set_option linter.unusedVariables false
set_option linter.unusedSimpArgs false

/-! ### the third step: what is known ahead -/
instance (P : Pg) (x : Nat) : Decidable (FreeP P x) := by unfold FreeP; exact inferInstance
def frB (P : Pg) (x : Nat) : Bool := decide (FreeP P x)
section
variable (R2 : Int → Int → Int → Option Int) (R1 : Int → Int → Option Int)
def fatP (fr : Nat → Bool) (P : Pg) (c : Nat) : Pg × Nat :=
  if P.op c = 1 ∧ fr (c + 1) = true then
    if P.op (c + 1) = 1 ∧ fr (c + 2) = true ∧ two2 (P.op (c + 2)) = true then
      match R2 (P.op (c + 2)) (P.a c) (P.a (c + 1)) with
      | some z => (fold3 P c z, 3)
      | none => (P, 1)
    else if one1 (P.op (c + 1)) = true then
      match R1 (P.op (c + 1)) (P.a c) with
      | some z => (fold2 P c z, 2)
      | none => (P, 1)
    else if P.op (c + 1) = 2 then (foldPop P c, 2)
    else if P.op (c + 1) = 36 then (foldZero P c, 2)
    else (P, 1)
  else (P, 1)
def foldL (fr : Nat → Bool) : Nat → Nat → Pg → Pg
  | 0, _, P => P
  | f + 1, c, P => if c < P.n then foldL fr f (c + (fatP R2 R1 fr P c).2) (fatP R2 R1 fr P c).1 else P
theorem FreeP.patch {P Q : Pg} {c s : Nat} (h : Patch P Q c s) (ht : ∀ i, c ≤ i → i < c + s → jmp (Q.op i) = true → (Q.a i).toNat ≤ c + s ∨ ∃ k, k < P.n ∧ jmp (P.op k) = true ∧ (P.a k).toNat = (Q.a i).toNat) {x : Nat} (hx : c + s < x) (hf : FreeP P x) : FreeP Q x := by
  refine ⟨fun i hi hj => ?_, fun j hj h0 => ?_⟩
  · rw [h.n] at hi
    by_cases h9 : c ≤ i ∧ i < c + s
    · rcases ht i h9.1 h9.2 hj with h8 | ⟨k, h1, h2, h3⟩
      · omega
      · rw [← h3]; exact hf.1 k h1 h2
    · rw [h.op i (by omega)] at hj
      rw [h.a i (by omega)]
      exact hf.1 i hi hj
  · rw [h.m] at hj
    rw [h.en] at h0 ⊢
    exact hf.2 j hj h0
theorem sumN3 (f : Nat → Nat) : sumN f 3 = f 0 + f 1 + f 2 := by show 0 + f 0 + f 1 + f 2 = _; omega
theorem sumN2 (f : Nat → Nat) : sumN f 2 = f 0 + f 1 := by show 0 + f 0 + f 1 = _; omega
theorem wt_two {o : Int} (h : two2 o = true) : wt o = 3 := by
  obtain ⟨h1, h2, h3, h4⟩ := two2_io h
  unfold wt
  rw [if_neg (by rintro rfl; cases h4), if_neg (by rintro rfl; cases h3)]
theorem wt_one {o : Int} (h : one1 o = true) : wt o = 3 := by
  obtain ⟨h1, h2, h3, h4⟩ := one1_io h
  unfold wt
  rw [if_neg (by rintro rfl; cases h4), if_neg (by rintro rfl; cases h3)]
/-- what one look does: nothing, or something that weighs less -/
structure FatR (fr : Nat → Bool) (P Q : Pg) (L : Nat → Int) (c s : Nat) : Prop where
  pa : Patch P Q c s
  vf : Vf Q (relab L c s) ∧ Full Q (relab L c s)
  mu : mu Q < mu P
  fr : ∀ x, c + s < x → FreeP P x → FreeP Q x
theorem fat_any {P : Pg} {L : Nat → Int} (v : Vf P L) (hf : Full P L) {fr : Nat → Bool} {c : Nat} (hc : c < P.n) (hfr : ∀ x, c < x → fr x = true → FreeP P x) : fatP R2 R1 fr P c = (P, 1) ∨ ∃ Q s, fatP R2 R1 fr P c = (Q, s) ∧ 0 < s ∧ FatR fr P Q L c s := by
  unfold fatP
  by_cases h1 : P.op c = 1 ∧ fr (c + 1) = true
  · rw [if_pos h1]
    have f1 := hfr (c + 1) (by omega) h1.2
    by_cases h2 : P.op (c + 1) = 1 ∧ fr (c + 2) = true ∧ two2 (P.op (c + 2)) = true
    · rw [if_pos h2]
      have f2 := hfr (c + 2) (by omega) h2.2.1
      cases R2 (P.op (c + 2)) (P.a c) (P.a (c + 1)) with
      | none => exact .inl rfl
      | some z =>
        obtain ⟨a1, a2, a3⟩ := fold3_vf v hf hc h1.1 h2.1 h2.2.2 f1 f2 z
        refine .inr ⟨_, 3, rfl, by decide, a3, ⟨a1, a2⟩, ?_, fun x hx hx2 => hx2.patch a3 (fun i hi1 hi2 hj => ?_) hx⟩
        · have h9 := a3.mu
          rw [sumN3, sumN3] at h9
          simp only [Nat.add_zero] at h9
          rw [h1.1, h2.1, wt_two h2.2.2] at h9
          have e0 : (fold3 P c z).op c = 35 := by unfold fold3 stepI; rw [setI_op, if_neg (by omega), setI_op, if_neg (by omega), setI_op, if_pos rfl]
          have e1 : (fold3 P c z).op (c + 1) = 35 := by unfold fold3 stepI; rw [setI_op, if_neg (by omega), setI_op, if_pos rfl]
          have e2 : (fold3 P c z).op (c + 2) = 1 := by unfold fold3; rw [setI_op, if_pos rfl]
          rw [e0, e1, e2, show wt 35 = 2 from rfl, show wt 1 = 3 from rfl] at h9
          omega
        · left
          rcases (by omega : i = c ∨ i = c + 1 ∨ i = c + 2) with rfl | rfl | rfl
          · have e2 : (fold3 P i z).a i = ((i + 1 : Nat) : Int) := by unfold fold3 stepI; rw [setI_a, if_neg (by omega), setI_a, if_neg (by omega), setI_a, if_pos rfl]
            rw [e2, Int.toNat_natCast]; omega
          · have e2 : (fold3 P c z).a (c + 1) = ((c + 1 + 1 : Nat) : Int) := by unfold fold3 stepI; rw [setI_a, if_neg (by omega), setI_a, if_pos rfl]
            rw [e2, Int.toNat_natCast]; omega
          · have e : (fold3 P c z).op (c + 2) = 1 := by unfold fold3; rw [setI_op, if_pos rfl]
            rw [e] at hj; cases hj
    · rw [if_neg h2]
      by_cases h3 : one1 (P.op (c + 1)) = true
      · rw [if_pos h3]
        cases R1 (P.op (c + 1)) (P.a c) with
        | none => exact .inl rfl
        | some z =>
          obtain ⟨a1, a2, a3⟩ := fold2_vf v hf hc h1.1 h3 f1 z
          refine .inr ⟨_, 2, rfl, by decide, a3, ⟨a1, a2⟩, ?_, fun x hx hx2 => hx2.patch a3 (fun i hi1 hi2 hj => ?_) hx⟩
          · have h9 := a3.mu
            rw [sumN2, sumN2] at h9
            simp only [Nat.add_zero] at h9
            rw [h1.1, wt_one h3] at h9
            have e0 : (fold2 P c z).op c = 35 := by unfold fold2 stepI; rw [setI_op, if_neg (by omega), setI_op, if_pos rfl]
            have e1 : (fold2 P c z).op (c + 1) = 1 := by unfold fold2; rw [setI_op, if_pos rfl]
            rw [e0, e1, show wt 35 = 2 from rfl, show wt 1 = 3 from rfl] at h9
            omega
          · left
            rcases (by omega : i = c ∨ i = c + 1) with rfl | rfl
            · have e2 : (fold2 P i z).a i = ((i + 1 : Nat) : Int) := by unfold fold2 stepI; rw [setI_a, if_neg (by omega), setI_a, if_pos rfl]
              rw [e2, Int.toNat_natCast]; omega
            · have e : (fold2 P c z).op (c + 1) = 1 := by unfold fold2; rw [setI_op, if_pos rfl]
              rw [e] at hj; cases hj
      · rw [if_neg h3]
        by_cases h4 : P.op (c + 1) = 2
        · rw [if_pos h4]
          obtain ⟨a1, a2, a3⟩ := foldPop_vf v hf hc h1.1 h4 f1
          refine .inr ⟨_, 2, rfl, by decide, a3, ⟨a1, a2⟩, ?_, fun x hx hx2 => hx2.patch a3 (fun i hi1 hi2 hj => ?_) hx⟩
          · have h9 := a3.mu
            rw [sumN2, sumN2] at h9
            simp only [Nat.add_zero] at h9
            rw [h1.1, h4] at h9
            have e0 : (foldPop P c).op c = 35 := by unfold foldPop stepI; rw [setI_op, if_neg (by omega), setI_op, if_pos rfl]
            have e1 : (foldPop P c).op (c + 1) = 35 := by unfold foldPop stepI; rw [setI_op, if_pos rfl]
            rw [e0, e1, show wt 35 = 2 from rfl, show wt 1 = 3 from rfl, show wt 2 = 3 from rfl] at h9
            omega
          · left
            rcases (by omega : i = c ∨ i = c + 1) with rfl | rfl
            · have e2 : (foldPop P i).a i = ((i + 1 : Nat) : Int) := by unfold foldPop stepI; rw [setI_a, if_neg (by omega), setI_a, if_pos rfl]
              rw [e2, Int.toNat_natCast]; omega
            · have e2 : (foldPop P c).a (c + 1) = ((c + 1 + 1 : Nat) : Int) := by unfold foldPop stepI; rw [setI_a, if_pos rfl]
              rw [e2, Int.toNat_natCast]; omega
        · rw [if_neg h4]
          by_cases h5 : P.op (c + 1) = 36
          · rw [if_pos h5]
            obtain ⟨a1, a2, a3⟩ := foldZero_vf v hf hc h1.1 h5 f1
            have n1 := (push_L v hf hc h1.1).1
            have e0 : (foldZero P c).op c = 35 ∧ (foldZero P c).op (c + 1) = 35 ∧ (foldZero P c).a c = ((c + 1 : Nat) : Int) ∧ ((foldZero P c).a (c + 1) = P.a (c + 1) ∨ (foldZero P c).a (c + 1) = ((c + 1 + 1 : Nat) : Int)) := by
              unfold foldZero
              split
              · refine ⟨?_, ?_, ?_, .inl ?_⟩
                · unfold stepI; rw [setI_op, if_pos rfl]
                · unfold stepI; rw [setI_op, if_neg (by omega), setI_op, if_pos rfl]
                · unfold stepI; rw [setI_a, if_pos rfl]
                · unfold stepI; rw [setI_a, if_neg (by omega), setI_a, if_pos rfl]
              · refine ⟨?_, ?_, ?_, .inr ?_⟩
                · unfold stepI; rw [setI_op, if_pos rfl]
                · unfold stepI; rw [setI_op, if_neg (by omega), setI_op, if_pos rfl]
                · unfold stepI; rw [setI_a, if_pos rfl]
                · unfold stepI; rw [setI_a, if_neg (by omega), setI_a, if_pos rfl]
            refine .inr ⟨_, 2, rfl, by decide, a3, ⟨a1, a2⟩, ?_, fun x hx hx2 => hx2.patch a3 (fun i hi1 hi2 hj => ?_) hx⟩
            · have h9 := a3.mu
              rw [sumN2, sumN2] at h9
              simp only [Nat.add_zero] at h9
              rw [h1.1, h5, e0.1, e0.2.1, show wt 35 = 2 from rfl, show wt 1 = 3 from rfl, show wt 36 = 3 from rfl] at h9
              omega
            · rcases (by omega : i = c ∨ i = c + 1) with rfl | rfl
              · left; rw [e0.2.2.1, Int.toNat_natCast]; omega
              · rcases e0.2.2.2 with h8 | h8
                · right; exact ⟨c + 1, n1, by rw [h5]; rfl, by rw [h8]⟩
                · left; rw [h8, Int.toNat_natCast]; omega
          · rw [if_neg h5]; exact .inl rfl
  · rw [if_neg h1]; exact .inl rfl
/-- the whole third step -/
structure FoldR (fr : Nat → Bool) (P Q : Pg) (c : Nat) : Prop where
  vf : ∃ L, Vf Q L ∧ Full Q L
  n : Q.n = P.n ∧ Q.m = P.m ∧ Q.words = P.words ∧ Q.locals = P.locals ∧ Q.en = P.en
  ml : mu Q ≤ mu P
  eq : mu Q = mu P → Q = P ∧ ∀ d, c ≤ d → d < P.n → fatP R2 R1 fr P d = (P, 1)
theorem foldL_any {fr : Nat → Bool} : ∀ (f c : Nat) {P : Pg} {L : Nat → Int}, Vf P L → Full P L → P.n - c ≤ f → (∀ x, c < x → fr x = true → FreeP P x) → FoldR R2 R1 fr P (foldL R2 R1 fr f c P) c
  | 0, c, P, L, v, hf, hd, hfr => ⟨⟨L, v, hf⟩, ⟨rfl, rfl, rfl, rfl, rfl⟩, Nat.le_refl _, fun _ => ⟨rfl, fun d h1 h2 => by omega⟩⟩
  | f + 1, c, P, L, v, hf, hd, hfr => by
    show FoldR R2 R1 fr P (if c < P.n then foldL R2 R1 fr f (c + (fatP R2 R1 fr P c).2) (fatP R2 R1 fr P c).1 else P) c
    by_cases hc : c < P.n
    · rw [if_pos hc]
      rcases fat_any R2 R1 v hf hc hfr with h | ⟨Q, s, h, hs, hR⟩
      · rw [h]
        show FoldR R2 R1 fr P (foldL R2 R1 fr f (c + 1) P) c
        have ih := foldL_any f (c + 1) v hf (by omega) (fun x hx h9 => hfr x (by omega) h9)
        refine ⟨ih.vf, ih.n, ih.ml, fun h9 => ?_⟩
        obtain ⟨h1, h2⟩ := ih.eq h9
        refine ⟨h1, fun d hd1 hd2 => ?_⟩
        rcases Nat.lt_or_eq_of_le hd1 with h8 | rfl
        · exact h2 d h8 hd2
        · exact h
      · rw [h]
        show FoldR R2 R1 fr P (foldL R2 R1 fr f (c + s) Q) c
        have hn := hR.pa.n
        have ih := foldL_any f (c + s) hR.vf.1 hR.vf.2 (by omega) (fun x hx h9 => hR.fr x hx (hfr x (by omega) h9))
        have hen : Q.en = P.en := funext hR.pa.en
        exact ⟨ih.vf, ⟨ih.n.1.trans hn, ih.n.2.1.trans hR.pa.m, ih.n.2.2.1.trans hR.pa.w, ih.n.2.2.2.1.trans hR.pa.l, ih.n.2.2.2.2.trans hen⟩, by have := ih.ml; have := hR.mu; omega, fun h9 => by have := ih.ml; have := hR.mu; omega⟩
    · rw [if_neg hc]
      exact ⟨⟨L, v, hf⟩, ⟨rfl, rfl, rfl, rfl, rfl⟩, Nat.le_refl _, fun _ => ⟨rfl, fun d h1 h2 => by omega⟩⟩
/-! ### a round -/
noncomputable def goU (P : Pg) (x : Nat) : Bool := decide (dL P x = -1)
def goS (P : Pg) (x : Nat) : Bool := P.op x == 35 && P.a x == ((x + 1 : Nat) : Int)
def shP (P : Pg) : Pg := stpN (leadP P (endP P)) P.n
noncomputable def dropsP (P : Pg) : Pg := let Q := dropP P (goU P); dropP Q (goS Q)
noncomputable def rndP (P : Pg) : Pg := let Q := dropsP (shP P); foldL R2 R1 (frB Q) Q.n 0 Q
end
end Go.Proofs.YtopggemomcoalaaGreat
namespace Go.Proofs.YtopggemomcoalaaGreat
set_option linter.unusedVariables false
set_option linter.unusedSimpArgs false

/-! ### the same programs do the same -/
theorem PEq.rch {P Q : Pg} (h : PEq P Q) {i : Nat} (hr : Rch P i) : Rch Q i := by
  induction hr with
  | entry j hj h0 =>
    rw [h.en j hj] at h0 ⊢
    exact .entry j (by rw [← h.m]; exact hj) h0
  | next i hr hi he ih => exact .next i ih (by rw [← h.n]; exact hi) (by rw [← h.op i hi]; exact he)
  | jump i hr hi he ih =>
    rw [h.a i hi]
    exact .jump i ih (by rw [← h.n]; exact hi) (by rw [← h.op i hi]; exact he)
theorem PEq.jstE {P Q : Pg} (h : PEq P Q) {x : Nat} (hx : x < P.n) : jst P x = jst Q x := by
  unfold Go.Proofs.YtopggemomcoalaaGreat.jst
  rw [h.op x hx, h.a x hx]
theorem PEq.jitE {P Q : Pg} (h : PEq P Q) (g : Gd P) : ∀ (k : Nat) {x : Nat}, x < P.n → jit P k x = jit Q k x
  | 0, x, _ => rfl
  | k + 1, x, hx => by
    show jit P k (jst P x) = jit Q k (jst Q x)
    rw [← h.jstE hx]
    exact h.jitE g k (jst_lt g hx)
theorem PEq.endE {P Q : Pg} (h : PEq P Q) (g : Gd P) {x : Nat} (hx : x < P.n) : endP P x = endP Q x := by
  unfold Go.Proofs.YtopggemomcoalaaGreat.endP
  rw [← h.n, ← h.jitE g P.n hx, h.op _ (jit_lt g P.n hx)]
theorem PEq.leadE {P Q : Pg} (h : PEq P Q) (g : Gd P) : PEq (leadP P (endP P)) (leadP Q (endP Q)) := by
  refine ⟨h.w, h.l, h.n, h.m, h.op, fun i hi => ?_, h.b, fun j hj => ?_⟩
  · have hi : i < P.n := hi
    show (if jmp (P.op i) = true then ((endP P (P.a i).toNat : Nat) : Int) else P.a i) = if jmp (Q.op i) = true then ((endP Q (Q.a i).toNat : Nat) : Int) else Q.a i
    rw [← h.op i hi, ← h.a i hi]
    by_cases hj : jmp (P.op i) = true
    · rw [if_pos hj, if_pos hj]
      have := g.a i hi hj
      rw [h.endE g (x := (P.a i).toNat) (by omega)]
    · rw [if_neg hj, if_neg hj]
  · have hj : j < P.m := hj
    show (if P.en j = -1 then -1 else ((endP P (P.en j).toNat : Nat) : Int)) = if Q.en j = -1 then -1 else ((endP Q (Q.en j).toNat : Nat) : Int)
    rw [← h.en j hj]
    by_cases h0 : P.en j = -1
    · rw [if_pos h0, if_pos h0]
    · rw [if_neg h0, if_neg h0]
      have := g.en j hj
      rw [h.endE g (x := (P.en j).toNat) (by omega)]
/-- whoever goes from jump to jump for ever, goes on so -/
theorem circ_next {P : Pg} (g : Gd P) {x : Nat} (hx : x < P.n) (h : P.op (jit P P.n x) = 35) : P.op x = 35 ∧ P.op (jit P P.n (jst P x)) = 35 := by
  refine ⟨Classical.byContradiction fun h9 => h9 (by rw [jit_fix h9] at h; exact h), Classical.byContradiction fun h9 => ?_⟩
  have h8 : P.op (jit P (P.n + 1) x) ≠ 35 := h9
  have := jit_short g hx h8 P.n (Nat.le_refl _)
  rw [this] at h
  exact h8 h
theorem lead_gd {P : Pg} {L : Nat → Int} (v : Vf P L) : Vf (leadP P (endP P)) L := leadP_vf v fun x hx => ⟨(endP_A v.gd hx).lt v.gd hx, fun hl => (endP_A v.gd hx).L v hx hl⟩
theorem circ_lead {P : Pg} (g : Gd P) : ∀ (k : Nat) {x : Nat}, x < P.n → P.op (jit P P.n x) = 35 → jit (leadP P (endP P)) k x = jit P k x
  | 0, x, _, _ => rfl
  | k + 1, x, hx, h => by
    obtain ⟨h1, h2⟩ := circ_next g hx h
    have e : jst (leadP P (endP P)) x = jst P x := by
      have e1 : jst P x = (P.a x).toNat := if_pos h1
      have e2 : jst (leadP P (endP P)) x = ((leadP P (endP P)).a x).toNat := if_pos h1
      rw [e2]
      show (if jmp (P.op x) = true then ((endP P (P.a x).toNat : Nat) : Int) else P.a x).toNat = _
      rw [if_pos (by rw [h1]; rfl), Int.toNat_natCast, ← e1]
      unfold endP
      rw [if_pos h2]
    show jit (leadP P (endP P)) k (jst (leadP P (endP P)) x) = jit P k (jst P x)
    rw [e]
    exact circ_lead g k (jst_lt g hx) h2
/-- led twice is led once -/
theorem end_idem {P : Pg} (g : Gd P) {x : Nat} (hx : x < P.n) : endP (leadP P (endP P)) (endP P x) = endP P x := by
  by_cases h : P.op (jit P P.n x) = 35
  · have e : endP P x = x := if_pos h
    rw [e]
    unfold endP
    rw [show (leadP P (fun x => if P.op (jit P P.n x) = 35 then x else jit P P.n x)) = leadP P (endP P) from rfl]
    rw [if_pos]
    show P.op (jit (leadP P (endP P)) P.n x) = 35
    rw [circ_lead g P.n hx h]
    exact h
  · have e : endP P x = jit P P.n x := if_neg h
    rw [e]
    exact endP_no h
theorem lead_idem {P : Pg} (g : Gd P) : PEq (leadP (leadP P (endP P)) (endP (leadP P (endP P)))) (leadP P (endP P)) := by
  refine ⟨rfl, rfl, rfl, rfl, fun _ _ => rfl, fun i hi => ?_, fun _ _ => rfl, fun j hj => ?_⟩
  · have hi : i < P.n := hi
    show (if jmp (P.op i) = true then ((endP (leadP P (endP P)) ((leadP P (endP P)).a i).toNat : Nat) : Int) else (leadP P (endP P)).a i) = (leadP P (endP P)).a i
    by_cases hj : jmp (P.op i) = true
    · have ea : (leadP P (endP P)).a i = ((endP P (P.a i).toNat : Nat) : Int) := if_pos hj
      have := g.a i hi hj
      rw [if_pos hj, ea, Int.toNat_natCast, end_idem g (by omega)]
    · rw [if_neg hj]
  · have hj : j < P.m := hj
    show (if (leadP P (endP P)).en j = -1 then -1 else ((endP (leadP P (endP P)) ((leadP P (endP P)).en j).toNat : Nat) : Int)) = (leadP P (endP P)).en j
    by_cases h0 : P.en j = -1
    · have ee : (leadP P (endP P)).en j = -1 := if_pos h0
      rw [if_pos ee, ee]
    · have ee : (leadP P (endP P)).en j = ((endP P (P.en j).toNat : Nat) : Int) := if_neg h0
      have := g.en j hj
      rw [if_neg (by rw [ee]; omega), ee, Int.toNat_natCast, end_idem g (by omega)]
/-! ### what a round makes -/
theorem shP_vf {P : Pg} {L : Nat → Int} (v : Vf P L) : Vf (shP P) L ∧ (shP P).n = P.n := stpN_vf (lead_gd v) P.n (Nat.le_refl _)
theorem goU_drop {P : Pg} {L : Nat → Int} (v : Vf P L) : ∃ L', Vf (dropP P (goU P)) L' ∧ Full (dropP P (goU P)) L' := by
  obtain ⟨_, vd⟩ := vf_of v.code
  obtain ⟨h1, h2⟩ := dropP_vf vd (goU P) (fun x hx hl h => absurd (of_decide_eq_true h) hl) (fun x hx h => of_decide_eq_false h)
  exact ⟨_, h1, h2⟩
theorem goS_drop {P : Pg} {L : Nat → Int} (v : Vf P L) (hf : Full P L) : ∃ L', Vf (dropP P (goS P)) L' ∧ Full (dropP P (goS P)) L' := by
  obtain ⟨h1, h2⟩ := dropP_vf v (goS P) (fun x hx hl h => by
    unfold goS at h
    rw [Bool.and_eq_true, beq_iff_eq, beq_iff_eq] at h
    have h3 := v.gd.a x hx (by rw [h.1]; rfl)
    have h4 := v.jp x hx hl (by rw [h.1]; rfl)
    rw [h.2, Int.toNat_natCast] at h4
    unfold aft at h4
    rw [h.1, pops35.1, pops35.2] at h4
    exact ⟨by omega, by omega⟩) (fun x hx _ => hf x hx)
  exact ⟨_, h1, h2⟩
/-- signs of the entries -/
def SgE (P Q : Pg) : Prop := Q.m = P.m ∧ ∀ j, j < P.m → (Q.en j < 0 ↔ P.en j < 0)
theorem SgE.trans {P Q R : Pg} (h : SgE P Q) (h' : SgE Q R) : SgE P R := ⟨h'.1.trans h.1, fun j hj => (h'.2 j (by rw [h.1]; exact hj)).trans (h.2 j hj)⟩
theorem lead_sg {P : Pg} (g : Gd P) (t : Nat → Nat) : SgE P (leadP P t) := ⟨rfl, fun j hj => by
  show (if P.en j = -1 then -1 else ((t (P.en j).toNat : Nat) : Int)) < 0 ↔ _
  have := g.en j hj
  split <;> omega⟩
theorem drop_sg {P : Pg} (g : Gd P) (f : Nat → Bool) : SgE P (dropP P f) := ⟨rfl, fun j hj => by
  show (if P.en j = -1 then -1 else ((tox f (P.en j).toNat : Nat) : Int)) < 0 ↔ _
  have := g.en j hj
  split <;> omega⟩
section
variable (R2 : Int → Int → Int → Option Int) (R1 : Int → Int → Option Int)
/-- nothing is left to be tidied -/
structure Tdy (Q : Pg) : Prop where
  stop : ∀ i, i < Q.n → ¬ (Q.op i = 35 ∧ Q.op (Q.a i).toNat = 0)
  all : ∀ i, i < Q.n → dL Q i ≠ -1
  step : ∀ i, i < Q.n → goS Q i = false
  fold : ∀ c, c < Q.n → fatP R2 R1 (frB Q) Q c = (Q, 1)
structure RndR (P Q : Pg) : Prop where
  vf : ∃ L, Vf Q L ∧ Full Q L
  sg : SgE P Q
  n : Q.n ≤ P.n ∧ Q.words = P.words ∧ Q.locals = P.locals
  ml : mu Q ≤ mu P
  eq : mu Q = mu P → PEq Q (leadP P (endP P)) ∧ Tdy R2 R1 Q
theorem rnd_any {P : Pg} {L : Nat → Int} (v : Vf P L) : RndR R2 R1 P (rndP R2 R1 P) := by
  obtain ⟨v2, n2⟩ := shP_vf v
  have s2 := stpN_n (leadP P (endP P)) P.n
  obtain ⟨m2, e2⟩ := stpN_mu (leadP P (endP P)) P.n (Nat.le_refl _)
  have hm1 : mu (leadP P (endP P)) = mu P := rfl
  obtain ⟨L3, v3, f3⟩ := goU_drop v2
  obtain ⟨m3, e3⟩ := dropP_mu v2.gd (goU (shP P))
  obtain ⟨L4, v4, f4⟩ := goS_drop v3 f3
  obtain ⟨m4, e4⟩ := dropP_mu v3.gd (goS (dropP (shP P) (goU (shP P))))
  have v4' : Vf (dropsP (shP P)) L4 := v4
  have f4' : Full (dropsP (shP P)) L4 := f4
  have F := foldL_any R2 R1 (fr := frB (dropsP (shP P))) (dropsP (shP P)).n 0 v4' f4' (Nat.le_of_eq (Nat.sub_zero _)) (fun x _ h => of_decide_eq_true h)
  have g2 : SgE P (shP P) := (lead_sg v.gd (endP P)).trans ⟨s2.2.1, fun j hj => by rw [show (shP P).en = (leadP P (endP P)).en from s2.2.2.2.2]⟩
  have g4 : SgE P (dropsP (shP P)) := (g2.trans (drop_sg v2.gd (goU (shP P)))).trans (drop_sg v3.gd (goS (dropP (shP P) (goU (shP P)))))
  have t3 := tox_le (goU (shP P)) (shP P).n
  have t4 := tox_le (goS (dropP (shP P) (goU (shP P)))) (dropP (shP P) (goU (shP P))).n
  have hn4 : (dropsP (shP P)).n = tox (goS (dropP (shP P) (goU (shP P)))) (dropP (shP P) (goU (shP P))).n := rfl
  have hn3 : (dropP (shP P) (goU (shP P))).n = tox (goU (shP P)) (shP P).n := rfl
  refine ⟨F.vf, g4.trans ⟨F.n.2.1, fun j hj => by rw [show (rndP R2 R1 P).en = (dropsP (shP P)).en from F.n.2.2.2.2]⟩, ⟨?_, F.n.2.2.1.trans s2.2.2.1, F.n.2.2.2.1.trans s2.2.2.2.1⟩, ?_, fun h => ?_⟩
  · have hF := F.n.1
    show (foldL R2 R1 (frB (dropsP (shP P))) (dropsP (shP P)).n 0 (dropsP (shP P))).n ≤ P.n
    rw [hF, hn4]
    omega
  · have := F.ml
    show mu (foldL R2 R1 (frB (dropsP (shP P))) (dropsP (shP P)).n 0 (dropsP (shP P))) ≤ mu P
    have h4 : mu (dropsP (shP P)) ≤ mu (dropP (shP P) (goU (shP P))) := m4
    have h2 : mu (shP P) ≤ mu (leadP P (endP P)) := m2
    omega
  · have h5 : mu (foldL R2 R1 (frB (dropsP (shP P))) (dropsP (shP P)).n 0 (dropsP (shP P))) = mu P := h
    have h4 : mu (dropsP (shP P)) ≤ mu (dropP (shP P) (goU (shP P))) := m4
    have h2 : mu (shP P) ≤ mu (leadP P (endP P)) := m2
    have h6 := F.ml
    obtain ⟨q1, q2⟩ := F.eq (by omega)
    obtain ⟨q3, q4⟩ := e4 (by show mu (dropsP (shP P)) = _; omega)
    obtain ⟨q5, q6⟩ := e3 (by omega)
    obtain ⟨q7, q8⟩ := e2 (by show mu (shP P) = _; omega)
    have hq : rndP R2 R1 P = dropsP (shP P) := q1
    have hs : shP P = leadP P (endP P) := q7
    have pe3 : PEq (dropsP (shP P)) (dropP (shP P) (goU (shP P))) := q4
    have pe2 : PEq (dropsP (shP P)) (shP P) := pe3.trans q6
    have pe1 : PEq (dropsP (shP P)) (leadP P (endP P)) := by rw [← hs]; exact pe2
    rw [hq]
    refine ⟨pe1, fun i hi hx => ?_, fun i hi => ?_, fun i hi => ?_, fun c hc => q2 c (Nat.zero_le _) hc⟩
    · have hi1 : i < P.n := by have := pe1.n; rw [← show (leadP P (endP P)).n = P.n from rfl]; omega
      have ha := v4'.gd.a i hi (by rw [hx.1]; rfl)
      refine q8 i hi1 ⟨(pe1.op i hi).symm.trans hx.1, ?_⟩
      rw [← pe1.a i hi, ← pe1.op _ (by omega)]
      exact hx.2
    · have hi2 : i < (shP P).n := by have := pe2.n; omega
      have h1 : dL (shP P) i ≠ -1 := of_decide_eq_false (q5 i hi2)
      have h3 : Rch (shP P) i := by
        unfold dL at h1
        by_cases he : ∃ d, Dp (shP P) i d
        · obtain ⟨d, hd⟩ := he; exact hd.rch
        · rw [dif_neg he] at h1; exact absurd rfl h1
      exact (v4'.dL hi (pe2.symm.rch h3)).2
    · have hi3 : i < (dropP (shP P) (goU (shP P))).n := by have := pe3.n; omega
      have h1 := q3 i hi3
      unfold goS at h1 ⊢
      rw [pe3.op i hi, pe3.a i hi]
      exact h1
/-- what falls with every round that changes anything -/
noncomputable def wM (P : Pg) : Nat := by classical exact 2 * mu P + (if PEq (leadP P (endP P)) P then 0 else 1)
theorem rnd_less {P : Pg} {L : Nat → Int} (v : Vf P L) (hne : ¬ PEq (rndP R2 R1 P) P) : wM (rndP R2 R1 P) < wM P := by
  have R := rnd_any R2 R1 v
  obtain ⟨L', v', f'⟩ := R.vf
  have hml := R.ml
  unfold wM
  by_cases h : mu (rndP R2 R1 P) = mu P
  · obtain ⟨h1, h2⟩ := R.eq h
    have h3 : ¬ PEq (leadP P (endP P)) P := fun h9 => hne (h1.trans h9)
    have h4 : PEq (leadP (rndP R2 R1 P) (endP (rndP R2 R1 P))) (rndP R2 R1 P) := ((h1.leadE v'.gd).trans (lead_idem v.gd)).trans h1.symm
    rw [if_neg h3, if_pos h4, h]
    omega
  · split <;> split <;> omega
/-- where a round changes nothing, nothing is left -/
theorem rnd_done {P : Pg} {L : Nat → Int} (v : Vf P L) (he : PEq (rndP R2 R1 P) P) : Tdy R2 R1 (rndP R2 R1 P) ∧ PEq (leadP (rndP R2 R1 P) (endP (rndP R2 R1 P))) (rndP R2 R1 P) := by
  have R := rnd_any R2 R1 v
  obtain ⟨L', v', f'⟩ := R.vf
  obtain ⟨h1, h2⟩ := R.eq he.mu
  exact ⟨h2, ((h1.leadE v'.gd).trans (lead_idem v.gd)).trans h1.symm⟩
end
end Go.Proofs.YtopggemomcoalaaGreat
namespace Go.Proofs.YtopggemomcoalaaGreat
set_option linter.unusedVariables false
set_option linter.unusedSimpArgs false

/-! ### where nothing is left, a round does nothing -/
theorem drop_none {P : Pg} (gd : Gd P) {g : Nat → Bool} (h : ∀ i, i < P.n → g i = false) : PEq (dropP P g) P :=
  ((dropP_mu gd g).2 (by
    have e : mu (dropP P g) = sumN (fun i => if g i then 0 else wt (P.op i)) P.n := kpt_sum g (fun i => wt (P.op i)) P.n
    rw [e]
    exact sumN_congr fun i hi => by rw [h i hi]; rfl)).2
theorem stpN_none {P : Pg} (h : ∀ i, i < P.n → ¬ (P.op i = 35 ∧ P.op (P.a i).toNat = 0)) : ∀ k, k ≤ P.n → stpN P k = P
  | 0, _ => rfl
  | k + 1, hk => by
    show stp1 (stpN P k) k = P
    rw [stpN_none h k (by omega)]
    exact if_neg (h k (by omega))
theorem PEq.free {P Q : Pg} (h : PEq P Q) {x : Nat} (hf : FreeP P x) : FreeP Q x := ⟨fun i hi hj => by
  have hi : i < P.n := by rw [h.n]; exact hi
  rw [← h.a i hi]
  rw [← h.op i hi] at hj
  exact hf.1 i hi hj, fun j hj h0 => by
  have hj : j < P.m := by rw [h.m]; exact hj
  rw [← h.en j hj] at h0 ⊢
  exact hf.2 j hj h0⟩
theorem PEq.frE {P Q : Pg} (h : PEq P Q) (x : Nat) : frB P x = frB Q x := by
  unfold frB
  exact decide_eq_decide.2 ⟨h.free, h.symm.free⟩
section
variable (R2 : Int → Int → Int → Option Int) (R1 : Int → Int → Option Int)
def fatS (o0 o1 o2 a0 a1 : Int) (f1 f2 : Bool) : Nat :=
  if o0 = 1 ∧ f1 = true then
    if o1 = 1 ∧ f2 = true ∧ two2 o2 = true then
      match R2 o2 a0 a1 with
      | some _ => 3
      | none => 1
    else if one1 o1 = true then
      match R1 o1 a0 with
      | some _ => 2
      | none => 1
    else if o1 = 2 then 2 else if o1 = 36 then 2 else 1
  else 1
theorem fat_S (fr : Nat → Bool) (P : Pg) (c : Nat) : (fatP R2 R1 fr P c).2 = fatS R2 R1 (P.op c) (P.op (c + 1)) (P.op (c + 2)) (P.a c) (P.a (c + 1)) (fr (c + 1)) (fr (c + 2)) ∧ ((fatP R2 R1 fr P c).2 = 1 → fatP R2 R1 fr P c = (P, 1)) := by
  unfold fatP fatS
  by_cases h1 : P.op c = 1 ∧ fr (c + 1) = true
  · rw [if_pos h1, if_pos h1]
    by_cases h2 : P.op (c + 1) = 1 ∧ fr (c + 2) = true ∧ two2 (P.op (c + 2)) = true
    · rw [if_pos h2, if_pos h2]
      cases R2 (P.op (c + 2)) (P.a c) (P.a (c + 1)) with
      | none => exact ⟨rfl, fun _ => rfl⟩
      | some z => exact ⟨rfl, fun h => by cases h⟩
    · rw [if_neg h2, if_neg h2]
      by_cases h3 : one1 (P.op (c + 1)) = true
      · rw [if_pos h3, if_pos h3]
        cases R1 (P.op (c + 1)) (P.a c) with
        | none => exact ⟨rfl, fun _ => rfl⟩
        | some z => exact ⟨rfl, fun h => by cases h⟩
      · rw [if_neg h3, if_neg h3]
        by_cases h4 : P.op (c + 1) = 2
        · rw [if_pos h4, if_pos h4]; exact ⟨rfl, fun h => by cases h⟩
        · rw [if_neg h4, if_neg h4]
          by_cases h5 : P.op (c + 1) = 36
          · rw [if_pos h5, if_pos h5]; exact ⟨rfl, fun h => by cases h⟩
          · rw [if_neg h5, if_neg h5]; exact ⟨rfl, fun _ => rfl⟩
  · rw [if_neg h1, if_neg h1]; exact ⟨rfl, fun _ => rfl⟩
theorem fat_eq {P Q : Pg} {L : Nat → Int} (h : PEq P Q) (v : Vf P L) (hf : Full P L) {fr fs : Nat → Bool} (hfs : ∀ x, fr x = fs x) {c : Nat} (hc : c < P.n) : (fatP R2 R1 fs Q c).2 = (fatP R2 R1 fr P c).2 := by
  rw [(fat_S R2 R1 fr P c).1, (fat_S R2 R1 fs Q c).1, ← h.op c hc, ← h.a c hc, ← hfs, ← hfs]
  by_cases h1 : P.op c = 1
  · obtain ⟨k1, _⟩ := push_L v hf hc h1
    rw [← h.op (c + 1) k1, ← h.a (c + 1) k1]
    by_cases h2 : P.op (c + 1) = 1
    · obtain ⟨k2, _⟩ := push_L v hf k1 h2
      rw [← h.op (c + 2) k2]
    · have hA : ¬ (P.op (c + 1) = 1 ∧ fr (c + 2) = true ∧ two2 (P.op (c + 2)) = true) := fun h => h2 h.1
      have hB : ¬ (P.op (c + 1) = 1 ∧ fr (c + 2) = true ∧ two2 (Q.op (c + 2)) = true) := fun h => h2 h.1
      unfold fatS
      rw [if_neg hA, if_neg hB]
  · unfold fatS
    have hA : ∀ b : Bool, ¬ (P.op c = 1 ∧ b = true) := fun b h => h1 h.1
    rw [if_neg (hA _), if_neg (hA _)]
theorem foldL_none {fr : Nat → Bool} {P : Pg} (h : ∀ c, c < P.n → fatP R2 R1 fr P c = (P, 1)) : ∀ f c, foldL R2 R1 fr f c P = P
  | 0, c => rfl
  | f + 1, c => by
    show (if c < P.n then foldL R2 R1 fr f (c + (fatP R2 R1 fr P c).2) (fatP R2 R1 fr P c).1 else P) = P
    by_cases hc : c < P.n
    · rw [if_pos hc, h c hc]
      exact foldL_none h f (c + 1)
    · rw [if_neg hc]
theorem rnd_fix {Q : Pg} {L : Nat → Int} (v : Vf Q L) (t : Tdy R2 R1 Q) (p1 : PEq (leadP Q (endP Q)) Q) : PEq (rndP R2 R1 Q) Q := by
  have v1 := lead_gd v
  have hs : shP Q = leadP Q (endP Q) := stpN_none (P := leadP Q (endP Q)) (fun i hi hx => by
    have hi : i < Q.n := hi
    have ha := v1.gd.a i hi (by rw [hx.1]; rfl)
    have ha2 : (leadP Q (endP Q)).a i < Q.n := ha.2
    refine t.stop i hi ⟨(p1.op i hi).symm.trans hx.1, ?_⟩
    rw [← p1.a i hi, ← p1.op _ (by show ((leadP Q (endP Q)).a i).toNat < Q.n; omega)]
    exact hx.2) _ (Nat.le_refl _)
  generalize leadP Q (endP Q) = Q1 at p1 v1 hs
  have hu : ∀ i, i < Q1.n → goU Q1 i = false := fun i hi => by
    have hi2 : i < Q.n := by have := p1.n; omega
    have h1 := t.all i hi2
    have h3 : Rch Q i := by
      unfold dL at h1
      by_cases he : ∃ d, Dp Q i d
      · obtain ⟨d, hd⟩ := he; exact hd.rch
      · rw [dif_neg he] at h1; exact absurd rfl h1
    exact decide_eq_false (v1.dL hi (p1.symm.rch h3)).2
  have p2 := drop_none v1.gd hu
  obtain ⟨L2, v2, f2⟩ := goU_drop v1
  have hq : rndP R2 R1 Q = foldL R2 R1 (frB (dropsP Q1)) (dropsP Q1).n 0 (dropsP Q1) := by
    show foldL R2 R1 (frB (dropsP (shP Q))) (dropsP (shP Q)).n 0 (dropsP (shP Q)) = _
    rw [hs]
  have hd : dropsP Q1 = dropP (dropP Q1 (goU Q1)) (goS (dropP Q1 (goU Q1))) := rfl
  rw [hq, hd]
  generalize dropP Q1 (goU Q1) = Q2 at p2 v2 f2
  have p2 := p2.trans p1
  have p3 := (drop_none v2.gd (g := goS Q2) fun i hi => by
    have hi2 : i < Q.n := by have := p2.n; omega
    have h1 := t.step i hi2
    unfold goS at h1 ⊢
    rw [p2.op i hi, p2.a i hi]
    exact h1).trans p2
  obtain ⟨L3, v3, f3⟩ := goS_drop v2 f2
  generalize dropP Q2 (goS Q2) = Q3 at p3 v3 f3
  rw [foldL_none R2 R1 fun c hc => (fat_S R2 R1 _ _ c).2 (by
    have hc2 : c < Q.n := by have := p3.n; omega
    rw [← fat_eq R2 R1 p3 v3 f3 (fun x => p3.frE x) hc, t.fold c hc2])]
  exact p3
/-- what the law asks of it -/
theorem tdy_jump {Q : Pg} {L : Nat → Int} (v : Vf Q L) (t : Tdy R2 R1 Q) {i : Nat} (hi : i < Q.n) (h : Q.op i = 35) : Q.a i ≠ ((i + 1 : Nat) : Int) ∧ Q.op (Q.a i).toNat ≠ 0 := by
  refine ⟨fun e => ?_, fun e => t.stop i hi ⟨h, e⟩⟩
  have := t.step i hi
  unfold goS at this
  rw [h, e] at this
  simp at this
theorem circ_all {P : Pg} (g : Gd P) : ∀ (k : Nat) {x : Nat}, x < P.n → P.op (jit P P.n x) = 35 → P.op (jit P k x) = 35
  | 0, x, hx, h => (circ_next g hx h).1
  | k + 1, x, hx, h => circ_all g k (jst_lt g hx) (circ_next g hx h).2
theorem tdy_circ {Q : Pg} {L : Nat → Int} (v : Vf Q L) (p1 : PEq (leadP Q (endP Q)) Q) {i : Nat} (hi : i < Q.n) (h : jmp (Q.op i) = true) (h2 : Q.op (Q.a i).toNat = 35) (k : Nat) : Q.op (jit Q k (Q.a i).toNat) = 35 := by
  have ha := v.gd.a i hi h
  have e := p1.a i hi
  have e : (if jmp (Q.op i) = true then ((endP Q (Q.a i).toNat : Nat) : Int) else Q.a i) = Q.a i := e
  rw [if_pos h] at e
  have e2 : endP Q (Q.a i).toNat = (Q.a i).toNat := by omega
  refine circ_all v.gd k (by omega) ?_
  refine Classical.byContradiction fun h9 => ?_
  unfold endP at e2
  rw [if_neg h9] at e2
  rw [e2] at h9
  exact h9 h2
theorem tdy_add {Q : Pg} {L : Nat → Int} (t : Tdy R2 R1 Q) (hR : ∀ x y, R2 13 x y ≠ none) {c : Nat} (hc : c < Q.n) (h0 : Q.op c = 1) (h1 : Q.op (c + 1) = 1) (h2 : Q.op (c + 2) = 13) (f1 : FreeP Q (c + 1)) (f2 : FreeP Q (c + 2)) : False := by
  have h := t.fold c hc
  have h9 : (fatP R2 R1 (frB Q) Q c).2 = 1 := by rw [h]
  rw [(fat_S R2 R1 _ _ c).1] at h9
  unfold fatS at h9
  rw [h0, h1, h2, if_pos ⟨rfl, decide_eq_true f1⟩, if_pos ⟨rfl, decide_eq_true f2, rfl⟩] at h9
  cases h8 : R2 13 (Q.a c) (Q.a (c + 1)) with
  | none => exact hR _ _ h8
  | some z => rw [h8] at h9; cases h9
end
end Go.Proofs.YtopggemomcoalaaGreat
