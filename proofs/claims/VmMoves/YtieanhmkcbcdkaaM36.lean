import Derived.Test.YtieanhmkcbcdkaaM31
import Derived.Test.YtieanhmkcbcdkaaM25
namespace Go.Proofs.Ytieanhmkcbcdkaa
open Go.ChangeShapes Go.WideShapes Go.ChangeAt Go.RowKit
set_option linter.unusedVariables false

theorem ferr_zero' {f : Nat → Int} {k : Nat} (h : ∀ j, j < k → f j = 0) : ferr f 0 k = 0 := ferr_all fun j _ hj => h j (by omega)
/-! ### a program with instructions ahead of it -/
def mvP (P : Pg) (p : Nat) : Pg := ⟨P.words, P.locals, p + P.n, fun i => if i < p then 40 else P.op (i - p), fun i => if i < p then 0 else if jmp (P.op (i - p)) = true then wrap64 (P.a (i - p) + p) else P.a (i - p), fun i => if i < p then 0 else P.b (i - p), P.m, fun j => if 0 ≤ P.en j then wrap64 (P.en j + p) else P.en j⟩
theorem mv_op (P : Pg) (p i : Nat) : (mvP P p).op (p + i) = P.op i := by
  show (if p + i < p then (40 : Int) else P.op (p + i - p)) = _
  rw [if_neg (by omega), Nat.add_sub_cancel_left]
theorem mv_op0 (P : Pg) {p i : Nat} (h : i < p) : (mvP P p).op i = 40 ∧ (mvP P p).a i = 0 ∧ (mvP P p).b i = 0 := by
  refine ⟨?_, ?_, ?_⟩
  · show (if i < p then (40 : Int) else P.op (i - p)) = _
    rw [if_pos h]
  · show (if i < p then (0 : Int) else _) = _
    rw [if_pos h]
  · show (if i < p then (0 : Int) else _) = _
    rw [if_pos h]
theorem mv_b (P : Pg) (p i : Nat) : (mvP P p).b (p + i) = P.b i := by
  show (if p + i < p then (0 : Int) else P.b (p + i - p)) = _
  rw [if_neg (by omega), Nat.add_sub_cancel_left]
theorem mv_a (P : Pg) (p i : Nat) : (mvP P p).a (p + i) = if jmp (P.op i) = true then wrap64 (P.a i + p) else P.a i := by
  show (if p + i < p then (0 : Int) else if jmp (P.op (p + i - p)) = true then wrap64 (P.a (p + i - p) + p) else P.a (p + i - p)) = _
  rw [if_neg (by omega), Nat.add_sub_cancel_left]
theorem w64 {x : Int} (h : 0 ≤ x ∧ x ≤ 100000) : wrap64 x = x := by unfold wrap64; omega
structure MvOk (P : Pg) (p : Nat) : Prop where
  z : dcode P P.m = 0
  le : p ≤ 100
  n : p + P.n ≤ 4096
theorem MvOk.aj {P : Pg} {p : Nat} (h : MvOk P p) {i : Nat} (hi : i < P.n) (hj : jmp (P.op i) = true) : (0 ≤ P.a i ∧ P.a i < P.n) ∧ (mvP P p).a (p + i) = P.a i + p := by
  obtain ⟨_, hs, hins, g, hnr, hbd⟩ := dcode_zero h.z
  have ha := g.a i hi hj
  have hn := h.n
  have hp := h.le
  refine ⟨ha, ?_⟩
  rw [mv_a, if_pos hj, w64 ⟨by omega, by omega⟩]
theorem MvOk.en {P : Pg} {p : Nat} (h : MvOk P p) {j : Nat} (hj : j < P.m) : (P.en j = -1 ∧ (mvP P p).en j = -1) ∨ (0 ≤ P.en j ∧ P.en j < P.n ∧ (mvP P p).en j = P.en j + p) := by
  obtain ⟨_, hs, hins, g, hnr, hbd⟩ := dcode_zero h.z
  have he := g.en j hj
  have hn := h.n
  have hp := h.le
  have e : (mvP P p).en j = if 0 ≤ P.en j then wrap64 (P.en j + p) else P.en j := rfl
  by_cases h0 : 0 ≤ P.en j
  · right
    rw [e, if_pos h0, w64 ⟨by omega, by omega⟩]
    exact ⟨h0, he.2, rfl⟩
  · left
    rw [e, if_neg h0]
    omega
theorem MvOk.ins {P : Pg} {p : Nat} (h : MvOk P p) (i : Nat) (hi : i < p + P.n) : insE (mvP P p) i = 0 := by
  obtain ⟨_, hs, hins, g, hnr, hbd⟩ := dcode_zero h.z
  by_cases hlt : i < p
  · unfold insE
    obtain ⟨e1, e2, e3⟩ := mv_op0 P hlt
    rw [e1, e2, e3]
    rfl
  · obtain ⟨k, rfl⟩ : ∃ k, i = p + k := ⟨i - p, by omega⟩
    have hk : k < P.n := by omega
    have h0 : insErr P (P.op k) (P.a k) (P.b k) = 0 := ferr_zero hins k (by omega) (by omega)
    unfold insE
    rw [mv_op, mv_b]
    by_cases hj : jmp (P.op k) = true
    · obtain ⟨ha, e⟩ := h.aj hk hj
      rw [e]
      have ho : P.op k = 35 ∨ P.op k = 36 := by unfold jmp at hj; simpa using hj
      have hn := h.n
      have hb : P.b k = 0 := by
        unfold insErr at h0
        rw [if_neg (by omega), if_neg (by rcases ho with e | e <;> rw [e] <;> decide)] at h0
        by_cases hb : P.b k = 0
        · exact hb
        · rw [if_pos hb] at h0; cases h0
      have hl : limI (mvP P p) (P.op k) = (p + P.n : Nat) := by
        unfold limI
        rw [if_neg (by omega), if_neg (by omega), if_pos ho]
        rfl
      unfold insErr
      rw [if_neg (by omega), if_neg (by rcases ho with e | e <;> rw [e] <;> decide), if_neg (by simpa using hb), hl, if_pos (.inr ⟨by omega, by omega⟩)]
    · rw [mv_a, if_neg hj]
      have hl : limI (mvP P p) (P.op k) = limI P (P.op k) := by
        have hno : ¬ (P.op k = 35 ∨ P.op k = 36) := fun hc => hj (by unfold jmp; simpa using hc)
        unfold limI
        rw [if_neg hno, if_neg hno]
        rfl
      unfold insErr at h0 ⊢
      rw [hl]
      exact h0
theorem Rch.mv {P : Pg} {p : Nat} (h : MvOk P p) {i : Nat} (hr : Rch (mvP P p) i) : ∃ k, i = p + k ∧ Rch P k ∧ k < P.n := by
  obtain ⟨_, hs, hins, g, hnr, hbd⟩ := dcode_zero h.z
  have lt : ∀ k, Rch P k → k < P.n := fun k hk => by
    have := hk.le g
    rcases Nat.lt_or_ge k P.n with z | z
    · exact z
    · obtain rfl : k = P.n := by omega
      exact absurd hk hnr
  induction hr with
  | entry j hj h0 =>
    rcases h.en hj with ⟨e1, e2⟩ | ⟨e1, e2, e3⟩
    · rw [e2] at h0; omega
    · exact ⟨(P.en j).toNat, by rw [e3]; omega, .entry j hj e1, by omega⟩
  | next i hr hi he ih =>
    obtain ⟨k, rfl, hk, hkn⟩ := ih
    rw [mv_op] at he
    have := Rch.next k hk hkn he
    exact ⟨k + 1, by omega, this, lt _ this⟩
  | jump i hr hi he ih =>
    obtain ⟨k, rfl, hk, hkn⟩ := ih
    rw [mv_op] at he
    obtain ⟨ha, e⟩ := h.aj hkn he
    have := Rch.jump k hk hkn he
    exact ⟨(P.a k).toNat, by rw [e]; omega, this, lt _ this⟩
theorem mv_fine (P : Pg) (p i : Nat) (d : Int) : fine (mvP P p) (p + i) d ↔ fine P i d := by
  unfold fine
  rw [mv_op]
theorem mv_aft (P : Pg) (p i : Nat) (d : Int) : aft (mvP P p) (p + i) d = aft P i d := by
  unfold aft
  rw [mv_op]
theorem Dp.mv {P : Pg} {p : Nat} (h : MvOk P p) {i : Nat} {d : Int} (hd : Dp P i d) : Dp (mvP P p) (p + i) d := by
  obtain ⟨_, hs, hins, g, hnr, hbd⟩ := dcode_zero h.z
  induction hd with
  | entry j hj h0 =>
    rcases h.en hj with ⟨e1, e2⟩ | ⟨e1, e2, e3⟩
    · omega
    · have := Dp.entry (P := mvP P p) j hj (by omega)
      rw [e3] at this
      rwa [show (P.en j + (p : Int)).toNat = p + (P.en j).toNat by omega] at this
  | next i d hd hi hf he ih =>
    have := Dp.next (P := mvP P p) (p + i) d ih (by show p + i < p + P.n; omega) ((mv_fine P p i d).2 hf) (by rw [mv_op]; exact he)
    rwa [mv_aft] at this
  | jump i d hd hi hf he ih =>
    obtain ⟨ha, e⟩ := h.aj hi he
    have := Dp.jump (P := mvP P p) (p + i) d ih (by show p + i < p + P.n; omega) ((mv_fine P p i d).2 hf) (by rw [mv_op]; exact he)
    rw [mv_aft, e] at this
    rwa [show (P.a i + (p : Int)).toNat = p + (P.a i).toNat by omega] at this
noncomputable def mvL (P : Pg) (p : Nat) (i : Nat) : Int := if i < p then -1 else dL P (i - p)
theorem mvL_at (P : Pg) (p k : Nat) : mvL P p (p + k) = dL P k := by
  unfold mvL
  rw [if_neg (by omega), Nat.add_sub_cancel_left]
theorem MvOk.sol {P : Pg} {p : Nat} (h : MvOk P p) : Sol (mvP P p) (mvL P p) := by
  obtain ⟨_, hs, hins, g, hnr, hbd⟩ := dcode_zero h.z
  have hsol := sol_dL g hnr hbd
  have split : ∀ i, mvL P p i ≠ -1 → ∃ k, i = p + k := fun i hi => by
    rcases Nat.lt_or_ge i p with z | z
    · unfold mvL at hi; rw [if_pos z] at hi; exact absurd rfl hi
    · exact ⟨i - p, by omega⟩
  refine ⟨fun i hi hl => ?_, fun j hj h0 => ?_, fun i hi hl => ?_, fun i hi hl he => ?_, fun i hi hl hj => ?_⟩
  · obtain ⟨k, rfl⟩ := split i hl
    have hk : k < P.n := by have : p + k < p + P.n := hi; omega
    rw [mvL_at] at hl ⊢
    exact (hsol.dp k hk hl).mv h
  · rcases h.en hj with ⟨e1, e2⟩ | ⟨e1, e2, e3⟩
    · rw [e2] at h0; omega
    · rw [e3, show (P.en j + (p : Int)).toNat = p + (P.en j).toNat by omega, mvL_at]
      exact hsol.en j hj e1
  · obtain ⟨k, rfl⟩ := split i hl
    have hk : k < P.n := by have : p + k < p + P.n := hi; omega
    rw [mvL_at] at hl ⊢
    exact (mv_fine P p k _).2 (hsol.fine k hk hl)
  · obtain ⟨k, rfl⟩ := split i hl
    have hk : k < P.n := by have : p + k < p + P.n := hi; omega
    rw [mvL_at] at hl ⊢
    rw [mv_op] at he
    rw [mv_aft, Nat.add_assoc, mvL_at]
    exact hsol.next k hk hl he
  · obtain ⟨k, rfl⟩ := split i hl
    have hk : k < P.n := by have : p + k < p + P.n := hi; omega
    rw [mvL_at] at hl ⊢
    rw [mv_op] at hj
    obtain ⟨ha, e⟩ := h.aj hk hj
    rw [mv_aft, e, show (P.a k + (p : Int)).toNat = p + (P.a k).toNat by omega, mvL_at]
    exact hsol.jump k hk hl hj
theorem MvOk.facts {P : Pg} {p : Nat} (h : MvOk P p) : dcode (mvP P p) (mvP P p).m = 0 ∧ ∀ i, i < p + P.n → dL (mvP P p) i = mvL P p i := by
  obtain ⟨_, hs, hins, g, hnr, hbd⟩ := dcode_zero h.z
  have h1 : ferr (insE (mvP P p)) 0 (mvP P p).n = 0 := ferr_zero' fun j hj => h.ins j hj
  have h2 : ferr (entE (mvP P p)) 0 (mvP P p).m = 0 := ferr_zero' fun j hj => by
    unfold entE
    have hn : (mvP P p).n = p + P.n := rfl
    rcases h.en hj with ⟨e1, e2⟩ | ⟨e1, e2, e3⟩
    · rw [e2, hn, if_pos ⟨by omega, by omega⟩]
    · rw [e3, hn, if_pos ⟨by omega, by omega⟩]
  have g' := gd_of h1 h2
  have hnr' : ¬ Rch (mvP P p) (mvP P p).n := fun hc => by
    obtain ⟨k, e, _, hk⟩ := hc.mv h
    have : p + P.n = p + k := e
    omega
  have hs' : sizedP (mvP P p) := ⟨hs.1, hs.2.1, h.n, hs.2.2.2⟩
  exact ⟨dcode_5 hs' h1 h2 hnr' (Sol.good g' hnr' h.sol), fun i hi => (Sol.dL g' hnr' h.sol hi).symm⟩
/-- it runs the same -/
theorem runP_mv {P : Pg} {p : Nat} (h : MvOk P p) {cl : Cl} (hcl : OkC cl) (hA64 : ∀ i, i < P.n → In64 (P.a i)) : ∀ (k i : Nat) (M : Mc), i < P.n → (M.hi : Int) = dL P i → OkM M → runP (mvP P p) cl k (p + i) M = runP P cl k i M
  | 0, i, M, hi, hd, hok => by rw [runP_zero, runP_zero]
  | k + 1, i, M, hi, hd, hok => by
    obtain ⟨_, hs, hins, g, hnr, hbd⟩ := dcode_zero h.z
    have hsol := sol_dL g hnr hbd
    have hdn : dL P i ≠ -1 := by omega
    have HD := hsol.dp i hi hdn
    have HF := hsol.fine i hi hdn
    have hins1 : insErr P (P.op i) (P.a i) (P.b i) = 0 := ferr_zero hins i (by omega) (by omega)
    have mo := mv_op P p i
    by_cases h0 : P.op i = 0
    · rw [runP_stop h0, runP_stop (by rw [mo]; exact h0)]
    by_cases h1 : P.op i = 35
    · have hj : jmp (P.op i) = true := by rw [h1]; rfl
      obtain ⟨ha, e⟩ := h.aj hi hj
      have hL := hsol.jump i hi hdn hj
      rw [runP_jump h1, runP_jump (by rw [mo]; exact h1), e, show (P.a i + (p : Int)).toNat = p + (P.a i).toNat by omega]
      refine runP_mv h hcl hA64 k _ _ (by omega) ?_ hok.us
      show (M.hi : Int) = _
      rw [hL]
      unfold aft
      rw [h1, show pops 35 = 0 from rfl, show pushes 35 = 0 from rfl]
      omega
    by_cases h2 : P.op i = 36
    · have hj : jmp (P.op i) = true := by rw [h2]; rfl
      have hen : ends (P.op i) = false := by rw [h2]; rfl
      obtain ⟨ha, e⟩ := h.aj hi hj
      have haft : aft P i (dL P i) = dL P i - 1 := by
        unfold aft
        rw [h2, show pops 36 = 1 from rfl, show pushes 36 = 0 from rfl]
        omega
      have hhi : 1 ≤ M.hi := by
        have := HF.1
        rw [h2, show pops 36 = 1 from rfl] at this
        omega
      rw [runP_ifz h2, runP_ifz (by rw [mo]; exact h2), e, show (P.a i + (p : Int)).toNat = p + (P.a i).toNat by omega]
      by_cases ht : topM M = 0
      · rw [if_pos ht, if_pos ht]
        have hL := hsol.jump i hi hdn hj
        refine runP_mv h hcl hA64 k _ _ (by omega) ?_ hok.us.pop
        show ((M.hi - 1 : Nat) : Int) = _
        rw [hL, haft]
        omega
      · rw [if_neg ht, if_neg ht, Nat.add_assoc]
        have hnx := hsol.eq g hnr (.next i _ HD hi HF hen)
        refine runP_mv h hcl hA64 k _ _ hnx.1 ?_ hok.us.pop
        show ((M.hi - 1 : Nat) : Int) = _
        rw [hnx.2, haft]
        omega
    have h3 : P.op i ≠ 0 ∧ P.op i ≠ 35 ∧ P.op i ≠ 36 := ⟨h0, h1, h2⟩
    have hnj : ¬ jmp (P.op i) = true := fun hc => by unfold jmp at hc; simp at hc; omega
    have ma : (mvP P p).a (p + i) = P.a i := by rw [mv_a, if_neg hnj]
    have mb := mv_b P p i
    by_cases hf : doF cl (usM M) (P.op i) (P.a i) (P.b i) = 0
    · have e2 := runP_go (P := mvP P p) (cl := cl) (k := k) (i := p + i) (M := M) (by rw [mo]; exact h3) (by rw [mo, ma, mb]; exact hf)
      rw [runP_go h3 hf, e2, mo, ma, mb, Nat.add_assoc]
      have h40 : P.op i ≠ 40 := fun e => by
        rw [e] at hf
        unfold doF at hf
        rw [if_pos rfl] at hf
        cases hf
      have hen : ends (P.op i) = false := by
        unfold ends
        simp [h0, h1, h40]
      have hnx := hsol.eq g hnr (.next i _ HD hi HF hen)
      have hf1 : pops (P.op i) ≤ (usM M).hi := by have := HF.1; show pops (P.op i) ≤ (M.hi : Int); omega
      have hhi := doM_hi cl (usM M) (P.op i) (P.a i) (P.b i) (g.op i hi) ⟨h0, h1, h2, h40⟩ hf hf1
      refine runP_mv h hcl hA64 k _ _ hnx.1 ?_ (doM_ok cl hcl (usM M) hok.us _ _ _ (hA64 i hi) hf ?_)
      · rw [hhi, hnx.2]
        unfold aft
        show (M.hi : Int) - _ + _ = _
        omega
      · intro e38
        have h5 := ins_two hins1 (by rw [e38]; rfl)
        rw [e38, show limI P 38 = 64 from rfl] at h5
        omega
    · have e2 := runP_fault (P := mvP P p) (cl := cl) (k := k) (i := p + i) (M := M) (by rw [mo]; exact h3) (by rw [mo, ma, mb]; exact hf)
      rw [runP_fault h3 hf, e2, mo, ma, mb]
theorem MvOk.eff {P : Pg} {p : Nat} (h : MvOk P p) {cl : Cl} {n : Nat} {K : Nat → Int} {d s : Int} {w : World} {q : Option Addr} {c : Nat} (hc : CallAt w cl q n c K d s) (hA64 : ∀ i, i < P.n → In64 (P.a i)) : effP (mvP P p) cl n K d s = effP P cl n K d s := by
  obtain ⟨hz, _⟩ := h.facts
  obtain ⟨_, hs, hins, g, hnr, hbd⟩ := dcode_zero h.z
  have hfe : fitsB (mvP P p) cl n = fitsB P cl n := rfl
  by_cases hf : fitsB P cl n = true
  · obtain ⟨⟨k1, k2⟩, ⟨k3, k4⟩, ⟨k5, k6⟩, k7, k8, k9⟩ := fitsB_yes hf
    have hkk : cl.kind.toNat < P.m := by omega
    rw [effP_run hz (by rw [hfe]; exact hf), effP_run h.z hf]
    rcases h.en hkk with ⟨e1, e2⟩ | ⟨e1, e2, e3⟩
    · rw [if_pos e1, if_pos e2]
    · have c1 : ¬ (mvP P p).en cl.kind.toNat = -1 := by omega
      have c2 : ¬ P.en cl.kind.toNat = -1 := by omega
      rw [if_neg c1, if_neg c2]
      have hR : runOf (mvP P p) cl K d s = runOf P cl K d s := by
        unfold runOf
        rw [e3, show (P.en cl.kind.toNat + (p : Int)).toNat = p + (P.en cl.kind.toNat).toNat by omega]
        have hdl := (sol_dL g hnr hbd).en _ hkk e1
        exact runP_mv h hc.ok hA64 _ _ _ (by omega) (by rw [hdl]; rfl) (newM_ok hc _)
      rw [hR]
  · have hf' : fitsB P cl n = false := by simpa using hf
    rw [effP_unfit hz (by rw [hfe]; exact hf'), effP_unfit h.z hf']
end Go.Proofs.Ytieanhmkcbcdkaa
