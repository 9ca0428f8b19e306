import Derived.Test.YtckhliilndfljaaDoorLMadeP
namespace Go.Proofs.YtckhliilndfljaaDoor
open Go.ChangeShapes Go.WideShapes Go.ChangeAt Go.RowKit
set_option linter.unusedVariables false
set_option linter.unusedSimpArgs false

/-! ### a token's end hangs on one byte behind it -/
theorem tw_app (p : UInt8 → Bool) (c : UInt8) (x : Bs) : ∀ a : Bs, (a ++ [c]).takeWhile p = a → (a ++ c :: x).takeWhile p = a ∧ p c = false
  | [], h => by
    have hc : p c = false := by
      cases e : p c with
      | false => rfl
      | true => simp [List.takeWhile, e] at h
    simp [List.takeWhile, hc]
  | d :: a, h => by
    rw [List.cons_append, List.takeWhile_cons] at h
    split at h
    · rename_i hd
      injection h with _ h
      obtain ⟨h1, h2⟩ := tw_app p c x a h
      exact ⟨by rw [List.cons_append, List.takeWhile_cons, if_pos hd, h1], h2⟩
    · cases h
theorem markL_leS (s : Bs) : markL s ≤ 2 := by
  unfold markL
  split
  · split
    · omega
    · split <;> omega
  · omega
theorem rd_one (a : Bs) (ha : a ≠ []) (c : UInt8) (x : Bs) (k v : Nat) (h : rd (a ++ [c]) = .ok k a v) : rd (a ++ c :: x) = .ok k a v := by
  obtain ⟨d, r, rfl⟩ : ∃ d r, a = d :: r := by
    cases a with
    | nil => exact absurd rfl ha
    | cons d r => exact ⟨d, r, rfl⟩
  unfold rd at h ⊢
  rw [show headIs pL (d :: r ++ c :: x) = headIs pL (d :: r ++ [c]) from rfl, show headIs pD (d :: r ++ c :: x) = headIs pD (d :: r ++ [c]) from rfl]
  split at h
  · rename_i hL
    rw [if_pos hL]
    dsimp only at h ⊢
    split at h
    · cases h
    · rename_i hl
      injection h with h1 h2 h3
      obtain ⟨e1, _⟩ := tw_app pN c x _ h2
      rw [h2] at hl h1
      rw [e1, if_neg hl, h1, h3]
  · rename_i hL
    rw [if_neg hL]
    split at h
    · rename_i hD
      rw [if_pos hD]
      dsimp only at h ⊢
      split at h
      · cases h
      · rename_i hh
        have ht : (d :: r ++ [c]).takeWhile pD = d :: r := by
          split at h
          · injection h with _ hb _
          · cases h
        obtain ⟨e1, _⟩ := tw_app pD c x _ ht
        have hd1 : (d :: r ++ [c]).drop (d :: r).length = [c] := List.drop_left
        have hd2 : (d :: r ++ c :: x).drop (d :: r).length = c :: x := List.drop_left
        rw [ht, hd1] at hh
        rw [ht] at h
        rw [e1, hd2]
        have : headIs pN (c :: x) = headIs pN [c] := rfl
        rw [this, if_neg hh]
        exact h
    · rename_i hD
      rw [if_neg hD]
      dsimp only at h ⊢
      split at h
      · cases h
      · rename_i hm
        injection h with h1 h2 h3
        have hml : markL (d :: r ++ c :: x) = markL (d :: r ++ [c]) := by
          cases r with
          | nil => rfl
          | cons e r => rfl
        have hle := markL_leS (d :: r ++ [c])
        have hlen : markL (d :: r ++ [c]) = (d :: r).length := by
          have := congrArg List.length h2
          rw [List.length_take, List.length_append] at this
          simp at this ⊢
          omega
        have htk : (d :: r ++ c :: x).take (markL (d :: r ++ c :: x)) = d :: r := by
          rw [hml, hlen]
          exact List.take_left
        rw [h2] at hm h1
        rw [htk, if_neg hm, h1, h3]
theorem rd_one' (a : Bs) (ha : a ≠ []) (c : UInt8) (x : Bs) (k v : Nat) (h : rd (a ++ c :: x) = .ok k a v) : rd (a ++ [c]) = .ok k a v ∧ rd a = .ok k a v := by
  have hp : 1 ≤ a.length := List.length_pos_iff.2 ha
  have h1 := rd_take (a ++ c :: x) k v a (a.length + 1) h (by omega) (by omega)
  have h2 := rd_take (a ++ c :: x) k v a a.length h (Nat.le_refl _) hp
  rw [take_app] at h1
  rw [show a.length = a.length + 0 from rfl, take_app] at h2
  exact ⟨by simpa using h1, by simpa using h2⟩
/-! ### a token that stands alone -/
theorem scan_short : ∀ (n : Nat) (s : Bs) (l c cnt : Nat), s.length ≤ n → ∀ t ∈ (scan s l c cnt).1, t.text.length ≤ s.length := by
  intro n
  induction n with
  | zero =>
    intro s l c cnt hs t ht
    obtain rfl : s = [] := List.eq_nil_of_length_eq_zero (by omega)
    rw [scan_nil] at ht
    cases ht
  | succ n ih =>
    intro s l c cnt hs t ht
    cases s with
    | nil =>
      rw [scan_nil] at ht
      cases ht
    | cons x r =>
      simp only [List.length_cons] at hs ⊢
      by_cases h1 : x.toNat = 10
      · rw [scan_nl _ _ _ _ _ h1] at ht
        have := ih r _ _ _ (by omega) t ht
        omega
      · by_cases h2 : x.toNat = 32 ∨ x.toNat = 9 ∨ x.toNat = 13
        · rw [scan_bl _ _ _ _ _ h2] at ht
          have := ih r _ _ _ (by omega) t ht
          omega
        · by_cases h3 : x.toNat = 35
          · rw [scan_cm _ _ _ _ _ h3] at ht
            have := ih _ _ _ _ (by rw [List.length_drop]; omega) t ht
            rw [List.length_drop] at this
            omega
          · have hst : startT x := ⟨h1, fun e => h2 (.inl e), fun e => h2 (.inr (.inl e)), fun e => h2 (.inr (.inr e)), h3⟩
            cases hr : rd (x :: r) with
            | err e =>
              rw [scan_er _ _ _ _ _ _ hst hr] at ht
              cases ht
            | ok k u v =>
              by_cases hc : cnt = 16384
              · subst hc
                rw [scan_full _ _ _ _ _ _ _ hst hr] at ht
                cases ht
              · rw [scan_ok _ _ _ _ _ _ _ _ hst hr hc] at ht
                rcases List.mem_cons.1 ht with rfl | ht
                · have := rd_len _ _ _ _ _ hr
                  simpa using this
                · have := ih _ _ _ _ (by rw [List.length_drop]; omega) t ht
                  rw [List.length_drop] at this
                  omega
def alike (a b : Tk) : Bool := decide (a.kind = b.kind) && (decide (a.text = b.text) && decide (a.num = b.num))
/-- does the token's text read as just this token? -/
def alB (t : Tk) : Bool := match scanT t.text with
  | ([x], none) => alike x t
  | _ => false
theorem alB_spec (t : Tk) : alB t = true ↔ t.text.length ≤ 65536 ∧ ∃ (k v : Nat), rd t.text = .ok k t.text v ∧ t.text ≠ [] ∧ (k : Int) = t.kind ∧ v = t.num := by
  unfold alB
  constructor
  · intro h
    have hlen : t.text.length ≤ 65536 := by
      by_cases h1 : t.text.length > 65536
      · unfold scanT at h
        rw [if_pos h1] at h
        simp at h
      · omega
    refine ⟨hlen, ?_⟩
    split at h
    · rename_i x hx
      unfold scanT at hx
      rw [if_neg (by omega)] at hx
      unfold alike at h
      simp only [Bool.and_eq_true, decide_eq_true_eq] at h
      obtain ⟨e1, e2, e3⟩ := h
      cases hs : t.text with
      | nil => rw [hs, scan_nil] at hx; cases hx
      | cons c r =>
        rw [hs] at hx e2
        have bad : ∀ (s : Bs) (l co : Nat), s.length ≤ r.length → scan s l co 0 = ([x], none) → False := fun s l co hl he => by
          have := scan_short s.length s l co 0 (Nat.le_refl _) x (by rw [he]; simp)
          rw [e2] at this
          simp at this
          omega
        by_cases h1 : c.toNat = 10
        · rw [scan_nl _ _ _ _ _ h1] at hx
          exact (bad r _ _ (Nat.le_refl _) hx).elim
        · by_cases h2 : c.toNat = 32 ∨ c.toNat = 9 ∨ c.toNat = 13
          · rw [scan_bl _ _ _ _ _ h2] at hx
            exact (bad r _ _ (Nat.le_refl _) hx).elim
          · by_cases h3 : c.toNat = 35
            · rw [scan_cm _ _ _ _ _ h3] at hx
              exact (bad _ _ _ (by rw [List.length_drop]; omega) hx).elim
            · have hst : startT c := ⟨h1, fun e => h2 (.inl e), fun e => h2 (.inr (.inl e)), fun e => h2 (.inr (.inr e)), h3⟩
              cases hr : rd (c :: r) with
              | err e => rw [scan_er _ _ _ _ _ _ hst hr] at hx; cases hx
              | ok k u v =>
                rw [scan_ok _ _ _ _ _ _ _ _ hst hr (by omega)] at hx
                injection hx with hx _
                injection hx with hx _
                subst hx
                simp only at e1 e2 e3
                subst e2
                exact ⟨k, v, rfl, by simp, e1, e3⟩
    · cases h
  · rintro ⟨hlen, k, v, hr, hne, hk, hv⟩
    cases hs : t.text with
    | nil => exact absurd hs hne
    | cons c r =>
      rw [hs] at hr hlen
      have hst := rd_startT _ _ _ _ _ hr
      have e : scanT (c :: r) = ([⟨k, c :: r, v, 1, 1⟩], none) := by
        unfold scanT
        rw [if_neg (by omega), scan_ok _ _ _ _ _ _ _ _ hst hr (by omega)]
        have : r.drop ((c :: r).length - 1) = [] := by simp
        rw [this, scan_nil]
        rfl
      rw [e]
      unfold alike
      simp [hs, hk, hv]
def rdIs : Rd → Bs → Bool
  | .ok _ u _, a => decide (u = a)
  | .err _, _ => false
/-- may two tokens touch? as the program asks it -/
def tchB (a b : Tk) : Bool := decide (a.text.length + b.text.length ≤ 65536) && rdIs (rd (a.text ++ b.text.take 1)) a.text
/-- as the document asks it -/
def twoB (a b : Tk) : Bool := match scanT (a.text ++ b.text) with
  | ([x, y], none) => alike x a && alike y b
  | _ => false
theorem tch_two (a b : Tk) (ha : alB a = true) (hb : alB b = true) : tchB a b = twoB a b := by
  obtain ⟨la, ka, va, ra, na, ea, fa⟩ := (alB_spec a).1 ha
  obtain ⟨lb, kb, vb, rb, nb, eb, fb⟩ := (alB_spec b).1 hb
  cases hbt : b.text with
  | nil => exact absurd hbt nb
  | cons c x =>
    rw [hbt] at rb lb
    cases hat : a.text with
    | nil => exact absurd hat na
    | cons d y =>
      rw [hat] at ra la
      have hst := rd_startT _ _ _ _ _ ra
      have hsb := rd_startT _ _ _ _ _ rb
      unfold tchB twoB
      rw [hbt, hat]
      by_cases hl : (d :: y).length + (c :: x).length ≤ 65536
      · rw [decide_eq_true hl, Bool.true_and, show (c :: x).take 1 = [c] from rfl]
        have hsc : scanT (d :: y ++ c :: x) = scan (d :: y ++ c :: x) 1 1 0 := by
          unfold scanT
          rw [if_neg (by rw [List.length_append]; omega)]
        rw [hsc]
        cases hr : rd (d :: y ++ c :: x) with
        | err e =>
          have e1 : scan (d :: y ++ c :: x) 1 1 0 = ([], some ⟨e, 1, 1⟩) := scan_er d (y ++ c :: x) 1 1 0 e hst hr
          rw [e1]
          cases hr2 : rd (d :: y ++ [c]) with
          | err e2 => rfl
          | ok k u v =>
            have : ¬ u = d :: y := by
              rintro rfl
              have := rd_one (d :: y) (by simp) c x k v hr2
              rw [hr] at this
              cases this
            show decide (u = d :: y) = false
            simpa using this
        | ok k u v =>
          have e1 : scan (d :: y ++ c :: x) 1 1 0 = _ := scan_ok d (y ++ c :: x) 1 1 0 k v u hst hr (by omega)
          by_cases hu : u = d :: y
          · subst hu
            obtain ⟨h1, h2⟩ := rd_one' (d :: y) (by simp) c x k v hr
            rw [h1]
            rw [ra] at h2
            injection h2 with h3 _ h4
            have hdr : (y ++ c :: x).drop ((d :: y).length - 1) = c :: x := by simp
            rw [hdr, scan_ok c x 1 (1 + (d :: y).length) (0 + 1) kb vb _ hsb rb (by omega)] at e1
            have hdr2 : x.drop ((c :: x).length - 1) = [] := by simp
            rw [hdr2, scan_nil] at e1
            rw [e1]
            unfold alike
            simp [rdIs, hat, hbt, ← h3, ← h4, ea, fa, eb, fb]
          · have hno : ∀ k2 u2 v2, rd (d :: y ++ [c]) = .ok k2 u2 v2 → ¬ u2 = d :: y := by
              rintro k2 u2 v2 h2 rfl
              have := rd_one (d :: y) (by simp) c x k2 v2 h2
              rw [hr] at this
              injection this with _ h3 _
              exact hu h3
            have hL : rdIs (rd (d :: y ++ [c])) (d :: y) = false := by
              cases h2 : rd (d :: y ++ [c]) with
              | err e2 => rfl
              | ok k2 u2 v2 =>
                have := hno k2 u2 v2 h2
                show decide (u2 = d :: y) = false
                simpa using this
            rw [hL, e1]
            split
            · rename_i x1 y1 he
              injection he with he _
              injection he with he _
              subst he
              unfold alike
              simp [hat, hu]
            · rfl
      · rw [decide_eq_false hl, Bool.false_and]
        have hsc : scanT (d :: y ++ c :: x) = ([], some ⟨30, 1, 1⟩) := by
          unfold scanT
          rw [if_pos (by rw [List.length_append]; omega)]
        rw [hsc]
end Go.Proofs.YtckhliilndfljaaDoor
