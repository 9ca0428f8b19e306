import Derived.Test.YtckhliilndfljaaDoorLPure
namespace Go.Proofs.YtckhliilndfljaaDoor
set_option linter.unusedVariables false

/-! ### where the tokens of a text stand (LexerPlaces, LexerTail: the pure part) -/
def bareN : Bool → Bs → Bool
  | _, [] => true
  | n, c :: r => if c.toNat = 10 then bareN false r else if n = true ∨ c.toNat = 32 ∨ c.toNat = 9 ∨ c.toNat = 13 then bareN n r else if c.toNat = 35 then bareN true r else false
def openN : Bool → Bs → Bool
  | n, [] => n
  | n, c :: r => if c.toNat = 10 then openN false r else if c.toNat = 35 then openN true r else openN n r

/-- line and column behind a text -/
def pos : Bs → Nat → Nat → Nat × Nat
  | [], l, c => (l, c)
  | x :: r, l, c => if x.toNat = 10 then pos r (l + 1) 1 else pos r l (c + 1)
def plc (line col : Int) : Bs → Nat → Nat → Option Nat
  | [], l, c => if (l : Int) = line ∧ (c : Int) = col then some 0 else none
  | x :: r, l, c => if (l : Int) < line ∨ (l : Int) = line ∧ (c : Int) < col then (if x.toNat = 10 then plc line col r (l + 1) 1 else plc line col r l (c + 1)).map (· + 1) else if (l : Int) = line ∧ (c : Int) = col then some 0 else none

theorem pos_ge (s : Bs) : ∀ l c, l < (pos s l c).1 ∨ l = (pos s l c).1 ∧ c ≤ (pos s l c).2 := by
  induction s with
  | nil => intro l c; exact .inr ⟨rfl, Nat.le_refl _⟩
  | cons x r ih =>
    intro l c
    unfold pos
    split
    · have := ih (l + 1) 1; omega
    · have := ih l (c + 1); omega
theorem pos_app (a b : Bs) : ∀ l c, pos (a ++ b) l c = pos b (pos a l c).1 (pos a l c).2 := by
  induction a with
  | nil => intro l c; rfl
  | cons x r ih =>
    intro l c
    simp only [List.cons_append, pos]
    split
    · exact ih _ _
    · exact ih _ _
theorem plc_pos (s : Bs) : ∀ (n l c : Nat), n ≤ s.length → plc ((pos (s.take n) l c).1 : Nat) ((pos (s.take n) l c).2 : Nat) s l c = some n := by
  induction s with
  | nil => intro n l c h; simp at h; subst h; simp [plc, pos]
  | cons x r ih =>
    intro n l c h
    cases n with
    | zero => simp [plc, pos]
    | succ n =>
      simp only [List.take_succ_cons, pos, plc]
      by_cases hx : x.toNat = 10
      · have := pos_ge (r.take n) (l + 1) 1
        simp only [if_pos hx]
        rw [if_pos (by omega), ih n (l + 1) 1 (by simpa using h)]
        rfl
      · have := pos_ge (r.take n) l (c + 1)
        simp only [if_neg hx]
        rw [if_pos (by omega), ih n l (c + 1) (by simpa using h)]
        rfl

theorem pos_plain (t : Bs) (h : ∀ c ∈ t, c.toNat ≠ 10) : ∀ l c, pos t l c = (l, c + t.length) := by
  induction t with
  | nil => intro l c; rfl
  | cons x r ih =>
    intro l c
    unfold pos
    rw [if_neg (h x (by simp)), ih (fun c hc => h c (by simp [hc]))]
    simp
    omega

/-- the tokens stand where they say, between them blanks and whole comments -/
def Places : Bool → Bs → Nat → Nat → List Tk → Prop
  | n, s, _, _, [] => bareN n s = true
  | n, s, l, c, t :: ts => ∃ p, p + t.text.length ≤ s.length ∧ bareN n (s.take p) = true ∧ openN n (s.take p) = false ∧
      t.line = ((pos (s.take p) l c).1 : Nat) ∧ t.col = ((pos (s.take p) l c).2 : Nat) ∧ (s.drop p).take t.text.length = t.text ∧ (∃ x r, t.text = x :: r ∧ ∀ z ∈ t.text, z.toNat ≠ 10) ∧
      (t.kind < 50 → headIs pN (s.drop (p + t.text.length)) = false) ∧ Places false (s.drop (p + t.text.length)) (pos (s.take p) l c).1 ((pos (s.take p) l c).2 + t.text.length) ts

theorem places_nl (n : Bool) (x : UInt8) (r : Bs) (l c : Nat) (hx : x.toNat = 10) : ∀ ts, Places false r (l + 1) 1 ts → Places n (x :: r) l c ts
  | [], h => by unfold Places at h ⊢; unfold bareN; rw [if_pos hx]; exact h
  | t :: ts, h => by
    obtain ⟨p, h1, h2, h3, h4, h5, h6, h7, h8, h9⟩ := h
    refine ⟨p + 1, by simp; omega, ?_, ?_, ?_, ?_, ?_, h7, ?_, ?_⟩
    · rw [List.take_succ_cons]; unfold bareN; rw [if_pos hx]; exact h2
    · rw [List.take_succ_cons]; unfold openN; rw [if_pos hx]; exact h3
    · rw [List.take_succ_cons]; unfold pos; rw [if_pos hx]; exact h4
    · rw [List.take_succ_cons]; unfold pos; rw [if_pos hx]; exact h5
    · exact h6
    · rw [Nat.add_right_comm]; exact h8
    · rw [List.take_succ_cons, Nat.add_right_comm]; unfold pos; rw [if_pos hx]; exact h9
theorem places_bl (x : UInt8) (r : Bs) (l c : Nat) (h10 : x.toNat ≠ 10) (hx : x.toNat = 32 ∨ x.toNat = 9 ∨ x.toNat = 13) : ∀ ts, Places false r l (c + 1) ts → Places false (x :: r) l c ts
  | [], h => by unfold Places at h ⊢; unfold bareN; rw [if_neg h10, if_pos (.inr hx)]; exact h
  | t :: ts, h => by
    obtain ⟨p, h1, h2, h3, h4, h5, h6, h7, h8, h9⟩ := h
    refine ⟨p + 1, by simp; omega, ?_, ?_, ?_, ?_, ?_, h7, ?_, ?_⟩
    · rw [List.take_succ_cons]; unfold bareN; rw [if_neg h10, if_pos (.inr hx)]; exact h2
    · rw [List.take_succ_cons]; unfold openN; rw [if_neg h10, if_neg (by omega)]; exact h3
    · rw [List.take_succ_cons]; unfold pos; rw [if_neg h10]; exact h4
    · rw [List.take_succ_cons]; unfold pos; rw [if_neg h10]; exact h5
    · exact h6
    · rw [Nat.add_right_comm]; exact h8
    · rw [List.take_succ_cons, Nat.add_right_comm]; unfold pos; rw [if_neg h10]; exact h9
/-- a sign within a comment, or one that opens it -/
theorem places_in (n : Bool) (x : UInt8) (r : Bs) (l c : Nat) (h10 : x.toNat ≠ 10) (hx : n = true ∨ x.toNat = 35) : ∀ ts, Places true r l (c + 1) ts → Places n (x :: r) l c ts
  | [], h => by
    unfold Places at h ⊢; unfold bareN; rw [if_neg h10]
    rcases hx with rfl | hx
    · rw [if_pos (.inl rfl)]; exact h
    · cases n with
      | true => rw [if_pos (.inl rfl)]; exact h
      | false => rw [if_neg (by simp; omega), if_pos hx]; exact h
  | t :: ts, h => by
    obtain ⟨p, h1, h2, h3, h4, h5, h6, h7, h8, h9⟩ := h
    refine ⟨p + 1, by simp; omega, ?_, ?_, ?_, ?_, ?_, h7, ?_, ?_⟩
    · rw [List.take_succ_cons]; unfold bareN; rw [if_neg h10]
      rcases hx with rfl | hx
      · rw [if_pos (.inl rfl)]; exact h2
      · cases n with
        | true => rw [if_pos (.inl rfl)]; exact h2
        | false => rw [if_neg (by simp; omega), if_pos hx]; exact h2
    · rw [List.take_succ_cons]; unfold openN; rw [if_neg h10]
      rcases hx with rfl | hx
      · split
        · exact h3
        · exact h3
      · rw [if_pos hx]; exact h3
    · rw [List.take_succ_cons]; unfold pos; rw [if_neg h10]; exact h4
    · rw [List.take_succ_cons]; unfold pos; rw [if_neg h10]; exact h5
    · exact h6
    · rw [Nat.add_right_comm]; exact h8
    · rw [List.take_succ_cons, Nat.add_right_comm]; unfold pos; rw [if_neg h10]; exact h9
/-- a comment's end: nothing, or a newline -/
theorem places_end (y : Bs) (hy : y = [] ∨ ∃ x z, y = x :: z ∧ x.toNat = 10) (l c : Nat) : ∀ ts, Places false y l c ts → Places true y l c ts
  | [], h => by
    rcases hy with rfl | ⟨x, z, rfl, hx⟩
    · rfl
    · unfold Places at h ⊢; unfold bareN at h ⊢; rw [if_pos hx] at h ⊢; exact h
  | t :: ts, h => by
    obtain ⟨p, h1, h2, h3, h4, h5, h6, ⟨q, u, hq, hq10⟩, h8, h9⟩ := h
    rcases hy with rfl | ⟨x, z, rfl, hx⟩
    · rw [hq] at h1; simp at h1
    · cases p with
      | zero =>
        rw [hq] at h6
        simp at h6
        exact absurd hx (by rw [h6.1]; exact hq10 q (by rw [hq]; simp))
      | succ p =>
        refine ⟨p + 1, h1, ?_, ?_, h4, h5, h6, ⟨q, u, hq, hq10⟩, h8, h9⟩
        · rw [List.take_succ_cons] at h2 ⊢; unfold bareN at h2 ⊢; rw [if_pos hx] at h2 ⊢; exact h2
        · rw [List.take_succ_cons] at h3 ⊢; unfold openN at h3 ⊢; rw [if_pos hx] at h3 ⊢; exact h3
theorem places_note (y : Bs) (l : Nat) (ts : List Tk) : ∀ (w : Bs) (c : Nat), (∀ x ∈ w, x.toNat ≠ 10) → Places true y l (c + w.length) ts → Places true (w ++ y) l c ts
  | [], c, _, h => h
  | x :: w, c, hw, h => by
    refine places_in true x (w ++ y) l c (hw x (by simp)) (.inl rfl) ts ?_
    refine places_note y l ts w (c + 1) (fun z hz => hw z (by simp [hz])) ?_
    rw [show c + 1 + w.length = c + (x :: w).length by simp; omega]
    exact h
theorem pC_iff (x : UInt8) : pC x = true ↔ x.toNat ≠ 10 := by unfold pC; simp
theorem twp_split (p : UInt8 → Bool) : ∀ s : Bs, s = s.takeWhile p ++ s.drop (s.takeWhile p).length
  | [] => rfl
  | c :: r => by
    rw [List.takeWhile_cons]
    split
    · rw [List.cons_append, List.length_cons, List.drop_succ_cons, ← twp_split p r]
    · rfl
theorem twp_head (p : UInt8 → Bool) : ∀ s : Bs, headIs p (s.drop (s.takeWhile p).length) = false
  | [] => rfl
  | c :: r => by
    rw [List.takeWhile_cons]
    split
    · rw [List.length_cons, List.drop_succ_cons]; exact twp_head p r
    · rename_i h; simp [headIs, h]
theorem twp_all (p : UInt8 → Bool) (s : Bs) : ∀ c ∈ s.takeWhile p, p c = true := fun c hc => List.all_eq_true.1 (List.all_takeWhile (p := p) (l := s)) c hc
theorem comment_end (r : Bs) : r.drop (r.takeWhile pC).length = [] ∨ ∃ x z, r.drop (r.takeWhile pC).length = x :: z ∧ x.toNat = 10 := by
  have h := twp_head pC r
  cases he : r.drop (r.takeWhile pC).length with
  | nil => exact .inl rfl
  | cons x z =>
    rw [he] at h
    refine .inr ⟨x, z, rfl, ?_⟩
    simp only [headIs, pC] at h
    simpa using h

/-- kinds below 50 are words, names and numbers: not cut short -/
theorem wdK_lt (t : Bs) : ∀ n k, k + n ≤ 41 → 1 ≤ k → wdK t n k < 50
  | 0, _, _, _ => by unfold wdK; omega
  | n + 1, k, h, h1 => by
    unfold wdK
    split
    · omega
    · exact wdK_lt t n (k + 1) (by omega) (by omega)
theorem mkK_ge (t : Bs) : ∀ n k, 50 ≤ k → mkK t n k = 0 ∨ 50 ≤ mkK t n k
  | 0, _, _ => .inl rfl
  | n + 1, k, h => by
    unfold mkK
    split
    · exact .inr h
    · exact mkK_ge t n (k + 1) (by omega)
theorem inN_of_D (x : UInt8) (h : pD x = true) : pN x = true := by unfold pN inN; unfold pD at h; simp [h]
theorem rd_whole (s : Bs) (k v : Nat) (t : Bs) (h : rd s = .ok k t v) (hk : k < 50) : headIs pN (s.drop t.length) = false := by
  unfold rd at h
  split at h
  · dsimp only at h
    split at h
    · cases h
    · cases h; exact twp_head pN s
  · split at h
    · dsimp only at h
      split at h
      · cases h
      · rename_i hh
        split at h
        · cases h; simpa using hh
        · cases h
    · dsimp only at h
      split at h
      · cases h
      · rename_i hm
        cases h
        have := mkK_ge (s.take (markL s)) 30 50 (Nat.le_refl _)
        unfold markK at hk hm
        omega

theorem spl_noNl : (List.range 80).all (fun k => (spl k).all (fun c => decide (c.toNat ≠ 10))) = true := by decide +kernel
theorem mkK_is (t : Bs) : ∀ (n k : Nat), mkK t n k ≠ 0 → k + n ≤ 80 → spl (mkK t n k) = t ∧ mkK t n k < 80
  | 0, _, h, _ => absurd rfl h
  | n + 1, k, h, hk => by
    have e : mkK t (n + 1) k = if spl k = t then k else mkK t n (k + 1) := rfl
    rw [e] at h ⊢
    by_cases he : spl k = t
    · rw [if_pos he]; exact ⟨he, by omega⟩
    · rw [if_neg he] at h ⊢
      exact mkK_is t n (k + 1) h (by omega)
theorem pN_no (x : UInt8) (h : pN x = true) : x.toNat ≠ 10 := by
  intro e
  unfold pN at h
  rw [e] at h
  revert h
  decide
theorem pD_no (x : UInt8) (h : pD x = true) : x.toNat ≠ 10 := pN_no x (inN_of_D x h)
/-- no token holds a newline -/
theorem rd_noNl (s : Bs) (k v : Nat) (t : Bs) (h : rd s = .ok k t v) : ∀ c ∈ t, c.toNat ≠ 10 := by
  unfold rd at h
  split at h
  · dsimp only at h
    split at h
    · cases h
    · cases h
      exact fun c hc => pN_no c (twp_all pN s c hc)
  · split at h
    · dsimp only at h
      split at h
      · cases h
      · split at h
        · cases h
          exact fun c hc => pD_no c (twp_all pD s c hc)
        · cases h
    · dsimp only at h
      split at h
      · cases h
      · rename_i hk
        cases h
        have h1 := mkK_is (s.take (markL s)) 30 50 hk (by omega)
        intro c hc
        have h2 := List.all_eq_true.1 spl_noNl _ (List.mem_range.2 h1.2)
        rw [h1.1] at h2
        exact of_decide_eq_true (List.all_eq_true.1 h2 c hc)

theorem places_tok (k t v : _) (c : UInt8) (r : Bs) (l cl : Nat) (ts : List Tk) (h10 : c.toNat ≠ 10) (h : rd (c :: r) = .ok k t v) (hp : Places false ((c :: r).drop t.length) l (cl + t.length) ts) :
    Places false (c :: r) l cl ((⟨k, t, v, l, cl⟩ : Tk) :: ts) := by
  obtain ⟨⟨u, hu⟩, h1⟩ := rd_front c r k v t h
  have hlen := rd_len c r k v t h
  refine ⟨0, by simpa using hlen, rfl, rfl, rfl, rfl, ?_, ?_, ?_, ?_⟩
  · show (c :: r).take t.length = t
    rw [hu]; simp
  · cases t with
    | nil => simp at h1
    | cons x z =>
      exact ⟨x, z, rfl, rd_noNl _ k v _ h⟩
  · intro hk
    show headIs pN ((c :: r).drop (0 + t.length)) = false
    rw [Nat.zero_add]
    have hk' : (k : Int) < 50 := hk
    exact rd_whole _ k v t h (by omega)
  · show Places false ((c :: r).drop (0 + t.length)) l (cl + t.length) ts
    rw [Nat.zero_add]; exact hp

theorem scan_places (s : Bs) (line col cnt : Nat) : (scan s line col cnt).2 = none → Places false s line col (scan s line col cnt).1 := by
  fun_induction scan s line col cnt with
  | case1 line col cnt => intro _; rfl
  | case2 line col cnt c r hc ih => intro h; exact places_nl false c r line col hc _ (ih h)
  | case3 line col cnt c r h1 h2 ih => intro h; exact places_bl c r line col h1 h2 _ (ih h)
  | case4 line col cnt c r h1 h2 h3 ih =>
    intro h
    refine places_in false c r line col h1 (.inr h3) _ ?_
    have e := twp_split pC r
    have := places_note (r.drop (r.takeWhile pC).length) line _ (r.takeWhile pC) (col + 1) (fun x hx => (pC_iff x).1 (twp_all pC r x hx)) (places_end _ (comment_end r) line _ _ (ih h))
    rw [← e] at this
    exact this
  | case5 line col cnt c r h1 h2 h3 e hrd => intro h; cases h
  | case6 line col c r h1 h2 h3 k' t v hrd => intro h; cases h
  | case7 line col cnt c r h1 h2 h3 k' t v hrd hne ih =>
    intro h
    refine places_tok k' t v c r line col _ h1 hrd ?_
    rw [← rd_drop c r k' v t hrd]
    exact ih h

/-! ### the text ahead of a fault -/
theorem twp_take (p : UInt8 → Bool) : ∀ (s : Bs) (n : Nat), (s.takeWhile p).length ≤ n → (s.take n).takeWhile p = s.takeWhile p
  | [], n, _ => by simp
  | c :: r, n, h => by
    rw [List.takeWhile_cons] at h ⊢
    split
    · rename_i hc
      rw [if_pos hc] at h
      cases n with
      | zero => simp at h
      | succ n =>
        rw [List.take_succ_cons, List.takeWhile_cons, if_pos hc, twp_take p r n (by simpa using h)]
    · rename_i hc
      cases n with
      | zero => rfl
      | succ n => rw [List.take_succ_cons, List.takeWhile_cons, if_neg hc]
theorem headIs_take (p : UInt8 → Bool) (s : Bs) (n : Nat) (h : headIs p s = false) : headIs p (s.take n) = false := by
  cases s with
  | nil => simpa using h
  | cons c r => cases n with
    | zero => rfl
    | succ n => exact h
theorem headIs_take1 (p : UInt8 → Bool) (s : Bs) (n : Nat) : headIs p (s.take (n + 1)) = headIs p s := by
  cases s <;> rfl
theorem markL_two (s : Bs) : markL s ≤ 2 := by
  unfold markL
  split
  · split
    · omega
    · split <;> omega
  · omega
theorem markL_take (s : Bs) (n : Nat) (h : (s.take (markL s)).length ≤ n) (h1 : 1 ≤ n) : (s.take n).take (markL (s.take n)) = s.take (markL s) := by
  match s, n with
  | [], n => simp
  | [c], n + 1 => simp
  | c :: d :: r, 1 =>
    have hm : markL (c :: d :: r) = 1 := by
      have := markL_pos (c :: d :: r)
      have := markL_two (c :: d :: r)
      simp at h
      omega
    rw [hm]
    simp [markL]
  | c :: d :: r, n + 2 =>
    have e : markL ((c :: d :: r).take (n + 2)) = markL (c :: d :: r) := rfl
    rw [e, List.take_take]
    congr 1
    have := markL_two (c :: d :: r)
    omega
theorem rd_take (s : Bs) (k v : Nat) (t : Bs) (n : Nat) (h : rd s = .ok k t v) (hn : t.length ≤ n) (h1 : 1 ≤ n) : rd (s.take n) = .ok k t v := by
  obtain ⟨n', rfl⟩ : ∃ n', n = n' + 1 := ⟨n - 1, by omega⟩
  unfold rd at h ⊢
  rw [headIs_take1, headIs_take1]
  split at h
  · rename_i hL
    rw [if_pos hL]
    dsimp only at h ⊢
    split at h
    · cases h
    · rename_i hl
      injection h with ha hb hc
      subst hb
      rw [twp_take pN s _ hn, if_neg hl, ha, hc]
  · rename_i hL
    rw [if_neg hL]
    split at h
    · rename_i hD
      rw [if_pos hD]
      dsimp only at h ⊢
      split at h
      · cases h
      · rename_i hh
        have ht : t = s.takeWhile pD := by
          split at h
          · injection h with ha hb hc; exact hb.symm
          · cases h
        subst ht
        have hh' : headIs pN (s.drop (s.takeWhile pD).length) = false := by simpa using hh
        rw [twp_take pD s _ hn, List.drop_take, headIs_take pN _ _ hh', if_neg (by decide)]
        exact h
    · rename_i hD
      rw [if_neg hD]
      dsimp only at h ⊢
      split at h
      · cases h
      · rename_i hm
        injection h with ha hb hc
        subst hb
        rw [markL_take s _ hn (by omega), if_neg hm, ha, hc]

theorem take_app (y : Bs) (p : Nat) : ∀ a : Bs, (a ++ y).take (a.length + p) = a ++ y.take p
  | [] => by simp
  | c :: a => by rw [List.cons_append, List.length_cons, Nat.add_right_comm, List.take_succ_cons, take_app y p a, List.cons_append]
theorem scan_front (s : Bs) (line col cnt : Nat) : ∀ er, (scan s line col cnt).2 = some er → ∃ p, p < s.length ∧ pos (s.take p) line col = (er.line, er.col) ∧ scan (s.take p) line col cnt = ((scan s line col cnt).1, none) := by
  fun_induction scan s line col cnt with
  | case1 line col cnt => intro er h; cases h
  | case2 line col cnt c r hc ih =>
    intro er h
    obtain ⟨p, h1, h2, h3⟩ := ih er h
    refine ⟨p + 1, by simpa using h1, ?_, ?_⟩
    · rw [List.take_succ_cons]; unfold pos; rw [if_pos hc]; exact h2
    · rw [List.take_succ_cons, scan_nl c _ _ _ _ hc]; exact h3
  | case3 line col cnt c r h1 h2 ih =>
    intro er h
    obtain ⟨p, q1, q2, q3⟩ := ih er h
    refine ⟨p + 1, by simpa using q1, ?_, ?_⟩
    · rw [List.take_succ_cons]; unfold pos; rw [if_neg h1]; exact q2
    · rw [List.take_succ_cons, scan_bl c _ _ _ _ h2]; exact q3
  | case4 line col cnt c r h1 h2 h3 ih =>
    intro er h
    obtain ⟨p, q1, q2, q3⟩ := ih er h
    have e := twp_split pC r
    have hle : (r.takeWhile pC).length ≤ r.length := (List.takeWhile_sublist _).length_le
    have et : r.take ((r.takeWhile pC).length + p) = r.takeWhile pC ++ (r.drop (r.takeWhile pC).length).take p := by
      have h := take_app (r.drop (r.takeWhile pC).length) p (r.takeWhile pC)
      rw [← e] at h
      exact h
    refine ⟨(r.takeWhile pC).length + p + 1, by simp at q1 ⊢; omega, ?_, ?_⟩
    · rw [List.take_succ_cons]; unfold pos; rw [if_neg h1, et, pos_app, pos_plain _ (fun x hx => (pC_iff x).1 (twp_all pC r x hx))]; exact q2
    · rw [List.take_succ_cons, scan_cm c _ _ _ _ h3, twp_take pC r _ (by omega), List.drop_take]
      rw [show (r.takeWhile pC).length + p - (r.takeWhile pC).length = p by omega]
      exact q3
  | case5 line col cnt c r h1 h2 h3 e hrd =>
    intro er h
    cases h
    exact ⟨0, by simp, rfl, scan_nil _ _ _⟩
  | case6 line col c r h1 h2 h3 k' t v hrd =>
    intro er h
    cases h
    exact ⟨0, by simp, rfl, scan_nil _ _ _⟩
  | case7 line col cnt c r h1 h2 h3 k' t v hrd hne ih =>
    intro er h
    obtain ⟨p, q1, q2, q3⟩ := ih er h
    have hd := rd_drop c r k' v t hrd
    have hf := rd_front c r k' v t hrd
    have hl := rd_len c r k' v t hrd
    rw [hd] at q1 q2
    have hno : ∀ x ∈ t, x.toNat ≠ 10 := rd_noNl (c :: r) k' v t hrd
    have et : (c :: r).take (t.length + p) = t ++ ((c :: r).drop t.length).take p := by
      obtain ⟨u, hu⟩ := hf.1
      rw [hu, take_app]
      simp
    obtain ⟨n', hn'⟩ : ∃ n', t.length + p = n' + 1 := ⟨t.length + p - 1, by omega⟩
    refine ⟨t.length + p, by simp at q1 hl ⊢; omega, ?_, ?_⟩
    · rw [et, pos_app, pos_plain _ hno]; exact q2
    · have hrt := rd_take (c :: r) k' v t (t.length + p) hrd (by omega) (by omega)
      rw [hn', List.take_succ_cons] at hrt ⊢
      rw [scan_ok c _ _ _ _ k' v t ⟨h1, by omega, by omega, by omega, h3⟩ hrt hne]
      have e2 : (r.take n').drop (t.length - 1) = (r.drop (t.length - 1)).take p := by
        rw [List.drop_take]
        congr 1
        omega
      rw [e2, q3]
end Go.Proofs.YtckhliilndfljaaDoor
