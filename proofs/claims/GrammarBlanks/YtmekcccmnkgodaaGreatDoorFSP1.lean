import Derived.Test.YtmekcccmnkgodaaGreatDoorFLRef2
import Derived.Test.YtmekcccmnkgodaaGreatDoorFLRead
import Derived.Test.YtmekcccmnkgodaaGreatDoorFLMark
namespace Go.Proofs.YtmekcccmnkgodaaGreatDoor
open Go.ChangeShapes Go.WideShapes Go.ChangeAt Go.RowKit
set_option linter.unusedVariables false

/-- digits as a number; none: beyond 64 bits -/
def valD (n : Nat) : Bs → Option Nat
  | [] => some n
  | c :: r => if 18446744073709551615 < n * 10 + (c.toNat - 48) then none else valD (n * 10 + (c.toNat - 48)) r
def valE : Option Nat → Lib.NumEnd Nat
  | some u => .ok u
  | none => .range
theorem valD_parse (l : Bs) (hd : ∀ c ∈ l, pD c = true) : ∀ n, Lib.parseUintM 18446744073709551615 n l = valE (valD n l) := by
  induction l with
  | nil => intro n; rfl
  | cons c r ih =>
    intro n
    have hc := hd c (by simp)
    unfold pD isD at hc
    simp only [Bool.and_eq_true, decide_eq_true_eq] at hc
    have ih' := ih (fun x hx => hd x (by simp [hx]))
    rw [Lib.parseUintM, if_pos (by omega)]
    unfold valD
    by_cases h1 : 18446744073709551615 < n * 10 + (c.toNat - 48)
    · by_cases h2 : 1844674407370955162 ≤ n
      · rw [if_pos h2, if_pos h1]; rfl
      · rw [if_neg h2, if_pos h1, if_pos h1]; rfl
    · rw [if_neg (by omega), if_neg h1, if_neg h1]
      exact ih' _
theorem parse_val (l : Bs) (hne : l ≠ []) (hd : ∀ c ∈ l, pD c = true) : Lib.parseUintB 64 l = valE (valD 0 l) := by
  unfold Lib.parseUintB
  rw [if_neg hne]
  exact valD_parse l hd 0
theorem valD_step (l : Bs) (i n : Nat) (h : i < l.length) : valD n (l.drop i) = if 18446744073709551615 < n * 10 + ((l[i]).toNat - 48) then none else valD (n * 10 + ((l[i]).toNat - 48)) (l.drop (i + 1)) := by
  rw [List.drop_eq_getElem_cons h]
  rfl
def valR : Option Nat → Value
  | some u => .tuple #[.int .u64 u, .bool true]
  | none => .tuple #[.int .u64 0, .bool false]

theorem u8sub (d : Nat) (h : 48 ≤ d ∧ d ≤ 57) : IntKind.u8.wrap ((d : Int) - 48) = ((d - 48 : Nat) : Int) := by
  rw [IntKind.wrap_u8]
  omega

theorem over {n d : Nat} (h : (18446744073709551615 - (d : Int)) / 10 < n) (hd : d ≤ 9) : 18446744073709551615 < n * 10 + d := by omega
theorem under {n d : Nat} (h : (n : Int) ≤ (18446744073709551615 - (d : Int)) / 10) (hd : d ≤ 9) : ¬ 18446744073709551615 < n * 10 + d ∧ n * 10 + d < 18446744073709551616 := by omega

end Go.Proofs.YtmekcccmnkgodaaGreatDoor
namespace Go.Proofs.YtmekcccmnkgodaaGreatDoor
set_option linter.unusedVariables false

/-! ### where the tokens of a text stand (LexerPlaces, LexerTail: the pure part) -/
def bareN : Bool → Bs → Bool
  | _, [] => true
  | n, c :: r => if c.toNat = 10 then bareN false r else if n = true ∨ c.toNat = 32 ∨ c.toNat = 9 ∨ c.toNat = 13 then bareN n r else if c.toNat = 35 then bareN true r else false
def openN : Bool → Bs → Bool
  | n, [] => n
  | n, c :: r => if c.toNat = 10 then openN false r else if c.toNat = 35 then openN true r else openN n r

/-- line and column behind a text -/
def pos : Bs → Nat → Nat → Nat × Nat
  | [], l, c => (l, c)
  | x :: r, l, c => if x.toNat = 10 then pos r (l + 1) 1 else pos r l (c + 1)
def plc (line col : Int) : Bs → Nat → Nat → Option Nat
  | [], l, c => if (l : Int) = line ∧ (c : Int) = col then some 0 else none
  | x :: r, l, c => if (l : Int) < line ∨ (l : Int) = line ∧ (c : Int) < col then (if x.toNat = 10 then plc line col r (l + 1) 1 else plc line col r l (c + 1)).map (· + 1) else if (l : Int) = line ∧ (c : Int) = col then some 0 else none

theorem pos_ge (s : Bs) : ∀ l c, l < (pos s l c).1 ∨ l = (pos s l c).1 ∧ c ≤ (pos s l c).2 := by
  induction s with
  | nil => intro l c; exact .inr ⟨rfl, Nat.le_refl _⟩
  | cons x r ih =>
    intro l c
    unfold pos
    split
    · have := ih (l + 1) 1; omega
    · have := ih l (c + 1); omega
theorem pos_app (a b : Bs) : ∀ l c, pos (a ++ b) l c = pos b (pos a l c).1 (pos a l c).2 := by
  induction a with
  | nil => intro l c; rfl
  | cons x r ih =>
    intro l c
    simp only [List.cons_append, pos]
    split
    · exact ih _ _
    · exact ih _ _
theorem plc_pos (s : Bs) : ∀ (n l c : Nat), n ≤ s.length → plc ((pos (s.take n) l c).1 : Nat) ((pos (s.take n) l c).2 : Nat) s l c = some n := by
  induction s with
  | nil => intro n l c h; simp at h; subst h; simp [plc, pos]
  | cons x r ih =>
    intro n l c h
    cases n with
    | zero => simp [plc, pos]
    | succ n =>
      simp only [List.take_succ_cons, pos, plc]
      by_cases hx : x.toNat = 10
      · have := pos_ge (r.take n) (l + 1) 1
        simp only [if_pos hx]
        rw [if_pos (by omega), ih n (l + 1) 1 (by simpa using h)]
        rfl
      · have := pos_ge (r.take n) l (c + 1)
        simp only [if_neg hx]
        rw [if_pos (by omega), ih n l (c + 1) (by simpa using h)]
        rfl

theorem pos_plain (t : Bs) (h : ∀ c ∈ t, c.toNat ≠ 10) : ∀ l c, pos t l c = (l, c + t.length) := by
  induction t with
  | nil => intro l c; rfl
  | cons x r ih =>
    intro l c
    unfold pos
    rw [if_neg (h x (by simp)), ih (fun c hc => h c (by simp [hc]))]
    simp
    omega

/-- the tokens stand where they say, between them blanks and whole comments -/
def Places : Bool → Bs → Nat → Nat → List Tk → Prop
  | n, s, _, _, [] => bareN n s = true
  | n, s, l, c, t :: ts => ∃ p, p + t.text.length ≤ s.length ∧ bareN n (s.take p) = true ∧ openN n (s.take p) = false ∧
      t.line = ((pos (s.take p) l c).1 : Nat) ∧ t.col = ((pos (s.take p) l c).2 : Nat) ∧ (s.drop p).take t.text.length = t.text ∧ (∃ x r, t.text = x :: r ∧ ∀ z ∈ t.text, z.toNat ≠ 10) ∧
      (t.kind < 50 → headIs pN (s.drop (p + t.text.length)) = false) ∧ Places false (s.drop (p + t.text.length)) (pos (s.take p) l c).1 ((pos (s.take p) l c).2 + t.text.length) ts

theorem places_nl (n : Bool) (x : UInt8) (r : Bs) (l c : Nat) (hx : x.toNat = 10) : ∀ ts, Places false r (l + 1) 1 ts → Places n (x :: r) l c ts
  | [], h => by unfold Places at h ⊢; unfold bareN; rw [if_pos hx]; exact h
  | t :: ts, h => by
    obtain ⟨p, h1, h2, h3, h4, h5, h6, h7, h8, h9⟩ := h
    refine ⟨p + 1, by simp; omega, ?_, ?_, ?_, ?_, ?_, h7, ?_, ?_⟩
    · rw [List.take_succ_cons]; unfold bareN; rw [if_pos hx]; exact h2
    · rw [List.take_succ_cons]; unfold openN; rw [if_pos hx]; exact h3
    · rw [List.take_succ_cons]; unfold pos; rw [if_pos hx]; exact h4
    · rw [List.take_succ_cons]; unfold pos; rw [if_pos hx]; exact h5
    · exact h6
    · rw [Nat.add_right_comm]; exact h8
    · rw [List.take_succ_cons, Nat.add_right_comm]; unfold pos; rw [if_pos hx]; exact h9
theorem places_bl (x : UInt8) (r : Bs) (l c : Nat) (h10 : x.toNat ≠ 10) (hx : x.toNat = 32 ∨ x.toNat = 9 ∨ x.toNat = 13) : ∀ ts, Places false r l (c + 1) ts → Places false (x :: r) l c ts
  | [], h => by unfold Places at h ⊢; unfold bareN; rw [if_neg h10, if_pos (.inr hx)]; exact h
  | t :: ts, h => by
    obtain ⟨p, h1, h2, h3, h4, h5, h6, h7, h8, h9⟩ := h
    refine ⟨p + 1, by simp; omega, ?_, ?_, ?_, ?_, ?_, h7, ?_, ?_⟩
    · rw [List.take_succ_cons]; unfold bareN; rw [if_neg h10, if_pos (.inr hx)]; exact h2
    · rw [List.take_succ_cons]; unfold openN; rw [if_neg h10, if_neg (by omega)]; exact h3
    · rw [List.take_succ_cons]; unfold pos; rw [if_neg h10]; exact h4
    · rw [List.take_succ_cons]; unfold pos; rw [if_neg h10]; exact h5
    · exact h6
    · rw [Nat.add_right_comm]; exact h8
    · rw [List.take_succ_cons, Nat.add_right_comm]; unfold pos; rw [if_neg h10]; exact h9
/-- a sign within a comment, or one that opens it -/
theorem places_in (n : Bool) (x : UInt8) (r : Bs) (l c : Nat) (h10 : x.toNat ≠ 10) (hx : n = true ∨ x.toNat = 35) : ∀ ts, Places true r l (c + 1) ts → Places n (x :: r) l c ts
  | [], h => by
    unfold Places at h ⊢; unfold bareN; rw [if_neg h10]
    rcases hx with rfl | hx
    · rw [if_pos (.inl rfl)]; exact h
    · cases n with
      | true => rw [if_pos (.inl rfl)]; exact h
      | false => rw [if_neg (by simp; omega), if_pos hx]; exact h
  | t :: ts, h => by
    obtain ⟨p, h1, h2, h3, h4, h5, h6, h7, h8, h9⟩ := h
    refine ⟨p + 1, by simp; omega, ?_, ?_, ?_, ?_, ?_, h7, ?_, ?_⟩
    · rw [List.take_succ_cons]; unfold bareN; rw [if_neg h10]
      rcases hx with rfl | hx
      · rw [if_pos (.inl rfl)]; exact h2
      · cases n with
        | true => rw [if_pos (.inl rfl)]; exact h2
        | false => rw [if_neg (by simp; omega), if_pos hx]; exact h2
    · rw [List.take_succ_cons]; unfold openN; rw [if_neg h10]
      rcases hx with rfl | hx
      · split
        · exact h3
        · exact h3
      · rw [if_pos hx]; exact h3
    · rw [List.take_succ_cons]; unfold pos; rw [if_neg h10]; exact h4
    · rw [List.take_succ_cons]; unfold pos; rw [if_neg h10]; exact h5
    · exact h6
    · rw [Nat.add_right_comm]; exact h8
    · rw [List.take_succ_cons, Nat.add_right_comm]; unfold pos; rw [if_neg h10]; exact h9
/-- a comment's end: nothing, or a newline -/
theorem places_end (y : Bs) (hy : y = [] ∨ ∃ x z, y = x :: z ∧ x.toNat = 10) (l c : Nat) : ∀ ts, Places false y l c ts → Places true y l c ts
  | [], h => by
    rcases hy with rfl | ⟨x, z, rfl, hx⟩
    · rfl
    · unfold Places at h ⊢; unfold bareN at h ⊢; rw [if_pos hx] at h ⊢; exact h
  | t :: ts, h => by
    obtain ⟨p, h1, h2, h3, h4, h5, h6, ⟨q, u, hq, hq10⟩, h8, h9⟩ := h
    rcases hy with rfl | ⟨x, z, rfl, hx⟩
    · rw [hq] at h1; simp at h1
    · cases p with
      | zero =>
        rw [hq] at h6
        simp at h6
        exact absurd hx (by rw [h6.1]; exact hq10 q (by rw [hq]; simp))
      | succ p =>
        refine ⟨p + 1, h1, ?_, ?_, h4, h5, h6, ⟨q, u, hq, hq10⟩, h8, h9⟩
        · rw [List.take_succ_cons] at h2 ⊢; unfold bareN at h2 ⊢; rw [if_pos hx] at h2 ⊢; exact h2
        · rw [List.take_succ_cons] at h3 ⊢; unfold openN at h3 ⊢; rw [if_pos hx] at h3 ⊢; exact h3
theorem places_note (y : Bs) (l : Nat) (ts : List Tk) : ∀ (w : Bs) (c : Nat), (∀ x ∈ w, x.toNat ≠ 10) → Places true y l (c + w.length) ts → Places true (w ++ y) l c ts
  | [], c, _, h => h
  | x :: w, c, hw, h => by
    refine places_in true x (w ++ y) l c (hw x (by simp)) (.inl rfl) ts ?_
    refine places_note y l ts w (c + 1) (fun z hz => hw z (by simp [hz])) ?_
    rw [show c + 1 + w.length = c + (x :: w).length by simp; omega]
    exact h
theorem pC_iff (x : UInt8) : pC x = true ↔ x.toNat ≠ 10 := by unfold pC; simp
theorem twp_split (p : UInt8 → Bool) : ∀ s : Bs, s = s.takeWhile p ++ s.drop (s.takeWhile p).length
  | [] => rfl
  | c :: r => by
    rw [List.takeWhile_cons]
    split
    · rw [List.cons_append, List.length_cons, List.drop_succ_cons, ← twp_split p r]
    · rfl
theorem twp_head (p : UInt8 → Bool) : ∀ s : Bs, headIs p (s.drop (s.takeWhile p).length) = false
  | [] => rfl
  | c :: r => by
    rw [List.takeWhile_cons]
    split
    · rw [List.length_cons, List.drop_succ_cons]; exact twp_head p r
    · rename_i h; simp [headIs, h]
theorem twp_all (p : UInt8 → Bool) (s : Bs) : ∀ c ∈ s.takeWhile p, p c = true := fun c hc => List.all_eq_true.1 (List.all_takeWhile (p := p) (l := s)) c hc
theorem comment_end (r : Bs) : r.drop (r.takeWhile pC).length = [] ∨ ∃ x z, r.drop (r.takeWhile pC).length = x :: z ∧ x.toNat = 10 := by
  have h := twp_head pC r
  cases he : r.drop (r.takeWhile pC).length with
  | nil => exact .inl rfl
  | cons x z =>
    rw [he] at h
    refine .inr ⟨x, z, rfl, ?_⟩
    simp only [headIs, pC] at h
    simpa using h

/-- kinds below 50 are words, names and numbers: not cut short -/
theorem wdK_lt (t : Bs) : ∀ n k, k + n ≤ 41 → 1 ≤ k → wdK t n k < 50
  | 0, _, _, _ => by unfold wdK; omega
  | n + 1, k, h, h1 => by
    unfold wdK
    split
    · omega
    · exact wdK_lt t n (k + 1) (by omega) (by omega)
theorem mkK_ge (t : Bs) : ∀ n k, 50 ≤ k → mkK t n k = 0 ∨ 50 ≤ mkK t n k
  | 0, _, _ => .inl rfl
  | n + 1, k, h => by
    unfold mkK
    split
    · exact .inr h
    · exact mkK_ge t n (k + 1) (by omega)
theorem inN_of_D (x : UInt8) (h : pD x = true) : pN x = true := by unfold pN inN; unfold pD at h; simp [h]
theorem rd_whole (s : Bs) (k v : Nat) (t : Bs) (h : rd s = .ok k t v) (hk : k < 50) : headIs pN (s.drop t.length) = false := by
  unfold rd at h
  split at h
  · dsimp only at h
    split at h
    · cases h
    · cases h; exact twp_head pN s
  · split at h
    · dsimp only at h
      split at h
      · cases h
      · rename_i hh
        split at h
        · cases h; simpa using hh
        · cases h
    · dsimp only at h
      split at h
      · cases h
      · rename_i hm
        cases h
        have := mkK_ge (s.take (markL s)) 30 50 (Nat.le_refl _)
        unfold markK at hk hm
        omega

theorem spl_noNl : (List.range 80).all (fun k => (spl k).all (fun c => decide (c.toNat ≠ 10))) = true := by decide +kernel
theorem mkK_is (t : Bs) : ∀ (n k : Nat), mkK t n k ≠ 0 → k + n ≤ 80 → spl (mkK t n k) = t ∧ mkK t n k < 80
  | 0, _, h, _ => absurd rfl h
  | n + 1, k, h, hk => by
    have e : mkK t (n + 1) k = if spl k = t then k else mkK t n (k + 1) := rfl
    rw [e] at h ⊢
    by_cases he : spl k = t
    · rw [if_pos he]; exact ⟨he, by omega⟩
    · rw [if_neg he] at h ⊢
      exact mkK_is t n (k + 1) h (by omega)
theorem pN_no (x : UInt8) (h : pN x = true) : x.toNat ≠ 10 := by
  intro e
  unfold pN at h
  rw [e] at h
  revert h
  decide
theorem pD_no (x : UInt8) (h : pD x = true) : x.toNat ≠ 10 := pN_no x (inN_of_D x h)
/-- no token holds a newline -/
theorem rd_noNl (s : Bs) (k v : Nat) (t : Bs) (h : rd s = .ok k t v) : ∀ c ∈ t, c.toNat ≠ 10 := by
  unfold rd at h
  split at h
  · dsimp only at h
    split at h
    · cases h
    · cases h
      exact fun c hc => pN_no c (twp_all pN s c hc)
  · split at h
    · dsimp only at h
      split at h
      · cases h
      · split at h
        · cases h
          exact fun c hc => pD_no c (twp_all pD s c hc)
        · cases h
    · dsimp only at h
      split at h
      · cases h
      · rename_i hk
        cases h
        have h1 := mkK_is (s.take (markL s)) 30 50 hk (by omega)
        intro c hc
        have h2 := List.all_eq_true.1 spl_noNl _ (List.mem_range.2 h1.2)
        rw [h1.1] at h2
        exact of_decide_eq_true (List.all_eq_true.1 h2 c hc)

theorem places_tok (k t v : _) (c : UInt8) (r : Bs) (l cl : Nat) (ts : List Tk) (h10 : c.toNat ≠ 10) (h : rd (c :: r) = .ok k t v) (hp : Places false ((c :: r).drop t.length) l (cl + t.length) ts) :
    Places false (c :: r) l cl ((⟨k, t, v, l, cl⟩ : Tk) :: ts) := by
  obtain ⟨⟨u, hu⟩, h1⟩ := rd_front c r k v t h
  have hlen := rd_len c r k v t h
  refine ⟨0, by simpa using hlen, rfl, rfl, rfl, rfl, ?_, ?_, ?_, ?_⟩
  · show (c :: r).take t.length = t
    rw [hu]; simp
  · cases t with
    | nil => simp at h1
    | cons x z =>
      exact ⟨x, z, rfl, rd_noNl _ k v _ h⟩
  · intro hk
    show headIs pN ((c :: r).drop (0 + t.length)) = false
    rw [Nat.zero_add]
    have hk' : (k : Int) < 50 := hk
    exact rd_whole _ k v t h (by omega)
  · show Places false ((c :: r).drop (0 + t.length)) l (cl + t.length) ts
    rw [Nat.zero_add]; exact hp

theorem scan_places (s : Bs) (line col cnt : Nat) : (scan s line col cnt).2 = none → Places false s line col (scan s line col cnt).1 := by
  fun_induction scan s line col cnt with
  | case1 line col cnt => intro _; rfl
  | case2 line col cnt c r hc ih => intro h; exact places_nl false c r line col hc _ (ih h)
  | case3 line col cnt c r h1 h2 ih => intro h; exact places_bl c r line col h1 h2 _ (ih h)
  | case4 line col cnt c r h1 h2 h3 ih =>
    intro h
    refine places_in false c r line col h1 (.inr h3) _ ?_
    have e := twp_split pC r
    have := places_note (r.drop (r.takeWhile pC).length) line _ (r.takeWhile pC) (col + 1) (fun x hx => (pC_iff x).1 (twp_all pC r x hx)) (places_end _ (comment_end r) line _ _ (ih h))
    rw [← e] at this
    exact this
  | case5 line col cnt c r h1 h2 h3 e hrd => intro h; cases h
  | case6 line col c r h1 h2 h3 k' t v hrd => intro h; cases h
  | case7 line col cnt c r h1 h2 h3 k' t v hrd hne ih =>
    intro h
    refine places_tok k' t v c r line col _ h1 hrd ?_
    rw [← rd_drop c r k' v t hrd]
    exact ih h

/-! ### the text ahead of a fault -/
theorem twp_take (p : UInt8 → Bool) : ∀ (s : Bs) (n : Nat), (s.takeWhile p).length ≤ n → (s.take n).takeWhile p = s.takeWhile p
  | [], n, _ => by simp
  | c :: r, n, h => by
    rw [List.takeWhile_cons] at h ⊢
    split
    · rename_i hc
      rw [if_pos hc] at h
      cases n with
      | zero => simp at h
      | succ n =>
        rw [List.take_succ_cons, List.takeWhile_cons, if_pos hc, twp_take p r n (by simpa using h)]
    · rename_i hc
      cases n with
      | zero => rfl
      | succ n => rw [List.take_succ_cons, List.takeWhile_cons, if_neg hc]
theorem headIs_take (p : UInt8 → Bool) (s : Bs) (n : Nat) (h : headIs p s = false) : headIs p (s.take n) = false := by
  cases s with
  | nil => simpa using h
  | cons c r => cases n with
    | zero => rfl
    | succ n => exact h
theorem headIs_take1 (p : UInt8 → Bool) (s : Bs) (n : Nat) : headIs p (s.take (n + 1)) = headIs p s := by
  cases s <;> rfl
theorem markL_two (s : Bs) : markL s ≤ 2 := by
  unfold markL
  split
  · split
    · omega
    · split <;> omega
  · omega
theorem markL_take (s : Bs) (n : Nat) (h : (s.take (markL s)).length ≤ n) (h1 : 1 ≤ n) : (s.take n).take (markL (s.take n)) = s.take (markL s) := by
  match s, n with
  | [], n => simp
  | [c], n + 1 => simp
  | c :: d :: r, 1 =>
    have hm : markL (c :: d :: r) = 1 := by
      have := markL_pos (c :: d :: r)
      have := markL_two (c :: d :: r)
      simp at h
      omega
    rw [hm]
    simp [markL]
  | c :: d :: r, n + 2 =>
    have e : markL ((c :: d :: r).take (n + 2)) = markL (c :: d :: r) := rfl
    rw [e, List.take_take]
    congr 1
    have := markL_two (c :: d :: r)
    omega
theorem rd_take (s : Bs) (k v : Nat) (t : Bs) (n : Nat) (h : rd s = .ok k t v) (hn : t.length ≤ n) (h1 : 1 ≤ n) : rd (s.take n) = .ok k t v := by
  obtain ⟨n', rfl⟩ : ∃ n', n = n' + 1 := ⟨n - 1, by omega⟩
  unfold rd at h ⊢
  rw [headIs_take1, headIs_take1]
  split at h
  · rename_i hL
    rw [if_pos hL]
    dsimp only at h ⊢
    split at h
    · cases h
    · rename_i hl
      injection h with ha hb hc
      subst hb
      rw [twp_take pN s _ hn, if_neg hl, ha, hc]
  · rename_i hL
    rw [if_neg hL]
    split at h
    · rename_i hD
      rw [if_pos hD]
      dsimp only at h ⊢
      split at h
      · cases h
      · rename_i hh
        have ht : t = s.takeWhile pD := by
          split at h
          · injection h with ha hb hc; exact hb.symm
          · cases h
        subst ht
        have hh' : headIs pN (s.drop (s.takeWhile pD).length) = false := by simpa using hh
        rw [twp_take pD s _ hn, List.drop_take, headIs_take pN _ _ hh', if_neg (by decide)]
        exact h
    · rename_i hD
      rw [if_neg hD]
      dsimp only at h ⊢
      split at h
      · cases h
      · rename_i hm
        injection h with ha hb hc
        subst hb
        rw [markL_take s _ hn (by omega), if_neg hm, ha, hc]

theorem take_app (y : Bs) (p : Nat) : ∀ a : Bs, (a ++ y).take (a.length + p) = a ++ y.take p
  | [] => by simp
  | c :: a => by rw [List.cons_append, List.length_cons, Nat.add_right_comm, List.take_succ_cons, take_app y p a, List.cons_append]
theorem scan_front (s : Bs) (line col cnt : Nat) : ∀ er, (scan s line col cnt).2 = some er → ∃ p, p < s.length ∧ pos (s.take p) line col = (er.line, er.col) ∧ scan (s.take p) line col cnt = ((scan s line col cnt).1, none) := by
  fun_induction scan s line col cnt with
  | case1 line col cnt => intro er h; cases h
  | case2 line col cnt c r hc ih =>
    intro er h
    obtain ⟨p, h1, h2, h3⟩ := ih er h
    refine ⟨p + 1, by simpa using h1, ?_, ?_⟩
    · rw [List.take_succ_cons]; unfold pos; rw [if_pos hc]; exact h2
    · rw [List.take_succ_cons, scan_nl c _ _ _ _ hc]; exact h3
  | case3 line col cnt c r h1 h2 ih =>
    intro er h
    obtain ⟨p, q1, q2, q3⟩ := ih er h
    refine ⟨p + 1, by simpa using q1, ?_, ?_⟩
    · rw [List.take_succ_cons]; unfold pos; rw [if_neg h1]; exact q2
    · rw [List.take_succ_cons, scan_bl c _ _ _ _ h2]; exact q3
  | case4 line col cnt c r h1 h2 h3 ih =>
    intro er h
    obtain ⟨p, q1, q2, q3⟩ := ih er h
    have e := twp_split pC r
    have hle : (r.takeWhile pC).length ≤ r.length := (List.takeWhile_sublist _).length_le
    have et : r.take ((r.takeWhile pC).length + p) = r.takeWhile pC ++ (r.drop (r.takeWhile pC).length).take p := by
      have h := take_app (r.drop (r.takeWhile pC).length) p (r.takeWhile pC)
      rw [← e] at h
      exact h
    refine ⟨(r.takeWhile pC).length + p + 1, by simp at q1 ⊢; omega, ?_, ?_⟩
    · rw [List.take_succ_cons]; unfold pos; rw [if_neg h1, et, pos_app, pos_plain _ (fun x hx => (pC_iff x).1 (twp_all pC r x hx))]; exact q2
    · rw [List.take_succ_cons, scan_cm c _ _ _ _ h3, twp_take pC r _ (by omega), List.drop_take]
      rw [show (r.takeWhile pC).length + p - (r.takeWhile pC).length = p by omega]
      exact q3
  | case5 line col cnt c r h1 h2 h3 e hrd =>
    intro er h
    cases h
    exact ⟨0, by simp, rfl, scan_nil _ _ _⟩
  | case6 line col c r h1 h2 h3 k' t v hrd =>
    intro er h
    cases h
    exact ⟨0, by simp, rfl, scan_nil _ _ _⟩
  | case7 line col cnt c r h1 h2 h3 k' t v hrd hne ih =>
    intro er h
    obtain ⟨p, q1, q2, q3⟩ := ih er h
    have hd := rd_drop c r k' v t hrd
    have hf := rd_front c r k' v t hrd
    have hl := rd_len c r k' v t hrd
    rw [hd] at q1 q2
    have hno : ∀ x ∈ t, x.toNat ≠ 10 := rd_noNl (c :: r) k' v t hrd
    have et : (c :: r).take (t.length + p) = t ++ ((c :: r).drop t.length).take p := by
      obtain ⟨u, hu⟩ := hf.1
      rw [hu, take_app]
      simp
    obtain ⟨n', hn'⟩ : ∃ n', t.length + p = n' + 1 := ⟨t.length + p - 1, by omega⟩
    refine ⟨t.length + p, by simp at q1 hl ⊢; omega, ?_, ?_⟩
    · rw [et, pos_app, pos_plain _ hno]; exact q2
    · have hrt := rd_take (c :: r) k' v t (t.length + p) hrd (by omega) (by omega)
      rw [hn', List.take_succ_cons] at hrt ⊢
      rw [scan_ok c _ _ _ _ k' v t ⟨h1, by omega, by omega, by omega, h3⟩ hrt hne]
      have e2 : (r.take n').drop (t.length - 1) = (r.drop (t.length - 1)).take p := by
        rw [List.drop_take]
        congr 1
        omega
      rw [e2, q3]
end Go.Proofs.YtmekcccmnkgodaaGreatDoor
namespace Go.Proofs.YtmekcccmnkgodaaGreatDoor
set_option linter.unusedVariables false

/-! ### a text put together of tokens and gaps (LexerMade: the pure part) -/
def gap8 : List Bs := [[32], [9], [10], [13, 10], [32, 32, 10, 10, 32], [35, 32, 105, 102, 32, 40, 255, 32, 35, 10], [35, 10, 9], [32, 13, 32]]
def gapB (k : Nat) : Bs := (gap8[k]?).getD []
def name8 : List Bs := [[97], [90], [105, 102, 50], [83, 101, 101, 100], [120, 95, 49], [111, 110, 95], [105, 102, 102], [97, 98, 99, 100, 101, 102, 103, 104, 105, 106, 107, 108, 109, 110, 111, 112, 113, 114, 115, 116, 117, 118, 119, 120, 121, 122, 65, 66, 67, 68, 95]]
/-- the kind of the w-th word or mark -/
def kind60 (w : Nat) : Nat := if w < 31 then 10 + w else if w < 40 then 50 + (w - 31) else 60 + (w - 40)
/-- a number's digits, none for 0 -/
def digs (n : Nat) : Bs := if n = 0 then [] else digs (n / 10) ++ [UInt8.ofNat (48 + n % 10)]
termination_by n
decreasing_by omega
def dec (n z : Nat) : Bs := List.replicate (z + 1) 48 ++ digs n
/-- kind, text and number of a pick -/
def tok72 (w num : Nat) : Nat × Bs × Nat :=
  if w < 60 then (kind60 w, spl (kind60 w), 0) else if w < 68 then (1, (name8[w - 60]?).getD [], 0) else (2, dec num (w - 68), num)

/-- behind a token: nothing, or what begins a gap -/
def okRest (x : Bs) : Prop := x = [] ∨ ∃ c r, x = c :: r ∧ (c = 32 ∨ c = 9 ∨ c = 10 ∨ c = 13 ∨ c = 35)
theorem okRest_head {p : UInt8 → Bool} (h : p 32 = false ∧ p 9 = false ∧ p 10 = false ∧ p 13 = false ∧ p 35 = false) {x : Bs} (hx : okRest x) : headIs p x = false := by
  rcases hx with rfl | ⟨c, r, rfl, hc⟩
  · rfl
  · rcases hc with rfl | rfl | rfl | rfl | rfl
    · exact h.1
    · exact h.2.1
    · exact h.2.2.1
    · exact h.2.2.2.1
    · exact h.2.2.2.2
theorem tw_stop (p : UInt8 → Bool) (x : Bs) (hx : headIs p x = false) : ∀ t : Bs, (∀ c ∈ t, p c = true) → (t ++ x).takeWhile p = t
  | [], _ => by
    cases x with
    | nil => rfl
    | cons c r => rw [List.nil_append, List.takeWhile_cons, if_neg (by simpa [headIs] using hx)]
  | c :: t, h => by rw [List.cons_append, List.takeWhile_cons, if_pos (h c (by simp)), tw_stop p x hx t (fun d hd => h d (by simp [hd]))]
theorem rest_N {x : Bs} (hx : okRest x) : headIs pN x = false := okRest_head (by decide) hx
theorem rest_D {x : Bs} (hx : okRest x) : headIs pD x = false := okRest_head (by decide) hx

theorem mp_rd_name (c : UInt8) (t x : Bs) (hL : pL c = true) (hN : ∀ d ∈ c :: t, pN d = true) (hl : (c :: t).length ≤ 31) (hx : okRest x) : rd (c :: t ++ x) = .ok (wordK (c :: t)) (c :: t) 0 := by
  have e : (c :: t ++ x).takeWhile pN = c :: t := tw_stop pN x (rest_N hx) (c :: t) hN
  unfold rd
  rw [if_pos (show headIs pL (c :: t ++ x) = true from hL)]
  dsimp only
  rw [e, if_neg (by omega)]
theorem mp_rd_num (c : UInt8) (t x : Bs) (hD : ∀ d ∈ c :: t, pD d = true) (v : Nat) (hv : Lib.parseUintB 64 (c :: t) = .ok v) (hx : okRest x) : rd (c :: t ++ x) = .ok 2 (c :: t) v := by
  have e : (c :: t ++ x).takeWhile pD = c :: t := tw_stop pD x (rest_D hx) (c :: t) hD
  have hd := hD c (by simp)
  have hL : pL c = false := by
    unfold pL isL
    unfold pD isD at hd
    simp only [Bool.and_eq_true, decide_eq_true_eq] at hd
    simp
    omega
  unfold rd
  rw [if_neg (by show ¬ pL c = true; rw [hL]; decide), if_pos (show headIs pD (c :: t ++ x) = true from hd)]
  dsimp only
  rw [e, List.drop_left, if_neg (by rw [rest_N hx]; decide), hv]
/-- a mark: whatever may stand behind it -/
def mkOk (k : Nat) : Bool :=
  match spl k with
  | [c] => !pL c && !pD c && decide (markK [c] = k) && [32, 9, 10, 13, 35].all (fun d => decide (markL [c, d] = 1))
  | [c, d] => !pL c && !pD c && decide (markK [c, d] = k) && decide (markL [c, d] = 2)
  | _ => false
theorem marks_ok : ((List.range 9).map (50 + ·) ++ (List.range 20).map (60 + ·)).all mkOk = true := by decide +kernel
theorem mp_rd_mark (k : Nat) (h : mkOk k = true) (hk : k ≠ 0) (x : Bs) (hx : okRest x) : rd (spl k ++ x) = .ok k (spl k) 0 := by
  unfold mkOk at h
  split at h
  · rename_i c hc
    simp only [Bool.and_eq_true, Bool.not_eq_true', decide_eq_true_eq] at h
    obtain ⟨⟨⟨h1, h2⟩, h3⟩, h4⟩ := h
    have hm : markL ([c] ++ x) = 1 := by
      rcases hx with rfl | ⟨d, r, rfl, hd⟩
      · rfl
      · have h5 := List.all_eq_true.1 h4 d (by rcases hd with rfl | rfl | rfl | rfl | rfl <;> simp)
        exact of_decide_eq_true h5
    rw [hc]
    unfold rd
    rw [if_neg (by show ¬ pL c = true; rw [h1]; decide), if_neg (by show ¬ pD c = true; rw [h2]; decide)]
    dsimp only
    rw [hm]
    show (if markK [c] = 0 then Rd.err 31 else .ok (markK [c]) [c] 0) = _
    rw [h3, if_neg hk]
  · rename_i c d hc
    simp only [Bool.and_eq_true, Bool.not_eq_true', decide_eq_true_eq] at h
    obtain ⟨⟨⟨h1, h2⟩, h3⟩, h4⟩ := h
    have hm : markL ([c, d] ++ x) = 2 := h4
    rw [hc]
    unfold rd
    rw [if_neg (by show ¬ pL c = true; rw [h1]; decide), if_neg (by show ¬ pD c = true; rw [h2]; decide)]
    dsimp only
    rw [hm]
    show (if markK [c, d] = 0 then Rd.err 31 else .ok (markK [c, d]) [c, d] 0) = _
    rw [h3, if_neg hk]
  · cases h

/-! words and names -/
def nmOk (t : Bs) (k : Nat) : Bool := match t with
  | [] => false
  | c :: r => pL c && (c :: r).all pN && decide ((c :: r).length ≤ 31) && decide (wordK (c :: r) = k)
theorem words_ok : ((List.range 31).map (10 + ·)).all (fun k => nmOk (spl k) k) = true := by decide +kernel
theorem names_ok : name8.all (fun t => nmOk t 1) = true := by decide +kernel
theorem rd_nm (t : Bs) (k : Nat) (h : nmOk t k = true) (x : Bs) (hx : okRest x) : rd (t ++ x) = .ok k t 0 := by
  unfold nmOk at h
  split at h
  · cases h
  · rename_i c r
    simp only [Bool.and_eq_true, decide_eq_true_eq] at h
    obtain ⟨⟨⟨h1, h2⟩, h3⟩, h4⟩ := h
    rw [← h4]
    exact mp_rd_name c r x h1 (fun d hd => List.all_eq_true.1 h2 d hd) h3 hx

/-! numbers -/
theorem digs_D (n : Nat) : ∀ c ∈ digs n, pD c = true := by
  fun_induction digs n with
  | case1 => intro c hc; cases hc
  | case2 n hn ih =>
    intro c hc
    rcases List.mem_append.1 hc with h | h
    · exact ih c h
    · simp only [List.mem_singleton] at h
      subst h
      unfold pD isD
      have : (UInt8.ofNat (48 + n % 10)).toNat = 48 + n % 10 := by
        rw [UInt8.toNat_ofNat']
        omega
      rw [this]
      simp
      omega
theorem valD_app (a b : Bs) : ∀ n, valD n (a ++ b) = (valD n a).bind fun m => valD m b := by
  induction a with
  | nil => intro n; rfl
  | cons c r ih =>
    intro n
    show (if 18446744073709551615 < n * 10 + (c.toNat - 48) then none else valD (n * 10 + (c.toNat - 48)) (r ++ b)) = (if 18446744073709551615 < n * 10 + (c.toNat - 48) then none else valD (n * 10 + (c.toNat - 48)) r).bind fun m => valD m b
    split
    · rfl
    · exact ih _
theorem valD_zero (z : Nat) : valD 0 (List.replicate z 48) = some 0 := by
  induction z with
  | zero => rfl
  | succ z ih =>
    rw [List.replicate_succ]
    unfold valD
    have : (48 : UInt8).toNat = 48 := rfl
    rw [this, if_neg (by omega)]
    simpa using ih
theorem valD_digs (n : Nat) (hn : n < 18446744073709551616) : valD 0 (digs n) = some n := by
  fun_induction digs n with
  | case1 => rfl
  | case2 n h ih =>
    rw [valD_app, ih (by omega)]
    have e : (UInt8.ofNat (48 + n % 10)).toNat = 48 + n % 10 := by
      rw [UInt8.toNat_ofNat']
      omega
    show valD (n / 10) [UInt8.ofNat (48 + n % 10)] = some n
    unfold valD valD
    rw [e, if_neg (by omega)]
    congr 1
    omega
theorem dec_val (n z : Nat) (hn : n < 18446744073709551616) : Lib.parseUintB 64 (dec n z) = .ok n := by
  rw [parse_val (dec n z) (by unfold dec; simp) (fun c hc => ?_)]
  · unfold dec
    rw [valD_app, valD_zero]
    show valE (valD 0 (digs n)) = _
    rw [valD_digs n hn]
    rfl
  · rcases List.mem_append.1 hc with h | h
    · rw [List.eq_of_mem_replicate h]; decide
    · exact digs_D n c h
theorem dec_D (n z : Nat) : ∀ c ∈ dec n z, pD c = true := fun c hc => by
  rcases List.mem_append.1 hc with h | h
  · rw [List.eq_of_mem_replicate h]; decide
  · exact digs_D n c h

/-- ANY TOKEN OF THE LANGUAGE IS READ AS ITSELF -/
theorem rd_tok (w num : Nat) (hw : w < 72) (hn : num < 18446744073709551616) (x : Bs) (hx : okRest x) : rd ((tok72 w num).2.1 ++ x) = .ok (tok72 w num).1 (tok72 w num).2.1 (tok72 w num).2.2 := by
  unfold tok72
  by_cases h1 : w < 60
  · rw [if_pos h1]
    unfold kind60
    by_cases h2 : w < 31
    · rw [if_pos h2]
      exact rd_nm _ _ (List.all_eq_true.1 words_ok (10 + w) (List.mem_map.2 ⟨w, List.mem_range.2 h2, rfl⟩)) x hx
    · rw [if_neg h2]
      by_cases h3 : w < 40
      · rw [if_pos h3]
        exact mp_rd_mark _ (List.all_eq_true.1 marks_ok (50 + (w - 31)) (List.mem_append_left _ (List.mem_map.2 ⟨w - 31, List.mem_range.2 (by omega), rfl⟩))) (by omega) x hx
      · rw [if_neg h3]
        exact mp_rd_mark _ (List.all_eq_true.1 marks_ok (60 + (w - 40)) (List.mem_append_right _ (List.mem_map.2 ⟨w - 40, List.mem_range.2 (by omega), rfl⟩))) (by omega) x hx
  · rw [if_neg h1]
    by_cases h2 : w < 68
    · rw [if_pos h2]
      have hlt : w - 60 < name8.length := by show w - 60 < 8; omega
      have e : (name8[w - 60]?).getD [] = name8[w - 60] := by rw [List.getElem?_eq_getElem hlt]; rfl
      rw [e]
      exact rd_nm _ _ (List.all_eq_true.1 names_ok _ (List.getElem_mem hlt)) x hx
    · rw [if_neg h2]
      have hd := dec_D num (w - 68)
      have hv := dec_val num (w - 68) hn
      have hc : dec num (w - 68) = 48 :: (List.replicate (w - 68) 48 ++ digs num) := by unfold dec; rw [List.replicate_succ]; rfl
      rw [hc] at hd hv ⊢
      exact mp_rd_num 48 _ x hd num hv hx

/-! gaps -/
theorem scan_gap (k : Nat) (hk : k < 8) (x : Bs) (l c cnt : Nat) : scan (gapB k ++ x) l c cnt = scan x (pos (gapB k) l c).1 (pos (gapB k) l c).2 cnt := by
  have hC : ∀ (s : Bs) (y : Bs), (∀ d ∈ s, pC d = true) → (s ++ 10 :: y).takeWhile pC = s := fun s y h => tw_stop pC (10 :: y) (show pC 10 = false by decide) s h
  match k, hk with
  | 0, _ => exact scan_bl 32 x l c cnt (by decide)
  | 1, _ => exact scan_bl 9 x l c cnt (by decide)
  | 2, _ => exact scan_nl 10 x l c cnt (by decide)
  | 3, _ =>
    show scan (13 :: 10 :: x) l c cnt = _
    rw [scan_bl 13 _ _ _ _ (by decide), scan_nl 10 _ _ _ _ (by decide)]
    rfl
  | 4, _ =>
    show scan (32 :: 32 :: 10 :: 10 :: 32 :: x) l c cnt = _
    rw [scan_bl 32 _ _ _ _ (by decide), scan_bl 32 _ _ _ _ (by decide), scan_nl 10 _ _ _ _ (by decide), scan_nl 10 _ _ _ _ (by decide), scan_bl 32 _ _ _ _ (by decide)]
    rfl
  | 5, _ =>
    have e := hC [32, 105, 102, 32, 40, 255, 32, 35] x (by decide)
    show scan (35 :: ([32, 105, 102, 32, 40, 255, 32, 35] ++ 10 :: x)) l c cnt = _
    rw [scan_cm 35 _ _ _ _ (by decide), e]
    show scan (10 :: x) l (c + 1 + 8) cnt = _
    rw [scan_nl 10 _ _ _ _ (by decide)]
    rfl
  | 6, _ =>
    have e := hC [] (9 :: x) (by decide)
    show scan (35 :: ([] ++ 10 :: 9 :: x)) l c cnt = _
    rw [scan_cm 35 _ _ _ _ (by decide), e]
    show scan (10 :: 9 :: x) l (c + 1 + 0) cnt = _
    rw [scan_nl 10 _ _ _ _ (by decide), scan_bl 9 _ _ _ _ (by decide)]
    rfl
  | 7, _ =>
    show scan (32 :: 13 :: 32 :: x) l c cnt = _
    rw [scan_bl 32 _ _ _ _ (by decide), scan_bl 13 _ _ _ _ (by decide), scan_bl 32 _ _ _ _ (by decide)]
    rfl
theorem gap_rest (k : Nat) (hk : k < 8) (x : Bs) : okRest (gapB k ++ x) := by
  match k, hk with
  | 0, _ => exact .inr ⟨32, _, rfl, by decide⟩
  | 1, _ => exact .inr ⟨9, _, rfl, by decide⟩
  | 2, _ => exact .inr ⟨10, _, rfl, by decide⟩
  | 3, _ => exact .inr ⟨13, _, rfl, by decide⟩
  | 4, _ => exact .inr ⟨32, _, rfl, by decide⟩
  | 5, _ => exact .inr ⟨35, _, rfl, by decide⟩
  | 6, _ => exact .inr ⟨35, _, rfl, by decide⟩
  | 7, _ => exact .inr ⟨32, _, rfl, by decide⟩

/-- a pick: which token, which gap ahead of it, which number -/
structure Pk where
  w : Nat
  g : Nat
  num : Nat
def Pk.ok (q : Pk) : Prop := q.w < 72 ∧ q.g < 8 ∧ q.num < 18446744073709551616
def Pk.text (q : Pk) : Bs := (tok72 q.w q.num).2.1
def madeT : List Pk → Bs
  | [] => []
  | q :: r => gapB q.g ++ (q.text ++ madeT r)
def madeTk (q : Pk) (l c : Nat) : Tk := ⟨((tok72 q.w q.num).1 : Nat), q.text, (tok72 q.w q.num).2.2, (pos (gapB q.g) l c).1, (pos (gapB q.g) l c).2⟩
def madeP (q : Pk) (l c : Nat) : Nat × Nat := ((pos (gapB q.g) l c).1, (pos (gapB q.g) l c).2 + q.text.length)
def madeL : List Pk → Nat → Nat → List Tk
  | [], _, _ => []
  | q :: r, l, c => madeTk q l c :: madeL r (madeP q l c).1 (madeP q l c).2
def madeE : List Pk → Nat → Nat → Nat × Nat
  | [], l, c => (l, c)
  | q :: r, l, c => madeE r (madeP q l c).1 (madeP q l c).2
theorem made_rest : ∀ ps : List Pk, (∀ q ∈ ps, q.ok) → okRest (madeT ps)
  | [], _ => .inl rfl
  | q :: r, h => gap_rest q.g (h q (by simp)).2.1 _
theorem rd_startT (s : Bs) (k v : Nat) (c : UInt8) (r : Bs) (h : rd (c :: r) = .ok k s v) : startT c := by
  by_cases hs : startT c
  · exact hs
  · exfalso
    have hc : c.toNat = 10 ∨ c.toNat = 32 ∨ c.toNat = 9 ∨ c.toNat = 13 ∨ c.toNat = 35 := by unfold startT at hs; omega
    have e : ∀ d : UInt8, c.toNat = d.toNat → c = d := fun d hd => UInt8.toNat_inj.1 hd
    have key : ∀ d : UInt8, (d = 10 ∨ d = 32 ∨ d = 9 ∨ d = 13 ∨ d = 35) → ∀ r, ∃ e, rd (d :: r) = .err e := by
      intro d hd r
      have h1 : pL d = false := by rcases hd with rfl | rfl | rfl | rfl | rfl <;> decide
      have h2 : pD d = false := by rcases hd with rfl | rfl | rfl | rfl | rfl <;> decide
      have h3 : markL (d :: r) = 1 := by
        cases r with
        | nil => rfl
        | cons b r =>
          have h0 : d.toNat ≠ 60 ∧ d.toNat ≠ 62 ∧ d.toNat ≠ 124 ∧ d.toNat ≠ 38 ∧ d.toNat ≠ 61 ∧ d.toNat ≠ 33 := by rcases hd with rfl | rfl | rfl | rfl | rfl <;> decide
          show (if (d.toNat = 60 ∨ d.toNat = 62 ∨ d.toNat = 124 ∨ d.toNat = 38) ∧ b.toNat = d.toNat then 2 else if (d.toNat = 60 ∨ d.toNat = 62 ∨ d.toNat = 61 ∨ d.toNat = 33) ∧ b.toNat = 61 then 2 else 1) = 1
          rw [if_neg (by omega), if_neg (by omega)]
      have h4 : markK [d] = 0 := by rcases hd with rfl | rfl | rfl | rfl | rfl <;> decide +kernel
      refine ⟨31, ?_⟩
      unfold rd
      rw [if_neg (by show ¬ pL d = true; rw [h1]; decide), if_neg (by show ¬ pD d = true; rw [h2]; decide)]
      dsimp only
      rw [h3]
      show (if markK [d] = 0 then Rd.err 31 else .ok (markK [d]) [d] 0) = _
      rw [if_pos h4]
    obtain ⟨e', he⟩ := key c (by
      rcases hc with h | h | h | h | h
      · exact .inl (e 10 h)
      · exact .inr (.inl (e 32 h))
      · exact .inr (.inr (.inl (e 9 h)))
      · exact .inr (.inr (.inr (.inl (e 13 h))))
      · exact .inr (.inr (.inr (.inr (e 35 h))))) r
    rw [he] at h
    cases h
theorem spl_ne : (List.range 60).all (fun w => !(spl (kind60 w)).isEmpty) = true := by decide +kernel
theorem name_ne : name8.all (fun t => !t.isEmpty) = true := by decide +kernel
theorem text_ne (w num : Nat) (hw : w < 72) : (tok72 w num).2.1 ≠ [] := by
  unfold tok72
  by_cases h1 : w < 60
  · rw [if_pos h1]
    have h := List.all_eq_true.1 spl_ne w (List.mem_range.2 h1)
    intro e
    rw [show spl (kind60 w) = [] from e] at h
    cases h
  · rw [if_neg h1]
    by_cases h2 : w < 68
    · rw [if_pos h2]
      have hlt : w - 60 < name8.length := by show w - 60 < 8; omega
      have h := List.all_eq_true.1 name_ne _ (List.getElem_mem hlt)
      intro e
      have e' : name8[w - 60] = [] := by
        have : (name8[w - 60]?).getD [] = [] := e
        rwa [List.getElem?_eq_getElem hlt] at this
      rw [e'] at h
      cases h
    · rw [if_neg h2]
      intro e
      have : dec num (w - 68) = [] := e
      unfold dec at this
      simp at this
/-- WHATEVER TOKENS STAND ONE BEHIND THE OTHER ARE READ AS JUST THESE -/
theorem scan_made : ∀ (ps : List Pk), (∀ q ∈ ps, q.ok) → ∀ l c cnt, cnt + ps.length < 16384 → scan (madeT ps) l c cnt = (madeL ps l c, none)
  | [], _, l, c, cnt, _ => scan_nil _ _ _
  | q :: r, h, l, c, cnt, hcnt => by
    have hq := h q (by simp)
    have hr := fun q' hq' => h q' (List.mem_cons_of_mem _ hq')
    have hrd := rd_tok q.w q.num hq.1 hq.2.2 (madeT r) (made_rest r hr)
    show scan (gapB q.g ++ (q.text ++ madeT r)) l c cnt = _
    rw [scan_gap q.g hq.2.1]
    have hrd' : rd (q.text ++ madeT r) = .ok (tok72 q.w q.num).1 q.text (tok72 q.w q.num).2.2 := hrd
    cases hx : q.text ++ madeT r with
    | nil => exact absurd (List.append_eq_nil_iff.1 hx).1 (text_ne q.w q.num hq.1)
    | cons ch rest =>
      rw [hx] at hrd'
      have hst := rd_startT _ _ _ _ _ hrd'
      rw [scan_ok ch rest _ _ cnt _ _ _ hst hrd' (by simp at hcnt; omega), rd_drop ch rest _ _ _ hrd', ← hx, List.drop_left]
      rw [scan_made r hr _ _ _ (by simp at hcnt; omega)]
      rfl
theorem madeT_app (a : List Pk) (q : Pk) : madeT (a ++ [q]) = madeT a ++ (gapB q.g ++ q.text) := by
  induction a with
  | nil => simp [madeT]
  | cons b a ih => simp [madeT, ih]
theorem madeL_app (q : Pk) : ∀ (a : List Pk) (l c : Nat), madeL (a ++ [q]) l c = madeL a l c ++ [madeTk q (madeE a l c).1 (madeE a l c).2]
  | [], l, c => rfl
  | b :: a, l, c => by
    show madeTk b l c :: madeL (a ++ [q]) _ _ = _
    rw [madeL_app q a]
    rfl
theorem madeE_app (q : Pk) : ∀ (a : List Pk) (l c : Nat), madeE (a ++ [q]) l c = madeP q (madeE a l c).1 (madeE a l c).2
  | [], l, c => rfl
  | b :: a, l, c => madeE_app q a _ _
end Go.Proofs.YtmekcccmnkgodaaGreatDoor
namespace Go.Proofs.YtmekcccmnkgodaaGreatDoor
open Go.ChangeShapes Go.WideShapes Go.ChangeAt Go.RowKit
set_option linter.unusedVariables false
set_option linter.unusedSimpArgs false

/-! ### a token's end hangs on one byte behind it -/
theorem tw_app (p : UInt8 → Bool) (c : UInt8) (x : Bs) : ∀ a : Bs, (a ++ [c]).takeWhile p = a → (a ++ c :: x).takeWhile p = a ∧ p c = false
  | [], h => by
    have hc : p c = false := by
      cases e : p c with
      | false => rfl
      | true => simp [List.takeWhile, e] at h
    simp [List.takeWhile, hc]
  | d :: a, h => by
    rw [List.cons_append, List.takeWhile_cons] at h
    split at h
    · rename_i hd
      injection h with _ h
      obtain ⟨h1, h2⟩ := tw_app p c x a h
      exact ⟨by rw [List.cons_append, List.takeWhile_cons, if_pos hd, h1], h2⟩
    · cases h
theorem markL_leS (s : Bs) : markL s ≤ 2 := by
  unfold markL
  split
  · split
    · omega
    · split <;> omega
  · omega
theorem rd_one (a : Bs) (ha : a ≠ []) (c : UInt8) (x : Bs) (k v : Nat) (h : rd (a ++ [c]) = .ok k a v) : rd (a ++ c :: x) = .ok k a v := by
  obtain ⟨d, r, rfl⟩ : ∃ d r, a = d :: r := by
    cases a with
    | nil => exact absurd rfl ha
    | cons d r => exact ⟨d, r, rfl⟩
  unfold rd at h ⊢
  rw [show headIs pL (d :: r ++ c :: x) = headIs pL (d :: r ++ [c]) from rfl, show headIs pD (d :: r ++ c :: x) = headIs pD (d :: r ++ [c]) from rfl]
  split at h
  · rename_i hL
    rw [if_pos hL]
    dsimp only at h ⊢
    split at h
    · cases h
    · rename_i hl
      injection h with h1 h2 h3
      obtain ⟨e1, _⟩ := tw_app pN c x _ h2
      rw [h2] at hl h1
      rw [e1, if_neg hl, h1, h3]
  · rename_i hL
    rw [if_neg hL]
    split at h
    · rename_i hD
      rw [if_pos hD]
      dsimp only at h ⊢
      split at h
      · cases h
      · rename_i hh
        have ht : (d :: r ++ [c]).takeWhile pD = d :: r := by
          split at h
          · injection h with _ hb _
          · cases h
        obtain ⟨e1, _⟩ := tw_app pD c x _ ht
        have hd1 : (d :: r ++ [c]).drop (d :: r).length = [c] := List.drop_left
        have hd2 : (d :: r ++ c :: x).drop (d :: r).length = c :: x := List.drop_left
        rw [ht, hd1] at hh
        rw [ht] at h
        rw [e1, hd2]
        have : headIs pN (c :: x) = headIs pN [c] := rfl
        rw [this, if_neg hh]
        exact h
    · rename_i hD
      rw [if_neg hD]
      dsimp only at h ⊢
      split at h
      · cases h
      · rename_i hm
        injection h with h1 h2 h3
        have hml : markL (d :: r ++ c :: x) = markL (d :: r ++ [c]) := by
          cases r with
          | nil => rfl
          | cons e r => rfl
        have hle := markL_leS (d :: r ++ [c])
        have hlen : markL (d :: r ++ [c]) = (d :: r).length := by
          have := congrArg List.length h2
          rw [List.length_take, List.length_append] at this
          simp at this ⊢
          omega
        have htk : (d :: r ++ c :: x).take (markL (d :: r ++ c :: x)) = d :: r := by
          rw [hml, hlen]
          exact List.take_left
        rw [h2] at hm h1
        rw [htk, if_neg hm, h1, h3]
theorem rd_one' (a : Bs) (ha : a ≠ []) (c : UInt8) (x : Bs) (k v : Nat) (h : rd (a ++ c :: x) = .ok k a v) : rd (a ++ [c]) = .ok k a v ∧ rd a = .ok k a v := by
  have hp : 1 ≤ a.length := List.length_pos_iff.2 ha
  have h1 := rd_take (a ++ c :: x) k v a (a.length + 1) h (by omega) (by omega)
  have h2 := rd_take (a ++ c :: x) k v a a.length h (Nat.le_refl _) hp
  rw [take_app] at h1
  rw [show a.length = a.length + 0 from rfl, take_app] at h2
  exact ⟨by simpa using h1, by simpa using h2⟩
/-! ### a token that stands alone -/
theorem scan_short : ∀ (n : Nat) (s : Bs) (l c cnt : Nat), s.length ≤ n → ∀ t ∈ (scan s l c cnt).1, t.text.length ≤ s.length := by
  intro n
  induction n with
  | zero =>
    intro s l c cnt hs t ht
    obtain rfl : s = [] := List.eq_nil_of_length_eq_zero (by omega)
    rw [scan_nil] at ht
    cases ht
  | succ n ih =>
    intro s l c cnt hs t ht
    cases s with
    | nil =>
      rw [scan_nil] at ht
      cases ht
    | cons x r =>
      simp only [List.length_cons] at hs ⊢
      by_cases h1 : x.toNat = 10
      · rw [scan_nl _ _ _ _ _ h1] at ht
        have := ih r _ _ _ (by omega) t ht
        omega
      · by_cases h2 : x.toNat = 32 ∨ x.toNat = 9 ∨ x.toNat = 13
        · rw [scan_bl _ _ _ _ _ h2] at ht
          have := ih r _ _ _ (by omega) t ht
          omega
        · by_cases h3 : x.toNat = 35
          · rw [scan_cm _ _ _ _ _ h3] at ht
            have := ih _ _ _ _ (by rw [List.length_drop]; omega) t ht
            rw [List.length_drop] at this
            omega
          · have hst : startT x := ⟨h1, fun e => h2 (.inl e), fun e => h2 (.inr (.inl e)), fun e => h2 (.inr (.inr e)), h3⟩
            cases hr : rd (x :: r) with
            | err e =>
              rw [scan_er _ _ _ _ _ _ hst hr] at ht
              cases ht
            | ok k u v =>
              by_cases hc : cnt = 16384
              · subst hc
                rw [scan_full _ _ _ _ _ _ _ hst hr] at ht
                cases ht
              · rw [scan_ok _ _ _ _ _ _ _ _ hst hr hc] at ht
                rcases List.mem_cons.1 ht with rfl | ht
                · have := rd_len _ _ _ _ _ hr
                  simpa using this
                · have := ih _ _ _ _ (by rw [List.length_drop]; omega) t ht
                  rw [List.length_drop] at this
                  omega
def alike (a b : Tk) : Bool := decide (a.kind = b.kind) && (decide (a.text = b.text) && decide (a.num = b.num))
/-- does the token's text read as just this token? -/
def alB (t : Tk) : Bool := match scanT t.text with
  | ([x], none) => alike x t
  | _ => false
theorem alB_spec (t : Tk) : alB t = true ↔ t.text.length ≤ 65536 ∧ ∃ (k v : Nat), rd t.text = .ok k t.text v ∧ t.text ≠ [] ∧ (k : Int) = t.kind ∧ v = t.num := by
  unfold alB
  constructor
  · intro h
    have hlen : t.text.length ≤ 65536 := by
      by_cases h1 : t.text.length > 65536
      · unfold scanT at h
        rw [if_pos h1] at h
        simp at h
      · omega
    refine ⟨hlen, ?_⟩
    split at h
    · rename_i x hx
      unfold scanT at hx
      rw [if_neg (by omega)] at hx
      unfold alike at h
      simp only [Bool.and_eq_true, decide_eq_true_eq] at h
      obtain ⟨e1, e2, e3⟩ := h
      cases hs : t.text with
      | nil => rw [hs, scan_nil] at hx; cases hx
      | cons c r =>
        rw [hs] at hx e2
        have bad : ∀ (s : Bs) (l co : Nat), s.length ≤ r.length → scan s l co 0 = ([x], none) → False := fun s l co hl he => by
          have := scan_short s.length s l co 0 (Nat.le_refl _) x (by rw [he]; simp)
          rw [e2] at this
          simp at this
          omega
        by_cases h1 : c.toNat = 10
        · rw [scan_nl _ _ _ _ _ h1] at hx
          exact (bad r _ _ (Nat.le_refl _) hx).elim
        · by_cases h2 : c.toNat = 32 ∨ c.toNat = 9 ∨ c.toNat = 13
          · rw [scan_bl _ _ _ _ _ h2] at hx
            exact (bad r _ _ (Nat.le_refl _) hx).elim
          · by_cases h3 : c.toNat = 35
            · rw [scan_cm _ _ _ _ _ h3] at hx
              exact (bad _ _ _ (by rw [List.length_drop]; omega) hx).elim
            · have hst : startT c := ⟨h1, fun e => h2 (.inl e), fun e => h2 (.inr (.inl e)), fun e => h2 (.inr (.inr e)), h3⟩
              cases hr : rd (c :: r) with
              | err e => rw [scan_er _ _ _ _ _ _ hst hr] at hx; cases hx
              | ok k u v =>
                rw [scan_ok _ _ _ _ _ _ _ _ hst hr (by omega)] at hx
                injection hx with hx _
                injection hx with hx _
                subst hx
                simp only at e1 e2 e3
                subst e2
                exact ⟨k, v, rfl, by simp, e1, e3⟩
    · cases h
  · rintro ⟨hlen, k, v, hr, hne, hk, hv⟩
    cases hs : t.text with
    | nil => exact absurd hs hne
    | cons c r =>
      rw [hs] at hr hlen
      have hst := rd_startT _ _ _ _ _ hr
      have e : scanT (c :: r) = ([⟨k, c :: r, v, 1, 1⟩], none) := by
        unfold scanT
        rw [if_neg (by omega), scan_ok _ _ _ _ _ _ _ _ hst hr (by omega)]
        have : r.drop ((c :: r).length - 1) = [] := by simp
        rw [this, scan_nil]
        rfl
      rw [e]
      unfold alike
      simp [hs, hk, hv]
def rdIs : Rd → Bs → Bool
  | .ok _ u _, a => decide (u = a)
  | .err _, _ => false
/-- may two tokens touch? as the program asks it -/
def tchB (a b : Tk) : Bool := decide (a.text.length + b.text.length ≤ 65536) && rdIs (rd (a.text ++ b.text.take 1)) a.text
/-- as the document asks it -/
def twoB (a b : Tk) : Bool := match scanT (a.text ++ b.text) with
  | ([x, y], none) => alike x a && alike y b
  | _ => false
theorem tch_two (a b : Tk) (ha : alB a = true) (hb : alB b = true) : tchB a b = twoB a b := by
  obtain ⟨la, ka, va, ra, na, ea, fa⟩ := (alB_spec a).1 ha
  obtain ⟨lb, kb, vb, rb, nb, eb, fb⟩ := (alB_spec b).1 hb
  cases hbt : b.text with
  | nil => exact absurd hbt nb
  | cons c x =>
    rw [hbt] at rb lb
    cases hat : a.text with
    | nil => exact absurd hat na
    | cons d y =>
      rw [hat] at ra la
      have hst := rd_startT _ _ _ _ _ ra
      have hsb := rd_startT _ _ _ _ _ rb
      unfold tchB twoB
      rw [hbt, hat]
      by_cases hl : (d :: y).length + (c :: x).length ≤ 65536
      · rw [decide_eq_true hl, Bool.true_and, show (c :: x).take 1 = [c] from rfl]
        have hsc : scanT (d :: y ++ c :: x) = scan (d :: y ++ c :: x) 1 1 0 := by
          unfold scanT
          rw [if_neg (by rw [List.length_append]; omega)]
        rw [hsc]
        cases hr : rd (d :: y ++ c :: x) with
        | err e =>
          have e1 : scan (d :: y ++ c :: x) 1 1 0 = ([], some ⟨e, 1, 1⟩) := scan_er d (y ++ c :: x) 1 1 0 e hst hr
          rw [e1]
          cases hr2 : rd (d :: y ++ [c]) with
          | err e2 => rfl
          | ok k u v =>
            have : ¬ u = d :: y := by
              rintro rfl
              have := rd_one (d :: y) (by simp) c x k v hr2
              rw [hr] at this
              cases this
            show decide (u = d :: y) = false
            simpa using this
        | ok k u v =>
          have e1 : scan (d :: y ++ c :: x) 1 1 0 = _ := scan_ok d (y ++ c :: x) 1 1 0 k v u hst hr (by omega)
          by_cases hu : u = d :: y
          · subst hu
            obtain ⟨h1, h2⟩ := rd_one' (d :: y) (by simp) c x k v hr
            rw [h1]
            rw [ra] at h2
            injection h2 with h3 _ h4
            have hdr : (y ++ c :: x).drop ((d :: y).length - 1) = c :: x := by simp
            rw [hdr, scan_ok c x 1 (1 + (d :: y).length) (0 + 1) kb vb _ hsb rb (by omega)] at e1
            have hdr2 : x.drop ((c :: x).length - 1) = [] := by simp
            rw [hdr2, scan_nil] at e1
            rw [e1]
            unfold alike
            simp [rdIs, hat, hbt, ← h3, ← h4, ea, fa, eb, fb]
          · have hno : ∀ k2 u2 v2, rd (d :: y ++ [c]) = .ok k2 u2 v2 → ¬ u2 = d :: y := by
              rintro k2 u2 v2 h2 rfl
              have := rd_one (d :: y) (by simp) c x k2 v2 h2
              rw [hr] at this
              injection this with _ h3 _
              exact hu h3
            have hL : rdIs (rd (d :: y ++ [c])) (d :: y) = false := by
              cases h2 : rd (d :: y ++ [c]) with
              | err e2 => rfl
              | ok k2 u2 v2 =>
                have := hno k2 u2 v2 h2
                show decide (u2 = d :: y) = false
                simpa using this
            rw [hL, e1]
            split
            · rename_i x1 y1 he
              injection he with he _
              injection he with he _
              subst he
              unfold alike
              simp [hat, hu]
            · rfl
      · rw [decide_eq_false hl, Bool.false_and]
        have hsc : scanT (d :: y ++ c :: x) = ([], some ⟨30, 1, 1⟩) := by
          unfold scanT
          rw [if_pos (by rw [List.length_append]; omega)]
        rw [hsc]
end Go.Proofs.YtmekcccmnkgodaaGreatDoor
