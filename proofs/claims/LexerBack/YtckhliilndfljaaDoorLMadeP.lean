import Derived.Test.YtckhliilndfljaaDoorLRefV
import Derived.Test.YtckhliilndfljaaDoorLPlace
namespace Go.Proofs.YtckhliilndfljaaDoor
set_option linter.unusedVariables false

/-! ### a text put together of tokens and gaps (LexerMade: the pure part) -/
def gap8 : List Bs := [[32], [9], [10], [13, 10], [32, 32, 10, 10, 32], [35, 32, 105, 102, 32, 40, 255, 32, 35, 10], [35, 10, 9], [32, 13, 32]]
def gapB (k : Nat) : Bs := (gap8[k]?).getD []
def name8 : List Bs := [[97], [90], [105, 102, 50], [83, 101, 101, 100], [120, 95, 49], [111, 110, 95], [105, 102, 102], [97, 98, 99, 100, 101, 102, 103, 104, 105, 106, 107, 108, 109, 110, 111, 112, 113, 114, 115, 116, 117, 118, 119, 120, 121, 122, 65, 66, 67, 68, 95]]
/-- the kind of the w-th word or mark -/
def kind60 (w : Nat) : Nat := if w < 31 then 10 + w else if w < 40 then 50 + (w - 31) else 60 + (w - 40)
/-- a number's digits, none for 0 -/
def digs (n : Nat) : Bs := if n = 0 then [] else digs (n / 10) ++ [UInt8.ofNat (48 + n % 10)]
termination_by n
decreasing_by omega
def dec (n z : Nat) : Bs := List.replicate (z + 1) 48 ++ digs n
/-- kind, text and number of a pick -/
def tok72 (w num : Nat) : Nat × Bs × Nat :=
  if w < 60 then (kind60 w, spl (kind60 w), 0) else if w < 68 then (1, (name8[w - 60]?).getD [], 0) else (2, dec num (w - 68), num)

/-- behind a token: nothing, or what begins a gap -/
def okRest (x : Bs) : Prop := x = [] ∨ ∃ c r, x = c :: r ∧ (c = 32 ∨ c = 9 ∨ c = 10 ∨ c = 13 ∨ c = 35)
theorem okRest_head {p : UInt8 → Bool} (h : p 32 = false ∧ p 9 = false ∧ p 10 = false ∧ p 13 = false ∧ p 35 = false) {x : Bs} (hx : okRest x) : headIs p x = false := by
  rcases hx with rfl | ⟨c, r, rfl, hc⟩
  · rfl
  · rcases hc with rfl | rfl | rfl | rfl | rfl
    · exact h.1
    · exact h.2.1
    · exact h.2.2.1
    · exact h.2.2.2.1
    · exact h.2.2.2.2
theorem tw_stop (p : UInt8 → Bool) (x : Bs) (hx : headIs p x = false) : ∀ t : Bs, (∀ c ∈ t, p c = true) → (t ++ x).takeWhile p = t
  | [], _ => by
    cases x with
    | nil => rfl
    | cons c r => rw [List.nil_append, List.takeWhile_cons, if_neg (by simpa [headIs] using hx)]
  | c :: t, h => by rw [List.cons_append, List.takeWhile_cons, if_pos (h c (by simp)), tw_stop p x hx t (fun d hd => h d (by simp [hd]))]
theorem rest_N {x : Bs} (hx : okRest x) : headIs pN x = false := okRest_head (by decide) hx
theorem rest_D {x : Bs} (hx : okRest x) : headIs pD x = false := okRest_head (by decide) hx

theorem mp_rd_name (c : UInt8) (t x : Bs) (hL : pL c = true) (hN : ∀ d ∈ c :: t, pN d = true) (hl : (c :: t).length ≤ 31) (hx : okRest x) : rd (c :: t ++ x) = .ok (wordK (c :: t)) (c :: t) 0 := by
  have e : (c :: t ++ x).takeWhile pN = c :: t := tw_stop pN x (rest_N hx) (c :: t) hN
  unfold rd
  rw [if_pos (show headIs pL (c :: t ++ x) = true from hL)]
  dsimp only
  rw [e, if_neg (by omega)]
theorem mp_rd_num (c : UInt8) (t x : Bs) (hD : ∀ d ∈ c :: t, pD d = true) (v : Nat) (hv : Lib.parseUintB 64 (c :: t) = .ok v) (hx : okRest x) : rd (c :: t ++ x) = .ok 2 (c :: t) v := by
  have e : (c :: t ++ x).takeWhile pD = c :: t := tw_stop pD x (rest_D hx) (c :: t) hD
  have hd := hD c (by simp)
  have hL : pL c = false := by
    unfold pL isL
    unfold pD isD at hd
    simp only [Bool.and_eq_true, decide_eq_true_eq] at hd
    simp
    omega
  unfold rd
  rw [if_neg (by show ¬ pL c = true; rw [hL]; decide), if_pos (show headIs pD (c :: t ++ x) = true from hd)]
  dsimp only
  rw [e, List.drop_left, if_neg (by rw [rest_N hx]; decide), hv]
/-- a mark: whatever may stand behind it -/
def mkOk (k : Nat) : Bool :=
  match spl k with
  | [c] => !pL c && !pD c && decide (markK [c] = k) && [32, 9, 10, 13, 35].all (fun d => decide (markL [c, d] = 1))
  | [c, d] => !pL c && !pD c && decide (markK [c, d] = k) && decide (markL [c, d] = 2)
  | _ => false
theorem marks_ok : ((List.range 9).map (50 + ·) ++ (List.range 20).map (60 + ·)).all mkOk = true := by decide +kernel
theorem mp_rd_mark (k : Nat) (h : mkOk k = true) (hk : k ≠ 0) (x : Bs) (hx : okRest x) : rd (spl k ++ x) = .ok k (spl k) 0 := by
  unfold mkOk at h
  split at h
  · rename_i c hc
    simp only [Bool.and_eq_true, Bool.not_eq_true', decide_eq_true_eq] at h
    obtain ⟨⟨⟨h1, h2⟩, h3⟩, h4⟩ := h
    have hm : markL ([c] ++ x) = 1 := by
      rcases hx with rfl | ⟨d, r, rfl, hd⟩
      · rfl
      · have h5 := List.all_eq_true.1 h4 d (by rcases hd with rfl | rfl | rfl | rfl | rfl <;> simp)
        exact of_decide_eq_true h5
    rw [hc]
    unfold rd
    rw [if_neg (by show ¬ pL c = true; rw [h1]; decide), if_neg (by show ¬ pD c = true; rw [h2]; decide)]
    dsimp only
    rw [hm]
    show (if markK [c] = 0 then Rd.err 31 else .ok (markK [c]) [c] 0) = _
    rw [h3, if_neg hk]
  · rename_i c d hc
    simp only [Bool.and_eq_true, Bool.not_eq_true', decide_eq_true_eq] at h
    obtain ⟨⟨⟨h1, h2⟩, h3⟩, h4⟩ := h
    have hm : markL ([c, d] ++ x) = 2 := h4
    rw [hc]
    unfold rd
    rw [if_neg (by show ¬ pL c = true; rw [h1]; decide), if_neg (by show ¬ pD c = true; rw [h2]; decide)]
    dsimp only
    rw [hm]
    show (if markK [c, d] = 0 then Rd.err 31 else .ok (markK [c, d]) [c, d] 0) = _
    rw [h3, if_neg hk]
  · cases h

/-! words and names -/
def nmOk (t : Bs) (k : Nat) : Bool := match t with
  | [] => false
  | c :: r => pL c && (c :: r).all pN && decide ((c :: r).length ≤ 31) && decide (wordK (c :: r) = k)
theorem words_ok : ((List.range 31).map (10 + ·)).all (fun k => nmOk (spl k) k) = true := by decide +kernel
theorem names_ok : name8.all (fun t => nmOk t 1) = true := by decide +kernel
theorem rd_nm (t : Bs) (k : Nat) (h : nmOk t k = true) (x : Bs) (hx : okRest x) : rd (t ++ x) = .ok k t 0 := by
  unfold nmOk at h
  split at h
  · cases h
  · rename_i c r
    simp only [Bool.and_eq_true, decide_eq_true_eq] at h
    obtain ⟨⟨⟨h1, h2⟩, h3⟩, h4⟩ := h
    rw [← h4]
    exact mp_rd_name c r x h1 (fun d hd => List.all_eq_true.1 h2 d hd) h3 hx

/-! numbers -/
theorem digs_D (n : Nat) : ∀ c ∈ digs n, pD c = true := by
  fun_induction digs n with
  | case1 => intro c hc; cases hc
  | case2 n hn ih =>
    intro c hc
    rcases List.mem_append.1 hc with h | h
    · exact ih c h
    · simp only [List.mem_singleton] at h
      subst h
      unfold pD isD
      have : (UInt8.ofNat (48 + n % 10)).toNat = 48 + n % 10 := by
        rw [UInt8.toNat_ofNat']
        omega
      rw [this]
      simp
      omega
theorem valD_app (a b : Bs) : ∀ n, valD n (a ++ b) = (valD n a).bind fun m => valD m b := by
  induction a with
  | nil => intro n; rfl
  | cons c r ih =>
    intro n
    show (if 18446744073709551615 < n * 10 + (c.toNat - 48) then none else valD (n * 10 + (c.toNat - 48)) (r ++ b)) = (if 18446744073709551615 < n * 10 + (c.toNat - 48) then none else valD (n * 10 + (c.toNat - 48)) r).bind fun m => valD m b
    split
    · rfl
    · exact ih _
theorem valD_zero (z : Nat) : valD 0 (List.replicate z 48) = some 0 := by
  induction z with
  | zero => rfl
  | succ z ih =>
    rw [List.replicate_succ]
    unfold valD
    have : (48 : UInt8).toNat = 48 := rfl
    rw [this, if_neg (by omega)]
    simpa using ih
theorem valD_digs (n : Nat) (hn : n < 18446744073709551616) : valD 0 (digs n) = some n := by
  fun_induction digs n with
  | case1 => rfl
  | case2 n h ih =>
    rw [valD_app, ih (by omega)]
    have e : (UInt8.ofNat (48 + n % 10)).toNat = 48 + n % 10 := by
      rw [UInt8.toNat_ofNat']
      omega
    show valD (n / 10) [UInt8.ofNat (48 + n % 10)] = some n
    unfold valD valD
    rw [e, if_neg (by omega)]
    congr 1
    omega
theorem dec_val (n z : Nat) (hn : n < 18446744073709551616) : Lib.parseUintB 64 (dec n z) = .ok n := by
  rw [parse_val (dec n z) (by unfold dec; simp) (fun c hc => ?_)]
  · unfold dec
    rw [valD_app, valD_zero]
    show valE (valD 0 (digs n)) = _
    rw [valD_digs n hn]
    rfl
  · rcases List.mem_append.1 hc with h | h
    · rw [List.eq_of_mem_replicate h]; decide
    · exact digs_D n c h
theorem dec_D (n z : Nat) : ∀ c ∈ dec n z, pD c = true := fun c hc => by
  rcases List.mem_append.1 hc with h | h
  · rw [List.eq_of_mem_replicate h]; decide
  · exact digs_D n c h

/-- ANY TOKEN OF THE LANGUAGE IS READ AS ITSELF -/
theorem rd_tok (w num : Nat) (hw : w < 72) (hn : num < 18446744073709551616) (x : Bs) (hx : okRest x) : rd ((tok72 w num).2.1 ++ x) = .ok (tok72 w num).1 (tok72 w num).2.1 (tok72 w num).2.2 := by
  unfold tok72
  by_cases h1 : w < 60
  · rw [if_pos h1]
    unfold kind60
    by_cases h2 : w < 31
    · rw [if_pos h2]
      exact rd_nm _ _ (List.all_eq_true.1 words_ok (10 + w) (List.mem_map.2 ⟨w, List.mem_range.2 h2, rfl⟩)) x hx
    · rw [if_neg h2]
      by_cases h3 : w < 40
      · rw [if_pos h3]
        exact mp_rd_mark _ (List.all_eq_true.1 marks_ok (50 + (w - 31)) (List.mem_append_left _ (List.mem_map.2 ⟨w - 31, List.mem_range.2 (by omega), rfl⟩))) (by omega) x hx
      · rw [if_neg h3]
        exact mp_rd_mark _ (List.all_eq_true.1 marks_ok (60 + (w - 40)) (List.mem_append_right _ (List.mem_map.2 ⟨w - 40, List.mem_range.2 (by omega), rfl⟩))) (by omega) x hx
  · rw [if_neg h1]
    by_cases h2 : w < 68
    · rw [if_pos h2]
      have hlt : w - 60 < name8.length := by show w - 60 < 8; omega
      have e : (name8[w - 60]?).getD [] = name8[w - 60] := by rw [List.getElem?_eq_getElem hlt]; rfl
      rw [e]
      exact rd_nm _ _ (List.all_eq_true.1 names_ok _ (List.getElem_mem hlt)) x hx
    · rw [if_neg h2]
      have hd := dec_D num (w - 68)
      have hv := dec_val num (w - 68) hn
      have hc : dec num (w - 68) = 48 :: (List.replicate (w - 68) 48 ++ digs num) := by unfold dec; rw [List.replicate_succ]; rfl
      rw [hc] at hd hv ⊢
      exact mp_rd_num 48 _ x hd num hv hx

/-! gaps -/
theorem scan_gap (k : Nat) (hk : k < 8) (x : Bs) (l c cnt : Nat) : scan (gapB k ++ x) l c cnt = scan x (pos (gapB k) l c).1 (pos (gapB k) l c).2 cnt := by
  have hC : ∀ (s : Bs) (y : Bs), (∀ d ∈ s, pC d = true) → (s ++ 10 :: y).takeWhile pC = s := fun s y h => tw_stop pC (10 :: y) (show pC 10 = false by decide) s h
  match k, hk with
  | 0, _ => exact scan_bl 32 x l c cnt (by decide)
  | 1, _ => exact scan_bl 9 x l c cnt (by decide)
  | 2, _ => exact scan_nl 10 x l c cnt (by decide)
  | 3, _ =>
    show scan (13 :: 10 :: x) l c cnt = _
    rw [scan_bl 13 _ _ _ _ (by decide), scan_nl 10 _ _ _ _ (by decide)]
    rfl
  | 4, _ =>
    show scan (32 :: 32 :: 10 :: 10 :: 32 :: x) l c cnt = _
    rw [scan_bl 32 _ _ _ _ (by decide), scan_bl 32 _ _ _ _ (by decide), scan_nl 10 _ _ _ _ (by decide), scan_nl 10 _ _ _ _ (by decide), scan_bl 32 _ _ _ _ (by decide)]
    rfl
  | 5, _ =>
    have e := hC [32, 105, 102, 32, 40, 255, 32, 35] x (by decide)
    show scan (35 :: ([32, 105, 102, 32, 40, 255, 32, 35] ++ 10 :: x)) l c cnt = _
    rw [scan_cm 35 _ _ _ _ (by decide), e]
    show scan (10 :: x) l (c + 1 + 8) cnt = _
    rw [scan_nl 10 _ _ _ _ (by decide)]
    rfl
  | 6, _ =>
    have e := hC [] (9 :: x) (by decide)
    show scan (35 :: ([] ++ 10 :: 9 :: x)) l c cnt = _
    rw [scan_cm 35 _ _ _ _ (by decide), e]
    show scan (10 :: 9 :: x) l (c + 1 + 0) cnt = _
    rw [scan_nl 10 _ _ _ _ (by decide), scan_bl 9 _ _ _ _ (by decide)]
    rfl
  | 7, _ =>
    show scan (32 :: 13 :: 32 :: x) l c cnt = _
    rw [scan_bl 32 _ _ _ _ (by decide), scan_bl 13 _ _ _ _ (by decide), scan_bl 32 _ _ _ _ (by decide)]
    rfl
theorem gap_rest (k : Nat) (hk : k < 8) (x : Bs) : okRest (gapB k ++ x) := by
  match k, hk with
  | 0, _ => exact .inr ⟨32, _, rfl, by decide⟩
  | 1, _ => exact .inr ⟨9, _, rfl, by decide⟩
  | 2, _ => exact .inr ⟨10, _, rfl, by decide⟩
  | 3, _ => exact .inr ⟨13, _, rfl, by decide⟩
  | 4, _ => exact .inr ⟨32, _, rfl, by decide⟩
  | 5, _ => exact .inr ⟨35, _, rfl, by decide⟩
  | 6, _ => exact .inr ⟨35, _, rfl, by decide⟩
  | 7, _ => exact .inr ⟨32, _, rfl, by decide⟩

/-- a pick: which token, which gap ahead of it, which number -/
structure Pk where
  w : Nat
  g : Nat
  num : Nat
def Pk.ok (q : Pk) : Prop := q.w < 72 ∧ q.g < 8 ∧ q.num < 18446744073709551616
def Pk.text (q : Pk) : Bs := (tok72 q.w q.num).2.1
def madeT : List Pk → Bs
  | [] => []
  | q :: r => gapB q.g ++ (q.text ++ madeT r)
def madeTk (q : Pk) (l c : Nat) : Tk := ⟨((tok72 q.w q.num).1 : Nat), q.text, (tok72 q.w q.num).2.2, (pos (gapB q.g) l c).1, (pos (gapB q.g) l c).2⟩
def madeP (q : Pk) (l c : Nat) : Nat × Nat := ((pos (gapB q.g) l c).1, (pos (gapB q.g) l c).2 + q.text.length)
def madeL : List Pk → Nat → Nat → List Tk
  | [], _, _ => []
  | q :: r, l, c => madeTk q l c :: madeL r (madeP q l c).1 (madeP q l c).2
def madeE : List Pk → Nat → Nat → Nat × Nat
  | [], l, c => (l, c)
  | q :: r, l, c => madeE r (madeP q l c).1 (madeP q l c).2
theorem made_rest : ∀ ps : List Pk, (∀ q ∈ ps, q.ok) → okRest (madeT ps)
  | [], _ => .inl rfl
  | q :: r, h => gap_rest q.g (h q (by simp)).2.1 _
theorem rd_startT (s : Bs) (k v : Nat) (c : UInt8) (r : Bs) (h : rd (c :: r) = .ok k s v) : startT c := by
  by_cases hs : startT c
  · exact hs
  · exfalso
    have hc : c.toNat = 10 ∨ c.toNat = 32 ∨ c.toNat = 9 ∨ c.toNat = 13 ∨ c.toNat = 35 := by unfold startT at hs; omega
    have e : ∀ d : UInt8, c.toNat = d.toNat → c = d := fun d hd => UInt8.toNat_inj.1 hd
    have key : ∀ d : UInt8, (d = 10 ∨ d = 32 ∨ d = 9 ∨ d = 13 ∨ d = 35) → ∀ r, ∃ e, rd (d :: r) = .err e := by
      intro d hd r
      have h1 : pL d = false := by rcases hd with rfl | rfl | rfl | rfl | rfl <;> decide
      have h2 : pD d = false := by rcases hd with rfl | rfl | rfl | rfl | rfl <;> decide
      have h3 : markL (d :: r) = 1 := by
        cases r with
        | nil => rfl
        | cons b r =>
          have h0 : d.toNat ≠ 60 ∧ d.toNat ≠ 62 ∧ d.toNat ≠ 124 ∧ d.toNat ≠ 38 ∧ d.toNat ≠ 61 ∧ d.toNat ≠ 33 := by rcases hd with rfl | rfl | rfl | rfl | rfl <;> decide
          show (if (d.toNat = 60 ∨ d.toNat = 62 ∨ d.toNat = 124 ∨ d.toNat = 38) ∧ b.toNat = d.toNat then 2 else if (d.toNat = 60 ∨ d.toNat = 62 ∨ d.toNat = 61 ∨ d.toNat = 33) ∧ b.toNat = 61 then 2 else 1) = 1
          rw [if_neg (by omega), if_neg (by omega)]
      have h4 : markK [d] = 0 := by rcases hd with rfl | rfl | rfl | rfl | rfl <;> decide +kernel
      refine ⟨31, ?_⟩
      unfold rd
      rw [if_neg (by show ¬ pL d = true; rw [h1]; decide), if_neg (by show ¬ pD d = true; rw [h2]; decide)]
      dsimp only
      rw [h3]
      show (if markK [d] = 0 then Rd.err 31 else .ok (markK [d]) [d] 0) = _
      rw [if_pos h4]
    obtain ⟨e', he⟩ := key c (by
      rcases hc with h | h | h | h | h
      · exact .inl (e 10 h)
      · exact .inr (.inl (e 32 h))
      · exact .inr (.inr (.inl (e 9 h)))
      · exact .inr (.inr (.inr (.inl (e 13 h))))
      · exact .inr (.inr (.inr (.inr (e 35 h))))) r
    rw [he] at h
    cases h
theorem spl_ne : (List.range 60).all (fun w => !(spl (kind60 w)).isEmpty) = true := by decide +kernel
theorem name_ne : name8.all (fun t => !t.isEmpty) = true := by decide +kernel
theorem text_ne (w num : Nat) (hw : w < 72) : (tok72 w num).2.1 ≠ [] := by
  unfold tok72
  by_cases h1 : w < 60
  · rw [if_pos h1]
    have h := List.all_eq_true.1 spl_ne w (List.mem_range.2 h1)
    intro e
    rw [show spl (kind60 w) = [] from e] at h
    cases h
  · rw [if_neg h1]
    by_cases h2 : w < 68
    · rw [if_pos h2]
      have hlt : w - 60 < name8.length := by show w - 60 < 8; omega
      have h := List.all_eq_true.1 name_ne _ (List.getElem_mem hlt)
      intro e
      have e' : name8[w - 60] = [] := by
        have : (name8[w - 60]?).getD [] = [] := e
        rwa [List.getElem?_eq_getElem hlt] at this
      rw [e'] at h
      cases h
    · rw [if_neg h2]
      intro e
      have : dec num (w - 68) = [] := e
      unfold dec at this
      simp at this
/-- WHATEVER TOKENS STAND ONE BEHIND THE OTHER ARE READ AS JUST THESE -/
theorem scan_made : ∀ (ps : List Pk), (∀ q ∈ ps, q.ok) → ∀ l c cnt, cnt + ps.length < 16384 → scan (madeT ps) l c cnt = (madeL ps l c, none)
  | [], _, l, c, cnt, _ => scan_nil _ _ _
  | q :: r, h, l, c, cnt, hcnt => by
    have hq := h q (by simp)
    have hr := fun q' hq' => h q' (List.mem_cons_of_mem _ hq')
    have hrd := rd_tok q.w q.num hq.1 hq.2.2 (madeT r) (made_rest r hr)
    show scan (gapB q.g ++ (q.text ++ madeT r)) l c cnt = _
    rw [scan_gap q.g hq.2.1]
    have hrd' : rd (q.text ++ madeT r) = .ok (tok72 q.w q.num).1 q.text (tok72 q.w q.num).2.2 := hrd
    cases hx : q.text ++ madeT r with
    | nil => exact absurd (List.append_eq_nil_iff.1 hx).1 (text_ne q.w q.num hq.1)
    | cons ch rest =>
      rw [hx] at hrd'
      have hst := rd_startT _ _ _ _ _ hrd'
      rw [scan_ok ch rest _ _ cnt _ _ _ hst hrd' (by simp at hcnt; omega), rd_drop ch rest _ _ _ hrd', ← hx, List.drop_left]
      rw [scan_made r hr _ _ _ (by simp at hcnt; omega)]
      rfl
theorem madeT_app (a : List Pk) (q : Pk) : madeT (a ++ [q]) = madeT a ++ (gapB q.g ++ q.text) := by
  induction a with
  | nil => simp [madeT]
  | cons b a ih => simp [madeT, ih]
theorem madeL_app (q : Pk) : ∀ (a : List Pk) (l c : Nat), madeL (a ++ [q]) l c = madeL a l c ++ [madeTk q (madeE a l c).1 (madeE a l c).2]
  | [], l, c => rfl
  | b :: a, l, c => by
    show madeTk b l c :: madeL (a ++ [q]) _ _ = _
    rw [madeL_app q a]
    rfl
theorem madeE_app (q : Pk) : ∀ (a : List Pk) (l c : Nat), madeE (a ++ [q]) l c = madeP q (madeE a l c).1 (madeE a l c).2
  | [], l, c => rfl
  | b :: a, l, c => madeE_app q a _ _
end Go.Proofs.YtckhliilndfljaaDoor
