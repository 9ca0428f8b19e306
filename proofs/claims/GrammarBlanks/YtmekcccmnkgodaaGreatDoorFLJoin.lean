import Derived.Test.YtmekcccmnkgodaaGreatDoorFLRange
namespace Go.Proofs.YtmekcccmnkgodaaGreatDoor

/-! ### texts in lines of their own: what a newline behind a text changes -/
theorem tw_nl (p : UInt8 → Bool) (hp : p 10 = false) (b : Bs) : ∀ s : Bs, (s ++ 10 :: b).takeWhile p = s.takeWhile p
  | [] => by simp [hp]
  | c :: r => by
    rw [List.cons_append, List.takeWhile_cons, List.takeWhile_cons, tw_nl p hp b r]
theorem tw_len (p : UInt8 → Bool) (s : Bs) : (s.takeWhile p).length ≤ s.length := (List.takeWhile_sublist _).length_le
theorem headIs_nl (p : UInt8 → Bool) (hp : p 10 = false) (s b : Bs) : headIs p (s ++ 10 :: b) = headIs p s := by
  cases s with
  | nil => exact hp
  | cons c r => rfl
theorem markL_nl (c : UInt8) (r b : Bs) : markL (c :: r ++ 10 :: b) = markL (c :: r) := by
  cases r with
  | nil =>
    show (if (c.toNat = 60 ∨ c.toNat = 62 ∨ c.toNat = 124 ∨ c.toNat = 38) ∧ (10 : UInt8).toNat = c.toNat then 2 else if (c.toNat = 60 ∨ c.toNat = 62 ∨ c.toNat = 61 ∨ c.toNat = 33) ∧ (10 : UInt8).toNat = 61 then 2 else 1) = 1
    have : (10 : UInt8).toNat = 10 := rfl
    rw [this, if_neg (by omega), if_neg (by omega)]
  | cons d r => rfl
theorem rd_nl (c : UInt8) (r b : Bs) : rd (c :: r ++ 10 :: b) = rd (c :: r) := by
  have hN : pN 10 = false := by decide
  have hD : pD 10 = false := by decide
  have hL : pL 10 = false := by decide
  unfold rd
  rw [headIs_nl pL hL, headIs_nl pD hD, tw_nl pN hN, tw_nl pD hD, markL_nl]
  have hle : ((c :: r).takeWhile pD).length ≤ (c :: r).length := tw_len _ _
  dsimp only
  rw [List.drop_append_of_le_length hle, headIs_nl pN hN]
  have hm : markL (c :: r) ≤ (c :: r).length := markL_le _ (by simp)
  rw [List.take_append_of_le_length hm]

/-- tokens so many lines further down -/
def downT (k : Nat) (t : Tk) : Tk := { t with line := t.line + k }
def downE (k : Nat) (e : Er) : Er := { e with line := e.line + k }
theorem scan_down (s : Bs) (line col cnt k : Nat) : scan s (line + k) col cnt = ((scan s line col cnt).1.map (downT k), (scan s line col cnt).2.map (downE k)) := by
  fun_induction scan s line col cnt with
  | case1 line col cnt => rw [scan_nil]; rfl
  | case2 line col cnt c r hc ih =>
    rw [scan_nl c r _ _ _ hc, ← ih]
    congr 1
    omega
  | case3 line col cnt c r h1 h2 ih => rw [scan_bl c r _ _ _ h2, ← ih]
  | case4 line col cnt c r h1 h2 h3 ih => rw [scan_cm c r _ _ _ h3, ← ih]
  | case5 line col cnt c r h1 h2 h3 e hrd => rw [scan_er c r _ _ _ e ⟨h1, by omega, by omega, by omega, h3⟩ hrd]; rfl
  | case6 line col c r h1 h2 h3 k' t v hrd => rw [scan_full c r _ _ k' v t ⟨h1, by omega, by omega, by omega, h3⟩ hrd]; rfl
  | case7 line col cnt c r h1 h2 h3 k' t v hrd hne ih =>
    rw [scan_ok c r _ _ cnt k' v t ⟨h1, by omega, by omega, by omega, h3⟩ hrd hne, ih]
    simp only [List.map_cons, downT]
    congr 2

/-- the count of tokens matters only where it comes to MaxTokens -/
theorem scan_cnt (s : Bs) (line col cnt d : Nat) (h : s.length + cnt + d < 16384) : scan s line col (cnt + d) = scan s line col cnt := by
  fun_induction scan s line col cnt with
  | case1 line col cnt => rw [scan_nil]
  | case2 line col cnt c r hc ih => rw [scan_nl c r _ _ _ hc, ih (by simp at h; omega)]
  | case3 line col cnt c r h1 h2 ih => rw [scan_bl c r _ _ _ h2, ih (by simp at h; omega)]
  | case4 line col cnt c r h1 h2 h3 ih => rw [scan_cm c r _ _ _ h3, ih (by simp at h ⊢; omega)]
  | case5 line col cnt c r h1 h2 h3 e hrd => rw [scan_er c r _ _ _ e ⟨h1, by omega, by omega, by omega, h3⟩ hrd]
  | case6 line col c r h1 h2 h3 k' t v hrd => simp at h; omega
  | case7 line col cnt c r h1 h2 h3 k' t v hrd hne ih =>
    rw [scan_ok c r _ _ _ k' v t ⟨h1, by omega, by omega, by omega, h3⟩ hrd (by simp at h; omega)]
    have e : cnt + d + 1 = cnt + 1 + d := by omega
    rw [e, ih (by simp at h ⊢; omega)]

/-- how many newlines a text has -/
def nls (s : Bs) : Nat := (s.filter (· == 10)).length
theorem nls_cons (c : UInt8) (r : Bs) : nls (c :: r) = (if c = 10 then 1 else 0) + nls r := by
  unfold nls
  rw [List.filter_cons]
  by_cases h : c = 10
  · simp [h]; omega
  · simp [h]
theorem nls_append (a b : Bs) : nls (a ++ b) = nls a + nls b := by unfold nls; simp
theorem nls_none (s : Bs) (h : ∀ c ∈ s, c ≠ 10) : nls s = 0 := by
  unfold nls
  rw [List.length_eq_zero_iff, List.filter_eq_nil_iff]
  intro c hc
  simpa using h c hc
theorem tw_mem (p : UInt8 → Bool) (s : Bs) : ∀ c ∈ s.takeWhile p, p c = true := fun c hc => List.all_eq_true.1 (List.all_takeWhile (p := p) (l := s)) c hc
theorem spl_no : (List.range 80).all (fun k => (spl k).all (· != 10)) = true := by decide +kernel
theorem mkK_spl (t : Bs) : ∀ (n k : Nat), mkK t n k ≠ 0 → k + n ≤ 80 → spl (mkK t n k) = t ∧ mkK t n k < 80
  | 0, _, h, _ => absurd rfl h
  | n + 1, k, h, hk => by
    rw [mkK_eq] at h ⊢
    by_cases he : spl k = t
    · rw [if_pos he]; exact ⟨he, by omega⟩
    · rw [if_neg he] at h ⊢
      exact mkK_spl t n (k + 1) h (by omega)
/-- no token holds a newline -/
theorem rd_no_nl (s : Bs) (k v : Nat) (t : Bs) (h : rd s = .ok k t v) : ∀ c ∈ t, c ≠ 10 := by
  have no : ∀ (p : UInt8 → Bool), p 10 = false → ∀ c, p c = true → c ≠ 10 := fun p hp c hc e => by rw [e, hp] at hc; cases hc
  unfold rd at h
  split at h
  · dsimp only at h
    split at h
    · cases h
    · cases h
      exact fun c hc => no pN (by decide) c (tw_mem pN s c hc)
  · split at h
    · dsimp only at h
      split at h
      · cases h
      · split at h
        · cases h
          exact fun c hc => no pD (by decide) c (tw_mem pD s c hc)
        · cases h
    · dsimp only at h
      split at h
      · cases h
      · rename_i hk
        cases h
        have h1 := mkK_spl (s.take (markL s)) 30 50 hk (by omega)
        intro c hc
        have h2 := List.all_eq_true.1 spl_no _ (List.mem_range.2 h1.2)
        rw [h1.1] at h2
        have := List.all_eq_true.1 h2 c hc
        simpa using this
theorem nls_drop (a : Bs) (n : Nat) (h : ∀ c ∈ a.take n, c ≠ 10) : nls (a.drop n) = nls a := by
  have := nls_append (a.take n) (a.drop n)
  rw [List.take_append_drop, nls_none _ h] at this
  omega
theorem u8_10 {c : UInt8} (h : c.toNat ≠ 10) : c ≠ 10 := fun e => h (by rw [e]; rfl)

/-- TWO TEXTS IN LINES OF THEIR OWN -/
theorem scan_join (a b : Bs) (line col cnt : Nat) : scan (a ++ 10 :: b) line col cnt =
    match (scan a line col cnt).2 with
    | some _ => scan a line col cnt
    | none => ((scan a line col cnt).1 ++ (scan b (line + nls a + 1) 1 (cnt + (scan a line col cnt).1.length)).1, (scan b (line + nls a + 1) 1 (cnt + (scan a line col cnt).1.length)).2) := by
  fun_induction scan a line col cnt with
  | case1 line col cnt =>
    show scan (10 :: b) line col cnt = _
    rw [scan_nl 10 b _ _ _ rfl]
    simp [nls]
  | case2 line col cnt c r hc ih =>
    have e : c = 10 := UInt8.toNat_inj.1 (by rw [hc]; rfl)
    rw [List.cons_append, scan_nl c _ _ _ _ hc, ih, nls_cons, if_pos e]
    have e2 : line + 1 + nls r + 1 = line + (1 + nls r) + 1 := by omega
    rw [e2]
  | case3 line col cnt c r h1 h2 ih =>
    rw [List.cons_append, scan_bl c _ _ _ _ h2, ih, nls_cons, if_neg (u8_10 h1), Nat.zero_add]
  | case4 line col cnt c r h1 h2 h3 ih =>
    have hC : pC 10 = false := by decide
    rw [List.cons_append, scan_cm c _ _ _ _ h3, tw_nl pC hC, List.drop_append_of_le_length (tw_len _ _), ih, nls_cons, if_neg (u8_10 h1), Nat.zero_add]
    have hn : nls (r.drop (r.takeWhile pC).length) = nls r := nls_drop r _ (fun c hc => by
      have ht : r.take (r.takeWhile pC).length = r.takeWhile pC := take_tw pC r
      rw [ht] at hc
      have := tw_mem pC r c hc
      exact u8_10 (by simpa [pC] using this))
    rw [hn]
  | case5 line col cnt c r h1 h2 h3 e hrd =>
    rw [List.cons_append, scan_er c _ _ _ _ e ⟨h1, by omega, by omega, by omega, h3⟩ (by rw [← List.cons_append, rd_nl]; exact hrd)]
  | case6 line col c r h1 h2 h3 k' t v hrd =>
    rw [List.cons_append, scan_full c _ _ _ k' v t ⟨h1, by omega, by omega, by omega, h3⟩ (by rw [← List.cons_append, rd_nl]; exact hrd)]
  | case7 line col cnt c r h1 h2 h3 k' t v hrd hne ih =>
    have hf := rd_front c r k' v t hrd
    have hl := rd_len c r k' v t hrd
    have hle : t.length - 1 ≤ r.length := by simp at hl; omega
    rw [List.cons_append, scan_ok c _ _ _ cnt k' v t ⟨h1, by omega, by omega, by omega, h3⟩ (by rw [← List.cons_append, rd_nl]; exact hrd) hne, List.drop_append_of_le_length hle, ih]
    have hn : nls (r.drop (t.length - 1)) = nls (c :: r) := by
      rw [rd_drop c r k' v t hrd]
      refine nls_drop (c :: r) t.length (fun x hx => ?_)
      obtain ⟨u, hu⟩ := hf.1
      rw [hu, List.take_left] at hx
      exact rd_no_nl _ _ _ _ hrd x hx
    rw [hn]
    cases hq : (scan (r.drop (t.length - 1)) line (col + t.length) (cnt + 1)).2 with
    | none =>
      simp only [List.length_cons, List.cons_append]
      have e3 : cnt + 1 + (scan (r.drop (t.length - 1)) line (col + t.length) (cnt + 1)).1.length = cnt + ((scan (r.drop (t.length - 1)) line (col + t.length) (cnt + 1)).1.length + 1) := by omega
      rw [e3]
    | some e => simp only [hq]
end Go.Proofs.YtmekcccmnkgodaaGreatDoor
