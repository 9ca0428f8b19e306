import Derived.Test.YtckhliilndfljaaDoorLRead
namespace Go.Proofs.YtckhliilndfljaaDoor
open Go.ChangeShapes Go.WideShapes Go.ChangeAt Go.RowKit
set_option linter.unusedVariables false

theorem mkK_eq (t : Bs) : ∀ (n k : Nat), mkK t (n + 1) k = if spl k = t then k else mkK t n (k + 1) := fun _ _ => rfl
set_option maxRecDepth 100000 in
theorem markKind_any (t : Bs) (w : World) (g : Sp w) :
    Calls Tryd.prog 60 #[.string ⟨t.toArray⟩] w fun e w' => e = .returned (.int .i64 (markK t)) ∧ w' = w := by
  go_enter Tryd.func60, Tryd.ntmps60
  go_wp2
  go_loop [3] (fun v => ∃ k n : Nat, v = .int .i64 k ∧ k + n = 80 ∧ 50 ≤ k ∧ Hid (markK t = mkK t n k)) (fun v => 80 - (intOf v).toNat)
  case atStart => exact ⟨50, 30, rfl, rfl, by omega, rfl⟩
  case round =>
    obtain ⟨k, n, rfl, hkn, hk, hinv⟩ := hrel
    cases n with
    | zero =>
      have d0 : decide ((k : Int) ≤ 79) = false := decide_eq_false (by omega)
      have e : Hid (markK t = 0) := by show markK t = 0; rw [hinv.out]; rfl
      clear hinv
      go_wp2
      go_ret
      exact ⟨by rw [e.out]; rfl, rfl⟩
    | succ n =>
      have d0 : decide ((k : Int) ≤ 79) = true := decide_eq_true (by omega)
      have hc := g k (by omega)
      by_cases he : spl k = t
      · have hs : (spl k == t) = true := by simpa using he
        have e : Hid (markK t = k) := by show markK t = k; rw [hinv.out, mkK_eq, if_pos he]
        clear hinv g he
        go_wp2
        go_ret
        exact ⟨by rw [e.out]; rfl, rfl⟩
      · have hs : (spl k == t) = false := by simpa using he
        have e : Hid (markK t = mkK t n (k + 1)) := by show markK t = _; rw [hinv.out, mkK_eq, if_neg he]
        clear hinv g he
        go_wp2
        go_round
        case rel => exact ⟨k + 1, n, by go_num, by omega, by omega, e⟩
        case measure => simp [intOf]; omega

theorem markLength_any (s : Bs) (hl : s.length ≤ maxLen) (hne : s ≠ []) (w : World) :
    Calls Tryd.prog 59 #[.string ⟨s.toArray⟩] w fun e w' => e = .returned (.int .i64 (markL s)) ∧ Below w.heap.size w w' := by
  match s, hne with
  | [c], _ =>
    have e : markL [c] = 1 := rfl
    rw [e]
    go_enter Tryd.func59, Tryd.ntmps59
    go_wp2
    go_ret
    exact ⟨rfl, Below.refl _ _⟩
  | c :: d :: r, _ =>
    have hne1 : (c :: d :: r).length ≠ 1 := by simp
    have hln : 1 < (c :: d :: r).length := by simp
    have hml : markL (c :: d :: r) = if (c.toNat = 60 ∨ c.toNat = 62 ∨ c.toNat = 124 ∨ c.toNat = 38) ∧ d.toNat = c.toNat then 2 else if (c.toNat = 60 ∨ c.toNat = 62 ∨ c.toNat = 61 ∨ c.toNat = 33) ∧ d.toNat = 61 then 2 else 1 := rfl
    obtain ⟨s, hs⟩ : ∃ s, c :: d :: r = s := ⟨_, rfl⟩
    have hs0 : ∀ h, ((⟨s.toArray⟩ : ByteArray)[0]'h) = c := by subst hs; intro h; rfl
    have hs1 : ∀ h, ((⟨s.toArray⟩ : ByteArray)[1]'h) = d := by subst hs; intro h; rfl
    have hsz : (⟨s.toArray⟩ : ByteArray).size = s.length := by simp [ByteArray.size]
    rw [hs] at hl hne1 hln hml ⊢
    clear hs
    have d1 : ((s.length : Int) == 1) = false := by simp; omega
    have e0 : (⟨s.toArray⟩ : ByteArray)[0]'(by omega) = c := hs0 _
    have e1 : (⟨s.toArray⟩ : ByteArray)[1]'(by omega) = d := hs1 _
    clear hs0 hs1
    generalize markL s = m at *
    go_enter Tryd.func59, Tryd.ntmps59
    go_wp2
    all_goals (try (go_region; go_wp2))
    all_goals (try (go_region; go_wp2))
    all_goals go_ret
    all_goals (refine ⟨congrArg (fun x : Int => Ending.returned (Value.int .i64 x)) ?_, by first | exact Below.refl _ _ | exact (Below.refl _ _).drew⟩)
    all_goals (simp only [beq_iff_eq, beq_eq_false_iff_ne, ne_eq] at *)
    all_goals (rw [hml]; split)
    all_goals first | omega | (split <;> omega)

/-- what readMark makes of a text -/
def rdM (s : Bs) : Rd := if markK (s.take (markL s)) = 0 then .err 31 else .ok (markK (s.take (markL s))) (s.take (markL s)) 0

theorem markL_le (s : Bs) (h : s ≠ []) : markL s ≤ s.length := by
  unfold markL
  split
  · split
    · simp
    · split <;> simp
  · exact List.length_pos_iff.2 h

set_option maxRecDepth 100000 in
theorem readMark_any (s : Bs) (hl : s.length ≤ maxLen) (hne : s ≠ []) (w : World) (g : Sp w) :
    Calls Tryd.prog 43 #[.string ⟨s.toArray⟩] w fun e w' => e = .returned (rdV (rdM s)) ∧ Below w.heap.size w w' := by
  have hle := markL_le s hne
  have htake : (⟨s.toArray⟩ : ByteArray).extract 0 (markL s) = ⟨(s.take (markL s)).toArray⟩ := ext_take s _
  have HL : ∀ w', Hid (Calls Tryd.prog 59 #[.string ⟨s.toArray⟩] w' fun e w'' => e = .returned (.int .i64 (markL s)) ∧ Below w'.heap.size w' w'') := fun w' => markLength_any s hl hne w'
  have HK : ∀ w', Below w.heap.size w w' → Hid (Calls Tryd.prog 60 #[.string ⟨(s.take (markL s)).toArray⟩] w' fun e w'' => e = .returned (.int .i64 (markK (s.take (markL s)))) ∧ w'' = w') := fun w' hb => markKind_any _ w' (g.keep hb)
  have hsz : (⟨s.toArray⟩ : ByteArray).size = s.length := by simp [ByteArray.size]
  unfold rdM
  clear g
  generalize s.take (markL s) = t at *
  generalize markL s = m at *
  by_cases h0 : markK t = 0
  · rw [if_pos h0]
    rw [h0] at HK
    go_enter Tryd.func43, Tryd.ntmps43
    go_wp2_with (first | (go_at_call 59; with_reducible refine ((HL _).out).mono ?_; rintro e w' ⟨rfl, hb1⟩; obtain ⟨hg1, hb2⟩ := new_kept hb1; clear hb1) | (go_at_call 60; with_reducible refine ((HK _ hb2).out).mono ?_; rintro e w'' ⟨rfl, hw⟩; subst w'') | (refine wpList_store_row rfl _ _ _ rfl w.heap.size #[.int .i64 0, .string ⟨#[]⟩, .int .u64 0, .int .i64 0, .int .i64 0] rfl rfl _ _ hg1 (by kernel_rfl) rfl (by kernel_rfl) ?_; obtain ⟨w9, hw9, hr9, k0, k1, k2, k3, k4, hb9⟩ := row5 hg1 hb2 (Nat.le_refl _) (.int .i64 0) (.string ⟨#[]⟩) (.int .u64 0) (.int .i64 0) (.int .i64 0); rw [hw9]; clear hw9 hg1 hb2))
    refine bodyPost_ret (by simp [results, Tryd.results43, go_sem, k0, k1, k2, k3, k4]; try rfl) rfl ?_
    exact ⟨rfl, hb9⟩
  · rw [if_neg h0]
    have d0 : ((markK t : Int) == 0) = false := by simp; omega
    go_enter Tryd.func43, Tryd.ntmps43
    go_wp2_with (first | (go_at_call 59; with_reducible refine ((HL _).out).mono ?_; rintro e w' ⟨rfl, hb1⟩; obtain ⟨hg1, hb2⟩ := new_kept hb1; clear hb1) | (go_at_call 60; with_reducible refine ((HK _ hb2).out).mono ?_; rintro e w'' ⟨rfl, hw⟩; subst w'') | (refine wpList_store_row rfl _ _ _ rfl w.heap.size #[.int .i64 (markK t), .string ⟨t.toArray⟩, .int .u64 0, .int .i64 0, .int .i64 0] rfl rfl _ _ hg1 (by kernel_rfl) rfl (by kernel_rfl) ?_; obtain ⟨w9, hw9, hr9, k0, k1, k2, k3, k4, hb9⟩ := row5 hg1 hb2 (Nat.le_refl _) (.int .i64 (markK t)) (.string ⟨t.toArray⟩) (.int .u64 0) (.int .i64 0) (.int .i64 0); rw [hw9]; clear hw9 hg1 hb2))
    refine bodyPost_ret (by simp [results, Tryd.results43, go_sem, k0, k1, k2, k3, k4]; try rfl) rfl ?_
    exact ⟨rfl, hb9⟩

/-- a reading's value: its token's cells and its code -/
def rdC : Rd → Value × Value × Value × Value
  | .err e => (.int .i64 0, .string ⟨#[]⟩, .int .u64 0, .int .i64 e)
  | .ok k t v => (.int .i64 k, .string ⟨t.toArray⟩, .int .u64 v, .int .i64 0)
theorem rdV_eq (r : Rd) : ∃ c0 c1 c2 c5, (∃ z, c0 = .int .i64 z) ∧ (∃ b, c1 = .string b) ∧ (∃ z, c2 = .int .u64 z) ∧ (∃ z, c5 = .int .i64 z) ∧ rdV r = .tuple #[.agg #[c0, c1, c2, .int .i64 0, .int .i64 0], c5] := by
  cases r with
  | err e => exact ⟨_, _, _, _, ⟨0, rfl⟩, ⟨_, rfl⟩, ⟨_, rfl⟩, ⟨_, rfl⟩, rfl⟩
  | ok k t v => exact ⟨_, _, _, _, ⟨_, rfl⟩, ⟨_, rfl⟩, ⟨_, rfl⟩, ⟨_, rfl⟩, rfl⟩
theorem rd_name (c : UInt8) (r : Bs) (h : pL c = true) : rd (c :: r) = rdN (c :: r) := by unfold rd; rw [if_pos (show headIs pL (c :: r) = true from h)]; rfl
theorem rd_num (c : UInt8) (r : Bs) (h : pL c = false) (h2 : pD c = true) : rd (c :: r) = rdD (c :: r) := by
  unfold rd
  rw [if_neg (by rw [show headIs pL (c :: r) = pL c from rfl, h]; simp), if_pos (show headIs pD (c :: r) = true from h2)]
  rfl
theorem rd_mark (c : UInt8) (r : Bs) (h : pL c = false) (h2 : pD c = false) : rd (c :: r) = rdM (c :: r) := by
  unfold rd
  rw [if_neg (by rw [show headIs pL (c :: r) = pL c from rfl, h]; simp), if_neg (by rw [show headIs pD (c :: r) = pD c from rfl, h2]; simp)]
  rfl

set_option maxRecDepth 100000 in
theorem read_any (c : UInt8) (r : Bs) (hl : (c :: r).length ≤ 281474976710656) (w : World) (g : Gr w) :
    Calls Tryd.prog 30 #[.string ⟨(c :: r).toArray⟩] w fun e w' => e = .returned (rdV (rd (c :: r))) ∧ Below w.heap.size w w' := by
  have hmx : (c :: r).length ≤ maxLen := Nat.le_trans hl (by unfold maxLen; omega)
  have hnm := rd_name c r
  have hnu := rd_num c r
  have hma := rd_mark c r
  have hne : c :: r ≠ [] := by simp
  obtain ⟨s, hs⟩ : ∃ s, c :: r = s := ⟨_, rfl⟩
  have hlt : 0 < (⟨s.toArray⟩ : ByteArray).size := by rw [← hs]; simp [ByteArray.size]
  have h0 : ((⟨s.toArray⟩ : ByteArray)[0]'hlt) = c := by subst hs; rfl
  rw [hs] at hl hmx hnm hnu hma hne ⊢
  clear hs
  have hsz : (⟨s.toArray⟩ : ByteArray).size = s.length := by simp [ByteArray.size]
  have hlen : 0 < s.length := by omega
  have H1 : ∀ w', Hid (Calls Tryd.prog 39 #[.int .i32 (c.toNat : Nat)] w' fun e w'' => e = .returned (.bool (pL c)) ∧ w'' = w') := fun w' => isLetter_any c.toNat w'
  have H2 : ∀ w', Hid (Calls Tryd.prog 41 #[.int .i32 (c.toNat : Nat)] w' fun e w'' => e = .returned (.bool (pD c)) ∧ w'' = w') := fun w' => isDigit_any c.toNat w'
  have hw32 : wrap32 (c.toNat : Int) = c.toNat := by have := c.toNat_lt; unfold wrap32; omega
  cases hp : pL c with
  | true =>
    rw [hp] at H1
    have hrd := hnm hp
    clear hnm hnu hma
    have HR0 : ∀ w', Below w.heap.size w w' → Calls Tryd.prog 40 #[.string ⟨s.toArray⟩] w' fun e w'' => e = .returned (rdV (rdN s)) ∧ Below w'.heap.size w' w'' := fun w' hb => readName_any s hmx w' (g.keep hb).sp
    rw [hrd]
    obtain ⟨_, _, _, _, ⟨z0, rfl⟩, ⟨b1, rfl⟩, ⟨z2, rfl⟩, ⟨z5, rfl⟩, hv⟩ := rdV_eq (rdN s)
    rw [hv] at HR0 ⊢
    have HR : ∀ w', Below w.heap.size w w' → Hid (Calls Tryd.prog 40 #[.string ⟨s.toArray⟩] w' fun e w'' => e = .returned (.tuple #[.agg #[.int .i64 z0, .string b1, .int .u64 z2, .int .i64 0, .int .i64 0], .int .i64 z5]) ∧ Below w'.heap.size w' w'') := HR0
    clear HR0 hrd hv g
    go_enter Tryd.func30, Tryd.ntmps30
    go_wp2_with (first | (go_at_call 39; with_reducible refine ((H1 _).out).mono ?_; rintro e w' ⟨rfl, hw⟩; subst w') | (go_at_call 40; with_reducible refine ((HR _ (by first | exact Below.refl _ _ | exact (Below.refl _ w).alloc (Nat.le_refl _) _)).out).mono ?_; rintro e w' ⟨rfl, hb1⟩; obtain ⟨hg1, hb2⟩ := new_kept hb1; clear hb1) | (refine wpList_store_row rfl _ _ _ rfl w.heap.size #[.int .i64 z0, .string b1, .int .u64 z2, .int .i64 0, .int .i64 0] rfl rfl _ _ hg1 (by kernel_rfl) rfl (by kernel_rfl) ?_; obtain ⟨w9, hw9, hr9, k0, k1, k2, k3, k4, hb9⟩ := row5 hg1 hb2 (Nat.le_refl _) (.int .i64 z0) (.string b1) (.int .u64 z2) (.int .i64 0) (.int .i64 0); rw [hw9]; clear hw9 hg1 hb2))
    refine bodyPost_ret (by simp [results, Tryd.results30, go_sem, k0, k1, k2, k3, k4]; try rfl) rfl ?_
    exact ⟨rfl, hb9⟩
  | false =>
    rw [hp] at H1
    cases hd : pD c with
    | true =>
      rw [hd] at H2
      have hrd := hnu hp hd
      clear hnm hnu hma
      have HR0 : ∀ w', Below w.heap.size w w' → Calls Tryd.prog 42 #[.string ⟨s.toArray⟩] w' fun e w'' => e = .returned (rdV (rdD s)) ∧ Below w'.heap.size w' w'' := fun w' hb => readNumber_any s hl w' (g.keep hb)
      rw [hrd]
      obtain ⟨_, _, _, _, ⟨z0, rfl⟩, ⟨b1, rfl⟩, ⟨z2, rfl⟩, ⟨z5, rfl⟩, hv⟩ := rdV_eq (rdD s)
      rw [hv] at HR0 ⊢
      have HR : ∀ w', Below w.heap.size w w' → Hid (Calls Tryd.prog 42 #[.string ⟨s.toArray⟩] w' fun e w'' => e = .returned (.tuple #[.agg #[.int .i64 z0, .string b1, .int .u64 z2, .int .i64 0, .int .i64 0], .int .i64 z5]) ∧ Below w'.heap.size w' w'') := HR0
      clear HR0 hrd hv g
      go_enter Tryd.func30, Tryd.ntmps30
      go_wp2_with (first | (go_at_call 39; with_reducible refine ((H1 _).out).mono ?_; rintro e w' ⟨rfl, hw⟩; subst w') | (go_at_call 41; with_reducible refine ((H2 _).out).mono ?_; rintro e w' ⟨rfl, hw⟩; subst w') | (go_at_call 42; with_reducible refine ((HR _ (by first | exact Below.refl _ _ | exact (Below.refl _ w).alloc (Nat.le_refl _) _)).out).mono ?_; rintro e w' ⟨rfl, hb1⟩; obtain ⟨hg1, hb2⟩ := new_kept hb1; clear hb1) | (refine wpList_store_row rfl _ _ _ rfl w.heap.size #[.int .i64 z0, .string b1, .int .u64 z2, .int .i64 0, .int .i64 0] rfl rfl _ _ hg1 (by kernel_rfl) rfl (by kernel_rfl) ?_; obtain ⟨w9, hw9, hr9, k0, k1, k2, k3, k4, hb9⟩ := row5 hg1 hb2 (Nat.le_refl _) (.int .i64 z0) (.string b1) (.int .u64 z2) (.int .i64 0) (.int .i64 0); rw [hw9]; clear hw9 hg1 hb2))
      refine bodyPost_ret (by simp [results, Tryd.results30, go_sem, k0, k1, k2, k3, k4]; try rfl) rfl ?_
      exact ⟨rfl, hb9⟩
    | false =>
      rw [hd] at H2
      have hrd := hma hp hd
      clear hnm hnu hma
      have HR0 : ∀ w', Below w.heap.size w w' → Calls Tryd.prog 43 #[.string ⟨s.toArray⟩] w' fun e w'' => e = .returned (rdV (rdM s)) ∧ Below w'.heap.size w' w'' := fun w' hb => readMark_any s hmx hne w' (g.keep hb).sp
      rw [hrd]
      obtain ⟨_, _, _, _, ⟨z0, rfl⟩, ⟨b1, rfl⟩, ⟨z2, rfl⟩, ⟨z5, rfl⟩, hv⟩ := rdV_eq (rdM s)
      rw [hv] at HR0 ⊢
      have HR : ∀ w', Below w.heap.size w w' → Hid (Calls Tryd.prog 43 #[.string ⟨s.toArray⟩] w' fun e w'' => e = .returned (.tuple #[.agg #[.int .i64 z0, .string b1, .int .u64 z2, .int .i64 0, .int .i64 0], .int .i64 z5]) ∧ Below w'.heap.size w' w'') := HR0
      clear HR0 hrd hv g
      go_enter Tryd.func30, Tryd.ntmps30
      go_wp2_with (first | (go_at_call 39; with_reducible refine ((H1 _).out).mono ?_; rintro e w' ⟨rfl, hw⟩; subst w') | (go_at_call 41; with_reducible refine ((H2 _).out).mono ?_; rintro e w' ⟨rfl, hw⟩; subst w') | (go_at_call 43; with_reducible refine ((HR _ (by first | exact Below.refl _ _ | exact (Below.refl _ w).alloc (Nat.le_refl _) _)).out).mono ?_; rintro e w' ⟨rfl, hb1⟩; obtain ⟨hg1, hb2⟩ := new_kept hb1; clear hb1) | (refine wpList_store_row rfl _ _ _ rfl w.heap.size #[.int .i64 z0, .string b1, .int .u64 z2, .int .i64 0, .int .i64 0] rfl rfl _ _ hg1 (by kernel_rfl) rfl (by kernel_rfl) ?_; obtain ⟨w9, hw9, hr9, k0, k1, k2, k3, k4, hb9⟩ := row5 hg1 hb2 (Nat.le_refl _) (.int .i64 z0) (.string b1) (.int .u64 z2) (.int .i64 0) (.int .i64 0); rw [hw9]; clear hw9 hg1 hb2))
      refine bodyPost_ret (by simp [results, Tryd.results30, go_sem, k0, k1, k2, k3, k4]; try rfl) rfl ?_
      exact ⟨rfl, hb9⟩

end Go.Proofs.YtckhliilndfljaaDoor
