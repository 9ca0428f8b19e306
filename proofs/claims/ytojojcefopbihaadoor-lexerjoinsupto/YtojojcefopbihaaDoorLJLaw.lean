import Derived.Test.YtojojcefopbihaaDoorLAwake
import Derived.Test.YtojojcefopbihaaDoorLJoin
import Derived.Test.YtojojcefopbihaaDoorLSee
import Derived.Test.YtojojcefopbihaaDoorLRef
namespace Go.Proofs.YtojojcefopbihaaDoor
open Go.ChangeShapes Go.WideShapes Go.ChangeAt Go.RowKit
set_option linter.unusedVariables false

theorem nls_take (s : Bs) (i : Nat) (h : i < s.length) : nls (s.take (i + 1)) = nls (s.take i) + (if s[i] = 10 then 1 else 0) := by
  rw [List.take_add_one, List.getElem?_eq_getElem h, nls_append]
  congr 1
  show nls [s[i]] = _
  rw [nls_cons]
  simp [nls]
theorem nls_le (s : Bs) : nls s ≤ s.length := List.length_filter_le _ _

set_option maxRecDepth 100000 in
theorem lines_any (s : Bs) (hl : s.length ≤ 16000) (w : World) :
    Calls Tryd.prog 19 #[.string ⟨s.toArray⟩] w fun e w' => e = .returned (.int .i64 (nls s)) ∧ w' = w := by
  have hsz : (⟨s.toArray⟩ : ByteArray).size = s.length := by simp [ByteArray.size]
  have hfin : Hid (nls (s.take s.length) = nls s) := by show _ = _; rw [List.take_length]
  go_enter Tryd.func19, Tryd.ntmps19
  go_wp2
  go_loop [3, 4] (fun v3 v4 => ∃ i : Nat, v3 = .int .i64 (nls (s.take i)) ∧ v4 = .int .i64 i ∧ i ≤ s.length) (fun _ v4 => s.length - (intOf v4).toNat)
  case atStart => exact ⟨0, rfl, rfl, Nat.zero_le _⟩
  case round =>
    obtain ⟨i, rfl, rfl, hi⟩ := hrel
    by_cases hlt : i < s.length
    · have hltb : i < (⟨s.toArray⟩ : ByteArray).size := by omega
      have hst := nls_take s i hlt
      have hle : nls (s.take i) ≤ 16000 := Nat.le_trans (nls_le _) (by simp; omega)
      obtain ⟨c, hc⟩ : ∃ c, s[i] = c := ⟨_, rfl⟩
      have hg : ((⟨s.toArray⟩ : ByteArray)[i]'hltb) = c := by rw [← hc]; rfl
      rw [hc] at hst
      have dl : decide ((i : Int) < s.length) = true := decide_eq_true (by omega)
      by_cases h10 : c.toNat = 10
      · have e1 : ((c.toNat : Int) == 10) = true := by simp; omega
        have hc10 : c = 10 := UInt8.toNat_inj.1 (by rw [h10]; rfl)
        rw [if_pos hc10] at hst
        have HS : Hid ((nls (s.take i) : Int) + 1 = (nls (s.take (i + 1)) : Int)) := by show _ = _; rw [hst]; rfl
        clear hst hc hc10 h10
        generalize nls (s.take i) = m at *
        go_wp2
        exact ⟨⟨i + 1, congrArg (Value.int .i64) HS.out, rfl, hlt⟩, meas hlt⟩
      · have e1 : ((c.toNat : Int) == 10) = false := by simp; omega
        rw [if_neg (u8_10 h10)] at hst
        have HS : Hid ((nls (s.take i) : Int) = (nls (s.take (i + 1)) : Int)) := by show _ = _; rw [hst]; rfl
        clear hst hc h10
        generalize nls (s.take i) = m at *
        go_wp2
        exact ⟨⟨i + 1, congrArg (Value.int .i64) HS.out, rfl, hlt⟩, meas hlt⟩
    · have dl : decide ((i : Int) < s.length) = false := decide_eq_false (by omega)
      obtain rfl : i = s.length := by omega
      go_wp2
      go_ret
      exact ⟨rfl, rfl⟩

theorem scan_toks_le (s : Bs) (line col cnt : Nat) : (scan s line col cnt).1.length ≤ s.length := by
  fun_induction scan s line col cnt with
  | case1 => simp
  | case2 line col cnt c r hc ih => simp; omega
  | case3 line col cnt c r h1 h2 ih => simp; omega
  | case4 line col cnt c r h1 h2 h3 ih => simp at ih ⊢; omega
  | case5 => simp
  | case6 => simp
  | case7 line col cnt c r h1 h2 h3 k t v hrd hne ih =>
    simp at ih ⊢
    omega
theorem scan_err_line (s : Bs) (line col cnt : Nat) (e : Er) (h : (scan s line col cnt).2 = some e) : e.line ≤ line + s.length := by
  fun_induction scan s line col cnt with
  | case1 => cases h
  | case2 line col cnt c r hc ih => have := ih h; simp; omega
  | case3 line col cnt c r h1 h2 ih => have := ih h; simp; omega
  | case4 line col cnt c r h1 h2 h3 ih => have := ih h; simp at this ⊢; omega
  | case5 line col cnt c r h1 h2 h3 e' hrd => cases h; simp
  | case6 => cases h; simp
  | case7 line col cnt c r h1 h2 h3 k t v hrd hne ih => have := ih h; simp at this ⊢; omega
theorem scan_tok_line (s : Bs) (line col cnt : Nat) : ∀ t ∈ (scan s line col cnt).1, 0 ≤ t.line ∧ t.line ≤ line + s.length := by
  fun_induction scan s line col cnt with
  | case1 => simp
  | case2 line col cnt c r hc ih => intro t ht; have := ih t ht; simp; omega
  | case3 line col cnt c r h1 h2 ih => intro t ht; have := ih t ht; simp; omega
  | case4 line col cnt c r h1 h2 h3 ih => intro t ht; have := ih t ht; simp at this ⊢; omega
  | case5 => simp
  | case6 => simp
  | case7 line col cnt c r h1 h2 h3 k t v hrd hne ih =>
    intro x hx
    rcases List.mem_cons.1 hx with rfl | hx
    · simp; omega
    · have := ih x hx; simp at this ⊢; omega
/-- the whole's scan, out of its two parts' -/
theorem scanT_join (a b : Bs) (h : a.length + b.length ≤ 16000) : scanT (a ++ 10 :: b) = match (scanT a).2 with
    | some _ => scanT a
    | none => ((scanT a).1 ++ (scanT b).1.map (downT (nls a + 1)), (scanT b).2.map (downE (nls a + 1))) := by
  rw [scanT_fits _ (by simp; omega), scanT_fits a (by omega), scanT_fits b (by omega), scan_join]
  cases hq : (scan a 1 1 0).2 with
  | some e => rfl
  | none =>
    simp only
    have hl := scan_toks_le a 1 1 0
    have e1 : scan b (1 + nls a + 1) 1 (0 + (scan a 1 1 0).1.length) = scan b (1 + nls a + 1) 1 0 := scan_cnt b _ _ 0 _ (by omega)
    have e2 : 1 + nls a + 1 = 1 + (nls a + 1) := by omega
    rw [e1, e2, scan_down]
theorem cat_eq (a b : Bs) : (⟨a.toArray⟩ ++ ⟨#[10]⟩ ++ ⟨b.toArray⟩ : ByteArray) = ⟨(a ++ 10 :: b).toArray⟩ := by
  apply ByteArray.ext
  simp [ByteArray.data_append]

set_option maxRecDepth 100000 in
set_option maxHeartbeats 4000000 in
theorem law_joins (a b : Bs) (ha1 : a.length ≤ 1048576) (hb1' : b.length ≤ 1048576) (w : World) (g : Gr w) :
    Calls Tryd.prog 8 #[.string ⟨a.toArray⟩, .string ⟨b.toArray⟩] w fun e w' => e = .returned (.bool true) ∧ Below w.heap.size w w' := by
  have ha : a.length ≤ maxLen := Nat.le_trans ha1 (by unfold maxLen; omega)
  have hb : b.length ≤ maxLen := Nat.le_trans hb1' (by unfold maxLen; omega)
  have haz : (⟨a.toArray⟩ : ByteArray).size = a.length := by simp [ByteArray.size]
  have hbz : (⟨b.toArray⟩ : ByteArray).size = b.length := by simp [ByteArray.size]
  by_cases h16 : a.length + b.length ≤ 16000
  · have d0 : decide ((a.length : Int) + b.length > 16000) = false := decide_eq_false (by omega)
    have d1 : decide ((16000 : Int) < (a.length : Int) + b.length) = false := decide_eq_false (by omega)
    have HA : Hid (Calls Tryd.prog 14 #[] w fun e w' => e = .returned (.bool true) ∧ Below w.heap.size w w') := awake_any w g
    have HL : ∀ w', Hid (Calls Tryd.prog 19 #[.string ⟨a.toArray⟩] w' fun e w'' => e = .returned (.int .i64 (nls a)) ∧ w'' = w') := fun w' => lines_any a (by omega) w'
    have hn : nls a ≤ 16000 := Nat.le_trans (nls_le a) (by omega)
    have hj := scanT_join a b h16
    have hcm : (a ++ 10 :: b).length ≤ maxLen := by simp; unfold maxLen; omega
    have HW0 : ∀ w', Below w.heap.size w w' → Calls Tryd.prog 13 #[.string (⟨a.toArray⟩ ++ ⟨#[10]⟩ ++ ⟨b.toArray⟩)] w' (ScanPost (scanT (a ++ 10 :: b)) w') := fun w' h => by rw [cat_eq]; exact scan_any _ hcm w' (g.keep h)
    have HSA0 : ∀ w', Below w.heap.size w w' → Calls Tryd.prog 13 #[.string ⟨a.toArray⟩] w' (ScanPost (scanT a) w') := fun w' h => scan_any _ ha w' (g.keep h)
    have HSB0 : ∀ w', Below w.heap.size w w' → Calls Tryd.prog 13 #[.string ⟨b.toArray⟩] w' (ScanPost (scanT b) w') := fun w' h => scan_any _ hb w' (g.keep h)
    clear ha hb hcm
    cases hA : (scanT a).2 with
    | some ea =>
      rw [hA] at hj
      simp only at hj
      rw [hj] at HW0
      have two : ∀ (s : Value) w', Calls Tryd.prog 13 #[s] w' (ScanPost (scanT a) w') → Calls Tryd.prog 13 #[s] w' fun e w'' => ∃ q, e = .returned (.tuple #[.slice none 0 0, .iface 62 (.pointer (some ⟨q, 0, none⟩))]) ∧ w''.heap[q]? = some (posObj ea.code ea.line ea.col) ∧ Below w'.heap.size w' w'' := fun s w' h => by
        refine h.mono ?_
        rintro e w'' ⟨hb, ⟨hx, _⟩ | ⟨er', q, hx, rfl, hp⟩⟩
        · rw [hA] at hx; cases hx
        · rw [hA] at hx
          cases hx
          exact ⟨q, rfl, hp, hb⟩
      have HW : ∀ w', Below w.heap.size w w' → Hid (Calls Tryd.prog 13 #[.string (⟨a.toArray⟩ ++ ⟨#[10]⟩ ++ ⟨b.toArray⟩)] w' fun e w'' => ∃ q, e = .returned (.tuple #[.slice none 0 0, .iface 62 (.pointer (some ⟨q, 0, none⟩))]) ∧ w''.heap[q]? = some (posObj ea.code ea.line ea.col) ∧ Below w'.heap.size w' w'') := fun w' h => two _ w' (HW0 w' h)
      have HSA : ∀ w', Below w.heap.size w w' → Hid (Calls Tryd.prog 13 #[.string ⟨a.toArray⟩] w' fun e w'' => ∃ q, e = .returned (.tuple #[.slice none 0 0, .iface 62 (.pointer (some ⟨q, 0, none⟩))]) ∧ w''.heap[q]? = some (posObj ea.code ea.line ea.col) ∧ Below w'.heap.size w' w'') := fun w' h => two _ w' (HSA0 w' h)
      have HS : ∀ q w', w'.heap[q]? = some (posObj ea.code ea.line ea.col) → Hid (Calls Tryd.prog 20 #[.iface 62 (.pointer (some ⟨q, 0, none⟩))] w' fun e w'' => e = .returned (.agg #[.int .i64 2, .int .i64 ea.code, .int .i64 ea.line, .int .i64 ea.col, .int .u64 0, .int .i64 0, .int .u64 0]) ∧ Below w'.heap.size w' w'') := fun q w' h => see_pos _ _ _ q w' h
      clear two HW0 HSA0 HSB0 hj hA g
      go_enter Tryd.func8, Tryd.ntmps8
      go_wp2_with (first | (go_at_call 14; (with_reducible refine (HA.out).mono ?_); rintro e w1 ⟨rfl, hb1⟩) | (go_at_call 19; (with_reducible refine ((HL _).out).mono ?_); rintro e w' ⟨rfl, hw⟩; subst w') | (go_at_call 13; (with_reducible refine ((HW _ hb1).out).mono ?_); rintro e w2 ⟨q1, rfl, p1, hb2⟩; clear HW) | (go_at_call 13; (with_reducible refine ((HSA _ (hb1.trans (hb2.mono hb1.size))).out).mono ?_); rintro e w3 ⟨q2, rfl, p2, hb3⟩; have p3 := (hb3.block _ (Array.getElem?_eq_some_iff.1 p1).1).trans p1; clear HSA) | (go_at_call 20; (with_reducible refine ((HS q1 _ p3).out).mono ?_); rintro e w4 ⟨rfl, hb4⟩; have p4 := (hb4.block _ (Array.getElem?_eq_some_iff.1 p2).1).trans p2; clear p3) | (go_at_call 20; (with_reducible refine ((HS q2 _ p4).out).mono ?_); rintro e w5 ⟨rfl, hb5⟩))
      go_ret
      have c2 := hb1.trans (hb2.mono hb1.size)
      have c3 := c2.trans (hb3.mono c2.size)
      have c4 := c3.trans (hb4.mono c3.size)
      exact ⟨by simp, c4.trans (hb5.mono c4.size)⟩
    | none =>
      rw [hA] at hj
      simp only at hj
      have HSA : ∀ w', Below w.heap.size w w' → Hid (Calls Tryd.prog 13 #[.string ⟨a.toArray⟩] w' fun e w'' => ∃ p m c, e = .returned (.tuple #[.slice p m c, .nilIface]) ∧ w''.ownsRow w'.heap.size 33 5 (.slice p m c) (scanT a).1.length (tksCells (scanT a).1) ∧ Below w'.heap.size w' w'') := fun w' h => by
        refine (HSA0 w' h).mono ?_
        rintro e w'' ⟨hb, ⟨_, v, rfl, ho⟩ | ⟨er', q, hx, _⟩⟩
        · obtain ⟨p, m, c, rfl⟩ := own_slice ho
          exact ⟨p, m, c, rfl, ho, hb⟩
        · rw [hA] at hx; cases hx
      cases hB : (scanT b).2 with
      | some eb =>
        rw [hB] at hj
        have hel : eb.line ≤ 16001 := by
          have hB2 := hB
          rw [scanT_fits b (by omega)] at hB2
          have := scan_err_line b 1 1 0 eb hB2
          omega
        have HW : ∀ w', Below w.heap.size w w' → Hid (Calls Tryd.prog 13 #[.string (⟨a.toArray⟩ ++ ⟨#[10]⟩ ++ ⟨b.toArray⟩)] w' fun e w'' => ∃ q, e = .returned (.tuple #[.slice none 0 0, .iface 62 (.pointer (some ⟨q, 0, none⟩))]) ∧ w''.heap[q]? = some (posObj eb.code ((eb.line : Int) + ((nls a : Int) + 1)) eb.col) ∧ Below w'.heap.size w' w'') := fun w' h => by
          refine (HW0 w' h).mono ?_
          rintro e w'' ⟨hb, ⟨hx, _⟩ | ⟨er', q, hx, rfl, hp⟩⟩
          · rw [hj] at hx; cases hx
          · rw [hj] at hx
            cases hx
            exact ⟨q, rfl, hp, hb⟩
        have HSB : ∀ w', Below w.heap.size w w' → Hid (Calls Tryd.prog 13 #[.string ⟨b.toArray⟩] w' fun e w'' => ∃ q, e = .returned (.tuple #[.slice none 0 0, .iface 62 (.pointer (some ⟨q, 0, none⟩))]) ∧ w''.heap[q]? = some (posObj eb.code eb.line eb.col) ∧ Below w'.heap.size w' w'') := fun w' h => by
          refine (HSB0 w' h).mono ?_
          rintro e w'' ⟨hb, ⟨hx, _⟩ | ⟨er', q, hx, rfl, hp⟩⟩
          · rw [hB] at hx; cases hx
          · rw [hB] at hx
            cases hx
            exact ⟨q, rfl, hp, hb⟩
        have HS : ∀ (ln : Int) q w', w'.heap[q]? = some (posObj eb.code ln eb.col) → Hid (Calls Tryd.prog 20 #[.iface 62 (.pointer (some ⟨q, 0, none⟩))] w' fun e w'' => e = .returned (.agg #[.int .i64 2, .int .i64 eb.code, .int .i64 ln, .int .i64 eb.col, .int .u64 0, .int .i64 0, .int .u64 0]) ∧ Below w'.heap.size w' w'') := fun ln q w' h => see_pos _ _ _ q w' h
        clear HW0 HSA0 HSB0 hj hA hB g
        go_enter Tryd.func8, Tryd.ntmps8
        go_wp2_with (first | (go_at_call 14; (with_reducible refine (HA.out).mono ?_); rintro e w1 ⟨rfl, hb1⟩) | (go_at_call 19; (with_reducible refine ((HL _).out).mono ?_); rintro e w' ⟨rfl, hw⟩; subst w') | (go_at_call 13; (with_reducible refine ((HW _ hb1).out).mono ?_); rintro e w2 ⟨q1, rfl, p1, hb2⟩; have c2 := hb1.trans (hb2.mono hb1.size); clear HW) | (go_at_call 13; (with_reducible refine ((HSA _ c2).out).mono ?_); rintro e w3 ⟨pa, ma, ca, rfl, oa, hb3⟩; have p3 := (hb3.block _ (Array.getElem?_eq_some_iff.1 p1).1).trans p1; have c3 := c2.trans (hb3.mono c2.size); clear HSA p1) | (go_at_call 13; (with_reducible refine ((HSB _ c3).out).mono ?_); rintro e w4 ⟨q2, rfl, p4, hb4⟩; have p5 := (hb4.block _ (Array.getElem?_eq_some_iff.1 p3).1).trans p3; have c4 := c3.trans (hb4.mono c3.size); clear HSB p3) | (go_at_call 20; (with_reducible refine ((HS _ q2 _ p4).out).mono ?_); rintro e w5 ⟨rfl, hb5⟩; have p6 := (hb5.block _ (Array.getElem?_eq_some_iff.1 p5).1).trans p5; have c5 := c4.trans (hb5.mono c4.size); clear p4 p5))
        have hgX := World.alloc_heap_new w5 (.cells #[.int .i64 2, .int .i64 eb.code, .int .i64 ((eb.line : Int) + ((nls a : Int) + 1)), .int .i64 eb.col, .int .u64 0, .int .i64 0, .int .u64 0] 48)
        have p7 : ((w5.alloc (.cells #[.int .i64 2, .int .i64 eb.code, .int .i64 ((eb.line : Int) + ((nls a : Int) + 1)), .int .i64 eb.col, .int .u64 0, .int .i64 0, .int .u64 0] 48)).drew).heap[q1]? = some (posObj eb.code ((eb.line : Int) + ((nls a : Int) + 1)) eb.col) := (Below.heap_alloc w5 _ q1 (Array.getElem?_eq_some_iff.1 p6).1).trans p6
        go_region_with (go_at_call 20; (with_reducible refine ((HS _ q1 _ p7).out).mono ?_); rintro e w6 ⟨rfl, hb6⟩; have hg6 := (hb6.block w5.heap.size (by simp [World.drew])).trans hgX; obtain ⟨⟨k0, k1, k2, k3, k4, k5, k6⟩, _⟩ := cells7 hg6)
        all_goals go_wp2
        all_goals go_ret
        all_goals (refine ⟨by simp [Act.put], ?_⟩)
        all_goals exact (c5.trans ((Below.refl _ w5).alloc c5.size _)).trans (Below.trans (Below.refl _ _).drew (hb6.mono (by have := c5.size; simp [World.drew]; omega)))
      | none =>
        rw [hB] at hj
        have hlA : (scanT a).1.length ≤ 16000 := by rw [scanT_fits a (by omega)]; exact Nat.le_trans (scan_toks_le a 1 1 0) (by omega)
        have hlB : (scanT b).1.length ≤ 16000 := by rw [scanT_fits b (by omega)]; exact Nat.le_trans (scan_toks_le b 1 1 0) (by omega)
        have hln : ∀ t ∈ (scanT b).1, 0 ≤ t.line ∧ t.line ≤ 16001 := by
          intro t ht
          rw [scanT_fits b (by omega)] at ht
          have := scan_tok_line b 1 1 0 t ht
          omega
        have HSB : ∀ w', Below w.heap.size w w' → Hid (Calls Tryd.prog 13 #[.string ⟨b.toArray⟩] w' fun e w'' => ∃ p m c, e = .returned (.tuple #[.slice p m c, .nilIface]) ∧ w''.ownsRow w'.heap.size 33 5 (.slice p m c) (scanT b).1.length (tksCells (scanT b).1) ∧ Below w'.heap.size w' w'') := fun w' h => by
          refine (HSB0 w' h).mono ?_
          rintro e w'' ⟨hb, ⟨_, v, rfl, ho⟩ | ⟨er', q, hx, _⟩⟩
          · obtain ⟨p, m, c, rfl⟩ := own_slice ho
            exact ⟨p, m, c, rfl, ho, hb⟩
          · rw [hB] at hx; cases hx
        have HW : ∀ w', Below w.heap.size w w' → Hid (Calls Tryd.prog 13 #[.string (⟨a.toArray⟩ ++ ⟨#[10]⟩ ++ ⟨b.toArray⟩)] w' fun e w'' => ∃ p m c, e = .returned (.tuple #[.slice p m c, .nilIface]) ∧ w''.ownsRow w'.heap.size 33 5 (.slice p m c) ((scanT a).1 ++ (scanT b).1.map (downT (nls a + 1))).length (tksCells ((scanT a).1 ++ (scanT b).1.map (downT (nls a + 1)))) ∧ Below w'.heap.size w' w'') := fun w' h => by
          refine (HW0 w' h).mono ?_
          rintro e w'' ⟨hb, ⟨_, v, rfl, ho⟩ | ⟨er', q, hx, _⟩⟩
          · obtain ⟨p, m, c, rfl⟩ := own_slice ho
            rw [hj] at ho
            exact ⟨p, m, c, rfl, ho, hb⟩
          · rw [hj] at hx; cases hx
        clear HW0 HSA0 HSB0 hj hA hB g ha1 hb1'
        generalize (scanT a).1 = la at *
        generalize (scanT b).1 = lb at *
        go_enter Tryd.func8, Tryd.ntmps8
        go_wp2_with (first | (go_at_call 14; (with_reducible refine (HA.out).mono ?_); rintro e w1 ⟨rfl, hb1⟩) | (go_at_call 19; (with_reducible refine ((HL _).out).mono ?_); rintro e w' ⟨rfl, hw⟩; subst w') | (go_at_call 13; (with_reducible refine ((HW _ hb1).out).mono ?_); rintro e w2 ⟨pw, mw, cw, rfl, ow, hb2⟩; have c2 := hb1.trans (hb2.mono hb1.size); have ew := own_len' ow; rw [List.length_append, List.length_map] at ew; subst ew; clear HW) | (go_at_call 13; (with_reducible refine ((HSA _ c2).out).mono ?_); rintro e w3 ⟨pa, ma, ca, rfl, oa, hb3⟩; have c3 := c2.trans (hb3.mono c2.size); have ow3 := own_more' ow hb3; have ea := own_len' oa; subst ea; clear HSA ow) | (go_at_call 13; (with_reducible refine ((HSB _ c3).out).mono ?_); rintro e w4 ⟨pb, mb, cb, rfl, ob, hb4⟩; have c4 := c3.trans (hb4.mono c3.size); have ow4 := own_more' ow3 hb4; have oa4 := own_more' oa hb4; have eb := own_len' ob; subst eb; clear HSB ow3 oa))
        have hlw : (la ++ lb.map (downT (nls a + 1))).length = la.length + lb.length := by simp
        go_loopw [13] (fun v wr => ∃ i : Nat, v = .int .i64 i ∧ i ≤ la.length + lb.length ∧ Below w4.heap.size w4 wr) (fun v _ => la.length + lb.length - (intOf v).toNat)
        case atStart => exact ⟨0, rfl, Nat.zero_le _, Below.refl _ _⟩
        case round =>
          obtain ⟨i, rfl, hi, hbel⟩ := hrel
          by_cases hlt : i < la.length + lb.length
          · obtain ⟨gw, rfl⟩ : ∃ gw, pw = some ⟨gw, 0, none⟩ := own_some ow4 (by omega)
            have rw0 := fun W (h : Below w4.heap.size w4 W) => row_tok (own_more' ow4 h) i (by omega)
            by_cases hia : i < la.length
            · obtain ⟨ga, rfl⟩ : ∃ ga, pa = some ⟨ga, 0, none⟩ := own_some oa4 (by omega)
              have he : (la ++ lb.map (downT (nls a + 1)))[i]'(by omega) = la[i] := List.getElem_append_left hia
              have rw1 := rw0 wr hbel
              rw [he] at rw1
              obtain ⟨x0, x1, x2, x3, x4⟩ := rw1
              obtain ⟨y0, y1, y2, y3, y4⟩ := row_tok (own_more' oa4 hbel) i hia
              have dl : decide ((i : Int) < (la.length : Int) + lb.length) = true := decide_eq_true (by omega)
              have dm : decide ((i : Int) < la.length) = true := decide_eq_true (by omega)
              generalize la[i] = t at *
              clear rw0 ow4 oa4 ob he
              go_wp2
              go_region
              go_wp2
              exact ⟨⟨i + 1, rfl, hlt, hbel.drew⟩, meas hlt⟩
            · obtain ⟨k, rfl⟩ : ∃ k, i = la.length + k := ⟨i - la.length, by omega⟩
              have hk : k < lb.length := by omega
              obtain ⟨gb, rfl⟩ : ∃ gb, pb = some ⟨gb, 0, none⟩ := own_some ob (by omega)
              have he : (la ++ lb.map (downT (nls a + 1)))[la.length + k]'(by omega) = downT (nls a + 1) lb[k] := by
                rw [List.getElem_append_right (by omega), List.getElem_map]
                congr 2
                omega
              have rw1 := fun o => rw0 (wr.alloc o) (hbel.trans ((Below.refl _ wr).alloc hbel.size _))
              rw [he] at rw1
              obtain ⟨y0, y1, y2, y3, y4⟩ := row_tok (own_more' ob hbel) k hk
              have hlk := hln lb[k] (List.getElem_mem hk)
              generalize lb[k] = t at *
              have x0 := fun o => (rw1 o).1
              have x1 := fun o => (rw1 o).2.1
              have x2 := fun o => (rw1 o).2.2.1
              have x3 := fun o => (rw1 o).2.2.2.1
              have x4 := fun o => (rw1 o).2.2.2.2
              simp only [downT] at x0 x1 x2 x3 x4
              have dl : decide ((la.length : Int) + k < (la.length : Int) + lb.length) = true := decide_eq_true (by omega)
              have dm : decide ((la.length : Int) + k < la.length) = false := decide_eq_false (by omega)
              have hkk : (la.length : Int) + k - la.length = k := by omega
              clear rw0 rw1 ow4 oa4 ob he hln
              go_wp2
              go_region
              go_wp2
              refine ⟨⟨la.length + k + 1, rfl, hlt, ?_⟩, meas hlt⟩
              exact (hbel.trans ((Below.refl _ wr).alloc hbel.size _)).drew
          · have dl : decide ((i : Int) < (la.length : Int) + lb.length) = false := decide_eq_false (by omega)
            clear ow4 oa4 ob
            go_wp2
            go_ret
            exact ⟨rfl, c4.trans (hbel.mono c4.size)⟩
  · have d0 : decide ((a.length : Int) + b.length > 16000) = true := decide_eq_true (by omega)
    have d1 : decide ((16000 : Int) < (a.length : Int) + b.length) = true := decide_eq_true (by omega)
    clear g h16 ha hb
    go_enter Tryd.func8, Tryd.ntmps8
    go_wp2
    go_ret
    exact ⟨rfl, Below.refl _ _⟩
end Go.Proofs.YtojojcefopbihaaDoor
