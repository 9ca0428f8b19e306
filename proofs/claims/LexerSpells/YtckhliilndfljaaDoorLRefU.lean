import Derived.Test.YtckhliilndfljaaDoorLRefT
namespace Go.Proofs.YtckhliilndfljaaDoor
open Go.ChangeShapes Go.WideShapes Go.ChangeAt Go.RowKit
set_option linter.unusedVariables false

theorem tw_in (p : UInt8 → Bool) (s : Bs) (n : Nat) (h : n < (s.takeWhile p).length) (h' : n < s.length) : p (s[n]) = true := by
  have h1 : (s.takeWhile p)[n] = s[n] := by
    have := (List.takeWhile_prefix p (l := s)).getElem h
    exact this
  rw [← h1]
  have := List.all_takeWhile (p := p) (l := s)
  exact List.all_eq_true.1 this _ (List.getElem_mem h)
theorem tw_out (p : UInt8 → Bool) : ∀ (s : Bs) (h' : (s.takeWhile p).length < s.length), p (s[(s.takeWhile p).length]) = false
  | [], h => by simp at h
  | c :: r, h => by
    cases hp : p c with
    | true =>
      simp only [List.takeWhile_cons, hp, if_true, List.length_cons, List.getElem_cons_succ] at h ⊢
      exact tw_out p r (by omega)
    | false =>
      simp only [List.takeWhile_cons, hp, Bool.false_eq_true, if_false, List.length_nil, List.getElem_cons_zero]
theorem tw_dig (s : Bs) : ∀ c ∈ s.takeWhile pD, pD c = true := fun c hc => by
  have := List.all_takeWhile (p := pD) (l := s)
  exact List.all_eq_true.1 this c hc
theorem numE_val (t : Bs) (hne : t ≠ []) (hd : ∀ c ∈ t, pD c = true) : numE t = (match valD 0 t with | some u => .ok 2 t u | none => .err 32) := by
  unfold numE
  rw [parse_val t hne hd]
  cases valD 0 t <;> rfl
theorem pN_not (d : UInt8) (h : pD d = false) : pN d = (pL d || ((d.toNat : Int) == 95)) := by
  rw [pN_eq, h]
  simp

set_option maxRecDepth 100000 in
set_option maxHeartbeats 4000000 in
theorem rtoken_num (c : UInt8) (r : Bs) (hc : pL c = false) (hcd : pD c = true) (hl : (c :: r).length ≤ 281474976710656) (w : World) :
    Calls Tryd.prog 38 #[.string ⟨(c :: r).toArray⟩] w fun e w' => e = .returned (rdV (rd (c :: r))) ∧ Below w.heap.size w w' := by
  have hmx : (c :: r).length ≤ maxLen := Nat.le_trans hl (by unfold maxLen; omega)
  rw [rd_num c r hc hcd]
  have hrd : Hid (rdD (c :: r) = if headIs pN ((c :: r).drop ((c :: r).takeWhile pD).length) = true then .err 32 else numE ((c :: r).takeWhile pD)) := rfl
  have hpos := tw_pos pD c r hcd
  have hnum := numE_val ((c :: r).takeWhile pD) (List.length_pos_iff.1 hpos) (tw_dig _)
  have hin := tw_in pD (c :: r)
  have hout := tw_out pD (c :: r)
  have htake : (⟨(c :: r).toArray⟩ : ByteArray).extract 0 ((c :: r).takeWhile pD).length = ⟨((c :: r).takeWhile pD).toArray⟩ := by rw [ext_take, take_tw pD]
  have hTl : ((c :: r).takeWhile pD).length ≤ (c :: r).length := (List.takeWhile_sublist _).length_le
  have HN0 : ∀ w', Calls Tryd.prog 49 #[.string ⟨(c :: r).toArray⟩] w' fun e w'' => e = .returned (.int .i64 (nameL (c :: r))) ∧ w'' = w' := fun w' => rname_any _ hmx w'
  rw [nameL_no c r hc] at HN0
  have HN : ∀ w', Hid (Calls Tryd.prog 49 #[.string ⟨(c :: r).toArray⟩] w' fun e w'' => e = .returned (.int .i64 0) ∧ w'' = w') := HN0
  clear HN0
  have HV0 : ∀ w', Calls Tryd.prog 52 #[.string ⟨((c :: r).takeWhile pD).toArray⟩] w' fun e w'' => e = .returned (valR (valD 0 ((c :: r).takeWhile pD))) ∧ w'' = w' := fun w' => rvalue_any _ (by omega) (tw_dig _) w'
  have hsz : (⟨(c :: r).toArray⟩ : ByteArray).size = (c :: r).length := by simp [ByteArray.size]
  have hhe : ∀ (h : ((c :: r).takeWhile pD).length < (c :: r).length), headIs pN ((c :: r).drop ((c :: r).takeWhile pD).length) = pN ((c :: r)[((c :: r).takeWhile pD).length]) := fun h => by rw [List.drop_eq_getElem_cons h]; rfl
  have hhn : ¬ ((c :: r).takeWhile pD).length < (c :: r).length → headIs pN ((c :: r).drop ((c :: r).takeWhile pD).length) = false := fun h => by rw [List.drop_eq_nil_of_le (by omega)]; rfl
  obtain ⟨H, hH⟩ : ∃ H, headIs pN ((c :: r).drop ((c :: r).takeWhile pD).length) = H := ⟨_, rfl⟩
  rw [hH] at hrd hhe hhn
  clear hH
  generalize (c :: r).takeWhile pD = t at *
  obtain ⟨rr, hrr⟩ : ∃ rr, rdD (c :: r) = rr := ⟨_, rfl⟩
  rw [hrr] at hrd ⊢
  clear hrr
  generalize c :: r = s at *
  obtain ⟨T, hT⟩ : ∃ T, t.length = T := ⟨_, rfl⟩
  rw [hT] at hpos hin htake hTl
  have hout : ∀ (h : T < s.length), pD (s[T]) = false := by subst hT; exact hout
  have hhe : ∀ (h : T < s.length), H = pN (s[T]) := by subst hT; exact hhe
  have hhn : ¬ T < s.length → H = false := by subst hT; exact hhn
  have dT1 : decide ((T : Int) > 0) = true := decide_eq_true (by omega)
  have dT2 : decide ((0 : Int) < T) = true := decide_eq_true (by omega)
  have hg0 := World.alloc_heap_new w (.cells #[.int .i64 0, .string ⟨#[]⟩, .int .u64 0, .int .i64 0, .int .i64 0] 34)
  have hb0 : Below w.heap.size w (w.alloc (.cells #[.int .i64 0, .string ⟨#[]⟩, .int .u64 0, .int .i64 0, .int .i64 0] 34)) := (Below.refl _ w).alloc (Nat.le_refl _) _
  cases hv : valD 0 t with
  | none =>
    have hrv : rr = .err 32 := by rw [hrd.out, hnum, hv]; cases H <;> rfl
    rw [hv] at HV0
    have HV : ∀ w', Hid (Calls Tryd.prog 52 #[.string ⟨t.toArray⟩] w' fun e w'' => e = .returned (.tuple #[.int .u64 0, .bool false]) ∧ w'' = w') := HV0
    rw [hrv]
    clear hrd hnum hhe hhn hrv HV0 hv hT
    by_cases hlen : T < s.length
    · have hx := hout hlen
      obtain ⟨d, hd⟩ : ∃ d, s[T] = d := ⟨_, rfl⟩
      rw [hd] at hx
      have hltT : T < (⟨s.toArray⟩ : ByteArray).size := by omega
      have hgT : ((⟨s.toArray⟩ : ByteArray)[T]'hltT) = d := by rw [← hd]; rfl
      have HX : ∀ w', Hid (Calls Tryd.prog 51 #[.int .u8 d.toNat] w' fun e w'' => e = .returned (.bool false) ∧ w'' = w') := fun w' => by
        have := rdigit_any d w'
        rw [hx] at this
        exact this
      have dl : decide ((T : Int) < s.length) = true := decide_eq_true (by omega)
      clear hout hd hx
      go_enter Tryd.func38, Tryd.ntmps38
      go_wp2_with (go_at_call 49; (with_reducible refine ((HN _).out).mono ?_); rintro e w' ⟨rfl, hw⟩; subst w')
      go_loop [4] (fun v => ∃ n : Nat, v = .int .i64 n ∧ n ≤ T) (fun v => T - (intOf v).toNat)
      case atStart => exact ⟨0, rfl, Nat.zero_le _⟩
      case round =>
        obtain ⟨n, rfl, hn⟩ := hrel
        by_cases hlt : n < T
        · have hns : n < s.length := Nat.lt_of_lt_of_le hlt hTl
          obtain ⟨d, hd, hpd⟩ : ∃ d, s[n] = d ∧ pD d = true := ⟨_, rfl, hin n hlt hns⟩
          have hltb : n < (⟨s.toArray⟩ : ByteArray).size := by omega
          have hgt : ((⟨s.toArray⟩ : ByteArray)[n]'hltb) = d := by rw [← hd]; rfl
          have dd : decide ((n : Int) < s.length) = true := decide_eq_true (by omega)
          have HD : ∀ w', Hid (Calls Tryd.prog 51 #[.int .u8 d.toNat] w' fun e w'' => e = .returned (.bool true) ∧ w'' = w') := fun w' => by
            have := rdigit_any d w'
            rw [hpd] at this
            exact this
          have hwn : wrap64 ((n : Int) + 1) = n + 1 := wrap_succ hmx hns
          clear hin hd
          go_wp2_with (go_at_call 51; (with_reducible refine ((HD _).out).mono ?_); rintro e w' ⟨rfl, hw⟩; subst w')
          first | exact ⟨⟨n + 1, by rw [hwn]; rfl, hlt⟩, by rw [hwn]; exact meas hlt⟩ | exact ⟨⟨n + 1, rfl, hlt⟩, meas hlt⟩
        · obtain rfl : n = T := by omega
          clear hin hn hlt
          go_wp2_with (first | (go_at_call 51; (with_reducible refine ((HX _).out).mono ?_); rintro e w' ⟨rfl, hw⟩; subst w') | (go_at_call 52; (with_reducible refine ((HV _).out).mono ?_); rintro e w' ⟨rfl, hw⟩; subst w') | (refine wpList_store_row rfl _ _ _ rfl w.heap.size #[.int .i64 0, .string ⟨#[]⟩, .int .u64 0, .int .i64 0, .int .i64 0] rfl rfl _ _ hg0 (by kernel_rfl) rfl (by kernel_rfl) ?_; obtain ⟨w9, hw9, hr9, k0, k1, k2, k3, k4, hb9⟩ := row5 hg0 hb0 (Nat.le_refl _) (.int .i64 0) (.string ⟨#[]⟩) (.int .u64 0) (.int .i64 0) (.int .i64 0); rw [hw9]; clear hw9 hg0 hb0))
          refine bodyPost_ret (by simp [results, Tryd.results38, go_sem, k0, k1, k2, k3, k4]; try rfl) rfl ?_
          exact ⟨rfl, hb9⟩
    · have dl : decide ((T : Int) < s.length) = false := decide_eq_false (by omega)
      clear hout
      go_enter Tryd.func38, Tryd.ntmps38
      go_wp2_with (go_at_call 49; (with_reducible refine ((HN _).out).mono ?_); rintro e w' ⟨rfl, hw⟩; subst w')
      go_loop [4] (fun v => ∃ n : Nat, v = .int .i64 n ∧ n ≤ T) (fun v => T - (intOf v).toNat)
      case atStart => exact ⟨0, rfl, Nat.zero_le _⟩
      case round =>
        obtain ⟨n, rfl, hn⟩ := hrel
        by_cases hlt : n < T
        · have hns : n < s.length := Nat.lt_of_lt_of_le hlt hTl
          obtain ⟨d, hd, hpd⟩ : ∃ d, s[n] = d ∧ pD d = true := ⟨_, rfl, hin n hlt hns⟩
          have hltb : n < (⟨s.toArray⟩ : ByteArray).size := by omega
          have hgt : ((⟨s.toArray⟩ : ByteArray)[n]'hltb) = d := by rw [← hd]; rfl
          have dd : decide ((n : Int) < s.length) = true := decide_eq_true (by omega)
          have HD : ∀ w', Hid (Calls Tryd.prog 51 #[.int .u8 d.toNat] w' fun e w'' => e = .returned (.bool true) ∧ w'' = w') := fun w' => by
            have := rdigit_any d w'
            rw [hpd] at this
            exact this
          have hwn : wrap64 ((n : Int) + 1) = n + 1 := wrap_succ hmx hns
          clear hin hd
          go_wp2_with (go_at_call 51; (with_reducible refine ((HD _).out).mono ?_); rintro e w' ⟨rfl, hw⟩; subst w')
          first | exact ⟨⟨n + 1, by rw [hwn]; rfl, hlt⟩, by rw [hwn]; exact meas hlt⟩ | exact ⟨⟨n + 1, rfl, hlt⟩, meas hlt⟩
        · obtain rfl : n = T := by omega
          clear hin hn hlt
          go_wp2_with (first | (go_at_call 52; (with_reducible refine ((HV _).out).mono ?_); rintro e w' ⟨rfl, hw⟩; subst w') | (refine wpList_store_row rfl _ _ _ rfl w.heap.size #[.int .i64 0, .string ⟨#[]⟩, .int .u64 0, .int .i64 0, .int .i64 0] rfl rfl _ _ hg0 (by kernel_rfl) rfl (by kernel_rfl) ?_; obtain ⟨w9, hw9, hr9, k0, k1, k2, k3, k4, hb9⟩ := row5 hg0 hb0 (Nat.le_refl _) (.int .i64 0) (.string ⟨#[]⟩) (.int .u64 0) (.int .i64 0) (.int .i64 0); rw [hw9]; clear hw9 hg0 hb0))
          refine bodyPost_ret (by simp [results, Tryd.results38, go_sem, k0, k1, k2, k3, k4]; try rfl) rfl ?_
          exact ⟨rfl, hb9⟩
  | some u =>
    rw [hv] at HV0
    have HV : ∀ w', Hid (Calls Tryd.prog 52 #[.string ⟨t.toArray⟩] w' fun e w'' => e = .returned (.tuple #[.int .u64 u, .bool true]) ∧ w'' = w') := HV0
    rw [hv] at hnum
    clear HV0 hv hT
    by_cases hlen : T < s.length
    · have hx := hout hlen
      have hH := hhe hlen
      obtain ⟨d, hd⟩ : ∃ d, s[T] = d := ⟨_, rfl⟩
      rw [hd] at hx hH
      rw [pN_not d hx] at hH
      have hltT : T < (⟨s.toArray⟩ : ByteArray).size := by omega
      have hgT : ((⟨s.toArray⟩ : ByteArray)[T]'hltT) = d := by rw [← hd]; rfl
      have HX : ∀ w', Hid (Calls Tryd.prog 51 #[.int .u8 d.toNat] w' fun e w'' => e = .returned (.bool false) ∧ w'' = w') := fun w' => by
        have := rdigit_any d w'
        rw [hx] at this
        exact this
      have HT : ∀ w', Hid (Calls Tryd.prog 53 #[.int .u8 d.toNat] w' fun e w'' => e = .returned (.bool (pL d)) ∧ w'' = w') := fun w' => rletter_any d w'
      have dl : decide ((T : Int) < s.length) = true := decide_eq_true (by omega)
      clear hout hd hx hhe hhn
      generalize pL d = b1 at HT hH
      cases b1 with
      | true =>
        have hrv : rr = .err 32 := by rw [hrd.out, hH]; rfl
        rw [hrv]
        clear hrd hnum hrv hH
        go_enter Tryd.func38, Tryd.ntmps38
        go_wp2_with (go_at_call 49; (with_reducible refine ((HN _).out).mono ?_); rintro e w' ⟨rfl, hw⟩; subst w')
        go_loop [4] (fun v => ∃ n : Nat, v = .int .i64 n ∧ n ≤ T) (fun v => T - (intOf v).toNat)
        case atStart => exact ⟨0, rfl, Nat.zero_le _⟩
        case round =>
          obtain ⟨n, rfl, hn⟩ := hrel
          by_cases hlt : n < T
          · have hns : n < s.length := Nat.lt_of_lt_of_le hlt hTl
            obtain ⟨d, hd, hpd⟩ : ∃ d, s[n] = d ∧ pD d = true := ⟨_, rfl, hin n hlt hns⟩
            have hltb : n < (⟨s.toArray⟩ : ByteArray).size := by omega
            have hgt : ((⟨s.toArray⟩ : ByteArray)[n]'hltb) = d := by rw [← hd]; rfl
            have dd : decide ((n : Int) < s.length) = true := decide_eq_true (by omega)
            have HD : ∀ w', Hid (Calls Tryd.prog 51 #[.int .u8 d.toNat] w' fun e w'' => e = .returned (.bool true) ∧ w'' = w') := fun w' => by
              have := rdigit_any d w'
              rw [hpd] at this
              exact this
            have hwn : wrap64 ((n : Int) + 1) = n + 1 := wrap_succ hmx hns
            clear hin hd
            go_wp2_with (go_at_call 51; (with_reducible refine ((HD _).out).mono ?_); rintro e w' ⟨rfl, hw⟩; subst w')
            first | exact ⟨⟨n + 1, by rw [hwn]; rfl, hlt⟩, by rw [hwn]; exact meas hlt⟩ | exact ⟨⟨n + 1, rfl, hlt⟩, meas hlt⟩
          · obtain rfl : n = T := by omega
            clear hin hn hlt
            go_wp2_with (first | (go_at_call 51; (with_reducible refine ((HX _).out).mono ?_); rintro e w' ⟨rfl, hw⟩; subst w') | (go_at_call 52; (with_reducible refine ((HV _).out).mono ?_); rintro e w' ⟨rfl, hw⟩; subst w') | (go_at_call 53; (with_reducible refine ((HT _).out).mono ?_); rintro e w' ⟨rfl, hw⟩; subst w') | (refine wpList_store_row rfl _ _ _ rfl w.heap.size #[.int .i64 0, .string ⟨#[]⟩, .int .u64 0, .int .i64 0, .int .i64 0] rfl rfl _ _ hg0 (by kernel_rfl) rfl (by kernel_rfl) ?_; obtain ⟨w9, hw9, hr9, k0, k1, k2, k3, k4, hb9⟩ := row5 hg0 hb0 (Nat.le_refl _) (.int .i64 0) (.string ⟨#[]⟩) (.int .u64 0) (.int .i64 0) (.int .i64 0); rw [hw9]; clear hw9 hg0 hb0))
            refine bodyPost_ret (by simp [results, Tryd.results38, go_sem, k0, k1, k2, k3, k4]; try rfl) rfl ?_
            exact ⟨rfl, hb9⟩
      | false =>
        cases h95 : ((d.toNat : Int) == 95) with
        | true =>
          have hrv : rr = .err 32 := by rw [hrd.out, hH, h95]; rfl
          rw [hrv]
          clear hrd hnum hrv hH
          go_enter Tryd.func38, Tryd.ntmps38
          go_wp2_with (go_at_call 49; (with_reducible refine ((HN _).out).mono ?_); rintro e w' ⟨rfl, hw⟩; subst w')
          go_loop [4] (fun v => ∃ n : Nat, v = .int .i64 n ∧ n ≤ T) (fun v => T - (intOf v).toNat)
          case atStart => exact ⟨0, rfl, Nat.zero_le _⟩
          case round =>
            obtain ⟨n, rfl, hn⟩ := hrel
            by_cases hlt : n < T
            · have hns : n < s.length := Nat.lt_of_lt_of_le hlt hTl
              obtain ⟨d, hd, hpd⟩ : ∃ d, s[n] = d ∧ pD d = true := ⟨_, rfl, hin n hlt hns⟩
              have hltb : n < (⟨s.toArray⟩ : ByteArray).size := by omega
              have hgt : ((⟨s.toArray⟩ : ByteArray)[n]'hltb) = d := by rw [← hd]; rfl
              have dd : decide ((n : Int) < s.length) = true := decide_eq_true (by omega)
              have HD : ∀ w', Hid (Calls Tryd.prog 51 #[.int .u8 d.toNat] w' fun e w'' => e = .returned (.bool true) ∧ w'' = w') := fun w' => by
                have := rdigit_any d w'
                rw [hpd] at this
                exact this
              have hwn : wrap64 ((n : Int) + 1) = n + 1 := wrap_succ hmx hns
              clear hin hd
              go_wp2_with (go_at_call 51; (with_reducible refine ((HD _).out).mono ?_); rintro e w' ⟨rfl, hw⟩; subst w')
              first | exact ⟨⟨n + 1, by rw [hwn]; rfl, hlt⟩, by rw [hwn]; exact meas hlt⟩ | exact ⟨⟨n + 1, rfl, hlt⟩, meas hlt⟩
            · obtain rfl : n = T := by omega
              clear hin hn hlt
              go_wp2_with (first | (go_at_call 51; (with_reducible refine ((HX _).out).mono ?_); rintro e w' ⟨rfl, hw⟩; subst w') | (go_at_call 52; (with_reducible refine ((HV _).out).mono ?_); rintro e w' ⟨rfl, hw⟩; subst w') | (go_at_call 53; (with_reducible refine ((HT _).out).mono ?_); rintro e w' ⟨rfl, hw⟩; subst w') | (refine wpList_store_row rfl _ _ _ rfl w.heap.size #[.int .i64 0, .string ⟨#[]⟩, .int .u64 0, .int .i64 0, .int .i64 0] rfl rfl _ _ hg0 (by kernel_rfl) rfl (by kernel_rfl) ?_; obtain ⟨w9, hw9, hr9, k0, k1, k2, k3, k4, hb9⟩ := row5 hg0 hb0 (Nat.le_refl _) (.int .i64 0) (.string ⟨#[]⟩) (.int .u64 0) (.int .i64 0) (.int .i64 0); rw [hw9]; clear hw9 hg0 hb0))
              refine bodyPost_ret (by simp [results, Tryd.results38, go_sem, k0, k1, k2, k3, k4]; try rfl) rfl ?_
              exact ⟨rfl, hb9⟩
        | false =>
          have hrv : rr = .ok 2 t u := by rw [hrd.out, hH, h95, hnum]; rfl
          rw [hrv]
          clear hrd hnum hrv hH
          go_enter Tryd.func38, Tryd.ntmps38
          go_wp2_with (go_at_call 49; (with_reducible refine ((HN _).out).mono ?_); rintro e w' ⟨rfl, hw⟩; subst w')
          go_loop [4] (fun v => ∃ n : Nat, v = .int .i64 n ∧ n ≤ T) (fun v => T - (intOf v).toNat)
          case atStart => exact ⟨0, rfl, Nat.zero_le _⟩
          case round =>
            obtain ⟨n, rfl, hn⟩ := hrel
            by_cases hlt : n < T
            · have hns : n < s.length := Nat.lt_of_lt_of_le hlt hTl
              obtain ⟨d, hd, hpd⟩ : ∃ d, s[n] = d ∧ pD d = true := ⟨_, rfl, hin n hlt hns⟩
              have hltb : n < (⟨s.toArray⟩ : ByteArray).size := by omega
              have hgt : ((⟨s.toArray⟩ : ByteArray)[n]'hltb) = d := by rw [← hd]; rfl
              have dd : decide ((n : Int) < s.length) = true := decide_eq_true (by omega)
              have HD : ∀ w', Hid (Calls Tryd.prog 51 #[.int .u8 d.toNat] w' fun e w'' => e = .returned (.bool true) ∧ w'' = w') := fun w' => by
                have := rdigit_any d w'
                rw [hpd] at this
                exact this
              have hwn : wrap64 ((n : Int) + 1) = n + 1 := wrap_succ hmx hns
              clear hin hd
              go_wp2_with (go_at_call 51; (with_reducible refine ((HD _).out).mono ?_); rintro e w' ⟨rfl, hw⟩; subst w')
              first | exact ⟨⟨n + 1, by rw [hwn]; rfl, hlt⟩, by rw [hwn]; exact meas hlt⟩ | exact ⟨⟨n + 1, rfl, hlt⟩, meas hlt⟩
            · obtain rfl : n = T := by omega
              clear hin hn hlt
              go_wp2_with (first | (go_at_call 51; (with_reducible refine ((HX _).out).mono ?_); rintro e w' ⟨rfl, hw⟩; subst w') | (go_at_call 52; (with_reducible refine ((HV _).out).mono ?_); rintro e w' ⟨rfl, hw⟩; subst w') | (go_at_call 53; (with_reducible refine ((HT _).out).mono ?_); rintro e w' ⟨rfl, hw⟩; subst w') | (refine wpList_store_row rfl _ _ _ rfl w.heap.size #[.int .i64 2, .string ⟨t.toArray⟩, .int .u64 u, .int .i64 0, .int .i64 0] rfl rfl _ _ hg0 (by kernel_rfl) rfl (by kernel_rfl) ?_; obtain ⟨w9, hw9, hr9, k0, k1, k2, k3, k4, hb9⟩ := row5 hg0 hb0 (Nat.le_refl _) (.int .i64 2) (.string ⟨t.toArray⟩) (.int .u64 u) (.int .i64 0) (.int .i64 0); rw [hw9]; clear hw9 hg0 hb0))
              refine bodyPost_ret (by simp [results, Tryd.results38, go_sem, k0, k1, k2, k3, k4]; try rfl) rfl ?_
              exact ⟨rfl, hb9⟩
    · have dl : decide ((T : Int) < s.length) = false := decide_eq_false (by omega)
      have hrv : rr = .ok 2 t u := by rw [hrd.out, hhn hlen, hnum]; rfl
      rw [hrv]
      clear hrd hnum hrv hhe hhn hout
      go_enter Tryd.func38, Tryd.ntmps38
      go_wp2_with (go_at_call 49; (with_reducible refine ((HN _).out).mono ?_); rintro e w' ⟨rfl, hw⟩; subst w')
      go_loop [4] (fun v => ∃ n : Nat, v = .int .i64 n ∧ n ≤ T) (fun v => T - (intOf v).toNat)
      case atStart => exact ⟨0, rfl, Nat.zero_le _⟩
      case round =>
        obtain ⟨n, rfl, hn⟩ := hrel
        by_cases hlt : n < T
        · have hns : n < s.length := Nat.lt_of_lt_of_le hlt hTl
          obtain ⟨d, hd, hpd⟩ : ∃ d, s[n] = d ∧ pD d = true := ⟨_, rfl, hin n hlt hns⟩
          have hltb : n < (⟨s.toArray⟩ : ByteArray).size := by omega
          have hgt : ((⟨s.toArray⟩ : ByteArray)[n]'hltb) = d := by rw [← hd]; rfl
          have dd : decide ((n : Int) < s.length) = true := decide_eq_true (by omega)
          have HD : ∀ w', Hid (Calls Tryd.prog 51 #[.int .u8 d.toNat] w' fun e w'' => e = .returned (.bool true) ∧ w'' = w') := fun w' => by
            have := rdigit_any d w'
            rw [hpd] at this
            exact this
          have hwn : wrap64 ((n : Int) + 1) = n + 1 := wrap_succ hmx hns
          clear hin hd
          go_wp2_with (go_at_call 51; (with_reducible refine ((HD _).out).mono ?_); rintro e w' ⟨rfl, hw⟩; subst w')
          first | exact ⟨⟨n + 1, by rw [hwn]; rfl, hlt⟩, by rw [hwn]; exact meas hlt⟩ | exact ⟨⟨n + 1, rfl, hlt⟩, meas hlt⟩
        · obtain rfl : n = T := by omega
          clear hin hn hlt
          go_wp2_with (first | (go_at_call 52; (with_reducible refine ((HV _).out).mono ?_); rintro e w' ⟨rfl, hw⟩; subst w') | (refine wpList_store_row rfl _ _ _ rfl w.heap.size #[.int .i64 2, .string ⟨t.toArray⟩, .int .u64 u, .int .i64 0, .int .i64 0] rfl rfl _ _ hg0 (by kernel_rfl) rfl (by kernel_rfl) ?_; obtain ⟨w9, hw9, hr9, k0, k1, k2, k3, k4, hb9⟩ := row5 hg0 hb0 (Nat.le_refl _) (.int .i64 2) (.string ⟨t.toArray⟩) (.int .u64 u) (.int .i64 0) (.int .i64 0); rw [hw9]; clear hw9 hg0 hb0))
          refine bodyPost_ret (by simp [results, Tryd.results38, go_sem, k0, k1, k2, k3, k4]; try rfl) rfl ?_
          exact ⟨rfl, hb9⟩

end Go.Proofs.YtckhliilndfljaaDoor
