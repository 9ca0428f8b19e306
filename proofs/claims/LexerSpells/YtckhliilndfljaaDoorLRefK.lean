import Derived.Test.YtckhliilndfljaaDoorLRefU
namespace Go.Proofs.YtckhliilndfljaaDoor
open Go.ChangeShapes Go.WideShapes Go.ChangeAt Go.RowKit
set_option linter.unusedVariables false

theorem markK_range (t : Bs) : ∀ (n k : Nat), mkK t n k = 0 ∨ k ≤ mkK t n k ∧ mkK t n k < k + n
  | 0, k => .inl rfl
  | n + 1, k => by
    rw [mkK_eq]
    by_cases h : spl k = t
    · rw [if_pos h]; omega
    · rw [if_neg h]
      have := markK_range t n (k + 1)
      omega

set_option maxRecDepth 100000 in
set_option maxHeartbeats 4000000 in
theorem rtoken_mark (c : UInt8) (r : Bs) (hc : pL c = false) (hcd : pD c = false) (hl : (c :: r).length ≤ 281474976710656) (w : World) :
    Calls Tryd.prog 38 #[.string ⟨(c :: r).toArray⟩] w fun e w' => e = .returned (rdV (rd (c :: r))) ∧ Below w.heap.size w w' := by
  have hmx : (c :: r).length ≤ maxLen := Nat.le_trans hl (by unfold maxLen; omega)
  rw [rd_mark c r hc hcd]
  have hlng := lngS_eq (c :: r) (by simp)
  have hrange := markK_range ((c :: r).take (markL (c :: r))) 30 50
  have hrd : Hid (rdM (c :: r) = if markK ((c :: r).take (markL (c :: r))) = 0 then .err 31 else .ok (markK ((c :: r).take (markL (c :: r)))) ((c :: r).take (markL (c :: r))) 0) := rfl
  have HN0 : ∀ w', Calls Tryd.prog 49 #[.string ⟨(c :: r).toArray⟩] w' fun e w'' => e = .returned (.int .i64 (nameL (c :: r))) ∧ w'' = w' := fun w' => rname_any _ hmx w'
  rw [nameL_no c r hc] at HN0
  have HN : ∀ w', Hid (Calls Tryd.prog 49 #[.string ⟨(c :: r).toArray⟩] w' fun e w'' => e = .returned (.int .i64 0) ∧ w'' = w') := HN0
  clear HN0
  have HG0 : ∀ w', Calls Tryd.prog 54 #[.string ⟨(c :: r).toArray⟩] w' fun e w'' => e = .returned (.int .i64 (lngS (c :: r))) ∧ Below w'.heap.size w' w'' := fun w' => rlongest_any _ hmx w'
  rw [hlng.1] at HG0
  have hcd2 : pD c = false := hcd
  have HX : ∀ w', Hid (Calls Tryd.prog 51 #[.int .u8 c.toNat] w' fun e w'' => e = .returned (.bool false) ∧ w'' = w') := fun w' => by
    have := rdigit_any c w'
    rw [hcd2] at this
    exact this
  have hsz : (⟨(c :: r).toArray⟩ : ByteArray).size = (c :: r).length := by simp [ByteArray.size]
  have hlt0 : 0 < (⟨(c :: r).toArray⟩ : ByteArray).size := by rw [hsz]; simp
  have h0 : ((⟨(c :: r).toArray⟩ : ByteArray)[0]'hlt0) = c := rfl
  have hlen : 0 < (c :: r).length := by simp
  change markK ((c :: r).take (markL (c :: r))) = 0 ∨ _ ≤ markK ((c :: r).take (markL (c :: r))) ∧ markK ((c :: r).take (markL (c :: r))) < _ at hrange
  generalize (c :: r).take (markL (c :: r)) = t at *
  obtain ⟨rr, hrr⟩ : ∃ rr, rdM (c :: r) = rr := ⟨_, rfl⟩
  rw [hrr] at hrd ⊢
  clear hrr
  generalize hss : c :: r = s at *
  clear hss
  have hg0 := World.alloc_heap_new w (.cells #[.int .i64 0, .string ⟨#[]⟩, .int .u64 0, .int .i64 0, .int .i64 0] 34)
  have hb0 : Below w.heap.size w (w.alloc (.cells #[.int .i64 0, .string ⟨#[]⟩, .int .u64 0, .int .i64 0, .int .i64 0] 34)) := (Below.refl _ w).alloc (Nat.le_refl _) _
  have dl : decide ((0 : Int) < s.length) = true := decide_eq_true (by omega)
  have HG : ∀ w', Hid (Calls Tryd.prog 54 #[.string ⟨s.toArray⟩] w' fun e w'' => e = .returned (.int .i64 (markK t)) ∧ Below w'.heap.size w' w'') := HG0
  clear HG0
  by_cases hk : markK t = 0
  · have hrv : rr = .err 31 := by rw [hrd.out, if_pos hk]
    rw [hrv]
    rw [hk] at HG
    clear hrd hrv hlng hrange
    go_enter Tryd.func38, Tryd.ntmps38
    go_wp2_with (go_at_call 49; (with_reducible refine ((HN _).out).mono ?_); rintro e w' ⟨rfl, hw⟩; subst w')
    go_loop [4] (fun v => v = .int .i64 0) (fun v => 0)
    case atStart => rfl
    case round =>
      obtain rfl := hrel
      go_wp2_with (first | (go_at_call 51; (with_reducible refine ((HX _).out).mono ?_); rintro e w' ⟨rfl, hw⟩; subst w') | (go_at_call 54; (with_reducible refine ((HG _).out).mono ?_); rintro e w1 ⟨rfl, hb1⟩; have hg1 := (hb1.block _ (by simp)).trans hg0; have hb2 := hb0.trans (hb1.mono (by simp)); clear hb1) | (refine wpList_store_row rfl _ _ _ rfl w.heap.size #[.int .i64 0, .string ⟨#[]⟩, .int .u64 0, .int .i64 0, .int .i64 0] rfl rfl _ _ hg1 (by kernel_rfl) rfl (by kernel_rfl) ?_; obtain ⟨w9, hw9, hr9, k0, k1, k2, k3, k4, hb9⟩ := row5 hg1 hb2 (Nat.le_refl _) (.int .i64 0) (.string ⟨#[]⟩) (.int .u64 0) (.int .i64 0) (.int .i64 0); rw [hw9]; clear hw9 hg1 hb2))
      refine bodyPost_ret (by simp [results, Tryd.results38, go_sem, k0, k1, k2, k3, k4]; try rfl) rfl ?_
      exact ⟨rfl, hb9⟩
  · have hrv : rr = .ok (markK t) t 0 := by rw [hrd.out, if_neg hk]
    have hsp : spl (markK t) = t := by rcases hlng.2 with h | h; exact absurd h hk; exact h
    have HM0 : ∀ w', Calls Tryd.prog 55 #[.int .i64 (markK t)] w' fun e w'' => e = .returned (.string ⟨(mkI (markK t)).toArray⟩) ∧ Below w'.heap.size w' w'' := fun w' => rmark0_any _ (by omega) w'
    rw [mkI_spl (markK t) (by omega) (by omega), hsp] at HM0
    have HM : ∀ w', Hid (Calls Tryd.prog 55 #[.int .i64 (markK t)] w' fun e w'' => e = .returned (.string ⟨t.toArray⟩) ∧ Below w'.heap.size w' w'') := HM0
    have dk : ((markK t : Int) == 0) = false := by simp; omega
    rw [hrv]
    clear hrd hrv hlng hrange HM0 hsp
    go_enter Tryd.func38, Tryd.ntmps38
    go_wp2_with (go_at_call 49; (with_reducible refine ((HN _).out).mono ?_); rintro e w' ⟨rfl, hw⟩; subst w')
    go_loop [4] (fun v => v = .int .i64 0) (fun v => 0)
    case atStart => rfl
    case round =>
      obtain rfl := hrel
      go_wp2_with (first | (go_at_call 51; (with_reducible refine ((HX _).out).mono ?_); rintro e w' ⟨rfl, hw⟩; subst w') | (go_at_call 54; (with_reducible refine ((HG _).out).mono ?_); rintro e w1 ⟨rfl, hb1⟩; have hg1 := (hb1.block _ (by simp)).trans hg0; have hb2 := hb0.trans (hb1.mono (by simp)); clear hb1) | (go_at_call 55; (with_reducible refine ((HM _).out).mono ?_); rintro e w2 ⟨rfl, hb3⟩; have hg3 := (hb3.block _ (Array.getElem?_eq_some_iff.1 hg1).1).trans hg1; have hb4 := hb2.trans (hb3.mono hb2.size); clear hb3) | (refine wpList_store_row rfl _ _ _ rfl w.heap.size #[.int .i64 (markK t), .string ⟨t.toArray⟩, .int .u64 0, .int .i64 0, .int .i64 0] rfl rfl _ _ hg3 (by kernel_rfl) rfl (by kernel_rfl) ?_; obtain ⟨w9, hw9, hr9, k0, k1, k2, k3, k4, hb9⟩ := row5 hg3 hb4 (Nat.le_refl _) (.int .i64 (markK t)) (.string ⟨t.toArray⟩) (.int .u64 0) (.int .i64 0) (.int .i64 0); rw [hw9]; clear hw9 hg3 hb4))
      refine bodyPost_ret (by simp [results, Tryd.results38, go_sem, k0, k1, k2, k3, k4]; try rfl) rfl ?_
      exact ⟨rfl, hb9⟩

theorem rtoken_any (c : UInt8) (r : Bs) (hl : (c :: r).length ≤ 281474976710656) (w : World) :
    Calls Tryd.prog 38 #[.string ⟨(c :: r).toArray⟩] w fun e w' => e = .returned (rdV (rd (c :: r))) ∧ Below w.heap.size w w' := by
  cases hc : pL c with
  | true => exact rtoken_name c r hc hl w
  | false =>
    cases hd : pD c with
    | true => exact rtoken_num c r hc hd hl w
    | false => exact rtoken_mark c r hc hd hl w
end Go.Proofs.YtckhliilndfljaaDoor
