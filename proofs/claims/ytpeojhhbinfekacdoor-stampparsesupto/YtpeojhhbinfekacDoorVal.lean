import Derived.Test.YtpeojhhbinfekacDoorParse2
namespace Go.Proofs.YtpeojhhbinfekacDoor
open Go.ChangeShapes Go.WideShapes Go.ChangeAt Go.RowKit

/-- what the digits of a text write, modulo 2^64 -/
def vFold (n : Nat) : List UInt8 → Nat
  | [] => n
  | c :: r => if 48 ≤ c.toNat ∧ c.toNat ≤ 57 then vFold ((10 * n + (c.toNat - 48)) % 18446744073709551616) r else vFold n r
def vF (l : List UInt8) : Nat := if l.head? = some 45 then (18446744073709551616 - vFold 0 l) % 18446744073709551616 else vFold 0 l

theorem vFold_lt : ∀ (l : List UInt8) (n : Nat), n < 18446744073709551616 → vFold n l < 18446744073709551616
  | [], n, h => h
  | c :: r, n, h => by
    unfold vFold
    split
    · exact vFold_lt r _ (Nat.mod_lt _ (by decide))
    · exact vFold_lt r n h

theorem vFold_yes (l : List UInt8) (n i : Nat) (h : i < l.length) (a : (48 : Int) ≤ ((⟨l.toArray⟩ : ByteArray)[i]'(by simpa [ByteArray.size] using h)).toNat) (b : (((⟨l.toArray⟩ : ByteArray)[i]'(by simpa [ByteArray.size] using h)).toNat : Int) ≤ 57) :
    ∃ m : Nat, m < 18446744073709551616 ∧ IntKind.u64.wrap (IntKind.u64.wrap (10 * (n : Int)) + ((((⟨l.toArray⟩ : ByteArray)[i]'(by simpa [ByteArray.size] using h)).toNat : Int) - 48)) = (m : Int) ∧ vFold n (l.drop i) = vFold m (l.drop (i + 1)) := by
  have e : (⟨l.toArray⟩ : ByteArray)[i]'(by simpa [ByteArray.size] using h) = l[i] := rfl
  rw [e] at a b ⊢
  refine ⟨(10 * n + (l[i].toNat - 48)) % 18446744073709551616, Nat.mod_lt _ (by decide), ?_, ?_⟩
  · rw [IntKind.wrap_u64, IntKind.wrap_u64]
    omega
  · rw [List.drop_eq_getElem_cons h, vFold, if_pos (by omega)]
theorem vFold_no (l : List UInt8) (n i : Nat) (h : i < l.length) (a : ¬ ((48 : Int) ≤ ((⟨l.toArray⟩ : ByteArray)[i]'(by simpa [ByteArray.size] using h)).toNat ∧ (((⟨l.toArray⟩ : ByteArray)[i]'(by simpa [ByteArray.size] using h)).toNat : Int) ≤ 57)) :
    vFold n (l.drop i) = vFold n (l.drop (i + 1)) := by
  have e : (⟨l.toArray⟩ : ByteArray)[i]'(by simpa [ByteArray.size] using h) = l[i] := rfl
  rw [e] at a
  rw [List.drop_eq_getElem_cons h, vFold, if_neg (by omega)]
theorem vF_neg (l : List UInt8) (n : Nat) (hn : n < 18446744073709551616) (h : 0 < l.length) (he : vFold 0 l = n) (a : ((((⟨l.toArray⟩ : ByteArray)[0]'(by simpa [ByteArray.size] using h)).toNat : Int) == 45) = true) : IntKind.u64.wrap (-(n : Int)) = (vF l : Int) := by
  cases l with
  | nil => simp at h
  | cons c r =>
    have e : (⟨(c :: r).toArray⟩ : ByteArray)[0]'(by simp [ByteArray.size]) = c := rfl
    rw [e, beq_iff_eq] at a
    have hc : c = 45 := UInt8.toNat_inj.1 (by show c.toNat = 45; omega)
    unfold vF
    rw [if_pos (by rw [hc]; rfl), he, IntKind.wrap_u64]
    omega
theorem vF_pos (l : List UInt8) (n : Nat) (he : vFold 0 l = n) (a : ∀ h : 0 < l.length, ((((⟨l.toArray⟩ : ByteArray)[0]'(by simpa [ByteArray.size] using h)).toNat : Int) == 45) = false) : (n : Int) = (vF l : Int) := by
  unfold vF
  rw [if_neg, he]
  intro hh
  cases l with
  | nil => cases hh
  | cons c r =>
    have e : (⟨(c :: r).toArray⟩ : ByteArray)[0]'(by simp [ByteArray.size]) = c := rfl
    have := a (by simp)
    rw [e, beq_eq_false_iff_ne] at this
    simp only [List.head?_cons, Option.some.injEq] at hh
    subst hh
    exact this rfl

set_option maxHeartbeats 1000000 in
theorem vF_any (l : List UInt8) (hl : l.length ≤ 4294967280) (w : World) :
    Calls Tryd.prog 29 #[.string ⟨l.toArray⟩] w fun e w' => e = .returned (.int .u64 (vF l)) ∧ Below w.heap.size w w' := by
  go_enter Tryd.func29, Tryd.ntmps29
  go_wp2
  go_loopw [3, 4] (fun vn vi wr => ∃ (n i : Nat), vn = .int .u64 n ∧ vi = .int .i64 i ∧ i ≤ l.length ∧ n < 18446744073709551616 ∧ vFold 0 l = vFold n (l.drop i) ∧ Below w.heap.size w wr) (fun _ vi _ => l.length - (intOf vi).toNat)
  case atStart => exact ⟨0, 0, rfl, rfl, by omega, by omega, by simp, Below.refl _ _⟩
  case round =>
    obtain ⟨n, i, rfl, rfl, hi, hn, hf, hb⟩ := hrel
    by_cases hlt : i < l.length
    · have HF : Hid (vFold 0 l = vFold n (l.drop i)) := hf
      clear hf
      go_wp2
      · rename_i a b
        obtain ⟨m, hm, e1, e2⟩ := vFold_yes l n i hlt a b
        go_roundw
        case rel => exact ⟨m, i + 1, by rw [e1], by go_num, by omega, hm, HF.out.trans e2, hb⟩
        case measure => simp [intOf]; omega
      · rename_i a b
        go_roundw
        case rel => exact ⟨n, i + 1, rfl, by go_num, by omega, hn, HF.out.trans (vFold_no l n i hlt (by omega)), hb⟩
        case measure => simp [intOf]; omega
      · rename_i a
        go_roundw
        case rel => exact ⟨n, i + 1, rfl, by go_num, by omega, hn, HF.out.trans (vFold_no l n i hlt (by omega)), hb⟩
        case measure => simp [intOf]; omega
    · have he : vFold 0 l = n := by rw [hf, List.drop_eq_nil_of_le (by omega)]; rfl
      have HE : Hid (vFold 0 l = n) := he
      clear hf he
      go_wp2
      · rename_i a b
        go_ret
        exact ⟨congrArg (fun x => Ending.returned (Value.int .u64 x)) (vF_neg l n hn a HE.out b), hb⟩
      · rename_i a b
        go_ret
        exact ⟨congrArg (fun x => Ending.returned (Value.int .u64 x)) (vF_pos l n HE.out (fun _ => b)), hb⟩
      · rename_i a
        go_ret
        exact ⟨congrArg (fun x => Ending.returned (Value.int .u64 x)) (vF_pos l n HE.out (fun h => absurd h a)), hb⟩

theorem vFold_dec (r : List UInt8) (u : Nat) : u < 18446744073709551616 → vFold 0 (Lib.decDigits u ++ r) = vFold u r := by
  induction u using Nat.strongRecOn generalizing r with
  | _ u ih =>
    intro hu
    by_cases h : u < 10
    · rw [Lib.decDigits_one h]
      show vFold 0 (UInt8.ofNat (48 + u) :: r) = _
      rw [vFold, dig_toNat u h, if_pos (by omega)]
      congr 1
      omega
    · rw [dec_step h, List.append_assoc, ih (u / 10) (by omega) _ (by omega)]
      show vFold (u / 10) (UInt8.ofNat (48 + u % 10) :: r) = _
      rw [vFold, dig_toNat _ (by omega), if_pos (by omega)]
      congr 1
      omega
theorem vF_dec (u : Nat) (hu : u < 18446744073709551616) : vF (Lib.decDigits u) = u := by
  have h := vFold_dec [] u hu
  rw [List.append_nil] at h
  unfold vF
  rw [if_neg, h]
  · rfl
  · obtain ⟨c, r, hc, k0, k1⟩ := dec_head u
    rw [hc]
    intro hh
    simp only [List.head?_cons, Option.some.injEq] at hh
    subst hh
    exact absurd k0 (by decide)
theorem vF_itoa (i : Int) (h0 : -9223372036854775808 ≤ i) (h1 : i ≤ 9223372036854775807) : (vF (Lib.itoa i) : Int) = i % 18446744073709551616 := by
  by_cases hn : 0 ≤ i
  · obtain ⟨u, rfl⟩ := Int.eq_ofNat_of_zero_le hn
    rw [Lib.itoa_nonneg, vF_dec u (by omega)]
    omega
  · obtain ⟨u, hu, rfl⟩ : ∃ u : Nat, 1 ≤ u ∧ i = -(u : Int) := ⟨i.natAbs, by omega, by omega⟩
    rw [Lib.itoa_neg u hu]
    have h := vFold_dec [] u (by omega)
    rw [List.append_nil] at h
    have h2 : vFold 0 (45 :: Lib.decDigits u) = u := by
      rw [vFold, if_neg (by decide), h]
      rfl
    unfold vF
    rw [if_pos (by rfl), h2]
    omega
theorem vF_lt (l : List UInt8) : vF l < 18446744073709551616 := by
  unfold vF
  split
  · exact Nat.mod_lt _ (by decide)
  · exact vFold_lt l 0 (by decide)
end Go.Proofs.YtpeojhhbinfekacDoor
