import Derived.Test.YtckhliilndfljaaDoorLRef2
import Derived.Test.YtckhliilndfljaaDoorLRead
namespace Go.Proofs.YtckhliilndfljaaDoor
open Go.ChangeShapes Go.WideShapes Go.ChangeAt Go.RowKit
set_option linter.unusedVariables false

/-- digits as a number; none: beyond 64 bits -/
def valD (n : Nat) : Bs → Option Nat
  | [] => some n
  | c :: r => if 18446744073709551615 < n * 10 + (c.toNat - 48) then none else valD (n * 10 + (c.toNat - 48)) r
def valE : Option Nat → Lib.NumEnd Nat
  | some u => .ok u
  | none => .range
theorem valD_parse (l : Bs) (hd : ∀ c ∈ l, pD c = true) : ∀ n, Lib.parseUintM 18446744073709551615 n l = valE (valD n l) := by
  induction l with
  | nil => intro n; rfl
  | cons c r ih =>
    intro n
    have hc := hd c (by simp)
    unfold pD isD at hc
    simp only [Bool.and_eq_true, decide_eq_true_eq] at hc
    have ih' := ih (fun x hx => hd x (by simp [hx]))
    rw [Lib.parseUintM, if_pos (by omega)]
    unfold valD
    by_cases h1 : 18446744073709551615 < n * 10 + (c.toNat - 48)
    · by_cases h2 : 1844674407370955162 ≤ n
      · rw [if_pos h2, if_pos h1]; rfl
      · rw [if_neg h2, if_pos h1, if_pos h1]; rfl
    · rw [if_neg (by omega), if_neg h1, if_neg h1]
      exact ih' _
theorem parse_val (l : Bs) (hne : l ≠ []) (hd : ∀ c ∈ l, pD c = true) : Lib.parseUintB 64 l = valE (valD 0 l) := by
  unfold Lib.parseUintB
  rw [if_neg hne]
  exact valD_parse l hd 0
theorem valD_step (l : Bs) (i n : Nat) (h : i < l.length) : valD n (l.drop i) = if 18446744073709551615 < n * 10 + ((l[i]).toNat - 48) then none else valD (n * 10 + ((l[i]).toNat - 48)) (l.drop (i + 1)) := by
  rw [List.drop_eq_getElem_cons h]
  rfl
def valR : Option Nat → Value
  | some u => .tuple #[.int .u64 u, .bool true]
  | none => .tuple #[.int .u64 0, .bool false]

theorem u8sub (d : Nat) (h : 48 ≤ d ∧ d ≤ 57) : IntKind.u8.wrap ((d : Int) - 48) = ((d - 48 : Nat) : Int) := by
  rw [IntKind.wrap_u8]
  omega

theorem over {n d : Nat} (h : (18446744073709551615 - (d : Int)) / 10 < n) (hd : d ≤ 9) : 18446744073709551615 < n * 10 + d := by omega
theorem under {n d : Nat} (h : (n : Int) ≤ (18446744073709551615 - (d : Int)) / 10) (hd : d ≤ 9) : ¬ 18446744073709551615 < n * 10 + d ∧ n * 10 + d < 18446744073709551616 := by omega

set_option maxRecDepth 100000 in
theorem rvalue_any (l : Bs) (hl : l.length ≤ 281474976710656) (hd : ∀ c ∈ l, pD c = true) (w : World) :
    Calls Tryd.prog 52 #[.string ⟨l.toArray⟩] w fun e w' => e = .returned (valR (valD 0 l)) ∧ w' = w := by
  have hsz : (⟨l.toArray⟩ : ByteArray).size = l.length := by simp [ByteArray.size]
  go_enter Tryd.func52, Tryd.ntmps52
  go_wp2
  go_loop [4, 5] (fun v4 v5 => ∃ n i : Nat, v4 = .int .u64 n ∧ v5 = .int .i64 i ∧ i ≤ l.length ∧ n < 18446744073709551616 ∧ Hid (valD 0 l = valD n (l.drop i))) (fun _ v5 => l.length - (intOf v5).toNat)
  case atStart => exact ⟨0, 0, rfl, rfl, by omega, by omega, rfl⟩
  case round =>
    obtain ⟨n, i, rfl, rfl, hi, hn, hinv⟩ := hrel
    by_cases hlt : i < l.length
    · have hltb : i < (⟨l.toArray⟩ : ByteArray).size := by omega
      have hst := valD_step l i n hlt
      have hdd := hd (l[i]) (List.getElem_mem hlt)
      obtain ⟨c, hc⟩ : ∃ c, l[i] = c := ⟨_, rfl⟩
      have hg : ((⟨l.toArray⟩ : ByteArray)[i]'hltb) = c := by rw [← hc]; rfl
      rw [hc] at hst hdd
      unfold pD isD at hdd
      simp only [Bool.and_eq_true, decide_eq_true_eq] at hdd
      have hu8 := u8sub c.toNat hdd
      obtain ⟨d, hd9⟩ : ∃ d, c.toNat - 48 = d := ⟨_, rfl⟩
      rw [hd9] at hst hu8
      have hd10 : d ≤ 9 := by omega
      have HST : Hid (valD n (l.drop i) = if 18446744073709551615 < n * 10 + d then none else valD (n * 10 + d) (l.drop (i + 1))) := hst
      have HN : Hid (n < 18446744073709551616) := hn
      clear hst hn hc hd hdd hd9
      go_wp2
      · have h : (18446744073709551615 - (d : Int)) / 10 < n := by assumption
        have e := over h hd10
        refine bodyPost_ret (by simp [results, Tryd.results52, go_sem]; try rfl) rfl ?_
        exact ⟨by rw [hinv.out, HST.out, if_pos e]; rfl, rfl⟩
      · have h : (n : Int) ≤ (18446744073709551615 - (d : Int)) / 10 := by assumption
        have e := under h hd10
        exact ⟨⟨n * 10 + d, i + 1, rfl, rfl, hlt, e.2, by show _ = _; rw [hinv.out, HST.out, if_neg e.1]⟩, meas hlt⟩
    · have d0 : decide ((i : Int) < l.length) = false := decide_eq_false (by omega)
      have he : Hid (valD 0 l = some n) := by show _ = _; rw [hinv.out, List.drop_eq_nil_of_le (by omega)]; rfl
      clear hinv hn hd
      go_wp2
      refine bodyPost_ret (by simp [results, Tryd.results52, go_sem]; try rfl) rfl ?_
      exact ⟨by rw [he.out]; rfl, rfl⟩
end Go.Proofs.YtckhliilndfljaaDoor
