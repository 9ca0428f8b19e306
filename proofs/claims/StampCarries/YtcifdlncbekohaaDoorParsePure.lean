import Derived.Test.YtcifdlncbekohaaDoorText2
import Derived.Lib.ParseIntB
import Derived.Lib.IndexMore
namespace Go.Proofs.YtcifdlncbekohaaDoor
open Go.ChangeShapes Go.WideShapes Go.ChangeAt Go.RowKit

theorem dig_toNat (n : Nat) (h : n < 10) : (UInt8.ofNat (48 + n)).toNat = 48 + n := by
  rw [UInt8.toNat_ofNat']
  omega

/-- every byte of a numeral is a digit -/
theorem dec_digit (u : Nat) : ∀ c ∈ Lib.decDigits u, 48 ≤ c.toNat ∧ c.toNat ≤ 57 := by
  induction u using Nat.strongRecOn with
  | _ u ih =>
    intro c hc
    by_cases h : u < 10
    · rw [Lib.decDigits_one h] at hc
      simp only [List.mem_singleton] at hc
      subst hc
      rw [dig_toNat u h]
      omega
    · rw [dec_step h] at hc
      rcases List.mem_append.1 hc with hc | hc
      · exact ih (u / 10) (by omega) c hc
      · simp only [List.mem_singleton] at hc
        subst hc
        rw [dig_toNat _ (by omega)]
        omega
theorem itoa_byte (i : Int) : ∀ c ∈ Lib.itoa i, c.toNat = 45 ∨ 48 ≤ c.toNat ∧ c.toNat ≤ 57 := by
  intro c hc
  unfold Lib.itoa at hc
  split at hc
  · rcases List.mem_cons.1 hc with hc | hc
    · subst hc; exact Or.inl rfl
    · exact Or.inr (dec_digit _ c hc)
  · exact Or.inr (dec_digit _ c hc)

theorem index_one (m : UInt8) (b : List UInt8) : ∀ a : List UInt8, (∀ c ∈ a, c ≠ m) → Lib.index (a ++ m :: b) [m] = a.length
  | [], _ => by
    simp [Lib.index]
  | c :: a, h => by
    have hc : c ≠ m := h c (by simp)
    have ih := index_one m b a (fun x hx => h x (by simp [hx]))
    have h1 : ([m].isPrefixOf (c :: (a ++ m :: b))) = false := by
      simp [List.isPrefixOf, Ne.symm hc]
    show Lib.index (c :: (a ++ m :: b)) [m] = _
    unfold Lib.index
    rw [h1, ih]
    have h2 : ((a.length : Int) == -1) = false := by rw [beq_eq_false_iff_ne]; omega
    simp [h2]
theorem cut_one (m : UInt8) (a b : List UInt8) (h : ∀ c ∈ a, c ≠ m) : Lib.cut (a ++ m :: b) [m] = (a, b, true) := by
  unfold Lib.cut
  rw [index_one m b a h, if_pos (by omega)]
  simp

theorem parseM_dec (r : List UInt8) (u : Nat) : u ≤ 18446744073709551615 → Lib.parseUintM 18446744073709551615 0 (Lib.decDigits u ++ r) = Lib.parseUintM 18446744073709551615 u r := by
  induction u using Nat.strongRecOn generalizing r with
  | _ u ih =>
    intro hu
    by_cases h : u < 10
    · rw [Lib.decDigits_one h]
      show Lib.parseUintM _ 0 (UInt8.ofNat (48 + u) :: r) = _
      rw [Lib.parseUintM, dig_toNat u h, if_pos (by omega), if_neg (by omega), if_neg (by omega)]
      congr 1
      omega
    · rw [dec_step h, List.append_assoc, ih (u / 10) (by omega) _ (by omega)]
      show Lib.parseUintM _ (u / 10) (UInt8.ofNat (48 + u % 10) :: r) = _
      rw [Lib.parseUintM, dig_toNat _ (by omega), if_pos (by omega), if_neg (by omega), if_neg (by omega)]
      congr 1
      omega
theorem dec_ne (u : Nat) : Lib.decDigits u ≠ [] := by
  by_cases h : u < 10
  · rw [Lib.decDigits_one h]; simp
  · rw [dec_step h]; simp
theorem parseU_dec (u : Nat) (hu : u < 18446744073709551616) : Lib.parseUintB 64 (Lib.decDigits u) = .ok u := by
  unfold Lib.parseUintB
  rw [if_neg (dec_ne u)]
  have := parseM_dec [] u (by omega)
  rw [List.append_nil] at this
  show Lib.parseUintM 18446744073709551615 0 _ = _
  rw [this]
  rfl
theorem dec_head (u : Nat) : ∃ c r, Lib.decDigits u = c :: r ∧ 48 ≤ c.toNat ∧ c.toNat ≤ 57 := by
  cases h : Lib.decDigits u with
  | nil => exact absurd h (dec_ne u)
  | cons c r => exact ⟨c, r, rfl, dec_digit u c (by rw [h]; simp)⟩
theorem parseI_itoa (i : Int) (h0 : -9223372036854775808 ≤ i) (h1 : i ≤ 9223372036854775807) : Lib.parseIntB 64 (Lib.itoa i) = .ok i := by
  by_cases hn : 0 ≤ i
  · obtain ⟨u, rfl⟩ := Int.eq_ofNat_of_zero_le hn
    rw [Lib.itoa_nonneg]
    obtain ⟨c, r, hc, k0, k1⟩ := dec_head u
    have hp := parseU_dec u (by omega)
    rw [hc] at hp ⊢
    unfold Lib.parseIntB
    have e1 : ¬ (c.toNat = 43 ∨ c.toNat = 45) := by omega
    have e2 : ¬ c.toNat = 45 := by omega
    simp only [if_neg e1, hp]
    rw [if_neg (by omega), if_neg (by omega), if_neg e2]
  · obtain ⟨u, hu, rfl⟩ : ∃ u : Nat, 1 ≤ u ∧ i = -(u : Int) := ⟨i.natAbs, by omega, by omega⟩
    rw [Lib.itoa_neg u hu]
    have hp := parseU_dec u (by omega)
    unfold Lib.parseIntB
    have e1 : (45 : UInt8).toNat = 43 ∨ (45 : UInt8).toNat = 45 := by decide
    have e2 : (45 : UInt8).toNat = 45 := by decide
    simp only [if_pos e1, hp]
    rw [if_neg (by omega), if_neg (by omega), if_pos e2]

/-- what plain and signed make of a piece -/
def pU (l : List UInt8) : Nat := match Lib.parseUintB 64 l with | .ok u => u | .syntax => 0 | .range => 18446744073709551615
def pI (l : List UInt8) : Int := match Lib.parseIntB 64 l with | .ok v => v | .syntax => 0 | .range => Lib.intSat 64 l
theorem pU_dec (u : Nat) (hu : u < 18446744073709551616) : pU (Lib.decDigits u) = u := by unfold pU; rw [parseU_dec u hu]
theorem pI_itoa (i : Int) (h0 : -9223372036854775808 ≤ i) (h1 : i ≤ 9223372036854775807) : pI (Lib.itoa i) = i := by unfold pI; rw [parseI_itoa i h0 h1]

def c1 (s : List UInt8) := Lib.cut s [46]
def c2 (s : List UInt8) := Lib.cut (c1 s).2.1 [46]
def c3 (s : List UInt8) := Lib.cut (c2 s).2.1 [62]
def c4 (s : List UInt8) := Lib.cut (c3 s).2.1 [58]
def c5 (s : List UInt8) := Lib.cut (c4 s).2.1 [61]

theorem no_dec (u : Nat) (m : UInt8) (h : m.toNat < 48 ∨ 57 < m.toNat) : ∀ c ∈ Lib.decDigits u, c ≠ m := by
  intro c hc e
  have := dec_digit u c hc
  subst e
  omega
theorem no_itoa (i : Int) (m : UInt8) (h : (m.toNat < 48 ∨ 57 < m.toNat) ∧ m.toNat ≠ 45) : ∀ c ∈ Lib.itoa i, c ≠ m := by
  intro c hc e
  have := itoa_byte i c hc
  subst e
  omega

theorem cuts_txt (t q : Nat) (s d k v : Int) :
    (c1 (txt t q s d k v)).1 = Lib.decDigits t ∧ (c2 (txt t q s d k v)).1 = Lib.itoa s ∧ (c3 (txt t q s d k v)).1 = Lib.decDigits q ∧ (c4 (txt t q s d k v)).1 = Lib.itoa d ∧ (c5 (txt t q s d k v)).1 = Lib.itoa k ∧ (c5 (txt t q s d k v)).2.1 = Lib.itoa v := by
  have e1 : c1 (txt t q s d k v) = (Lib.decDigits t, Lib.itoa s ++ ([46] ++ (Lib.decDigits q ++ ([62] ++ (Lib.itoa d ++ ([58] ++ (Lib.itoa k ++ ([61] ++ Lib.itoa v))))))), true) := cut_one 46 _ _ (no_dec t 46 (by decide))
  have e2 : c2 (txt t q s d k v) = (Lib.itoa s, Lib.decDigits q ++ ([62] ++ (Lib.itoa d ++ ([58] ++ (Lib.itoa k ++ ([61] ++ Lib.itoa v))))), true) := by
    unfold c2; rw [e1]; exact cut_one 46 _ _ (no_itoa s 46 (by decide))
  have e3 : c3 (txt t q s d k v) = (Lib.decDigits q, Lib.itoa d ++ ([58] ++ (Lib.itoa k ++ ([61] ++ Lib.itoa v))), true) := by
    unfold c3; rw [e2]; exact cut_one 62 _ _ (no_dec q 62 (by decide))
  have e4 : c4 (txt t q s d k v) = (Lib.itoa d, Lib.itoa k ++ ([61] ++ Lib.itoa v), true) := by
    unfold c4; rw [e3]; exact cut_one 58 _ _ (no_itoa d 58 (by decide))
  have e5 : c5 (txt t q s d k v) = (Lib.itoa k, Lib.itoa v, true) := by
    unfold c5; rw [e4]; exact cut_one 61 _ _ (no_itoa k 61 (by decide))
  rw [e1, e2, e3, e4, e5]
  exact ⟨rfl, rfl, rfl, rfl, rfl, rfl⟩
end Go.Proofs.YtcifdlncbekohaaDoor
