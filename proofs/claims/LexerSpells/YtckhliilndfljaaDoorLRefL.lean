import Derived.Test.YtckhliilndfljaaDoorLRefL0
import Derived.Test.YtckhliilndfljaaDoorLMk
namespace Go.Proofs.YtckhliilndfljaaDoor
open Go.ChangeShapes Go.WideShapes Go.ChangeAt Go.RowKit
set_option linter.unusedVariables false

def secB (k : Nat) : Bool := decide (k < 50) || (spl k).length != 2 || (spl k)[1]? == some 124 || (spl k)[1]? == some 38 || (spl k)[1]? == some 61 || (spl k)[1]? == some 60 || (spl k)[1]? == some 62
theorem sec_all : (List.range 80).all secB = true := by decide +kernel
theorem second_all (k : Nat) (h : k < 80) (h5 : 50 ≤ k) (hl : (spl k).length = 2) : (spl k)[1]? = some 124 ∨ (spl k)[1]? = some 38 ∨ (spl k)[1]? = some 61 ∨ (spl k)[1]? = some 60 ∨ (spl k)[1]? = some 62 := by
  have := List.all_eq_true.1 sec_all k (List.mem_range.2 h)
  unfold secB at this
  simp only [Bool.or_eq_true, decide_eq_true_eq, bne_iff_ne, beq_iff_eq] at this
  rcases this with (((((h1 | h1) | h1) | h1) | h1) | h1) | h1
  · omega
  · exact absurd hl h1
  · exact .inl h1
  · exact .inr (.inl h1)
  · exact .inr (.inr (.inl h1))
  · exact .inr (.inr (.inr (.inl h1)))
  · exact .inr (.inr (.inr (.inr h1)))
theorem lngC_other (c d : UInt8) (k best : Nat) (h1 : 50 ≤ k) (h2 : k < 80) (hd : d ≠ 124 ∧ d ≠ 38 ∧ d ≠ 61 ∧ d ≠ 60 ∧ d ≠ 62) : lngC [c, d] k best = lngC [c, 0] k best := by
  unfold lngC
  have e : ([c, d].take (spl k).length == spl k) = ([c, 0].take (spl k).length == spl k) := by
    have hl := spl_two k h1 h2
    match hh : (spl k).length, hl with
    | 0, _ => rfl
    | 1, _ => rfl
    | 2, _ =>
      have hs := second_all k h2 h1 hh
      have n1 : ([c, d].take 2 == spl k) = false := by
        rw [beq_eq_false_iff_ne]
        intro he
        rw [← he] at hs
        simp at hs
        obtain ⟨a1, a2, a3, a4, a5⟩ := hd
        rcases hs with h | h | h | h | h
        · exact a1 h
        · exact a2 h
        · exact a3 h
        · exact a4 h
        · exact a5 h
      have n2 : ([c, 0].take 2 == spl k) = false := by
        rw [beq_eq_false_iff_ne]
        intro he
        rw [← he] at hs
        simp at hs
      rw [n1, n2]
  rw [e]
  rfl
theorem lng_other (c d : UInt8) (hd : d ≠ 124 ∧ d ≠ 38 ∧ d ≠ 61 ∧ d ≠ 60 ∧ d ≠ 62) : ∀ (n k best : Nat), 50 ≤ k → k + n ≤ 80 → lng [c, d] n k best = lng [c, 0] n k best
  | 0, _, _, _, _ => rfl
  | n + 1, k, best, h1, h2 => by
    unfold lng
    rw [lngC_other c d k best h1 (by omega) hd, lng_other c d hd n (k + 1) _ (by omega) (by omega)]
theorem u8_ne {d : UInt8} {m : Nat} (h : d.toNat ≠ m) (hm : m < 256) : d ≠ UInt8.ofNat m := by
  intro e
  apply h
  rw [e, UInt8.toNat_ofNat']
  omega
theorem markL_other (c d : UInt8) (hd : d ≠ 124 ∧ d ≠ 38 ∧ d ≠ 61 ∧ d ≠ 60 ∧ d ≠ 62) (r : Bs) : markL (c :: d :: r) = 1 := by
  obtain ⟨a1, a2, a3, a4, a5⟩ := hd
  have f : ∀ (m : UInt8), d ≠ m → d.toNat ≠ m.toNat := fun m hm he => hm (UInt8.toNat_inj.1 he)
  have b1 := f 124 a1
  have b2 := f 38 a2
  have b3 := f 61 a3
  have b4 := f 60 a4
  have b5 := f 62 a5
  have g1 : (124 : UInt8).toNat = 124 := rfl
  have g2 : (38 : UInt8).toNat = 38 := rfl
  have g3 : (61 : UInt8).toNat = 61 := rfl
  have g4 : (60 : UInt8).toNat = 60 := rfl
  have g5 : (62 : UInt8).toNat = 62 := rfl
  show (if (c.toNat = 60 ∨ c.toNat = 62 ∨ c.toNat = 124 ∨ c.toNat = 38) ∧ d.toNat = c.toNat then 2 else if (c.toNat = 60 ∨ c.toNat = 62 ∨ c.toNat = 61 ∨ c.toNat = 33) ∧ d.toNat = 61 then 2 else 1) = 1
  rw [if_neg (by omega), if_neg (by omega)]

/-- THE LONGEST MARK: the reference's search is the lexer's reading -/
theorem lngS_eq (s : Bs) (hne : s ≠ []) : lngS s = markK (s.take (markL s)) ∧ (markK (s.take (markL s)) = 0 ∨ spl (markK (s.take (markL s))) = s.take (markL s)) := by
  match s, hne with
  | [c], _ =>
    have h := List.all_eq_true.1 one_all c.toNat (List.mem_range.2 c.toNat_lt)
    rw [UInt8.ofNat_toNat] at h
    unfold mOK1 at h
    simp only [Bool.and_eq_true, Bool.or_eq_true, beq_iff_eq] at h
    exact h
  | c :: d :: r, _ =>
    have ht : (c :: d :: r).take (markL (c :: d :: r)) = [c, d].take (markL [c, d]) := by
      have e : markL (c :: d :: r) = markL [c, d] := rfl
      rw [e]
      have h2 : markL [c, d] ≤ 2 := markL_le [c, d] (by simp)
      match hm : markL [c, d], h2 with
      | 0, _ => rfl
      | 1, _ => rfl
      | 2, _ => simp
    have hl : lngS (c :: d :: r) = lngS [c, d] := lng_two c d r 30 50 0 (by omega) (by omega)
    rw [ht, hl]
    have hall : ∀ m, m ∈ [124, 38, 61, 60, 62, (0 : UInt8)] → mOK2 c m = true := by
      intro m hm
      have h := List.all_eq_true.1 two_all c.toNat (List.mem_range.2 c.toNat_lt)
      rw [UInt8.ofNat_toNat] at h
      exact List.all_eq_true.1 h m hm
    have use : ∀ m, mOK2 c m = true → lngS [c, m] = markK ([c, m].take (markL [c, m])) ∧ (markK ([c, m].take (markL [c, m])) = 0 ∨ spl (markK ([c, m].take (markL [c, m]))) = [c, m].take (markL [c, m])) := by
      intro m h
      unfold mOK2 at h
      simpa using h
    by_cases hd : d ≠ 124 ∧ d ≠ 38 ∧ d ≠ 61 ∧ d ≠ 60 ∧ d ≠ 62
    · have h0 := use 0 (hall 0 (by simp))
      have e1 : lngS [c, d] = lngS [c, 0] := lng_other c d hd 30 50 0 (by omega) (by omega)
      have e2 : markL [c, d] = 1 := markL_other c d hd []
      have e3 : markL [c, 0] = 1 := markL_other c 0 (by decide) []
      rw [e3] at h0
      rw [e1, e2]
      exact h0
    · have hm : d ∈ [124, 38, 61, 60, 62, (0 : UInt8)] := by
        by_cases a1 : d = 124
        · simp [a1]
        · by_cases a2 : d = 38
          · simp [a2]
          · by_cases a3 : d = 61
            · simp [a3]
            · by_cases a4 : d = 60
              · simp [a4]
              · by_cases a5 : d = 62
                · simp [a5]
                · exact absurd ⟨a1, a2, a3, a4, a5⟩ hd
      exact use d (hall d hm)
end Go.Proofs.YtckhliilndfljaaDoor
