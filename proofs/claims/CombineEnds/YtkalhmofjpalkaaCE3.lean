import Derived.Test.YtkalhmofjpalkaaCE2
import Derived.Test.YtkalhmofjpalkaaCA
namespace Go.Proofs.Ytkalhmofjpalkaa
open Go.ChangeShapes Go.WideShapes Go.ChangeAt Go.RowKit
set_option linter.unusedVariables false
set_option linter.unusedSimpArgs false

/-- how many levels so far, and the number at which there is one more -/
def LvI (n a b : Nat) : Prop := (a = 1 ∧ b = 2) ∨ (a = 2 ∧ b = 4 ∧ 2 ≤ n) ∨ (a = 3 ∧ b = 8 ∧ 4 ≤ n) ∨ (a = 4 ∧ b = 16 ∧ 8 ≤ n) ∨ (a = 5 ∧ b = 32 ∧ 16 ≤ n) ∨ (a = 6 ∧ b = 64 ∧ 32 ≤ n) ∨ (a = 7 ∧ b = 128 ∧ 64 ≤ n)
theorem LvI.next {n a b : Nat} (hn : n ≤ 64) (h : LvI n a b) (hb : b ≤ n) : LvI n (a + 1) (2 * b) ∧ b < 128 ∧ 2 ≤ b := by
  rcases h with ⟨rfl, rfl⟩ | ⟨rfl, rfl, h⟩ | ⟨rfl, rfl, h⟩ | ⟨rfl, rfl, h⟩ | ⟨rfl, rfl, h⟩ | ⟨rfl, rfl, h⟩ | ⟨rfl, rfl, h⟩
  · exact ⟨.inr (.inl ⟨rfl, rfl, by omega⟩), by omega, by omega⟩
  · exact ⟨.inr (.inr (.inl ⟨rfl, rfl, by omega⟩)), by omega, by omega⟩
  · exact ⟨.inr (.inr (.inr (.inl ⟨rfl, rfl, by omega⟩))), by omega, by omega⟩
  · exact ⟨.inr (.inr (.inr (.inr (.inl ⟨rfl, rfl, by omega⟩)))), by omega, by omega⟩
  · exact ⟨.inr (.inr (.inr (.inr (.inr (.inl ⟨rfl, rfl, by omega⟩))))), by omega, by omega⟩
  · exact ⟨.inr (.inr (.inr (.inr (.inr (.inr (⟨rfl, rfl, by omega⟩)))))), by omega, by omega⟩
  · omega
theorem LvI.bd {n a b : Nat} (h : LvI n a b) : a ≤ 7 ∧ b ≤ 128 ∧ 2 ≤ b := by
  rcases h with ⟨rfl, rfl⟩ | ⟨rfl, rfl, h⟩ | ⟨rfl, rfl, h⟩ | ⟨rfl, rfl, h⟩ | ⟨rfl, rfl, h⟩ | ⟨rfl, rfl, h⟩ | ⟨rfl, rfl, h⟩ <;> omega
theorem LvI.last {n a b : Nat} (hn : n ≤ 64) (h : LvI n a b) (hb : n < b) : lvN n = a := by
  unfold lvN
  rcases h with ⟨rfl, rfl⟩ | ⟨rfl, rfl, h⟩ | ⟨rfl, rfl, h⟩ | ⟨rfl, rfl, h⟩ | ⟨rfl, rfl, h⟩ | ⟨rfl, rfl, h⟩ | ⟨rfl, rfl, h⟩
  · rw [if_neg (by omega), if_neg (by omega), if_neg (by omega), if_neg (by omega), if_neg (by omega), if_neg (by omega)]
  · rw [if_pos (by omega), if_neg (by omega), if_neg (by omega), if_neg (by omega), if_neg (by omega), if_neg (by omega)]
  · rw [if_pos (by omega), if_pos (by omega), if_neg (by omega), if_neg (by omega), if_neg (by omega), if_neg (by omega)]
  · rw [if_pos (by omega), if_pos (by omega), if_pos (by omega), if_neg (by omega), if_neg (by omega), if_neg (by omega)]
  · rw [if_pos (by omega), if_pos (by omega), if_pos (by omega), if_pos (by omega), if_neg (by omega), if_neg (by omega)]
  · rw [if_pos (by omega), if_pos (by omega), if_pos (by omega), if_pos (by omega), if_pos (by omega), if_neg (by omega)]
  · rw [if_pos (by omega), if_pos (by omega), if_pos (by omega), if_pos (by omega), if_pos (by omega), if_pos (by omega)]
set_option maxRecDepth 100000 in
theorem levels_any (n : Nat) (hn : n ≤ 64) (W : World) : Calls Try.prog 15 #[.int .i64 (n : Int)] W fun e W' => e = .returned (.int .i64 (lvN n : Int)) ∧ W' = W := by
  go_enter Try.func15, Try.ntmps15
  go_wp2_with fail
  go_loopw [3, 4] (fun x y wr => ∃ a b : Nat, x = .int .i64 (a : Int) ∧ y = .int .i64 (b : Int) ∧ LvI n a b ∧ wr = W) (fun _ y _ => 128 - (intOf y).toNat)
  case atStart => exact ⟨1, 2, rfl, rfl, .inl ⟨rfl, rfl⟩, rfl⟩
  case round =>
    obtain ⟨a, b, rfl, rfl, hl, h9⟩ := hrel
    subst h9
    have hbd := LvI.bd hl
    have HL : Hid (LvI n a b) := hl
    by_cases hb : b ≤ n
    · have db : decide ((b : Int) ≤ (n : Int)) = true := by simp; omega
      have ea : IntKind.i64.wrap ((a : Int) + 1) = ((a + 1 : Nat) : Int) := by rw [IntKind.wrap_i64]; omega
      have eb : IntKind.i64.wrap (2 * (b : Int)) = ((2 * b : Nat) : Int) := by rw [IntKind.wrap_i64]; omega
      have hx := LvI.next hn hl hb
      have HX : Hid (LvI n (a + 1) (2 * b)) := hx.1
      have hm : 128 - (intOf (.int .i64 ((2 * b : Nat) : Int))).toNat < 128 - (intOf (.int .i64 (b : Int))).toNat := by simp only [intOf]; omega
      clear hl hx
      go_wp2_with fail
      exact ⟨⟨a + 1, 2 * b, rfl, rfl, HX.out, by first | rfl | trivial⟩, hm⟩
    · have db : decide ((b : Int) ≤ (n : Int)) = false := by simp; omega
      have hlast := LvI.last hn hl (by omega)
      have HLL : Hid (lvN n = a) := hlast
      clear hl hlast
      go_wp2_with fail
      go_ret
      exact ⟨by rw [HLL.out]; rfl, rfl⟩
end Go.Proofs.Ytkalhmofjpalkaa
