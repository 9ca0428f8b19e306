import Derived.Test.YtllhbggipbefmacDBelow
namespace Go.Proofs.Ytllhbggipbefmac
open Go.ChangeShapes Go.WideShapes Go.ChangeAt Go.RowKit

def bi (b : Bool) : Int := if b then 1 else 0
def bw (b : Bool) (j : Nat) : BitVec 64 := if b then BitVec.twoPow 64 j else 0#64

theorem bit_of {v : Int} (h : 0 ≤ v ∧ v ≤ 18446744073709551615) (j : Nat) : bits .and .u64 (v / 2 ^ j) 1 = bi ((B v).getLsbD j) := by
  rw [shr_B h, and_U, B_U, show B 1 = 1#64 from rfl, BitVec.and_one_eq_setWidth_ofBool_getLsbD]
  rw [BitVec.getLsbD_ushiftRight, Nat.add_zero]
  cases (B v).getLsbD j <;> rfl
theorem bi_xor (a b : Bool) : bits .xor .u64 (bi a) (bi b) = bi (a ^^ b) := by cases a <;> cases b <;> decide
theorem B_pow {j : Nat} (h : j < 64) : B (2 ^ j) = BitVec.twoPow 64 j := by
  apply BitVec.eq_of_toNat_eq
  unfold B
  rw [BitVec.toNat_ofInt, BitVec.toNat_twoPow]
  have p1 := two_pow_lt h
  have p2 := two_pow_pos j
  have : (2 : Int) ^ j = ((2 ^ j : Nat) : Int) := by simp
  omega
theorem or_bit {x : Int} {j : Nat} (h : j < 64) (b : Bool) : bits .or .u64 x (IntKind.u64.wrap (bi b * 2 ^ j)) = U (B x ||| bw b j) := by
  rw [or_U, B_wrap]
  cases b
  · simp [bi, bw, B]
  · simp only [bi, bw, if_true, Int.one_mul, B_pow h]

theorem un_step {X Y : BitVec 64} {k j : Nat} (hk : 0 < k) (hj : j < 64)
    (h : ∀ i, X.getLsbD i = if j + 1 ≤ i then (Y.getLsbD i ^^ X.getLsbD (i + k)) else false) :
    ∀ i, (X ||| bw (Y.getLsbD j ^^ X.getLsbD (j + k)) j).getLsbD i = if j ≤ i then (Y.getLsbD i ^^ (X ||| bw (Y.getLsbD j ^^ X.getLsbD (j + k)) j).getLsbD (i + k)) else false := by
  intro i
  have hw : ∀ (b : Bool) (m : Nat), (bw b j).getLsbD m = (b && decide (j = m)) := by
    intro b m
    cases b
    · simp [bw]
    · simp only [bw, if_true, BitVec.getLsbD_twoPow, Bool.true_and]
      by_cases e : j = m
      · subst e; simp [hj]
      · simp [e]
  rw [BitVec.getLsbD_or, BitVec.getLsbD_or, hw, hw]
  by_cases e : j = i
  · subst e
    have h1 := h j
    rw [if_neg (by omega)] at h1
    simp [h1]
    omega
  · by_cases l : j < i
    · have e2 : ¬ j = i + k := by omega
      have h1 := h i
      rw [if_pos (show j + 1 ≤ i from l)] at h1
      simp [e, e2, h1, show j ≤ i by omega]
    · have h1 := h i
      rw [if_neg (show ¬ j + 1 ≤ i from l)] at h1
      simp [e, h1, show ¬ j ≤ i by omega]
theorem un_end {X Y : BitVec 64} {k : Nat} (h : ∀ i, X.getLsbD i = (Y.getLsbD i ^^ X.getLsbD (i + k))) : X ^^^ (X >>> k) = Y := by
  apply BitVec.eq_of_getLsbD_eq
  intro i hi
  rw [BitVec.getLsbD_xor, BitVec.getLsbD_ushiftRight, Nat.add_comm k i, h i]
  cases Y.getLsbD i <;> cases X.getLsbD (i + k) <;> rfl

theorem zero_start (Y : BitVec 64) (k : Nat) : ∀ i, (0#64).getLsbD i = if 64 ≤ i then (Y.getLsbD i ^^ (0#64).getLsbD (i + k)) else false := by
  intro i
  by_cases e : 64 ≤ i
  · rw [if_pos e, BitVec.getLsbD_of_ge Y i e]; simp
  · rw [if_neg e]; simp
theorem unshift_any (y : Int) (k : Nat) (hk : 0 < k ∧ k < 64) (hy : 0 ≤ y ∧ y ≤ 18446744073709551615) (w : World) :
    Calls Try.prog 22 #[.int .u64 y, .int .i64 k] w fun e w' => ∃ X : BitVec 64, X ^^^ (X >>> k) = B y ∧ e = .returned (.int .u64 (U X)) ∧ Below w.heap.size w w' := by
  go_enter Try.func22, Try.ntmps22
  go_wp2
  go_loopw [5, 6] (fun vx vi wr => ∃ (m : Nat) (X : BitVec 64) (z : Int), m ≤ 64 ∧ vx = .int .u64 (U X) ∧ vi = .int .i64 z ∧ z = m - 1 ∧ (∀ i, X.getLsbD i = if m ≤ i then ((B y).getLsbD i ^^ X.getLsbD (i + k)) else false) ∧ Below w.heap.size w wr) (fun _ vi _ => (intOf vi + 1).toNat)
  case atStart => exact ⟨64, 0#64, 63, by omega, rfl, rfl, rfl, zero_start _ _, Below.refl _ _⟩
  case round =>
    obtain ⟨m, X, z, hm, rfl, rfl, hz, hX, hb⟩ := hrel
    have HX : Hid (∀ i, X.getLsbD i = if m ≤ i then ((B y).getLsbD i ^^ X.getLsbD (i + k)) else false) := hX
    clear hX
    have hU := U_rng X
    by_cases hlt : 0 < m
    · obtain ⟨j, rfl⟩ : ∃ j, m = j + 1 := ⟨m - 1, by omega⟩
      obtain rfl : z = (j : Int) := by omega
      clear hz
      have hj0 : (0 : Int) ≤ (j : Int) := by omega
      have hjk : (0 : Int) ≤ (j : Int) + (k : Int) := by omega
      have HX2 : Hid (∀ i, (X ||| bw ((B y).getLsbD j ^^ X.getLsbD (j + k)) j).getLsbD i = if j ≤ i then ((B y).getLsbD i ^^ (X ||| bw ((B y).getLsbD j ^^ X.getLsbD (j + k)) j).getLsbD (i + k)) else false) := un_step hk.1 (show j < 64 by omega) HX.out
      by_cases hc : (j : Int) + k < 64
      · go_wp2
        go_roundw
        case rel => exact ⟨j, X ||| bw ((B y).getLsbD j ^^ X.getLsbD (j + k)) j, (j : Int) - 1, by omega, by
            rw [bit_of hy, bit_of hU, bi_xor, B_U, or_bit (by omega), B_U], rfl, rfl, HX2.out, hb⟩
        case measure => simp [intOf]
      · have hz2 : X.getLsbD (j + k) = false := BitVec.getLsbD_of_ge _ _ (by omega)
        have HZ : Hid (X.getLsbD (j + k) = false) := hz2
        clear hz2
        go_wp2
        go_roundw
        case rel => exact ⟨j, X ||| bw ((B y).getLsbD j ^^ X.getLsbD (j + k)) j, (j : Int) - 1, by omega, by
            rw [bit_of hy, or_bit (by omega), B_U, HZ.out, Bool.xor_false], rfl, rfl, HX2.out, hb⟩
        case measure => simp [intOf]
    · go_wp2
      go_ret
      refine ⟨X, un_end (fun i => ?_), rfl, hb⟩
      have := HX.out i
      rw [if_pos (by omega)] at this
      exact this
theorem un29_u {X Y : BitVec 64} (h : X ^^^ (X >>> 29) = Y) : X = un29 Y := by rw [← h, un29_ok]
theorem un32_u {X Y : BitVec 64} (h : X ^^^ (X >>> 32) = Y) : X = un32 Y := by rw [← h, un32_ok]
theorem unmix_any (y : Int) (hy : 0 ≤ y ∧ y ≤ 18446744073709551615) (w : World) :
    Calls Try.prog 10 #[.int .u64 y] w fun e w' => e = .returned (.int .u64 (U (umx (B y)))) ∧ Below w.heap.size w w' := by
  go_enter Try.func10, Try.ntmps10
  go_wp2_with fail
  refine (unshift_any y 29 (by omega) hy _).mono ?_
  rintro e w1 ⟨X, hX, rfl, hb1⟩
  obtain rfl := un29_u hX
  clear hX
  go_wp2_with fail
  refine (solve_any _ _ _ 17428512612931826493#64 (by decide) (by decide) (U_rng _) _).mono ?_
  rintro e w2 ⟨rfl, hb2⟩
  rw [B_U, show B 0 = 0#64 from rfl, BitVec.sub_zero]
  go_wp2_with fail
  refine (unshift_any _ 32 (by omega) (U_rng _) _).mono ?_
  rintro e w3 ⟨X, hX, rfl, hb3⟩
  obtain rfl := un32_u hX
  rw [B_U] at *
  go_wp2
  go_ret
  exact ⟨rfl, (hb1.trans (hb2.mono hb1.size)).trans (hb3.mono (Nat.le_trans hb1.size hb2.size))⟩
end Go.Proofs.Ytllhbggipbefmac
