import Derived.Test.YtieanhmkcbcdkaaM10
import Derived.Test.YtieanhmkcbcdkaaV6
namespace Go.Proofs.Ytieanhmkcbcdkaa
open Go.ChangeShapes Go.WideShapes Go.ChangeAt Go.RowKit
set_option linter.unusedVariables false

/-! ### all numbers stay in their ranges -/
def In64 (x : Int) : Prop := -9223372036854775808 ≤ x ∧ x ≤ 9223372036854775807
theorem in64_wrap (n : Int) : In64 (wrap64 n) := by unfold In64 wrap64; omega
theorem in64_kw (n : Int) : In64 (IntKind.i64.wrap n) := by rw [IntKind.wrap_i64]; unfold In64; omega
theorem in64_bits (op : BinOp) (a b : Int) : In64 (bits op IntKind.i64 a b) := by unfold bits; exact in64_kw _
theorem in64_tmod {a b : Int} (h : In64 a) : In64 (a.tmod b) := by
  unfold In64 at *
  rcases Int.lt_or_le a 0 with h0 | h0
  · have e : a.tmod b = -((-a).tmod b) := by rw [Int.neg_tmod, Int.neg_neg]
    have h1 := Int.tmod_nonneg (a := -a) b (by omega)
    have h2 : (-a).tmod b ≤ -a := by
      obtain ⟨n, hn⟩ := Int.eq_ofNat_of_zero_le (show 0 ≤ -a by omega)
      rw [hn]
      rcases Int.lt_or_le b 0 with hb | hb
      · obtain ⟨m, hm⟩ := Int.eq_ofNat_of_zero_le (show 0 ≤ -b by omega)
        have e2 : b = -(m : Int) := by omega
        rw [e2, Int.tmod_neg]
        have := Nat.mod_le n m
        rw [← Int.ofNat_tmod]
        omega
      · obtain ⟨m, rfl⟩ := Int.eq_ofNat_of_zero_le hb
        have := Nat.mod_le n m
        rw [← Int.ofNat_tmod]
        omega
    omega
  · have h1 := Int.tmod_nonneg (a := a) b h0
    have h2 : a.tmod b ≤ a := by
      obtain ⟨n, rfl⟩ := Int.eq_ofNat_of_zero_le h0
      rcases Int.lt_or_le b 0 with hb | hb
      · obtain ⟨m, hm⟩ := Int.eq_ofNat_of_zero_le (show 0 ≤ -b by omega)
        have e2 : b = -(m : Int) := by omega
        rw [e2, Int.tmod_neg]
        have := Nat.mod_le n m
        rw [← Int.ofNat_tmod]
        omega
      · obtain ⟨m, rfl⟩ := Int.eq_ofNat_of_zero_le hb
        have := Nat.mod_le n m
        rw [← Int.ofNat_tmod]
        omega
    omega
theorem in64_shr {a : Int} (h : In64 a) (k : Nat) : In64 (a / 2 ^ k) := by
  have hp : (0 : Int) < 2 ^ k := Int.pow_pos (by omega)
  unfold In64 at *
  refine ⟨(Int.le_ediv_iff_mul_le hp).2 ?_, ?_⟩
  · have : (1 : Int) ≤ 2 ^ k := hp
    have := Int.mul_le_mul_of_nonpos_left (show (-9223372036854775808 : Int) ≤ 0 by omega) this
    omega
  · rcases Int.lt_or_le a 0 with h0 | h0
    · have := Int.ediv_neg_of_neg_of_pos h0 hp
      omega
    · have := Int.ediv_le_self (a := a) (2 ^ k) h0
      omega
theorem in64_pair (o a b : Int) (h : isPair o) (ha : In64 a) (hb : In64 b) : In64 (pairV o a b).1 := by
  have z : In64 0 := ⟨by omega, by omega⟩
  have one : In64 1 := ⟨by omega, by omega⟩
  rcases h with rfl | rfl | rfl | rfl | rfl | rfl | rfl | rfl | rfl | rfl | rfl | rfl | rfl | rfl | rfl | rfl | rfl | rfl
  · show In64 (wrap64 (a + b))
    exact in64_wrap _
  · show In64 (wrap64 (a - b))
    exact in64_wrap _
  · show In64 (wrap64 (a * b))
    exact in64_wrap _
  · show In64 ((if b = 0 then (0, 201) else (wrap64 (a.tdiv b), 0)) : Int × Int).1
    by_cases c : b = 0
    · rw [if_pos c]; exact z
    · rw [if_neg c]; exact in64_wrap _
  · show In64 ((if b = 0 then (0, 201) else (a.tmod b, 0)) : Int × Int).1
    by_cases c : b = 0
    · rw [if_pos c]; exact z
    · rw [if_neg c]; exact in64_tmod ha
  · show In64 (bits BinOp.and IntKind.i64 a b)
    exact in64_bits _ _ _
  · show In64 (bits BinOp.or IntKind.i64 a b)
    exact in64_bits _ _ _
  · show In64 (bits BinOp.xor IntKind.i64 a b)
    exact in64_bits _ _ _
  · show In64 ((if b < 0 then (0, 202) else (IntKind.i64.wrap (a * 2 ^ min b.toNat 64), 0)) : Int × Int).1
    by_cases c : b < 0
    · rw [if_pos c]; exact z
    · rw [if_neg c]; exact in64_kw _
  · show In64 ((if b < 0 then (0, 202) else (a / 2 ^ min b.toNat 64, 0)) : Int × Int).1
    by_cases c : b < 0
    · rw [if_pos c]; exact z
    · rw [if_neg c]; exact in64_shr ha _
  · show In64 (if a = b then 1 else 0)
    by_cases c : a = b
    · rw [if_pos c]; exact one
    · rw [if_neg c]; exact z
  · show In64 (if a = b then 0 else 1)
    by_cases c : a = b
    · rw [if_pos c]; exact z
    · rw [if_neg c]; exact one
  · show In64 (if a < b then 1 else 0)
    by_cases c : a < b
    · rw [if_pos c]; exact one
    · rw [if_neg c]; exact z
  · show In64 (if a ≤ b then 1 else 0)
    by_cases c : a ≤ b
    · rw [if_pos c]; exact one
    · rw [if_neg c]; exact z
  · show In64 (if b < a then 1 else 0)
    by_cases c : b < a
    · rw [if_pos c]; exact one
    · rw [if_neg c]; exact z
  · show In64 (if b ≤ a then 1 else 0)
    by_cases c : b ≤ a
    · rw [if_pos c]; exact one
    · rw [if_neg c]; exact z
  · show In64 (if b < a then b else a)
    by_cases c : b < a
    · rw [if_pos c]; exact hb
    · rw [if_neg c]; exact ha
  · show In64 (if a < b then b else a)
    by_cases c : a < b
    · rw [if_pos c]; exact hb
    · rw [if_neg c]; exact ha
theorem in64_single (o a : Int) : In64 (singleV o a) := by
  have z : In64 0 := ⟨by omega, by omega⟩
  have one : In64 1 := ⟨by omega, by omega⟩
  unfold singleV
  repeat' split
  all_goals first | exact z | exact one | exact in64_wrap _ | exact in64_bits _ _ _
structure OkM (M : Mc) : Prop where
  st : ∀ j, In64 (M.st j)
  lo : ∀ j, In64 (M.lo j)
  wd : ∀ j, In64 (M.wd j)
  dice : u64ok M.dice
  sent : u64ok M.sent
  on : M.on ≤ 16
structure OkC (cl : Cl) : Prop where
  time : u64ok cl.time
  src : In64 cl.src
  dst : In64 cl.dst
  data : In64 cl.data
theorem in64_upd {f : Nat → Int} (h : ∀ j, In64 (f j)) (k : Nat) {x : Int} (hx : In64 x) : ∀ j, In64 (updI f k x j) := fun j => by
  unfold updI
  split
  · exact hx
  · exact h j
theorem OkM.push {M : Mc} (h : OkM M) {x : Int} (hx : In64 x) : OkM (pushM M x) := ⟨in64_upd h.st _ hx, h.lo, h.wd, h.dice, h.sent, h.on⟩
theorem OkM.pop {M : Mc} (h : OkM M) : OkM (popM M) := ⟨h.st, h.lo, h.wd, h.dice, h.sent, h.on⟩
theorem OkM.top {M : Mc} (h : OkM M) : In64 (topM M) := h.st _
theorem sendF_on {cl : Cl} {M : Mc} {D T : Int} (h : sendF cl M D T = 0) : M.on ≠ 16 := fun hc => by
  unfold sendF at h
  by_cases a1 : T < 0 ∨ cl.parts ≤ T
  · rw [if_pos a1] at h; cases h
  · rw [if_neg a1] at h
    by_cases a2 : D < 0 ∨ u64of D < cl.look
    · rw [if_pos a2] at h; cases h
    · rw [if_neg a2, if_pos hc] at h; cases h
theorem doM_ok (cl : Cl) (hc : OkC cl) (M : Mc) (h : OkM M) (o a b : Int) (ha : In64 a) (hf : doF cl M o a b = 0) (hn : o = 38 → 0 ≤ a ∧ a + b ≤ 64) : OkM (doM cl M o a b) := by
  unfold doM
  by_cases h1 : o = 1
  · rw [if_pos h1]; exact h.push ha
  rw [if_neg h1]
  by_cases h2 : o = 2
  · rw [if_pos h2]; exact h.pop
  rw [if_neg h2]
  by_cases h3 : o = 3
  · rw [if_pos h3]; exact h.push (h.wd _)
  rw [if_neg h3]
  by_cases h4 : o = 4
  · rw [if_pos h4]; exact ⟨h.st, h.lo, in64_upd h.wd _ h.top, h.dice, h.sent, h.on⟩
  rw [if_neg h4]
  by_cases h5 : o = 5
  · rw [if_pos h5]; exact h.pop.push (h.wd _)
  rw [if_neg h5]
  by_cases h6 : o = 6
  · rw [if_pos h6]; exact ⟨h.st, h.lo, in64_upd h.wd _ h.top, h.dice, h.sent, h.on⟩
  rw [if_neg h6]
  by_cases h7 : o = 7
  · rw [if_pos h7]; exact h.push (h.lo _)
  rw [if_neg h7]
  by_cases h8 : o = 8
  · rw [if_pos h8]; exact ⟨h.st, in64_upd h.lo _ h.top, h.wd, h.dice, h.sent, h.on⟩
  rw [if_neg h8]
  by_cases h9 : o = 9
  · rw [if_pos h9]; exact h.push hc.data
  rw [if_neg h9]
  by_cases h10 : o = 10
  · rw [if_pos h10]; exact h.push (in64_wrap _)
  rw [if_neg h10]
  by_cases h11 : o = 11
  · rw [if_pos h11]; exact h.push hc.dst
  rw [if_neg h11]
  by_cases h12 : o = 12
  · rw [if_pos h12]; exact h.push hc.src
  rw [if_neg h12]
  by_cases h38 : o = 38
  · rw [if_pos h38]
    have hx := hn h38
    have hy : ¬ (topM M < 0 ∨ b ≤ topM M) := fun hc' => by
      unfold doF at hf
      rw [if_neg (by omega), if_pos (.inr h38)] at hf
      unfold idxF at hf
      rw [if_pos hc'] at hf
      cases hf
    exact h.pop.push ⟨by omega, by omega⟩
  rw [if_neg h38]
  by_cases h37 : o = 37
  · rw [if_pos h37]
    have hr : ¬ topM M < 1 := fun hc' => by
      unfold doF at hf
      rw [if_neg (by omega), if_neg (by omega), if_neg (by omega), if_pos h37, if_pos hc'] at hf
      cases hf
    have hb := rollV_b M.dice (topM M) ⟨by omega, h.top.2⟩
    have hp := h.pop.push (x := (rollV M.dice (topM M)).1) ⟨by omega, hb.1.2⟩
    exact ⟨hp.st, hp.lo, hp.wd, hb.2, hp.sent, hp.on⟩
  rw [if_neg h37]
  by_cases h41 : o = 41
  · rw [if_pos h41]
    generalize hwv : waitV M.dice (topM M) = wv
    rcases wv with _ | r
    · exact h
    · have hb := waitV_b hwv
      have hp := h.pop.push (x := r.1) ⟨by omega, hb.1.2⟩
      exact ⟨hp.st, hp.lo, hp.wd, hb.2, hp.sent, hp.on⟩
  rw [if_neg h41]
  by_cases h39 : o = 39
  · rw [if_pos h39]
    have hz : sendF cl M (topM M) (topM (popM M)) = 0 := by
      unfold doF at hf
      rwa [if_neg (by omega), if_neg (by omega), if_neg (by omega), if_neg (by omega), if_neg (by omega), if_pos h39] at hf
    have := sendF_on hz
    exact ⟨h.st, h.lo, h.wd, h.dice, u64of_b _, by have := h.on; show M.on + 1 ≤ 16; omega⟩
  rw [if_neg h39]
  by_cases hs : o = 23 ∨ o = 24 ∨ o = 25 ∨ o = 34
  · rw [if_pos hs]; exact h.pop.push (in64_single _ _)
  rw [if_neg hs]
  by_cases hp : isPairB o = true
  · rw [if_pos hp]; exact h.pop.pop.push (in64_pair _ _ _ (isPair_of hp) h.pop.top h.top)
  rw [if_neg hp]
  exact h
end Go.Proofs.Ytieanhmkcbcdkaa
