import Derived.Test.YtopggemomcoalaaGreatJM5
import Derived.Test.YtopggemomcoalaaGreatJDWaits
namespace Go.Proofs.YtopggemomcoalaaGreat
open Go.ChangeShapes Go.WideShapes Go.ChangeAt Go.RowKit
set_option linter.unusedVariables false

def u64ok (x : Int) : Prop := 0 ≤ x ∧ x ≤ 18446744073709551615
/-- a throw below n: the number, the dice behind it -/
def rollV (s n : Int) : Int × Int := (U (mx (blw 8 (B s) (18446744073709551616 % n))) % n, U (blw 8 (B s) (18446744073709551616 % n)))
theorem rollV_b (s n : Int) (hn : 0 < n ∧ n ≤ 9223372036854775807) : (0 ≤ (rollV s n).1 ∧ (rollV s n).1 ≤ 9223372036854775807) ∧ u64ok (rollV s n).2 := by
  unfold rollV
  have h1 := Int.emod_nonneg (U (mx (blw 8 (B s) (18446744073709551616 % n)))) (b := n) (by omega)
  have h2 := Int.emod_lt_of_pos (U (mx (blw 8 (B s) (18446744073709551616 % n)))) (b := n) hn.1
  exact ⟨⟨h1, by omega⟩, U_rng _⟩
theorem conv_u (n : Int) (h : 0 ≤ n ∧ n ≤ 9223372036854775807) : IntKind.u64.wrap n = n := by
  simp only [IntKind.wrap, IntKind.bits, IntKind.signed]
  simp
  omega
theorem conv_i (n : Int) (h : 0 ≤ n ∧ n ≤ 9223372036854775807) : wrap64 n = n := by unfold wrap64; omega
set_option maxRecDepth 100000 in
theorem roll_any (w0 w : World) (base mb nw : Nat) (C : Nat → Value) (M : Mc) (n : Int) (hn : 1 ≤ n ∧ n ≤ 9223372036854775807) (h : MW w0 w base mb nw C M) (hh : M.hi < 64) (hd : u64ok M.dice) :
    Calls Tryz.prog 101 #[.pointer (some ⟨mb, 0, none⟩), .int .i64 n] w fun e w' => e = .returned (.int .i64 0) ∧ MW w0 w' base mb nw C { pushM M (rollV M.dice n).1 with dice := (rollV M.dice n).2 } := by
  have c56 : w.cell? ⟨mb, 56, none⟩ = some (.int .u64 M.dice) := h.box.cell 56 (by omega)
  have HR : ∀ W, Calls Tryz.prog 113 #[.int .u64 M.dice, .int .u64 n] W fun e w' => e = .returned (.tuple #[.int .u64 (rollV M.dice n).1, .int .u64 (rollV M.dice n).2, .int .i64 0]) ∧ w' = W := fun W => below_any M.dice n hd ⟨by omega, by omega⟩ W
  obtain ⟨hx, hy⟩ := rollV_b M.dice n ⟨by omega, hn.2⟩
  generalize rollV M.dice n = rv at HR hx hy ⊢
  have e1 := conv_u n ⟨by omega, hn.2⟩
  have e2 := conv_i rv.1 hx
  have HP := pushW w0 w base mb nw C M rv.1 h hh
  have d1 : ¬ (n < 1) := by omega
  clear h
  go_enter Tryz.func101, Tryz.ntmps101
  go_wp2_with (first | (go_at_call 113; (with_reducible refine (HR _).mono ?_); rintro e w1 ⟨rfl, rfl⟩) | (go_at_call 98; (with_reducible refine HP.mono ?_); rintro e w2 ⟨rfl, o2, m2⟩; have q56 : w2.cell? ⟨mb, 56, none⟩ = some (.int .u64 M.dice) := m2.box.cell 56 (by omega); have qf := m2.box.frozen 56))
  go_ret
  exact ⟨rfl, m2.only (Only.set mb w2 _ _) (m2.box.setDice rv.2) rfl rfl rfl rfl rfl⟩
set_option maxRecDepth 100000 in
theorem roll_bad (mb : Nat) (n : Int) (hn : n < 1) (w : World) :
    Calls Tryz.prog 101 #[.pointer (some ⟨mb, 0, none⟩), .int .i64 n] w fun e w' => e = .returned (.int .i64 208) ∧ w' = w := by
  go_enter Tryz.func101, Tryz.ntmps101
  go_wp2
  go_ret
  exact ⟨rfl, rfl⟩
theorem wait_bad (mb : Nat) (n : Int) (hn : n < 1) (w : World) :
    Calls Tryz.prog 102 #[.pointer (some ⟨mb, 0, none⟩), .int .i64 n] w fun e w' => e = .returned (.int .i64 208) ∧ w' = w := by
  go_enter Tryz.func102, Tryz.ntmps102
  go_wp2
  go_ret
  exact ⟨rfl, rfl⟩
/-- a time of waiting: none, or the number and the dice behind it -/
def waitV (s mean : Int) : Option (Int × Int) :=
  if wq (xN s) mean.toNat < 79228162514264337593543950336 ∧ (((wq (xN s) mean.toNat / 4294967296 : Nat) : Int) ≤ 9223372036854775807) then some (((wq (xN s) mean.toNat / 4294967296 : Nat) : Int), U (nx (B s))) else none
theorem waitV_b {s mean : Int} {r : Int × Int} (h : waitV s mean = some r) : (0 ≤ r.1 ∧ r.1 ≤ 9223372036854775807) ∧ u64ok r.2 := by
  unfold waitV at h
  split at h
  · injection h with h
    subst h
    exact ⟨⟨by simp only []; omega, by simp only []; omega⟩, U_rng _⟩
  · cases h
set_option maxRecDepth 100000 in
theorem waitm_any (w0 w : World) (base mb nw : Nat) (C : Nat → Value) (M : Mc) (n : Int) (hn : 1 ≤ n ∧ n ≤ 9223372036854775807) (h : MW w0 w base mb nw C M) (hh : M.hi < 64) (hd : u64ok M.dice) (rv : Int × Int) (hv : waitV M.dice n = some rv) :
    Calls Tryz.prog 102 #[.pointer (some ⟨mb, 0, none⟩), .int .i64 n] w fun e w' => e = .returned (.int .i64 0) ∧ MW w0 w' base mb nw C { pushM M rv.1 with dice := rv.2 } := by
  have c56 : w.cell? ⟨mb, 56, none⟩ = some (.int .u64 M.dice) := h.box.cell 56 (by omega)
  obtain ⟨hx, hy⟩ := waitV_b hv
  have HR : ∀ W, Calls Tryz.prog 114 #[.int .u64 M.dice, .int .u64 n] W fun e w' => e = .returned (.tuple #[.int .u64 rv.1, .int .u64 rv.2, .int .i64 0]) ∧ Below W.heap.size W w' := fun W => by
    have := wait_any M.dice n ⟨by omega, by omega⟩ W
    unfold wV at this
    unfold waitV at hv
    split at hv
    · rename_i hc
      injection hv with hv
      subst hv
      rw [if_pos hc.1] at this
      exact this
    · cases hv
  have e1 := conv_u n ⟨by omega, hn.2⟩
  have e2 := conv_i rv.1 hx
  have d1 : ¬ (n < 1) := by omega
  have d2 : ¬ (9223372036854775807 < rv.1) := by omega
  clear hv
  go_enter Tryz.func102, Tryz.ntmps102
  go_wp2_with (first | (go_at_call 114; (with_reducible refine (HR _).mono ?_); rintro e w1 ⟨rfl, z1⟩; have HP := pushW w0 w1 base mb nw C M rv.1 (h.later z1) hh) | (go_at_call 98; (with_reducible refine HP.mono ?_); rintro e w2 ⟨rfl, o2, m2⟩; have q56 : w2.cell? ⟨mb, 56, none⟩ = some (.int .u64 M.dice) := m2.box.cell 56 (by omega); have qf := m2.box.frozen 56))
  go_ret
  exact ⟨rfl, m2.only (Only.set mb w2 _ _) (m2.box.setDice rv.2) rfl rfl rfl rfl rfl⟩
set_option maxRecDepth 100000 in
theorem waitm_none (w0 w : World) (base mb nw : Nat) (C : Nat → Value) (M : Mc) (n : Int) (hn : 1 ≤ n ∧ n ≤ 9223372036854775807) (h : MW w0 w base mb nw C M) (hd : u64ok M.dice) (hv : waitV M.dice n = none) :
    Calls Tryz.prog 102 #[.pointer (some ⟨mb, 0, none⟩), .int .i64 n] w fun e w' => e = .returned (.int .i64 206) ∧ MW w0 w' base mb nw C M := by
  have c56 : w.cell? ⟨mb, 56, none⟩ = some (.int .u64 M.dice) := h.box.cell 56 (by omega)
  have e1 := conv_u n ⟨by omega, hn.2⟩
  have d1 : ¬ (n < 1) := by omega
  have HW := fun W => wait_any M.dice n ⟨by omega, by omega⟩ W
  unfold wV at HW
  unfold waitV at hv
  by_cases hc : wq (xN M.dice) n.toNat < 79228162514264337593543950336
  · rw [if_pos hc] at HW
    have hc2 : 9223372036854775807 < ((wq (xN M.dice) n.toNat / 4294967296 : Nat) : Int) := by
      apply Classical.byContradiction
      intro hne
      rw [if_pos ⟨hc, by omega⟩] at hv
      cases hv
    generalize ((wq (xN M.dice) n.toNat / 4294967296 : Nat) : Int) = q at HW hc2
    clear hv hc
    go_enter Tryz.func102, Tryz.ntmps102
    go_wp2_with ((go_at_call 114; (with_reducible refine (HW _).mono ?_); rintro e w1 ⟨rfl, z1⟩))
    go_ret
    exact ⟨rfl, h.later z1⟩
  · rw [if_neg hc] at HW
    clear hv hc
    go_enter Tryz.func102, Tryz.ntmps102
    go_wp2_with ((go_at_call 114; (with_reducible refine (HW _).mono ?_); rintro e w1 ⟨rfl, z1⟩))
    go_ret
    exact ⟨rfl, h.later z1⟩
set_option maxRecDepth 100000 in
set_option maxHeartbeats 4000000 in
theorem do_37 (w0 w : World) (base mb nw : Nat) (C : Nat → Value) (M : Mc) (cl : Cl) (code : Value) (hC : CC C cl code) (a b f : Int) (M' : Mc) (h : MW w0 w base mb nw C M) (hh : 0 < M.hi) (h64 : M.hi ≤ 64) (HX : ∀ W, MW w0 W base mb nw C (popM M) → Calls Tryz.prog 101 #[.pointer (some ⟨mb, 0, none⟩), .int .i64 (topM M)] W fun e w' => e = .returned (.int .i64 f) ∧ RS w0 w' base mb nw C M f M') :
    Calls Tryz.prog 80 #[.pointer (some ⟨mb, 0, none⟩), .agg #[.int .i64 37, .int .i64 a, .int .i64 b]] w fun e w' => e = .returned (.int .i64 f) ∧ RS w0 w' base mb nw C M f (M') := by
  obtain ⟨wb, hwb⟩ : ∃ wb, w.alloc (.cells #[.int .i64 37, .int .i64 a, .int .i64 b] 36) = wb := ⟨_, rfl⟩
  obtain ⟨hbb, hbx, hsz⟩ := inbox w 37 a b wb hwb
  have HB : Hid (w.alloc (.cells #[.int .i64 37, .int .i64 a, .int .i64 b] 36) = wb) := hwb
  have hlt := h.box.lt.1
  have hb := h.later hbb
  clear hwb
  go_enter Tryz.func80, Tryz.ntmps80
  have HP := popW w0 wb base mb nw C M hb hh h64
  go_wp2_with (first | (go_at_call 79; rw [HB.out]; (with_reducible refine HP.mono ?_); rintro e w1 ⟨rfl, o1, m1⟩) | (go_at_call 101; (with_reducible refine (HX _ m1).mono ?_); rintro e w2 ⟨rfl, r2⟩))
  go_ret
  exact ⟨rfl, r2⟩
set_option maxRecDepth 100000 in
set_option maxHeartbeats 4000000 in
theorem do_41 (w0 w : World) (base mb nw : Nat) (C : Nat → Value) (M : Mc) (cl : Cl) (code : Value) (hC : CC C cl code) (a b f : Int) (M' : Mc) (h : MW w0 w base mb nw C M) (hh : 0 < M.hi) (h64 : M.hi ≤ 64) (HX : ∀ W, MW w0 W base mb nw C (popM M) → Calls Tryz.prog 102 #[.pointer (some ⟨mb, 0, none⟩), .int .i64 (topM M)] W fun e w' => e = .returned (.int .i64 f) ∧ RS w0 w' base mb nw C M f M') :
    Calls Tryz.prog 80 #[.pointer (some ⟨mb, 0, none⟩), .agg #[.int .i64 41, .int .i64 a, .int .i64 b]] w fun e w' => e = .returned (.int .i64 f) ∧ RS w0 w' base mb nw C M f (M') := by
  obtain ⟨wb, hwb⟩ : ∃ wb, w.alloc (.cells #[.int .i64 41, .int .i64 a, .int .i64 b] 36) = wb := ⟨_, rfl⟩
  obtain ⟨hbb, hbx, hsz⟩ := inbox w 41 a b wb hwb
  have HB : Hid (w.alloc (.cells #[.int .i64 41, .int .i64 a, .int .i64 b] 36) = wb) := hwb
  have hlt := h.box.lt.1
  have hb := h.later hbb
  clear hwb
  go_enter Tryz.func80, Tryz.ntmps80
  have HP := popW w0 wb base mb nw C M hb hh h64
  go_wp2_with (first | (go_at_call 79; rw [HB.out]; (with_reducible refine HP.mono ?_); rintro e w1 ⟨rfl, o1, m1⟩) | (go_at_call 102; (with_reducible refine (HX _ m1).mono ?_); rintro e w2 ⟨rfl, r2⟩))
  go_ret
  exact ⟨rfl, r2⟩
end Go.Proofs.YtopggemomcoalaaGreat
