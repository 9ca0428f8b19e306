import Derived.Test.YtllhbggipbefmacDUnshift
namespace Go.Proofs.Ytllhbggipbefmac
open Go.ChangeShapes Go.WideShapes Go.ChangeAt Go.RowKit

def step8 (r : Nat) : Nat := (5 * r + 7) % 8
theorem nx_mod8 (s : BitVec 64) : (nx s).toNat % 8 = step8 (s.toNat % 8) := by
  unfold nx step8
  rw [BitVec.toNat_add, BitVec.toNat_mul]
  simp only [BitVec.toNat_ofNat]
  omega
def itr : Nat → Nat → Nat
  | 0, r => r
  | k + 1, r => itr k (step8 r)
theorem itr_ne : ∀ j, j < 7 → ∀ r, r < 8 → itr (j + 1) r ≠ r := by decide
theorem blw_itr (W : Int) : ∀ k t, ∃ j, j ≤ k ∧ (0 < k → 0 < j) ∧ (blw k t W).toNat % 8 = itr j (t.toNat % 8) := by
  intro k
  induction k with
  | zero => intro t; exact ⟨0, by omega, by omega, rfl⟩
  | succ k ih =>
    intro t
    by_cases h : U (mx (nx t)) < W
    · rw [blw_more h]
      obtain ⟨j, h1, h2, h3⟩ := ih (nx t)
      refine ⟨j + 1, by omega, by omega, ?_⟩
      rw [h3, nx_mod8]
      rfl
    · rw [blw_stop h]
      exact ⟨1, by omega, by omega, by rw [nx_mod8]; rfl⟩
theorem blw_moves (W : Int) (t : BitVec 64) : blw 7 t W ≠ t := by
  intro e
  obtain ⟨j, h1, h2, h3⟩ := blw_itr W 7 t
  rw [e] at h3
  have h4 := h2 (by omega)
  obtain ⟨i, rfl⟩ : ∃ i, j = i + 1 := ⟨j - 1, by omega⟩
  exact itr_ne i (by omega) _ (Nat.mod_lt _ (by omega)) h3.symm

theorem ok_any (e : Int) (w : World) :
    Calls Try.prog 12 #[.int .i64 e] w fun r w' => r = .returned (.bool (e == 0)) ∧ w' = w := by
  go_enter Try.func12, Try.ntmps12
  go_wp2
  go_ret
  exact ⟨rfl, rfl⟩

theorem fair_zero (x : Int) (w : World) :
    Calls Try.prog 3 #[.int .u64 x, .int .u64 0] w fun e w' => e = .returned (.bool true) ∧ Below w.heap.size w w' := by
  go_enter Try.func3, Try.ntmps3
  go_wp2_with (go_at_call 7; refine (below_zero _ _).mono ?_; rintro e w' ⟨rfl, rfl⟩)
  all_goals
    go_ret
    exact ⟨ret_boolD (by first | rfl | simp), Below.refl _ _⟩

theorem fair_low (x n W a s v t : Int) (hn : (n == 0) = false) (hx : x < W) (hv : v < n) (ht : ¬ t = a)
    (HU : Hid (∀ w : World, Calls Try.prog 10 #[.int .u64 x] w fun e w' => e = .returned (.int .u64 a) ∧ Below w.heap.size w w'))
    (HL : Hid (∀ w : World, Calls Try.prog 8 #[.int .u64 n] w fun e w' => e = .returned (.int .u64 W) ∧ w' = w))
    (HB : Hid (∀ w : World, Calls Try.prog 9 #[.int .u64 a] w fun e w' => e = .returned (.int .u64 s) ∧ w' = w))
    (HN : Hid (∀ w : World, Calls Try.prog 11 #[.int .u64 s] w fun e w' => e = .returned (.tuple #[.int .u64 a, .int .u64 x]) ∧ w' = w))
    (HW : Hid (∀ w : World, Calls Try.prog 7 #[.int .u64 s, .int .u64 n] w fun e w' => e = .returned (.tuple #[.int .u64 v, .int .u64 t, .int .i64 0]) ∧ w' = w)) (w : World) :
    Calls Try.prog 3 #[.int .u64 x, .int .u64 n] w fun e w' => e = .returned (.bool true) ∧ Below w.heap.size w w' := by
  go_enter Try.func3, Try.ntmps3
  go_wp2_with (first | (go_at_call 7; with_reducible refine (HW.out _).mono ?_; rintro e w' ⟨rfl, hw⟩; subst w') | (go_at_call 11; with_reducible refine (HN.out _).mono ?_; rintro e w' ⟨rfl, hw⟩; subst w') | (go_at_call 9; with_reducible refine (HB.out _).mono ?_; rintro e w' ⟨rfl, hw⟩; subst w') | (go_at_call 8; with_reducible refine (HL.out _).mono ?_; rintro e w' ⟨rfl, hw⟩; subst w') | (go_at_call 10; with_reducible refine (HU.out _).mono ?_; rintro e w1 ⟨rfl, hb1⟩) | (go_at_call 12; refine (ok_any _ _).mono ?_; rintro e w' ⟨rfl, hw⟩; subst w'))
  all_goals
    go_ret
    exact ⟨ret_boolD (by first | rfl | simp [ht]), hb1⟩

theorem fair_mid (x n W a s v u a2 s2 t2 : Int) (hx1 : 0 ≤ x) (hx2 : x + 1 ≤ 18446744073709551615) (hn : (n == 0) = false) (hn2 : n ≤ 18446744073709551615) (hx : W ≤ x) (hv0 : 0 ≤ v) (hv : v < n) (hu : u = (v + 1) % n)
    (HU : Hid (∀ w : World, Calls Try.prog 10 #[.int .u64 x] w fun e w' => e = .returned (.int .u64 a) ∧ Below w.heap.size w w'))
    (HU2 : Hid (∀ w : World, Calls Try.prog 10 #[.int .u64 (x + 1)] w fun e w' => e = .returned (.int .u64 a2) ∧ Below w.heap.size w w'))
    (HL : Hid (∀ w : World, Calls Try.prog 8 #[.int .u64 n] w fun e w' => e = .returned (.int .u64 W) ∧ w' = w))
    (HB : Hid (∀ w : World, Calls Try.prog 9 #[.int .u64 a] w fun e w' => e = .returned (.int .u64 s) ∧ w' = w))
    (HB2 : Hid (∀ w : World, Calls Try.prog 9 #[.int .u64 a2] w fun e w' => e = .returned (.int .u64 s2) ∧ w' = w))
    (HN : Hid (∀ w : World, Calls Try.prog 11 #[.int .u64 s] w fun e w' => e = .returned (.tuple #[.int .u64 a, .int .u64 x]) ∧ w' = w))
    (HW2 : Hid (∀ w : World, Calls Try.prog 7 #[.int .u64 s2, .int .u64 n] w fun e w' => e = .returned (.tuple #[.int .u64 u, .int .u64 t2, .int .i64 0]) ∧ w' = w))
    (HW : Hid (∀ w : World, Calls Try.prog 7 #[.int .u64 s, .int .u64 n] w fun e w' => e = .returned (.tuple #[.int .u64 v, .int .u64 a, .int .i64 0]) ∧ w' = w)) (w : World) :
    Calls Try.prog 3 #[.int .u64 x, .int .u64 n] w fun e w' => e = .returned (.bool true) ∧ Below w.heap.size w w' := by
  have HE : Hid (u = (v + 1) % n) := hu
  clear hu
  go_enter Try.func3, Try.ntmps3
  go_wp2_with (first | (go_at_call 7; (first | (with_reducible refine (HW.out _).mono ?_) | (with_reducible refine (HW2.out _).mono ?_)); rintro e w' ⟨rfl, hw⟩; subst w') | (go_at_call 11; with_reducible refine (HN.out _).mono ?_; rintro e w' ⟨rfl, hw⟩; subst w') | (go_at_call 9; (first | (with_reducible refine (HB.out _).mono ?_) | (with_reducible refine (HB2.out _).mono ?_)); rintro e w' ⟨rfl, hw⟩; subst w') | (go_at_call 8; with_reducible refine (HL.out _).mono ?_; rintro e w' ⟨rfl, hw⟩; subst w') | (go_at_call 10; first | (with_reducible refine (HU.out _).mono ?_; rintro e w1 ⟨rfl, hb1⟩) | (with_reducible refine (HU2.out _).mono ?_; rintro e w2 ⟨rfl, hb2⟩)) | (go_at_call 12; refine (ok_any _ _).mono ?_; rintro e w' ⟨rfl, hw⟩; subst w'))
  all_goals
    go_ret
    exact ⟨ret_boolD (by first | rfl | (rw [HE.out]; simp) | (rw [HE.out, ← Int.tmod_eq_emod_of_nonneg (by omega)]; simp)), by first | exact hb1.trans (hb2.mono hb1.size) | exact (hb1.trans (hb2.mono hb1.size)).drew⟩

theorem fair_top (n W a s v u a2 s2 t2 : Int)  (hn : (n == 0) = false) (hn2 : n ≤ 18446744073709551615) (hx : W ≤ 18446744073709551615) (hv0 : 0 ≤ v) (hv : v < n) (hu : u = (v + 1) % n)
    (HU : Hid (∀ w : World, Calls Try.prog 10 #[.int .u64 18446744073709551615] w fun e w' => e = .returned (.int .u64 a) ∧ Below w.heap.size w w'))
    (HU2 : Hid (∀ w : World, Calls Try.prog 10 #[.int .u64 W] w fun e w' => e = .returned (.int .u64 a2) ∧ Below w.heap.size w w'))
    (HL : Hid (∀ w : World, Calls Try.prog 8 #[.int .u64 n] w fun e w' => e = .returned (.int .u64 W) ∧ w' = w))
    (HB : Hid (∀ w : World, Calls Try.prog 9 #[.int .u64 a] w fun e w' => e = .returned (.int .u64 s) ∧ w' = w))
    (HB2 : Hid (∀ w : World, Calls Try.prog 9 #[.int .u64 a2] w fun e w' => e = .returned (.int .u64 s2) ∧ w' = w))
    (HN : Hid (∀ w : World, Calls Try.prog 11 #[.int .u64 s] w fun e w' => e = .returned (.tuple #[.int .u64 a, .int .u64 18446744073709551615]) ∧ w' = w))
    (HW2 : Hid (∀ w : World, Calls Try.prog 7 #[.int .u64 s2, .int .u64 n] w fun e w' => e = .returned (.tuple #[.int .u64 u, .int .u64 t2, .int .i64 0]) ∧ w' = w))
    (HW : Hid (∀ w : World, Calls Try.prog 7 #[.int .u64 s, .int .u64 n] w fun e w' => e = .returned (.tuple #[.int .u64 v, .int .u64 a, .int .i64 0]) ∧ w' = w)) (w : World) :
    Calls Try.prog 3 #[.int .u64 18446744073709551615, .int .u64 n] w fun e w' => e = .returned (.bool true) ∧ Below w.heap.size w w' := by
  have HE : Hid (u = (v + 1) % n) := hu
  clear hu
  go_enter Try.func3, Try.ntmps3
  go_wp2_with (first | (go_at_call 7; (first | (with_reducible refine (HW.out _).mono ?_) | (with_reducible refine (HW2.out _).mono ?_)); rintro e w' ⟨rfl, hw⟩; subst w') | (go_at_call 11; with_reducible refine (HN.out _).mono ?_; rintro e w' ⟨rfl, hw⟩; subst w') | (go_at_call 9; (first | (with_reducible refine (HB.out _).mono ?_) | (with_reducible refine (HB2.out _).mono ?_)); rintro e w' ⟨rfl, hw⟩; subst w') | (go_at_call 8; with_reducible refine (HL.out _).mono ?_; rintro e w' ⟨rfl, hw⟩; subst w') | (go_at_call 10; first | (with_reducible refine (HU.out _).mono ?_; rintro e w1 ⟨rfl, hb1⟩) | (with_reducible refine (HU2.out _).mono ?_; rintro e w2 ⟨rfl, hb2⟩)) | (go_at_call 12; refine (ok_any _ _).mono ?_; rintro e w' ⟨rfl, hw⟩; subst w'))
  all_goals
    go_ret
    exact ⟨ret_boolD (by first | rfl | (rw [HE.out]; simp) | (rw [HE.out, ← Int.tmod_eq_emod_of_nonneg (by omega)]; simp)), by first | exact hb1.trans (hb2.mono hb1.size) | exact (hb1.trans (hb2.mono hb1.size)).drew⟩

theorem law_fair (x n : Int) (hx : 0 ≤ x ∧ x ≤ 18446744073709551615) (hn : 0 ≤ n ∧ n ≤ 18446744073709551615) (w : World) :
    Calls Try.prog 3 #[.int .u64 x, .int .u64 n] w fun e w' => e = .returned (.bool true) ∧ Below w.heap.size w w' := by
  by_cases h0 : n = 0
  · subst h0; exact fair_zero x w
  · have hn1 : 0 < n ∧ n ≤ 18446744073709551615 := by omega
    have hb0 : (n == 0) = false := by simp [h0]
    obtain ⟨W, hW⟩ : ∃ W, 18446744073709551616 % n = W := ⟨_, rfl⟩
    have hW0 : 0 ≤ W := by rw [← hW]; exact Int.emod_nonneg _ (by omega)
    have hW1 : W < n := by rw [← hW]; exact Int.emod_lt_of_pos _ (by omega)
    have hL : ∀ w : World, Calls Try.prog 8 #[.int .u64 n] w fun e w' => e = .returned (.int .u64 W) ∧ w' = w := fun w => by rw [← hW]; exact left_any n hn1 w
    have hBe : ∀ (s : BitVec 64) (w : World), Calls Try.prog 7 #[.int .u64 (U s), .int .u64 n] w fun e w' => e = .returned (.tuple #[.int .u64 (U (mx (blw 8 s W)) % n), .int .u64 (U (blw 8 s W)), .int .i64 0]) ∧ w' = w := fun s w => by
      have := below_any (U s) n (U_rng s) hn1 w
      rw [hW, B_U] at this
      exact this
    have hBk : ∀ (s : BitVec 64) (w : World), Calls Try.prog 9 #[.int .u64 (U s)] w fun e w' => e = .returned (.int .u64 (U (bk s))) ∧ w' = w := fun s w => by
      have := back_any (U s) w
      rw [B_U] at this
      exact this
    have hNx : ∀ (y : Int) (hy : 0 ≤ y ∧ y ≤ 18446744073709551615) (w : World), Calls Try.prog 11 #[.int .u64 (U (bk (umx (B y))))] w fun e w' => e = .returned (.tuple #[.int .u64 (U (umx (B y))), .int .u64 y]) ∧ w' = w := fun y hy w => by
      have := next_any (U (bk (umx (B y)))) w
      rw [B_U, nx_bk, mx_umx, U_B hy] at this
      exact this
    have hHi : ∀ (y : Int) (hy : 0 ≤ y ∧ y ≤ 18446744073709551615) (hc : ¬ y < W) (w : World), Calls Try.prog 7 #[.int .u64 (U (bk (umx (B y)))), .int .u64 n] w fun e w' => e = .returned (.tuple #[.int .u64 (y % n), .int .u64 (U (umx (B y))), .int .i64 0]) ∧ w' = w := fun y hy hc w => by
      have e1 : blw 8 (bk (umx (B y))) W = umx (B y) := by
        rw [blw_stop (k := 7) (by rw [nx_bk, mx_umx, U_B hy]; exact hc), nx_bk]
      have := hBe (bk (umx (B y))) w
      rw [e1, mx_umx, U_B hy] at this
      exact this
    by_cases hc : x < W
    · refine fair_low x n W (U (umx (B x))) (U (bk (umx (B x)))) (U (mx (blw 8 (bk (umx (B x))) W)) % n) (U (blw 8 (bk (umx (B x))) W)) hb0 hc (Int.emod_lt_of_pos _ (by omega)) ?_ (fun w => unmix_any x hx w) hL (fun w => hBk _ w) (hNx x hx) (fun w => hBe _ w) w
      intro e
      have e2 := U_inj e
      rw [blw_more (k := 7) (by rw [nx_bk, mx_umx, U_B hx]; exact hc), nx_bk] at e2
      exact blw_moves W _ e2
    · by_cases ht : x + 1 ≤ 18446744073709551615
      · exact fair_mid x n W (U (umx (B x))) (U (bk (umx (B x)))) (x % n) ((x + 1) % n) (U (umx (B (x + 1)))) (U (bk (umx (B (x + 1))))) (U (umx (B (x + 1)))) hx.1 ht hb0 hn.2 (by omega) (Int.emod_nonneg _ (by omega)) (Int.emod_lt_of_pos _ (by omega)) (by rw [Int.emod_add_emod])
          (fun w => unmix_any x hx w) (fun w => unmix_any (x + 1) (by omega) w) hL (fun w => hBk _ w) (fun w => hBk _ w) (hNx x hx) (hHi (x + 1) (by omega) (by omega)) (hHi x hx hc) w
      · obtain rfl : x = 18446744073709551615 := by omega
        have hWn : ¬ W < W := by omega
        have hWr : 0 ≤ W ∧ W ≤ 18446744073709551615 := by omega
        refine fair_top n W (U (umx (B 18446744073709551615))) (U (bk (umx (B 18446744073709551615)))) (18446744073709551615 % n) (W % n) (U (umx (B W))) (U (bk (umx (B W)))) (U (umx (B W))) hb0 hn.2 (by omega) (Int.emod_nonneg _ (by omega)) (Int.emod_lt_of_pos _ (by omega)) ?_
          (fun w => unmix_any _ hx w) (fun w => unmix_any W hWr w) hL (fun w => hBk _ w) (fun w => hBk _ w) (hNx _ hx) (hHi W hWr hWn) (hHi _ hx hc) w
        rw [Int.emod_add_emod, ← hW, Int.emod_emod_of_dvd _ (Int.dvd_refl _)]
        rfl
end Go.Proofs.Ytllhbggipbefmac
