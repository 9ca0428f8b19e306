import Derived.Test.YtkgifanlodlilaaGHZ
import Derived.Test.YtkgifanlodlilaaA1
import Derived.Test.YtkgifanlodlilaaW0
import Derived.Test.YtkgifanlodlilaaKC
import Derived.Test.YtkgifanlodlilaaG1
import Derived.Test.YtkgifanlodlilaaVB
import Derived.Test.YtkgifanlodlilaaSV1
import Derived.Deep.RegionLaw
import Derived.Laws.CopyOwn
import Derived.Shelf.Bits.Mul64
import Derived.Lib.Mul64
import Derived.Deep.RegionHeld3
import Derived.Deep.Cut
import Derived.Deep.DeepCutAuto
import Derived.Deep.CutBlock
import Derived.Deep.CutRange
import Derived.BigQuiet
import Derived.Handy
namespace Go.Proofs.Ytkgifanlodlilaa
open Go.ChangeShapes Go.WideShapes Go.ChangeAt Go.RowKit
set_option linter.unusedVariables false
set_option linter.unusedSimpArgs false


def IRow (W : World) (base g n cap : Nat) (f : Nat → Int) : Prop := Own W base 3 1 (.slice (some ⟨g, 0, none⟩) n cap) n (fun j => .int .i64 (f j))
variable {W W' : World} {base g n cap : Nat} {f h : Nat → Int}
theorem IRow.later (r : IRow W base g n cap f) (hb : Below W.heap.size W W') : IRow W' base g n cap f := Own.later r hb
theorem IRow.lt (r : IRow W base g n cap f) : base ≤ g ∧ g < W.heap.size := Own.lt r g rfl
theorem IRow.lower {base' : Nat} (r : IRow W base g n cap f) (hb : base' ≤ base) : IRow W base' g n cap f := Own.lower r hb
theorem IRow.congr (r : IRow W base g n cap f) (he : ∀ i, i < n → f i = h i) : IRow W base g n cap h := Own.congr r fun j hj => by rw [he j (by omega)]
theorem IRow.cell (r : IRow W base g n cap f) {i : Nat} (hi : i < n) : W.cell? ⟨g, i, none⟩ = some (.int .i64 (f i)) := Own.cell r (j := i) (by omega)
theorem IRow.fz (r : IRow W base g n cap f) (k : Nat) : W.frozen? ⟨g, k, none⟩ = false := by
  obtain ⟨cur, h1, _⟩ := Own.block r
  simp [World.frozen?, h1]
theorem IRow.kat (r : IRow W base g n cap f) : KAt W (some ⟨g, 0, none⟩) n f := .inr ⟨g, 0, rfl, r.lt.2, fun j hj => by rw [Nat.zero_add]; exact r.cell hj⟩
def setF (f : Nat → Int) (i : Nat) (x : Int) : Nat → Int := fun j => if j = i then x else f j
theorem IRow.put (r : IRow W base g n cap f) (i : Nat) (x : Int) : IRow (W.setCell ⟨g, i, none⟩ (.int .i64 x)) base g n cap (setF f i x) := by
  refine Own.congr (Own.put r i [.int .i64 x]) fun j hj => ?_
  unfold putF setF
  by_cases e : j = i
  · subst e
    rw [if_pos ⟨Nat.le_refl _, by simp⟩, if_pos rfl]
    simp
  · rw [if_neg (by simp; omega), if_neg e]
/-- another row keeps what it holds while one is written -/
theorem IRow.off (r : IRow W base g n cap f) {k i : Nat} {v : Value} (hk : k ≠ g) : IRow (W.setCell ⟨k, i, none⟩ v) base g n cap f := Own.far r fun j hj => by
  have e : j = g := by injection hj with hj; exact hj.symm
  subst e
  exact Below.heap_setCell _ _ _ _ (fun e => hk e.symm)
theorem IRow.mk0 {cur : List Value} (hg : W.heap[g]? = some (.cells cur.toArray 3 (0, 0))) (hl : cur.length = n) (hm : n ≤ maxLen) (hb : base ≤ g) (he : ∀ i, i < n → cur[i]? = some (.int .i64 (f i))) : IRow W base g n n f := by
  refine Own.mk' hg (by simp [hl]) (Nat.le_refl _) hm hb fun j hj => ?_
  have := he j (by omega)
  simpa using this
theorem drewG (w : World) : Below w.heap.size w w.drew := ⟨rfl, rfl, rfl, Nat.le_refl _, fun _ _ => rfl⟩
theorem gmeas {n k : Nat} (h : k < n) : n - (intOf (.int .i64 ((k : Int) + 1))).toNat < n - (intOf (.int .i64 (k : Int))).toNat := by
  simp only [intOf]
  omega
/-! ### the least of a row, the first of them -/
def lowI (f : Nat → Int) : Nat → Nat
  | 0 => 0
  | k + 1 => if f (k + 1) < f (lowI f k) then k + 1 else lowI f k
theorem lowI_le (f : Nat → Int) : ∀ k, lowI f k ≤ k
  | 0 => Nat.le_refl _
  | k + 1 => by
    have := lowI_le f k
    unfold lowI
    split <;> omega
theorem lowI_min (f : Nat → Int) : ∀ k j, j ≤ k → f (lowI f k) ≤ f j
  | 0, j, hj => by rw [show j = 0 by omega]; exact Int.le_refl _
  | k + 1, j, hj => by
    unfold lowI
    by_cases e : j = k + 1
    · subst e
      split <;> omega
    · have := lowI_min f k j (by omega)
      split <;> omega
theorem lowI_first (f : Nat → Int) : ∀ k j, j < lowI f k → f (lowI f k) < f j
  | 0, j, hj => by simp [lowI] at hj
  | k + 1, j, hj => by
    unfold lowI at hj ⊢
    by_cases e : f (k + 1) < f (lowI f k)
    · rw [if_pos e] at hj ⊢
      have := lowI_min f k j (by omega)
      omega
    · rw [if_neg e] at hj ⊢
      exact lowI_first f k j hj
theorem lowI_step (f : Nat → Int) (k : Nat) : (if f (k + 1) < f (lowI f k) then f (k + 1) else f (lowI f k)) = f (lowI f (k + 1)) := by
  show _ = f (if f (k + 1) < f (lowI f k) then k + 1 else lowI f k)
  split <;> rfl
theorem lowI_congr {f h : Nat → Int} : ∀ {k}, (∀ i, i ≤ k → f i = h i) → lowI f k = lowI h k
  | 0, _ => rfl
  | k + 1, he => by
    have e1 := lowI_congr (f := f) (h := h) (k := k) fun i hi => he i (by omega)
    have h1 := lowI_le h k
    unfold lowI
    rw [e1, he (k + 1) (Nat.le_refl _), he (lowI h k) (by omega)]
set_option maxRecDepth 100000 in
theorem smin_any (q : Option Addr) (n c : Nat) (K : Nat → Int) (hn : 1 ≤ n) (hn2 : n ≤ 64) (w : World) (h : KAt w q n K) : Calls Try.prog 36 #[.slice q n c] w fun e w' => e = .returned (.int .i64 (K (lowI K (n - 1)))) ∧ w' = w := by
  obtain hz | ⟨g, o, rfl, hl, hc⟩ := h
  · omega
  have HC : Hid (∀ j, j < n → w.cell? ⟨g, o + j, none⟩ = some (.int .i64 (K j))) := hc
  have x0 := hc 0 (by omega)
  rw [Nat.add_zero] at x0
  have d0 : decide ((n : Int) < 1) = false := by simp; omega
  have i1 : (0 : Int) < (n : Int) := by omega
  clear hc
  go_enter Try.func36, Try.ntmps36
  go_wp2_with fail
  go_loopw [3, 4] (fun x y wr => ∃ (m : Int) (i : Nat), x = .int .i64 m ∧ y = .int .i64 (i : Int) ∧ 1 ≤ i ∧ i ≤ n ∧ m = K (lowI K (i - 1)) ∧ wr = w) (fun _ y _ => n - (intOf y).toNat)
  case atStart => exact ⟨_, 1, rfl, rfl, by omega, by omega, rfl, rfl⟩
  case round =>
    obtain ⟨m, i, rfl, rfl, hi1, hi2, hm9, hwr⟩ := hrel
    subst wr
    have HH : Hid (m = K (lowI K (i - 1))) := hm9
    clear hm9
    by_cases hlt : i < n
    · have dlt : decide ((i : Int) < (n : Int)) = true := by simp; omega
      have ei : IntKind.i64.wrap ((i : Int) + 1) = (i : Int) + 1 := by rw [IntKind.wrap_i64]; omega
      have y0 := HC.out i hlt
      have i0 : (0 : Int) ≤ (i : Int) := by omega
      have i2 : (i : Int) < (n : Int) := by omega
      have hm := gmeas hlt
      obtain ⟨ki, hki⟩ : ∃ ki, K i = ki := ⟨_, rfl⟩
      rw [hki] at y0
      have HK : Hid (K i = ki) := hki
      have hstep : (if ki < m then ki else m) = K (lowI K i) := by
        obtain ⟨i', rfl⟩ : ∃ i', i = i' + 1 := ⟨i - 1, by omega⟩
        have := HH.out
        rw [show i' + 1 - 1 = i' by omega] at this
        rw [this, ← hki]
        exact lowI_step K i'
      clear hki
      by_cases h9 : ki < m
      · have dm : decide (ki < m) = true := by simp; omega
        rw [if_pos h9] at hstep
        have HS : Hid (ki = K (lowI K i)) := hstep
        clear hstep
        go_wp2_with fail
        exact ⟨⟨ki, i + 1, rfl, rfl, by omega, by omega, HS.out, (by first | exact rfl | exact trivial)⟩, hm⟩
      · have dm : decide (ki < m) = false := by simp; omega
        rw [if_neg h9] at hstep
        have HS : Hid (m = K (lowI K i)) := hstep
        clear hstep
        go_wp2_with fail
        exact ⟨⟨m, i + 1, rfl, rfl, by omega, by omega, HS.out, (by first | exact rfl | exact trivial)⟩, hm⟩
    · have dlt : decide ((i : Int) < (n : Int)) = false := by simp; omega
      obtain rfl : i = n := by omega
      go_wp2_with fail
      go_ret
      exact ⟨by rw [HH.out]; rfl, rfl⟩
set_option maxRecDepth 100000 in
theorem sindex_any (q : Option Addr) (n c : Nat) (K : Nat → Int) (hn : 1 ≤ n) (hn2 : n ≤ 64) (w : World) (h : KAt w q n K) : Calls Try.prog 35 #[.slice q n c, .int .i64 (K (lowI K (n - 1)))] w fun e w' => e = .returned (.int .i64 ((lowI K (n - 1) : Nat) : Int)) ∧ w' = w := by
  obtain hz | ⟨g, o, rfl, hl, hc⟩ := h
  · omega
  have HC : Hid (∀ j, j < n → w.cell? ⟨g, o + j, none⟩ = some (.int .i64 (K j))) := hc
  obtain ⟨x, hx⟩ : ∃ x, K (lowI K (n - 1)) = x := ⟨_, rfl⟩
  obtain ⟨l, hl9⟩ : ∃ l, lowI K (n - 1) = l := ⟨_, rfl⟩
  have h1 := lowI_le K (n - 1)
  have h2 := lowI_first K (n - 1)
  rw [hx]
  rw [hx] at h2
  rw [hl9] at hx h1 h2
  rw [hl9]
  have HX : Hid (K l = x ∧ ∀ j, j < l → x < K j) := ⟨hx, h2⟩
  clear hc hx h2 hl9
  go_enter Try.func35, Try.ntmps35
  go_wp2_with fail
  go_loopw [8] (fun y wr => ∃ (i : Nat), y = .int .i64 (i : Int) ∧ i ≤ l ∧ wr = w) (fun y _ => n - (intOf y).toNat)
  case atStart => exact ⟨0, rfl, by omega, rfl⟩
  case round =>
    obtain ⟨i, rfl, hi1, hwr⟩ := hrel
    subst wr
    have hlt : i < n := by omega
    have dlt : decide ((i : Int) < (n : Int)) = true := by simp; omega
    have ei : IntKind.i64.wrap ((i : Int) + 1) = (i : Int) + 1 := by rw [IntKind.wrap_i64]; omega
    have y0 := HC.out i hlt
    have i0 : (0 : Int) ≤ (i : Int) := by omega
    have i2 : (i : Int) < (n : Int) := by omega
    have hm := gmeas hlt
    by_cases e : i = l
    · subst e
      rw [HX.out.1] at y0
      have ex : (x == x) = true := by simp
      go_wp2_with fail
      go_ret
      exact ⟨rfl, rfl⟩
    · have hlt2 : i < l := by omega
      obtain ⟨ki, hki⟩ : ∃ ki, K i = ki := ⟨_, rfl⟩
      have h3 := HX.out.2 i hlt2
      rw [hki] at y0 h3
      have ex : (x == ki) = false := by simp; omega
      clear hki h3
      go_wp2_with fail
      exact ⟨⟨i + 1, rfl, hlt2, (by first | exact rfl | exact trivial)⟩, hm⟩
theorem mulG_any (x y : Nat) (hx : x < 18446744073709551616) (hy : y < 18446744073709551616) (w : World) :
    Calls Try.prog 59 #[.int .u64 x, .int .u64 y] w fun e w' => e = .returned (.tuple #[.int .u64 ((x * y / 18446744073709551616 : Nat) : Int), .int .u64 ((x * y % 18446744073709551616 : Nat) : Int)]) ∧ w' = w := Any.bits_Mul64 laysMul x y hx hy w
set_option maxRecDepth 100000 in
theorem mul1_any (n : Nat) (hn : n ≤ 64) (w : World) : Calls Try.prog 46 #[.int .u64 1, .int .u64 (n : Int)] w fun e w' => e = .returned (.tuple #[.int .u64 0, .int .u64 (n : Int)]) ∧ w' = w := by
  have HM : ∀ W, Calls Try.prog 59 #[.int .u64 1, .int .u64 (n : Int)] W fun e w' => e = .returned (.tuple #[.int .u64 0, .int .u64 (n : Int)]) ∧ w' = W := fun W => by
    have h := mulG_any 1 n (by omega) (by omega) W
    rw [show 1 * n / 18446744073709551616 = 0 by omega, show 1 * n % 18446744073709551616 = n by omega] at h
    exact h
  go_enter Try.func46, Try.ntmps46
  go_wp2_with (go_at_call 59; (with_reducible refine (HM _).mono ?_); rintro e w1 ⟨rfl, hw1⟩; subst w1)
  go_returns
  exact ⟨rfl, rfl⟩
def onesL (k n : Nat) : List Value := List.replicate k (.int .i64 1) ++ List.replicate (n - k) (.int .i64 0)
theorem onesL_len {k n : Nat} (h : k ≤ n) : (onesL k n).length = n := by unfold onesL; simp; omega
theorem onesL_at {k n i : Nat} (h : k ≤ n) (hi : i < k) : (onesL k n)[i]? = some (.int .i64 1) := by
  unfold onesL
  rw [List.getElem?_append_left (by simpa using hi), List.getElem?_replicate, if_pos hi]
theorem onesL_next {k n m : Nat} (h : k + m ≤ n) : splice (onesL k n) k (List.replicate m (.int .i64 1)) = onesL (k + m) n := by
  unfold splice onesL
  have e1 : (List.replicate k (Value.int .i64 1) ++ List.replicate (n - k) (Value.int .i64 0)).take k = List.replicate k (Value.int .i64 1) := by simp [List.take_append]
  have e2 : (List.replicate k (Value.int .i64 1) ++ List.replicate (n - k) (Value.int .i64 0)).drop (k + m) = List.replicate (n - (k + m)) (Value.int .i64 0) := by
    simp [List.drop_append]
    omega
  rw [List.length_replicate, e1, e2, ← List.append_assoc, List.replicate_append_replicate]
end Go.Proofs.Ytkgifanlodlilaa
