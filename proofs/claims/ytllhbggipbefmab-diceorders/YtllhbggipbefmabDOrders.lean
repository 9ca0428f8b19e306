import Derived.Test.YtllhbggipbefmabDShuf
namespace Go.Proofs.Ytllhbggipbefmab
open Go.ChangeShapes Go.WideShapes Go.ChangeAt Go.RowKit
set_option linter.unusedVariables false

theorem okO_any (e : Int) (w : World) :
    Calls Try.prog 9 #[.int .i64 e] w fun r w' => r = .returned (.bool (e == 0)) ∧ w' = w := by
  go_enter Try.func9, Try.ntmps9
  go_wp2
  go_ret
  exact ⟨rfl, rfl⟩
theorem Try.infoBool : (Try.prog.info? 4).map (fun i => (i.zero, i.size, i.bytes)) = some (some (.bool false), 1, 1) := by kernel_rfl

def seenB (f : Nat → Int) : Nat → Nat → Bool
  | 0, _ => false
  | k + 1, j => if f k = (j : Int) then true else seenB f k j
theorem seenB_at (f : Nat → Int) : ∀ k j, seenB f k j = true → ∃ i, i < k ∧ f i = (j : Int) := by
  intro k
  induction k with
  | zero => intro j h; simp [seenB] at h
  | succ k ih =>
    intro j h
    by_cases e : f k = (j : Int)
    · exact ⟨k, by omega, e⟩
    · rw [seenB, if_neg e] at h
      obtain ⟨i, h1, h2⟩ := ih j h
      exact ⟨i, by omega, h2⟩
def seenV (f : Nat → Int) (k : Nat) : Nat → Value := fun j => .bool (seenB f k j)
theorem seen_step (f : Nat → Int) (k y : Nat) (h : f k = (y : Int)) : upd (seenV f k) y (.bool true) = seenV f (k + 1) := by
  funext j
  unfold upd seenV
  rw [seenB, h]
  by_cases e : j = y
  · subst e; simp
  · rw [if_neg e, if_neg (by omega)]
theorem seen_not {f : Nat → Int} {n k y : Nat} (hp : permN n f) (hk : k < n) (h : f k = (y : Int)) : seenB f k y = false := by
  cases hb : seenB f k y with
  | false => rfl
  | true =>
    obtain ⟨i, h1, h2⟩ := seenB_at f k y hb
    have := hp.2 i k (by omega) hk (by rw [h2, h])
    omega

theorem orders_err (s n : Int) (h : n < 0 ∨ 4096 < n) (w : World) :
    Calls Try.prog 3 #[.int .u64 s, .int .i64 n] w fun e w' => e = .returned (.bool true) ∧ Below w.heap.size w w' := by
  have HS : Hid (∀ w, Calls Try.prog 8 #[.int .u64 s, .int .i64 n] w fun e w' => e = .returned (.tuple #[.slice none 0 0, .int .u64 s, .int .i64 22]) ∧ w' = w) := fun w => shuffle_err s n h w
  by_cases h0 : n < 0
  · clear h
    go_enter Try.func3, Try.ntmps3
    go_wp2_with (go_at_call 8; with_reducible refine (HS.out _).mono ?_; rintro e w' ⟨rfl, hw⟩; subst w')
    go_ret
    exact ⟨rfl, Below.refl _ _⟩
  · have h1 : 4096 < n := by omega
    clear h
    go_enter Try.func3, Try.ntmps3
    go_wp2_with (go_at_call 8; with_reducible refine (HS.out _).mono ?_; rintro e w' ⟨rfl, hw⟩; subst w')
    go_ret
    exact ⟨rfl, Below.refl _ _⟩

set_option maxRecDepth 100000 in
theorem orders_ok (s t : Int) (n : Nat) (f : Nat → Int) (hn : n ≤ 4096) (hp : Hid (permN n f))
    (HS : Hid (∀ w : World, Calls Try.prog 8 #[.int .u64 s, .int .i64 n] w fun e w' => e = .returned (.tuple #[.slice (some ⟨w.heap.size, 0, none⟩) n n, .int .u64 t, .int .i64 0]) ∧ RowV w' w.heap.size 3 n (ints f) ∧ Below w.heap.size w w')) (w : World) :
    Calls Try.prog 3 #[.int .u64 s, .int .i64 n] w fun e w' => e = .returned (.bool true) ∧ Below w.heap.size w w' := by
  obtain ⟨i4, hi4, hz0, hz1, hz2⟩ := info_parts Try.infoBool
  have d1 : decide ((n : Int) < 0) = false := by simp
  have d2 : decide ((4096 : Int) < n) = false := by simp; omega
  go_enter Try.func3, Try.ntmps3
  go_wp2_with (first | (go_at_call 8; with_reducible refine (HS.out _).mono ?_; rintro e w1 ⟨rfl, hr1, hb1⟩) | (go_at_call 9; refine (okO_any _ _).mono ?_; rintro e w' ⟨rfl, hw⟩; subst w') | (at_make; refine wpList_make_row _ rfl _ _ 28 rfl 4 i4 (.bool false) Try.underlying28 hi4 hz0 hz1 rfl .i64 .i64 n rfl rfl (by rw [hz2]; omega) (by omega) ?_))
  have hlt1 := hr1.lt
  have hr2 : RowV (w1.alloc (.cells (madeCells #[.bool false] n) 4)) w.heap.size 3 n (ints f) := hr1.below ((Below.refl w1.heap.size w1).alloc (Nat.le_refl _) _) hlt1
  have hs2 : RowV (w1.alloc (.cells (madeCells #[.bool false] n) 4)) w1.heap.size 4 n (seenV f 0) := (row_made w1 n 4 (.bool false)).congr (fun k _ => rfl)
  have hb2 : Below w.heap.size w (w1.alloc (.cells (madeCells #[.bool false] n) 4)) := hb1.alloc hb1.size _
  have hw1 : w.heap.size ≤ w1.heap.size := hb1.size
  clear HS d1 d2 hr1 hb1
  go_loopw [9] (fun vi wr => ∃ k : Nat, k ≤ n ∧ vi = .int .i64 k ∧ RowV wr w.heap.size 3 n (ints f) ∧ RowV wr w1.heap.size 4 n (seenV f k) ∧ Below w.heap.size w wr) (fun vi _ => n - (intOf vi).toNat)
  case atStart => exact ⟨0, by omega, rfl, hr2, hs2, hb2⟩
  case round =>
    obtain ⟨k, hk, rfl, hr, hse, hb⟩ := hrel
    clear hr2 hs2 hb2
    by_cases hlt : k < n
    · obtain ⟨y, hy⟩ : ∃ y : Nat, f k = (y : Int) := ⟨(f k).toNat, by have := (hp.out.1 k hlt).1; omega⟩
      have hyn : y < n := by have := (hp.out.1 k hlt).2; omega
      have hno := seen_not hp.out hlt hy
      have hc := hr.cell hlt
      have hsc := hse.cell hyn
      have hsf := hse.frozen y
      simp only [ints, hy] at hc
      simp only [seenV, hno] at hsc
      have i0 : (0 : Int) ≤ (k : Int) := by omega
      have i1 : (k : Int) < (n : Int) := by omega
      have j0 : (0 : Int) ≤ (y : Int) := by omega
      have j1 : (y : Int) < (n : Int) := by omega
      have j2 : decide ((y : Int) < 0) = false := by simp
      have j3 : decide ((n : Int) ≤ (y : Int)) = false := by simp; omega
      have HY : Hid (f k = (y : Int)) := hy
      have HNR : Hid (RowV wr w.heap.size 3 n (ints f)) := hr
      have HNS : Hid (RowV wr w1.heap.size 4 n (seenV f k)) := hse
      clear hy hno hr hse
      go_wp2
      go_roundw
      case rel => exact ⟨k + 1, by omega, by go_num, HNR.out.setOther (by omega), by rw [← seen_step f k y HY.out]; exact HNS.out.set y hyn _, hb.setCell (p := ⟨w1.heap.size, y, none⟩) hw1 _⟩
      case measure => simp [intOf]; omega
    · go_wp2
      go_ret
      exact ⟨rfl, hb⟩
theorem law_orders (s n : Int) (hs : 0 ≤ s ∧ s ≤ 18446744073709551615) (w : World) :
    Calls Try.prog 3 #[.int .u64 s, .int .i64 n] w fun e w' => e = .returned (.bool true) ∧ Below w.heap.size w w' := by
  by_cases h : n < 0 ∨ 4096 < n
  · exact orders_err s n h w
  · obtain ⟨m, rfl⟩ := Int.eq_ofNat_of_zero_le (show 0 ≤ n by omega)
    exact orders_ok s _ m _ (by omega) (perm_shuf m (B s)) (fun w => shuffle_ok s hs m (by omega) w) w
end Go.Proofs.Ytllhbggipbefmab
