import Derived.Test.YtpeojhhbinfekabCmp
import Derived.Test.YtpeojhhbinfekabBound
import Derived.ChangeOld
import Derived.Lib.SmallJoins
import Derived.Deep.DeepCutAuto
import Derived.WalkLawsBesides
namespace Go.Proofs.Ytpeojhhbinfekab
open Go.ChangeShapes Go.WideShapes Go.ChangeAt Go.RowKit Go.Joins

theorem keep9 {B Z : Nat} {w W w1 : World} {v0 v1 v2 v3 v4 v5 v6 v7 v8 : Value}
    (h : W.cell? ⟨B, 0, none⟩ = some v0 ∧ W.cell? ⟨B, 1, none⟩ = some v1 ∧ W.cell? ⟨B, 2, none⟩ = some v2 ∧ W.cell? ⟨B + 1, 0, none⟩ = some v3 ∧ W.cell? ⟨B + 1, 1, none⟩ = some v4 ∧ W.cell? ⟨B + 1, 2, none⟩ = some v5 ∧ W.cell? ⟨B + 2, 0, none⟩ = some v6 ∧ W.cell? ⟨B + 2, 1, none⟩ = some v7 ∧ W.cell? ⟨B + 2, 2, none⟩ = some v8 ∧ B < W.heap.size ∧ B + 1 < W.heap.size ∧ B + 2 < W.heap.size ∧ Below B w W)
    (hb : Below Z W w1) (hZ : B + 3 ≤ Z ∨ Z = W.heap.size) :
    w1.cell? ⟨B, 0, none⟩ = some v0 ∧ w1.cell? ⟨B, 1, none⟩ = some v1 ∧ w1.cell? ⟨B, 2, none⟩ = some v2 ∧ w1.cell? ⟨B + 1, 0, none⟩ = some v3 ∧ w1.cell? ⟨B + 1, 1, none⟩ = some v4 ∧ w1.cell? ⟨B + 1, 2, none⟩ = some v5 ∧ w1.cell? ⟨B + 2, 0, none⟩ = some v6 ∧ w1.cell? ⟨B + 2, 1, none⟩ = some v7 ∧ w1.cell? ⟨B + 2, 2, none⟩ = some v8 ∧ B < w1.heap.size ∧ B + 1 < w1.heap.size ∧ B + 2 < w1.heap.size ∧ Below B w w1 := by
  obtain ⟨h0, h1, h2, h3, h4, h5, h6, h7, h8, hz0, hz1, hz, hB⟩ := h
  have hs := hb.size
  have hZ2 : B + 3 ≤ Z := by omega
  refine ⟨?_, ?_, ?_, ?_, ?_, ?_, ?_, ?_, ?_, by omega, by omega, by omega, hB.trans (hb.mono (by omega))⟩
  · rw [hb.cell (by show B < _; omega)]; exact h0
  · rw [hb.cell (by show B < _; omega)]; exact h1
  · rw [hb.cell (by show B < _; omega)]; exact h2
  · rw [hb.cell (by show B + 1 < _; omega)]; exact h3
  · rw [hb.cell (by show B + 1 < _; omega)]; exact h4
  · rw [hb.cell (by show B + 1 < _; omega)]; exact h5
  · rw [hb.cell (by show B + 2 < _; omega)]; exact h6
  · rw [hb.cell (by show B + 2 < _; omega)]; exact h7
  · rw [hb.cell (by show B + 2 < _; omega)]; exact h8

theorem start9 (w : World) (v0 v1 v2 v3 v4 v5 v6 v7 v8 : Value) (T T' T'' : TypeId) (W : World) (h : W = (((w.alloc (.cells #[v0, v1, v2] T)).alloc (.cells #[v3, v4, v5] T')).alloc (.cells #[v6, v7, v8] T''))) :
    W.drew.cell? ⟨w.heap.size, 0, none⟩ = some v0 ∧ W.drew.cell? ⟨w.heap.size, 1, none⟩ = some v1 ∧ W.drew.cell? ⟨w.heap.size, 2, none⟩ = some v2 ∧ W.drew.cell? ⟨w.heap.size + 1, 0, none⟩ = some v3 ∧ W.drew.cell? ⟨w.heap.size + 1, 1, none⟩ = some v4 ∧ W.drew.cell? ⟨w.heap.size + 1, 2, none⟩ = some v5 ∧ W.drew.cell? ⟨w.heap.size + 2, 0, none⟩ = some v6 ∧ W.drew.cell? ⟨w.heap.size + 2, 1, none⟩ = some v7 ∧ W.drew.cell? ⟨w.heap.size + 2, 2, none⟩ = some v8 ∧ w.heap.size < W.drew.heap.size ∧ w.heap.size + 1 < W.drew.heap.size ∧ w.heap.size + 2 < W.drew.heap.size ∧ Below w.heap.size w W.drew := by
  subst h
  refine ⟨?_, ?_, ?_, ?_, ?_, ?_, ?_, ?_, ?_, ?_, ?_, ?_, ((((Below.refl _ _).alloc (Nat.le_refl _) _).alloc (by simp) _).alloc (by simp <;> omega) _).drew⟩
  all_goals first | go_simp | (simp <;> omega)

theorem ret_boolO {b : Bool} (h : b = true) : Ending.returned (.bool b) = .returned (.bool true) := by rw [h]
theorem key_self (t s q : Int) : keyCmp t s q t s q = 0 := by simp [keyCmp, cmp_eq, orN]
theorem key_flip (t s q t' s' q' : Int) : keyCmp t' s' q' t s q = - keyCmp t s q t' s' q' := by
  unfold keyCmp orN cmpN
  repeat' split
  all_goals omega
theorem key_range (t s q t' s' q' : Int) : -1 ≤ keyCmp t s q t' s' q' ∧ keyCmp t s q t' s' q' ≤ 1 := by
  unfold keyCmp orN cmpN
  repeat' split
  all_goals omega
theorem key_zero (t s q t' s' q' : Int) (h : keyCmp t s q t' s' q' = 0) : t = t' ∧ s = s' ∧ q = q' := by
  unfold keyCmp orN cmpN at h
  repeat' split at h
  all_goals omega
theorem key_le (t s q t' s' q' : Int) : keyCmp t s q t' s' q' ≤ 0 ↔ (t < t' ∨ t = t' ∧ (s < s' ∨ s = s' ∧ q ≤ q')) := by
  unfold keyCmp orN cmpN
  repeat' split
  all_goals omega
theorem key_lt (t s q t' s' q' : Int) : keyCmp t s q t' s' q' < 0 ↔ (t < t' ∨ t = t' ∧ (s < s' ∨ s = s' ∧ q < q')) := by
  unfold keyCmp orN cmpN
  repeat' split
  all_goals omega
theorem key_trans (t s q t' s' q' t'' s'' q'' : Int) : 0 < keyCmp t s q t' s' q' ∨ 0 < keyCmp t' s' q' t'' s'' q'' ∨ keyCmp t s q t'' s'' q'' ≤ 0 := by
  have h1 := key_le t s q t' s' q'
  have h2 := key_le t' s' q' t'' s'' q''
  have h3 := key_le t s q t'' s'' q''
  omega
theorem key_trans' (t s q t' s' q' t'' s'' q'' : Int) : 0 ≤ keyCmp t s q t' s' q' ∨ 0 < keyCmp t' s' q' t'' s'' q'' ∨ keyCmp t s q t'' s'' q'' < 0 := by
  have h1 := key_lt t s q t' s' q'
  have h2 := key_le t' s' q' t'' s'' q''
  have h3 := key_lt t s q t'' s'' q''
  omega

set_option maxHeartbeats 2000000 in
set_option maxRecDepth 100000 in
theorem law_orderly (t s q t' s' q' t'' s'' q'' d : Int) (ht : 0 ≤ t ∧ t ≤ 18446744073709551615) (ht' : 0 ≤ t' ∧ t' ≤ 18446744073709551615) (hd : 0 ≤ d ∧ d ≤ 18446744073709551615) (w : World) :
    Calls Try.prog 3 #[.agg #[.int .u64 t, .int .i64 s, .int .u64 q], .agg #[.int .u64 t', .int .i64 s', .int .u64 q'], .agg #[.int .u64 t'', .int .i64 s'', .int .u64 q''], .int .u64 d] w fun e w' => e = .returned (.bool true) ∧ Below w.heap.size w w' := by
  have haa := key_self t s q
  have hflip := key_flip t s q t' s' q'
  have hr := key_range t s q t' s' q'
  have hz := key_zero t s q t' s' q'
  have hT1 := key_trans t s q t' s' q' t'' s'' q''
  have hT2 := key_trans' t s q t' s' q' t'' s'' q''
  obtain ⟨x, hx⟩ : ∃ x, keyCmp t s q t' s' q' = x := ⟨_, rfl⟩
  obtain ⟨y, hy⟩ : ∃ y, keyCmp t' s' q' t'' s'' q'' = y := ⟨_, rfl⟩
  obtain ⟨z, hz'⟩ : ∃ z, keyCmp t s q t'' s'' q'' = z := ⟨_, rfl⟩
  rw [hx] at hflip hr hz hT1 hT2
  rw [hy] at hT1 hT2
  rw [hz'] at hT1 hT2
  have HZ : Hid (x = 0 → t = t' ∧ s = s' ∧ q = q') := hz
  clear hz
  go_enter Try.func3, Try.ntmps3
  go_wp2
  go_region_held3 (fun w' => w'.cell? ⟨w.heap.size, 0, none⟩ = some (.int .u64 t) ∧ w'.cell? ⟨w.heap.size, 1, none⟩ = some (.int .i64 s) ∧ w'.cell? ⟨w.heap.size, 2, none⟩ = some (.int .u64 q) ∧ w'.cell? ⟨w.heap.size + 1, 0, none⟩ = some (.int .u64 t') ∧ w'.cell? ⟨w.heap.size + 1, 1, none⟩ = some (.int .i64 s') ∧ w'.cell? ⟨w.heap.size + 1, 2, none⟩ = some (.int .u64 q') ∧ w'.cell? ⟨w.heap.size + 2, 0, none⟩ = some (.int .u64 t'') ∧ w'.cell? ⟨w.heap.size + 2, 1, none⟩ = some (.int .i64 s'') ∧ w'.cell? ⟨w.heap.size + 2, 2, none⟩ = some (.int .u64 q'') ∧ w.heap.size < w'.heap.size ∧ w.heap.size + 1 < w'.heap.size ∧ w.heap.size + 2 < w'.heap.size ∧ Below w.heap.size w w') (first | (exact start9 _ _ _ _ _ _ _ _ _ _ _ _ _ _ rfl) | (refine keep9 ?_ hb (Or.inr rfl); assumption)) (first | (go_at_call 8; refine (compare_any _ _ _ _ _ _ _).mono ?_; rintro e w' ⟨rfl, hb⟩))
  rename_i hS
  clear hb
  go_upto_region 2 with fail
  go_cut [53] (fun c wx => c = .bool false ∧ wx.cell? ⟨w.heap.size, 0, none⟩ = some (.int .u64 t) ∧ wx.cell? ⟨w.heap.size, 1, none⟩ = some (.int .i64 s) ∧ wx.cell? ⟨w.heap.size, 2, none⟩ = some (.int .u64 q) ∧ wx.cell? ⟨w.heap.size + 1, 0, none⟩ = some (.int .u64 t') ∧ wx.cell? ⟨w.heap.size + 1, 1, none⟩ = some (.int .i64 s') ∧ wx.cell? ⟨w.heap.size + 1, 2, none⟩ = some (.int .u64 q') ∧ wx.cell? ⟨w.heap.size + 2, 0, none⟩ = some (.int .u64 t'') ∧ wx.cell? ⟨w.heap.size + 2, 1, none⟩ = some (.int .i64 s'') ∧ wx.cell? ⟨w.heap.size + 2, 2, none⟩ = some (.int .u64 q'') ∧ w.heap.size < wx.heap.size ∧ w.heap.size + 1 < wx.heap.size ∧ w.heap.size + 2 < wx.heap.size ∧ Below w.heap.size w wx)
  case first =>
    by_cases h1 : t = t'
    · subst h1
      by_cases h2 : s = s'
      · subst h2
        by_cases h3 : q = q'
        · subst h3
          obtain rfl : x = 0 := by rw [← hx]; exact key_self t s q
          go_wp2_with (go_at_call 8; refine (compare_any _ _ _ _ _ _ _).mono ?_; rintro e w' ⟨rfl, hb⟩; replace hS := keep9 hS hb (Or.inr rfl); clear hb)
          all_goals
            go_meet
            exact ⟨congrArg Value.bool (by first | rfl | (simp; omega)), hS⟩
        · have hx0 : ¬ x = 0 := fun e => h3 (HZ.out e).2.2
          go_wp2_with (go_at_call 8; refine (compare_any _ _ _ _ _ _ _).mono ?_; rintro e w' ⟨rfl, hb⟩; replace hS := keep9 hS hb (Or.inr rfl); clear hb)
          all_goals
            go_meet
            exact ⟨congrArg Value.bool (by first | rfl | (simp; omega)), hS⟩
      · have hx0 : ¬ x = 0 := fun e => h2 (HZ.out e).2.1
        go_wp2_with (go_at_call 8; refine (compare_any _ _ _ _ _ _ _).mono ?_; rintro e w' ⟨rfl, hb⟩; replace hS := keep9 hS hb (Or.inr rfl); clear hb)
        all_goals
          go_meet
          exact ⟨congrArg Value.bool (by first | rfl | (simp; omega)), hS⟩
    · have hx0 : ¬ x = 0 := fun e => h1 (HZ.out e).1
      go_wp2_with (go_at_call 8; refine (compare_any _ _ _ _ _ _ _).mono ?_; rintro e w' ⟨rfl, hb⟩; replace hS := keep9 hS hb (Or.inr rfl); clear hb)
      all_goals
        go_meet
        exact ⟨congrArg Value.bool (by first | rfl | (simp; omega)), hS⟩
  case rest =>
    clear hS
    obtain ⟨rfl, hS⟩ := hcut
    clear haa hflip HZ
    go_upto_region 4 with fail
    go_cut [75] (fun c wx => c = .bool false ∧ wx.cell? ⟨w.heap.size, 0, none⟩ = some (.int .u64 t) ∧ wx.cell? ⟨w.heap.size, 1, none⟩ = some (.int .i64 s) ∧ wx.cell? ⟨w.heap.size, 2, none⟩ = some (.int .u64 q) ∧ wx.cell? ⟨w.heap.size + 1, 0, none⟩ = some (.int .u64 t') ∧ wx.cell? ⟨w.heap.size + 1, 1, none⟩ = some (.int .i64 s') ∧ wx.cell? ⟨w.heap.size + 1, 2, none⟩ = some (.int .u64 q') ∧ wx.cell? ⟨w.heap.size + 2, 0, none⟩ = some (.int .u64 t'') ∧ wx.cell? ⟨w.heap.size + 2, 1, none⟩ = some (.int .i64 s'') ∧ wx.cell? ⟨w.heap.size + 2, 2, none⟩ = some (.int .u64 q'') ∧ w.heap.size < wx.heap.size ∧ w.heap.size + 1 < wx.heap.size ∧ w.heap.size + 2 < wx.heap.size ∧ Below w.heap.size w wx)
    case first =>
      go_wp2
      all_goals
        go_meet
        exact ⟨congrArg Value.bool (by first | rfl | (simp; omega)), hS⟩
    case rest =>
      clear hS
      obtain ⟨rfl, hS⟩ := hcut
      clear hT1 hT2 hr hx hy hz'
      have HB1 : Hid (∀ w, Calls Try.prog 10 #[.int .u64 t, .int .u64 d, .int .u64 18446744073709551615] w fun e w' => e = .returned (.int .u64 (bndN t d 18446744073709551615)) ∧ w' = w) := bound_any t d 18446744073709551615 ht hd (by omega)
      have HB2 : Hid (∀ w, Calls Try.prog 10 #[.int .u64 t, .int .u64 d, .int .u64 t'] w fun e w' => e = .returned (.int .u64 (bndN t d t')) ∧ w' = w) := bound_any t d t' ht hd ht'
      have HA : Hid (∀ w, Calls Try.prog 9 #[.int .u64 t, .int .u64 d] w fun e w' => e = .returned (.tuple #[.int .u64 (addN t d), .int .i64 (addE t d)]) ∧ w' = w) := add_any t d ht hd
      have hlast : keyCmp 1 0 0 0 0 0 = 1 := by decide
      by_cases hnt : t + d < t'
      · have en : bndN t d t' = t + d := by simp [bndN, hnt]
        by_cases c : t + d ≤ 18446744073709551615
        · have e1 : addN t d = t + d := by simp [addN, c]
          have e2 : addE t d = 0 := by simp [addE, c]
          have e3 : bndN t d 18446744073709551615 = t + d := by unfold bndN; split <;> omega
          by_cases d0 : 0 < d
          · have e4 : keyCmp t s q (t + d) s' q' = -1 := by
              have := (key_lt t s q (t + d) s' q').2 (Or.inl (by omega))
              have := key_range t s q (t + d) s' q'
              omega
            go_wp2_with fail
            refine (HA.out _).mono ?_
            rintro e w' ⟨rfl, rfl⟩
            go_wp2_with fail
            refine (HB1.out _).mono ?_
            rintro e w' ⟨rfl, rfl⟩
            go_wp2_with (first | (go_at_call 8; refine (compare_any _ _ _ _ _ _ _).mono ?_; rintro e w' ⟨rfl, hb⟩; first | (replace hS := keep9 hS hb (Or.inr rfl); clear hb) | (replace hS := keep9 (keep9 hS ((Below.refl _ _).alloc (Nat.le_refl _) _) (Or.inr rfl)) hb (Or.inr rfl); clear hb)) | (go_at_call 10; refine (HB2.out _).mono ?_; rintro e w' ⟨rfl, rfl⟩))
            all_goals
              go_ret
              exact ⟨ret_boolO (by first | rfl | (simp; omega)), by first | exact hS.2.2.2.2.2.2.2.2.2.2.2.2 | exact hS.2.2.2.2.2.2.2.2.2.2.2.2.alloc (by omega) _⟩
          · obtain rfl : d = 0 := by omega
            go_wp2_with fail
            refine (HA.out _).mono ?_
            rintro e w' ⟨rfl, rfl⟩
            go_wp2_with fail
            refine (HB1.out _).mono ?_
            rintro e w' ⟨rfl, rfl⟩
            go_wp2_with (first | (go_at_call 8; refine (compare_any _ _ _ _ _ _ _).mono ?_; rintro e w' ⟨rfl, hb⟩; first | (replace hS := keep9 hS hb (Or.inr rfl); clear hb) | (replace hS := keep9 (keep9 hS ((Below.refl _ _).alloc (Nat.le_refl _) _) (Or.inr rfl)) hb (Or.inr rfl); clear hb)) | (go_at_call 10; refine (HB2.out _).mono ?_; rintro e w' ⟨rfl, rfl⟩))
            all_goals
              go_ret
              exact ⟨ret_boolO (by first | rfl | (simp; omega)), by first | exact hS.2.2.2.2.2.2.2.2.2.2.2.2 | exact hS.2.2.2.2.2.2.2.2.2.2.2.2.alloc (by omega) _⟩
        · exact absurd (show t + d ≤ 18446744073709551615 by omega) c
      · have en : bndN t d t' = t' := by simp [bndN, hnt]
        by_cases c : t + d ≤ 18446744073709551615
        · have e1 : addN t d = t + d := by simp [addN, c]
          have e2 : addE t d = 0 := by simp [addE, c]
          have e3 : bndN t d 18446744073709551615 = t + d := by unfold bndN; split <;> omega
          by_cases d0 : 0 < d
          · have e4 : keyCmp t s q (t + d) s' q' = -1 := by
              have := (key_lt t s q (t + d) s' q').2 (Or.inl (by omega))
              have := key_range t s q (t + d) s' q'
              omega
            go_wp2_with fail
            refine (HA.out _).mono ?_
            rintro e w' ⟨rfl, rfl⟩
            go_wp2_with fail
            refine (HB1.out _).mono ?_
            rintro e w' ⟨rfl, rfl⟩
            go_wp2_with (first | (go_at_call 8; refine (compare_any _ _ _ _ _ _ _).mono ?_; rintro e w' ⟨rfl, hb⟩; first | (replace hS := keep9 hS hb (Or.inr rfl); clear hb) | (replace hS := keep9 (keep9 hS ((Below.refl _ _).alloc (Nat.le_refl _) _) (Or.inr rfl)) hb (Or.inr rfl); clear hb)) | (go_at_call 10; refine (HB2.out _).mono ?_; rintro e w' ⟨rfl, rfl⟩))
            all_goals
              go_ret
              exact ⟨ret_boolO (by first | rfl | (simp; omega)), by first | exact hS.2.2.2.2.2.2.2.2.2.2.2.2 | exact hS.2.2.2.2.2.2.2.2.2.2.2.2.alloc (by omega) _⟩
          · obtain rfl : d = 0 := by omega
            go_wp2_with fail
            refine (HA.out _).mono ?_
            rintro e w' ⟨rfl, rfl⟩
            go_wp2_with fail
            refine (HB1.out _).mono ?_
            rintro e w' ⟨rfl, rfl⟩
            go_wp2_with (first | (go_at_call 8; refine (compare_any _ _ _ _ _ _ _).mono ?_; rintro e w' ⟨rfl, hb⟩; first | (replace hS := keep9 hS hb (Or.inr rfl); clear hb) | (replace hS := keep9 (keep9 hS ((Below.refl _ _).alloc (Nat.le_refl _) _) (Or.inr rfl)) hb (Or.inr rfl); clear hb)) | (go_at_call 10; refine (HB2.out _).mono ?_; rintro e w' ⟨rfl, rfl⟩))
            all_goals
              go_ret
              exact ⟨ret_boolO (by first | rfl | (simp; omega)), by first | exact hS.2.2.2.2.2.2.2.2.2.2.2.2 | exact hS.2.2.2.2.2.2.2.2.2.2.2.2.alloc (by omega) _⟩
        · have e1 : addN t d = 0 := by simp [addN, c]
          have e2 : addE t d = 10 := by simp [addE, c]
          have e3 : bndN t d 18446744073709551615 = 18446744073709551615 := by unfold bndN; split <;> omega
          have hw := wrap_over t d ht.1 ht.2 hd.1 hd.2 c
          go_wp2_with fail
          refine (HA.out _).mono ?_
          rintro e w' ⟨rfl, rfl⟩
          go_wp2_with fail
          refine (HB1.out _).mono ?_
          rintro e w' ⟨rfl, rfl⟩
          go_wp2_with (first | (go_at_call 8; refine (compare_any _ _ _ _ _ _ _).mono ?_; rintro e w' ⟨rfl, hb⟩; first | (replace hS := keep9 hS hb (Or.inr rfl); clear hb) | (replace hS := keep9 (keep9 hS ((Below.refl _ _).alloc (Nat.le_refl _) _) (Or.inr rfl)) hb (Or.inr rfl); clear hb)) | (go_at_call 10; refine (HB2.out _).mono ?_; rintro e w' ⟨rfl, rfl⟩))
          all_goals
            go_ret
            exact ⟨ret_boolO (by first | rfl | (simp; omega)), by first | exact hS.2.2.2.2.2.2.2.2.2.2.2.2 | exact hS.2.2.2.2.2.2.2.2.2.2.2.2.alloc (by omega) _⟩

theorem stampOrderly_own : ownKnob Try.prog.godebug = none := by kernel_rfl
theorem stampOrderly_laidOut : laidOutB Try.prog = true := by kernel_rfl

set_option maxRecDepth 100000 in
theorem stampOrderly_lifted (os : Os) (started : os.Started) (H : Type) (enc : TypeId × Value → H) :
    ReturnsInHanded {} Try.checked os 3 .any (Rows.stampOrderlySpec.pre6 enc Try.prog Try.f3 Rows.stampOrderlyRow.domain false) (Rows.stampOrderlySpec.post enc Try.prog Try.f3 false true false false) := by
  refine returnsInHanded_of_change (C := Try.checked) stampOrderly_own started (by kernel_rfl) Try.func3
    (ChangeSpec.witness6 (enc := enc) (C := Try.checked) false ⟨#[], #[.agg #[.int .u64 0, .int .i64 0, .int .u64 0], .agg #[.int .u64 0, .int .i64 0, .int .u64 0], .agg #[.int .u64 0, .int .i64 0, .int .u64 0], .int .u64 0], []⟩ 8 (by kernel_rfl) (by kernel_rfl) (by kernel_rfl) (by kernel_rfl)) ?_
  intro W base args ds gs before hval0 hW hcnd hsz
  have hval : ∀ (j : Nat) t v, Try.f3.params[j]? = some t → args[j]? = some v → Value.okWide Try.prog W .any base t v := hval0
  have hW' := hW
  obtain ⟨p, q, hA0, hV, rfl, hfz, hnd⟩ := hW
  have hA : DataW.TrodAll enc Try.prog W 0 (fun _ => true) true Try.f3.params.toList args.toList ds p := hA0
  rw [Try.params3] at hA hval
  obtain ⟨v0, vs0, d0, ds0, p0, q0, hargs, rfl, rfl, h0, r0⟩ := trodAll_cons hA
  obtain ⟨v1, vs1, d1, ds1, p1, q1, rfl, rfl, rfl, h1, r1⟩ := trodAll_cons r0
  obtain ⟨v2, vs2, d2, ds2, p2, q2, rfl, rfl, rfl, h2, r2⟩ := trodAll_cons r1
  obtain ⟨v3, vs3, d3, ds3, p3, q3, rfl, rfl, rfl, h3, r3⟩ := trodAll_cons r2
  obtain ⟨rfl, rfl, rfl⟩ := trodAll_nil r3
  obtain rfl : args = #[v0, v1, v2, v3] := by cases args; simp_all
  obtain ⟨rfl, rfl⟩ := trodVars_none hV
  have k0 := h0
  have lt0 : ∀ x ∈ p0, x.block < W.heap.size := by obtain ⟨m, hm⟩ := k0; exact DataW.trod_lt m _ _ _ hm
  have k1 := h1
  have lt1 : ∀ x ∈ p1, x.block < W.heap.size := by obtain ⟨m, hm⟩ := k1; exact DataW.trod_lt m _ _ _ hm
  have k2 := h2
  have lt2 : ∀ x ∈ p2, x.block < W.heap.size := by obtain ⟨m, hm⟩ := k2; exact DataW.trod_lt m _ _ _ hm
  have k3 := h3
  have lt3 : ∀ x ∈ p3, x.block < W.heap.size := by obtain ⟨m, hm⟩ := k3; exact DataW.trod_lt m _ _ _ hm
  obtain ⟨c00, c01, c02, y00, y01, y02, m0, rfl, rfl, rfl, hy00, hy01, hy02⟩ := open_agg3 Try.underlying24 (by kernel_rfl) (by kernel_rfl : Try.prog.cellsOf 24 = 3) (hval 0 24 v0 rfl rfl) h0
  obtain ⟨t, e00, f00, w00⟩ := DataW.trod_int Try.underlying22 hy00
  obtain ⟨s, e01, f01, w01⟩ := DataW.trod_int Try.underlying3 hy01
  obtain ⟨q, e02, f02, w02⟩ := DataW.trod_int Try.underlying22 hy02
  simp only [List.cons.injEq, and_true] at e00 e01 e02
  subst e00 e01 e02
  obtain ⟨c10, c11, c12, y10, y11, y12, m1, rfl, rfl, rfl, hy10, hy11, hy12⟩ := open_agg3 Try.underlying24 (by kernel_rfl) (by kernel_rfl : Try.prog.cellsOf 24 = 3) (hval 1 24 v1 rfl rfl) h1
  obtain ⟨t', e10, f10, w10⟩ := DataW.trod_int Try.underlying22 hy10
  obtain ⟨s', e11, f11, w11⟩ := DataW.trod_int Try.underlying3 hy11
  obtain ⟨q', e12, f12, w12⟩ := DataW.trod_int Try.underlying22 hy12
  simp only [List.cons.injEq, and_true] at e10 e11 e12
  subst e10 e11 e12
  obtain ⟨c20, c21, c22, y20, y21, y22, m2, rfl, rfl, rfl, hy20, hy21, hy22⟩ := open_agg3 Try.underlying24 (by kernel_rfl) (by kernel_rfl : Try.prog.cellsOf 24 = 3) (hval 2 24 v2 rfl rfl) h2
  obtain ⟨t'', e20, f20, w20⟩ := DataW.trod_int Try.underlying22 hy20
  obtain ⟨s'', e21, f21, w21⟩ := DataW.trod_int Try.underlying3 hy21
  obtain ⟨q'', e22, f22, w22⟩ := DataW.trod_int Try.underlying22 hy22
  simp only [List.cons.injEq, and_true] at e20 e21 e22
  subst e20 e21 e22
  obtain ⟨d, rfl, rfl, rfl, w3⟩ := open_int Try.underlying22 (hval 3 22 v3 rfl rfl) h3
  clear hA0 hval0
  refine (law_orderly t s q t' s' q' t'' s'' q'' d (bounds_u64 w00) (bounds_u64 w10) (bounds_u64 w3) W).mono fun e W' ⟨he, bel⟩ => ?_
  subst he
  exact ⟨_, rfl, _, _, _, [], _, [], hW', trodAll_mk1 (shut_bool Try.underlying4 _), (trodAll_cons_mk (Below.trod stampOrderly_laidOut (by kernel_rfl) (of_decide_eq_true (by kernel_rfl)) k0 bel lt0) (trodAll_cons_mk (Below.trod stampOrderly_laidOut (by kernel_rfl) (of_decide_eq_true (by kernel_rfl)) k1 bel lt1) (trodAll_cons_mk (Below.trod stampOrderly_laidOut (by kernel_rfl) (of_decide_eq_true (by kernel_rfl)) k2 bel lt2) (trodAll_cons_mk (Below.trod stampOrderly_laidOut (by kernel_rfl) (of_decide_eq_true (by kernel_rfl)) k3 bel lt3) trodAll_mk0)))), rfl, bel.frame _, fun h => by cases h⟩

theorem stampOrderly_holds : Rows.StampOrderlySaid :=
  OpenClaim.holds_of_wide 3 Try.f3 rfl rfl rfl rfl rfl rfl rfl ⟨rfl, rfl, rfl, rfl, rfl⟩ rfl rfl rfl rfl rfl (by kernel_rfl) Try.func3 (by kernel_rfl)
    (of_decide_eq_true (by kernel_rfl)) (by unfold Func.isWrapper; first | (rw [if_pos (by decide +kernel)]; kernel_rfl) | (rw [if_neg (by decide +kernel)]; exact ⟨rfl, rfl⟩))
    (fun os started H enc _ => stampOrderly_lifted os started H enc)
#print axioms stampOrderly_holds
end Go.Proofs.Ytpeojhhbinfekab
