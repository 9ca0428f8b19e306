import Derived.Test.YtllhbggipbefmacDRow
import Derived.RowKit3
namespace Go.Proofs.Ytllhbggipbefmac
open Go.ChangeShapes Go.WideShapes Go.ChangeAt Go.RowKit
set_option linter.unusedVariables false

theorem Try.infoInt : (Try.prog.info? 3).map (fun i => (i.zero, i.size, i.bytes)) = some (some (.int .i64 0), 1, 8) := by kernel_rfl
theorem shuffle_err (s n : Int) (h : n < 0 ∨ 4096 < n) (w : World) :
    Calls Try.prog 17 #[.int .u64 s, .int .i64 n] w fun e w' => e = .returned (.tuple #[.slice none 0 0, .int .u64 s, .int .i64 22]) ∧ w' = w := by
  go_enter Try.func17, Try.ntmps17
  by_cases h0 : n < 0
  · go_wp2
    go_returns
    exact ⟨rfl, rfl⟩
  · have h1 : 4096 < n := by omega
    go_wp2
    go_returns
    exact ⟨rfl, rfl⟩

def fst1 (k : Nat) : Nat → Value := ints (fun j => if j < k then (j : Int) else 0)
theorem fst1_step (k : Nat) : upd (fst1 k) k (.int .i64 (k : Int)) = fst1 (k + 1) := by
  funext j
  unfold upd fst1 ints
  by_cases h : j = k
  · subst h; simp
  · by_cases h2 : j < k
    · rw [if_neg h]; simp [h2, show j < k + 1 by omega]
    · rw [if_neg h]; simp [h2, show ¬ j < k + 1 by omega]
set_option maxRecDepth 100000 in
theorem shuffle_ok (s : Int) (hs : 0 ≤ s ∧ s ≤ 18446744073709551615) (n : Nat) (hn : n ≤ 4096) (w : World) :
    Calls Try.prog 17 #[.int .u64 s, .int .i64 n] w fun e w' => e = .returned (.tuple #[.slice (some ⟨w.heap.size, 0, none⟩) n n, .int .u64 (U (shuf n (B s)).2), .int .i64 0]) ∧ RowV w' w.heap.size 3 n (ints (shuf n (B s)).1) ∧ Below w.heap.size w w' := by
  obtain ⟨i3, hi3, hz0, hz1, hz2⟩ := info_parts Try.infoInt
  have d1 : decide ((n : Int) < 0) = false := by simp
  have d2 : decide ((4096 : Int) < n) = false := by simp; omega
  go_enter Try.func17, Try.ntmps17
  go_wp2_with (at_make; refine wpList_make_row _ rfl _ _ 39 rfl 3 i3 (.int .i64 0) Try.underlying39 hi3 hz0 hz1 rfl .i64 .i64 n rfl rfl (by rw [hz2]; omega) (by omega) ?_)
  clear d1 d2
  go_loopw [22] (fun vi wr => ∃ k : Nat, k ≤ n ∧ vi = .int .i64 k ∧ RowV wr w.heap.size 3 n (fst1 k) ∧ Below w.heap.size w wr) (fun vi _ => n - (intOf vi).toNat)
  case atStart => exact ⟨0, by omega, rfl, (row_made w n 3 (.int .i64 0)).congr (fun k _ => rfl), (Below.refl _ _).alloc (Nat.le_refl _) _⟩
  case round =>
    obtain ⟨k, hk, rfl, hrow, hb⟩ := hrel
    by_cases hlt : k < n
    · have hc := hrow.cell hlt
      have hf := hrow.frozen k
      have i0 : (0 : Int) ≤ (k : Int) := by omega
      have i1 : (k : Int) < (n : Int) := by omega
      go_wp2
      go_roundw
      case rel => exact ⟨k + 1, by omega, by go_num, by rw [← fst1_step]; exact hrow.set k hlt _, hb.setCell (p := ⟨w.heap.size, k, none⟩) (Nat.le_refl _) _⟩
      case measure => simp [intOf]; omega
    · obtain rfl : k = n := by omega
      go_wp2
      obtain ⟨wo, rfl⟩ : ∃ wo : World, wo = wr := ⟨_, rfl⟩
      go_loopw [0, 9] (fun vs vi wr => ∃ (c : Nat) (st : BitVec 64) (f : Nat → Int) (z : Int), vs = .int .u64 (U st) ∧ vi = .int .i64 z ∧ (z = (c : Int) ∧ c < k ∨ z = -1 ∧ k = 0 ∧ c = 0) ∧ shuf k (B s) = shufGo c f st ∧ RowV wr w.heap.size 3 k (ints f) ∧ Below w.heap.size w wr) (fun _ vi _ => (intOf vi + 1).toNat)
      case atStart =>
        refine ⟨k - 1, B s, fun j => (j : Int), (k : Int) - 1, by rw [U_B hs], rfl, by omega, rfl, hrow.congr (fun j hj => ?_), hb⟩
        unfold fst1 ints
        simp [hj]
      case round =>
        obtain ⟨c, st, f, z, rfl, rfl, hz, hsh, hrow2, hb2⟩ := hrel
        have HS : Hid (shuf k (B s) = shufGo c f st) := hsh
        clear hsh hrow hb hs
        by_cases hlt : 1 ≤ z
        · obtain ⟨rfl, hck⟩ : z = (c : Int) ∧ c < k := by omega
          clear hz
          have hc1 : 1 ≤ c := by omega
          have hbl := fun w => below_any (U st) ((c : Int) + 1) (U_rng st) (by omega) w
          have HB : Hid (∀ w : World, Calls Try.prog 7 #[.int .u64 (U st), .int .u64 ((c : Int) + 1)] w fun e w' => e = .returned (.tuple #[.int .u64 (jj c st : Nat), .int .u64 (U (rj c st)), .int .i64 0]) ∧ w' = w) := fun w => by
            have h := hbl w
            rw [B_U] at h
            rw [← jj_cast]
            exact h
          clear hbl
          have hj := jj_le c st
          obtain ⟨j, hje⟩ : ∃ j, jj c st = j := ⟨_, rfl⟩
          have HJ : Hid (jj c st = j) := hje
          rw [hje] at HB hj
          clear hje
          have hci := hrow2.cell (show c < k from hck)
          have hcj := hrow2.cell (show j < k by omega)
          have hfi := hrow2.frozen c
          have hfj := hrow2.frozen j
          have i0 : (0 : Int) ≤ (c : Int) := by omega
          have i1 : (c : Int) < (k : Int) := by omega
          have j0 : (0 : Int) ≤ (j : Int) := by omega
          have j1 : (j : Int) < (k : Int) := by omega
          obtain ⟨xi, hxi⟩ : ∃ x, f c = x := ⟨_, rfl⟩
          obtain ⟨xj, hxj⟩ : ∃ x, f j = x := ⟨_, rfl⟩
          have HR : Hid (RowV wr w.heap.size 3 k (ints f)) := hrow2
          simp only [ints] at hci hcj
          rw [hxi] at hci
          rw [hxj] at hcj
          have HXI : Hid (f c = xi) := hxi
          have HXJ : Hid (f j = xj) := hxj
          clear hxi hxj hrow2
          have hres : RowV ((wr.setCell ⟨w.heap.size, c, none⟩ (.int .i64 xj)).setCell ⟨w.heap.size, j, none⟩ (.int .i64 xi)) w.heap.size 3 k (ints (swp f c j)) := by
            have h1 := (HR.out.set c (by omega) (.int .i64 xj)).set j (by omega) (.int .i64 xi)
            rw [← HXI.out, ← HXJ.out, upd_swp] at h1
            rw [← HXI.out, ← HXJ.out]
            exact h1
          have hbr : Below w.heap.size w ((wr.setCell ⟨w.heap.size, c, none⟩ (.int .i64 xj)).setCell ⟨w.heap.size, j, none⟩ (.int .i64 xi)) :=
            (hb2.setCell (p := ⟨w.heap.size, c, none⟩) (Nat.le_refl _) _).setCell (p := ⟨w.heap.size, j, none⟩) (Nat.le_refl _) _
          have HRES : Hid (RowV ((wr.setCell ⟨w.heap.size, c, none⟩ (.int .i64 xj)).setCell ⟨w.heap.size, j, none⟩ (.int .i64 xi)) w.heap.size 3 k (ints (swp f c j))) := hres
          have HBR : Hid (Below w.heap.size w ((wr.setCell ⟨w.heap.size, c, none⟩ (.int .i64 xj)).setCell ⟨w.heap.size, j, none⟩ (.int .i64 xi))) := hbr
          have HSH : Hid (shuf k (B s) = shufGo (c - 1) (swp f c j) (rj c st)) := by
            have h1 := HS.out
            rw [show c = (c - 1) + 1 by omega, shufGo_succ, show (c - 1) + 1 = c by omega, HJ.out] at h1
            exact h1
          clear hres hbr HR HS HJ HXI HXJ
          by_cases hcje : c = j
          · subst hcje
            obtain rfl : xi = xj := by
              rw [hci] at hcj
              simpa using hcj
            go_wp2_with (go_at_call 7; with_reducible refine (HB.out _).mono ?_; rintro e w' ⟨rfl, hw⟩; subst w')
            go_region
            go_wp2
            go_roundw
            case rel => exact ⟨c - 1, rj c st, swp f c c, (c : Int) - 1, rfl, rfl, Or.inl ⟨by omega, by omega⟩, HSH.out, HRES.out.drew, HBR.out.drew⟩
            case measure => simp [intOf]
          · go_wp2_with (go_at_call 7; with_reducible refine (HB.out _).mono ?_; rintro e w' ⟨rfl, hw⟩; subst w')
            go_region
            go_wp2
            go_roundw
            case rel => exact ⟨c - 1, rj c st, swp f c j, (c : Int) - 1, rfl, rfl, Or.inl ⟨by omega, by omega⟩, HSH.out, HRES.out.drew, HBR.out.drew⟩
            case measure => simp [intOf]
        · have hc0 : c = 0 := by omega
          subst hc0
          have h1 := HS.out
          rw [shufGo_zero] at h1
          have HS1 : Hid (shuf k (B s) = (f, st)) := h1
          clear HS h1
          go_wp2
          go_returns
          refine ⟨?_, ?_, hb2⟩
          · rw [HS1.out]; rfl
          · rw [HS1.out]; exact hrow2
end Go.Proofs.Ytllhbggipbefmac
