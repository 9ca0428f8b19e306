import Derived.Test.YtkgifanlodlilaaGH1
import Derived.Deep.RegionLaw
import Derived.Laws.CopyOwn
import Derived.Deep.RegionHeld3
import Derived.Deep.Cut
import Derived.Deep.DeepCutAuto
import Derived.Deep.CutBlock
import Derived.Deep.CutRange
import Derived.BigQuiet
import Derived.Handy
namespace Go.Proofs.Ytkgifanlodlilaa
open Go.ChangeShapes Go.WideShapes Go.ChangeAt Go.RowKit
set_option linter.unusedVariables false
set_option linter.unusedSimpArgs false


theorem copy_ones {B g k n s c sc : Nat} {ad : Addr} {w0 W : World} (hg : W.heap[g]? = some (.cells (onesL k n).toArray 3 (0, 0))) (hk : k ≤ n) (hs : ∀ j, j < s → W.cell? (ad.add j) = some (.int .i64 1)) (hb : Below B w0 W) (hB : B ≤ g) :
    ∃ W', (Builtin.copy_ #[28, 28] 3 #[.slice (some ⟨g, k, none⟩) (n - k) c, .slice (some ad) s sc]).run Try.prog W = .ok (.int .i64 ((Nat.min s (n - k) : Nat) : Int)) W' ∧ W'.heap[g]? = some (.cells (onesL (k + Nat.min s (n - k)) n).toArray 3 (0, 0)) ∧ Below B w0 W' := by
  obtain ⟨m, hm⟩ : ∃ m, Nat.min s (n - k) = m := ⟨_, rfl⟩
  have hms : m ≤ s := by rw [← hm]; exact Nat.min_le_left _ _
  have hmn : m ≤ n - k := by rw [← hm]; exact Nat.min_le_right _ _
  have hr := run_copy_wide (P := Try.prog) W 28 28 3 3 1 g k (n - k) c ad s sc (onesL k n).toArray 3 (List.replicate m (.int .i64 1)) Try.underlying28 (by kernel_rfl) hg (by rw [hm]; simp) (fun j v hj => by
    rw [List.getElem?_replicate] at hj
    split at hj
    · injection hj with hj
      subst hj
      exact hs j (by omega)
    · cases hj) (by simp [onesL_len hk]; omega) (fun v hv => by
    obtain ⟨_, rfl⟩ := List.mem_replicate.1 hv
    rfl)
  rw [hm] at hr
  have hsp : ((onesL k n).toArray.toList.take k ++ List.replicate m (Value.int .i64 1) ++ (onesL k n).toArray.toList.drop (k + (List.replicate m (Value.int .i64 1)).length)) = onesL (k + m) n := by
    have := onesL_next (k := k) (n := n) (m := m) (by omega)
    unfold splice at this
    rw [← this]
    simp
  rw [hsp] at hr
  rw [hm]
  exact ⟨_, hr, setRow_heap W g _ _ 3 _ hg, below_setRow hb hB _⟩
theorem cell_row {W : World} {g j : Nat} {cur : List Value} {t : TypeId} {v : Value} (h : W.heap[g]? = some (.cells cur.toArray t (0, 0))) (hv : cur[j]? = some v) : W.cell? ⟨g, j, none⟩ = some v := by
  unfold World.cell?
  rw [h]
  simpa using hv
theorem made_ones (n : Nat) : (madeCells #[Value.int .i64 0] n) = (onesL 0 n).toArray := by
  unfold onesL madeCells
  apply Array.ext'
  simp
  apply List.ext_getElem?
  intro i
  simp [List.getElem?_replicate]
  split <;> simp_all [Nat.mod_one]
set_option maxRecDepth 100000 in
set_option maxHeartbeats 2000000 in
theorem repeat1_any (n gx cx : Nat) (hn : n ≤ 64) (w : World) (hx : w.cell? ⟨gx, 0, none⟩ = some (.int .i64 1)) (hgx : gx < w.heap.size) : Calls Try.prog 37 #[.slice (some ⟨gx, 0, none⟩) 1 cx, .int .i64 (n : Int)] w fun e w' => ∃ g, e = .returned (.slice (some ⟨g, 0, none⟩) n n) ∧ IRow w' w.heap.size g n n (fun _ => 1) ∧ Below w.heap.size w w' := by
  have d0 : decide ((n : Int) < 0) = false := by simp
  have e1 : IntKind.u64.wrap (n : Int) = (n : Int) := by rw [IntKind.wrap_u64]; omega
  have e2 : IntKind.i64.wrap (n : Int) = (n : Int) := by rw [IntKind.wrap_i64]; omega
  have d1 : decide ((9223372036854775807 : Int) < (n : Int)) = false := by simp; omega
  have d2 : decide (9223372036854775807 < n) = false := by simp; omega
  obtain ⟨i5, hi5, hz0, hz1, hz2⟩ := info_parts infoInt1
  have hrun := fun W => run_make_row (P := Try.prog) 28 3 i5 (.int .i64 0) Try.underlying28 hi5 hz0 hz1 rfl .i64 .i64 n (by rw [hz2]; omega) (by omega) W
  have HM := mul1_any n hn
  obtain ⟨w1, hc0, hg1, hb1⟩ := copy_ones (B := w.heap.size) (g := w.heap.size) (k := 0) (n := n) (s := 1) (c := n) (sc := cx) (ad := ⟨gx, 0, none⟩) (w0 := w) (W := w.alloc (.cells (madeCells #[Value.int .i64 0] n) 3)) (by rw [World.alloc_heap_new, made_ones]) (Nat.zero_le _) (fun j hj => by
    rw [show j = 0 by omega]
    exact (cell_below (a := ⟨gx, 0, none⟩) ((Below.refl _ w).alloc (Nat.le_refl _) _) hgx).trans hx) ((Below.refl _ w).alloc (Nat.le_refl _) _) (Nat.le_refl _)
  obtain ⟨k1, hk1⟩ : ∃ k1, Nat.min 1 n = k1 := ⟨_, rfl⟩
  rw [Nat.sub_zero, hk1] at hc0
  rw [Nat.sub_zero, Nat.zero_add, hk1] at hg1
  have hk2 : k1 ≤ n := by rw [← hk1]; exact Nat.min_le_right _ _
  have hk3 : n = 0 ∨ 1 ≤ k1 := by
    rcases Nat.eq_zero_or_pos n with h | h
    · exact .inl h
    · right; rw [← hk1]; exact Nat.le_min.2 ⟨Nat.le_refl _, h⟩
  have H1 : Hid (w1.heap[w.heap.size]? = some (.cells (onesL k1 n).toArray 3 (0, 0)) ∧ Below w.heap.size w w1) := ⟨hg1, hb1⟩
  clear hx hgx hg1 hb1 hi5 hz0 hz1 hz2 hk1
  go_enter Try.func37, Try.ntmps37
  go_wp2_with (go_at_call 46; (with_reducible refine (HM _).mono ?_); rintro e w1 ⟨rfl, hw1⟩; subst w1)
  go_loopw [8] (fun y wr => ∃ (k : Nat), y = .int .i64 (k : Int) ∧ k ≤ n ∧ (n = 0 ∨ 1 ≤ k) ∧ wr.heap[w.heap.size]? = some (.cells (onesL k n).toArray 3 (0, 0)) ∧ Below w.heap.size w wr) (fun y _ => n - (intOf y).toNat)
  case atStart => exact ⟨k1, rfl, hk2, hk3, H1.out.1, H1.out.2⟩
  case round =>
    obtain ⟨k, rfl, hk, hk0, hgr, hbr⟩ := hrel
    by_cases hlt : k < n
    · have dlt : decide ((k : Int) < (n : Int)) = true := by simp; omega
      have i0 : (0 : Int) ≤ (k : Int) := by omega
      have i2 : (k : Int) ≤ (n : Int) := by omega
      have hne : ¬ (n = k) := by omega
      have hne2 : ¬ (n - k = 0) := by omega
      obtain ⟨w2, hc2, hg2, hb2⟩ := copy_ones (B := w.heap.size) (g := w.heap.size) (k := k) (n := n) (s := k) (c := n - k) (sc := n) (ad := ⟨w.heap.size, 0, none⟩) (w0 := w) (W := wr.drew) hgr hk (fun j hj => by
        rw [addr_add0, Nat.zero_add]
        exact cell_row (W := wr) hgr (onesL_at (n := n) hk hj)) (hbr.trans (drewG _ |>.mono hbr.size)) (Nat.le_refl _)
      obtain ⟨m, hm⟩ : ∃ m, Nat.min k (n - k) = m := ⟨_, rfl⟩
      rw [hm] at hc2 hg2
      have hm1 : m ≤ n - k := by rw [← hm]; exact Nat.min_le_right _ _
      have hm2 : 1 ≤ m := by rw [← hm]; exact Nat.le_min.2 ⟨by omega, by omega⟩
      have e3 : IntKind.i64.wrap ((k : Int) + (m : Int)) = ((k + m : Nat) : Int) := by rw [IntKind.wrap_i64]; omega
      have e4 : (n : Int) - (k : Int) = ((n - k : Nat) : Int) := by omega
      have H2 : Hid (w2.heap[w.heap.size]? = some (.cells (onesL (k + m) n).toArray 3 (0, 0)) ∧ Below w.heap.size w w2) := ⟨hg2, hb2⟩
      clear hgr hbr hg2 hb2 hm H1
      go_upto_region 9 with fail
      go_region
      go_wp2_with fail
      exact ⟨⟨k + m, rfl, by omega, .inr (by omega), H2.out.1, H2.out.2⟩, by simp only [intOf]; omega⟩
    · have dlt : decide ((k : Int) < (n : Int)) = false := by simp; omega
      obtain rfl : k = n := by omega
      have H2 : Hid (wr.heap[w.heap.size]? = some (.cells (onesL k k).toArray 3 (0, 0)) ∧ Below w.heap.size w wr) := ⟨hgr, hbr⟩
      clear hgr hbr H1
      go_wp2_with fail
      go_ret
      exact ⟨_, rfl, IRow.mk0 H2.out.1 (onesL_len (Nat.le_refl _)) (by unfold maxLen; omega) (Nat.le_refl _) fun i hi => onesL_at (Nat.le_refl _) hi, H2.out.2⟩
end Go.Proofs.Ytkgifanlodlilaa
