import Derived.Test.YtckhliilndfljaaDoorLRefM
import Derived.Test.YtckhliilndfljaaDoorLScan
import Derived.Deep.RegionHeld3
import Derived.BigRegion
namespace Go.Proofs.YtckhliilndfljaaDoor
open Go.ChangeShapes Go.WideShapes Go.ChangeAt Go.RowKit
set_option linter.unusedVariables false

theorem wordP_tw (c : UInt8) (r : Bs) (hc : pL c = true) (h : ((c :: r).takeWhile pN).length ≤ 31) : wordP ((c :: r).takeWhile pN) = wordK ((c :: r).takeWhile pN) := by
  have hn : pN c = true := by unfold pN inN; unfold pL at hc; simp [hc]
  unfold wordP
  rw [if_pos]
  refine ⟨?_, ?_, h⟩
  · rw [List.takeWhile_cons, if_pos hn]
    exact hc
  · rw [List.all_takeWhile]
theorem nameL_yes (c : UInt8) (r : Bs) (hc : pL c = true) : nameL (c :: r) = ((c :: r).takeWhile pN).length := by unfold nameL; rw [if_pos (show headIs pL (c :: r) = true from hc)]
theorem nameL_no (c : UInt8) (r : Bs) (hc : pL c = false) : nameL (c :: r) = 0 := by unfold nameL; rw [if_neg (by rw [show headIs pL (c :: r) = pL c from rfl, hc]; simp)]
theorem tw_pos (p : UInt8 → Bool) (c : UInt8) (r : Bs) (h : p c = true) : 1 ≤ ((c :: r).takeWhile p).length := by rw [List.takeWhile_cons, if_pos h]; simp

theorem frozen5 {W : World} {b : Nat} {cs : Array Value} {t : TypeId} (h : W.heap[b]? = some (.cells cs t (0, 0))) : W.frozen? ⟨b, 0, none⟩ = false ∧ W.frozen? ⟨b, 1, none⟩ = false ∧ W.frozen? ⟨b, 2, none⟩ = false ∧ W.frozen? ⟨b, 3, none⟩ = false ∧ W.frozen? ⟨b, 4, none⟩ = false := by
  simp [World.frozen?, h]

set_option maxRecDepth 100000 in
set_option maxHeartbeats 2000000 in
theorem rtoken_name (c : UInt8) (r : Bs) (hc : pL c = true) (hl : (c :: r).length ≤ 281474976710656) (w : World) :
    Calls Tryd.prog 38 #[.string ⟨(c :: r).toArray⟩] w fun e w' => e = .returned (rdV (rd (c :: r))) ∧ Below w.heap.size w w' := by
  have hmx : (c :: r).length ≤ maxLen := Nat.le_trans hl (by unfold maxLen; omega)
  rw [rd_name c r hc]
  unfold rdN
  have hw := wordP_tw c r hc
  have hpos := tw_pos pN c r (by unfold pN inN; unfold pL at hc; simp [hc])
  have htake : (⟨(c :: r).toArray⟩ : ByteArray).extract 0 ((c :: r).takeWhile pN).length = ⟨((c :: r).takeWhile pN).toArray⟩ := by rw [ext_take, take_tw pN]
  have hle : ((c :: r).takeWhile pN).length ≤ (c :: r).length := (List.takeWhile_sublist _).length_le
  have HN0 : ∀ w', Calls Tryd.prog 49 #[.string ⟨(c :: r).toArray⟩] w' fun e w'' => e = .returned (.int .i64 (nameL (c :: r))) ∧ w'' = w' := fun w' => rname_any _ hmx w'
  rw [nameL_yes c r hc] at HN0
  have HN : ∀ w', Hid (Calls Tryd.prog 49 #[.string ⟨(c :: r).toArray⟩] w' fun e w'' => e = .returned (.int .i64 ((c :: r).takeWhile pN).length) ∧ w'' = w') := HN0
  clear HN0
  have HW : ∀ w', Hid (Calls Tryd.prog 50 #[.string ⟨((c :: r).takeWhile pN).toArray⟩] w' fun e w'' => e = .returned (.int .i64 (wordP ((c :: r).takeWhile pN))) ∧ Below w'.heap.size w' w'') := fun w' => rWord_any _ (Nat.le_trans hle hmx) w'
  have hsz : (⟨(c :: r).toArray⟩ : ByteArray).size = (c :: r).length := by simp [ByteArray.size]
  generalize (c :: r).takeWhile pN = t at *
  generalize c :: r = s at *
  have hg0 := World.alloc_heap_new w (.cells #[.int .i64 0, .string ⟨#[]⟩, .int .u64 0, .int .i64 0, .int .i64 0] 34)
  have hb0 : Below w.heap.size w (w.alloc (.cells #[.int .i64 0, .string ⟨#[]⟩, .int .u64 0, .int .i64 0, .int .i64 0] 34)) := (Below.refl _ w).alloc (Nat.le_refl _) _
  by_cases h31 : t.length > 31
  · rw [if_pos h31]
    have d0 : decide ((t.length : Int) > 31) = true := decide_eq_true (by omega)
    have d1 : decide ((31 : Int) < t.length) = true := decide_eq_true (by omega)
    clear HW hw
    go_enter Tryd.func38, Tryd.ntmps38
    go_wp2_with (first | (go_at_call 49; (with_reducible refine ((HN _).out).mono ?_); rintro e w' ⟨rfl, hw⟩; subst w') | (refine wpList_store_row rfl _ _ _ rfl w.heap.size #[.int .i64 0, .string ⟨#[]⟩, .int .u64 0, .int .i64 0, .int .i64 0] rfl rfl _ _ hg0 (by kernel_rfl) rfl (by kernel_rfl) ?_; obtain ⟨w9, hw9, hr9, k0, k1, k2, k3, k4, hb9⟩ := row5 hg0 hb0 (Nat.le_refl _) (.int .i64 0) (.string ⟨#[]⟩) (.int .u64 0) (.int .i64 0) (.int .i64 0); rw [hw9]; clear hw9 hg0 hb0))
    refine bodyPost_ret (by simp [results, Tryd.results38, go_sem, k0, k1, k2, k3, k4]; try rfl) rfl ?_
    exact ⟨rfl, hb9⟩
  · rw [if_neg h31]
    have d0 : decide ((t.length : Int) > 31) = false := decide_eq_false (by omega)
    have d1 : decide ((31 : Int) < t.length) = false := decide_eq_false (by omega)
    have d2 : decide ((t.length : Int) > 0) = true := decide_eq_true (by omega)
    have d3 : decide ((0 : Int) < t.length) = true := decide_eq_true (by omega)
    rw [hw (by omega)] at HW
    clear hw
    go_enter Tryd.func38, Tryd.ntmps38
    go_wp2_with (go_at_call 49; (with_reducible refine ((HN _).out).mono ?_); rintro e w' ⟨rfl, hw⟩; subst w')
    go_region_with (go_at_call 50; (with_reducible refine ((HW _).out).mono ?_); rintro e w' ⟨rfl, hb1⟩; have hg1 := (hb1.block w.heap.size (by simp [World.drew])).trans hg0; obtain ⟨k0, k1, k2, k3, k4⟩ := cells5 hg1; obtain ⟨f0, f1, f2, f3, f4⟩ := frozen5 hg1)
    go_wp2
    have hbw : Below w.heap.size w w' := hb0.trans (Below.trans (Below.refl _ _).drew (hb1.mono (by simp [World.drew])))
    refine bodyPost_ret (by simp [results, Tryd.results38, go_sem, k0, k1, k2, k3, k4]; try rfl) rfl ?_
    exact ⟨rfl, ((((hbw.setCell (p := ⟨w.heap.size, 0, none⟩) (Nat.le_refl _) _).setCell (p := ⟨w.heap.size, 1, none⟩) (Nat.le_refl _) _).setCell (p := ⟨w.heap.size, 2, none⟩) (Nat.le_refl _) _).setCell (p := ⟨w.heap.size, 3, none⟩) (Nat.le_refl _) _).setCell (p := ⟨w.heap.size, 4, none⟩) (Nat.le_refl _) _⟩
end Go.Proofs.YtckhliilndfljaaDoor
