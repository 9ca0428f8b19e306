import Derived.Test.YtkfjcbnhohipgaaB4
import Derived.BigQuiet
import Derived.Deep.RegionLaw
import Derived.Deep.RegionHeld3
import Derived.Deep.Cut
import Derived.Deep.DeepCutAuto
import Derived.Deep.CutBlock
import Derived.Deep.CutRange
import Derived.Deep.AppendLies
import Derived.Handy
import Derived.Lib.RabinKarpLaws
namespace Go.Proofs.Ytkfjcbnhohipgaa
open Go.ChangeShapes Go.WideShapes Go.ChangeAt Go.RowKit
set_option linter.unusedVariables false
set_option linter.unusedSimpArgs false


theorem mhid {p : Prop} (h : p) : Hid p := h
def par (p : Int) : Nat := (p % 2).toNat
theorem par_le (p : Int) : par p ≤ 1 := by unfold par; omega
theorem par_bits (p : Int) (h : -1 ≤ p ∧ p < 4611686018427387904) : bits .and .i64 p 1 = (par p : Int) := by
  by_cases h1 : p = -1
  · subst h1; decide
  · obtain ⟨n, rfl⟩ := Int.eq_ofNat_of_zero_le (by omega : 0 ≤ p)
    have e := and_one n (by omega)
    rw [e]
    unfold par
    omega
set_option maxRecDepth 100000 in
theorem half_any (b o : Nat) (p : Int) (h : -1 ≤ p ∧ p < 4611686018427387904) (W : World) : Calls Try.prog 32 #[.pointer (some ⟨b, o, none⟩), .int .i64 p] W fun e W' => e = .returned (.pointer (some ⟨b, o + par p, none⟩)) ∧ W' = W := by
  have e := par_bits p h
  have hle := par_le p
  generalize par p = k at e hle
  have k0 : (0 : Int) ≤ (k : Int) := by omega
  have k1 : (k : Int) < 2 := by omega
  clear h
  go_enter Try.func32, Try.ntmps32
  go_wp2
  go_ret
  exact ⟨rfl, rfl⟩
def Low (ph : Nat → Int) (n x : Nat) : Prop := ∃ i, i < n ∧ ph i < ph x
set_option maxRecDepth 100000 in
set_option maxHeartbeats 4000000 in
theorem leads_any (hb wb bb n : Nat) (room : Int) (x : Nat) (hx : x < n) (hn : n ≤ 64) (cmp : Value) (ph fl : Nat → Int) (W : World) (h : PAt9 W hb wb bb n room cmp) (hw : WK W wb n ph fl) (hwb : wb < W.heap.size) (hhb : hb < W.heap.size) :
    Calls Try.prog 33 #[.pointer (some ⟨hb, 0, none⟩), .int .i64 (x : Int)] W fun e W' => ∃ b, e = .returned (.bool b) ∧ (b = true ↔ Low ph n x) ∧ Below W.heap.size W W' := by
  have HZ : Hid (∀ W', Below W.heap.size W W' → PAt9 W' hb wb bb n room cmp ∧ WK W' wb n ph fl) := fun W' hW => by
    refine ⟨(hW.block _ hhb).trans h, fun i hi => ?_⟩
    rw [hW.cell (p := ⟨wb, i * 2, none⟩) hwb, hW.cell (p := ⟨wb, i * 2 + 1, none⟩) hwb]
    exact hw i hi
  obtain ⟨c0, c1, c2, c3⟩ := h.cells
  clear h hw hwb hhb
  go_enter Try.func33, Try.ntmps33
  go_wp2_with fail
  clear c0 c1 c2 c3
  go_loopw [12] (fun y wr => ∃ j : Nat, y = .int .i64 (j : Int) ∧ j ≤ n ∧ (∀ i, i < j → ¬ ph i < ph x) ∧ Below W.heap.size W wr) (fun y _ => n - (intOf y).toNat)
  case atStart => exact ⟨0, rfl, Nat.zero_le _, fun i hi => by omega, Below.refl _ _⟩
  case round =>
    obtain ⟨j, rfl, hj, hall, hbr⟩ := hrel
    have HA := mhid hall
    have HB := mhid hbr
    clear hall hbr
    obtain ⟨hp, hw⟩ := HZ.out wr HB.out
    obtain ⟨c0, c1, c2, c3⟩ := hp.cells
    by_cases hlt : j < n
    · have dl : decide ((j : Int) < (n : Int)) = true := by simp; omega
      have hm := meas hlt
      have ek : IntKind.i64.wrap ((j : Int) + 1) = (j : Int) + 1 := by rw [IntKind.wrap_i64]; omega
      have k0 : (0 : Int) ≤ (j : Int) := by omega
      have k1 : (j : Int) < (n : Int) := by omega
      have x0 : (0 : Int) ≤ (x : Int) := by omega
      have x1 : (x : Int) < (n : Int) := by omega
      obtain ⟨y0, y1⟩ := hw j hlt
      obtain ⟨f, hf⟩ : ∃ f, fl j = f := ⟨_, rfl⟩
      obtain ⟨pj, hpj⟩ : ∃ pj, ph j = pj := ⟨_, rfl⟩
      obtain ⟨px, hpx⟩ : ∃ px, ph x = px := ⟨_, rfl⟩
      rw [hpj] at y0
      rw [hf] at y1
      have HPJ := mhid hpj
      have HPX := mhid hpx
      have HLT := mhid hlt
      clear hpj hf hw hp hlt hj
      go_upto_region 4 with fail
      clear y0 y1 c0 c1 c2 c3
      obtain ⟨wz, hwz⟩ : ∃ wz, wr.alloc (.cells #[.int .i64 pj, .int .i64 f] 81) = wz := ⟨_, rfl⟩
      rw [hwz]
      have hbz : Below W.heap.size W wz := by rw [← hwz]; exact HB.out.alloc HB.out.size _
      have hnew : wz.heap[wr.heap.size]? = some (.cells #[.int .i64 pj, .int .i64 f] 81 (0, 0)) := by rw [← hwz]; exact World.alloc_heap_new wr _
      have z0 : wz.cell? ⟨wr.heap.size, 0, none⟩ = some (.int .i64 pj) := by unfold World.cell?; rw [hnew]; rfl
      have z1 : wz.cell? ⟨wr.heap.size, 1, none⟩ = some (.int .i64 f) := by unfold World.cell?; rw [hnew]; rfl
      obtain ⟨hp, hw⟩ := HZ.out wz hbz
      obtain ⟨c0, c1, c2, c3⟩ := hp.cells
      obtain ⟨y0, y1⟩ := hw x hx
      rw [hpx] at y0
      have HBZ := mhid hbz
      clear hwz hbz hnew hp hw hpx
      by_cases hl : pj < px
      · have d1 : decide (pj < px) = true := by simpa using hl
        clear hl
        go_region
        go_wp2_with fail
        go_ret
        have hyes : Low ph n x := ⟨j, HLT.out, by rw [HPJ.out, HPX.out]; exact of_decide_eq_true d1⟩
        first | exact ⟨true, rfl, ⟨fun _ => hyes, fun _ => rfl⟩, HBZ.out.drew⟩ | exact .inr ⟨rfl, hyes, HBZ.out.drew⟩
      · have d1 : decide (pj < px) = false := by simpa using hl
        have HNL := mhid hl
        clear hl
        go_region
        go_wp2_with fail
        exact ⟨⟨j + 1, rfl, HLT.out, fun i hi => by
          by_cases e : i = j
          · rw [e, HPJ.out, HPX.out]; exact HNL.out
          · exact HA.out i (by omega), HBZ.out.drew⟩, hm⟩
    · have dl : decide ((j : Int) < (n : Int)) = false := by simp; omega
      obtain rfl : j = n := by omega
      clear hp hw
      go_wp2_with fail
      go_ret
      have hno : ¬ Low ph j x := fun ⟨i, h1, h2⟩ => absurd h2 (by have := HA.out i h1; omega)
      first | exact ⟨false, rfl, ⟨fun e => (by cases e), fun h9 => absurd h9 hno⟩, HB.out⟩ | exact .inl ⟨rfl, hno, HB.out⟩
/-- halves that are named by a list -/
def HL (W : World) (q : Option Addr) (m : Nat) (P : Nat → Addr) : Prop := m = 0 ∨ ∃ g, q = some ⟨g, 0, none⟩ ∧ ∀ j, j < m → W.cell? ⟨g, j, none⟩ = some (.pointer (some (P j)))
set_option maxRecDepth 100000 in
set_option maxHeartbeats 4000000 in
theorem total_any (q : Option Addr) (m c : Nat) (P : Nat → Addr) (hq : Nat → Option Addr) (ln hc : Nat → Nat) (hm : m ≤ 64) (hl : ∀ j, ln j ≤ 1024) (W : World) (h : HL W q m P) (hs : ∀ j, j < m → ∃ b o, P j = ⟨b, o, none⟩ ∧ W.cell? ⟨b, o, none⟩ = some (.slice (hq j) (ln j) (hc j))) :
    Calls Try.prog 34 #[.slice q m c] W fun e W' => e = .returned (.int .i64 (sm ln m : Nat)) ∧ W' = W := by
  have HL1 := mhid h
  have HS := mhid hs
  have HLE := mhid hl
  clear h hs hl
  go_enter Try.func34, Try.ntmps34
  go_wp2_with fail
  go_loopw [3, 8] (fun a y wr => ∃ j : Nat, y = .int .i64 (j : Int) ∧ a = .int .i64 (sm ln j : Nat) ∧ j ≤ m ∧ wr = W) (fun _ y _ => m - (intOf y).toNat)
  case atStart => exact ⟨0, rfl, rfl, Nat.zero_le _, rfl⟩
  case round =>
    obtain ⟨j, rfl, rfl, hj, hwr⟩ := hrel
    subst hwr
    by_cases hlt : j < m
    · have dl : decide ((j : Int) < (m : Int)) = true := by simp; omega
      have hme := meas hlt
      have ek : IntKind.i64.wrap ((j : Int) + 1) = (j : Int) + 1 := by rw [IntKind.wrap_i64]; omega
      have k0 : (0 : Int) ≤ (j : Int) := by omega
      have k1 : (j : Int) < (m : Int) := by omega
      have hsm := sm_le ln 1024 HLE.out j
      have hlj := HLE.out j
      have hnx : sm ln (j + 1) = sm ln j + ln j := rfl
      rcases HL1.out with h0 | ⟨g, hg, hc1⟩
      · omega
      have y0 := hc1 j hlt
      obtain ⟨b, o, hP, y1⟩ := HS.out j hlt
      rw [hP] at y0
      rw [hg]
      generalize ln j = u at *
      generalize sm ln j = s at *
      have e1 : IntKind.i64.wrap ((s : Int) + (u : Int)) = ((s + u : Nat) : Int) := by rw [IntKind.wrap_i64]; omega
      clear hc1 hg hP
      go_wp2_with fail
      exact ⟨⟨j + 1, rfl, by rw [hnx, Int.natCast_add], hlt, by first | rfl | trivial⟩, hme⟩
    · have dl : decide ((j : Int) < (m : Int)) = false := by simp; omega
      obtain rfl : j = m := by omega
      go_wp2_with fail
      go_ret
      exact ⟨rfl, rfl⟩
end Go.Proofs.Ytkfjcbnhohipgaa
