import Derived.Test.YtckhliilndfljaaDoorLF1
import Derived.Test.YtckhliilndfljaaDoorSP8
import Derived.BigRegion
import Derived.BigQuiet
import Derived.Deep.RegionHeld3
namespace Go.Proofs.YtckhliilndfljaaDoor
open Go.ChangeShapes Go.WideShapes Go.ChangeAt Go.RowKit
set_option linter.unusedVariables false
set_option linter.unusedSimpArgs false
set_option maxRecDepth 100000 in
set_option maxHeartbeats 2000000 in
theorem sameTX (pa pb : Option Addr) (n ca cb : Nat) (X : Nat → Tk) (hn : n ≤ 2932031007402) (w : World) (ha : TX w pa n X) (hb : TX w pb n X) :
    Calls Tryd.prog 9 #[.slice pa n ca, .slice pb n cb] w fun e w' => e = .returned (.bool true) ∧ Below w.heap.size w w' := by
  have HA : Hid (TX w pa n X) := ha
  have HB : Hid (TX w pb n X) := hb
  clear ha hb
  go_enter Tryd.func9, Tryd.ntmps9
  go_wp2
  go_loopw [13] (fun v wr => ∃ i : Nat, v = .int .i64 i ∧ i ≤ n ∧ Below w.heap.size w wr) (fun v _ => n - (intOf v).toNat)
  case atStart => exact ⟨0, rfl, Nat.zero_le _, Below.refl _ _⟩
  case round =>
    obtain ⟨i, rfl, hi, hbel⟩ := hrel
    by_cases hlt : i < n
    · obtain hx | ⟨ga, oa, rfl, hla, hca⟩ := HA.out.below hbel
      · omega
      obtain hx | ⟨gb, ob, rfl, hlb, hcb⟩ := HB.out.below hbel
      · omega
      obtain ⟨a0, a1, a2, a3, a4⟩ := TX.at hca hlt
      obtain ⟨b0, b1, b2, b3, b4⟩ := TX.at hcb hlt
      have dl : decide ((i : Int) < (n : Int)) = true := decide_eq_true (by omega)
      have dl2 : decide (i < n) = true := decide_eq_true hlt
      have i0 : (0 : Int) ≤ (i : Int) := by omega
      have i1 : (i : Int) < (n : Int) := by omega
      have ei : IntKind.i64.wrap ((i : Int) + 1) = ((i + 1 : Nat) : Int) := by rw [IntKind.wrap_i64]; omega
      have hm := measW hlt
      generalize X i = t at *
      clear hca hcb hla hlb HA HB
      go_wp2
      go_region
      go_wp2
      exact ⟨⟨i + 1, rfl, hlt, hbel.drew⟩, hm⟩
    · have dl : decide ((i : Int) < (n : Int)) = false := decide_eq_false (by omega)
      have dl2 : decide (i < n) = false := decide_eq_false hlt
      go_wp2
      go_ret
      exact ⟨rfl, hbel⟩
theorem tx_sh {W : World} {p : Option Addr} {n : Nat} {X : Nat → Tk} (h : TX W p n X) : ∃ F : Nat → Value, TkIn W p n F ∧ TkSh n F ∧ ∀ i r, i < n → r < 5 → F (i * 5 + r) = (tkCells (X i)).getD r undef := by
  have e : ∀ i r, r < 5 → (fun j => (tkCells (X (j / 5))).getD (j % 5) undef) (i * 5 + r) = (tkCells (X i)).getD r undef := fun i r hr => by
    show (tkCells (X ((i * 5 + r) / 5))).getD ((i * 5 + r) % 5) undef = _
    rw [show (i * 5 + r) / 5 = i by omega, show (i * 5 + r) % 5 = r by omega]
  refine ⟨fun j => (tkCells (X (j / 5))).getD (j % 5) undef, ?_, fun i hi => ?_, fun i r _ hr => e i r hr⟩
  · rcases h with h | ⟨b, o, hp, hb, hc⟩
    · exact .inl h
    · refine .inr ⟨b, o, hp, hb, fun j hj => ?_⟩
      have h9 := hc (j / 5) (j % 5) (by omega) (Nat.mod_lt _ (by omega))
      rw [show o + j / 5 * 5 + j % 5 = o + j by omega] at h9
      exact h9
  · exact ⟨_, _, _, _, _, e i 0 (by omega), e i 1 (by omega), e i 2 (by omega), e i 3 (by omega), e i 4 (by omega)⟩
theorem own_tx {W : World} {base g n c m : Nat} {F : Nat → Value} {X : Nat → Tk} (h : Own W base 34 5 (.slice (some ⟨g, 0, none⟩) m c) m F) (hnm : n ≤ m) (hF : ∀ i r, i < n → r < 5 → F (i * 5 + r) = (tkCells (X i)).getD r undef) : TX W (some ⟨g, 0, none⟩) n X := by
  refine .inr ⟨g, 0, rfl, (h.kind rfl).2.1, fun i r hi hr => ?_⟩
  rw [Nat.zero_add, ← hF i r hi hr]
  exact h.cell (by omega)
end Go.Proofs.YtckhliilndfljaaDoor
