import Derived.Test.YtkfjcbnhohipgaaMB11
import Derived.BigQuiet
import Derived.Deep.RegionLaw
import Derived.Deep.RegionHeld3
import Derived.Deep.Cut
import Derived.Deep.DeepCutAuto
import Derived.Deep.CutBlock
import Derived.Deep.CutRange
import Derived.Deep.AppendLies
import Derived.Handy
import Derived.Lib.RabinKarpLaws
namespace Go.Proofs.Ytkfjcbnhohipgaa
open Go.ChangeShapes Go.WideShapes Go.ChangeAt Go.RowKit
set_option linter.unusedVariables false
set_option linter.unusedSimpArgs false


def nbad (x room : Int) : Int := if x < 1 ∨ 64 < x then 100 else 84
set_option maxRecDepth 100000 in
set_option maxHeartbeats 4000000 in
theorem mb_newC (f : FuncId) (caps : Array Value) (n : Nat) (room : Int) (h1 : 1 ≤ n) (h2 : n ≤ 64) (h3 : 1 ≤ room) (h4 : room ≤ 1024) (W : World) :
    Calls Try.prog 13 #[.int .i64 (n : Int), .int .i64 room, .func (.func f) #[] caps] W fun e w' => ∃ hb wb bb R, e = .returned (.tuple #[.pointer (some ⟨hb, 0, none⟩), .int .i64 0]) ∧ NP w' W.heap.size hb wb bb n room (.func (.func f) #[] caps) R n ∧ Below W.heap.size W w' := by
  have d1 : decide ((n : Int) < 1) = false := by simp; omega
  have d2 : decide (64 < (n : Int)) = false := by simp; omega
  have d3 : decide (room < 1) = false := by simp; omega
  have d4 : decide (1024 < room) = false := by simp; omega
  obtain ⟨iW, hW1, hW2, hW3, hW4⟩ := binfo infoWK
  obtain ⟨iS, hS1, hS2, hS3, hS4⟩ := binfo infoBS
  obtain ⟨iX, hX1, hX2, hX3, hX4⟩ := binfo infoBX
  have en : ∀ w : World, (binOp .eql 32 (Value.func (.func f) #[] caps) Value.nilFunc).run Try.prog w = .ok (.bool false) w := fun w => rfl
  have rW : ∀ w : World, (Instr.makeSlice 68 (.int .i64 (n : Int)) (.int .i64 (n : Int))).run Try.prog w = .ok (.slice (some ⟨w.heap.size, 0, none⟩) n n) (w.alloc (.cells (zA (.agg #[.int .i64 0, .int .i64 0]) n 2) 81)) := run_make_eq _ _ iW _ 2 Try.underlying68 hW1 hW2 hW3 n (by rw [hW4]; omega) (by omega)
  have rS : ∀ w : World, (Instr.makeSlice 69 (.int .i64 (n : Int)) (.int .i64 (n : Int))).run Try.prog w = .ok (.slice (some ⟨w.heap.size, 0, none⟩) n n) (w.alloc (.cells (zA (.slice none 0 0) n 1) 72)) := run_make_eq _ _ iS _ 1 Try.underlying69 hS1 hS2 hS3 n (by rw [hS4]; omega) (by omega)
  have rX : ∀ w : World, (Instr.makeSlice 72 (.int .i64 (n : Int)) (.int .i64 (n : Int))).run Try.prog w = .ok (.slice (some ⟨w.heap.size, 0, none⟩) n n) (w.alloc (.cells (zA (.agg #[.slice none 0 0, .slice none 0 0]) n 2) 78)) := run_make_eq _ _ iX _ 2 Try.underlying72 hX1 hX2 hX3 n (by rw [hX4]; omega) (by omega)
  obtain ⟨B, hB⟩ : ∃ B, B = W.heap.size := ⟨_, rfl⟩
  have hBW : Below B W W := Below.refl _ _
  have HB : Hid (B = W.heap.size) := hB
  rw [← hB]
  clear hB
  go_enter Try.func13, Try.ntmps13
  go_upto_region 7 with fail
  go_region
  · have hN := new1 W B n room (.func (.func f) #[] caps) HB.out (by unfold maxLen; omega)
    have hBl := hN.2
    replace hN := hN.1
    generalize (World.drew _) = w1 at hN hBl ⊢
    generalize W.heap.size + 1 + 1 = hb at hN ⊢
    generalize W.heap.size + 1 = bb at hN ⊢
    generalize W.heap.size = wb at hN ⊢
    obtain ⟨c0, c1, c2, c3⟩ := hN.p.cells
    have HN : Hid (NP w1 B hb wb bb n room (.func (.func f) #[] caps) (fun _ => 0) 0) := hN
    clear hN
    go_wp2
    go_loopw [37] (fun x wr => ∃ (k : Nat) (R : Nat → Nat), x = .int .i64 (k : Int) ∧ k ≤ n ∧ NP wr B hb wb bb n room (.func (.func f) #[] caps) R k ∧ Below B W wr) (fun x _ => n - (intOf x).toNat)
    case atStart => exact ⟨0, fun _ => 0, rfl, Nat.zero_le _, HN.out, hBl⟩
    case round =>
      obtain ⟨k, R, rfl, hk, hr, hbr⟩ := hrel
      clear c0 c1 c2 c3 HN
      by_cases hlt : k < n
      · have dl : decide ((k : Int) < (n : Int)) = true := by simp; omega
        have hm := meas hlt
        have i0 : (0 : Int) ≤ (k : Int) := by omega
        have i1 : (k : Int) < (n : Int) := by omega
        obtain ⟨c0, c1, c2, c3⟩ := hr.p.cells
        have hlb := lt_of_block hr.p
        obtain ⟨cur, hcu, hcs, _⟩ := hr.b.block
        have y0 : wr.cell? ⟨bb, k, none⟩ = some (.slice none 0 0) := by have := hr.b.cell (j := k) (by omega); rw [if_neg (by omega)] at this; exact this
        have yf := frz hcu k
        have hbl := lt_of_block hcu
        have ek : IntKind.i64.wrap ((k : Int) + 1) = (k : Int) + 1 := by rw [IntKind.wrap_i64]; omega
        have HR : Hid (NP wr B hb wb bb n room (.func (.func f) #[] caps) R k) := hr
        clear hr hcu hcs
        go_wp2
        go_region
        go_wp2
        exact ⟨⟨k + 1, fun i => if i = k then wr.heap.size else R i, rfl, hlt, (HR.out.step hlt (by unfold maxLen; omega) hbr).1, (HR.out.step hlt (by unfold maxLen; omega) hbr).2⟩, hm⟩
      · have dl : decide ((k : Int) < (n : Int)) = false := by simp; omega
        obtain rfl : k = n := by omega
        go_wp2
        refine bodyPost_ret (v := .tuple #[.pointer (some ⟨hb, 0, none⟩), .int .i64 0]) (by simp [results, Try.results13, go_sem]) rfl ?_
        exact ⟨_, _, _, _, rfl, hr, hbr⟩
  · have hN := new2 W B n room (.func (.func f) #[] caps) HB.out (by unfold maxLen; omega)
    have hBl := hN.2
    replace hN := hN.1
    generalize (World.drew _) = w1 at hN hBl ⊢
    generalize W.heap.size + 1 + 1 = hb at hN ⊢
    generalize W.heap.size + 1 = wb at hN ⊢
    generalize W.heap.size = bb at hN ⊢
    obtain ⟨c0, c1, c2, c3⟩ := hN.p.cells
    have HN : Hid (NP w1 B hb wb bb n room (.func (.func f) #[] caps) (fun _ => 0) 0) := hN
    clear hN
    go_wp2
    go_loopw [37] (fun x wr => ∃ (k : Nat) (R : Nat → Nat), x = .int .i64 (k : Int) ∧ k ≤ n ∧ NP wr B hb wb bb n room (.func (.func f) #[] caps) R k ∧ Below B W wr) (fun x _ => n - (intOf x).toNat)
    case atStart => exact ⟨0, fun _ => 0, rfl, Nat.zero_le _, HN.out, hBl⟩
    case round =>
      obtain ⟨k, R, rfl, hk, hr, hbr⟩ := hrel
      clear c0 c1 c2 c3 HN
      by_cases hlt : k < n
      · have dl : decide ((k : Int) < (n : Int)) = true := by simp; omega
        have hm := meas hlt
        have i0 : (0 : Int) ≤ (k : Int) := by omega
        have i1 : (k : Int) < (n : Int) := by omega
        obtain ⟨c0, c1, c2, c3⟩ := hr.p.cells
        have hlb := lt_of_block hr.p
        obtain ⟨cur, hcu, hcs, _⟩ := hr.b.block
        have y0 : wr.cell? ⟨bb, k, none⟩ = some (.slice none 0 0) := by have := hr.b.cell (j := k) (by omega); rw [if_neg (by omega)] at this; exact this
        have yf := frz hcu k
        have hbl := lt_of_block hcu
        have ek : IntKind.i64.wrap ((k : Int) + 1) = (k : Int) + 1 := by rw [IntKind.wrap_i64]; omega
        have HR : Hid (NP wr B hb wb bb n room (.func (.func f) #[] caps) R k) := hr
        clear hr hcu hcs
        go_wp2
        go_region
        go_wp2
        exact ⟨⟨k + 1, fun i => if i = k then wr.heap.size else R i, rfl, hlt, (HR.out.step hlt (by unfold maxLen; omega) hbr).1, (HR.out.step hlt (by unfold maxLen; omega) hbr).2⟩, hm⟩
      · have dl : decide ((k : Int) < (n : Int)) = false := by simp; omega
        obtain rfl : k = n := by omega
        go_wp2
        refine bodyPost_ret (v := .tuple #[.pointer (some ⟨hb, 0, none⟩), .int .i64 0]) (by simp [results, Try.results13, go_sem]) rfl ?_
        exact ⟨_, _, _, _, rfl, hr, hbr⟩
set_option maxRecDepth 100000 in
theorem mb_newBadC (cv : Value) (x room : Int) (h : (x < 1 ∨ 64 < x) ∨ (room < 1 ∨ 1024 < room)) (W : World) :
    Calls Try.prog 13 #[.int .i64 x, .int .i64 room, cv] W fun e w' => e = .returned (.tuple #[.pointer none, .int .i64 (nbad x room)]) ∧ w' = W := by
  unfold nbad
  by_cases h1 : x < 1
  · have d1 : decide (x < 1) = true := by simpa using h1
    rw [if_pos (.inl h1)]
    go_enter Try.func13, Try.ntmps13
    go_wp2
    exact bodyPost_ret (v := .tuple #[.pointer none, .int .i64 100]) (by simp [results, Try.results13, go_sem]) rfl ⟨rfl, rfl⟩
  · have d1 : decide (x < 1) = false := by simpa using h1
    by_cases h2 : 64 < x
    · have d2 : decide (64 < x) = true := by simpa using h2
      rw [if_pos (.inr h2)]
      go_enter Try.func13, Try.ntmps13
      go_wp2
      exact bodyPost_ret (v := .tuple #[.pointer none, .int .i64 100]) (by simp [results, Try.results13, go_sem]) rfl ⟨rfl, rfl⟩
    · have d2 : decide (64 < x) = false := by simpa using h2
      rw [if_neg (by omega)]
      by_cases h3 : room < 1
      · have d3 : decide (room < 1) = true := by simpa using h3
        go_enter Try.func13, Try.ntmps13
        go_wp2
        exact bodyPost_ret (v := .tuple #[.pointer none, .int .i64 84]) (by simp [results, Try.results13, go_sem]) rfl ⟨rfl, rfl⟩
      · have d3 : decide (room < 1) = false := by simpa using h3
        have d4 : decide (1024 < room) = true := by simp; omega
        go_enter Try.func13, Try.ntmps13
        go_wp2
        exact bodyPost_ret (v := .tuple #[.pointer none, .int .i64 84]) (by simp [results, Try.results13, go_sem]) rfl ⟨rfl, rfl⟩
end Go.Proofs.Ytkfjcbnhohipgaa
