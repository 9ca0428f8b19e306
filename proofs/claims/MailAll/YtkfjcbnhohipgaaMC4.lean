import Derived.Test.YtkfjcbnhohipgaaMC3
import Derived.BigQuiet
import Derived.Deep.RegionLaw
import Derived.Deep.RegionHeld3
import Derived.Deep.Cut
import Derived.Deep.DeepCutAuto
import Derived.Deep.CutBlock
import Derived.Deep.CutRange
import Derived.Deep.AppendLies
import Derived.Handy
import Derived.Lib.RabinKarpLaws
namespace Go.Proofs.Ytkfjcbnhohipgaa
open Go.ChangeShapes Go.WideShapes Go.ChangeAt Go.RowKit
set_option linter.unusedVariables false
set_option linter.unusedSimpArgs false


theorem who (x : Int) (n : Nat) : (x < 0 ∨ (n : Int) ≤ x) ∨ ∃ k : Nat, k < n ∧ x = (k : Int) := by
  by_cases h : x < 0 ∨ (n : Int) ≤ x
  · exact .inl h
  · exact .inr ⟨x.toNat, by omega, by omega⟩
theorem send_mi (x y a b : Int) {Fo : Nat → Option Obj} {base hb wb bb n : Nat} {room : Int} {cmp : Value} {R : Nat → Nat} {ph fl : Nat → Int} {H : Nat → Nat → Nat → Hf} {t : Nat} (hn : n ≤ 64) (hroom : 1 ≤ room ∧ room ≤ 1024) (ht : t ≤ 1000) (hI : MI n room ph H t) (W : World) (h : MP Fo W base hb wb bb n room cmp R ph fl H) (hbase : base ≤ W.heap.size) :
    Calls Try.prog 15 #[.pointer (some ⟨hb, 0, none⟩), .int .i64 x, .int .i64 y, .agg #[.int .i64 a, .int .i64 b]] W fun r W' => (∃ z, r = .returned (.int .i64 z)) ∧ (∃ fl' H', MP Fo W' base hb wb bb n room cmp R ph fl' H' ∧ MI n room ph H' t) ∧ Below base W W' := by
  rcases who x n with hx | ⟨x, hx, rfl⟩
  · exact (send_no x y a b hx W h).mono fun r W' h1 => ⟨⟨_, h1.1⟩, ⟨_, _, h1.2.1, hI⟩, h1.2.2.mono hbase⟩
  have hp : 0 ≤ ph x ∧ ph x < 4611686018427387904 := ⟨hI.lo x hx, by have := hI.hi x hx; omega⟩
  by_cases hf : fl x = 0
  · rcases who y n with hy | ⟨y, hy, rfl⟩
    · exact (send_who x y a b hx hy hf W h hbase).mono fun r W' h1 => ⟨⟨_, h1.1⟩, ⟨_, _, h1.2.1, hI⟩, h1.2.2⟩
    · by_cases hr : ((H x y (par (ph x))).l : Int) = room
      · exact (send_full x y a b hx hy hp hf W h hbase hr).mono fun r W' h1 => ⟨⟨_, h1.1⟩, ⟨_, _, h1.2.1, hI⟩, h1.2.2⟩
      · refine (send_put x y a b hx hy hp hf W h hbase hr (by have := hI.rm x y (par (ph x)); omega)).mono fun r W' ⟨h1, ⟨q, c, h2⟩, h3⟩ => ⟨⟨_, h1⟩, ⟨_, _, h2, hI.send x y q c a b hr⟩, h3⟩
  · exact (send_failed x y a b hx hf W h).mono fun r W' h1 => ⟨⟨_, h1.1⟩, ⟨_, _, h1.2.1, hI⟩, h1.2.2.mono hbase⟩
theorem flip_mi (x : Int) {Fo : Nat → Option Obj} {base hb wb bb n : Nat} {room : Int} {cmp : Value} {R : Nat → Nat} {ph fl : Nat → Int} {H : Nat → Nat → Nat → Hf} {t : Nat} (hn : n ≤ 64) (hroom : 1 ≤ room ∧ room ≤ 1024) (ht : t ≤ 1000) (hI : MI n room ph H t) (W : World) (h : MP Fo W base hb wb bb n room cmp R ph fl H) (hbase : base ≤ W.heap.size) :
    Calls Try.prog 16 #[.pointer (some ⟨hb, 0, none⟩), .int .i64 x] W fun r W' => (∃ z, r = .returned (.int .i64 z)) ∧ (∃ ph', MP Fo W' base hb wb bb n room cmp R ph' fl H ∧ MI n room ph' H (t + 1)) ∧ Below base W W' := by
  rcases who x n with hx | ⟨x, hx, rfl⟩
  · exact (flip_no x hx W h).mono fun r W' h1 => ⟨⟨_, h1.1⟩, ⟨ph, by rw [h1.2]; exact h, hI.up⟩, by rw [h1.2]; exact Below.refl _ _⟩
  have hp : 0 ≤ ph x ∧ ph x < 4611686018427387904 := ⟨hI.lo x hx, by have := hI.hi x hx; omega⟩
  refine (flip_any x hx hn hp W h hbase).mono fun r W' ⟨h1, h2⟩ => ?_
  rcases h2 with ⟨_, h3, h4⟩ | ⟨_, _, h3, h4⟩ | ⟨_, h5, h3, h4⟩
  · exact ⟨⟨_, h3⟩, ⟨_, h4, hI.up⟩, h1⟩
  · exact ⟨⟨_, h3⟩, ⟨_, h4, hI.up⟩, h1⟩
  · exact ⟨⟨_, h3⟩, ⟨_, h4, hI.flip x hx h5⟩, h1⟩
theorem drop_mi (x : Int) {Fo : Nat → Option Obj} {base hb wb bb n : Nat} {room : Int} {cmp : Value} {R : Nat → Nat} {ph fl : Nat → Int} {H : Nat → Nat → Nat → Hf} {t : Nat} (hn : n ≤ 64) (hroom : 1 ≤ room ∧ room ≤ 1024) (ht : t ≤ 1000) (hI : MI n room ph H t) (W : World) (h : MP Fo W base hb wb bb n room cmp R ph fl H) (hbase : base ≤ W.heap.size) :
    Calls Try.prog 18 #[.pointer (some ⟨hb, 0, none⟩), .int .i64 x] W fun r W' => (∃ z, r = .returned z) ∧ (∃ fl' H', MP Fo W' base hb wb bb n room cmp R ph fl' H' ∧ MI n room ph H' t) ∧ Below base W W' := by
  rcases who x n with hx | ⟨x, hx, rfl⟩
  · exact (drop_no x hx W h).mono fun r W' h1 => ⟨⟨_, h1.1⟩, ⟨fl, H, by rw [h1.2]; exact h, hI⟩, by rw [h1.2]; exact Below.refl _ _⟩
  have hp : 0 ≤ ph x ∧ ph x < 4611686018427387904 := ⟨hI.lo x hx, by have := hI.hi x hx; omega⟩
  exact (drop_any x hx hn hp W h hbase).mono fun r W' ⟨h1, h2, h3⟩ => ⟨⟨_, h2⟩, ⟨_, _, h3, hI.less (dropH_le _ _ _ _)⟩, h1⟩
theorem below_of {b : Nat} {W W' : World} (h : BlA (fun _ => False) b W W') : Below b W W' := ⟨h.os, h.tape, h.output, h.size, fun k hk => h.block k hk id⟩
theorem drain_mi (x : Int) {lt : Int × Int → Int × Int → Bool} {Fo : Nat → Option Obj} {base hb wb bb n : Nat} {room : Int} {cmp : Value} {R : Nat → Nat} {ph fl : Nat → Int} {H : Nat → Nat → Nat → Hf} {t : Nat} (hn : n ≤ 64) (hroom : 1 ≤ room ∧ room ≤ 1024) (ht : t ≤ 1000) (hI : MI n room ph H t) (W : World) (h : MP Fo W base hb wb bb n room cmp R ph fl H) (hbase : base ≤ W.heap.size) (hso : Sorts cmp lt (fun _ => False) (fun _ => True)) :
    Calls Try.prog 17 #[.pointer (some ⟨hb, 0, none⟩), .int .i64 x] W fun r W' => (∃ z, r = .returned z) ∧ (∃ H', MP Fo W' base hb wb bb n room cmp R ph fl H' ∧ MI n room ph H' t) ∧ Below base W W' := by
  rcases who x n with hx | ⟨x, hx, rfl⟩
  · exact (drain_no x hx W h).mono fun r W' h1 => ⟨⟨_, h1.1⟩, ⟨H, by rw [h1.2]; exact h, hI⟩, by rw [h1.2]; exact Below.refl _ _⟩
  have hp : 0 ≤ ph x ∧ ph x < 4611686018427387904 := ⟨hI.lo x hx, by have := hI.hi x hx; omega⟩
  by_cases hl : Low ph n x
  · exact (drain_low x hx hn hl W h).mono fun r W' h1 => ⟨⟨_, h1.1⟩, ⟨_, h1.2.1, hI⟩, h1.2.2.mono hbase⟩
  · exact (drain_ok x hx hn hp hl W h hbase hso (fun k hk => hk.elim) (fun _ _ => trivial) _ _ _ _ rfl rfl rfl rfl).mono fun r W' ⟨g, d, h1, _, _, _, _, h2, h3, _⟩ => ⟨⟨_, h1⟩, ⟨_, h2, hI.less (gHn_le _ _ _ _ _)⟩, below_of h3⟩
/-- Drain, of one who is a worker: what it hands out, and that it changes nothing where that is nothing -/
theorem drain_mi2 (x : Nat) {lt : Int × Int → Int × Int → Bool} {Fo : Nat → Option Obj} {base hb wb bb n : Nat} {room : Int} {cmp : Value} {R : Nat → Nat} {ph fl : Nat → Int} {H : Nat → Nat → Nat → Hf} {t : Nat} (hx : x < n) (hn : n ≤ 64) (hroom : 1 ≤ room ∧ room ≤ 1024) (ht : t ≤ 1000) (hI : MI n room ph H t) (W : World) (h : MP Fo W base hb wb bb n room cmp R ph fl H) (hbase : base ≤ W.heap.size) (hso : Sorts cmp lt (fun _ => False) (fun _ => True)) :
    Calls Try.prog 17 #[.pointer (some ⟨hb, 0, none⟩), .int .i64 (x : Int)] W fun r W' => (∃ q S c z, r = .returned (.tuple #[.slice q S c, .int .i64 z]) ∧ ∃ H', MP Fo W' base hb wb bb n room cmp R ph fl H' ∧ MI n room ph H' t ∧ (¬ (z = 0 ∧ 0 < S) → (∀ i j k, (H' i j k).l = (H i j k).l) ∧ (¬ Low ph n x → ¬ dueP H ph n x))) ∧ Below base W W' := by
  have hp : 0 ≤ ph x ∧ ph x < 4611686018427387904 := ⟨hI.lo x hx, by have := hI.hi x hx; omega⟩
  by_cases hl : Low ph n x
  · exact (drain_low x hx hn hl W h).mono fun r W' h1 => ⟨⟨none, 0, 0, 92, h1.1, H, h1.2.1, hI, fun _ => ⟨fun _ _ _ => rfl, fun h9 => absurd hl h9⟩⟩, h1.2.2.mono hbase⟩
  · refine (drain_ok x hx hn hp hl W h hbase hso (fun k hk => hk.elim) (fun _ _ => trivial) _ _ _ _ rfl rfl rfl rfl).mono fun r W' ⟨g, d, h1, _, _, _, _, h2, h3, _⟩ => ⟨⟨_, _, _, 0, h1, _, h2, hI.less (gHn_le _ _ _ _ _), fun h9 => ?_⟩, below_of h3⟩
    have hz : sm (gln H x (par (ph x - 1)) (dueJ ph n x)) (dueN ph n x) = 0 := by
      rcases Nat.eq_zero_or_pos (sm (gln H x (par (ph x - 1)) (dueJ ph n x)) (dueN ph n x)) with h8 | h8
      · exact h8
      · exact absurd ⟨rfl, h8⟩ h9
    exact ⟨gHn_zero _ _ _ _ _ hz, fun _ => due_zero hz⟩
end Go.Proofs.Ytkfjcbnhohipgaa
