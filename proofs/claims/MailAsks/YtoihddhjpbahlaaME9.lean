import Derived.Test.YtoihddhjpbahlaaME8
import Derived.Test.YtoihddhjpbahlaaMC1
import Derived.Test.YtoihddhjpbahlaaMCO
import Derived.BigQuiet
import Derived.Deep.RegionLaw
import Derived.Deep.RegionHeld3
import Derived.Deep.Cut
import Derived.Deep.DeepCutAuto
import Derived.Deep.CutBlock
import Derived.Deep.CutRange
import Derived.Deep.AppendLies
import Derived.Handy
import Derived.Lib.RabinKarpLaws
namespace Go.Proofs.Ytoihddhjpbahlaa
open Go.ChangeShapes Go.WideShapes Go.ChangeAt Go.RowKit
set_option linter.unusedVariables false
set_option linter.unusedSimpArgs false


set_option maxRecDepth 100000 in
set_option maxHeartbeats 4000000 in
theorem mb_newL (n : Nat) (room : Int) (h1 : 1 ≤ n) (h2 : n ≤ 64) (h3 : 1 ≤ room) (h4 : room ≤ 1024) (W : World) :
    Calls Try.prog 13 #[.int .i64 (n : Int), .int .i64 room, .nilFunc] W fun e w' => ∃ hb wb bb R, e = .returned (.tuple #[.pointer (some ⟨hb, 0, none⟩), .int .i64 0]) ∧ NP w' W.heap.size hb wb bb n room (.func (.func 29) #[] #[]) R n ∧ Below W.heap.size W w' := by
  have d1 : decide ((n : Int) < 1) = false := by simp; omega
  have d2 : decide (64 < (n : Int)) = false := by simp; omega
  have d3 : decide (room < 1) = false := by simp; omega
  have d4 : decide (1024 < room) = false := by simp; omega
  obtain ⟨iW, hW1, hW2, hW3, hW4⟩ := binfo infoWK
  obtain ⟨iS, hS1, hS2, hS3, hS4⟩ := binfo infoBS
  obtain ⟨iX, hX1, hX2, hX3, hX4⟩ := binfo infoBX
  have en : ∀ w : World, (binOp .eql 32 Value.nilFunc Value.nilFunc).run Try.prog w = .ok (.bool true) w := fun w => rfl
  have rW : ∀ w : World, (Instr.makeSlice 68 (.int .i64 (n : Int)) (.int .i64 (n : Int))).run Try.prog w = .ok (.slice (some ⟨w.heap.size, 0, none⟩) n n) (w.alloc (.cells (zA (.agg #[.int .i64 0, .int .i64 0]) n 2) 81)) := run_make_eq _ _ iW _ 2 Try.underlying68 hW1 hW2 hW3 n (by rw [hW4]; omega) (by omega)
  have rS : ∀ w : World, (Instr.makeSlice 69 (.int .i64 (n : Int)) (.int .i64 (n : Int))).run Try.prog w = .ok (.slice (some ⟨w.heap.size, 0, none⟩) n n) (w.alloc (.cells (zA (.slice none 0 0) n 1) 72)) := run_make_eq _ _ iS _ 1 Try.underlying69 hS1 hS2 hS3 n (by rw [hS4]; omega) (by omega)
  have rX : ∀ w : World, (Instr.makeSlice 72 (.int .i64 (n : Int)) (.int .i64 (n : Int))).run Try.prog w = .ok (.slice (some ⟨w.heap.size, 0, none⟩) n n) (w.alloc (.cells (zA (.agg #[.slice none 0 0, .slice none 0 0]) n 2) 78)) := run_make_eq _ _ iX _ 2 Try.underlying72 hX1 hX2 hX3 n (by rw [hX4]; omega) (by omega)
  obtain ⟨B, hB⟩ : ∃ B, B = W.heap.size := ⟨_, rfl⟩
  have hBW : Below B W W := Below.refl _ _
  have HB : Hid (B = W.heap.size) := hB
  rw [← hB]
  clear hB
  go_enter Try.func13, Try.ntmps13
  go_upto_region 7 with fail
  go_region
  · have hN := new1 W B n room (.func (.func 29) #[] #[]) HB.out (by unfold maxLen; omega)
    have hBl := hN.2
    replace hN := hN.1
    generalize (World.drew _) = w1 at hN hBl ⊢
    generalize W.heap.size + 1 + 1 = hb at hN ⊢
    generalize W.heap.size + 1 = bb at hN ⊢
    generalize W.heap.size = wb at hN ⊢
    obtain ⟨c0, c1, c2, c3⟩ := hN.p.cells
    have HN : Hid (NP w1 B hb wb bb n room (.func (.func 29) #[] #[]) (fun _ => 0) 0) := hN
    clear hN
    go_wp2
    go_loopw [37] (fun x wr => ∃ (k : Nat) (R : Nat → Nat), x = .int .i64 (k : Int) ∧ k ≤ n ∧ NP wr B hb wb bb n room (.func (.func 29) #[] #[]) R k ∧ Below B W wr) (fun x _ => n - (intOf x).toNat)
    case atStart => exact ⟨0, fun _ => 0, rfl, Nat.zero_le _, HN.out, hBl⟩
    case round =>
      obtain ⟨k, R, rfl, hk, hr, hbr⟩ := hrel
      clear c0 c1 c2 c3 HN
      by_cases hlt : k < n
      · have dl : decide ((k : Int) < (n : Int)) = true := by simp; omega
        have hm := meas hlt
        have i0 : (0 : Int) ≤ (k : Int) := by omega
        have i1 : (k : Int) < (n : Int) := by omega
        obtain ⟨c0, c1, c2, c3⟩ := hr.p.cells
        have hlb := lt_of_block hr.p
        obtain ⟨cur, hcu, hcs, _⟩ := hr.b.block
        have y0 : wr.cell? ⟨bb, k, none⟩ = some (.slice none 0 0) := by have := hr.b.cell (j := k) (by omega); rw [if_neg (by omega)] at this; exact this
        have yf := frz hcu k
        have hbl := lt_of_block hcu
        have ek : IntKind.i64.wrap ((k : Int) + 1) = (k : Int) + 1 := by rw [IntKind.wrap_i64]; omega
        have HR : Hid (NP wr B hb wb bb n room (.func (.func 29) #[] #[]) R k) := hr
        clear hr hcu hcs
        go_wp2
        go_region
        go_wp2
        exact ⟨⟨k + 1, fun i => if i = k then wr.heap.size else R i, rfl, hlt, (HR.out.step hlt (by unfold maxLen; omega) hbr).1, (HR.out.step hlt (by unfold maxLen; omega) hbr).2⟩, hm⟩
      · have dl : decide ((k : Int) < (n : Int)) = false := by simp; omega
        obtain rfl : k = n := by omega
        go_wp2
        refine bodyPost_ret (v := .tuple #[.pointer (some ⟨hb, 0, none⟩), .int .i64 0]) (by simp [results, Try.results13, go_sem]) rfl ?_
        exact ⟨_, _, _, _, rfl, hr, hbr⟩
  · have hN := new2 W B n room (.func (.func 29) #[] #[]) HB.out (by unfold maxLen; omega)
    have hBl := hN.2
    replace hN := hN.1
    generalize (World.drew _) = w1 at hN hBl ⊢
    generalize W.heap.size + 1 + 1 = hb at hN ⊢
    generalize W.heap.size + 1 = wb at hN ⊢
    generalize W.heap.size = bb at hN ⊢
    obtain ⟨c0, c1, c2, c3⟩ := hN.p.cells
    have HN : Hid (NP w1 B hb wb bb n room (.func (.func 29) #[] #[]) (fun _ => 0) 0) := hN
    clear hN
    go_wp2
    go_loopw [37] (fun x wr => ∃ (k : Nat) (R : Nat → Nat), x = .int .i64 (k : Int) ∧ k ≤ n ∧ NP wr B hb wb bb n room (.func (.func 29) #[] #[]) R k ∧ Below B W wr) (fun x _ => n - (intOf x).toNat)
    case atStart => exact ⟨0, fun _ => 0, rfl, Nat.zero_le _, HN.out, hBl⟩
    case round =>
      obtain ⟨k, R, rfl, hk, hr, hbr⟩ := hrel
      clear c0 c1 c2 c3 HN
      by_cases hlt : k < n
      · have dl : decide ((k : Int) < (n : Int)) = true := by simp; omega
        have hm := meas hlt
        have i0 : (0 : Int) ≤ (k : Int) := by omega
        have i1 : (k : Int) < (n : Int) := by omega
        obtain ⟨c0, c1, c2, c3⟩ := hr.p.cells
        have hlb := lt_of_block hr.p
        obtain ⟨cur, hcu, hcs, _⟩ := hr.b.block
        have y0 : wr.cell? ⟨bb, k, none⟩ = some (.slice none 0 0) := by have := hr.b.cell (j := k) (by omega); rw [if_neg (by omega)] at this; exact this
        have yf := frz hcu k
        have hbl := lt_of_block hcu
        have ek : IntKind.i64.wrap ((k : Int) + 1) = (k : Int) + 1 := by rw [IntKind.wrap_i64]; omega
        have HR : Hid (NP wr B hb wb bb n room (.func (.func 29) #[] #[]) R k) := hr
        clear hr hcu hcs
        go_wp2
        go_region
        go_wp2
        exact ⟨⟨k + 1, fun i => if i = k then wr.heap.size else R i, rfl, hlt, (HR.out.step hlt (by unfold maxLen; omega) hbr).1, (HR.out.step hlt (by unfold maxLen; omega) hbr).2⟩, hm⟩
      · have dl : decide ((k : Int) < (n : Int)) = false := by simp; omega
        obtain rfl : k = n := by omega
        go_wp2
        refine bodyPost_ret (v := .tuple #[.pointer (some ⟨hb, 0, none⟩), .int .i64 0]) (by simp [results, Try.results13, go_sem]) rfl ?_
        exact ⟨_, _, _, _, rfl, hr, hbr⟩

theorem rx_new (srt : Bool) (w : World) (n : Nat) (room : Int) (hn : n ≤ maxLen) (a b : Nat) (hab : a = w.heap.size ∧ b = w.heap.size + 1 ∨ b = w.heap.size ∧ a = w.heap.size + 1) : RX No ((((w.alloc (.cells (zA (.int .i64 0) n 1) 3)).alloc (.cells (zA (.int .i64 0) n 1) 3)).alloc (.cells #[.int .i64 (n : Int), .int .i64 room, .bool srt, .slice (some ⟨a, 0, none⟩) n n, .slice (some ⟨b, 0, none⟩) n n, .slice none 0 0] 96)).drew) w.heap.size (w.heap.size + 1 + 1) a b n room srt (fun _ => 0) (fun _ => 0) (.slice none 0 0) [] ∧ Below w.heap.size w ((((w.alloc (.cells (zA (.int .i64 0) n 1) 3)).alloc (.cells (zA (.int .i64 0) n 1) 3)).alloc (.cells #[.int .i64 (n : Int), .int .i64 room, .bool srt, .slice (some ⟨a, 0, none⟩) n n, .slice (some ⟨b, 0, none⟩) n n, .slice none 0 0] 96)).drew) := by
  have o1 := own_new w 3 (.int .i64 0) n 1 hn
  have s1 : (w.alloc (.cells (zA (.int .i64 0) n 1) 3)).heap.size = w.heap.size + 1 := World.size_alloc _ _
  have b1 : Below w.heap.size w (w.alloc (.cells (zA (.int .i64 0) n 1) 3)) := (Below.refl _ w).alloc (Nat.le_refl _) _
  generalize (w.alloc (.cells (zA (.int .i64 0) n 1) 3)) = w1 at o1 s1 b1 ⊢
  have o2 := own_new w1 3 (.int .i64 0) n 1 hn
  have b2 : Below w1.heap.size w1 (w1.alloc (.cells (zA (.int .i64 0) n 1) 3)) := (Below.refl _ w1).alloc (Nat.le_refl _) _
  have s2 : (w1.alloc (.cells (zA (.int .i64 0) n 1) 3)).heap.size = w1.heap.size + 1 := World.size_alloc _ _
  generalize (w1.alloc (.cells (zA (.int .i64 0) n 1) 3)) = w2 at o2 s2 b2 ⊢
  rw [s1] at o2 s2
  have b3 : Below w2.heap.size w2 (w2.alloc (.cells #[.int .i64 (n : Int), .int .i64 room, .bool srt, .slice (some ⟨a, 0, none⟩) n n, .slice (some ⟨b, 0, none⟩) n n, .slice none 0 0] 96)).drew := ((Below.refl _ w2).alloc (Nat.le_refl _) _).trans ⟨rfl, rfl, rfl, Nat.le_refl _, fun _ _ => rfl⟩
  have p1 := ((o1.later b2).later b3).congr (G := fun _ => .int .i64 0) fun j hj => made1 _ rfl n j hj
  have p2 := ((o2.later b3).lower (base' := w.heap.size) (by omega)).congr (G := fun _ => .int .i64 0) fun j hj => made1 _ rfl n j hj
  have hp : (w2.alloc (.cells #[.int .i64 (n : Int), .int .i64 room, .bool srt, .slice (some ⟨a, 0, none⟩) n n, .slice (some ⟨b, 0, none⟩) n n, .slice none 0 0] 96)).heap[w.heap.size + 1 + 1]? = some (.cells #[.int .i64 (n : Int), .int .i64 room, .bool srt, .slice (some ⟨a, 0, none⟩) n n, .slice (some ⟨b, 0, none⟩) n n, .slice none 0 0] 96 (0, 0)) := by
    rw [← s2]
    exact World.alloc_heap_new w2 _
  refine ⟨?_, (b1.trans (b2.mono (by omega))).trans (b3.mono (by omega))⟩
  rcases hab with ⟨rfl, rfl⟩ | ⟨rfl, rfl⟩
  · exact ⟨hp, p1, p2, own0 _ _ _ rfl, by omega, by omega, fun k o hk => by cases hk⟩
  · exact ⟨hp, p2, p1, own0 _ _ _ rfl, by omega, by omega, fun k o hk => by cases hk⟩
set_option maxRecDepth 100000 in
set_option maxHeartbeats 4000000 in
theorem ref_newX (srt : Bool) (n : Nat) (room : Int) (h1 : 1 ≤ n) (h2 : n ≤ 64) (h3 : 1 ≤ room) (h4 : room ≤ 1024) (W : World) :
    Calls Try.prog 26 #[.int .i64 (n : Int), .int .i64 room, .bool srt] W fun e w' => ∃ qb pb fb, e = .returned (.tuple #[.pointer (some ⟨qb, 0, none⟩), .int .i64 0]) ∧ RX No w' W.heap.size qb pb fb n room srt (fun _ => 0) (fun _ => 0) (.slice none 0 0) [] ∧ Below W.heap.size W w' := by
  have d1 : decide ((n : Int) < 1) = false := by simp; omega
  have d2 : decide (64 < (n : Int)) = false := by simp; omega
  have d3 : decide (room < 1) = false := by simp; omega
  have d4 : decide (1024 < room) = false := by simp; omega
  obtain ⟨iI, hI1, hI2, hI3, hI4⟩ := binfo infoIN
  have rI : ∀ w : World, (Instr.makeSlice 45 (.int .i64 (n : Int)) (.int .i64 (n : Int))).run Try.prog w = .ok (.slice (some ⟨w.heap.size, 0, none⟩) n n) (w.alloc (.cells (zA (.int .i64 0) n 1) 3)) := run_make_eq _ _ iI _ 1 Try.underlying45 hI1 hI2 hI3 n (by rw [hI4]; omega) (by omega)
  have HM : Hid (n ≤ maxLen) := by show n ≤ maxLen; unfold maxLen; omega
  go_enter Try.func26, Try.ntmps26
  go_upto_region 5 with fail
  go_region
  all_goals
    go_wp2
    refine bodyPost_ret (v := .tuple #[.pointer (some ⟨W.heap.size + 1 + 1, 0, none⟩), .int .i64 0]) (by simp [results, Try.results26, go_sem]) rfl ?_
    first | exact ⟨_, _, _, rfl, rx_new srt W n room HM.out W.heap.size (W.heap.size + 1) (.inl ⟨rfl, rfl⟩)⟩ | exact ⟨_, _, _, rfl, rx_new srt W n room HM.out (W.heap.size + 1) W.heap.size (.inr ⟨rfl, rfl⟩)⟩

set_option maxRecDepth 100000 in
theorem ref_newBadX (srt : Bool) (x room : Int) (h : (x < 1 ∨ 64 < x) ∨ (room < 1 ∨ 1024 < room)) (W : World) :
    Calls Try.prog 26 #[.int .i64 x, .int .i64 room, .bool srt] W fun e w' => e = .returned (.tuple #[.pointer none, .int .i64 (nbad x room)]) ∧ w' = W := by
  unfold nbad
  by_cases h1 : x < 1
  · have d1 : decide (x < 1) = true := by simpa using h1
    rw [if_pos (.inl h1)]
    go_enter Try.func26, Try.ntmps26
    go_wp2
    exact bodyPost_ret (v := .tuple #[.pointer none, .int .i64 100]) (by simp [results, Try.results26, go_sem]) rfl ⟨rfl, rfl⟩
  · have d1 : decide (x < 1) = false := by simpa using h1
    by_cases h2 : 64 < x
    · have d2 : decide (64 < x) = true := by simpa using h2
      rw [if_pos (.inr h2)]
      go_enter Try.func26, Try.ntmps26
      go_wp2
      exact bodyPost_ret (v := .tuple #[.pointer none, .int .i64 100]) (by simp [results, Try.results26, go_sem]) rfl ⟨rfl, rfl⟩
    · have d2 : decide (64 < x) = false := by simpa using h2
      rw [if_neg (by omega)]
      by_cases h3 : room < 1
      · have d3 : decide (room < 1) = true := by simpa using h3
        go_enter Try.func26, Try.ntmps26
        go_wp2
        exact bodyPost_ret (v := .tuple #[.pointer none, .int .i64 84]) (by simp [results, Try.results26, go_sem]) rfl ⟨rfl, rfl⟩
      · have d3 : decide (room < 1) = false := by simpa using h3
        have d4 : decide (1024 < room) = true := by simp; omega
        go_enter Try.func26, Try.ntmps26
        go_wp2
        exact bodyPost_ret (v := .tuple #[.pointer none, .int .i64 84]) (by simp [results, Try.results26, go_sem]) rfl ⟨rfl, rfl⟩
theorem RX.lower {W : World} {Fo : Nat → Option Obj} {base qb pb fb n : Nat} {room : Int} {srt : Bool} {ph fl : Nat → Int} {v : Value} {L : List Lt} {base' : Nat} (h : RX Fo W base qb pb fb n room srt ph fl v L) (hb : base' ≤ base) : RX Fo W base' qb pb fb n room srt ph fl v L := ⟨h.p, h.h.lower hb, h.f.lower hb, h.l.lower hb, h.ne, Nat.le_trans hb h.hbs, h.fr⟩
theorem RX.foot2 {W : World} {Fo : Nat → Option Obj} {base qb pb fb n : Nat} {room : Int} {srt : Bool} {ph fl : Nat → Int} {v : Value} {L : List Lt} (h : RX Fo W base qb pb fb n room srt ph fl v L) {k : Nat} (hk : FQ qb pb fb v k) : base ≤ k ∧ k < W.heap.size := h.foot hk
def V0 : Nat → Value := fun _ => .slice none 0 0
/-- a new shelf -/
theorem sh_new (W : World) (B : Nat) (hB : B ≤ W.heap.size) : SH No (W.alloc (.cells #[.slice none 0 0, .slice none 0 0, .slice none 0 0, .slice none 0 0] 65)) B W.heap.size V0 0 := ⟨World.alloc_heap_new W _, fun i hi => ⟨0, fun _ => undef, ⟨rfl, .inl ⟨rfl, rfl⟩⟩, Nat.le_refl _⟩, fun i j _ _ _ k hk => by simp [V0, Value.ownBlock] at hk, hB, fun k o hk => by cases hk⟩
end Go.Proofs.Ytoihddhjpbahlaa
