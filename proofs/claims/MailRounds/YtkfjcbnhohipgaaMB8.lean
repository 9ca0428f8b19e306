import Derived.Test.YtkfjcbnhohipgaaMB7
import Derived.BigQuiet
import Derived.Deep.RegionLaw
import Derived.Deep.RegionHeld3
import Derived.Deep.Cut
import Derived.Deep.DeepCutAuto
import Derived.Deep.CutBlock
import Derived.Deep.CutRange
import Derived.Deep.AppendLies
import Derived.Handy
import Derived.Lib.RabinKarpLaws
namespace Go.Proofs.Ytkfjcbnhohipgaa
open Go.ChangeShapes Go.WideShapes Go.ChangeAt Go.RowKit
set_option linter.unusedVariables false
set_option linter.unusedSimpArgs false


set_option maxRecDepth 100000 in
set_option maxHeartbeats 4000000 in
theorem send_no (x y : Int) (a b : Int) {Fo : Nat → Option Obj} {base hb wb bb n : Nat} {room : Int} {cmp : Value} {R : Nat → Nat} {ph fl : Nat → Int} {H : Nat → Nat → Nat → Hf} (hx : x < 0 ∨ (n : Int) ≤ x) (W : World) (h : MP Fo W base hb wb bb n room cmp R ph fl H) :
    Calls Try.prog 15 #[.pointer (some ⟨hb, 0, none⟩), .int .i64 x, .int .i64 y, .agg #[.int .i64 a, .int .i64 b]] W fun r W' => r = .returned (.int .i64 91) ∧ MP Fo W' base hb wb bb n room cmp R ph fl H ∧ Below W.heap.size W W' := by
  obtain ⟨wA, hwA⟩ : ∃ wA, W.alloc (.cells #[.int .i64 a, .int .i64 b] 31) = wA := ⟨_, rfl⟩
  have hbA : Below W.heap.size W wA := by rw [← hwA]; exact (Below.refl _ W).alloc (Nat.le_refl _) _
  have hMA := h.later hbA
  have HWA := mhid hwA
  have HE := err_no hb wb bb n room x hx cmp wA hMA.p
  have HM := mhid (And.intro hMA hbA)
  clear h hMA hbA hwA hx
  go_enter Try.func15, Try.ntmps15
  go_wp2_with (go_at_call 20; rw [HWA.out]; (with_reducible refine HE.mono ?_); rintro e9 w1 ⟨rfl, h9⟩; subst h9)
  go_ret
  exact ⟨rfl, HM.out.1, HM.out.2⟩
set_option maxRecDepth 100000 in
set_option maxHeartbeats 4000000 in
theorem send_failed (x : Nat) (y : Int) (a b : Int) {Fo : Nat → Option Obj} {base hb wb bb n : Nat} {room : Int} {cmp : Value} {R : Nat → Nat} {ph fl : Nat → Int} {H : Nat → Nat → Nat → Hf} (hx : x < n) (hf : fl x ≠ 0) (W : World) (h : MP Fo W base hb wb bb n room cmp R ph fl H) :
    Calls Try.prog 15 #[.pointer (some ⟨hb, 0, none⟩), .int .i64 (x : Int), .int .i64 y, .agg #[.int .i64 a, .int .i64 b]] W fun r W' => r = .returned (.int .i64 (fl x)) ∧ MP Fo W' base hb wb bb n room cmp R ph fl H ∧ Below W.heap.size W W' := by
  obtain ⟨wA, hwA⟩ : ∃ wA, W.alloc (.cells #[.int .i64 a, .int .i64 b] 31) = wA := ⟨_, rfl⟩
  have hbA : Below W.heap.size W wA := by rw [← hwA]; exact (Below.refl _ W).alloc (Nat.le_refl _) _
  have hMA := h.later hbA
  have HWA := mhid hwA
  have HE := err_yes hb wb bb n room x hx cmp _ _ wA hMA.p hMA.wk
  have HM := mhid (And.intro hMA hbA)
  have d0 : (fl x != 0) = true := by simp [hf]
  have d1 : (fl x == 0) = false := by simp [hf]
  clear h hMA hbA hwA hf
  go_enter Try.func15, Try.ntmps15
  go_wp2_with (go_at_call 20; rw [HWA.out]; (with_reducible refine HE.mono ?_); rintro e9 w1 ⟨rfl, h9⟩; subst h9)
  go_ret
  exact ⟨rfl, HM.out.1, HM.out.2⟩
set_option maxRecDepth 100000 in
set_option maxHeartbeats 4000000 in
theorem send_who (x : Nat) (y : Int) (a b : Int) {Fo : Nat → Option Obj} {base hb wb bb n : Nat} {room : Int} {cmp : Value} {R : Nat → Nat} {ph fl : Nat → Int} {H : Nat → Nat → Nat → Hf} (hx : x < n) (hy : y < 0 ∨ (n : Int) ≤ y) (hf : fl x = 0) (W : World) (h : MP Fo W base hb wb bb n room cmp R ph fl H) (hbase : base ≤ W.heap.size) :
    Calls Try.prog 15 #[.pointer (some ⟨hb, 0, none⟩), .int .i64 (x : Int), .int .i64 y, .agg #[.int .i64 a, .int .i64 b]] W fun r W' => r = .returned (.int .i64 91) ∧ MP Fo W' base hb wb bb n room cmp R ph (fun i => if i = x then 91 else fl i) H ∧ Below base W W' := by
  obtain ⟨wA, hwA⟩ : ∃ wA, W.alloc (.cells #[.int .i64 a, .int .i64 b] 31) = wA := ⟨_, rfl⟩
  have hbA : Below W.heap.size W wA := by rw [← hwA]; exact (Below.refl _ W).alloc (Nat.le_refl _) _
  have hMA := h.later hbA
  have HWA := mhid hwA
  have HE := err_yes hb wb bb n room x hx cmp _ _ wA hMA.p hMA.wk
  rw [hf] at HE
  have HK := knows_no hb wb bb n room y hy cmp wA hMA.p
  have HFA := fail_any x hx 91 wA hMA
  have HM := mhid (hbA.mono hbase)
  clear h hMA hbA hwA hf hy
  go_enter Try.func15, Try.ntmps15
  go_wp2_with (first | (go_at_call 20; rw [HWA.out]; (with_reducible refine HE.mono ?_); rintro e9 w1 ⟨rfl, h9⟩; subst h9) | (go_at_call 30; (with_reducible refine HK.mono ?_); rintro e9 w1 ⟨rfl, h9⟩; subst h9) | (go_at_call 31; (with_reducible refine HFA.mono ?_); rintro e9 w2 ⟨rfl, m2, b2⟩))
  go_ret
  exact ⟨rfl, m2, HM.out.trans b2⟩
set_option maxRecDepth 100000 in
set_option maxHeartbeats 4000000 in
theorem send_full (x y : Nat) (a b : Int) {Fo : Nat → Option Obj} {base hb wb bb n : Nat} {room : Int} {cmp : Value} {R : Nat → Nat} {ph fl : Nat → Int} {H : Nat → Nat → Nat → Hf} (hx : x < n) (hy : y < n) (hp : 0 ≤ ph x ∧ ph x < 4611686018427387904) (hf : fl x = 0) (W : World) (h : MP Fo W base hb wb bb n room cmp R ph fl H) (hbase : base ≤ W.heap.size) (hr : ((H x y (par (ph x))).l : Int) = room) :
    Calls Try.prog 15 #[.pointer (some ⟨hb, 0, none⟩), .int .i64 (x : Int), .int .i64 (y : Int), .agg #[.int .i64 a, .int .i64 b]] W fun r W' => r = .returned (.int .i64 90) ∧ MP Fo W' base hb wb bb n room cmp R ph (fun i => if i = x then 90 else fl i) H ∧ Below base W W' := by
  have i0 : (0 : Int) ≤ (x : Int) := by omega
  have i1 : (x : Int) < (n : Int) := by omega
  have j0 : (0 : Int) ≤ (y : Int) := by omega
  have j1 : (y : Int) < (n : Int) := by omega
  have hpe := par_le (ph x)
  obtain ⟨px, hpx⟩ : ∃ px, ph x = px := ⟨_, rfl⟩
  rw [hpx] at hp hr hpe
  obtain ⟨e, he⟩ : ∃ e, par px = e := ⟨_, rfl⟩
  have HHF : Hid (∀ b o W, Calls Try.prog 32 #[.pointer (some ⟨b, o, none⟩), .int .i64 px] W fun r W' => r = .returned (.pointer (some ⟨b, o + e, none⟩)) ∧ W' = W) := fun b o W => by rw [← he]; exact half_any b o px (by omega) W
  rw [he] at hr hpe
  clear he hp
  obtain ⟨wA, hwA⟩ : ∃ wA, W.alloc (.cells #[.int .i64 a, .int .i64 b] 31) = wA := ⟨_, rfl⟩
  have hbA : Below W.heap.size W wA := by rw [← hwA]; exact (Below.refl _ W).alloc (Nat.le_refl _) _
  have hMA := h.later hbA
  have HWA := mhid hwA
  have HE := err_yes hb wb bb n room x hx cmp _ _ wA hMA.p hMA.wk
  rw [hf] at HE
  have HK := knows_yes hb wb bb n room y hy cmp wA hMA.p
  have HFA : Hid (∀ k, Calls Try.prog 31 #[.pointer (some ⟨hb, 0, none⟩), .int .i64 (x : Int), .int .i64 90] (wA.drewN k) fun e W' => e = .returned (.int .i64 90) ∧ MP Fo W' base hb wb bb n room cmp R ph (fun i => if i = x then 90 else fl i) H ∧ Below base wA W') := fun k => (fail_any x hx 90 (wA.drewN k) (hMA.later ⟨rfl, rfl, rfl, Nat.le_refl _, fun _ _ => rfl⟩)).mono fun e W' h9 => ⟨h9.1, h9.2.1, Below.trans (show Below base wA (wA.drewN k) from ⟨rfl, rfl, rfl, Nat.le_refl _, fun _ _ => rfl⟩) h9.2.2⟩
  obtain ⟨c0, c1, c2, c3⟩ := hMA.p.cells
  have y0 := hMA.bs.b x hx
  have y1 := hMA.hv hx hy (k := e) (by omega)
  have y2 := (hMA.wk x hx).1
  rw [hpx] at y2
  obtain ⟨f, hfe⟩ : ∃ f, H x y e = f := ⟨_, rfl⟩
  rw [hfe] at y1 hr
  have dr : ((f.l : Int) == room) = true := by simp [hr]
  have HM := mhid (And.intro (hbA.mono hbase) (Nat.le_trans hbase hbA.size))
  unfold Hf.v at y1
  clear h hMA hwA hbA hfe hpx hf hbase hr
  go_enter Try.func15, Try.ntmps15
  go_upto_region 6 with (first | (go_at_call 20; rw [HWA.out]; (with_reducible refine HE.mono ?_); rintro e9 w1 ⟨rfl, h9⟩; subst h9) | (go_at_call 30; (with_reducible refine HK.mono ?_); rintro e9 w1 ⟨rfl, h9⟩; subst h9))
  go_quiet ((go_at_call 32; refine Calls.quiet_of_same (HHF.out _ _ _)))
  go_wp2
  go_quiet (fail)
  go_wp2_with (go_at_call 31; (with_reducible refine (HFA.out _).mono ?_); rintro e9 w2 ⟨rfl, m2, b2⟩)
  go_ret
  exact ⟨rfl, m2, HM.out.1.trans b2⟩
end Go.Proofs.Ytkfjcbnhohipgaa
