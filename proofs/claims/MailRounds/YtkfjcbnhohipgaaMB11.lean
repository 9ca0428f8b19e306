import Derived.Test.YtkfjcbnhohipgaaMB10
import Derived.BigQuiet
import Derived.Deep.RegionLaw
import Derived.Deep.RegionHeld3
import Derived.Deep.Cut
import Derived.Deep.DeepCutAuto
import Derived.Deep.CutBlock
import Derived.Deep.CutRange
import Derived.Deep.AppendLies
import Derived.Handy
import Derived.Lib.RabinKarpLaws
namespace Go.Proofs.Ytkfjcbnhohipgaa
open Go.ChangeShapes Go.WideShapes Go.ChangeAt Go.RowKit
set_option linter.unusedVariables false
set_option linter.unusedSimpArgs false


def noH : Nat → Nat → Nat → Hf := fun _ _ _ => ⟨none, 0, 0, fun _ => (0, 0)⟩
theorem NP.mp {W : World} {base hb wb bb n : Nat}  {room : Int} {cmp : Value} {R : Nat → Nat} (h : NP W base hb wb bb n room cmp R n) : MP  (fun _ => none) W base hb wb bb n room cmp R (fun _ => 0) (fun _ => 0) noH :=
  ⟨h.p, h.w.congr fun j _ => (by unfold wkF; split <;> rfl), h.b.congr fun j hj => (by show (if j < n then _ else _) = _; rw [if_pos (by omega)]), fun i hi => (h.r i hi).congr fun j _ => rfl, h.ap, fun i j k _ _ _ => ⟨rfl, .inl ⟨rfl, rfl⟩⟩, fun i j k i' j' k' _ _ _ _ _ _ g h1 _ => by simp [noH, Hf.v, Value.ownBlock] at h1, h.hbs, fun _ _ _ => Nat.zero_le _, fun k o hk => by cases hk⟩
set_option maxRecDepth 100000 in
theorem flip_no (x : Int) {Fo : Nat → Option Obj} {base hb wb bb n : Nat} {room : Int} {cmp : Value} {R : Nat → Nat} {ph fl : Nat → Int} {H : Nat → Nat → Nat → Hf} (hx : x < 0 ∨ (n : Int) ≤ x) (W : World) (h : MP Fo W base hb wb bb n room cmp R ph fl H) :
    Calls Try.prog 16 #[.pointer (some ⟨hb, 0, none⟩), .int .i64 x] W fun r W' => r = .returned (.int .i64 91) ∧ W' = W := by
  have HE := err_no hb wb bb n room x hx cmp W h.p
  clear h hx
  go_enter Try.func16, Try.ntmps16
  go_wp2_with (go_at_call 20; (with_reducible refine HE.mono ?_); rintro e9 w1 ⟨rfl, h9⟩; subst h9)
  go_ret
  exact ⟨rfl, rfl⟩
set_option maxRecDepth 100000 in
theorem drop_no (x : Int) {Fo : Nat → Option Obj} {base hb wb bb n : Nat} {room : Int} {cmp : Value} {R : Nat → Nat} {ph fl : Nat → Int} {H : Nat → Nat → Nat → Hf} (hx : x < 0 ∨ (n : Int) ≤ x) (W : World) (h : MP Fo W base hb wb bb n room cmp R ph fl H) :
    Calls Try.prog 18 #[.pointer (some ⟨hb, 0, none⟩), .int .i64 x] W fun r W' => r = .returned (.tuple #[.int .i64 0, .int .i64 91]) ∧ W' = W := by
  have HK := knows_no hb wb bb n room x hx cmp W h.p
  clear h hx
  go_enter Try.func18, Try.ntmps18
  go_wp2_with (go_at_call 30; (with_reducible refine HK.mono ?_); rintro e9 w1 ⟨rfl, h9⟩; subst h9)
  refine bodyPost_ret (v := .tuple #[.int .i64 0, .int .i64 91]) (by simp [results, Try.results18, go_sem]) rfl ?_
  exact ⟨rfl, rfl⟩
set_option maxRecDepth 100000 in
theorem drain_no (x : Int) {Fo : Nat → Option Obj} {base hb wb bb n : Nat} {room : Int} {cmp : Value} {R : Nat → Nat} {ph fl : Nat → Int} {H : Nat → Nat → Nat → Hf} (hx : x < 0 ∨ (n : Int) ≤ x) (W : World) (h : MP Fo W base hb wb bb n room cmp R ph fl H) :
    Calls Try.prog 17 #[.pointer (some ⟨hb, 0, none⟩), .int .i64 x] W fun r W' => r = .returned (.tuple #[.slice none 0 0, .int .i64 91]) ∧ W' = W := by
  have HK := knows_no hb wb bb n room x hx cmp W h.p
  clear h hx
  go_enter Try.func17, Try.ntmps17
  go_wp2_with (go_at_call 30; (with_reducible refine HK.mono ?_); rintro e9 w1 ⟨rfl, h9⟩; subst h9)
  refine bodyPost_ret (v := .tuple #[.slice none 0 0, .int .i64 91]) (by simp [results, Try.results17, go_sem]) rfl ?_
  exact ⟨rfl, rfl⟩
set_option maxRecDepth 100000 in
theorem drain_low (x : Nat) {Fo : Nat → Option Obj} {base hb wb bb n : Nat} {room : Int} {cmp : Value} {R : Nat → Nat} {ph fl : Nat → Int} {H : Nat → Nat → Nat → Hf} (hx : x < n) (hn : n ≤ 64) (hlow : Low ph n x) (W : World) (h : MP Fo W base hb wb bb n room cmp R ph fl H) :
    Calls Try.prog 17 #[.pointer (some ⟨hb, 0, none⟩), .int .i64 (x : Int)] W fun r W' => r = .returned (.tuple #[.slice none 0 0, .int .i64 92]) ∧ MP Fo W' base hb wb bb n room cmp R ph fl H ∧ Below W.heap.size W W' := by
  have HK := knows_yes hb wb bb n room x hx cmp W h.p
  have HLD := leads_any hb wb bb n room x hx hn cmp ph fl W h.p h.wk (Own.lt h.w wb rfl).2 (lt_of_block h.p)
  have HH := mhid (And.intro h hlow)
  clear h hlow
  go_enter Try.func17, Try.ntmps17
  go_wp2_with (first | (go_at_call 30; (with_reducible refine HK.mono ?_); rintro e9 w1 ⟨rfl, h9⟩; subst h9) | (go_at_call 33; (with_reducible refine HLD.mono ?_); rintro r9 w2 ⟨b2, rfl, h2, h3⟩; obtain rfl : b2 = true := h2.2 HH.out.2; have B2 := mhid h3; clear h2 h3))
  refine bodyPost_ret (v := .tuple #[.slice none 0 0, .int .i64 92]) (by simp [results, Try.results17, go_sem]) rfl ?_
  exact ⟨rfl, HH.out.1.later B2.out, B2.out⟩
end Go.Proofs.Ytkfjcbnhohipgaa
