import Derived.Test.YtoihddhjpbahlaaME9
import Derived.BigQuiet
import Derived.Deep.RegionLaw
import Derived.Deep.RegionHeld3
import Derived.Deep.Cut
import Derived.Deep.DeepCutAuto
import Derived.Deep.CutBlock
import Derived.Deep.CutRange
import Derived.Deep.AppendLies
import Derived.Handy
import Derived.Lib.RabinKarpLaws
namespace Go.Proofs.Ytoihddhjpbahlaa
open Go.ChangeShapes Go.WideShapes Go.ChangeAt Go.RowKit
set_option linter.unusedVariables false
set_option linter.unusedSimpArgs false


/-- the new posts and the new shelf, side by side -/
theorem o3_new {n : Nat} {room : Int} {cmp : Value} {srt : Bool} {B : Nat} {w2 w3 : World} {hb wb bb : Nat} {R : Nat → Nat} {qb pb fb : Nat} (hm : MP No w2 B hb wb bb n room cmp R (fun _ => 0) (fun _ => 0) noH) (hq : RX No w3 w2.heap.size qb pb fb n room srt (fun _ => 0) (fun _ => 0) (.slice none 0 0) []) (hB : B ≤ w2.heap.size) (hb3 : Below w2.heap.size w2 w3) : O3 n room cmp srt B (w3.alloc (.cells #[.slice none 0 0, .slice none 0 0, .slice none 0 0, .slice none 0 0] 65)) ⟨hb, wb, bb, R, fun _ => 0, fun _ => 0, noH, qb, pb, fb, fun _ => 0, fun _ => 0, .slice none 0 0, [], w3.heap.size, V0, 0⟩ := by
  have ha : Below w3.heap.size w3 (w3.alloc (.cells #[.slice none 0 0, .slice none 0 0, .slice none 0 0, .slice none 0 0] 65)) := (Below.refl _ w3).alloc (Nat.le_refl _) _
  have hs : ∀ k, FS w3.heap.size V0 k → k = w3.heap.size := fun k hk => by
    rcases hk with hk | ⟨i, _, hk⟩
    · exact hk
    · simp [V0, Value.ownBlock] at hk
  refine ⟨(hm.later hb3).later ha, (hq.lower hB).later ha, sh_new w3 B (Nat.le_trans hB hb3.size), fun k h1 h2 => ?_, fun k h1 h2 => ?_, fun k h1 h2 => ?_, Nat.le_trans (Nat.le_trans hB hb3.size) ha.size⟩
  · have e1 := (hm.foot h1).2
    have e2 := (hq.foot h2).1
    omega
  · have e1 := (hm.foot h1).2
    have e2 := hs k h2
    have e3 := hb3.size
    omega
  · have e1 := (hq.foot h1).2
    have e2 := hs k h2
    omega
theorem ra_new {n : Nat} {room : Int} {hb wb bb : Nat} {R : Nat → Nat} {qb pb fb sb : Nat} (hr : 0 ≤ room) : RA n room ⟨hb, wb, bb, R, fun _ => 0, fun _ => 0, noH, qb, pb, fb, fun _ => 0, fun _ => 0, .slice none 0 0, [], sb, V0, 0⟩ 0 := ⟨RE.new n room hr, rfl, rfl⟩
end Go.Proofs.Ytoihddhjpbahlaa
