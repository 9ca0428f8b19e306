import Derived.Test.YtlldhjobfgkfcaaDoorS6
namespace Go.Proofs.YtlldhjobfgkfcaaDoor
open Go.ChangeShapes Go.WideShapes Go.ChangeAt Go.RowKit
set_option linter.unusedVariables false

set_option maxRecDepth 100000 in
set_option maxHeartbeats 1000000 in
theorem law_titles (p : Option Addr) (n c : Nat) (N : Nat → Plc) (k : Int) (hz : (n * 40 ≤ 140737488351232) ∧ ∀ i, i < n → PlOk (N i)) (hk : -9223372036854775808 ≤ k ∧ k ≤ 9223372036854775807) (w : World) (ht : Tab w) (hp : QSrc w p n c N) :
    Calls Tryd.prog 3 #[.slice p n c, .int .i64 k] w fun e w' => e = .returned (.bool true) ∧ Below w.heap.size w w' := by
  obtain ⟨hn, hN⟩ := hz
  have hn' : n ≤ 17592186044416 := by omega
  have HS : ∀ w1 : World, Hid (Below w.heap.size w w1) → Hid (Calls Tryd.prog 5 #[.slice p n c] w1 fun e w' => ∃ q d, e = .returned (sceneV (.slice q n d)) ∧ Hid (QAt w' q n N) ∧ Hid (Below w.heap.size w w')) := fun w1 h1 => by
    refine (scene_any p n c N hn w1 (hp.below h1.out)).mono ?_
    rintro e w' ⟨q, d, rfl, h2, h3⟩
    exact ⟨q, d, rfl, h2, h1.out.trans (h3.mono h1.out.size)⟩
  have HP : ∀ (w1 : World) q d, Hid (QAt w1 q n N) → Hid (Below w.heap.size w w1) → Hid (Calls Tryd.prog 4 #[sceneV (.slice q n d), .int .i64 k] w1 fun e w' => e = .returned (.tuple #[.string (titleF N n k).1, .int .i64 (titleF N n k).2]) ∧ Hid (Below w.heap.size w w')) := fun w1 q d h0 h1 => by
    refine (title_any q n d N k hk.1 hk.2 hN hn' w1 (ht.below h1.out) h0.out).mono ?_
    rintro e w' ⟨rfl, h3⟩
    exact ⟨rfl, h1.out.trans (h3.mono h1.out.size)⟩
  have HR : ∀ (w1 : World) q d, Hid (QAt w1 q n N) → Hid (Below w.heap.size w w1) → Hid (Calls Tryd.prog 6 #[sceneV (.slice q n d), .int .i64 k] w1 fun e w' => e = .returned (.tuple #[.string (titleF N n k).1, .int .i64 (titleF N n k).2]) ∧ Hid (Below w.heap.size w w')) := fun w1 q d h0 h1 => by
    refine (rtitle_any q n d N k hk.1 hk.2 hN hn' w1 h0.out).mono ?_
    rintro e w' ⟨rfl, h3⟩
    exact ⟨rfl, h1.out.trans (h3.mono h1.out.size)⟩
  have hb : Hid (Below w.heap.size w w) := Below.refl _ _
  generalize (titleF N n k).1 = r1 at HP HR
  generalize (titleF N n k).2 = r2 at HP HR
  clear hp hn hN ht hk
  go_enter Tryd.func3, Tryd.ntmps3
  go_wp2_with (first | (go_at_call 5; (with_reducible refine ((HS _ hb).out).mono ?_); rintro e w1 ⟨q, d, rfl, hq, hb1⟩; replace hb := hb1; clear hb1) | (go_at_call 4; (with_reducible refine ((HP _ _ _ hq hb).out).mono ?_); rintro e w1 ⟨rfl, hb1⟩; replace hb := hb1; clear hb1) | (go_at_call 6; (with_reducible refine ((HR _ _ _ hq hb).out).mono ?_); rintro e w1 ⟨rfl, hb1⟩; replace hb := hb1; clear hb1))
  go_ret
  exact ⟨rfl, hb.out⟩
end Go.Proofs.YtlldhjobfgkfcaaDoor
