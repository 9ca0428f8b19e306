import Derived.Test.YtpeojhhbinfekabDoorText3
import Derived.ChangeOld
namespace Go.Proofs.YtpeojhhbinfekabDoor
open Go.ChangeShapes Go.WideShapes Go.ChangeAt Go.RowKit

set_option maxHeartbeats 2000000 in
theorem law_texts (t q : Nat) (s d k v : Int) (ht : t < 18446744073709551616) (hq : q < 18446744073709551616) (hs : -9223372036854775808 ≤ s ∧ s ≤ 9223372036854775807) (hd : -9223372036854775808 ≤ d ∧ d ≤ 9223372036854775807) (hk : -9223372036854775808 ≤ k ∧ k ≤ 9223372036854775807) (hv : -9223372036854775808 ≤ v ∧ v ≤ 9223372036854775807) (w : World)
    (htab : Lib.TabIs Tryd.prog w "internal/strconv.uint64pow10" .u64 Lib.pow10Tab) :
    Calls Tryd.prog 3 #[.agg #[.int .u64 t, .int .i64 s, .int .u64 q, .int .i64 d, .int .i64 k, .int .i64 v]] w fun e w' => e = .returned (.bool true) ∧ Below w.heap.size w w' := by
  have TAB : Hid (Lib.TabBelow Tryd.prog w.heap.size w "internal/strconv.uint64pow10" .u64 Lib.pow10Tab) := Lib.tabBelow_of_tabIs htab
  clear htab
  go_enter Tryd.func3, Tryd.ntmps3
  go_wp2_with fail
  go_region_held3 (fun w' => w'.cell? ⟨w.heap.size, 0, none⟩ = some (.int .u64 t) ∧ w'.cell? ⟨w.heap.size, 1, none⟩ = some (.int .i64 s) ∧ w'.cell? ⟨w.heap.size, 2, none⟩ = some (.int .u64 q) ∧ w'.cell? ⟨w.heap.size, 3, none⟩ = some (.int .i64 d) ∧ w'.cell? ⟨w.heap.size, 4, none⟩ = some (.int .i64 k) ∧ w'.cell? ⟨w.heap.size, 5, none⟩ = some (.int .i64 v) ∧ w.heap.size < w'.heap.size ∧ Below w.heap.size w w') (first | (exact startB _ _ _ _ _ _ _ _ _ rfl) | (refine keepB ?_ hb rfl; assumption)) (first | (go_at_call 4; refine (text_any t q s d k v ht hq hs hd hk hv _ ?_).mono ?_; (exact TAB.out _ (belowB (by assumption))); rintro e w' ⟨rfl, hb⟩) | (go_at_call 5; refine (refText_any t q s d k v ht hq hs hd hk hv _).mono ?_; rintro e w' ⟨rfl, hb⟩))
  rename_i hS
  have hB2 := belowB hS
  clear hb
  go_wp2_with fail
  go_ret
  exact ⟨rfl, hB2⟩
end Go.Proofs.YtpeojhhbinfekabDoor
