import Derived.Test.YtkgifanlodlilaaSV3
import Derived.Test.YtkgifanlodlilaaSV4
import Derived.Test.YtkgifanlodlilaaSV7
namespace Go.Proofs.Ytkgifanlodlilaa
open Go.ChangeShapes Go.WideShapes Go.ChangeAt Go.RowKit
set_option linter.unusedVariables false
set_option linter.unusedSimpArgs false

set_option maxRecDepth 100000 in
set_option maxHeartbeats 4000000 in
theorem samePlan_yes (p : Pl) (u v : PlV) (w : World) (h1 : PlAt w p u) (h2 : PlAt w p v) (hr : RoomyL p) : Calls Try.prog 10 #[.agg #[.int .i64 p.ki, .slice u.pp p.np u.pc, .slice u.tp p.nq u.tc, .slice u.sp p.ns u.sc, .int .u64 p.sd, .int .u64 p.lk, .int .u64 p.en, .int .i64 p.bu, .int .i64 p.fu], .agg #[.int .i64 p.ki, .slice v.pp p.np v.pc, .slice v.tp p.nq v.tc, .slice v.sp p.ns v.sc, .int .u64 p.sd, .int .u64 p.lk, .int .u64 p.en, .int .i64 p.bu, .int .i64 p.fu]] w fun e w' => e = .returned (.bool true) ∧ Below w.heap.size w w' := by
  obtain ⟨wb, hwb⟩ : ∃ wb, (w.alloc (.cells #[.int .i64 p.ki, .slice u.pp p.np u.pc, .slice u.tp p.nq u.tc, .slice u.sp p.ns u.sc, .int .u64 p.sd, .int .u64 p.lk, .int .u64 p.en, .int .i64 p.bu, .int .i64 p.fu] 27)).alloc (.cells #[.int .i64 p.ki, .slice v.pp p.np v.pc, .slice v.tp p.nq v.tc, .slice v.sp p.ns v.sc, .int .u64 p.sd, .int .u64 p.lk, .int .u64 p.en, .int .i64 p.bu, .int .i64 p.fu] 27) = wb := ⟨_, rfl⟩
  have hb0 : Below w.heap.size w wb := by rw [← hwb]; exact ((Below.refl _ w).alloc (Nat.le_refl _) _).alloc (by simp) _
  have hbox : wb.heap[w.heap.size]? = some (.cells #[.int .i64 p.ki, .slice u.pp p.np u.pc, .slice u.tp p.nq u.tc, .slice u.sp p.ns u.sc, .int .u64 p.sd, .int .u64 p.lk, .int .u64 p.en, .int .i64 p.bu, .int .i64 p.fu] 27 (0, 0)) := by
    rw [← hwb, Below.heap_alloc _ _ _ (by simp)]
    exact World.alloc_heap_new w _
  have hbx2 : wb.heap[w.heap.size + 1]? = some (.cells #[.int .i64 p.ki, .slice v.pp p.np v.pc, .slice v.tp p.nq v.tc, .slice v.sp p.ns v.sc, .int .u64 p.sd, .int .u64 p.lk, .int .u64 p.en, .int .i64 p.bu, .int .i64 p.fu] 27 (0, 0)) := by
    rw [← hwb]
    have := World.alloc_heap_new (w.alloc (.cells #[.int .i64 p.ki, .slice u.pp p.np u.pc, .slice u.tp p.nq u.tc, .slice u.sp p.ns u.sc, .int .u64 p.sd, .int .u64 p.lk, .int .u64 p.en, .int .i64 p.bu, .int .i64 p.fu] 27)) (.cells #[.int .i64 p.ki, .slice v.pp p.np v.pc, .slice v.tp p.nq v.tc, .slice v.sp p.ns v.sc, .int .u64 p.sd, .int .u64 p.lk, .int .u64 p.en, .int .i64 p.bu, .int .i64 p.fu] 27)
    rwa [World.size_alloc] at this
  have hsz : wb.heap.size = w.heap.size + 2 := by rw [← hwb]; simp
  have HW : Hid ((w.alloc (.cells #[.int .i64 p.ki, .slice u.pp p.np u.pc, .slice u.tp p.nq u.tc, .slice u.sp p.ns u.sc, .int .u64 p.sd, .int .u64 p.lk, .int .u64 p.en, .int .i64 p.bu, .int .i64 p.fu] 27)).alloc (.cells #[.int .i64 p.ki, .slice v.pp p.np v.pc, .slice v.tp p.nq v.tc, .slice v.sp p.ns v.sc, .int .u64 p.sd, .int .u64 p.lk, .int .u64 p.en, .int .i64 p.bu, .int .i64 p.fu] 27) = wb) := hwb
  have hnp := hr.np
  have hnq := hr.nq
  have hns := hr.ns
  have H1 : ∀ w', Below wb.heap.size wb w' → Hid (Calls Try.prog 19 #[.slice u.pp p.np u.pc, .slice v.pp p.np v.pc] w' fun e w9 => e = .returned (.bool true) ∧ Below w'.heap.size w' w9) := fun w' hb => samePrograms_yes _ _ _ _ _ _ _ _ (by omega) hr.pg w' ((h1.below hb0).below hb).ps ((h2.below hb0).below hb).ps
  have H2 : ∀ w', Below wb.heap.size wb w' → Hid (Calls Try.prog 20 #[.slice u.tp p.nq u.tc, .slice v.tp p.nq v.tc] w' fun e w9 => e = .returned (.bool true) ∧ Below w'.heap.size w' w9) := fun w' hb => sameParts_yes _ _ _ _ _ _ _ _ _ _ _ _ (by omega) hr.nw w' ((h1.below hb0).below hb).ts ((h2.below hb0).below hb).ts
  have H3 : ∀ w', Below wb.heap.size wb w' → Hid (Calls Try.prog 21 #[.slice u.sp p.ns u.sc, .slice v.sp p.ns v.sc] w' fun e w9 => e = .returned (.bool true) ∧ Below w'.heap.size w' w9) := fun w' hb => sameStarts_yes _ _ _ _ _ _ (by omega) w' ((h1.below hb0).below hb).st ((h2.below hb0).below hb).st
  clear h1 h2 hr hnp hnq hns
  obtain ⟨⟨c0, c1, c2, c3⟩, c4, c5, c6, c7, c8⟩ := cells9 hbox
  obtain ⟨⟨d0, d1, d2, d3⟩, d4, d5, d6, d7, d8⟩ := cells9 hbx2
  rw [← hwb] at c0 c1 c2 c3 c4 c5 c6 c7 c8 d0 d1 d2 d3 d4 d5 d6 d7 d8
  clear hwb
  go_enter Try.func10, Try.ntmps10
  go_wp2_with (first | (go_at_call 19; rw [HW.out]; (with_reducible refine (H1 wb (Below.refl _ _)).out.mono ?_); rintro e w1 ⟨rfl, hb1⟩; obtain ⟨⟨c0, c1, c2, c3⟩, c4, c5, c6, c7, c8⟩ := cells9 ((hb1.block _ (by omega)).trans hbox); obtain ⟨⟨d0, d1, d2, d3⟩, d4, d5, d6, d7, d8⟩ := cells9 ((hb1.block _ (by omega)).trans hbx2)) | (go_at_call 20; (with_reducible refine (H2 w1 hb1).out.mono ?_); rintro e w2 ⟨rfl, hb2'⟩; have hb2 : Below wb.heap.size wb w2 := hb1.trans (hb2'.mono hb1.size); obtain ⟨⟨c0, c1, c2, c3⟩, c4, c5, c6, c7, c8⟩ := cells9 ((hb2.block _ (by omega)).trans hbox); obtain ⟨⟨d0, d1, d2, d3⟩, d4, d5, d6, d7, d8⟩ := cells9 ((hb2.block _ (by omega)).trans hbx2)) | (go_at_call 21; (with_reducible refine (H3 w2 hb2).out.mono ?_); rintro e w3 ⟨rfl, hb3'⟩))
  go_ret
  have hb3 : Below wb.heap.size wb w3 := hb2.trans (hb3'.mono hb2.size)
  exact ⟨rfl, hb0.trans (hb3.mono hb0.size)⟩
end Go.Proofs.Ytkgifanlodlilaa
