import Derived.Test.YtlklolmhaiaaiaaKYR2
namespace Go.Proofs.Ytlklolmhaiaaiaa
open Go.ChangeShapes Go.WideShapes Go.ChangeAt Go.RowKit
set_option linter.unusedVariables false
set_option linter.unusedSimpArgs false

set_option maxRecDepth 100000 in
set_option maxHeartbeats 16000000 in
theorem openRight_turn {sd : Tr → Int} {kt ks kq : Int} {early : Bool} {E : Nat → Ev} (hsd : SdC sd kt ks kq early E) {c d l : Tr} {x y : Nat} {p : Option Addr} {n : Nat} (ih : ROpen n sd kt ks kq early E) (hn : c.size ≤ n) (hn2 : c.size ≤ 8192) (hne : ∀ z ∈ c.ps, z ≠ 0) (W : World) (h : RT W E (.node l x (.node c y d)) p) (hy : y ≠ 0) (hs : sd (.node l x (.node c y d)) = 1) (hs2 : sd (.node c y d) = 0) : Calls Try.prog 72 #[.pointer p, cutV kt ks kq early] W (RO9 W E (openT sd (.node l x (.node c y d)))) := by
  have hcv : cutS kt ks kq early (E y) = -1 := by
    have h9 := hsd c y d
    rw [hs2] at h9
    rcases cutS_three kt ks kq early (E y) with h8 | h8 | h8 <;> rw [h8] at h9 ⊢ <;> simp [sideOf] at h9 ⊢
  rw [openT_rl hs hs2]
  clear hs hs2
  obtain ⟨W1, hW1⟩ : ∃ W1, W.alloc (.cells #[.int .u64 kt, .int .i64 ks, .int .u64 kq, .bool early] 92) = W1 := ⟨_, rfl⟩
  have hb1 : Below W.heap.size W W1 := by rw [← hW1]; exact (Below.refl _ W).alloc (Nat.le_refl _) _
  have hC1 : CBx W1 W.heap.size kt ks kq early := by unfold CBx; rw [← hW1]; exact World.alloc_heap_new W _
  have HW : Hid (W.alloc (.cells #[.int .u64 kt, .int .i64 ks, .int .u64 kq, .bool early] 92) = W1) := hW1
  have h1 := h.later hb1
  obtain ⟨tb, pl, pr, rfl, hT, h4, h3⟩ := h1
  obtain ⟨yb, pc, pd, rfl, hY, h5, h6⟩ := h3
  obtain ⟨t0, t1, t2, t3, t4, t5, t6, t7⟩ := hT.cells
  obtain ⟨y0, y1, y2, y3, y4, y5, y6, y7⟩ := hY.cells
  obtain ⟨c0, c1, c2, c3⟩ := hC1.cells
  have lt := lt_of_block hT
  have ly := lt_of_block hY
  have lc := lt_of_block hC1
  have HS := side_any kt ks kq early (E y) W1.drew
  rw [hcv] at HS
  unfold cutV at HS ⊢
  have u0 := t0; have u7 := t7
  rw [← hW1] at u0 u7
  have lt' := lt
  rw [← hW1] at lt'
  have HX : Hid (TB W1 tb pl (E x) (some ⟨yb, 0, none⟩) ∧ TB W1 yb pc (E y) pd ∧ RT W1 E l pl ∧ RT W1 E c pc ∧ RT W1 E d pd ∧ Below W.heap.size W W1 ∧ CBx W1 W.heap.size kt ks kq early) := ⟨hT, hY, h4, h5, h6, hb1, hC1⟩
  clear hW1 h hcv hT hY h4 h5 h6 hC1 hb1
  go_enter Try.func72, Try.ntmps72
  go_upto_region 4 with fail
  rw [HW.out]
  clear u0 u7 lt'
  go_region_held3 (fun w' => w'.cell? ⟨W.heap.size, 0, none⟩ = some (.int .u64 kt) ∧ w'.cell? ⟨W.heap.size, 1, none⟩ = some (.int .i64 ks) ∧ w'.cell? ⟨W.heap.size, 2, none⟩ = some (.int .u64 kq) ∧ w'.cell? ⟨W.heap.size, 3, none⟩ = some (.bool early) ∧ w'.cell? ⟨yb, 1, none⟩ = some (.int .u64 (E y).t) ∧ w'.cell? ⟨yb, 2, none⟩ = some (.int .i64 (E y).s) ∧ w'.cell? ⟨yb, 3, none⟩ = some (.int .u64 (E y).q)) (first | exact ⟨c0, c1, c2, c3, y1, y2, y3⟩ | with_reducible exact KP | go_keep) ((go_at_call 70; (with_reducible refine HS.mono ?_); rintro e w2 ⟨rfl, hbb⟩; have hb2 : Below W1.heap.size W1 w2 := (below_drewNq _ W1 1).trans (hbb.mono (Nat.le_refl _)); have KP : (fun w' => w'.cell? ⟨W.heap.size, 0, none⟩ = some (.int .u64 kt) ∧ w'.cell? ⟨W.heap.size, 1, none⟩ = some (.int .i64 ks) ∧ w'.cell? ⟨W.heap.size, 2, none⟩ = some (.int .u64 kq) ∧ w'.cell? ⟨W.heap.size, 3, none⟩ = some (.bool early) ∧ w'.cell? ⟨yb, 1, none⟩ = some (.int .u64 (E y).t) ∧ w'.cell? ⟨yb, 2, none⟩ = some (.int .i64 (E y).s) ∧ w'.cell? ⟨yb, 3, none⟩ = some (.int .u64 (E y).q)) w2 := ⟨(cell_below hb2 lc).trans c0, (cell_below hb2 lc).trans c1, (cell_below hb2 lc).trans c2, (cell_below hb2 lc).trans c3, (cell_below hb2 ly).trans y1, (cell_below hb2 ly).trans y2, (cell_below hb2 ly).trans y3⟩))
  clear KP c0 c1 c2 c3 t0 t1 t2 t3 t4 t5 t6 t7 y0 y1 y2 y3 y4 y5 y6 y7 HS lt ly lc
  obtain ⟨hT, hY, h4, h5, h6, hb1, hC1⟩ := HX.out
  have hT := hT.later hb2
  have hY := hY.later hb2
  have h4 := h4.later hb2
  have h5 := h5.later hb2
  have h6 := h6.later hb2
  have hC1 := hC1.later hb2
  have hb12 : Below W.heap.size W w2 := hb1.trans (hb2.mono hb1.size)
  obtain ⟨t0, t1, t2, t3, t4, t5, t6, t7⟩ := hT.cells
  obtain ⟨y0, y1, y2, y3, y4, y5, y6, y7⟩ := hY.cells
  have lt := lt_of_block hT
  have ly := lt_of_block hY
  have HI := ih c pc w2.drew hn hn2 hne (h5.later (below_drewNq _ w2 1))
  have hk9 : (openT sd c).k ≤ c.size := by have := openT_k sd hsd.side c.size c (Nat.le_refl _); omega
  unfold cutV at HI
  obtain ⟨c0, c1, c2, c3⟩ := hC1.cells
  have lc := lt_of_block hC1
  generalize hO : openT sd c = O at *
  have HY : Hid (RT w2 E c pc ∧ RT w2 E d pd ∧ RT w2 E l pl ∧ TB w2 yb pc (E y) pd ∧ TB w2 tb pl (E x) (some ⟨yb, 0, none⟩) ∧ Below W.heap.size W w2 ∧ c.size ≤ 8192 ∧ O.k ≤ c.size) := ⟨h5, h6, h4, hY, hT, hb12, hn2, hk9⟩
  clear hb12 h4 h5 h6 hT hY hC1 hbb HX HW hb1 hb2 hn2 hk9 hn hne hO ih
  go_upto_region 10 with fail
  go_region_held3 (fun w' => w'.cell? ⟨yb, 0, none⟩ = some (.pointer pc) ∧ w'.cell? ⟨W.heap.size, 0, none⟩ = some (.int .u64 kt) ∧ w'.cell? ⟨W.heap.size, 1, none⟩ = some (.int .i64 ks) ∧ w'.cell? ⟨W.heap.size, 2, none⟩ = some (.int .u64 kq) ∧ w'.cell? ⟨W.heap.size, 3, none⟩ = some (.bool early)) (first | exact ⟨y0, c0, c1, c2, c3⟩ | with_reducible exact KP | go_keep) ((go_at_call 50; (with_reducible refine HI.mono ?_); rintro e w3 ⟨pa, pm, pb, rfl, ha, hm, hb, hbb⟩; have hb3 : Below w2.heap.size w2 w3 := (below_drewNq _ w2 1).trans (hbb.mono (Nat.le_refl _)); have KP : (fun w' => w'.cell? ⟨yb, 0, none⟩ = some (.pointer pc) ∧ w'.cell? ⟨W.heap.size, 0, none⟩ = some (.int .u64 kt) ∧ w'.cell? ⟨W.heap.size, 1, none⟩ = some (.int .i64 ks) ∧ w'.cell? ⟨W.heap.size, 2, none⟩ = some (.int .u64 kq) ∧ w'.cell? ⟨W.heap.size, 3, none⟩ = some (.bool early)) w3 := ⟨(cell_below hb3 ly).trans y0, (cell_below hb3 lc).trans c0, (cell_below hb3 lc).trans c1, (cell_below hb3 lc).trans c2, (cell_below hb3 lc).trans c3⟩))
  clear KP c0 c1 c2 c3 t0 t1 t2 t3 t4 t5 t6 t7 y0 y1 y2 y3 y4 y5 y6 y7 HI lc lt ly
  obtain ⟨h5, h6, h4, hY, hT, hb12, hn2, hk9⟩ := HY.out
  have hY3 := hY.later hb3
  have hT3 := hT.later hb3
  obtain ⟨t0, t1, t2, t3, t4, t5, t6, t7⟩ := hT3.cells
  obtain ⟨y0, y1, y2, y3, y4, y5, y6, y7⟩ := hY3.cells
  have lt := lt_of_block hT3
  have ly := lt_of_block hY3
  have HZ : Hid (RT w3 E O.a pa ∧ MT w3 E O.m pm ∧ RT w3 E O.b pb ∧ RT w3 E c pc ∧ RT w3 E d pd ∧ RT w3 E l pl ∧ Below W.heap.size W w3) := ⟨ha.later ((below_drewNq _ w3 0)), hm, hb, h5.later hb3, h6.later hb3, h4.later hb3, hb12.trans (hb3.mono hb12.size)⟩
  have HBT : Hid (ptrBit pc = (c.bit : Int)) := bit_ptr h5
  have kb : c.bit ≤ 1 := bit_le c
  have e1 : IntKind.i64.wrap ((O.k : Int) + 1) = (O.k : Int) + 1 := by rw [IntKind.wrap_i64]; omega
  have e2 : IntKind.i64.wrap ((O.k : Int) + 1 + (c.bit : Int)) = (O.k : Int) + 1 + (c.bit : Int) := by rw [IntKind.wrap_i64]; omega
  clear ha hm hb hbb hY hT h5 h6 h4 hb12 hb3 HY hn2 hk9 kb hT3 hY3
  have HD := fun W9 => down_any pc W9
  rw [HBT.out] at HD
  go_wp2_with fail
  go_region_held3 (fun w' => w'.cell? ⟨yb, 0, none⟩ = some (.pointer pc) ∧ w'.cell? ⟨yb, 1, none⟩ = some (.int .u64 (E y).t) ∧ w'.cell? ⟨yb, 2, none⟩ = some (.int .i64 (E y).s) ∧ w'.cell? ⟨yb, 3, none⟩ = some (.int .u64 (E y).q) ∧ w'.cell? ⟨yb, 4, none⟩ = some (.int .i64 (E y).d) ∧ w'.cell? ⟨yb, 5, none⟩ = some (.int .i64 (E y).k) ∧ w'.cell? ⟨yb, 6, none⟩ = some (.int .i64 (E y).v) ∧ w'.cell? ⟨yb, 7, none⟩ = some (.pointer pd) ∧ w'.cell? ⟨tb, 0, none⟩ = some (.pointer pl) ∧ w'.cell? ⟨tb, 1, none⟩ = some (.int .u64 (E x).t) ∧ w'.cell? ⟨tb, 2, none⟩ = some (.int .i64 (E x).s) ∧ w'.cell? ⟨tb, 3, none⟩ = some (.int .u64 (E x).q) ∧ w'.cell? ⟨tb, 4, none⟩ = some (.int .i64 (E x).d) ∧ w'.cell? ⟨tb, 5, none⟩ = some (.int .i64 (E x).k) ∧ w'.cell? ⟨tb, 6, none⟩ = some (.int .i64 (E x).v) ∧ w'.cell? ⟨tb, 7, none⟩ = some (.pointer (some ⟨yb, 0, none⟩))) (first | exact ⟨y0, y1, y2, y3, y4, y5, y6, y7, t0, t1, t2, t3, t4, t5, t6, t7⟩ | go_keep) ((go_at_call 79; (with_reducible refine (HD _).mono ?_); rintro e w4 ⟨rfl, rfl⟩))
  all_goals (generalize hWF : World.alloc (World.alloc w3 _) _ = wF; obtain ⟨hN1, hN2, hbF⟩ := two_alloc _ _ _ _ _ _ hWF; go_wp2_with fail)
  all_goals (first | (refine bodyPost_ret (v := .tuple #[.pointer (some ⟨w3.heap.size, 0, none⟩), .pointer pm, .pointer (some ⟨w3.heap.size + 1, 0, none⟩), .int .i64 ((O.k : Int) + 1 + (c.bit : Int))]) (by simp [results, Try.results72, go_sem]; try rfl) rfl ?_; obtain ⟨z1, z2, z3, z4, z5, z6, z7⟩ := HZ.out; have hbG : Below w3.heap.size w3 wF.drew := hbF.trans (below_drewNq _ wF 1); have n1 := TB.later hN1 (below_drewNq _ wF 1); have n2 := TB.later hN2 (below_drewNq _ wF 1); exact ⟨_, _, _, by rw [show ((O.k : Int) + 1 + (c.bit : Int)) = (((1 + c.bit + O.k : Nat)) : Int) by omega], ⟨_, _, _, rfl, n1, z6.later hbG, z1.later hbG⟩, z2.later hbG, ⟨_, _, _, rfl, n2, z3.later hbG, z5.later hbG⟩, z7.trans (hbG.mono z7.size)⟩) | (refine bodyPost_ret (v := .tuple #[.pointer (some ⟨w3.heap.size + 1, 0, none⟩), .pointer pm, .pointer (some ⟨w3.heap.size, 0, none⟩), .int .i64 ((O.k : Int) + 1 + (c.bit : Int))]) (by simp [results, Try.results72, go_sem]; try rfl) rfl ?_; obtain ⟨z1, z2, z3, z4, z5, z6, z7⟩ := HZ.out; have hbG : Below w3.heap.size w3 wF.drew := hbF.trans (below_drewNq _ wF 1); have n1 := TB.later hN1 (below_drewNq _ wF 1); have n2 := TB.later hN2 (below_drewNq _ wF 1); exact ⟨_, _, _, by rw [show ((O.k : Int) + 1 + (c.bit : Int)) = (((1 + c.bit + O.k : Nat)) : Int) by omega], ⟨_, _, _, rfl, n2, z6.later hbG, z1.later hbG⟩, z2.later hbG, ⟨_, _, _, rfl, n1, z3.later hbG, z5.later hbG⟩, z7.trans (hbG.mono z7.size)⟩))
end Go.Proofs.Ytlklolmhaiaaiaa
