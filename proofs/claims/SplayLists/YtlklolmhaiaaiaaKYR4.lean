import Derived.Test.YtlklolmhaiaaiaaKYR2Lsame
import Derived.Test.YtlklolmhaiaaiaaKYR2Lturn
import Derived.Test.YtlklolmhaiaaiaaKYR2Rsame
import Derived.Test.YtlklolmhaiaaiaaKYR2Rturn
namespace Go.Proofs.Ytlklolmhaiaaiaa
open Go.ChangeShapes Go.WideShapes Go.ChangeAt Go.RowKit
set_option linter.unusedVariables false
set_option linter.unusedSimpArgs false

theorem openLeft_any {n : Nat} {sd : Tr → Int} {kt ks kq : Int} {early : Bool} {E : Nat → Ev} (hsd : SdC sd kt ks kq early E) (ih : ROpen n sd kt ks kq early E) {l r : Tr} {x : Nat} {p : Option Addr} (W : World) (h : RT W E (.node l x r) p) (hn : l.size ≤ n + 1) (hn2 : l.size ≤ 8192) (hne : ∀ z ∈ l.ps, z ≠ 0) (hs : sd (.node l x r) = 0) : Calls Try.prog 71 #[.pointer p, cutV kt ks kq early] W (RO9 W E (openT sd (.node l x r))) := by
  cases l with
  | nil => exact openLeft_nil hsd W h hs
  | node c y d =>
    have hy : y ≠ 0 := hne y (by simp [Tr.ps])
    simp only [Tr.size] at hn hn2
    rcases hsd.side c y d with h2 | h2 | h2
    · exact openLeft_same hsd ih (by omega) (by omega) (fun z hz => hne z (by simp [Tr.ps, hz])) W h hy hs h2
    · exact openLeft_turn hsd ih (by omega) (by omega) (fun z hz => hne z (by simp [Tr.ps, hz])) W h hy hs h2
    · exact openLeft_here hsd W h hy hs h2
theorem openRight_any {n : Nat} {sd : Tr → Int} {kt ks kq : Int} {early : Bool} {E : Nat → Ev} (hsd : SdC sd kt ks kq early E) (ih : ROpen n sd kt ks kq early E) {l r : Tr} {x : Nat} {p : Option Addr} (W : World) (h : RT W E (.node l x r) p) (hn : r.size ≤ n + 1) (hn2 : r.size ≤ 8192) (hne : ∀ z ∈ r.ps, z ≠ 0) (hs : sd (.node l x r) = 1) : Calls Try.prog 72 #[.pointer p, cutV kt ks kq early] W (RO9 W E (openT sd (.node l x r))) := by
  cases r with
  | nil => exact openRight_nil hsd W h hs
  | node c y d =>
    have hy : y ≠ 0 := hne y (by simp [Tr.ps])
    simp only [Tr.size] at hn hn2
    rcases hsd.side c y d with h2 | h2 | h2
    · exact openRight_turn hsd ih (by omega) (by omega) (fun z hz => hne z (by simp [Tr.ps, hz])) W h hy hs h2
    · exact openRight_same hsd ih (by omega) (by omega) (fun z hz => hne z (by simp [Tr.ps, hz])) W h hy hs h2
    · exact openRight_here hsd W h hy hs h2
set_option maxRecDepth 100000 in
set_option maxHeartbeats 8000000 in
theorem open_nil {sd : Tr → Int} {kt ks kq : Int} {early : Bool} {E : Nat → Ev} (W : World) : Calls Try.prog 50 #[.pointer none, cutV kt ks kq early] W (RO9 W E (openT sd .nil)) := by
  rw [openT_nil]
  unfold cutV
  have HB : Hid (Below W.heap.size W (W.alloc (.cells #[.int .u64 kt, .int .i64 ks, .int .u64 kq, .bool early] 92))) := (Below.refl _ W).alloc (Nat.le_refl _) _
  go_enter Try.func50, Try.ntmps50
  go_wp2_with fail
  refine bodyPost_ret (v := .tuple #[.pointer none, .pointer none, .pointer none, .int .i64 0]) (by simp [results, Try.results50, go_sem]; try rfl) rfl ?_
  exact ⟨none, none, none, rfl, rfl, .inl ⟨rfl, rfl⟩, rfl, HB.out⟩
set_option maxRecDepth 100000 in
set_option maxHeartbeats 8000000 in
theorem open_here {sd : Tr → Int} {kt ks kq : Int} {early : Bool} {E : Nat → Ev} (hsd : SdC sd kt ks kq early E) {l r : Tr} {x : Nat} {p : Option Addr} (W : World) (h : RT W E (.node l x r) p) (hx : x ≠ 0) (hs : sd (.node l x r) = 2) : Calls Try.prog 50 #[.pointer p, cutV kt ks kq early] W (RO9 W E (openT sd (.node l x r))) := by
  have hcv : cutS kt ks kq early (E x) = 0 := by
    have h9 := hsd l x r
    rw [hs] at h9
    rcases cutS_three kt ks kq early (E x) with h8 | h8 | h8 <;> rw [h8] at h9 ⊢ <;> simp [sideOf] at h9 ⊢
  obtain ⟨W1, hW1⟩ : ∃ W1, W.alloc (.cells #[.int .u64 kt, .int .i64 ks, .int .u64 kq, .bool early] 92) = W1 := ⟨_, rfl⟩
  have hb1 : Below W.heap.size W W1 := by rw [← hW1]; exact (Below.refl _ W).alloc (Nat.le_refl _) _
  have hC1 : CBx W1 W.heap.size kt ks kq early := by unfold CBx; rw [← hW1]; exact World.alloc_heap_new W _
  have HW : Hid (W.alloc (.cells #[.int .u64 kt, .int .i64 ks, .int .u64 kq, .bool early] 92) = W1) := hW1
  have h0 := h.later hb1
  obtain ⟨tb, pl, pr, rfl, hT, h3, h4⟩ := h.later hb1
  obtain ⟨t0, t1, t2, t3, t4, t5, t6, t7⟩ := hT.cells
  obtain ⟨c0, c1, c2, c3⟩ := hC1.cells
  have lt := lt_of_block hT
  have lc := lt_of_block hC1
  have HS := side_any kt ks kq early (E x) W1.drew
  rw [hcv] at HS
  unfold cutV at HS
  have HX : Hid (RT W1 E (.node l x r) (some ⟨tb, 0, none⟩) ∧ TB W1 tb pl (E x) pr ∧ RT W1 E l pl ∧ RT W1 E r pr ∧ Below W.heap.size W W1 ∧ CBx W1 W.heap.size kt ks kq early) := ⟨h0, hT, h3, h4, hb1, hC1⟩
  rw [openT_here hs]
  unfold cutV
  clear hs
  clear hW1 h h0 hcv hT h3 h4 hC1 hb1
  go_enter Try.func50, Try.ntmps50
  go_upto_region 3 with fail
  rw [HW.out]
  go_region_held3 (fun w' => w'.cell? ⟨W.heap.size, 0, none⟩ = some (.int .u64 kt) ∧ w'.cell? ⟨W.heap.size, 1, none⟩ = some (.int .i64 ks) ∧ w'.cell? ⟨W.heap.size, 2, none⟩ = some (.int .u64 kq) ∧ w'.cell? ⟨W.heap.size, 3, none⟩ = some (.bool early) ∧ w'.cell? ⟨tb, 1, none⟩ = some (.int .u64 (E x).t) ∧ w'.cell? ⟨tb, 2, none⟩ = some (.int .i64 (E x).s) ∧ w'.cell? ⟨tb, 3, none⟩ = some (.int .u64 (E x).q)) (first | exact ⟨c0, c1, c2, c3, t1, t2, t3⟩ | with_reducible exact KP | go_keep) ((go_at_call 70; (with_reducible refine HS.mono ?_); rintro e w2 ⟨rfl, hbb⟩; have hb2 : Below W1.heap.size W1 w2 := (below_drewNq _ W1 1).trans (hbb.mono (Nat.le_refl _)); have KP : (fun w' => w'.cell? ⟨W.heap.size, 0, none⟩ = some (.int .u64 kt) ∧ w'.cell? ⟨W.heap.size, 1, none⟩ = some (.int .i64 ks) ∧ w'.cell? ⟨W.heap.size, 2, none⟩ = some (.int .u64 kq) ∧ w'.cell? ⟨W.heap.size, 3, none⟩ = some (.bool early) ∧ w'.cell? ⟨tb, 1, none⟩ = some (.int .u64 (E x).t) ∧ w'.cell? ⟨tb, 2, none⟩ = some (.int .i64 (E x).s) ∧ w'.cell? ⟨tb, 3, none⟩ = some (.int .u64 (E x).q)) w2 := ⟨(cell_below hb2 lc).trans c0, (cell_below hb2 lc).trans c1, (cell_below hb2 lc).trans c2, (cell_below hb2 lc).trans c3, (cell_below hb2 lt).trans t1, (cell_below hb2 lt).trans t2, (cell_below hb2 lt).trans t3⟩))
  clear KP c0 c1 c2 c3 t0 t1 t2 t3 t4 t5 t6 t7 HS lt lc
  obtain ⟨h0, hT, h3, h4, hb1, hC1⟩ := HX.out
  have hT := hT.later hb2
  have h0 := h0.later hb2
  have h3 := h3.later hb2
  have h4 := h4.later hb2
  have hC1 := hC1.later hb2
  have hb12 : Below W.heap.size W w2 := hb1.trans (hb2.mono hb1.size)
  obtain ⟨t0, t1, t2, t3, t4, t5, t6, t7⟩ := hT.cells
  obtain ⟨c0, c1, c2, c3⟩ := hC1.cells
  have lt := lt_of_block hT
  have lc := lt_of_block hC1
  have HY : Hid (RT w2 E l pl ∧ RT w2 E r pr ∧ TB w2 tb pl (E x) pr ∧ Below W.heap.size W w2) := ⟨h3, h4, hT, hb12⟩
  clear hb12 h0 h3 h4 hT hC1 hbb HX HW hb1 hb2
  go_wp2_with fail
  go_quiet (fail)
  go_wp2_with fail
  refine bodyPost_ret (v := .tuple #[.pointer pl, .pointer (some ⟨tb, 0, none⟩), .pointer pr, .int .i64 0]) (by simp [results, Try.results50, go_sem]; try rfl) rfl ?_
  obtain ⟨h3, h4, hT, hb12⟩ := HY.out
  have hd := below_drewNq w2.heap.size w2 1
  exact ⟨_, _, _, rfl, h3.later (below_drewNq _ _ _), .inr ⟨hx, tb, _, _, rfl, hT.later (below_drewNq _ _ _)⟩, h4.later (below_drewNq _ _ _), hb12.trans (below_drewNq _ _ _)⟩
set_option maxRecDepth 100000 in
set_option maxHeartbeats 8000000 in
theorem open_l {sd : Tr → Int} {kt ks kq : Int} {early : Bool} {E : Nat → Ev} (hsd : SdC sd kt ks kq early E) {l r : Tr} {x : Nat} {p : Option Addr} {n : Nat} (ih : ROpen n sd kt ks kq early E) (hn : l.size ≤ n + 1) (hn2 : l.size ≤ 8192) (hne : ∀ z ∈ l.ps, z ≠ 0) (W : World) (h : RT W E (.node l x r) p) (hx : x ≠ 0) (hs : sd (.node l x r) = 0) : Calls Try.prog 50 #[.pointer p, cutV kt ks kq early] W (RO9 W E (openT sd (.node l x r))) := by
  have hcv : cutS kt ks kq early (E x) = -1 := by
    have h9 := hsd l x r
    rw [hs] at h9
    rcases cutS_three kt ks kq early (E x) with h8 | h8 | h8 <;> rw [h8] at h9 ⊢ <;> simp [sideOf] at h9 ⊢
  obtain ⟨W1, hW1⟩ : ∃ W1, W.alloc (.cells #[.int .u64 kt, .int .i64 ks, .int .u64 kq, .bool early] 92) = W1 := ⟨_, rfl⟩
  have hb1 : Below W.heap.size W W1 := by rw [← hW1]; exact (Below.refl _ W).alloc (Nat.le_refl _) _
  have hC1 : CBx W1 W.heap.size kt ks kq early := by unfold CBx; rw [← hW1]; exact World.alloc_heap_new W _
  have HW : Hid (W.alloc (.cells #[.int .u64 kt, .int .i64 ks, .int .u64 kq, .bool early] 92) = W1) := hW1
  have h0 := h.later hb1
  obtain ⟨tb, pl, pr, rfl, hT, h3, h4⟩ := h.later hb1
  obtain ⟨t0, t1, t2, t3, t4, t5, t6, t7⟩ := hT.cells
  obtain ⟨c0, c1, c2, c3⟩ := hC1.cells
  have lt := lt_of_block hT
  have lc := lt_of_block hC1
  have HS := side_any kt ks kq early (E x) W1.drew
  rw [hcv] at HS
  unfold cutV at HS
  have HX : Hid (RT W1 E (.node l x r) (some ⟨tb, 0, none⟩) ∧ TB W1 tb pl (E x) pr ∧ RT W1 E l pl ∧ RT W1 E r pr ∧ Below W.heap.size W W1 ∧ CBx W1 W.heap.size kt ks kq early) := ⟨h0, hT, h3, h4, hb1, hC1⟩
  have HI : Hid (∀ w2, RT w2 E (.node l x r) (some ⟨tb, 0, none⟩) → Calls Try.prog 71 #[.pointer (some ⟨tb, 0, none⟩), cutV kt ks kq early] w2 (RO9 w2 E (openT sd (.node l x r)))) := fun w2 h9 => openLeft_any hsd ih w2 h9 hn hn2 hne hs
  unfold cutV at HI ⊢
  generalize hO : openT sd (.node l x r) = O at *
  clear ih hn hn2 hne hs hO
  clear hW1 h h0 hcv hT h3 h4 hC1 hb1
  go_enter Try.func50, Try.ntmps50
  go_upto_region 3 with fail
  rw [HW.out]
  go_region_held3 (fun w' => w'.cell? ⟨W.heap.size, 0, none⟩ = some (.int .u64 kt) ∧ w'.cell? ⟨W.heap.size, 1, none⟩ = some (.int .i64 ks) ∧ w'.cell? ⟨W.heap.size, 2, none⟩ = some (.int .u64 kq) ∧ w'.cell? ⟨W.heap.size, 3, none⟩ = some (.bool early) ∧ w'.cell? ⟨tb, 1, none⟩ = some (.int .u64 (E x).t) ∧ w'.cell? ⟨tb, 2, none⟩ = some (.int .i64 (E x).s) ∧ w'.cell? ⟨tb, 3, none⟩ = some (.int .u64 (E x).q)) (first | exact ⟨c0, c1, c2, c3, t1, t2, t3⟩ | with_reducible exact KP | go_keep) ((go_at_call 70; (with_reducible refine HS.mono ?_); rintro e w2 ⟨rfl, hbb⟩; have hb2 : Below W1.heap.size W1 w2 := (below_drewNq _ W1 1).trans (hbb.mono (Nat.le_refl _)); have KP : (fun w' => w'.cell? ⟨W.heap.size, 0, none⟩ = some (.int .u64 kt) ∧ w'.cell? ⟨W.heap.size, 1, none⟩ = some (.int .i64 ks) ∧ w'.cell? ⟨W.heap.size, 2, none⟩ = some (.int .u64 kq) ∧ w'.cell? ⟨W.heap.size, 3, none⟩ = some (.bool early) ∧ w'.cell? ⟨tb, 1, none⟩ = some (.int .u64 (E x).t) ∧ w'.cell? ⟨tb, 2, none⟩ = some (.int .i64 (E x).s) ∧ w'.cell? ⟨tb, 3, none⟩ = some (.int .u64 (E x).q)) w2 := ⟨(cell_below hb2 lc).trans c0, (cell_below hb2 lc).trans c1, (cell_below hb2 lc).trans c2, (cell_below hb2 lc).trans c3, (cell_below hb2 lt).trans t1, (cell_below hb2 lt).trans t2, (cell_below hb2 lt).trans t3⟩))
  clear KP c0 c1 c2 c3 t0 t1 t2 t3 t4 t5 t6 t7 HS lt lc
  obtain ⟨h0, hT, h3, h4, hb1, hC1⟩ := HX.out
  have hT := hT.later hb2
  have h0 := h0.later hb2
  have h3 := h3.later hb2
  have h4 := h4.later hb2
  have hC1 := hC1.later hb2
  have hb12 : Below W.heap.size W w2 := hb1.trans (hb2.mono hb1.size)
  obtain ⟨t0, t1, t2, t3, t4, t5, t6, t7⟩ := hT.cells
  obtain ⟨c0, c1, c2, c3⟩ := hC1.cells
  have lt := lt_of_block hT
  have lc := lt_of_block hC1
  have HC := HI.out w2 h0
  have HY : Hid (Below W.heap.size W w2) := hb12
  clear hb12 h0 h3 h4 hT hC1 hbb HX HW hb1 hb2 HI
  go_wp2_with (go_at_call 71; (with_reducible refine HC.mono ?_); rintro e w3 ⟨pa, pm, pb, rfl, ha, hm, hb, hbb⟩)
  refine bodyPost_ret (v := .tuple #[.pointer pa, .pointer pm, .pointer pb, .int .i64 (O.k : Int)]) (by simp [results, Try.results50, go_sem]; try rfl) rfl ?_
  exact ⟨_, _, _, rfl, ha, hm, hb, HY.out.trans (hbb.mono HY.out.size)⟩
set_option maxRecDepth 100000 in
set_option maxHeartbeats 8000000 in
theorem open_r {sd : Tr → Int} {kt ks kq : Int} {early : Bool} {E : Nat → Ev} (hsd : SdC sd kt ks kq early E) {l r : Tr} {x : Nat} {p : Option Addr} {n : Nat} (ih : ROpen n sd kt ks kq early E) (hn : r.size ≤ n + 1) (hn2 : r.size ≤ 8192) (hne : ∀ z ∈ r.ps, z ≠ 0) (W : World) (h : RT W E (.node l x r) p) (hx : x ≠ 0) (hs : sd (.node l x r) = 1) : Calls Try.prog 50 #[.pointer p, cutV kt ks kq early] W (RO9 W E (openT sd (.node l x r))) := by
  have hcv : cutS kt ks kq early (E x) = 1 := by
    have h9 := hsd l x r
    rw [hs] at h9
    rcases cutS_three kt ks kq early (E x) with h8 | h8 | h8 <;> rw [h8] at h9 ⊢ <;> simp [sideOf] at h9 ⊢
  obtain ⟨W1, hW1⟩ : ∃ W1, W.alloc (.cells #[.int .u64 kt, .int .i64 ks, .int .u64 kq, .bool early] 92) = W1 := ⟨_, rfl⟩
  have hb1 : Below W.heap.size W W1 := by rw [← hW1]; exact (Below.refl _ W).alloc (Nat.le_refl _) _
  have hC1 : CBx W1 W.heap.size kt ks kq early := by unfold CBx; rw [← hW1]; exact World.alloc_heap_new W _
  have HW : Hid (W.alloc (.cells #[.int .u64 kt, .int .i64 ks, .int .u64 kq, .bool early] 92) = W1) := hW1
  have h0 := h.later hb1
  obtain ⟨tb, pl, pr, rfl, hT, h3, h4⟩ := h.later hb1
  obtain ⟨t0, t1, t2, t3, t4, t5, t6, t7⟩ := hT.cells
  obtain ⟨c0, c1, c2, c3⟩ := hC1.cells
  have lt := lt_of_block hT
  have lc := lt_of_block hC1
  have HS := side_any kt ks kq early (E x) W1.drew
  rw [hcv] at HS
  unfold cutV at HS
  have HX : Hid (RT W1 E (.node l x r) (some ⟨tb, 0, none⟩) ∧ TB W1 tb pl (E x) pr ∧ RT W1 E l pl ∧ RT W1 E r pr ∧ Below W.heap.size W W1 ∧ CBx W1 W.heap.size kt ks kq early) := ⟨h0, hT, h3, h4, hb1, hC1⟩
  have HI : Hid (∀ w2, RT w2 E (.node l x r) (some ⟨tb, 0, none⟩) → Calls Try.prog 72 #[.pointer (some ⟨tb, 0, none⟩), cutV kt ks kq early] w2 (RO9 w2 E (openT sd (.node l x r)))) := fun w2 h9 => openRight_any hsd ih w2 h9 hn hn2 hne hs
  unfold cutV at HI ⊢
  generalize hO : openT sd (.node l x r) = O at *
  clear ih hn hn2 hne hs hO
  clear hW1 h h0 hcv hT h3 h4 hC1 hb1
  go_enter Try.func50, Try.ntmps50
  go_upto_region 3 with fail
  rw [HW.out]
  go_region_held3 (fun w' => w'.cell? ⟨W.heap.size, 0, none⟩ = some (.int .u64 kt) ∧ w'.cell? ⟨W.heap.size, 1, none⟩ = some (.int .i64 ks) ∧ w'.cell? ⟨W.heap.size, 2, none⟩ = some (.int .u64 kq) ∧ w'.cell? ⟨W.heap.size, 3, none⟩ = some (.bool early) ∧ w'.cell? ⟨tb, 1, none⟩ = some (.int .u64 (E x).t) ∧ w'.cell? ⟨tb, 2, none⟩ = some (.int .i64 (E x).s) ∧ w'.cell? ⟨tb, 3, none⟩ = some (.int .u64 (E x).q)) (first | exact ⟨c0, c1, c2, c3, t1, t2, t3⟩ | with_reducible exact KP | go_keep) ((go_at_call 70; (with_reducible refine HS.mono ?_); rintro e w2 ⟨rfl, hbb⟩; have hb2 : Below W1.heap.size W1 w2 := (below_drewNq _ W1 1).trans (hbb.mono (Nat.le_refl _)); have KP : (fun w' => w'.cell? ⟨W.heap.size, 0, none⟩ = some (.int .u64 kt) ∧ w'.cell? ⟨W.heap.size, 1, none⟩ = some (.int .i64 ks) ∧ w'.cell? ⟨W.heap.size, 2, none⟩ = some (.int .u64 kq) ∧ w'.cell? ⟨W.heap.size, 3, none⟩ = some (.bool early) ∧ w'.cell? ⟨tb, 1, none⟩ = some (.int .u64 (E x).t) ∧ w'.cell? ⟨tb, 2, none⟩ = some (.int .i64 (E x).s) ∧ w'.cell? ⟨tb, 3, none⟩ = some (.int .u64 (E x).q)) w2 := ⟨(cell_below hb2 lc).trans c0, (cell_below hb2 lc).trans c1, (cell_below hb2 lc).trans c2, (cell_below hb2 lc).trans c3, (cell_below hb2 lt).trans t1, (cell_below hb2 lt).trans t2, (cell_below hb2 lt).trans t3⟩))
  clear KP c0 c1 c2 c3 t0 t1 t2 t3 t4 t5 t6 t7 HS lt lc
  obtain ⟨h0, hT, h3, h4, hb1, hC1⟩ := HX.out
  have hT := hT.later hb2
  have h0 := h0.later hb2
  have h3 := h3.later hb2
  have h4 := h4.later hb2
  have hC1 := hC1.later hb2
  have hb12 : Below W.heap.size W w2 := hb1.trans (hb2.mono hb1.size)
  obtain ⟨t0, t1, t2, t3, t4, t5, t6, t7⟩ := hT.cells
  obtain ⟨c0, c1, c2, c3⟩ := hC1.cells
  have lt := lt_of_block hT
  have lc := lt_of_block hC1
  have HC := HI.out w2 h0
  have HY : Hid (Below W.heap.size W w2) := hb12
  clear hb12 h0 h3 h4 hT hC1 hbb HX HW hb1 hb2 HI
  go_wp2_with (go_at_call 72; (with_reducible refine HC.mono ?_); rintro e w3 ⟨pa, pm, pb, rfl, ha, hm, hb, hbb⟩)
  refine bodyPost_ret (v := .tuple #[.pointer pa, .pointer pm, .pointer pb, .int .i64 (O.k : Int)]) (by simp [results, Try.results50, go_sem]; try rfl) rfl ?_
  exact ⟨_, _, _, rfl, ha, hm, hb, HY.out.trans (hbb.mono HY.out.size)⟩
theorem open_ref {sd : Tr → Int} {kt ks kq : Int} {early : Bool} {E : Nat → Ev} (hsd : SdC sd kt ks kq early E) : ∀ n, ROpen n sd kt ks kq early E
  | 0, .nil, p, W, _, _, _, h => by
    have h : p = none := h
    subst h
    exact open_nil W
  | 0, .node l x r, p, W, hn, _, _, _ => by simp [Tr.size] at hn
  | n + 1, .nil, p, W, _, _, _, h => by
    have h : p = none := h
    subst h
    exact open_nil W
  | n + 1, .node l x r, p, W, hn, hn2, hne, h => by
    simp only [Tr.size] at hn hn2
    have ih := open_ref hsd n
    have hx : x ≠ 0 := hne x (by simp [Tr.ps])
    rcases hsd.side l x r with h2 | h2 | h2
    · exact open_l hsd ih (by omega) (by omega) (fun z hz => hne z (by simp [Tr.ps, hz])) W h hx h2
    · exact open_r hsd ih (by omega) (by omega) (fun z hz => hne z (by simp [Tr.ps, hz])) W h hx h2
    · exact open_here hsd W h hx h2
end Go.Proofs.Ytlklolmhaiaaiaa
namespace Go.Proofs.Ytlklolmhaiaaiaa
open Go.ChangeShapes Go.WideShapes Go.ChangeAt Go.RowKit
set_option linter.unusedVariables false
set_option linter.unusedSimpArgs false

/-! ### the least one by its key -/
theorem keyCmp_refl (e : Ev) : cmpE e.t e.s e.q e = 0 := keyCmp_self _ _ _
theorem openK_least {E : Nat → Ev} : ∀ (n : Nat) (t : Tr), t.size ≤ n → t.ps.Pairwise (fun p q => keyLt (E p) (E q)) → ∀ m L, t.ps = m :: L → openT (sdK (E m).t (E m).s (E m).q E) t = openT sdL t
  | n, .nil, _, _, m, L, h => by simp [Tr.ps] at h
  | 0, .node a x b, h, _, _, _, _ => by simp [Tr.size] at h
  | n + 1, .node a x b, hn, hp, m, L, h => by
    simp only [Tr.size] at hn
    have here : ∀ l r, sdK (E m).t (E m).s (E m).q E (.node l m r) = 2 := fun l r => by
      show sideOf (cmpE _ _ _ (E m)) = 2
      rw [keyCmp_refl]; rfl
    have less : ∀ l z r, keyLt (E m) (E z) → sdK (E m).t (E m).s (E m).q E (.node l z r) = 0 := fun l z r hz => by
      show sideOf (cmpE _ _ _ (E z)) = 0
      rw [show cmpE (E m).t (E m).s (E m).q (E z) = -1 from hz]; rfl
    cases a with
    | nil =>
      have hm : x = m := by simp [Tr.ps] at h; exact h.1
      subst hm
      rw [openT_here (here _ _), openT_here (show sdL (.node .nil x b) = 2 from rfl)]
    | node c y d =>
      simp only [Tr.size] at hn
      simp only [Tr.ps] at hp h
      have hp1 := List.pairwise_append.1 hp
      cases c with
      | nil =>
        have hm : y = m := by simp [Tr.ps] at h; exact h.1
        subst hm
        have hx : keyLt (E y) (E x) := hp1.2.2 y (by simp [Tr.ps]) x (by simp)
        rw [openT_lh (less _ _ _ hx) (here _ _), openT_lh (show sdL (.node (.node .nil y d) x b) = 0 from rfl) (show sdL (.node .nil y d) = 2 from rfl)]
      | node c1 y1 d1 =>
        have hp2 := List.pairwise_append.1 hp1.1
        have hm : ∃ L', (Tr.node c1 y1 d1).ps = m :: L' := by
          have h9 : (Tr.node c1 y1 d1).ps ≠ [] := by simp [Tr.ps]
          obtain ⟨m', L', e⟩ := List.exists_cons_of_ne_nil h9
          rw [e] at h
          simp at h
          exact ⟨L', by rw [e, h.1]⟩
        obtain ⟨L', hm⟩ := hm
        have hmm : m ∈ (Tr.node c1 y1 d1).ps := by rw [hm]; simp
        have hx : keyLt (E m) (E x) := hp1.2.2 m (by simp [hmm]) x (by simp)
        have hy : keyLt (E m) (E y) := hp2.2.2 m hmm y (by simp)
        rw [openT_ll (less _ _ _ hx) (less _ _ _ hy), openT_ll (show sdL (.node (.node (.node c1 y1 d1) y d) x b) = 0 from rfl) (show sdL (.node (.node c1 y1 d1) y d) = 0 from rfl)]
        rw [openK_least n (.node c1 y1 d1) (by simp only [Tr.size] at hn ⊢; omega) hp2.1 m L' hm]
def Srt (E : Nat → Ev) (t : Tr) : Prop := t.ps.Pairwise fun p q => keyLt (E p) (E q)
set_option maxRecDepth 100000 in
set_option maxHeartbeats 8000000 in
theorem rleast_any {E : Nat → Ev} {t : Tr} {p : Option Addr} (W : World) (h : RT W E t p) (ht : t ≠ .nil) (hs : Srt E t) (hn : t.size ≤ 8192) (hne : ∀ x ∈ t.ps, x ≠ 0) :
    Calls Try.prog 76 #[.pointer p] W fun e W' => ∃ pm pb, e = .returned (.tuple #[.pointer pm, .pointer pb, .int .i64 ((openT sdL t).k : Int)]) ∧ MT W' E (openT sdL t).m pm ∧ RT W' E (openT sdL t).b pb ∧ Below W.heap.size W W' := by
  obtain ⟨m, L, hm⟩ : ∃ m L, t.ps = m :: L := by
    cases t with
    | nil => exact absurd rfl ht
    | node l x r => exact List.exists_cons_of_ne_nil (by simp [Tr.ps])
  have hO := open_ref (sdC_K (E m).t (E m).s (E m).q E) t.size t p W (Nat.le_refl _) hn hne h
  rw [openK_least t.size t (Nat.le_refl _) hs m L hm] at hO
  unfold cutV at hO
  have HO : Hid (∃ ml, t.ps = m :: ml) := ⟨L, hm⟩
  generalize hQ : openT sdL t = Q at *
  clear hQ hs hn hne hm
  obtain ⟨nt, hnt⟩ : ∃ nt, t.size = nt := ⟨_, rfl⟩
  go_enter Try.func76, Try.ntmps76
  go_wp2_with fail
  go_loopg [5] nt (fun k x wr => ∃ (u : Tr) (q : Option Addr), k = u.size ∧ x = .pointer q ∧ RT W E u q ∧ (∃ L', u.ps = m :: L') ∧ wr = W)
  case atStart => exact ⟨t, p, hnt.symm, rfl, h, HO.out, rfl⟩
  case round =>
    obtain ⟨u, q, hk, rfl, hu, hm, rfl⟩ := hrel
    cases u with
    | nil => obtain ⟨L', h9⟩ := hm; simp [Tr.ps] at h9
    | node l x r =>
      obtain ⟨b, pl, pr, rfl, hT, hl, hr⟩ := hu
      obtain ⟨t0, t1, t2, t3, t4, t5, t6, t7⟩ := hT.cells
      have lt := lt_of_block hT
      cases l with
      | nil =>
        have h9 : pl = none := hl
        subst h9
        have hx : x = m := by obtain ⟨L', h9⟩ := hm; simp [Tr.ps] at h9; exact h9.1
        subst hx
        clear hm hT hl hr
        go_wp2_with (go_at_call 50; (with_reducible refine hO.mono ?_); rintro e w3 ⟨pa, pm, pb, rfl, ha, hmm, hb, hbb⟩)
        refine bodyPost_ret (v := .tuple #[.pointer pm, .pointer pb, .int .i64 (Q.k : Int)]) (by simp [results, Try.results76, go_sem]; try rfl) rfl ?_
        exact ⟨_, _, rfl, hmm, hb, hbb⟩
      | node c y d =>
        have hl0 := hl
        obtain ⟨b2, p2, p3, rfl, _⟩ := hl
        have hm2 : ∃ L', (Tr.node c y d).ps = m :: L' := by
          obtain ⟨L', h8⟩ := hm
          obtain ⟨m', L2, h9⟩ := List.exists_cons_of_ne_nil (show (Tr.node c y d).ps ≠ [] by simp [Tr.ps])
          have h8 : (Tr.node c y d).ps ++ x :: r.ps = m :: L' := h8
          rw [h9] at h8
          simp at h8
          exact ⟨L2, by rw [h9, h8.1]⟩
        have hsz : (Tr.node c y d).size < (Tr.node (.node c y d) x r).size := by simp only [Tr.size]; omega
        clear hm hT hr
        go_wp2_with fail
        go_roundg (Tr.node c y d).size
        case measure => rw [hk]; exact hsz
        case rel => exact ⟨_, _, rfl, rfl, hl0, hm2, rfl⟩
set_option maxRecDepth 100000 in
set_option maxHeartbeats 8000000 in
theorem rjoin8_any {E : Nat → Ev} {a b : Tr} {pa pb : Option Addr} (W : World) (ha : RT W E a pa) (hb : RT W E b pb) (hs : Srt E b) (hn : b.size ≤ 8192) (hne : ∀ x ∈ b.ps, x ≠ 0) :
    Calls Try.prog 77 #[.pointer pa, .pointer pb] W fun e W' => ∃ pj, e = .returned (.tuple #[.pointer pj, .int .i64 (joinK a b : Int)]) ∧ RT W' E (joinT a b) pj ∧ Below W.heap.size W W' := by
  by_cases h1 : b = .nil
  · subst h1
    have h9 : pb = none := hb
    subst h9
    have e1 : joinT a .nil = a := by cases a <;> rfl
    have e2 : joinK a .nil = 0 := by cases a <;> rfl
    rw [e1, e2]
    clear e1 e2
    go_enter Try.func77, Try.ntmps77
    go_wp2_with fail
    refine bodyPost_ret (v := .tuple #[.pointer pa, .int .i64 0]) (by simp [results, Try.results77, go_sem]; try rfl) rfl ?_
    exact ⟨_, rfl, ha, Below.refl _ _⟩
  · by_cases h2 : a = .nil
    · subst h2
      have h9 : pa = none := ha
      subst h9
      have e1 : joinT .nil b = b := by cases b <;> rfl
      have e2 : joinK .nil b = 0 := by cases b <;> rfl
      rw [e1, e2]
      have hb0 := hb
      cases b with
      | nil => exact absurd rfl h1
      | node l x r =>
        obtain ⟨bb, pl, pr, rfl, _⟩ := hb
        clear e1 e2
        go_enter Try.func77, Try.ntmps77
        go_wp2_with fail
        refine bodyPost_ret (v := .tuple #[.pointer (some ⟨bb, 0, none⟩), .int .i64 0]) (by simp [results, Try.results77, go_sem]; try rfl) rfl ?_
        exact ⟨_, rfl, hb0, Below.refl _ _⟩
    · rw [joinT_pos h2 h1, joinK_pos h2 h1]
      have HL := rleast_any W hb h1 hs hn hne
      have hmne : (openT sdL b).m ≠ 0 := by
        have := least_ps h1 hne
        exact hne _ (by rw [this]; simp)
      have hb0 := hb
      have ha0 := ha
      obtain ⟨ab, ea⟩ : ∃ ab, pa = some ⟨ab, 0, none⟩ := by
        cases a with
        | nil => exact absurd rfl h2
        | node l x r => obtain ⟨bb, pl, pr, h9, _⟩ := ha; exact ⟨bb, h9⟩
      obtain ⟨bb, eb⟩ : ∃ bb, pb = some ⟨bb, 0, none⟩ := by
        cases b with
        | nil => exact absurd rfl h1
        | node l x r => obtain ⟨bb, pl, pr, h9, _⟩ := hb; exact ⟨bb, h9⟩
      subst ea eb
      generalize openT sdL b = Q at *
      clear hs hn hne h1 h2 hb ha
      go_enter Try.func77, Try.ntmps77
      go_upto_region 6 with (go_at_call 76; (with_reducible refine HL.mono ?_); rintro e w3 ⟨pm, pb', rfl, hmm, hbq, hbb⟩)
      rcases hmm with ⟨h9, _⟩ | ⟨_, mb, ml, mr, rfl, hM⟩
      · exact absurd h9 hmne
      · obtain ⟨t0, t1, t2, t3, t4, t5, t6, t7⟩ := hM.cells
        have lt := lt_of_block hM
        go_wp2_with fail
        generalize hWF : World.alloc w3 _ = wF
        obtain ⟨hN, hbF⟩ := put8T wF hWF
        refine bodyPost_ret (v := .tuple #[.pointer (some ⟨w3.heap.size, 0, none⟩), .int .i64 (Q.k : Int)]) (by simp [results, Try.results77, go_sem]; try rfl) rfl ?_
        exact ⟨_, rfl, ⟨_, _, _, rfl, hN, (ha0.later hbb).later hbF, hbq.later hbF⟩, hbb.trans (hbF.mono hbb.size)⟩
end Go.Proofs.Ytlklolmhaiaaiaa
