import Derived.Test.YtlklolmhaiaaiaaKYWay
import Derived.Test.YtlklolmhaiaaiaaKY35
import Derived.Test.YtlklolmhaiaaiaaKY26
namespace Go.Proofs.Ytlklolmhaiaaiaa
open Go.ChangeShapes Go.WideShapes Go.ChangeAt Go.RowKit
set_option linter.unusedVariables false
set_option linter.unusedSimpArgs false

/-! ### the document's trees as they lie -/
def TB (W : World) (b : Nat) (pl : Option Addr) (e : Ev) (pr : Option Addr) : Prop := W.heap[b]? = some (.cells #[.pointer pl, .int .u64 e.t, .int .i64 e.s, .int .u64 e.q, .int .i64 e.d, .int .i64 e.k, .int .i64 e.v, .pointer pr] 105 (0, 0))
theorem TB.cells {W : World} {b : Nat} {pl pr : Option Addr} {e : Ev} (h : TB W b pl e pr) : W.cell? ⟨b, 0, none⟩ = some (.pointer pl) ∧ W.cell? ⟨b, 1, none⟩ = some (.int .u64 e.t) ∧ W.cell? ⟨b, 2, none⟩ = some (.int .i64 e.s) ∧ W.cell? ⟨b, 3, none⟩ = some (.int .u64 e.q) ∧ W.cell? ⟨b, 4, none⟩ = some (.int .i64 e.d) ∧ W.cell? ⟨b, 5, none⟩ = some (.int .i64 e.k) ∧ W.cell? ⟨b, 6, none⟩ = some (.int .i64 e.v) ∧ W.cell? ⟨b, 7, none⟩ = some (.pointer pr) := by
  unfold TB at h
  refine ⟨?_, ?_, ?_, ?_, ?_, ?_, ?_, ?_⟩
  all_goals (unfold World.cell?; rw [h]; rfl)
theorem TB.later {W W' : World} {b : Nat} {pl pr : Option Addr} {e : Ev} (h : TB W b pl e pr) (hb : Below W.heap.size W W') : TB W' b pl e pr := (hb.block b (lt_of_block h)).trans h
def RT (W : World) (E : Nat → Ev) : Tr → Option Addr → Prop
  | .nil, p => p = none
  | .node l x r, p => ∃ b pl pr, p = some ⟨b, 0, none⟩ ∧ TB W b pl (E x) pr ∧ RT W E l pl ∧ RT W E r pr
theorem RT.later {W W' : World} {E : Nat → Ev} (hb : Below W.heap.size W W') : ∀ {t : Tr} {p : Option Addr}, RT W E t p → RT W' E t p
  | .nil, p, h => h
  | .node l x r, p, ⟨b, pl, pr, h1, h2, h3, h4⟩ => ⟨b, pl, pr, h1, h2.later hb, RT.later hb h3, RT.later hb h4⟩
theorem RT.keep {W W' : World} {E : Nat → Ev} (hb : ∀ (k : Nat) (v : Array Value), W.heap[k]? = some (Obj.cells v 105 (0, 0)) → W'.heap[k]? = W.heap[k]?) : ∀ {t : Tr} {p : Option Addr}, RT W E t p → RT W' E t p
  | .nil, p, h => h
  | .node l x r, p, ⟨b, pl, pr, h1, h2, h3, h4⟩ => ⟨b, pl, pr, h1, (hb b _ h2).trans h2, RT.keep hb h3, RT.keep hb h4⟩
theorem RT.congr {W : World} {E E' : Nat → Ev} : ∀ {t : Tr} {p : Option Addr}, RT W E t p → (∀ x ∈ t.ps, E' x = E x) → RT W E' t p
  | .nil, p, h, _ => h
  | .node l x r, p, ⟨b, pl, pr, h1, h2, h3, h4⟩, hc => ⟨b, pl, pr, h1, by rw [hc x (by simp [Tr.ps])]; exact h2, h3.congr fun y hy => hc y (by simp [Tr.ps, hy]), h4.congr fun y hy => hc y (by simp [Tr.ps, hy])⟩
theorem RT.ofNone {W : World} {E : Nat → Ev} {t : Tr} (h : RT W E t .none) : t = .nil := by
  cases t with
  | nil => rfl
  | node l x r => obtain ⟨b, pl, pr, h1, _⟩ := h; cases h1
def MT (W : World) (E : Nat → Ev) (m : Nat) (pm : Option Addr) : Prop := (m = 0 ∧ pm = none) ∨ (m ≠ 0 ∧ ∃ b pl pr, pm = some ⟨b, 0, none⟩ ∧ TB W b pl (E m) pr)
theorem MT.later {W W' : World} {E : Nat → Ev} {m : Nat} {pm : Option Addr} (h : MT W E m pm) (hb : Below W.heap.size W W') : MT W' E m pm := by
  rcases h with h | ⟨h1, b, pl, pr, h2, h3⟩
  · exact .inl h
  · exact .inr ⟨h1, b, pl, pr, h2, h3.later hb⟩
/-! ### where a cut goes -/
def cutV (kt ks kq : Int) (early : Bool) : Value := .agg #[.int .u64 kt, .int .i64 ks, .int .u64 kq, .bool early]
def cutS (kt ks kq : Int) (early : Bool) (e : Ev) : Int := if early then (if kt ≤ e.t then -1 else 1) else cmpE kt ks kq e
theorem cutS_three (kt ks kq : Int) (early : Bool) (e : Ev) : cutS kt ks kq early e = -1 ∨ cutS kt ks kq early e = 0 ∨ cutS kt ks kq early e = 1 := by
  unfold cutS
  split
  · split <;> simp
  · exact keyCmp_three _ _ _ _ _ _
def SdC (sd : Tr → Int) (kt ks kq : Int) (early : Bool) (E : Nat → Ev) : Prop := ∀ l x r, sd (.node l x r) = sideOf (cutS kt ks kq early (E x))
theorem sdC_K (kt ks kq : Int) (E : Nat → Ev) : SdC (sdK kt ks kq E) kt ks kq false E := fun l x r => rfl
theorem sdC_T (u ks kq : Int) (E : Nat → Ev) : SdC (sdT u E) u ks kq true E := fun l x r => by
  show (if u ≤ (E x).t then (0 : Int) else 1) = sideOf (if u ≤ (E x).t then -1 else 1)
  split <;> rfl
theorem SdC.side {sd : Tr → Int} {kt ks kq : Int} {early : Bool} {E : Nat → Ev} (h : SdC sd kt ks kq early E) : Side sd := fun l x r => by
  rw [h]
  unfold sideOf
  repeat' split
  all_goals simp
set_option maxRecDepth 100000 in
set_option maxHeartbeats 4000000 in
theorem side_any (kt ks kq : Int) (early : Bool) (e : Ev) (W : World) :
    Calls Try.prog 70 #[cutV kt ks kq early, .agg #[.int .u64 e.t, .int .i64 e.s, .int .u64 e.q]] W fun r W' => r = .returned (.int .i64 (cutS kt ks kq early e)) ∧ Below W.heap.size W W' := by
  unfold cutV
  have HB : Hid (Below W.heap.size W ((W.alloc (.cells #[.int .u64 kt, .int .i64 ks, .int .u64 kq, .bool early] 92)).alloc (.cells #[.int .u64 e.t, .int .i64 e.s, .int .u64 e.q] 30))) := ((Below.refl _ W).alloc (Nat.le_refl _) _).alloc (by simp) _
  cases early with
  | true =>
    by_cases hz : kt ≤ e.t
    · have e1 : cutS kt ks kq true e = -1 := by simp [cutS, hz]
      rw [e1]
      have d1 : decide (e.t ≥ kt) = true := by simpa using hz
      clear e1
      go_enter Try.func70, Try.ntmps70
      go_wp2_with fail
      all_goals (try (go_quiet (fail); go_wp2_with fail))
      go_ret
      exact ⟨rfl, HB.out⟩
    · have e1 : cutS kt ks kq true e = 1 := by simp [cutS, hz]
      rw [e1]
      have d1 : decide (e.t ≥ kt) = false := by simpa using hz
      clear e1
      go_enter Try.func70, Try.ntmps70
      go_wp2_with fail
      all_goals (try (go_quiet (fail); go_wp2_with fail))
      go_ret
      exact ⟨rfl, HB.out⟩
  | false =>
    have e1 : cutS kt ks kq false e = keyCmp kt ks kq e.t e.s e.q := rfl
    rw [e1]
    go_enter Try.func70, Try.ntmps70
    go_wp2_with (go_at_call 56; (with_reducible refine (before_any _ _ _ _ _ _ _).mono ?_); rintro r w2 ⟨rfl, hb2⟩)
    go_ret
    exact ⟨rfl, HB.out.trans (hb2.mono (by have := HB.out.size; omega))⟩
def ptrBit : Option Addr → Int
  | none => 0
  | some _ => 1
theorem down_any (p : Option Addr) (W : World) : Calls Try.prog 79 #[.pointer p] W fun r W' => r = .returned (.int .i64 (ptrBit p)) ∧ W' = W := by
  cases p with
  | none =>
    go_enter Try.func79, Try.ntmps79
    go_wp2
    go_ret
    exact ⟨rfl, rfl⟩
  | some a =>
    go_enter Try.func79, Try.ntmps79
    go_wp2
    go_ret
    exact ⟨rfl, rfl⟩
end Go.Proofs.Ytlklolmhaiaaiaa
namespace Go.Proofs.Ytlklolmhaiaaiaa
open Go.ChangeShapes Go.WideShapes Go.ChangeAt Go.RowKit
set_option linter.unusedVariables false
set_option linter.unusedSimpArgs false

def CBx (W : World) (b : Nat) (kt ks kq : Int) (early : Bool) : Prop := W.heap[b]? = some (.cells #[.int .u64 kt, .int .i64 ks, .int .u64 kq, .bool early] 92 (0, 0))
theorem CBx.cells {W : World} {b : Nat} {kt ks kq : Int} {early : Bool} (h : CBx W b kt ks kq early) : W.cell? ⟨b, 0, none⟩ = some (.int .u64 kt) ∧ W.cell? ⟨b, 1, none⟩ = some (.int .i64 ks) ∧ W.cell? ⟨b, 2, none⟩ = some (.int .u64 kq) ∧ W.cell? ⟨b, 3, none⟩ = some (.bool early) := by
  unfold CBx at h
  refine ⟨?_, ?_, ?_, ?_⟩
  all_goals (unfold World.cell?; rw [h]; rfl)
theorem CBx.later {W W' : World} {b : Nat} {kt ks kq : Int} {early : Bool} (h : CBx W b kt ks kq early) (hb : Below W.heap.size W W') : CBx W' b kt ks kq early := (hb.block b (lt_of_block h)).trans h
def RO9 (W : World) (E : Nat → Ev) (O : OT) (e : Ending) (W' : World) : Prop := ∃ pa pm pb, e = .returned (.tuple #[.pointer pa, .pointer pm, .pointer pb, .int .i64 (O.k : Int)]) ∧ RT W' E O.a pa ∧ MT W' E O.m pm ∧ RT W' E O.b pb ∧ Below W.heap.size W W'
def ROpen (n : Nat) (sd : Tr → Int) (kt ks kq : Int) (early : Bool) (E : Nat → Ev) : Prop := ∀ (t : Tr) (p : Option Addr) (W : World), t.size ≤ n → t.size ≤ 8192 → (∀ x ∈ t.ps, x ≠ 0) → RT W E t p → Calls Try.prog 50 #[.pointer p, cutV kt ks kq early] W (RO9 W E (openT sd t))
theorem bit_ptr {W : World} {E : Nat → Ev} {t : Tr} {p : Option Addr} (h : RT W E t p) : ptrBit p = (t.bit : Int) := by
  cases t with
  | nil =>
    have h : p = none := h
    subst h
    rfl
  | node l x r => obtain ⟨b, pl, pr, rfl, _⟩ := h; rfl
theorem put8T {W : World} {a b : Option Addr} {e : Ev} (wF : World) (h : W.alloc (.cells #[.pointer a, .int .u64 e.t, .int .i64 e.s, .int .u64 e.q, .int .i64 e.d, .int .i64 e.k, .int .i64 e.v, .pointer b] 105) = wF) : TB wF W.heap.size a e b ∧ Below W.heap.size W wF := by
  subst h
  exact ⟨World.alloc_heap_new W _, (Below.refl _ W).alloc (Nat.le_refl _) _⟩
set_option maxRecDepth 100000 in
set_option maxHeartbeats 8000000 in
theorem openLeft_nil {sd : Tr → Int} {kt ks kq : Int} {early : Bool} {E : Nat → Ev} (hsd : SdC sd kt ks kq early E) {r : Tr} {x : Nat} {p : Option Addr} (W : World) (h : RT W E (.node .nil x r) p) (hs : sd (.node .nil x r) = 0) : Calls Try.prog 71 #[.pointer p, cutV kt ks kq early] W (RO9 W E (openT sd (.node .nil x r))) := by
  rw [openT_l hs]
  unfold cutV
  have h0 := h
  obtain ⟨tb, pl, pr, rfl, hT, h3, h4⟩ := h
  have h9 : pl = none := h3
  subst h9
  obtain ⟨t0, t1, t2, t3, t4, t5, t6, t7⟩ := hT.cells
  have lt := lt_of_block hT
  have HB : Hid (Below W.heap.size W (W.alloc (.cells #[.int .u64 kt, .int .i64 ks, .int .u64 kq, .bool early] 92))) := (Below.refl _ W).alloc (Nat.le_refl _) _
  have HT : Hid (RT W E (.node .nil x r) (some ⟨tb, 0, none⟩)) := h0
  clear h0 hT h4
  go_enter Try.func71, Try.ntmps71
  go_wp2_with fail
  refine bodyPost_ret (v := .tuple #[.pointer none, .pointer none, .pointer (some ⟨tb, 0, none⟩), .int .i64 0]) (by simp [results, Try.results71, go_sem]; try rfl) rfl ?_
  exact ⟨none, none, some ⟨tb, 0, none⟩, rfl, rfl, .inl ⟨rfl, rfl⟩, HT.out.later HB.out, HB.out⟩
set_option maxRecDepth 100000 in
set_option maxHeartbeats 16000000 in
theorem openLeft_here {sd : Tr → Int} {kt ks kq : Int} {early : Bool} {E : Nat → Ev} (hsd : SdC sd kt ks kq early E) {c d r : Tr} {x y : Nat} {p : Option Addr} (W : World) (h : RT W E (.node (.node c y d) x r) p) (hy : y ≠ 0) (hs : sd (.node (.node c y d) x r) = 0) (hs2 : sd (.node c y d) = 2) : Calls Try.prog 71 #[.pointer p, cutV kt ks kq early] W (RO9 W E (openT sd (.node (.node c y d) x r))) := by
  have hcv : cutS kt ks kq early (E y) = 0 := by
    have h9 := hsd c y d
    rw [hs2] at h9
    rcases cutS_three kt ks kq early (E y) with h8 | h8 | h8 <;> rw [h8] at h9 ⊢ <;> simp [sideOf] at h9 ⊢
  rw [openT_lh hs hs2]
  clear hs hs2
  obtain ⟨W1, hW1⟩ : ∃ W1, W.alloc (.cells #[.int .u64 kt, .int .i64 ks, .int .u64 kq, .bool early] 92) = W1 := ⟨_, rfl⟩
  have hb1 : Below W.heap.size W W1 := by rw [← hW1]; exact (Below.refl _ W).alloc (Nat.le_refl _) _
  have hC1 : CBx W1 W.heap.size kt ks kq early := by unfold CBx; rw [← hW1]; exact World.alloc_heap_new W _
  have HW : Hid (W.alloc (.cells #[.int .u64 kt, .int .i64 ks, .int .u64 kq, .bool early] 92) = W1) := hW1
  have h1 := h.later hb1
  obtain ⟨tb, pl, pr, rfl, hT, h3, h4⟩ := h1
  obtain ⟨yb, pc, pd, rfl, hY, h5, h6⟩ := h3
  obtain ⟨t0, t1, t2, t3, t4, t5, t6, t7⟩ := hT.cells
  obtain ⟨y0, y1, y2, y3, y4, y5, y6, y7⟩ := hY.cells
  obtain ⟨c0, c1, c2, c3⟩ := hC1.cells
  have lt := lt_of_block hT
  have ly := lt_of_block hY
  have lc := lt_of_block hC1
  have HS := side_any kt ks kq early (E y) W1.drew
  rw [hcv] at HS
  unfold cutV at HS ⊢
  have u0 := t0; have u7 := t7
  rw [← hW1] at u0 u7
  have lt' := lt
  rw [← hW1] at lt'
  have HX : Hid (TB W1 tb (some ⟨yb, 0, none⟩) (E x) pr ∧ TB W1 yb pc (E y) pd ∧ RT W1 E r pr ∧ RT W1 E c pc ∧ RT W1 E d pd ∧ Below W.heap.size W W1 ∧ CBx W1 W.heap.size kt ks kq early) := ⟨hT, hY, h4, h5, h6, hb1, hC1⟩
  clear hW1 h hcv hT hY h4 h5 h6 hC1 hb1
  go_enter Try.func71, Try.ntmps71
  go_upto_region 4 with fail
  rw [HW.out]
  clear u0 u7 lt'
  go_region_held3 (fun w' => w'.cell? ⟨W.heap.size, 0, none⟩ = some (.int .u64 kt) ∧ w'.cell? ⟨W.heap.size, 1, none⟩ = some (.int .i64 ks) ∧ w'.cell? ⟨W.heap.size, 2, none⟩ = some (.int .u64 kq) ∧ w'.cell? ⟨W.heap.size, 3, none⟩ = some (.bool early) ∧ w'.cell? ⟨yb, 1, none⟩ = some (.int .u64 (E y).t) ∧ w'.cell? ⟨yb, 2, none⟩ = some (.int .i64 (E y).s) ∧ w'.cell? ⟨yb, 3, none⟩ = some (.int .u64 (E y).q)) (first | exact ⟨c0, c1, c2, c3, y1, y2, y3⟩ | with_reducible exact KP | go_keep) ((go_at_call 70; (with_reducible refine HS.mono ?_); rintro e w2 ⟨rfl, hbb⟩; have hb2 : Below W1.heap.size W1 w2 := (below_drewNq _ W1 1).trans (hbb.mono (Nat.le_refl _)); have KP : (fun w' => w'.cell? ⟨W.heap.size, 0, none⟩ = some (.int .u64 kt) ∧ w'.cell? ⟨W.heap.size, 1, none⟩ = some (.int .i64 ks) ∧ w'.cell? ⟨W.heap.size, 2, none⟩ = some (.int .u64 kq) ∧ w'.cell? ⟨W.heap.size, 3, none⟩ = some (.bool early) ∧ w'.cell? ⟨yb, 1, none⟩ = some (.int .u64 (E y).t) ∧ w'.cell? ⟨yb, 2, none⟩ = some (.int .i64 (E y).s) ∧ w'.cell? ⟨yb, 3, none⟩ = some (.int .u64 (E y).q)) w2 := ⟨(cell_below hb2 lc).trans c0, (cell_below hb2 lc).trans c1, (cell_below hb2 lc).trans c2, (cell_below hb2 lc).trans c3, (cell_below hb2 ly).trans y1, (cell_below hb2 ly).trans y2, (cell_below hb2 ly).trans y3⟩))
  clear KP c0 c1 c2 c3 t0 t1 t2 t3 t4 t5 t6 t7 y0 y1 y2 y3 y4 y5 y6 y7 HS lt ly lc
  obtain ⟨hT, hY, h4, h5, h6, hb1, hC1⟩ := HX.out
  have hT := hT.later hb2
  have hY := hY.later hb2
  have h4 := h4.later hb2
  have h5 := h5.later hb2
  have h6 := h6.later hb2
  have hC1 := hC1.later hb2
  have hb12 : Below W.heap.size W w2 := hb1.trans (hb2.mono hb1.size)
  obtain ⟨t0, t1, t2, t3, t4, t5, t6, t7⟩ := hT.cells
  obtain ⟨y0, y1, y2, y3, y4, y5, y6, y7⟩ := hY.cells
  have lt := lt_of_block hT
  have ly := lt_of_block hY
  have HY : Hid (RT w2 E c pc ∧ RT w2 E d pd ∧ RT w2 E r pr ∧ TB w2 yb pc (E y) pd ∧ Below W.heap.size W w2) := ⟨h5, h6, h4, hY, hb12⟩
  clear hb12 h4 h5 h6 hT hY hC1 hbb HX HW hb1 hb2
  go_wp2_with fail
  go_region
  generalize hWF : World.alloc w2 _ = wF
  obtain ⟨hN, hbF⟩ := put8T wF hWF
  go_wp2_with fail
  refine bodyPost_ret (v := .tuple #[.pointer pc, .pointer (some ⟨yb, 0, none⟩), .pointer (some ⟨w2.heap.size, 0, none⟩), .int .i64 1]) (by simp [results, Try.results71, go_sem]; try rfl) rfl ?_
  obtain ⟨h5, h6, h4, hY, hb12⟩ := HY.out
  have hbG : Below w2.heap.size w2 wF.drew := hbF.trans (below_drewNq _ wF 1)
  have hN := hN.later (below_drewNq _ wF 1)
  exact ⟨_, _, _, rfl, h5.later hbG, .inr ⟨hy, yb, _, _, rfl, hY.later hbG⟩, ⟨_, _, _, rfl, hN, h6.later hbG, h4.later hbG⟩, hb12.trans (hbG.mono hb12.size)⟩
set_option maxRecDepth 100000 in
set_option maxHeartbeats 8000000 in
theorem openRight_nil {sd : Tr → Int} {kt ks kq : Int} {early : Bool} {E : Nat → Ev} (hsd : SdC sd kt ks kq early E) {l : Tr} {x : Nat} {p : Option Addr} (W : World) (h : RT W E (.node l x .nil) p) (hs : sd (.node l x .nil) = 1) : Calls Try.prog 72 #[.pointer p, cutV kt ks kq early] W (RO9 W E (openT sd (.node l x .nil))) := by
  rw [openT_r hs]
  unfold cutV
  have h0 := h
  obtain ⟨tb, pl, pr, rfl, hT, h3, h4⟩ := h
  have h9 : pr = none := h4
  subst h9
  obtain ⟨t0, t1, t2, t3, t4, t5, t6, t7⟩ := hT.cells
  have lt := lt_of_block hT
  have HB : Hid (Below W.heap.size W (W.alloc (.cells #[.int .u64 kt, .int .i64 ks, .int .u64 kq, .bool early] 92))) := (Below.refl _ W).alloc (Nat.le_refl _) _
  have HT : Hid (RT W E (.node l x .nil) (some ⟨tb, 0, none⟩)) := h0
  clear h0 hT h3
  go_enter Try.func72, Try.ntmps72
  go_wp2_with fail
  refine bodyPost_ret (v := .tuple #[.pointer (some ⟨tb, 0, none⟩), .pointer none, .pointer none, .int .i64 0]) (by simp [results, Try.results72, go_sem]; try rfl) rfl ?_
  exact ⟨some ⟨tb, 0, none⟩, none, none, rfl, HT.out.later HB.out, .inl ⟨rfl, rfl⟩, rfl, HB.out⟩
set_option maxRecDepth 100000 in
set_option maxHeartbeats 16000000 in
theorem openRight_here {sd : Tr → Int} {kt ks kq : Int} {early : Bool} {E : Nat → Ev} (hsd : SdC sd kt ks kq early E) {c d l : Tr} {x y : Nat} {p : Option Addr} (W : World) (h : RT W E (.node l x (.node c y d)) p) (hy : y ≠ 0) (hs : sd (.node l x (.node c y d)) = 1) (hs2 : sd (.node c y d) = 2) : Calls Try.prog 72 #[.pointer p, cutV kt ks kq early] W (RO9 W E (openT sd (.node l x (.node c y d)))) := by
  have hcv : cutS kt ks kq early (E y) = 0 := by
    have h9 := hsd c y d
    rw [hs2] at h9
    rcases cutS_three kt ks kq early (E y) with h8 | h8 | h8 <;> rw [h8] at h9 ⊢ <;> simp [sideOf] at h9 ⊢
  rw [openT_rh hs hs2]
  clear hs hs2
  obtain ⟨W1, hW1⟩ : ∃ W1, W.alloc (.cells #[.int .u64 kt, .int .i64 ks, .int .u64 kq, .bool early] 92) = W1 := ⟨_, rfl⟩
  have hb1 : Below W.heap.size W W1 := by rw [← hW1]; exact (Below.refl _ W).alloc (Nat.le_refl _) _
  have hC1 : CBx W1 W.heap.size kt ks kq early := by unfold CBx; rw [← hW1]; exact World.alloc_heap_new W _
  have HW : Hid (W.alloc (.cells #[.int .u64 kt, .int .i64 ks, .int .u64 kq, .bool early] 92) = W1) := hW1
  have h1 := h.later hb1
  obtain ⟨tb, pl, pr, rfl, hT, h4, h3⟩ := h1
  obtain ⟨yb, pc, pd, rfl, hY, h5, h6⟩ := h3
  obtain ⟨t0, t1, t2, t3, t4, t5, t6, t7⟩ := hT.cells
  obtain ⟨y0, y1, y2, y3, y4, y5, y6, y7⟩ := hY.cells
  obtain ⟨c0, c1, c2, c3⟩ := hC1.cells
  have lt := lt_of_block hT
  have ly := lt_of_block hY
  have lc := lt_of_block hC1
  have HS := side_any kt ks kq early (E y) W1.drew
  rw [hcv] at HS
  unfold cutV at HS ⊢
  have u0 := t0; have u7 := t7
  rw [← hW1] at u0 u7
  have lt' := lt
  rw [← hW1] at lt'
  have HX : Hid (TB W1 tb pl (E x) (some ⟨yb, 0, none⟩) ∧ TB W1 yb pc (E y) pd ∧ RT W1 E l pl ∧ RT W1 E c pc ∧ RT W1 E d pd ∧ Below W.heap.size W W1 ∧ CBx W1 W.heap.size kt ks kq early) := ⟨hT, hY, h4, h5, h6, hb1, hC1⟩
  clear hW1 h hcv hT hY h4 h5 h6 hC1 hb1
  go_enter Try.func72, Try.ntmps72
  go_upto_region 4 with fail
  rw [HW.out]
  clear u0 u7 lt'
  go_region_held3 (fun w' => w'.cell? ⟨W.heap.size, 0, none⟩ = some (.int .u64 kt) ∧ w'.cell? ⟨W.heap.size, 1, none⟩ = some (.int .i64 ks) ∧ w'.cell? ⟨W.heap.size, 2, none⟩ = some (.int .u64 kq) ∧ w'.cell? ⟨W.heap.size, 3, none⟩ = some (.bool early) ∧ w'.cell? ⟨yb, 1, none⟩ = some (.int .u64 (E y).t) ∧ w'.cell? ⟨yb, 2, none⟩ = some (.int .i64 (E y).s) ∧ w'.cell? ⟨yb, 3, none⟩ = some (.int .u64 (E y).q)) (first | exact ⟨c0, c1, c2, c3, y1, y2, y3⟩ | with_reducible exact KP | go_keep) ((go_at_call 70; (with_reducible refine HS.mono ?_); rintro e w2 ⟨rfl, hbb⟩; have hb2 : Below W1.heap.size W1 w2 := (below_drewNq _ W1 1).trans (hbb.mono (Nat.le_refl _)); have KP : (fun w' => w'.cell? ⟨W.heap.size, 0, none⟩ = some (.int .u64 kt) ∧ w'.cell? ⟨W.heap.size, 1, none⟩ = some (.int .i64 ks) ∧ w'.cell? ⟨W.heap.size, 2, none⟩ = some (.int .u64 kq) ∧ w'.cell? ⟨W.heap.size, 3, none⟩ = some (.bool early) ∧ w'.cell? ⟨yb, 1, none⟩ = some (.int .u64 (E y).t) ∧ w'.cell? ⟨yb, 2, none⟩ = some (.int .i64 (E y).s) ∧ w'.cell? ⟨yb, 3, none⟩ = some (.int .u64 (E y).q)) w2 := ⟨(cell_below hb2 lc).trans c0, (cell_below hb2 lc).trans c1, (cell_below hb2 lc).trans c2, (cell_below hb2 lc).trans c3, (cell_below hb2 ly).trans y1, (cell_below hb2 ly).trans y2, (cell_below hb2 ly).trans y3⟩))
  clear KP c0 c1 c2 c3 t0 t1 t2 t3 t4 t5 t6 t7 y0 y1 y2 y3 y4 y5 y6 y7 HS lt ly lc
  obtain ⟨hT, hY, h4, h5, h6, hb1, hC1⟩ := HX.out
  have hT := hT.later hb2
  have hY := hY.later hb2
  have h4 := h4.later hb2
  have h5 := h5.later hb2
  have h6 := h6.later hb2
  have hC1 := hC1.later hb2
  have hb12 : Below W.heap.size W w2 := hb1.trans (hb2.mono hb1.size)
  obtain ⟨t0, t1, t2, t3, t4, t5, t6, t7⟩ := hT.cells
  obtain ⟨y0, y1, y2, y3, y4, y5, y6, y7⟩ := hY.cells
  have lt := lt_of_block hT
  have ly := lt_of_block hY
  have HY : Hid (RT w2 E c pc ∧ RT w2 E d pd ∧ RT w2 E l pl ∧ TB w2 yb pc (E y) pd ∧ Below W.heap.size W w2) := ⟨h5, h6, h4, hY, hb12⟩
  clear hb12 h4 h5 h6 hT hY hC1 hbb HX HW hb1 hb2
  go_wp2_with fail
  go_region
  generalize hWF : World.alloc w2 _ = wF
  obtain ⟨hN, hbF⟩ := put8T wF hWF
  go_wp2_with fail
  refine bodyPost_ret (v := .tuple #[.pointer (some ⟨w2.heap.size, 0, none⟩), .pointer (some ⟨yb, 0, none⟩), .pointer pd, .int .i64 1]) (by simp [results, Try.results72, go_sem]; try rfl) rfl ?_
  obtain ⟨h5, h6, h4, hY, hb12⟩ := HY.out
  have hbG : Below w2.heap.size w2 wF.drew := hbF.trans (below_drewNq _ wF 1)
  have hN := hN.later (below_drewNq _ wF 1)
  exact ⟨_, _, _, rfl, ⟨_, _, _, rfl, hN, h4.later hbG, h5.later hbG⟩, .inr ⟨hy, yb, _, _, rfl, hY.later hbG⟩, h6.later hbG, hb12.trans (hbG.mono hb12.size)⟩
end Go.Proofs.Ytlklolmhaiaaiaa
