import Derived.Test.YtidffddmlaedcaaDoorLPlLaw
import Derived.Test.YtidffddmlaedcaaDoorLSee
import Derived.Test.YtidffddmlaedcaaDoorLSame
import Derived.Test.YtidffddmlaedcaaDoorLAwake
import Derived.Test.YtidffddmlaedcaaDoorLQuiet
namespace Go.Proofs.YtidffddmlaedcaaDoor
open Go.ChangeShapes Go.WideShapes Go.ChangeAt Go.RowKit Go.Shelf
set_option linter.unusedVariables false
attribute [local go_sem] Oper.semAt_some

/-- the place that is told behind i tokens: none, or the fault's -/
def eL (R : List Tk × Option Er) (i : Nat) : Int × Int := match R.2 with
  | some e => if R.1.length < i then ((e.line : Int), (e.col : Int)) else (0, 0)
  | none => (0, 0)
theorem eL0 (R : List Tk × Option Er) : (eL R 0).1 = 0 := by unfold eL; split <;> simp
theorem eL0' (R : List Tk × Option Er) : (eL R 0).2 = 0 := by unfold eL; split <;> simp
theorem eL_zero (R : List Tk × Option Er) (i : Nat) (h : i ≤ R.1.length) : eL R i = (0, 0) := by
  unfold eL
  split
  · rw [if_neg (by omega)]
  · rfl
theorem eL_same (R : List Tk × Option Er) (i : Nat) (h : i < R.1.length) : (eL R (i + 1)).1 = (eL R i).1 ∧ (eL R (i + 1)).2 = (eL R i).2 := by
  rw [eL_zero R i (by omega), eL_zero R (i + 1) (by omega)]
  exact ⟨rfl, rfl⟩
theorem eL_last (R : List Tk × Option Er) (i : Nat) (e : Er) (h : R.2 = some e) (hi : R.1.length ≤ i) : eL R (i + 1) = ((e.line : Int), (e.col : Int)) := by
  unfold eL
  rw [h]
  simp only
  rw [if_pos (by omega)]
def TI (R : List Tk × Option Er) (w : World) (m i b : Nat) (W : World) : Prop :=
  i ≤ tot R ∧ (∃ v, Boxed W m 24 v ∧ W.ownsRow w.heap.size 34 5 v (min i R.1.length) (tksCells (R.1.take i)) ∧ (∀ g, v.ownBlock = some g → g < b)) ∧
  Boxed W (m + 1) 3 (.int .i64 (eL R i).1) ∧ Boxed W (m + 1 + 1) 3 (.int .i64 (eL R i).2) ∧ Boxed W w.heap.size 4 (.bool false) ∧ Below w.heap.size w W
theorem TI_own (R : List Tk × Option Er) (w : World) (m B b : Nat) (hB : w.heap.size ≤ B) : OwnFrom B (fun i W => TI R w m i b W) := by
  rintro i X Y row ⟨h1, h2, h3, h4, h5, h6⟩ hg hr
  have hr' : ∀ r, row = some r → ∃ o : Obj, X.heap[r]? = some o ∧ o.isCells = false := fun r e => (hr r e).2
  exact ⟨h1, holdsRow_own w.heap.size m 24 34 5 (fun i => min i R.1.length) (fun i => tksCells (R.1.take i)) (fun _ v => ∀ g, v.ownBlock = some g → g < b) i X Y row h2 hg hr',
    boxed_own (β := Unit) _ _ (fun _ => .int .i64 (eL R i).1) () X Y row h3 hg hr', boxed_own (β := Unit) _ _ (fun _ => .int .i64 (eL R i).2) () X Y row h4 hg hr', boxed_own (β := Unit) _ _ (fun _ => .bool false) () X Y row h5 hg hr', ownFrom_below (β := Unit) (Nat.le_refl _) hB () X Y row h6 hg hr⟩
def TX (w : World) (c : Code) (i : Nat) (W : World) : Prop := False
theorem TX_own (w : World) (B : Nat) (c : Code) : OwnFrom B (TX w c) := by
  rintro i X Y row h
  exact h.elim
def TA (R : List Tk × Option Er) (src : Bs) (w : World) (m i b : Nat) (vs : Array Value) (a : Act) (W : World) : Prop :=
  TI R w m i b W ∧ It R i vs W ∧ ∃ bx k t v ln cl er, b ≤ bx ∧ vs = #[tokV k t v ln cl, er] ∧ W.heap[bx]? = some (.cells #[.int .i64 k, .string ⟨t.toArray⟩, .int .u64 (v : Nat), .int .i64 ln, .int .i64 cl] 34 (0, 0)) ∧
    a = { tmps := #[.string ⟨src.toArray⟩, undef, .pointer (some ⟨w.heap.size, 0, none⟩), undef, undef, .pointer (some ⟨m, 0, none⟩), .pointer (some ⟨m + 1, 0, none⟩), .pointer (some ⟨m + 1 + 1, 0, none⟩), .func (.func 26) #[] #[.pointer (some ⟨m + 1 + 1 + 1, 0, none⟩)], .pointer (some ⟨bx, 0, none⟩), er, undef, undef, undef, undef, undef, .bool true, .bool false, .string ⟨src.toArray⟩, .int .i64 (src.length : Nat), .bool false, undef, undef, undef, undef, undef, undef, undef, .string ⟨src.toArray⟩, .func (.func 26) #[] #[.pointer (some ⟨m + 1 + 1 + 1, 0, none⟩)], .func (.func 26) #[] #[.pointer (some ⟨m + 1 + 1 + 1, 0, none⟩)], .bool false, .func (.func 26) #[] #[.pointer (some ⟨m + 1 + 1 + 1, 0, none⟩)], tokV k t v ln cl, er, undef, undef, undef, undef, undef, undef, undef, undef, undef, undef, undef, undef, undef, undef, undef, undef, undef, undef, undef, undef, undef, undef, undef, undef, undef, undef, undef, undef, undef, undef, undef, undef, undef, undef, undef, undef, undef, undef, undef, undef, undef, undef, undef, undef, undef, undef, undef, undef, undef], defers := [] }
theorem TA_own (R : List Tk × Option Er) (src : Bs) (w : World) (m B i b : Nat) (vs : Array Value) (a : Act) (hB : w.heap.size ≤ B) : OwnFrom B (fun (_ : Unit) W => TA R src w m i b vs a W) := by
  rintro _ X Y row ⟨h1, h2, bx, k, t, v, ln, cl, er, h3, h4, h5, h6⟩ hg hr
  have hr' : ∀ r, row = some r → ∃ o : Obj, X.heap[r]? = some o ∧ o.isCells = false := fun r e => (hr r e).2
  exact ⟨TI_own R w m B b hB i X Y row h1 hg hr, It_own R i vs () X Y row h2 hg hr', bx, k, t, v, ln, cl, er, h3, h4, own_heap bx () X Y row h5 hg hr', h6⟩

/-- the text ahead of the fault -/
theorem scanT_front (src : Bs) (hl : src.length ≤ 65536) (er : Er) (h : (scanT src).2 = some er) : ∃ q, q < src.length ∧ 1 ≤ er.line ∧ plc er.line er.col src 1 1 = some q ∧ scanT (src.take q) = ((scanT src).1, none) := by
  rw [scanT_fits src hl] at h ⊢
  obtain ⟨q, h1, h2, h3⟩ := scan_front src 1 1 0 er h
  refine ⟨q, h1, ?_, ?_, ?_⟩
  · have := pos_ge (src.take q) 1 1
    rw [h2] at this
    simp only at this
    omega
  · have := plc_pos src q 1 1 (by omega)
    rw [h2] at this
    exact this
  · rw [scanT_fits _ (by simp; omega)]
    exact h3

set_option maxRecDepth 100000 in
set_option maxHeartbeats 8000000 in
theorem law_tail (src : Bs) (hmx : src.length ≤ maxLen) (w : World) (g : Gr w) :
    Calls Tryd.prog 6 #[.string ⟨src.toArray⟩] w fun e w' => e = .returned (.bool true) ∧ Below w.heap.size w w' := by
  have hcnt := scanT_count src
  have hsz : (⟨src.toArray⟩ : ByteArray).size = src.length := by simp [ByteArray.size]
  have HA : ∀ w', Below w.heap.size w w' → Hid (CallsIn Fence.wide 3 Tryd.prog 9 #[] w' fun e w'' => e = .returned (.bool true) ∧ Below w'.heap.size w' w'') := fun w' h => callsIn_wide.2 (awake_any w' (g.keep h))
  have hnf : ∀ x W, (binOp .eql 47 (.func (.func 26) #[] x) .nilFunc).run Tryd.prog W = .ok (.bool false) W := by intro x W; first | rfl | kernel_rfl | simp [binOp, go_sem]
  by_cases hl : src.length ≤ 65536
  · have d0 : decide ((src.length : Int) > 65536) = false := decide_eq_false (by omega)
    have d0' : decide ((65536 : Int) < src.length) = false := decide_eq_false (by omega)
    refine (callsIn_wide (n := 4)).1 ?_
    refine callsIn_of_wp_marks Tryd.func6 rfl trivial ?_ rfl
    simp only [Tryd.ntmps6, List.size_toArray, List.length_cons, List.length_nil, Nat.reduceAdd, Nat.reduceSub, Array.replicate_succ, Array.replicate_zero, List.push_toArray, List.append_toArray, List.nil_append, List.cons_append]
    gi_wp2_with (refine ⟨trivial, ?_⟩; first | (gi_at_call 9; (with_reducible refine ((HA _ ((Below.refl _ w).alloc (Nat.le_refl _) _)).out).mono ?_); rintro e' w1 ⟨rfl, hb1⟩; have bR := (hb1.block _ (Boxed.new w 4 (.bool false)).lt).trans (Boxed.new w 4 (.bool false)); have hB1 := ((Below.refl _ w).alloc (Nat.le_refl _) (.cells #[.bool false] 4)).trans (hb1.mono (by simp)); have hm0 : w.heap.size < w1.heap.size := (by have := hb1.size; simp at this; omega); clear HA hb1) | (gi_at_call 20; (with_reducible refine (callsIn_wide.2 (each_any _ _)).mono ?_); rintro e' w2 ⟨rfl, rfl⟩))
    have bw := (Boxed.new w1 24 (.slice none 0 0)).alloc (.cells #[.int .i64 0] 3) |>.alloc (.cells #[.int .i64 0] 3) |>.alloc (.cells #[.string ⟨src.toArray⟩] 9)
    have bl := (Boxed.new (w1.alloc (.cells #[.slice none 0 0] 24)) 3 (.int .i64 0)) |>.alloc (.cells #[.int .i64 0] 3) |>.alloc (.cells #[.string ⟨src.toArray⟩] 9)
    have bc := (Boxed.new ((w1.alloc (.cells #[.slice none 0 0] 24)).alloc (.cells #[.int .i64 0] 3)) 3 (.int .i64 0)) |>.alloc (.cells #[.string ⟨src.toArray⟩] 9)
    have be := Boxed.new (((w1.alloc (.cells #[.slice none 0 0] 24)).alloc (.cells #[.int .i64 0] 3)).alloc (.cells #[.int .i64 0] 3)) 9 (.string ⟨src.toArray⟩)
    simp only [World.size_alloc] at bl bc be
    have hwA1 : Below w1.heap.size w1 ((((w1.alloc (.cells #[.slice none 0 0] 24)).alloc (.cells #[.int .i64 0] 3)).alloc (.cells #[.int .i64 0] 3)).alloc (.cells #[.string ⟨src.toArray⟩] 9)) := (((((Below.refl _ w1).alloc (Nat.le_refl _) _).alloc (by simp) _).alloc (by simp; omega) _).alloc (by simp; omega) _)
    obtain ⟨wA, hwA⟩ : ∃ wA, ((((w1.alloc (.cells #[.slice none 0 0] 24)).alloc (.cells #[.int .i64 0] 3)).alloc (.cells #[.int .i64 0] 3)).alloc (.cells #[.string ⟨src.toArray⟩] 9)) = wA := ⟨_, rfl⟩
    have hszA : wA.heap.size = w1.heap.size + 4 := by rw [← hwA]; simp
    rw [hwA] at bw bl bc be hwA1 ⊢
    have bR1 : Boxed w1 w.heap.size 4 (.bool false) := bR
    have bRA : Boxed wA w.heap.size 4 (.bool false) := (hwA1.block _ bR1.lt).trans bR1
    have hBA := hB1.trans (hwA1.mono hB1.size)
    obtain ⟨m, hm⟩ : ∃ m, w1.heap.size = m := ⟨_, rfl⟩
    rw [hm] at bw bl bc be hszA hm0 ⊢
    clear bR bR1 hwA1 hB1 hwA hnf hm
    obtain ⟨i0, hi, hz0, hz1, hz2⟩ := info_parts infoTk
    have HSee0 : ∀ (e : Er) (bb : Nat) w', w'.heap[bb]? = some (posObj e.code e.line e.col) → CallsIn Fence.wide 1 Tryd.prog 21 #[.iface 65 (.pointer (some ⟨bb, 0, none⟩))] w' fun e' w'' => e' = .returned (.agg #[.int .i64 2, .int .i64 e.code, .int .i64 e.line, .int .i64 e.col, .int .u64 0, .int .i64 0, .int .u64 0]) ∧ Below w'.heap.size w' w'' := fun e bb w' h => callsIn_wide.2 (see_pos e.code e.line e.col bb w' h)
    have hfront := scanT_front src hl
    refine wpIn_range_gives (F := Fence.wide) (n := 4) rfl (by decide) (gf := 26) (lb := #[.pointer (some ⟨m + 1 + 1 + 1, 0, none⟩)]) rfl trivial (enters_of Tryd.func26 (by kernel_rfl) rfl)
      (It := It (scanT src)) (tot := tot (scanT src)) (n0 := w.heap.size) (fun W1 hb => each1_in src hmx w.heap.size g.low _ _ W1 ((hb.block _ be.lt).trans be) (g.keep (hBA.trans (hb.mono hBA.size)))) (by omega)
      (fun i vs W h => by obtain ⟨_, _, _, _, _, _, rfl, _⟩ := It_shape h; rfl)
      (TI (scanT src) w m) (TX w) (fun b => TI_own _ w m _ b (by omega)) (fun c => TX_own w _ c)
      ⟨Nat.zero_le _, ⟨_, bw, World.ownsRow_nil _ _ _ _, fun g hg => by cases hg⟩, eL0 _ ▸ bl, eL0' _ ▸ bc, bRA, hBA⟩
      (fun i b b' W hbb h => ⟨h.1, by obtain ⟨v, q1, q2, q3⟩ := h.2.1; exact ⟨v, q1, q2, fun g hg => Nat.lt_of_lt_of_le (q3 g hg) hbb⟩, h.2.2⟩)
      (TA (scanT src) src w m) (fun i b vs a' => TA_own _ src w m _ i b vs a' (by omega)) ?assign ?body ?done ?stop
    case assign =>
      intro l i b vs W K hb1 hb2 hI hIt hK
      obtain ⟨k, t, v, ln, cl, er, rfl, her⟩ := It_shape hIt
      unfold tokV
      gi_wp2
      refine hK _ _ ((KeepsOthers.alloc _ _).from _) (Kept.of_grown (World.grownBy_alloc W _ none) (fun r e => by cases e)) ⟨(TI_own _ w m wA.heap.size b (by omega)).alloc _ hI, It_own _ i _ () W _ none hIt (World.grownBy_alloc W _ none) (fun r e => by cases e), W.heap.size, k, t, v, ln, cl, er, hb2, rfl, World.alloc_heap_new W _, rfl⟩
    case body =>
      rintro l i b vs a' W hb1 hb2 ⟨⟨hi1, ⟨sv, hbox, hown, hlt⟩, h3, h4, h5, hbel⟩, hit, bx, k, t, v, ln, cl, er, hbx, rfl, hrow, rfl⟩
      obtain ⟨q0, q1, q2, q3, q4⟩ := cells5 hrow
      have hc := hbox.cell
      rcases hit with ⟨tk, htk, hvs⟩ | ⟨hieq, e, bb, hR2, hvs, hpos⟩
      · obtain ⟨hcl, rfl⟩ := tok_inj hvs
        have hilt : i < (scanT src).1.length := (List.getElem?_eq_some_iff.1 htk).1
        have hsn := tks_snoc (scanT src).1 i tk htk
        have hmin : min i (scanT src).1.length = i := by omega
        have hmin1 : min (i + 1) (scanT src).1.length = i + 1 := by omega
        rw [hmin] at hown
        have p1 : i + 1 ≤ maxLen := by unfold maxLen; omega
        have p2 : (i + 1) * 48 ≤ 140737488355328 := by omega
        have p3 : w.heap.size ≤ W.heap.size := hbel.size
        have p4 : w.heap.size ≤ (W.alloc (.cells #[.int .i64 k, .string ⟨t.toArray⟩, .int .u64 v, .int .i64 ln, .int .i64 cl] 34)).heap.size := by simp; omega
        have p5 : w.heap.size ≤ m := by omega
        have p6 : m < b := by omega
        have hit1 : i + 1 ≤ tot (scanT src) := by unfold tot; omega
        have e1 : (eL (scanT src) (i + 1)).1 = (eL (scanT src) i).1 ∧ (eL (scanT src) (i + 1)).2 = (eL (scanT src) i).2 := eL_same _ i hilt
        have n1 : m + 1 ≠ m := by omega
        have n2 : m + 1 + 1 ≠ m := by omega
        have n3 : w.heap.size ≠ m := by omega
        clear hi1 hcnt hbx hvs hrow hfront HSee0 bw bl bc be bRA hBA hb1 hb2
        gi_wp2_with (gi_at_builtin; refine wpListIn_append_own _ rfl _ _ 24 rfl w.heap.size 34 i0 _ 5 48 Tryd.underlying24 hi hz0 hz1 hz2 rfl (by decide) _ _ _ rfl (hown.alloc _) ⟨W.heap.size, 0, none⟩ 1 1 [.int .i64 k, .string ⟨t.toArray⟩, .int .u64 v, .int .i64 ln, .int .i64 cl] rfl rfl (cell_five_new _ _ _ _ _ _ _) (by simp [Value.oneCell']) p1 p2 p4 ?_; intro v' w1 hown' hgrow _; obtain ⟨g', cap', rfl⟩ := ownsRow_succ hown'; obtain ⟨hv1, hv2, hr2, hk2, hbb⟩ := hbox.appended (by decide) hown p3 p5 hown' hgrow; have hc1 := hv1.cell; have hf1 := hv1.frozen)
        have hbA := h3.alloc (.cells #[.int .i64 k, .string ⟨t.toArray⟩, .int .u64 v, .int .i64 ln, .int .i64 cl] 34)
        have hbB := h4.alloc (.cells #[.int .i64 k, .string ⟨t.toArray⟩, .int .u64 v, .int .i64 ln, .int .i64 cl] 34)
        have hbC := h5.alloc (.cells #[.int .i64 k, .string ⟨t.toArray⟩, .int .u64 v, .int .i64 ln, .int .i64 cl] 34)
        refine ⟨hk2.from _, ?_, hit1, ⟨_, hv2, by rw [hsn, hcl, hmin1]; exact hr2, fun g hg => own_lt hr2 hg⟩, ?_, ?_, ?_, hbel.trans hbb⟩
        · refine ((Kept.of_grown (World.grownBy_alloc W _ none) (fun r e => by cases e)).trans (Kept.of_grown hgrow (fun r e => ⟨own_base hown e, hlt r e⟩))).trans (Kept.of_grown (grownBy_setCell' w1 _ _) (fun r e => by cases e; exact ⟨p5, p6⟩))
        · rw [e1.1]; exact (hbA.kept hgrow (h3.not_row (by decide) hown)).other n1 _
        · rw [e1.2]; exact (hbB.kept hgrow (h4.not_row (by decide) hown)).other n2 _
        · exact (hbC.kept hgrow (h5.not_row (by decide) hown)).other n3 _
      · obtain ⟨_, rfl⟩ := zero_inj hvs
        have HSee : Hid (CallsIn (Fence.wide.inRound l) 1 Tryd.prog 21 #[.iface 65 (.pointer (some ⟨bb, 0, none⟩))] W fun e' w'' => e' = .returned (.agg #[.int .i64 2, .int .i64 e.code, .int .i64 e.line, .int .i64 e.col, .int .u64 0, .int .i64 0, .int .u64 0]) ∧ Below W.heap.size W w'') := HSee0 e bb W hpos
        have e0 : eL (scanT src) i = (0, 0) := eL_zero _ i (by omega)
        rw [e0] at h3 h4
        have e1 : eL (scanT src) (i + 1) = ((e.line : Int), (e.col : Int)) := eL_last _ i e hR2 (by omega)
        have htot : i + 1 ≤ tot (scanT src) := by unfold tot; rw [hR2, ← hieq]; exact Nat.le_refl _
        have htk : (scanT src).1.take (i + 1) = (scanT src).1.take i := by rw [List.take_of_length_le (by omega), List.take_of_length_le (by omega)]
        have hmn : min (i + 1) (scanT src).1.length = min i (scanT src).1.length := by omega
        have z3 := h3.cell
        have z4 := h4.cell
        have n1 : m ≠ m + 1 := by omega
        have n2 : m ≠ m + 1 + 1 := by omega
        have n3 : w.heap.size ≠ m + 1 := by omega
        have n4 : w.heap.size ≠ m + 1 + 1 := by omega
        have n5 : m + 1 ≠ m + 1 + 1 := by omega
        have mb1 : w.heap.size ≤ m + 1 ∧ m + 1 < b := by omega
        have mb2 : w.heap.size ≤ m + 1 + 1 ∧ m + 1 + 1 < b := by omega
        have hbW : b ≤ W.heap.size := hb2
        clear hi1 hcnt hbx hvs hrow hfront HSee0 bw bl bc be bRA hBA hb1 hb2 e0
        gi_wp2_with (refine ⟨trivial, ?_⟩; gi_at_call 21; (with_reducible refine (HSee.out).mono ?_); rintro e' w3 ⟨rfl, hb3⟩; have y3 : Boxed w3 (m + 1) 3 (.int .i64 0) := (hb3.block _ h3.lt).trans h3; have y4 : Boxed w3 (m + 1 + 1) 3 (.int .i64 0) := (hb3.block _ h4.lt).trans h4; have hlt3 : m + 1 < w3.heap.size := y3.lt; have y3a : ∀ o, (w3.alloc o).cell? ⟨m + 1, 0, none⟩ = some (.int .i64 0) := (fun o => (y3.alloc o).cell); have y3f : ∀ o, (w3.alloc o).frozen? ⟨m + 1, 0, none⟩ = false := (fun o => (y3.alloc o).frozen); have y4f : ∀ o v, ((w3.setCell ⟨m + 1, 0, none⟩ v).alloc o).frozen? ⟨m + 1 + 1, 0, none⟩ = false := (fun o v => ((y4.other n5.symm v).alloc o).frozen); have y4c : ∀ o v, ((w3.setCell ⟨m + 1, 0, none⟩ v).alloc o).cell? ⟨m + 1 + 1, 0, none⟩ = some (.int .i64 0) := (fun o v => ((y4.other n5.symm v).alloc o).cell); have y4g : ∀ v, (w3.setCell ⟨m + 1, 0, none⟩ v).frozen? ⟨m + 1 + 1, 0, none⟩ = false := (fun v => (y4.other n5.symm v).frozen); have y5 : ∀ v, ((w3.alloc (.cells #[.int .i64 2, .int .i64 e.code, .int .i64 e.line, .int .i64 e.col, .int .u64 0, .int .i64 0, .int .u64 0] 52)).setCell ⟨m + 1, 0, none⟩ v).cell? ⟨w3.heap.size, 3, none⟩ = some (.int .i64 e.col) := (fun v => (cells7 (heap_setCell v (World.alloc_heap_new w3 (.cells #[.int .i64 2, .int .i64 e.code, .int .i64 e.line, .int .i64 e.col, .int .u64 0, .int .i64 0, .int .u64 0] 52)) (Nat.ne_of_gt hlt3))).1.2.2.2.1))
        have ho3 := own_more' hown hb3
        have hx3 : Boxed w3 m 24 sv := (hb3.block _ hbox.lt).trans hbox
        have hx5 : Boxed w3 w.heap.size 4 (.bool false) := (hb3.block _ h5.lt).trans h5
        refine ⟨((((KeepsOthers.of_grownBy (grown_of_below hb3) (fun j o e => by cases e)).trans (KeepsOthers.setCell _ _ _)).trans (KeepsOthers.alloc _ _)).trans (KeepsOthers.setCell _ _ _)).from _, ?_, htot, ?_, ?_, ?_, ?_, ?_⟩
        · exact (((Kept.of_grown (grown_of_below hb3) (fun r e => by cases e)).trans (Kept.of_grown (grownBy_setCell' _ _ _) (fun r e => by cases e; exact mb1))).trans (Kept.of_grown (World.grownBy_alloc _ _ none) (fun r e => by cases e))).trans (Kept.of_grown (grownBy_setCell' _ _ _) (fun r e => by cases e; exact mb2))
        · refine ⟨sv, ((hx3.other n1 _).alloc _).other n2 _, ?_, fun g' hg' => ?_⟩
          · rw [htk, hmn]
            have o1 := ho3.kept (grownBy_setCell' w3 (m + 1) (.int .i64 e.line)) (.inr (fun e' => y3.not_row (by decide) ho3 e'.symm))
            have o2 := o1.alloc (.cells #[.int .i64 2, .int .i64 e.code, .int .i64 e.line, .int .i64 e.col, .int .u64 0, .int .i64 0, .int .u64 0] 52)
            exact o2.kept (grownBy_setCell' _ (m + 1 + 1) (.int .i64 e.col)) (.inr (fun e' => ((y4.other n5.symm (.int .i64 e.line)).alloc (.cells #[.int .i64 2, .int .i64 e.code, .int .i64 e.line, .int .i64 e.col, .int .u64 0, .int .i64 0, .int .u64 0] 52)).not_row (by decide) o2 e'.symm))
          · have h1' := hlt g' hg'
            have h2' := hb3.size
            have h3' := (KeepsOthers.setCell w3 ⟨m + 1, 0, none⟩ (.int .i64 e.line)).size
            have h4' := (KeepsOthers.setCell ((w3.setCell ⟨m + 1, 0, none⟩ (.int .i64 e.line)).alloc (.cells #[.int .i64 2, .int .i64 e.code, .int .i64 e.line, .int .i64 e.col, .int .u64 0, .int .i64 0, .int .u64 0] 52)) ⟨m + 1 + 1, 0, none⟩ (.int .i64 e.col)).size
            rw [World.size_alloc] at h4'
            omega
        · rw [e1]; exact ((y3.set _).alloc _).other n5 _
        · rw [e1]; exact ((y4.other n5.symm _).alloc _).set _
        · exact ((hx5.other n3 _).alloc _).other n4 _
        · have b4 := (hbel.trans (hb3.mono hbel.size)).setCell (p := ⟨m + 1, 0, none⟩) mb1.1 (.int .i64 e.line)
          exact (b4.alloc b4.size _).setCell (p := ⟨m + 1 + 1, 0, none⟩) mb2.1 _
    case done =>
      rintro D b W hD ⟨h1, ⟨sv, hbox, hown, _⟩, h3, h4, h5, hbel⟩ hK
      have hmn : min (tot (scanT src)) (scanT src).1.length = (scanT src).1.length := by unfold tot; omega
      have htk : (scanT src).1.take (tot (scanT src)) = (scanT src).1 := List.take_of_length_le (by unfold tot; omega)
      rw [hmn, htk] at hown
      have z2 := hbox.cell
      have hlow : w.heap.size < D := by omega
      have HSm : ∀ va ba w', w'.ownsRow ba 34 5 va (scanT src).1.length (tksCells (scanT src).1) → w'.ownsRow w.heap.size 34 5 sv (scanT src).1.length (tksCells (scanT src).1) → Hid (CallsIn Fence.wide 3 Tryd.prog 12 #[va, sv] w' fun e w'' => e = .returned (.bool true) ∧ Below w'.heap.size w' w'') := fun va ba w' a1 a2 => callsIn_wide.2 (same_yes va sv ba w.heap.size (scanT src).1 hcnt w' a1 a2)
      have fin : ∀ W', Below w.heap.size w W' → Boxed W' w.heap.size 4 (.bool false) → W'.heap[D]? = some (.deferred (some [])) → ∀ a' : Act, a'.tmps.getD 2 undef = .pointer (some ⟨w.heap.size, 0, none⟩) → True := fun _ _ _ _ _ _ => trivial
      cases hR2 : (scanT src).2 with
      | none =>
        have e0 : eL (scanT src) (tot (scanT src)) = (0, 0) := by unfold eL; rw [hR2]
        rw [e0] at h3 h4
        have z3 := h3.cell
        have HS : Hid (CallsIn Fence.wide 3 Tryd.prog 10 #[.string ⟨src.toArray⟩] W fun e w'' => ∃ p ml c, e = .returned (.tuple #[.slice p ml c, .nilIface]) ∧ w''.ownsRow W.heap.size 34 5 (.slice p ml c) (scanT src).1.length (tksCells (scanT src).1) ∧ Below W.heap.size W w'') := by
          refine callsIn_wide.2 ((scan_any src hmx W (g.keep hbel)).mono ?_)
          rintro e w'' ⟨hb, ⟨_, v, rfl, ho⟩ | ⟨er', q, hx, _⟩⟩
          · obtain ⟨p, ml, c, rfl⟩ := own_slice ho
            exact ⟨p, ml, c, rfl, ho, hb⟩
          · rw [hR2] at hx; cases hx
        clear hcnt hmx g hfront HSee0 bw bl bc be bRA hBA h1 hmn htk e0 fin
        gi_wp2_with (refine ⟨trivial, ?_⟩; first | (gi_at_call 10; (with_reducible refine (HS.out).mono ?_); rintro e' w3 ⟨p, ml, c, rfl, ho, hb3⟩; have x2 : Boxed w3 m 24 sv := (hb3.block _ hbox.lt).trans hbox; have x2c := x2.cell; have ho3 := own_more' hown hb3) | (gi_at_call 12; (with_reducible refine ((HSm _ _ _ ho ho3).out).mono ?_); rintro e' w4 ⟨rfl, hb4⟩; have x5 : Boxed w4 w.heap.size 4 (.bool false) := (hb4.block _ (Nat.lt_of_lt_of_le h5.lt hb3.size)).trans ((hb3.block _ h5.lt).trans h5); have x5c := x5.cell; have x5f := x5.frozen))
        have hD3 : W.heap.size > D := (Array.getElem?_eq_some_iff.1 hK).1
        have kD : w4.heap[D]? = some (.deferred (some [])) := (hb4.block _ (Nat.lt_of_lt_of_le hD3 hb3.size)).trans ((hb3.block _ hD3).trans hK)
        have kk := (KeepsOthers.setCell w4 ⟨w.heap.size, 0, none⟩ (.bool true)).same D _ kD rfl
        have cR := (x5.set (.bool true)).kept (grownBy_putObj' _ D (.deferred none)) (fun e => by cases e; omega)
        have dR := cR.cell
        have hbl := (hbel.trans ((hb3.mono hbel.size).trans (hb4.mono (Nat.le_trans hbel.size hb3.size)))).setCell (p := ⟨w.heap.size, 0, none⟩) (Nat.le_refl _) (.bool true)
        refine ⟨by simp, .inl ⟨_, _, rfl, run_takeDeferred kk, ?_⟩⟩
        exact ⟨_, by simp [results, Tryd.results6, go_sem, dR], rfl, hbl.trans (belowK_b (w := w) (Nat.le_refl _) _ D _ (.deferred none) (by omega) kk rfl rfl)⟩
      | some er =>
        have e0 : eL (scanT src) (tot (scanT src)) = ((er.line : Int), (er.col : Int)) := by
          have : tot (scanT src) = (scanT src).1.length + 1 := by unfold tot; rw [hR2]; rfl
          rw [this]
          exact eL_last _ _ er hR2 (Nat.le_refl _)
        rw [e0] at h3 h4
        obtain ⟨q, q1, q2, q3, q4⟩ := hfront er hR2
        have z3 := h3.cell
        have z4 := h4.cell
        have HPl : Hid (CallsIn Fence.wide 3 Tryd.prog 15 #[.string ⟨src.toArray⟩, .int .i64 er.line, .int .i64 er.col] W fun e w'' => e = .returned (.int .i64 (q : Int)) ∧ w'' = W) := by
          have h := place_any src hl er.line er.col W
          rw [q3, show atV 0 (some q) = (q : Int) by simp [atV]] at h
          exact callsIn_wide.2 h
        have HS : Hid (CallsIn Fence.wide 3 Tryd.prog 10 #[.string ⟨(src.take q).toArray⟩] W fun e w'' => ∃ p ml c, e = .returned (.tuple #[.slice p ml c, .nilIface]) ∧ w''.ownsRow W.heap.size 34 5 (.slice p ml c) (scanT src).1.length (tksCells (scanT src).1) ∧ Below W.heap.size W w'') := by
          refine callsIn_wide.2 ((scan_any (src.take q) (by simp; unfold maxLen; omega) W (g.keep hbel)).mono ?_)
          rw [q4]
          rintro e w'' ⟨hb, ⟨_, v, rfl, ho⟩ | ⟨er', q, hx, _⟩⟩
          · obtain ⟨p, ml, c, rfl⟩ := own_slice ho
            exact ⟨p, ml, c, rfl, ho, hb⟩
          · cases hx
        have hext : (⟨src.toArray⟩ : ByteArray).extract 0 q = ⟨(src.take q).toArray⟩ := ext_take src q
        have dl0 : ((er.line : Int) == 0) = false := by simp; omega
        have dq1 : decide ((q : Int) < 0) = false := decide_eq_false (by omega)
        have dq2 : decide ((q : Int) ≥ (src.length : Int)) = false := decide_eq_false (by omega)
        have dq3 : decide (src.length ≤ q) = false := decide_eq_false (by omega)
        have hq5 : q ≤ 65536 := by omega
        have hq6 : (q : Int) ≤ (src.length : Int) := by omega
        clear hcnt hmx g hfront HSee0 bw bl bc be bRA hBA h1 hmn htk e0 fin q3 q4
        gi_wp2_with (refine ⟨trivial, ?_⟩; first | (gi_at_call 15; (with_reducible refine (HPl.out).mono ?_); rintro e' w' ⟨rfl, hw⟩; subst w') | (gi_at_call 10; (with_reducible refine (HS.out).mono ?_); rintro e' w3 ⟨p, ml, c, rfl, ho, hb3⟩; have x2 : Boxed w3 m 24 sv := (hb3.block _ hbox.lt).trans hbox; have x2c := x2.cell; have ho3 := own_more' hown hb3) | (gi_at_call 12; (with_reducible refine ((HSm _ _ _ ho ho3).out).mono ?_); rintro e' w4 ⟨rfl, hb4⟩; have x5 : Boxed w4 w.heap.size 4 (.bool false) := (hb4.block _ (Nat.lt_of_lt_of_le h5.lt hb3.size)).trans ((hb3.block _ h5.lt).trans h5); have x5c := x5.cell; have x5f := x5.frozen))
        have hD3 : W.heap.size > D := (Array.getElem?_eq_some_iff.1 hK).1
        have kD : w4.heap[D]? = some (.deferred (some [])) := (hb4.block _ (Nat.lt_of_lt_of_le hD3 hb3.size)).trans ((hb3.block _ hD3).trans hK)
        have kk := (KeepsOthers.setCell w4 ⟨w.heap.size, 0, none⟩ (.bool true)).same D _ kD rfl
        have cR := (x5.set (.bool true)).kept (grownBy_putObj' _ D (.deferred none)) (fun e => by cases e; omega)
        have dR := cR.cell
        have hbl := (hbel.trans ((hb3.mono hbel.size).trans (hb4.mono (Nat.le_trans hbel.size hb3.size)))).setCell (p := ⟨w.heap.size, 0, none⟩) (Nat.le_refl _) (.bool true)
        refine ⟨by simp, .inl ⟨_, _, rfl, run_takeDeferred kk, ?_⟩⟩
        exact ⟨_, by simp [results, Tryd.results6, go_sem, dR], rfl, hbl.trans (belowK_b (w := w) (Nat.le_refl _) _ D _ (.deferred none) (by omega) kk rfl rfl)⟩
    case stop =>
      rintro D c i W hD hit h
      exact h.elim
  · have d0 : decide ((src.length : Int) > 65536) = true := decide_eq_true (by omega)
    have d0' : decide ((65536 : Int) < src.length) = true := decide_eq_true (by omega)
    have HS : ∀ w', Below w.heap.size w w' → Hid (CallsIn Fence.wide 3 Tryd.prog 10 #[.string ⟨src.toArray⟩] w' fun e w'' => ∃ q, e = .returned (.tuple #[.slice none 0 0, .iface 65 (.pointer (some ⟨q, 0, none⟩))]) ∧ w''.heap[q]? = some (posObj 30 1 1) ∧ Below w'.heap.size w' w'') := fun w' h => by
      refine callsIn_wide.2 ((scan_any src hmx w' (g.keep h)).mono ?_)
      rw [scanT_long src hl]
      rintro e w'' ⟨hb, ⟨hx, _⟩ | ⟨er', q, hx, rfl, hp⟩⟩
      · cases hx
      · cases hx
        exact ⟨q, rfl, hp, hb⟩
    have HP : ∀ q w', w'.heap[q]? = some (posObj 30 1 1) → Hid (CallsIn Fence.wide 3 Tryd.prog 19 #[.iface 65 (.pointer (some ⟨q, 0, none⟩)), .int .i64 1, .int .i64 1, .int .i64 30] w' fun e w'' => e = .returned (.bool true) ∧ Below w'.heap.size w' w'') := fun q w' h => callsIn_wide.2 (isPos_yes 30 1 1 q w' h)
    have hb0 := (Below.refl w.heap.size w).alloc (Nat.le_refl _) (.cells #[.bool false] 4)
    clear g hmx hcnt hnf
    have HA' : ∀ w', Below w.heap.size w w' → Hid (Calls Tryd.prog 9 #[] w' fun e w'' => e = .returned (.bool true) ∧ Below w'.heap.size w' w'') := fun w' h => callsIn_wide.1 (HA w' h).out
    have HS' : ∀ w', Below w.heap.size w w' → Hid (Calls Tryd.prog 10 #[.string ⟨src.toArray⟩] w' fun e w'' => ∃ q, e = .returned (.tuple #[.slice none 0 0, .iface 65 (.pointer (some ⟨q, 0, none⟩))]) ∧ w''.heap[q]? = some (posObj 30 1 1) ∧ Below w'.heap.size w' w'') := fun w' h => callsIn_wide.1 (HS w' h).out
    have HP' : ∀ q w', w'.heap[q]? = some (posObj 30 1 1) → Hid (Calls Tryd.prog 19 #[.iface 65 (.pointer (some ⟨q, 0, none⟩)), .int .i64 1, .int .i64 1, .int .i64 30] w' fun e w'' => e = .returned (.bool true) ∧ Below w'.heap.size w' w'') := fun q w' h => callsIn_wide.1 (HP q w' h).out
    clear HA HS HP
    go_enter Tryd.func6, Tryd.ntmps6
    go_wp2_with (first | (go_at_call 9; (with_reducible refine ((HA' _ hb0).out).mono ?_); rintro e' w1 ⟨rfl, hb1⟩; have c1 := hb0.trans (hb1.mono (by simp))) | (go_at_call 10; (with_reducible refine ((HS' _ c1).out).mono ?_); rintro e' w2 ⟨q, rfl, hp, hb2⟩; have c2 := c1.trans (hb2.mono c1.size)) | (go_at_call 19; (with_reducible refine ((HP' q _ hp).out).mono ?_); rintro e' w3 ⟨rfl, hb3⟩; have c3 := c2.trans (hb3.mono c2.size); have bR : Boxed w3 w.heap.size 4 (.bool false) := (hb3.block _ (Nat.lt_of_lt_of_le (Nat.lt_of_lt_of_le (Boxed.new w 4 (.bool false)).lt hb1.size) hb2.size)).trans ((hb2.block _ (Nat.lt_of_lt_of_le (Boxed.new w 4 (.bool false)).lt hb1.size)).trans ((hb1.block _ (Boxed.new w 4 (.bool false)).lt).trans (Boxed.new w 4 (.bool false)))); have bRc := bR.cell; have bRf := bR.frozen))
    have dR := (bR.set (.bool true)).cell
    refine bodyPost_ret (by simp [results, Tryd.results6, go_sem, dR]; try rfl) rfl ?_
    exact ⟨rfl, c3.setCell (p := ⟨w.heap.size, 0, none⟩) (Nat.le_refl _) _⟩
end Go.Proofs.YtidffddmlaedcaaDoor
