import Derived.Test.YtidffddmlaedcaaDoorLRefS
import Derived.Test.YtidffddmlaedcaaDoorLSee
import Derived.Test.YtidffddmlaedcaaDoorLSame
import Derived.Test.YtidffddmlaedcaaDoorLQuiet
namespace Go.Proofs.YtidffddmlaedcaaDoor
open Go.ChangeShapes Go.WideShapes Go.ChangeAt Go.RowKit Go.Shelf
set_option linter.unusedVariables false
attribute [local go_sem] Oper.semAt_some

theorem scan_codes (s : Bs) (line col cnt : Nat) (e : Er) (h : (scan s line col cnt).2 = some e) : e.code ≠ 0 := by
  fun_induction scan s line col cnt with
  | case1 => cases h
  | case2 line col cnt c r hc ih => exact ih h
  | case3 line col cnt c r h1 h2 ih => exact ih h
  | case4 line col cnt c r h1 h2 h3 ih => exact ih h
  | case5 line col cnt c r h1 h2 h3 e' hrd =>
    cases h
    have := rd_code _ _ hrd
    simp only
    omega
  | case6 => cases h; simp
  | case7 line col cnt c r h1 h2 h3 k t v hrd hne ih => exact ih h
theorem scanT_codes (s : Bs) (e : Er) (h : (scanT s).2 = some e) : e.code ≠ 0 := by
  unfold scanT at h
  split at h
  · cases h; decide
  · exact scan_codes _ _ _ _ e h

def eI : Option Er → Int × Int × Int
  | none => (0, 0, 0)
  | some e => ((e.code : Int), (e.line : Int), (e.col : Int))
theorem erV_eI (o : Option Er) : (erV o).1 = .int .i64 (eI o).1 ∧ (erV o).2.1 = .int .i64 (eI o).2.1 ∧ (erV o).2.2 = .int .i64 (eI o).2.2 := by
  cases o <;> exact ⟨rfl, rfl, rfl⟩

/-- what 'once' does not change -/
def OF (R : List Tk × Option Er) (w : World) (m : Nat) (v : Value) (c0 c1 c2 stop : Int) (W : World) : Prop :=
  Boxed W w.heap.size 3 (.int .i64 stop) ∧ Boxed W (w.heap.size + 1) 4 (.bool false) ∧
  (∃ v', Boxed W m 24 v' ∧ W.ownsRow w.heap.size 34 5 v' R.1.length (tksCells R.1) ∧ v' = v) ∧
  Boxed W (m + 1) 3 (.int .i64 c0) ∧ Boxed W (m + 1 + 1) 3 (.int .i64 c1) ∧ Boxed W (m + 1 + 1 + 1) 3 (.int .i64 c2) ∧ Below w.heap.size w W
theorem OF_own (R : List Tk × Option Er) (w : World) (m : Nat) (v : Value) (c0 c1 c2 stop : Int) (B : Nat) (hB : w.heap.size ≤ B) : OwnFrom B (fun (_ : Unit) W => OF R w m v c0 c1 c2 stop W) := by
  rintro _ X Y row ⟨h1, h2, h3, h4, h5, h6, h7⟩ hg hr
  have hr' : ∀ r, row = some r → ∃ o : Obj, X.heap[r]? = some o ∧ o.isCells = false := fun r e => (hr r e).2
  exact ⟨boxed_own (β := Unit) _ _ (fun _ => .int .i64 stop) () X Y row h1 hg hr', boxed_own (β := Unit) _ _ (fun _ => .bool false) () X Y row h2 hg hr',
    holdsRow_own (β := Unit) w.heap.size m 24 34 5 (fun _ => R.1.length) (fun _ => tksCells R.1) (fun _ v' => v' = v) () X Y row h3 hg hr',
    boxed_own (β := Unit) _ _ (fun _ => .int .i64 c0) () X Y row h4 hg hr', boxed_own (β := Unit) _ _ (fun _ => .int .i64 c1) () X Y row h5 hg hr', boxed_own (β := Unit) _ _ (fun _ => .int .i64 c2) () X Y row h6 hg hr', ownFrom_below (β := Unit) (Nat.le_refl _) hB () X Y row h7 hg hr⟩
theorem OF_grown {R : List Tk × Option Er} {w : World} {m : Nat} {v : Value} {c0 c1 c2 stop : Int} {W W' : World} (h : OF R w m v c0 c1 c2 stop W) (hb : Below W.heap.size W W') : OF R w m v c0 c1 c2 stop W' :=
  OF_own R w m v c0 c1 c2 stop w.heap.size (Nat.le_refl _) () W W' none h (grown_of_below hb) (fun r e => by cases e)
theorem OF_set {R : List Tk × Option Er} {w : World} {m : Nat} {v : Value} {c0 c1 c2 stop : Int} {W : World} (hm : w.heap.size + 1 < m) (h : OF R w m v c0 c1 c2 stop W) {B ty : Nat} {u : Value} (hb : Boxed W B ty u) (hty : ty ≠ 34) (hB : m + 1 + 1 + 1 < B) (x : Value) : OF R w m v c0 c1 c2 stop (W.setCell ⟨B, 0, none⟩ x) := by
  obtain ⟨h1, h2, ⟨v', h3, h3', h3''⟩, h4, h5, h6, h7⟩ := h
  exact ⟨h1.other (by omega) _, h2.other (by omega) _, ⟨v', h3.other (by omega) _, h3'.kept (grownBy_setCell' W B x) (.inr (fun e => hb.not_row hty h3' e.symm)), h3''⟩, h4.other (by omega) _, h5.other (by omega) _, h6.other (by omega) _, h7.setCell (p := ⟨B, 0, none⟩) (by simp; omega) _⟩

def OI (R : List Tk × Option Er) (w : World) (m : Nat) (vv : Value) (c0 c1 c2 stop : Int) (i b : Nat) (W : World) : Prop :=
  i ≤ tot R ∧ OF R w m vv c0 c1 c2 stop W ∧ Boxed W (m + 1 + 1 + 1 + 1) 3 (.int .i64 ((min i R.1.length : Nat) : Int)) ∧ Boxed W (m + 1 + 1 + 1 + 1 + 1) 4 (.bool (decide (R.1.length < i)))
theorem OI_own (R : List Tk × Option Er) (w : World) (m : Nat) (vv : Value) (c0 c1 c2 stop : Int) (B b : Nat) (hB : w.heap.size ≤ B) : OwnFrom B (fun i W => OI R w m vv c0 c1 c2 stop i b W) := by
  rintro i X Y row ⟨h1, h2, h3, h4⟩ hg hr
  have hr' : ∀ r, row = some r → ∃ o : Obj, X.heap[r]? = some o ∧ o.isCells = false := fun r e => (hr r e).2
  exact ⟨h1, OF_own R w m vv c0 c1 c2 stop B hB () X Y row h2 hg hr, boxed_own (β := Unit) _ _ (fun _ => .int .i64 ((min i R.1.length : Nat) : Int)) () X Y row h3 hg hr', boxed_own (β := Unit) _ _ (fun _ => .bool (decide (R.1.length < i))) () X Y row h4 hg hr'⟩
def OX (w : World) (c : Code) (i : Nat) (W : World) : Prop := c = .ret ∧ Boxed W (w.heap.size + 1) 4 (.bool true) ∧ Below w.heap.size w W
theorem OX_own (w : World) (B : Nat) (hB : w.heap.size ≤ B) (c : Code) : OwnFrom B (OX w c) := by
  rintro i X Y row ⟨h0, h1, h2⟩ hg hr
  have hr' : ∀ r, row = some r → ∃ o : Obj, X.heap[r]? = some o ∧ o.isCells = false := fun r e => (hr r e).2
  exact ⟨h0, boxed_own (β := Unit) _ _ (fun _ => .bool true) () X Y row h1 hg hr', ownFrom_below (β := Unit) (Nat.le_refl _) hB () X Y row h2 hg hr⟩
def OA (R : List Tk × Option Er) (src : Bs) (w : World) (m : Nat) (p : Option Addr) (ml c : Nat) (c0 c1 c2 stop : Int) (i b : Nat) (vs : Array Value) (a : Act) (W : World) : Prop :=
  OI R w m (.slice p ml c) c0 c1 c2 stop i b W ∧ It R i vs W ∧ ∃ bx k t v ln cl er, b ≤ bx ∧ vs = #[tokV k t v ln cl, er] ∧ W.heap[bx]? = some (.cells #[.int .i64 k, .string ⟨t.toArray⟩, .int .u64 (v : Nat), .int .i64 ln, .int .i64 cl] 34 (0, 0)) ∧
    a = { tmps := #[.string ⟨src.toArray⟩, .int .i64 stop, undef, .pointer (some ⟨w.heap.size, 0, none⟩), .pointer (some ⟨w.heap.size + 1, 0, none⟩), .pointer (some ⟨m, 0, none⟩), .pointer (some ⟨m + 1, 0, none⟩), .pointer (some ⟨m + 1 + 1, 0, none⟩), .pointer (some ⟨m + 1 + 1 + 1, 0, none⟩), .pointer (some ⟨m + 1 + 1 + 1 + 1, 0, none⟩), .pointer (some ⟨m + 1 + 1 + 1 + 1 + 1, 0, none⟩), .func (.func 26) #[] #[.pointer (some ⟨m + 1 + 1 + 1 + 1 + 1 + 1, 0, none⟩)], .pointer (some ⟨bx, 0, none⟩), er, .tuple #[.slice p ml c, .int .i64 c0, .int .i64 c1, .int .i64 c2], .string ⟨src.toArray⟩, .tuple #[.slice p ml c, .int .i64 c0, .int .i64 c1, .int .i64 c2], .slice p ml c, .int .i64 c0, .int .i64 c1, .int .i64 c2, .string ⟨src.toArray⟩, .func (.func 26) #[] #[.pointer (some ⟨m + 1 + 1 + 1 + 1 + 1 + 1, 0, none⟩)], .func (.func 26) #[] #[.pointer (some ⟨m + 1 + 1 + 1 + 1 + 1 + 1, 0, none⟩)], .bool false, .func (.func 26) #[] #[.pointer (some ⟨m + 1 + 1 + 1 + 1 + 1 + 1, 0, none⟩)], tokV k t v ln cl, er, undef, undef, undef, undef, undef, undef, undef, undef, undef, undef, undef, undef, undef, undef, undef, undef, undef, undef, undef, undef, undef, undef, undef, undef, undef, undef, undef, undef, undef, undef, undef, undef, undef, undef, undef, undef, undef, undef, undef, undef, undef, undef, undef, undef, undef, undef, undef, undef, undef, undef, undef], defers := [] }
theorem OA_own (R : List Tk × Option Er) (src : Bs) (w : World) (m : Nat) (p : Option Addr) (ml c : Nat) (c0 c1 c2 stop : Int) (B i b : Nat) (vs : Array Value) (a : Act) (hB : w.heap.size ≤ B) : OwnFrom B (fun (_ : Unit) W => OA R src w m p ml c c0 c1 c2 stop i b vs a W) := by
  rintro _ X Y row ⟨h1, h2, bx, k, t, v, ln, cl, er, h3, h4, h5, h6⟩ hg hr
  have hr' : ∀ r, row = some r → ∃ o : Obj, X.heap[r]? = some o ∧ o.isCells = false := fun r e => (hr r e).2
  exact ⟨OI_own R w m _ c0 c1 c2 stop B b hB i X Y row h1 hg hr, It_own R i vs () X Y row h2 hg hr', bx, k, t, v, ln, cl, er, h3, h4, own_heap bx () X Y row h5 hg hr', h6⟩
theorem keeps_drewN (W : World) (n : Nat) : KeepsOthers W (W.drewN n) := ⟨Nat.le_refl _, fun _ _ h _ => h⟩
theorem below_draws' (B : Nat) (w : World) (n : Nat) : Below B w (w.drewN n) := ⟨rfl, rfl, rfl, Nat.le_refl _, fun _ _ => rfl⟩
theorem drewN_size (w : World) (n : Nat) : (w.drewN n).heap.size = w.heap.size := rfl
theorem boxD {W : World} {B : Nat} {t : TypeId} {v : Value} (h : Boxed W B t v) (n : Nat) : Boxed (W.drewN n) B t v := h

set_option maxRecDepth 100000 in
set_option maxHeartbeats 8000000 in
theorem once_any (src : Bs) (hmx : src.length ≤ maxLen) (stop : Int) (w : World) (g : Gr w) :
    Calls Tryd.prog 24 #[.string ⟨src.toArray⟩, .int .i64 stop] w fun e w' => e = .returned (.bool true) ∧ Below w.heap.size w w' := by
  have hcnt := scanT_count src
  have hcode : ∀ er, (scanT src).2 = some er → er.code ≠ 0 := scanT_codes src
  obtain ⟨c0, hc0⟩ : ∃ c0, (eI (scanT src).2).1 = c0 := ⟨_, rfl⟩
  obtain ⟨c1, hc1⟩ : ∃ c1, (eI (scanT src).2).2.1 = c1 := ⟨_, rfl⟩
  obtain ⟨c2, hc2⟩ : ∃ c2, (eI (scanT src).2).2.2 = c2 := ⟨_, rfl⟩
  have H2 : ∀ w', Hid (CallsIn Fence.wide 3 Tryd.prog 22 #[.string ⟨src.toArray⟩] w' fun e w'' => ∃ p ml c, e = .returned (.tuple #[.slice p ml c, .int .i64 c0, .int .i64 c1, .int .i64 c2]) ∧ w''.ownsRow w'.heap.size 34 5 (.slice p ml c) (scanT src).1.length (tksCells (scanT src).1) ∧ Below w'.heap.size w' w'') := fun w' => by
    refine callsIn_wide.2 ((rscan_any src hmx w').mono ?_)
    rintro e w'' ⟨hb, v, rfl, ho⟩
    obtain ⟨p, ml, c, rfl⟩ := own_slice ho
    obtain ⟨e1, e2, e3⟩ := erV_eI (scanT src).2
    exact ⟨p, ml, c, by rw [e1, e2, e3, hc0, hc1, hc2], ho, hb⟩
  have HT : ∀ er, (scanT src).2 = some er → ∀ b w', w'.heap[b]? = some (posObj er.code er.line er.col) → Hid (CallsIn Fence.wide 1 Tryd.prog 23 #[.iface 65 (.pointer (some ⟨b, 0, none⟩)), .int .i64 c0, .int .i64 c1, .int .i64 c2] w' fun e w'' => e = .returned (.bool true) ∧ Below w'.heap.size w' w'') := fun er her b w' hp => by
    have := told_err er.code (hcode er her) er.line er.col b w' hp
    rw [her] at hc0 hc1 hc2
    have e0 : (er.code : Int) = c0 := hc0
    have e1 : (er.line : Int) = c1 := hc1
    have e2 : (er.col : Int) = c2 := hc2
    rw [e0, e1, e2] at this
    exact callsIn_wide.2 this
  have hz0 : (scanT src).2 = none → c0 = 0 := fun h => by rw [← hc0, h]; rfl
  have hz1 : ∀ er, (scanT src).2 = some er → c0 ≠ 0 := fun er h => by
    rw [← hc0, h]
    have := hcode er h
    show (er.code : Int) ≠ 0
    omega
  clear hc0 hc1 hc2 hcode
  have hnf : ∀ x W, (binOp .eql 47 (.func (.func 26) #[] x) .nilFunc).run Tryd.prog W = .ok (.bool false) W := by intro x W; first | rfl | kernel_rfl | simp [binOp, go_sem]
  refine (callsIn_wide (n := 4)).1 ?_
  refine callsIn_of_wp_marks Tryd.func24 rfl trivial ?_ rfl
  simp only [Tryd.ntmps24, List.size_toArray, List.length_cons, List.length_nil, Nat.reduceAdd, Nat.reduceSub, Array.replicate_succ, Array.replicate_zero, List.push_toArray, List.append_toArray, List.nil_append, List.cons_append]
  gi_wp2_with (refine ⟨trivial, ?_⟩; first | (gi_at_call 22; (with_reducible refine ((H2 _).out).mono ?_); rintro e' w1 ⟨p, ml, c, rfl, ho, hb1⟩; have b0 := (hb1.block _ (((Boxed.new w 3 (.int .i64 stop)).alloc (.cells #[.bool false] 4)).lt)).trans ((Boxed.new w 3 (.int .i64 stop)).alloc (.cells #[.bool false] 4)); have bR := (hb1.block _ (Boxed.new (w.alloc (.cells #[.int .i64 stop] 3)) 4 (.bool false)).lt).trans (Boxed.new (w.alloc (.cells #[.int .i64 stop] 3)) 4 (.bool false)); have hB1 := (((Below.refl _ w).alloc (Nat.le_refl _) (.cells #[.int .i64 stop] 3)).alloc (by simp) (.cells #[.bool false] 4)).trans (hb1.mono (by simp; omega)); have hm0 : w.heap.size + 1 < w1.heap.size := (by have := hb1.size; simp at this; omega); clear H2 hb1) | (gi_at_call 20; (with_reducible refine (callsIn_wide.2 (each_any _ _)).mono ?_); rintro e' w2 ⟨rfl, rfl⟩))
  have bw := (Boxed.new w1 24 (.slice p ml c)).alloc (.cells #[.int .i64 c0] 3) |>.alloc (.cells #[.int .i64 c1] 3) |>.alloc (.cells #[.int .i64 c2] 3) |>.alloc (.cells #[.int .i64 0] 3) |>.alloc (.cells #[.bool false] 4) |>.alloc (.cells #[.string ⟨src.toArray⟩] 9)
  have bc0 := (Boxed.new (w1.alloc (.cells #[.slice p ml c] 24)) 3 (.int .i64 c0)) |>.alloc (.cells #[.int .i64 c1] 3) |>.alloc (.cells #[.int .i64 c2] 3) |>.alloc (.cells #[.int .i64 0] 3) |>.alloc (.cells #[.bool false] 4) |>.alloc (.cells #[.string ⟨src.toArray⟩] 9)
  have bc1 := (Boxed.new ((w1.alloc (.cells #[.slice p ml c] 24)).alloc (.cells #[.int .i64 c0] 3)) 3 (.int .i64 c1)) |>.alloc (.cells #[.int .i64 c2] 3) |>.alloc (.cells #[.int .i64 0] 3) |>.alloc (.cells #[.bool false] 4) |>.alloc (.cells #[.string ⟨src.toArray⟩] 9)
  have bc2 := (Boxed.new (((w1.alloc (.cells #[.slice p ml c] 24)).alloc (.cells #[.int .i64 c0] 3)).alloc (.cells #[.int .i64 c1] 3)) 3 (.int .i64 c2)) |>.alloc (.cells #[.int .i64 0] 3) |>.alloc (.cells #[.bool false] 4) |>.alloc (.cells #[.string ⟨src.toArray⟩] 9)
  have bn := (Boxed.new ((((w1.alloc (.cells #[.slice p ml c] 24)).alloc (.cells #[.int .i64 c0] 3)).alloc (.cells #[.int .i64 c1] 3)).alloc (.cells #[.int .i64 c2] 3)) 3 (.int .i64 0)) |>.alloc (.cells #[.bool false] 4) |>.alloc (.cells #[.string ⟨src.toArray⟩] 9)
  have bf := (Boxed.new (((((w1.alloc (.cells #[.slice p ml c] 24)).alloc (.cells #[.int .i64 c0] 3)).alloc (.cells #[.int .i64 c1] 3)).alloc (.cells #[.int .i64 c2] 3)).alloc (.cells #[.int .i64 0] 3)) 4 (.bool false)) |>.alloc (.cells #[.string ⟨src.toArray⟩] 9)
  have be := Boxed.new ((((((w1.alloc (.cells #[.slice p ml c] 24)).alloc (.cells #[.int .i64 c0] 3)).alloc (.cells #[.int .i64 c1] 3)).alloc (.cells #[.int .i64 c2] 3)).alloc (.cells #[.int .i64 0] 3)).alloc (.cells #[.bool false] 4)) 9 (.string ⟨src.toArray⟩)
  simp only [World.size_alloc] at bc0 bc1 bc2 bn bf be
  have hwA1 : Below w1.heap.size w1 (((((((w1.alloc (.cells #[.slice p ml c] 24)).alloc (.cells #[.int .i64 c0] 3)).alloc (.cells #[.int .i64 c1] 3)).alloc (.cells #[.int .i64 c2] 3)).alloc (.cells #[.int .i64 0] 3)).alloc (.cells #[.bool false] 4)).alloc (.cells #[.string ⟨src.toArray⟩] 9)) := ((((((((Below.refl _ w1).alloc (Nat.le_refl _) _).alloc (by simp) _).alloc (by simp; omega) _).alloc (by simp; omega) _).alloc (by simp; omega) _).alloc (by simp; omega) _).alloc (by simp; omega) _)
  obtain ⟨wA, hwA⟩ : ∃ wA, (((((((w1.alloc (.cells #[.slice p ml c] 24)).alloc (.cells #[.int .i64 c0] 3)).alloc (.cells #[.int .i64 c1] 3)).alloc (.cells #[.int .i64 c2] 3)).alloc (.cells #[.int .i64 0] 3)).alloc (.cells #[.bool false] 4)).alloc (.cells #[.string ⟨src.toArray⟩] 9)) = wA := ⟨_, rfl⟩
  have hsz : wA.heap.size = w1.heap.size + 7 := by rw [← hwA]; simp
  rw [hwA] at bw bc0 bc1 bc2 bn bf be hwA1 ⊢
  have oA := own_more' ho hwA1
  have b0A := (hwA1.block _ (show Boxed w1 w.heap.size 3 (.int .i64 stop) from b0).lt).trans b0
  have bR2 : Boxed w1 (w.heap.size + 1) 4 (.bool false) := by have h := bR; simp only [World.size_alloc] at h; exact h
  have bRA := (hwA1.block _ bR2.lt).trans bR2
  have hBA := hB1.trans (hwA1.mono hB1.size)
  have eml := own_len' ho
  subst eml
  obtain ⟨m, hm⟩ : ∃ m, w1.heap.size = m := ⟨_, rfl⟩
  rw [hm] at bw bc0 bc1 bc2 bn bf be hsz hm0 ⊢
  have hsR : w.heap.size + 2 ≤ m := hm0
  have ho2 : wA.ownsRow w.heap.size 34 5 (.slice p (scanT src).1.length c) (scanT src).1.length (tksCells (scanT src).1) := by
    rcases oA.2 with ⟨h1, h2⟩ | ⟨g', cap, cur, h1, hb', h3⟩
    · exact ⟨oA.1, .inl ⟨h1, h2⟩⟩
    · exact ⟨oA.1, .inr ⟨g', cap, cur, h1, (by have := hb'; simp at this; omega), h3⟩⟩
  have hOF : OF (scanT src) w m (.slice p (scanT src).1.length c) c0 c1 c2 stop wA := ⟨b0A, bRA, ⟨_, bw, ho2, rfl⟩, bc0, bc1, bc2, hBA⟩
  have g1 : Gr wA := g.keep hBA
  clear oA ho bw bc0 bc1 bc2 b0A bRA b0 bR bR2 hwA1 hB1 hwA ho2 hnf g1
  refine wpIn_range_gives (F := Fence.wide) (n := 4) rfl (by decide) (gf := 26) (lb := #[.pointer (some ⟨m + 1 + 1 + 1 + 1 + 1 + 1, 0, none⟩)]) rfl trivial (enters_of Tryd.func26 (by kernel_rfl) rfl)
    (It := It (scanT src)) (tot := tot (scanT src)) (n0 := w.heap.size) (fun W1 hb => each1_in src hmx w.heap.size g.low _ _ W1 ((hb.block _ be.lt).trans be) (g.keep (hBA.trans (hb.mono hBA.size)))) (by omega)
    (fun i vs W h => by obtain ⟨_, _, _, _, _, _, rfl, _⟩ := It_shape h; rfl)
    (OI (scanT src) w m (.slice p (scanT src).1.length c) c0 c1 c2 stop) (OX w) (fun b => OI_own _ w m _ c0 c1 c2 stop _ b (by omega)) (fun c => OX_own w _ (by omega) c)
    ⟨Nat.zero_le _, hOF, by simpa using bn, by simpa using bf⟩
    (fun i b b' W hbb h => h)
    (OA (scanT src) src w m p (scanT src).1.length c c0 c1 c2 stop) (fun i b vs a' => OA_own _ src w m p _ c c0 c1 c2 stop _ i b vs a' (by omega)) ?assign ?body ?done ?stop
  case assign =>
    intro l i b vs W K hb1 hb2 hI hIt hK
    obtain ⟨k, t, v, ln, cl, er, rfl, her⟩ := It_shape hIt
    unfold tokV
    gi_wp2
    refine hK _ _ ((KeepsOthers.alloc _ _).from _) (Kept.of_grown (World.grownBy_alloc W _ none) (fun r e => by cases e)) ⟨(OI_own _ w m _ c0 c1 c2 stop wA.heap.size b (by omega)).alloc _ hI, It_own _ i _ () W _ none hIt (World.grownBy_alloc W _ none) (fun r e => by cases e), W.heap.size, k, t, v, ln, cl, er, hb2, rfl, World.alloc_heap_new W _, rfl⟩
  case body =>
    rintro l i b vs a' W hb1 hb2 ⟨⟨hi1, hof, hbn, hbf⟩, hit, bx, k, t, v, ln, cl, er, hbx, rfl, hrow, rfl⟩
    obtain ⟨q0, q1, q2, q3, q4⟩ := cells5 hrow
    have hof' := hof
    obtain ⟨h1, h2, ⟨v', h3, h3', hv⟩, h4, h5, h6, h7⟩ := hof'
    subst hv
    have z0 := h1.cell
    have z1 := h2.cell
    have z1f := h2.frozen
    have z2 := h3.cell
    have z3 := h4.cell
    have z4 := h5.cell
    have z5 := h6.cell
    have z6f := hbn.frozen
    have z7f := hbf.frozen
    have hsW : w.heap.size ≤ W.heap.size := h7.size
    rcases hit with ⟨tk, htk, hvs⟩ | ⟨hieq, e, bb, hR2, hvs, hpos⟩
    · obtain ⟨hcl, rfl⟩ := tok_inj hvs
      have hilt : i < (scanT src).1.length := (List.getElem?_eq_some_iff.1 htk).1
      have hget : (scanT src).1[i] = tk := (List.getElem?_eq_some_iff.1 htk).2
      obtain ⟨gw, rfl⟩ : ∃ gw, p = some ⟨gw, 0, none⟩ := own_some h3' (by omega)
      obtain ⟨x0, x1, x2, x3, x4⟩ := row_tok h3' i hilt
      rw [hget] at x0 x1 x2 x3 x4
      simp only [tkCells, List.cons.injEq, and_true] at hcl
      obtain ⟨y0, y1, y2, y3, y4⟩ := hcl
      rw [y0] at x0
      rw [y1] at x1
      rw [y2] at x2
      rw [y3] at x3
      rw [y4] at x4
      have hmin : min i (scanT src).1.length = i := by omega
      have hmin1 : min (i + 1) (scanT src).1.length = i + 1 := by omega
      have hdec : decide ((scanT src).1.length < i) = false := decide_eq_false (by omega)
      have hdec1 : decide ((scanT src).1.length < i + 1) = false := decide_eq_false (by omega)
      have hit1 : i + 1 ≤ tot (scanT src) := by unfold tot; omega
      have hOI1 : ∀ X : World, OF (scanT src) w m (.slice (some ⟨gw, 0, none⟩) (scanT src).1.length c) c0 c1 c2 stop X → Boxed X (m + 1 + 1 + 1 + 1) 3 (.int .i64 ((i : Int) + 1)) → Boxed X (m + 1 + 1 + 1 + 1 + 1) 4 (.bool false) → OI (scanT src) w m (.slice (some ⟨gw, 0, none⟩) (scanT src).1.length c) c0 c1 c2 stop (i + 1) X.heap.size X := fun X a1 a2 a3 => ⟨hit1, a1, by rw [hmin1]; exact a2, by rw [hdec1]; exact a3⟩
      rw [hmin] at hbn
      rw [hdec] at hbf
      have z6 := hbn.cell
      have z7 := hbf.cell
      have hi16 : i ≤ 16384 := by omega
      have dn1 : decide ((i : Int) ≥ ((scanT src).1.length : Int)) = false := decide_eq_false (by omega)
      have dn2 : decide ((scanT src).1.length ≤ i) = false := decide_eq_false (by omega)
      have dn3 : decide (((scanT src).1.length : Int) ≤ (i : Int)) = false := decide_eq_false (by omega)
      have hlI : (i : Int) < ((scanT src).1.length : Int) := by omega
      have hm6 : m + 1 + 1 + 1 < m + 1 + 1 + 1 + 1 := by omega
      have hn67 : m + 1 + 1 + 1 + 1 + 1 ≠ m + 1 + 1 + 1 + 1 := by omega
      have hmR : w.heap.size + 1 ≠ m + 1 + 1 + 1 + 1 := by omega
      have hmb : w.heap.size ≤ m + 1 + 1 + 1 + 1 ∧ m + 1 + 1 + 1 + 1 < b := by omega
      have hRb : w.heap.size ≤ w.heap.size + 1 ∧ w.heap.size + 1 < b := by omega
      clear hcnt HT hz0 hz1 hbx hvs hrow htk hget hi1 hmin hmin1 hdec hdec1 hit1 bn bf be hBA hOF g hmx y0 y1 y2 y3 y4 hb1 hb2 hsz hm
      generalize hL : (scanT src).1.length = L at *
      by_cases hs : (i : Int) + 1 = stop
      · subst hs
        gi_wp2
        refine region_quietR (by kernel_rfl) (by kernel_rfl) (by kernel_rfl) ?_
        repeat (gi_big_quiet_step (fail))
        refine wpQuietIn_nil ?_
        intro _ hw'
        obtain ⟨nq, hw''⟩ := hw'
        subst hw''
        gi_wp2
        refine ⟨((keeps_drewN W nq).trans ((KeepsOthers.setCell _ _ _).trans (KeepsOthers.setCell _ _ _))).from _, rfl, ((boxD h2 nq).other hmR _).set _, ?_⟩
        exact ((h7.trans (below_draws' w.heap.size W nq)).setCell (p := ⟨m + 1 + 1 + 1 + 1, 0, none⟩) hmb.1 _).setCell (p := ⟨w.heap.size + 1, 0, none⟩) hRb.1 _
      · have ds : ((i : Int) + 1 == stop) = false := by simp; exact hs
        gi_wp2
        refine region_quietR (by kernel_rfl) (by kernel_rfl) (by kernel_rfl) ?_
        repeat (gi_big_quiet_step (fail))
        refine wpQuietIn_nil ?_
        intro _ hw'
        obtain ⟨nq, hw''⟩ := hw'
        subst hw''
        gi_wp2
        refine ⟨((keeps_drewN W nq).trans (KeepsOthers.setCell _ _ _)).from _, (Kept.of_grown (grown_of_below (below_draws' W.heap.size W nq)) (fun r e => by cases e)).trans (Kept.of_grown (grownBy_setCell' _ _ _) (fun r e => by cases e; exact hmb)), ?_⟩
        exact hOI1 _ (OF_set hm0 (OF_grown hof (below_draws' W.heap.size W nq)) (boxD hbn nq) (by decide) hm6 _) ((boxD hbn nq).set _) ((boxD hbf nq).other hn67 _)
    · obtain ⟨htz, rfl⟩ := zero_inj hvs
      unfold tokV at htz
      simp only [Value.agg.injEq, Array.mk.injEq, List.cons.injEq, and_true, Value.int.injEq, true_and, Value.string.injEq, ByteArray.mk.injEq] at htz
      obtain ⟨rfl, rfl, hv0, rfl, rfl⟩ := htz
      obtain rfl : v = 0 := by omega
      have HT1 : ∀ w', w'.heap[bb]? = some (posObj e.code e.line e.col) → Hid (CallsIn (Fence.wide.inRound l) 1 Tryd.prog 23 #[.iface 65 (.pointer (some ⟨bb, 0, none⟩)), .int .i64 c0, .int .i64 c1, .int .i64 c2] w' fun e w'' => e = .returned (.bool true) ∧ Below w'.heap.size w' w'') := fun w' h => HT e hR2 bb w' h
      have d0 : (c0 == 0) = false := by simp; exact hz1 e hR2
      have hL1 : i ≤ 16384 := by omega
      have htot : tot (scanT src) = i + 1 := by unfold tot; rw [hR2, ← hieq]; rfl
      rw [← hieq] at hof hbn hbf z2 h3 h3'
      rw [Nat.min_self] at hbn
      have hdec : decide (i < i) = false := decide_eq_false (by omega)
      rw [hdec] at hbf
      have z6 := hbn.cell
      have z7 := hbf.cell
      have n1 : bb ≠ m + 1 + 1 + 1 + 1 + 1 := fun e' => by rw [e', show W.heap[m + 1 + 1 + 1 + 1 + 1]? = _ from hbf] at hpos; cases hpos
      have hpos' := heap_setCell (.bool true) hpos n1
      have hn67 : m + 1 + 1 + 1 + 1 ≠ m + 1 + 1 + 1 + 1 + 1 := by omega
      have hm7 : m + 1 + 1 + 1 < m + 1 + 1 + 1 + 1 + 1 := by omega
      have hmb : w.heap.size ≤ m + 1 + 1 + 1 + 1 + 1 ∧ m + 1 + 1 + 1 + 1 + 1 < b := by omega
      have hof1 := OF_set hm0 hof hbf (by decide) hm7 (.bool true)
      have hbn1 := hbn.other hn67 (.bool true)
      have hbf1 := hbf.set (.bool true)
      have s0 := h3.other (B' := m + 1 + 1 + 1 + 1 + 1) (by omega) (.bool true) |>.cell
      have hb4 := h4.other (B' := m + 1 + 1 + 1 + 1 + 1) (by omega) (.bool true)
      have s1 := hb4.cell
      have s2 := h5.other (B' := m + 1 + 1 + 1 + 1 + 1) (by omega) (.bool true) |>.cell
      have s3 := h6.other (B' := m + 1 + 1 + 1 + 1 + 1) (by omega) (.bool true) |>.cell
      have s4 := hbn1.cell
      have nbx : bx ≠ m + 1 + 1 + 1 + 1 + 1 := by omega
      have rr := heap_setCell (.bool true) hrow nbx
      obtain ⟨r0, r1, r2, r3, r4⟩ := cells5 rr
      have fin : ∀ X : World, Below (W.setCell ⟨m + 1 + 1 + 1 + 1 + 1, 0, none⟩ (.bool true)).heap.size (W.setCell ⟨m + 1 + 1 + 1 + 1 + 1, 0, none⟩ (.bool true)) X → rpost wA.heap.size w.heap.size b (OI (scanT src) w m (.slice p i c) c0 c1 c2 stop) (OX w) (i + 1) W .normal ⟨#[], []⟩ X := by
        intro X hX
        refine ⟨((KeepsOthers.setCell _ _ _).trans (KeepsOthers.of_grownBy (grown_of_below hX) (fun j o e => by cases e))).from _, (Kept.of_grown (grownBy_setCell' _ _ _) (fun r e => by cases e; exact hmb)).trans (Kept.of_grown (grown_of_below hX) (fun r e => by cases e)), by rw [htot]; omega, OF_grown hof1 hX, ?_, ?_⟩
        · rw [← hieq, Nat.min_eq_right (by omega)]
          exact (hX.block _ hbn1.lt).trans hbn1
        · rw [← hieq, decide_eq_true (by omega : i < i + 1)]
          exact (hX.block _ hbf1.lt).trans hbf1
      rw [← hieq]
      clear hcnt HT hz0 hz1 hbx hvs hrow hi1 hdec bn bf be hBA hOF g hmx hb1 hb2 hsz hm hof hof1 h1 h2 h3 h3' h4 h5 h6 h7 hbn hbn1 hbf1 hieq hR2 htot rr z2 z3 z4 z5 z6 q0 q1 q2 q3 q4 hv0
      gi_wp2_with (refine ⟨trivial, ?_⟩; gi_at_call 23; (with_reducible refine ((HT1 _ hpos').out).mono ?_); rintro e' w3 ⟨rfl, hb3⟩; have u1 := Boxed.cell (W := w3) (B := m + 1) (t := 3) (v := .int .i64 c0) ((hb3.block _ hb4.lt).trans hb4))
      exact fin _ hb3
  case done =>
    rintro D b W hD ⟨h1, hof, hbn, hbf⟩ hK
    obtain ⟨k1, k2, ⟨v', k3, k3', rfl⟩, k4, k5, k6, k7⟩ := hof
    have z1 := k2.cell
    have z1f := k2.frozen
    have z2 := k3.cell
    have z3 := k4.cell
    have hmn : min (tot (scanT src)) (scanT src).1.length = (scanT src).1.length := by unfold tot; omega
    rw [hmn] at hbn
    have z6 := hbn.cell
    have kk := (KeepsOthers.setCell W ⟨w.heap.size + 1, 0, none⟩ (.bool true)).same D _ hK rfl
    have cR := (k2.set (.bool true)).kept (grownBy_putObj' _ D (.deferred none)) (fun e => by cases e; omega)
    have dR := cR.cell
    have hbl := k7.setCell (p := ⟨w.heap.size + 1, 0, none⟩) (by simp) (.bool true)
    have fin := hbl.trans (belowK_b (w := w) (Nat.le_refl _) (W.setCell ⟨w.heap.size + 1, 0, none⟩ (.bool true)) D _ (.deferred none) (by omega) kk rfl rfl)
    have hL16 : (scanT src).1.length ≤ 16384 := hcnt
    cases hR2 : (scanT src).2 with
    | none =>
      obtain rfl := hz0 hR2
      have ht0 : decide ((scanT src).1.length < tot (scanT src)) = false := decide_eq_false (by unfold tot; rw [hR2]; simp)
      rw [ht0] at hbf
      have z7 := hbf.cell
      generalize (scanT src).1.length = L at *
      clear hcnt HT hz0 hz1 hmx g bn bf be hBA hOF h1 hmn ht0
      gi_wp2
      refine ⟨by simp, .inl ⟨_, _, rfl, run_takeDeferred kk, ?_⟩⟩
      exact ⟨_, by simp [results, Tryd.results24, go_sem, dR], rfl, fin⟩
    | some e =>
      have d0 : (c0 == 0) = false := by simp; exact hz1 e hR2
      have d0' : (c0 != 0) = true := by simp; exact hz1 e hR2
      have ht0 : decide ((scanT src).1.length < tot (scanT src)) = true := decide_eq_true (by unfold tot; rw [hR2]; simp)
      rw [ht0] at hbf
      have z7 := hbf.cell
      generalize (scanT src).1.length = L at *
      clear hcnt HT hz0 hz1 hmx g bn bf be hBA hOF h1 hmn ht0
      gi_wp2
      refine ⟨by simp, .inl ⟨_, _, rfl, run_takeDeferred kk, ?_⟩⟩
      exact ⟨_, by simp [results, Tryd.results24, go_sem, dR], rfl, fin⟩
  case stop =>
    rintro D c' i W hD hit ⟨rfl, h2, h3⟩ hK
    have hc2 := h2.cell
    gi_wp2
    have c2' := h2.kept (grownBy_putObj' _ D (.deferred none)) (fun e => by cases e; omega)
    have d2 := c2'.cell
    refine ⟨by simp, .inl ⟨_, _, rfl, run_takeDeferred hK, ?_⟩⟩
    exact ⟨_, by simp [results, Tryd.results24, go_sem, d2], rfl, h3.trans (belowK_b (w := w) (Nat.le_refl _) _ D _ _ (by omega) hK rfl rfl)⟩
end Go.Proofs.YtidffddmlaedcaaDoor
