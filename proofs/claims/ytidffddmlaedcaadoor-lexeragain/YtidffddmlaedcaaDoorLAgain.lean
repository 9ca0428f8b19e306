import Derived.Test.YtidffddmlaedcaaDoorLOnce
import Derived.Sort.LoopGhostIn
namespace Go.Proofs.YtidffddmlaedcaaDoor
open Go.ChangeShapes Go.WideShapes Go.ChangeAt Go.RowKit Go.Shelf
set_option linter.unusedVariables false
attribute [local go_sem] Oper.semAt_some

/-- the deferred calls that the ranges have left: none within -/
def DS (n0 top : Nat) : List Nat → World → Prop
  | [], _ => True
  | D :: r, W => n0 ≤ D ∧ D < top ∧ W.heap[D]? = some (.deferred (some [])) ∧ DS n0 D r W
def dsl (l : List Nat) : List Deferred := l.map fun D => { target := .collected D, args := #[] }
theorem DS_keep {n0 : Nat} {W W' : World} : ∀ (l : List Nat) (top : Nat), (∀ D, n0 ≤ D → D < top → W.heap[D]? = some (.deferred (some [])) → W'.heap[D]? = some (.deferred (some []))) → DS n0 top l W → DS n0 top l W'
  | [], _, _, _ => trivial
  | D :: r, top, hk, ⟨h1, h2, h3, h4⟩ => ⟨h1, h2, hk D h1 h2 h3, DS_keep r D (fun D' a b c => hk D' a (Nat.lt_trans b h2) c) h4⟩
theorem DS_mono {n0 : Nat} {W : World} {top top' : Nat} (ht : top ≤ top') : ∀ l, DS n0 top l W → DS n0 top' l W
  | [], _ => trivial
  | D :: r, ⟨h1, h2, h3, h4⟩ => ⟨h1, Nat.lt_of_lt_of_le h2 ht, h3, h4⟩
theorem DS_own (n0 top : Nat) (l : List Nat) (B : Nat) (hB : top ≤ B) : OwnFrom B (fun (_ : Unit) W => DS n0 top l W) := by
  rintro _ X Y row h hg hr
  refine DS_keep l top (fun D _ h2 h3 => ?_) h
  refine (hg.block D (Array.getElem?_eq_some_iff.1 h3).1 (fun e => ?_)).trans h3
  have := (hr D e.symm).1
  omega
theorem DS_set {n0 top : Nat} {l : List Nat} {W : World} (h : DS n0 top l W) (a : Addr) (v : Value) : DS n0 top l (W.setCell a v) :=
  DS_keep l top (fun D _ _ h3 => (KeepsOthers.setCell W a v).same D _ h3 rfl) h
theorem DS_below {n0 top : Nat} {l : List Nat} {W W' : World} (h : DS n0 top l W) (hb : Below W.heap.size W W') : DS n0 top l W' :=
  DS_keep l top (fun D _ _ h3 => (hb.block D (Array.getElem?_eq_some_iff.1 h3).1).trans h3) h

/-- what the whole call keeps -/
def GF (R : List Tk × Option Er) (src : Bs) (w : World) (m : Nat) (v : Value) (c0 c1 c2 stop : Int) (r rb : Nat) (W : World) : Prop :=
  OF R w m v c0 c1 c2 stop W ∧ Boxed W (m + 1 + 1 + 1 + 1) 9 (.string ⟨src.toArray⟩) ∧ Boxed W rb 3 (.int .i64 (r : Nat)) ∧ m + 1 + 1 + 1 + 1 < rb
theorem GF_own (R : List Tk × Option Er) (src : Bs) (w : World) (m : Nat) (v : Value) (c0 c1 c2 stop : Int) (r rb : Nat) (B : Nat) (hB : w.heap.size ≤ B) : OwnFrom B (fun (_ : Unit) W => GF R src w m v c0 c1 c2 stop r rb W) := by
  rintro _ X Y row ⟨h1, h2, h3, h4⟩ hg hr
  have hr' : ∀ r, row = some r → ∃ o : Obj, X.heap[r]? = some o ∧ o.isCells = false := fun r e => (hr r e).2
  exact ⟨OF_own R w m v c0 c1 c2 stop B hB () X Y row h1 hg hr, boxed_own (β := Unit) _ _ (fun _ => .string ⟨src.toArray⟩) () X Y row h2 hg hr', boxed_own (β := Unit) _ _ (fun _ => .int .i64 (r : Nat)) () X Y row h3 hg hr', h4⟩
theorem GF_grown {R : List Tk × Option Er} {src : Bs} {w : World} {m : Nat} {v : Value} {c0 c1 c2 stop : Int} {r rb : Nat} {W W' : World} (h : GF R src w m v c0 c1 c2 stop r rb W) (hb : Below W.heap.size W W') : GF R src w m v c0 c1 c2 stop r rb W' :=
  GF_own R src w m v c0 c1 c2 stop r rb w.heap.size (Nat.le_refl _) () W W' none h (grown_of_below hb) (fun r e => by cases e)
theorem GF_set {R : List Tk × Option Er} {src : Bs} {w : World} {m : Nat} {v : Value} {c0 c1 c2 stop : Int} {r rb : Nat} {W : World} (hm : w.heap.size + 1 < m) (h : GF R src w m v c0 c1 c2 stop r rb W) {B ty : Nat} {u : Value} (hb : Boxed W B ty u) (hty : ty ≠ 34) (hB : rb < B) (x : Value) : GF R src w m v c0 c1 c2 stop r rb (W.setCell ⟨B, 0, none⟩ x) := by
  obtain ⟨h1, h2, h3, h4⟩ := h
  exact ⟨OF_set hm h1 hb hty (by omega) x, h2.other (by omega) _, h3.other (by omega) _, h4⟩

def AI (R : List Tk × Option Er) (src : Bs) (w : World) (m : Nat) (v : Value) (c0 c1 c2 stop : Int) (r rb bn : Nat) (l : List Nat) (i b : Nat) (W : World) : Prop :=
  i ≤ tot R ∧ GF R src w m v c0 c1 c2 stop r rb W ∧ DS m bn l W ∧ Boxed W bn 3 (.int .i64 ((min i R.1.length : Nat) : Int)) ∧ Boxed W (bn + 1) 4 (.bool false) ∧ Boxed W (bn + 1 + 1) 4 (.bool (decide (R.1.length < i)))
theorem AI_own (R : List Tk × Option Er) (src : Bs) (w : World) (m : Nat) (v : Value) (c0 c1 c2 stop : Int) (r rb bn : Nat) (l : List Nat) (B b : Nat) (hB : w.heap.size ≤ B) (hB2 : bn ≤ B) : OwnFrom B (fun i W => AI R src w m v c0 c1 c2 stop r rb bn l i b W) := by
  rintro i X Y row ⟨h1, h2, h3, h4, h5, h6⟩ hg hr
  have hr' : ∀ r, row = some r → ∃ o : Obj, X.heap[r]? = some o ∧ o.isCells = false := fun r e => (hr r e).2
  exact ⟨h1, GF_own R src w m v c0 c1 c2 stop r rb B hB () X Y row h2 hg hr, DS_own m bn l B hB2 () X Y row h3 hg hr, boxed_own (β := Unit) _ _ (fun _ => .int .i64 ((min i R.1.length : Nat) : Int)) () X Y row h4 hg hr', boxed_own (β := Unit) _ _ (fun _ => .bool false) () X Y row h5 hg hr', boxed_own (β := Unit) _ _ (fun _ => .bool (decide (R.1.length < i))) () X Y row h6 hg hr'⟩
def AX (R : List Tk × Option Er) (src : Bs) (w : World) (m : Nat) (v : Value) (c0 c1 c2 stop : Int) (r rb bn : Nat) (l : List Nat) (c : Code) (i : Nat) (W : World) : Prop :=
  c = .exit 2 ∧ GF R src w m v c0 c1 c2 stop r rb W ∧ DS m bn l W ∧ Boxed W (bn + 1) 4 (.bool true)
theorem AX_own (R : List Tk × Option Er) (src : Bs) (w : World) (m : Nat) (v : Value) (c0 c1 c2 stop : Int) (r rb bn : Nat) (l : List Nat) (B : Nat) (hB : w.heap.size ≤ B) (hB2 : bn ≤ B) (c : Code) : OwnFrom B (AX R src w m v c0 c1 c2 stop r rb bn l c) := by
  rintro i X Y row ⟨h1, h2, h3, h4⟩ hg hr
  have hr' : ∀ r, row = some r → ∃ o : Obj, X.heap[r]? = some o ∧ o.isCells = false := fun r e => (hr r e).2
  exact ⟨h1, GF_own R src w m v c0 c1 c2 stop r rb B hB () X Y row h2 hg hr, DS_own m bn l B hB2 () X Y row h3 hg hr, boxed_own (β := Unit) _ _ (fun _ => .bool true) () X Y row h4 hg hr'⟩

set_option maxRecDepth 100000 in
set_option maxHeartbeats 8000000 in
theorem law_again (src : Bs) (stop : Int) (hmx : src.length ≤ maxLen) (w : World) (g : Gr w) :
    Calls Tryd.prog 7 #[.string ⟨src.toArray⟩, .int .i64 stop] w fun e w' => e = .returned (.bool true) ∧ Below w.heap.size w w' := by
  have hcnt := scanT_count src
  have hcode : ∀ er, (scanT src).2 = some er → er.code ≠ 0 := scanT_codes src
  obtain ⟨c0, hc0⟩ : ∃ c0, (eI (scanT src).2).1 = c0 := ⟨_, rfl⟩
  obtain ⟨c1, hc1⟩ : ∃ c1, (eI (scanT src).2).2.1 = c1 := ⟨_, rfl⟩
  obtain ⟨c2, hc2⟩ : ∃ c2, (eI (scanT src).2).2.2 = c2 := ⟨_, rfl⟩
  have H2 : ∀ w', Hid (CallsIn Fence.wide 3 Tryd.prog 22 #[.string ⟨src.toArray⟩] w' fun e w'' => ∃ p ml c, e = .returned (.tuple #[.slice p ml c, .int .i64 c0, .int .i64 c1, .int .i64 c2]) ∧ w''.ownsRow w'.heap.size 34 5 (.slice p ml c) (scanT src).1.length (tksCells (scanT src).1) ∧ Below w'.heap.size w' w'') := fun w' => by
    refine callsIn_wide.2 ((rscan_any src hmx w').mono ?_)
    rintro e w'' ⟨hb, v, rfl, ho⟩
    obtain ⟨p, ml, c, rfl⟩ := own_slice ho
    obtain ⟨e1, e2, e3⟩ := erV_eI (scanT src).2
    exact ⟨p, ml, c, by rw [e1, e2, e3, hc0, hc1, hc2], ho, hb⟩
  have HT : ∀ er, (scanT src).2 = some er → ∀ b w', w'.heap[b]? = some (posObj er.code er.line er.col) → Hid (CallsIn Fence.wide 1 Tryd.prog 23 #[.iface 65 (.pointer (some ⟨b, 0, none⟩)), .int .i64 c0, .int .i64 c1, .int .i64 c2] w' fun e w'' => e = .returned (.bool true) ∧ Below w'.heap.size w' w'') := fun er her b w' hp => by
    have := told_err er.code (hcode er her) er.line er.col b w' hp
    rw [her] at hc0 hc1 hc2
    have e0 : (er.code : Int) = c0 := hc0
    have e1 : (er.line : Int) = c1 := hc1
    have e2 : (er.col : Int) = c2 := hc2
    rw [e0, e1, e2] at this
    exact callsIn_wide.2 this
  have hz0 : (scanT src).2 = none → c0 = 0 := fun h => by rw [← hc0, h]; rfl
  have hz1 : ∀ er, (scanT src).2 = some er → c0 ≠ 0 := fun er h => by
    rw [← hc0, h]
    have := hcode er h
    show (er.code : Int) ≠ 0
    omega
  clear hc0 hc1 hc2 hcode
  have hnf : ∀ x W, (binOp .eql 47 (.func (.func 26) #[] x) .nilFunc).run Tryd.prog W = .ok (.bool false) W := by intro x W; first | rfl | kernel_rfl | simp [binOp, go_sem]
  refine (callsIn_wide (n := 4)).1 ?_
  refine callsIn_of_wp_marks Tryd.func7 rfl trivial ?_ rfl
  simp only [Tryd.ntmps7, List.size_toArray, List.length_cons, List.length_nil, Nat.reduceAdd, Nat.reduceSub, Array.replicate_succ, Array.replicate_zero, List.push_toArray, List.append_toArray, List.nil_append, List.cons_append]
  gi_wp2_with (refine ⟨trivial, ?_⟩; first | (gi_at_call 22; (with_reducible refine ((H2 _).out).mono ?_); rintro e' w1 ⟨p, ml, c, rfl, ho, hb1⟩; have b0 := (hb1.block _ (((Boxed.new w 3 (.int .i64 stop)).alloc (.cells #[.bool false] 4)).lt)).trans ((Boxed.new w 3 (.int .i64 stop)).alloc (.cells #[.bool false] 4)); have bR := (hb1.block _ (Boxed.new (w.alloc (.cells #[.int .i64 stop] 3)) 4 (.bool false)).lt).trans (Boxed.new (w.alloc (.cells #[.int .i64 stop] 3)) 4 (.bool false)); have hB1 := (((Below.refl _ w).alloc (Nat.le_refl _) (.cells #[.int .i64 stop] 3)).alloc (by simp) (.cells #[.bool false] 4)).trans (hb1.mono (by simp; omega)); have hm0 : w.heap.size + 1 < w1.heap.size := (by have := hb1.size; simp at this; omega); clear H2 hb1) | (gi_at_call 20; (with_reducible refine (callsIn_wide.2 (each_any _ _)).mono ?_); rintro e' w2 ⟨rfl, rfl⟩))
  have bw := (Boxed.new w1 24 (.slice p ml c)).alloc (.cells #[.int .i64 c0] 3) |>.alloc (.cells #[.int .i64 c1] 3) |>.alloc (.cells #[.int .i64 c2] 3) |>.alloc (.cells #[.string ⟨src.toArray⟩] 9) |>.alloc (.cells #[.int .i64 0] 3)
  have bc0 := (Boxed.new (w1.alloc (.cells #[.slice p ml c] 24)) 3 (.int .i64 c0)) |>.alloc (.cells #[.int .i64 c1] 3) |>.alloc (.cells #[.int .i64 c2] 3) |>.alloc (.cells #[.string ⟨src.toArray⟩] 9) |>.alloc (.cells #[.int .i64 0] 3)
  have bc1 := (Boxed.new ((w1.alloc (.cells #[.slice p ml c] 24)).alloc (.cells #[.int .i64 c0] 3)) 3 (.int .i64 c1)) |>.alloc (.cells #[.int .i64 c2] 3) |>.alloc (.cells #[.string ⟨src.toArray⟩] 9) |>.alloc (.cells #[.int .i64 0] 3)
  have bc2 := (Boxed.new (((w1.alloc (.cells #[.slice p ml c] 24)).alloc (.cells #[.int .i64 c0] 3)).alloc (.cells #[.int .i64 c1] 3)) 3 (.int .i64 c2)) |>.alloc (.cells #[.string ⟨src.toArray⟩] 9) |>.alloc (.cells #[.int .i64 0] 3)
  have be := (Boxed.new ((((w1.alloc (.cells #[.slice p ml c] 24)).alloc (.cells #[.int .i64 c0] 3)).alloc (.cells #[.int .i64 c1] 3)).alloc (.cells #[.int .i64 c2] 3)) 9 (.string ⟨src.toArray⟩)).alloc (.cells #[.int .i64 0] 3)
  have br := Boxed.new (((((w1.alloc (.cells #[.slice p ml c] 24)).alloc (.cells #[.int .i64 c0] 3)).alloc (.cells #[.int .i64 c1] 3)).alloc (.cells #[.int .i64 c2] 3)).alloc (.cells #[.string ⟨src.toArray⟩] 9)) 3 (.int .i64 0)
  simp only [World.size_alloc] at bc0 bc1 bc2 be br
  have hwA1 : Below w1.heap.size w1 ((((((w1.alloc (.cells #[.slice p ml c] 24)).alloc (.cells #[.int .i64 c0] 3)).alloc (.cells #[.int .i64 c1] 3)).alloc (.cells #[.int .i64 c2] 3)).alloc (.cells #[.string ⟨src.toArray⟩] 9)).alloc (.cells #[.int .i64 0] 3)) := (((((((Below.refl _ w1).alloc (Nat.le_refl _) _).alloc (by simp) _).alloc (by simp; omega) _).alloc (by simp; omega) _).alloc (by simp; omega) _).alloc (by simp; omega) _)
  obtain ⟨wA, hwA⟩ : ∃ wA, ((((((w1.alloc (.cells #[.slice p ml c] 24)).alloc (.cells #[.int .i64 c0] 3)).alloc (.cells #[.int .i64 c1] 3)).alloc (.cells #[.int .i64 c2] 3)).alloc (.cells #[.string ⟨src.toArray⟩] 9)).alloc (.cells #[.int .i64 0] 3)) = wA := ⟨_, rfl⟩
  have hsz : wA.heap.size = w1.heap.size + 6 := by rw [← hwA]; simp
  rw [hwA] at bw bc0 bc1 bc2 be br hwA1 ⊢
  have oA := own_more' ho hwA1
  have b0A := (hwA1.block _ (show Boxed w1 w.heap.size 3 (.int .i64 stop) from b0).lt).trans b0
  have bR2 : Boxed w1 (w.heap.size + 1) 4 (.bool false) := by have h := bR; simp only [World.size_alloc] at h; exact h
  have bRA := (hwA1.block _ bR2.lt).trans bR2
  have hBA := hB1.trans (hwA1.mono hB1.size)
  have eml := own_len' ho
  subst eml
  obtain ⟨m, hm⟩ : ∃ m, w1.heap.size = m := ⟨_, rfl⟩
  rw [hm] at bw bc0 bc1 bc2 be br hsz hm0 ⊢
  have ho2 : wA.ownsRow w.heap.size 34 5 (.slice p (scanT src).1.length c) (scanT src).1.length (tksCells (scanT src).1) := by
    rcases oA.2 with ⟨h1, h2⟩ | ⟨g', cap, cur, h1, hb', h3⟩
    · exact ⟨oA.1, .inl ⟨h1, h2⟩⟩
    · exact ⟨oA.1, .inr ⟨g', cap, cur, h1, (by have := hb'; simp at this; omega), h3⟩⟩
  have hOF : OF (scanT src) w m (.slice p (scanT src).1.length c) c0 c1 c2 stop wA := ⟨b0A, bRA, ⟨_, bw, ho2, rfl⟩, bc0, bc1, bc2, hBA⟩
  have hGF : GF (scanT src) src w m (.slice p (scanT src).1.length c) c0 c1 c2 stop 0 (m + 1 + 1 + 1 + 1 + 1) wA := ⟨hOF, be, by simpa using br, by omega⟩
  clear oA ho bw bc0 bc1 bc2 b0A bRA b0 bR bR2 hwA1 hB1 hwA ho2 hnf hBA be br hOF
  have g0 := g
  refine wpIn_loop_ghost (fun n a W => ∃ r rb ds, ∃ u11 u12 u13 u14 u15 u27 u28 u29 u30 u31 u32 u33 u34 u35 u36 u37 u38 u39 u40 u41 u42 u43 u44 u45 u46 u47 u48 u49 u50 u51 u52 u53 u54 u55 u56 u57 u58 u59 u60 u61 u62 u63 u64 u65 u66 u67 u68 u69 u70 u71 u72 u73 u74 u75 u76 u77 u78 u79 u80 u81 u82 u83 u84 u85 u86 u87 u88 : Value, r + n = 2 ∧ a = { tmps := #[.string ⟨src.toArray⟩, .int .i64 stop, undef, .pointer (some ⟨w.heap.size, 0, none⟩), .pointer (some ⟨w.heap.size + 1, 0, none⟩), .pointer (some ⟨m, 0, none⟩), .pointer (some ⟨m + 1, 0, none⟩), .pointer (some ⟨m + 1 + 1, 0, none⟩), .pointer (some ⟨m + 1 + 1 + 1, 0, none⟩), .func (.func 26) #[] #[.pointer (some ⟨m + 1 + 1 + 1 + 1, 0, none⟩)], .pointer (some ⟨rb, 0, none⟩), u11, u12, u13, u14, u15, .tuple #[.slice p (scanT src).1.length c, .int .i64 c0, .int .i64 c1, .int .i64 c2], .string ⟨src.toArray⟩, .tuple #[.slice p (scanT src).1.length c, .int .i64 c0, .int .i64 c1, .int .i64 c2], .slice p (scanT src).1.length c, .int .i64 c0, .int .i64 c1, .int .i64 c2, .string ⟨src.toArray⟩, .func (.func 26) #[] #[.pointer (some ⟨m + 1 + 1 + 1 + 1, 0, none⟩)], .func (.func 26) #[] #[.pointer (some ⟨m + 1 + 1 + 1 + 1, 0, none⟩)], .bool false, u27, u28, u29, u30, u31, u32, u33, u34, u35, u36, u37, u38, u39, u40, u41, u42, u43, u44, u45, u46, u47, u48, u49, u50, u51, u52, u53, u54, u55, u56, u57, u58, u59, u60, u61, u62, u63, u64, u65, u66, u67, u68, u69, u70, u71, u72, u73, u74, u75, u76, u77, u78, u79, u80, u81, u82, u83, u84, u85, u86, u87, u88], defers := dsl ds } ∧ GF (scanT src) src w m (.slice p (scanT src).1.length c) c0 c1 c2 stop r rb W ∧ DS m rb ds W ∧ ds.length = r) 2 ?start ?round
  case start => exact ⟨0, _, [], undef, undef, undef, undef, undef, undef, undef, undef, undef, undef, undef, undef, undef, undef, undef, undef, undef, undef, undef, undef, undef, undef, undef, undef, undef, undef, undef, undef, undef, undef, undef, undef, undef, undef, undef, undef, undef, undef, undef, undef, undef, undef, undef, undef, undef, undef, undef, undef, undef, undef, undef, undef, undef, undef, undef, undef, undef, undef, undef, undef, undef, undef, undef, undef, undef, undef, undef, rfl, rfl, hGF, trivial, rfl⟩
  case round =>
    clear hGF hsz
    rintro n a W ⟨r, rb, ds, u11, u12, u13, u14, u15, u27, u28, u29, u30, u31, u32, u33, u34, u35, u36, u37, u38, u39, u40, u41, u42, u43, u44, u45, u46, u47, u48, u49, u50, u51, u52, u53, u54, u55, u56, u57, u58, u59, u60, u61, u62, u63, u64, u65, u66, u67, u68, u69, u70, u71, u72, u73, u74, u75, u76, u77, u78, u79, u80, u81, u82, u83, u84, u85, u86, u87, u88, hrn, rfl, hgf, hds, hlen⟩
    have hgf' := hgf
    obtain ⟨hof, hbe, hbr, hrb⟩ := hgf'
    have hof' := hof
    obtain ⟨h1, h2, ⟨v', h3, h3', hv⟩, h4, h5, h6, h7⟩ := hof'
    subst hv
    have zr := hbr.cell
    by_cases h2r : r < 2
    · have dr : decide ((r : Int) < 2) = true := decide_eq_true (by omega)
      have ib := hbr.lt
      have bA : Below W.heap.size W (((W.alloc (.cells #[.int .i64 0] 3)).alloc (.cells #[.bool false] 4)).alloc (.cells #[.bool false] 4)) := (((Below.refl _ W).alloc (Nat.le_refl _) _).alloc (by simp) _).alloc (by simp; omega) _
      have bx1 := ((Boxed.new W 3 (.int .i64 0)).alloc (.cells #[.bool false] 4)).alloc (.cells #[.bool false] 4)
      have bx2 := (Boxed.new (W.alloc (.cells #[.int .i64 0] 3)) 4 (.bool false)).alloc (.cells #[.bool false] 4)
      have bx3 := Boxed.new ((W.alloc (.cells #[.int .i64 0] 3)).alloc (.cells #[.bool false] 4)) 4 (.bool false)
      simp only [World.size_alloc] at bx2 bx3
      gi_wp2
      obtain ⟨W0, hW0⟩ : ∃ W0, ((W.alloc (.cells #[.int .i64 0] 3)).alloc (.cells #[.bool false] 4)).alloc (.cells #[.bool false] 4) = W0 := ⟨_, rfl⟩
      have hs0 : W0.heap.size = W.heap.size + 3 := by rw [← hW0]; simp
      rw [hW0] at bA bx1 bx2 bx3 ⊢
      obtain ⟨bn, hbn⟩ : ∃ bn, W.heap.size = bn := ⟨_, rfl⟩
      have hgf0 := GF_grown hgf bA
      have hds0 := DS_mono (top' := bn) (by omega) ds (DS_below hds bA)
      have hgW : Below w.heap.size w W := h7
      have hBA := hgW.trans (bA.mono hgW.size)
      rw [hbn] at bx1 bx2 bx3 ib hs0 ⊢
      have rb1 : rb < bn := ib
      have be0 := hgf0.2.1
      clear hgf hof hbe hbr h1 h2 h3 h3' h4 h5 h6 h7 zr hds bA hbn hW0
      refine wpIn_range_gives (F := Fence.wide) (n := 4) rfl (by decide) (gf := 26) (lb := #[.pointer (some ⟨m + 1 + 1 + 1 + 1, 0, none⟩)]) rfl trivial (enters_of Tryd.func26 (by kernel_rfl) rfl)
        (It := It (scanT src)) (tot := tot (scanT src)) (n0 := w.heap.size) (fun W1 hb => each1_in src hmx w.heap.size g.low _ _ W1 ((hb.block _ be0.lt).trans be0) (g.keep (hBA.trans (hb.mono hBA.size)))) (by omega)
        (fun i vs W h => by obtain ⟨_, _, _, _, _, _, rfl, _⟩ := It_shape h; rfl)
        (AI (scanT src) src w m (.slice p (scanT src).1.length c) c0 c1 c2 stop r rb bn ds) (AX (scanT src) src w m (.slice p (scanT src).1.length c) c0 c1 c2 stop r rb bn ds) (fun b => AI_own _ src w m _ c0 c1 c2 stop r rb bn ds _ b (by omega) (by omega)) (fun c' => AX_own _ src w m _ c0 c1 c2 stop r rb bn ds _ (by omega) (by omega) c')
        ⟨Nat.zero_le _, hgf0, hds0, by simpa using bx1, bx2, by simpa using bx3⟩
        (fun i b b' W hbb h => h)
        (fun i b vs a' W => AI (scanT src) src w m (.slice p (scanT src).1.length c) c0 c1 c2 stop r rb bn ds i b W ∧ It (scanT src) i vs W ∧ ∃ bx k t v ln cl er, b ≤ bx ∧ vs = #[tokV k t v ln cl, er] ∧ W.heap[bx]? = some (.cells #[.int .i64 k, .string ⟨t.toArray⟩, .int .u64 (v : Nat), .int .i64 ln, .int .i64 cl] 34 (0, 0)) ∧ a' = { tmps := #[.string ⟨src.toArray⟩, .int .i64 stop, undef, .pointer (some ⟨w.heap.size, 0, none⟩), .pointer (some ⟨w.heap.size + 1, 0, none⟩), .pointer (some ⟨m, 0, none⟩), .pointer (some ⟨m + 1, 0, none⟩), .pointer (some ⟨m + 1 + 1, 0, none⟩), .pointer (some ⟨m + 1 + 1 + 1, 0, none⟩), .func (.func 26) #[] #[.pointer (some ⟨m + 1 + 1 + 1 + 1, 0, none⟩)], .pointer (some ⟨rb, 0, none⟩), .pointer (some ⟨bn, 0, none⟩), .pointer (some ⟨bn + 1, 0, none⟩), .pointer (some ⟨bn + 1 + 1, 0, none⟩), .pointer (some ⟨bx, 0, none⟩), er, .tuple #[.slice p (scanT src).1.length c, .int .i64 c0, .int .i64 c1, .int .i64 c2], .string ⟨src.toArray⟩, .tuple #[.slice p (scanT src).1.length c, .int .i64 c0, .int .i64 c1, .int .i64 c2], .slice p (scanT src).1.length c, .int .i64 c0, .int .i64 c1, .int .i64 c2, .string ⟨src.toArray⟩, .func (.func 26) #[] #[.pointer (some ⟨m + 1 + 1 + 1 + 1, 0, none⟩)], .func (.func 26) #[] #[.pointer (some ⟨m + 1 + 1 + 1 + 1, 0, none⟩)], .bool false, .int .i64 (r : Nat), .bool true, u29, u30, .func (.func 26) #[] #[.pointer (some ⟨m + 1 + 1 + 1 + 1, 0, none⟩)], tokV k t v ln cl, er, u34, u35, u36, u37, u38, u39, u40, u41, u42, u43, u44, u45, u46, u47, u48, u49, u50, u51, u52, u53, u54, u55, u56, u57, u58, u59, u60, u61, u62, u63, u64, u65, u66, u67, u68, u69, u70, u71, u72, u73, u74, u75, u76, u77, u78, u79, u80, u81, u82, u83, u84, u85, u86, u87, u88], defers := [] })
        (fun i b vs a' => by
          rintro _ X Y row ⟨h1, h2, bx, k, t, v, ln, cl, er, h3, h4, h5, h6⟩ hg hr
          have hr' : ∀ r, row = some r → ∃ o : Obj, X.heap[r]? = some o ∧ o.isCells = false := fun r e => (hr r e).2
          exact ⟨AI_own _ src w m _ c0 c1 c2 stop r rb bn ds W0.heap.size b (by omega) (by omega) i X Y row h1 hg hr, It_own _ i vs () X Y row h2 hg hr', bx, k, t, v, ln, cl, er, h3, h4, own_heap bx () X Y row h5 hg hr', h6⟩) ?assign ?body ?done ?stop
      case assign =>
        intro l i b vs W K hb1 hb2 hI hIt hK
        obtain ⟨k, t, v, ln, cl, er, rfl, her⟩ := It_shape hIt
        unfold tokV
        gi_wp2
        refine hK _ _ ((KeepsOthers.alloc _ _).from _) (Kept.of_grown (World.grownBy_alloc W _ none) (fun r e => by cases e)) ⟨(AI_own _ src w m _ c0 c1 c2 stop r rb bn ds W0.heap.size b (by omega) (by omega)).alloc _ hI, It_own _ i _ () W _ none hIt (World.grownBy_alloc W _ none) (fun r e => by cases e), W.heap.size, k, t, v, ln, cl, er, hb2, rfl, World.alloc_heap_new W _, rfl⟩
      case body =>
        clear bx1 bx2 bx3 hgf0 hds0 be0 hBA hgW
        rintro l i b vs a' W hb1 hb2 ⟨⟨hi1, hgf, hds, hbn, hbl, hbf⟩, hit, bx, k, t, v, ln, cl, er, hbx, rfl, hrow, rfl⟩
        obtain ⟨q0, q1, q2, q3, q4⟩ := cells5 hrow
        have hgf' := hgf
        obtain ⟨hof', hbe, hbr, hrb'⟩ := hgf'
        obtain ⟨h1, h2, ⟨v', h3, h3', hv⟩, h4, h5, h6, h7⟩ := hof'
        subst hv
        have z0 := h1.cell
        have z2 := h3.cell
        have z3 := h4.cell
        have z4 := h5.cell
        have z5 := h6.cell
        have z6f := hbn.frozen
        have z7f := hbf.frozen
        have z8 := hbl.cell
        have z8f := hbl.frozen
        have z9 := hbr.cell
        have hmb : w.heap.size ≤ bn ∧ bn < b := by omega
        have hmb1 : w.heap.size ≤ bn + 1 ∧ bn + 1 < b := by omega
        have hmb2 : w.heap.size ≤ bn + 1 + 1 ∧ bn + 1 + 1 < b := by omega
        have ne1 : bn + 1 ≠ bn := by omega
        have ne2 : bn + 1 + 1 ≠ bn := by omega
        have ne3 : rb < bn + 1 := by omega
        have ne4 : rb < bn + 1 + 1 := by omega
        have ne5 : bn ≠ bn + 1 + 1 := by omega
        have ne6 : bn + 1 ≠ bn + 1 + 1 := by omega
        rcases hit with ⟨tk, htk, hvs⟩ | ⟨hieq, e, bb, hR2, hvs, hpos⟩
        · obtain ⟨hcl, rfl⟩ := tok_inj hvs
          have hilt : i < (scanT src).1.length := (List.getElem?_eq_some_iff.1 htk).1
          have hget : (scanT src).1[i] = tk := (List.getElem?_eq_some_iff.1 htk).2
          obtain ⟨gw, rfl⟩ : ∃ gw, p = some ⟨gw, 0, none⟩ := own_some h3' (by omega)
          obtain ⟨x0, x1, x2, x3, x4⟩ := row_tok h3' i hilt
          rw [hget] at x0 x1 x2 x3 x4
          simp only [tkCells, List.cons.injEq, and_true] at hcl
          obtain ⟨y0, y1, y2, y3, y4⟩ := hcl
          rw [y0] at x0
          rw [y1] at x1
          rw [y2] at x2
          rw [y3] at x3
          rw [y4] at x4
          have hmin : min i (scanT src).1.length = i := by omega
          have hmin1 : min (i + 1) (scanT src).1.length = i + 1 := by omega
          have hdec : decide ((scanT src).1.length < i) = false := decide_eq_false (by omega)
          have hdec1 : decide ((scanT src).1.length < i + 1) = false := decide_eq_false (by omega)
          have hit1 : i + 1 ≤ tot (scanT src) := by unfold tot; omega
          rw [hmin] at hbn
          rw [hdec] at hbf
          have finN : ∀ X : World, X = (W.drewN 0) → True := fun _ _ => trivial
          have fin : ∀ nq, rpost W0.heap.size w.heap.size b (AI (scanT src) src w m (.slice (some ⟨gw, 0, none⟩) (scanT src).1.length c) c0 c1 c2 stop r rb bn ds) (AX (scanT src) src w m (.slice (some ⟨gw, 0, none⟩) (scanT src).1.length c) c0 c1 c2 stop r rb bn ds) (i + 1) W .normal ⟨#[], []⟩ ((W.drewN nq).setCell ⟨bn, 0, none⟩ (.int .i64 ((i : Int) + 1))) := fun nq => by
            refine ⟨((keeps_drewN W nq).trans (KeepsOthers.setCell _ _ _)).from _, (Kept.of_grown (grown_of_below (below_draws' W.heap.size W nq)) (fun r e => by cases e)).trans (Kept.of_grown (grownBy_setCell' _ _ _) (fun r e => by cases e; exact hmb)), hit1, GF_set hm0 (GF_grown hgf (below_draws' W.heap.size W nq)) (boxD hbn nq) (by decide) rb1 _, DS_set (DS_below hds (below_draws' W.heap.size W nq)) _ _, ?_, (boxD hbl nq).other ne1 _, ?_⟩
            · rw [hmin1]; exact (boxD hbn nq).set _
            · rw [hdec1]; exact (boxD hbf nq).other ne2 _
          have finX : ∀ nq, rpost W0.heap.size w.heap.size b (AI (scanT src) src w m (.slice (some ⟨gw, 0, none⟩) (scanT src).1.length c) c0 c1 c2 stop r rb bn ds) (AX (scanT src) src w m (.slice (some ⟨gw, 0, none⟩) (scanT src).1.length c) c0 c1 c2 stop r rb bn ds) (i + 1) W (.exit 2) ⟨#[], []⟩ (((W.drewN nq).setCell ⟨bn, 0, none⟩ (.int .i64 ((i : Int) + 1))).setCell ⟨bn + 1, 0, none⟩ (.bool true)) := fun nq => by
            refine ⟨(((keeps_drewN W nq).trans (KeepsOthers.setCell _ _ _)).trans (KeepsOthers.setCell _ _ _)).from _, rfl, GF_set hm0 (GF_set hm0 (GF_grown hgf (below_draws' W.heap.size W nq)) (boxD hbn nq) (by decide) rb1 _) ((boxD hbl nq).other ne1 _) (by decide) ne3 _, DS_set (DS_set (DS_below hds (below_draws' W.heap.size W nq)) _ _) _ _, ((boxD hbl nq).other ne1 _).set _⟩
          have z6 := hbn.cell
          have z7 := hbf.cell
          have hi16 : i ≤ 16384 := by omega
          have dn1 : decide ((i : Int) ≥ ((scanT src).1.length : Int)) = false := decide_eq_false (by omega)
          have dn2 : decide ((scanT src).1.length ≤ i) = false := decide_eq_false (by omega)
          have dn3 : decide (((scanT src).1.length : Int) ≤ (i : Int)) = false := decide_eq_false (by omega)
          have hlI : (i : Int) < ((scanT src).1.length : Int) := by omega
          have y0r : ∀ nq v, ((W.drewN nq).setCell ⟨bn, 0, none⟩ v).cell? ⟨rb, 0, none⟩ = some (.int .i64 (r : Nat)) := fun nq v => ((boxD hbr nq).other (by omega) v).cell
          have y1r : ∀ nq v, ((W.drewN nq).setCell ⟨bn, 0, none⟩ v).cell? ⟨w.heap.size, 0, none⟩ = some (.int .i64 stop) := fun nq v => ((boxD h1 nq).other (by omega) v).cell
          have y2r : ∀ nq v, ((W.drewN nq).setCell ⟨bn, 0, none⟩ v).frozen? ⟨bn + 1, 0, none⟩ = false := fun nq v => ((boxD hbl nq).other ne1 v).frozen
          have y3r : ∀ nq v, ((W.drewN nq).setCell ⟨bn, 0, none⟩ v).cell? ⟨bn + 1, 0, none⟩ = some (.bool false) := fun nq v => ((boxD hbl nq).other ne1 v).cell
          clear hcnt HT hz0 hz1 hbx hvs hrow htk hget hi1 hmin hmin1 hdec hdec1 hit1 g g0 hmx y0 y1 y2 y3 y4 hb1 hb2 hs0 hgf hbe hbr h1 h2 h3 h3' h4 h5 h6 h7 hds hbn hbl hbf hmb hmb1 hmb2 finN
          generalize hL : (scanT src).1.length = L at *
          by_cases hr0 : r = 0
          · subst hr0
            by_cases hs : (i : Int) + 1 = stop
            · subst hs
              gi_wp2
              refine region_quietR (by kernel_rfl) (by kernel_rfl) (by kernel_rfl) ?_
              repeat (gi_big_quiet_step (fail))
              refine wpQuietIn_nil ?_
              intro _ hw'
              obtain ⟨nq, hw''⟩ := hw'
              subst hw''
              gi_wp2
              exact finX nq
            · have dstop : ((i : Int) + 1 == stop) = false := by simp; exact hs
              gi_wp2
              refine region_quietR (by kernel_rfl) (by kernel_rfl) (by kernel_rfl) ?_
              repeat (gi_big_quiet_step (fail))
              refine wpQuietIn_nil ?_
              intro _ hw'
              obtain ⟨nq, hw''⟩ := hw'
              subst hw''
              gi_wp2
              exact fin nq
          · have dr0 : ((r : Int) == 0) = false := by simp; omega
            gi_wp2
            refine region_quietR (by kernel_rfl) (by kernel_rfl) (by kernel_rfl) ?_
            repeat (gi_big_quiet_step (fail))
            refine wpQuietIn_nil ?_
            intro _ hw'
            obtain ⟨nq, hw''⟩ := hw'
            subst hw''
            gi_wp2
            exact fin nq
        · obtain ⟨htz, rfl⟩ := zero_inj hvs
          have HT1 : Hid (CallsIn (Fence.wide.inRound l) 1 Tryd.prog 23 #[.iface 65 (.pointer (some ⟨bb, 0, none⟩)), .int .i64 c0, .int .i64 c1, .int .i64 c2] W fun e w'' => e = .returned (.bool true) ∧ Below W.heap.size W w'') := HT e hR2 bb W hpos
          have d0 : (c0 == 0) = false := by simp; exact hz1 e hR2
          have htot : tot (scanT src) = i + 1 := by unfold tot; rw [hR2, ← hieq]; rfl
          have hL1 : i ≤ 16384 := by omega
          rw [← hieq] at hgf hbn hbf z2 h3 h3'
          rw [Nat.min_self] at hbn
          have hdec : decide (i < i) = false := decide_eq_false (by omega)
          rw [hdec] at hbf
          have z6 := hbn.cell
          have z7 := hbf.cell
          have fin : ∀ X : World, Below W.heap.size W X → rpost W0.heap.size w.heap.size b (AI (scanT src) src w m (.slice p i c) c0 c1 c2 stop r rb bn ds) (AX (scanT src) src w m (.slice p i c) c0 c1 c2 stop r rb bn ds) (i + 1) W .normal ⟨#[], []⟩ (X.setCell ⟨bn + 1 + 1, 0, none⟩ (.bool true)) := by
            intro X hX
            have fX : Boxed X (bn + 1 + 1) 4 (.bool false) := (hX.block _ hbf.lt).trans hbf
            have nX : Boxed X bn 3 (.int .i64 (i : Nat)) := (hX.block _ hbn.lt).trans hbn
            have lX : Boxed X (bn + 1) 4 (.bool false) := (hX.block _ hbl.lt).trans hbl
            refine ⟨((KeepsOthers.of_grownBy (grown_of_below hX) (fun j o e => by cases e)).trans (KeepsOthers.setCell _ _ _)).from _, (Kept.of_grown (grown_of_below hX) (fun r e => by cases e)).trans (Kept.of_grown (grownBy_setCell' _ _ _) (fun r e => by cases e; exact hmb2)), by rw [htot]; omega, GF_set hm0 (GF_grown hgf hX) fX (by decide) ne4 _, DS_set (DS_below hds hX) _ _, ?_, lX.other ne6 _, ?_⟩
            · rw [← hieq, Nat.min_eq_right (by omega)]
              exact nX.other ne5 _
            · rw [← hieq, decide_eq_true (by omega : i < i + 1)]
              exact fX.set _
          rw [← hieq]
          clear hcnt HT hz0 hz1 hbx hvs hrow hi1 hdec g g0 hmx hb1 hb2 hs0 hgf hbe hbr h2 hieq hR2 htot htz hpos z0 z2 z6 q0 q1 q2 q3 q4 hmb hmb1 hmb2 hds
          gi_wp2_with (refine ⟨trivial, ?_⟩; gi_at_call 23; (with_reducible refine (HT1.out).mono ?_); rintro e' w3 ⟨rfl, hb3⟩; have u1 := Boxed.cell (W := w3) (B := m + 1) (t := 3) (v := .int .i64 c0) ((hb3.block _ h4.lt).trans h4); have u2 := Boxed.cell (W := w3) (B := bn) (t := 3) (v := .int .i64 (i : Nat)) ((hb3.block _ hbn.lt).trans hbn); have u3 := Boxed.cell (W := w3) (B := m) (t := 24) (v := .slice p i c) ((hb3.block _ h3.lt).trans h3); have u4 := Boxed.cell (W := w3) (B := bn + 1 + 1) (t := 4) (v := .bool false) ((hb3.block _ hbf.lt).trans hbf); have u4f := Boxed.frozen (W := w3) (B := bn + 1 + 1) (t := 4) (v := .bool false) ((hb3.block _ hbf.lt).trans hbf))
          exact fin _ hb3
      case done =>
        rintro D b W1 hD ⟨h1, hgf, hds, hbn, hbl, hbf⟩ hK
        have hgf' := hgf
        obtain ⟨hof', hbe, hbr, hrb'⟩ := hgf'
        obtain ⟨k1, k2, ⟨v', k3, k3', hv⟩, k4, k5, k6, k7⟩ := hof'
        subst hv
        have hmn : min (tot (scanT src)) (scanT src).1.length = (scanT src).1.length := by unfold tot; omega
        rw [hmn] at hbn
        have z2 := k3.cell
        have z3 := k4.cell
        have z6 := hbn.cell
        have z8 := hbl.cell
        have z9 := hbr.cell
        have hL16 : (scanT src).1.length ≤ 16384 := hcnt
        have hD1 : D < W1.heap.size := (Array.getElem?_eq_some_iff.1 hK).1
        have fin : ∀ o : Obj, GF (scanT src) src w m (.slice p (scanT src).1.length c) c0 c1 c2 stop (r + 1) W1.heap.size (W1.alloc (.cells #[.int .i64 ((r : Int) + 1)] 3)) ∧ DS m W1.heap.size (D :: ds) (W1.alloc (.cells #[.int .i64 ((r : Int) + 1)] 3)) ∧ (D :: ds).length = r + 1 := fun _ => by
          have ha := GF_grown hgf ((Below.refl _ W1).alloc (Nat.le_refl _) (.cells #[.int .i64 ((r : Int) + 1)] 3))
          refine ⟨⟨ha.1, ha.2.1, Boxed.new W1 3 _, ?_⟩, ⟨by omega, hD1, (Below.heap_alloc W1 _ D hD1).trans hK, DS_mono (by omega) ds (DS_below hds ((Below.refl _ W1).alloc (Nat.le_refl _) _))⟩, by simp [hlen]⟩
          have := hbe.lt
          omega
        have fin' := fin (.deferred none)
        clear fin
        have hn1 : n - 1 < n := by omega
        have hn2 : r + 1 + (n - 1) = 2 := by omega
        have hr2 : r ≤ 2 := by omega
        cases hR2 : (scanT src).2 with
        | none =>
          obtain rfl := hz0 hR2
          have ht0 : decide ((scanT src).1.length < tot (scanT src)) = false := decide_eq_false (by unfold tot; rw [hR2]; simp)
          rw [ht0] at hbf
          have z7 := hbf.cell
          clear hcnt HT hz0 hz1 hmx g g0 bx1 bx2 bx3 hgf0 hds0 be0 hBA hgW h1 hmn ht0 hgf hds hbn hbl hbf k1 k2 k3 k3' k4 k5 k6 k7 hbe hbr hR2
          gi_wp2
          exact ⟨n - 1, hn1, r + 1, _, D :: ds, _, _, _, _, _, _, _, _, _, _, _, _, _, _, _, _, _, _, _, _, _, _, _, _, _, _, _, _, _, _, _, _, _, _, _, _, _, _, _, _, _, _, _, _, _, _, _, _, _, _, _, _, _, _, _, _, _, _, _, _, _, _, _, _, _, _, _, hn2, rfl, fin'⟩
        | some e =>
          have d0 : (c0 == 0) = false := by simp; exact hz1 e hR2
          have d0' : (c0 != 0) = true := by simp; exact hz1 e hR2
          have ht0 : decide ((scanT src).1.length < tot (scanT src)) = true := decide_eq_true (by unfold tot; rw [hR2]; simp)
          rw [ht0] at hbf
          have z7 := hbf.cell
          clear hcnt HT hz0 hz1 hmx g g0 bx1 bx2 bx3 hgf0 hds0 be0 hBA hgW h1 hmn ht0 hgf hds hbn hbl hbf k1 k2 k3 k3' k4 k5 k6 k7 hbe hbr hR2
          gi_wp2
          exact ⟨n - 1, hn1, r + 1, _, D :: ds, _, _, _, _, _, _, _, _, _, _, _, _, _, _, _, _, _, _, _, _, _, _, _, _, _, _, _, _, _, _, _, _, _, _, _, _, _, _, _, _, _, _, _, _, _, _, _, _, _, _, _, _, _, _, _, _, _, _, _, _, _, _, _, _, _, _, _, hn2, rfl, fin'⟩
      case stop =>
        rintro D c' i W1 hD hit ⟨rfl, hgf, hds, hbl⟩ hK
        have z8 := hbl.cell
        have hbe := hgf.2.1
        have z9 := hgf.2.2.1.cell
        have hD1 : D < W1.heap.size := (Array.getElem?_eq_some_iff.1 hK).1
        have fin' : GF (scanT src) src w m (.slice p (scanT src).1.length c) c0 c1 c2 stop (r + 1) W1.heap.size (W1.alloc (.cells #[.int .i64 ((r : Int) + 1)] 3)) ∧ DS m W1.heap.size (D :: ds) (W1.alloc (.cells #[.int .i64 ((r : Int) + 1)] 3)) ∧ (D :: ds).length = r + 1 := by
          have ha := GF_grown hgf ((Below.refl _ W1).alloc (Nat.le_refl _) (.cells #[.int .i64 ((r : Int) + 1)] 3))
          refine ⟨⟨ha.1, ha.2.1, Boxed.new W1 3 _, ?_⟩, ⟨by omega, hD1, (Below.heap_alloc W1 _ D hD1).trans hK, DS_mono (by omega) ds (DS_below hds ((Below.refl _ W1).alloc (Nat.le_refl _) _))⟩, by simp [hlen]⟩
          have := hbe.lt
          omega
        have hn1 : n - 1 < n := by omega
        have hn2 : r + 1 + (n - 1) = 2 := by omega
        have hr2 : r ≤ 2 := by omega
        clear hcnt HT hz0 hz1 hmx g g0 bx1 bx2 bx3 hgf0 hds0 be0 hBA hgW hgf hds hbl hbe
        gi_wp2
        exact ⟨n - 1, hn1, r + 1, _, D :: ds, _, _, _, _, _, _, _, _, _, _, _, _, _, _, _, _, _, _, _, _, _, _, _, _, _, _, _, _, _, _, _, _, _, _, _, _, _, _, _, _, _, _, _, _, _, _, _, _, _, _, _, _, _, _, _, _, _, _, _, _, _, _, _, _, _, _, _, hn2, rfl, fin'⟩
    · obtain rfl : r = 2 := by omega
      obtain rfl : n = 0 := by omega
      obtain ⟨D2, D1, rfl⟩ : ∃ D2 D1, ds = [D2, D1] := by
        match ds, hlen with
        | [D2, D1], _ => exact ⟨D2, D1, rfl⟩
      obtain ⟨e1, e2, e3, e4, e5, e6, _⟩ := hds
      have z1 := h2.cell
      have z1f := h2.frozen
      simp only [dsl, List.map]
      clear hcnt HT hz0 hz1 hmx g g0 hgf hof
      gi_wp2
      have kk2 := (KeepsOthers.setCell W ⟨w.heap.size + 1, 0, none⟩ (.bool true)).same D2 _ e3 rfl
      have kk0 := (KeepsOthers.setCell W ⟨w.heap.size + 1, 0, none⟩ (.bool true)).same D1 _ e6 rfl
      have kk1 : ((W.setCell ⟨w.heap.size + 1, 0, none⟩ (.bool true)).putObj D2 (.deferred none)).heap[D1]? = some (.deferred (some [])) := (World.putObj_heap_other (by omega)).trans kk0
      have cR := ((h2.set (.bool true)).kept (grownBy_putObj' _ D2 (.deferred none)) (fun e => by cases e; omega)).kept (grownBy_putObj' _ D1 (.deferred none)) (fun e => by cases e; omega)
      have dR := cR.cell
      have hbl := h7.setCell (p := ⟨w.heap.size + 1, 0, none⟩) (by simp) (.bool true)
      have fin := (hbl.trans (belowK_b (w := w) (Nat.le_refl _) (W.setCell ⟨w.heap.size + 1, 0, none⟩ (.bool true)) D2 _ (.deferred none) (by omega) kk2 rfl rfl)).trans (belowK_b (w := w) (Nat.le_refl _) _ D1 _ (.deferred none) (by omega) kk1 rfl rfl)
      refine ⟨by simp, .inl ⟨_, _, rfl, run_takeDeferred kk2, ?_⟩⟩
      refine ⟨by simp, .inl ⟨_, _, rfl, run_takeDeferred kk1, ?_⟩⟩
      exact ⟨_, by simp [results, Tryd.results7, go_sem, dR], rfl, fin⟩
end Go.Proofs.YtidffddmlaedcaaDoor
