import Derived.Test.YtmekcccmnkgodaaGreatDoorFLWalk
import Derived.Maps.AppendAt
import Derived.Test.YtmekcccmnkgodaaGreatDoorFLRef2
import Derived.BigRegion
namespace Go.Proofs.YtmekcccmnkgodaaGreatDoor
open Go.ChangeShapes Go.WideShapes Go.ChangeAt Go.RowKit Go.Shelf
set_option linter.unusedVariables false
attribute [local go_sem] Oper.semAt_some

theorem yield_any {m : Nat} (m' : Nat) {P : Program} {l : Nat} {args : Array Value} {W : World} {R : Ending → World → Prop} (h : YieldAt Fence.wide m P l args W R) : YieldAt Fence.wide m' P l args W R := by
  obtain ⟨fn, tmps, assign, body, hy, hR⟩ := h
  exact ⟨fn, tmps, assign, body, hy, ⟨hR.1, fun c cs _ => hR.2 c cs (room_wide _)⟩⟩

theorem scanT_long (src : Bs) (h : ¬ src.length ≤ 65536) : scanT src = ([], some ⟨30, 1, 1⟩) := by unfold scanT; rw [if_pos (by omega)]
theorem scanT_fits (src : Bs) (h : src.length ≤ 65536) : scanT src = scan src 1 1 0 := by unfold scanT; rw [if_neg (by omega)]

set_option maxRecDepth 100000 in
set_option maxHeartbeats 2000000 in
theorem each1_in (src : Bs) (hmx : src.length ≤ maxLen) (n0 : Nat) (hn0 : 6 ≤ n0) (bs n : Nat) (W : World) (hbox : W.heap[bs]? = some (.cells #[.string ⟨src.toArray⟩] 9 (0, 0))) (g : Gr W) :
    Gives Fence.wide n Tryz.prog 31 #[.pointer (some ⟨bs, 0, none⟩)] (It (scanT src)) (tot (scanT src)) n0 W := by
  intro l J Jx hY h0
  have hsz : (⟨src.toArray⟩ : ByteArray).size = src.length := by simp [ByteArray.size]
  have hc : W.cell? ⟨bs, 0, none⟩ = some (.string ⟨src.toArray⟩) := by simp [World.cell?, hbox]
  by_cases hl : src.length ≤ 65536
  · rw [scanT_fits src hl] at hY ⊢
    have HW := walk_in src hl n0 hn0 l J Jx (n - 1) (fun m i vs W0 W1 h1 h2 h3 => yield_any m (hY i vs W0 W1 h1 h2 h3)) W g h0
    have d0 : decide ((src.length : Int) > 65536) = false := decide_eq_false (by omega)
    clear hY
    refine callsIn_of_wp Tryz.func31 rfl trivial ?_ rfl
    simp only [Tryz.ntmps31, List.size_toArray, List.length_cons, List.length_nil, Nat.reduceAdd, Nat.reduceSub, Array.replicate_succ, Array.replicate_zero, List.push_toArray, List.append_toArray, List.nil_append, List.cons_append]
    gi_wp2_with (refine ⟨trivial, (fun h => by cases h), ?_⟩; gi_at_call 33; (with_reducible refine HW.mono ?_); rintro e' w1 ⟨⟨v, rfl⟩, hfin⟩)
    go_end0
    exact ⟨⟨_, rfl⟩, hfin⟩
  · rw [scanT_long src hl] at hY ⊢
    have d0 : decide ((src.length : Int) > 65536) = true := decide_eq_true (by omega)
    have yErr : YieldAt Fence.wide (n - 1) Tryz.prog l #[.agg #[.int .i64 0, .string ⟨#[]⟩, .int .u64 0, .int .i64 0, .int .i64 0], .iface 56 (.pointer (some ⟨W.heap.size, 0, none⟩))] (W.alloc (posObj 30 1 1)) fun e W' => (e = .returned (.bool true) ∨ e = .returned (.bool false)) ∧ ((∃ W0, J (tot ([], some ⟨30, 1, 1⟩)) W0 ∧ Below W0.heap.size W0 W') ∨ ∃ i W0, i < tot ([], some ⟨30, 1, 1⟩) ∧ Jx (i + 1) W0 ∧ Below W0.heap.size W0 W') := by
      refine YieldAt.mono (hY 0 _ W _ h0 ((Below.refl _ W).alloc (Nat.le_refl _) _) (.inr ⟨rfl, _, W.heap.size, rfl, rfl, World.alloc_heap_new W _⟩)) ?_
      rintro e W' (⟨rfl, h1, _⟩ | ⟨rfl, h1⟩)
      · exact ⟨.inl rfl, .inl ⟨W', h1, Below.refl _ _⟩⟩
      · exact ⟨.inr rfl, .inr ⟨0, W', by decide, h1, Below.refl _ _⟩⟩
    clear hY
    obtain ⟨fn, tm, asg, bd, hy, hRd⟩ := yErr
    refine callsIn_of_wp Tryz.func31 rfl trivial ?_ rfl
    simp only [Tryz.ntmps31, List.size_toArray, List.length_cons, List.length_nil, Nat.reduceAdd, Nat.reduceSub, Array.replicate_succ, Array.replicate_zero, List.push_toArray, List.append_toArray, List.nil_append, List.cons_append]
    gi_wp2_with (refine ⟨trivial, (fun h => by cases h), ?_⟩; gi_at_call 32; (with_reducible refine (callsIn_wide.2 (fault_any _ _ _ _)).mono ?_); rintro e' w3 ⟨rfl, rfl⟩)
    refine ⟨(fun h => by cases h), ?_⟩
    refine hRd.mono ?_
    rintro e' W3 ⟨(rfl | rfl), hfin⟩
    · gi_wp2
      refine bodyPost_ret (results_none rfl _ _ _) rfl ?_
      exact ⟨⟨_, rfl⟩, hfin⟩
    · gi_wp2
      refine bodyPost_ret (results_none rfl _ _ _) rfl ?_
      exact ⟨⟨_, rfl⟩, hfin⟩

theorem each_any (src : Bs) (w : World) :
    Calls Tryz.prog 18 #[.string ⟨src.toArray⟩] w fun e w' => e = .returned (.func (.func 31) #[] #[.pointer (some ⟨w.heap.size, 0, none⟩)]) ∧ w' = w.alloc (.cells #[.string ⟨src.toArray⟩] 9) := by
  go_enter Tryz.func18, Tryz.ntmps18
  go_wp2
  go_ret
  exact ⟨rfl, rfl⟩
end Go.Proofs.YtmekcccmnkgodaaGreatDoor
namespace Go.Proofs.YtmekcccmnkgodaaGreatDoor
open Go.ChangeShapes Go.WideShapes Go.ChangeAt Go.RowKit Go.Shelf
set_option linter.unusedVariables false
attribute [local go_sem] Oper.semAt_some

def tkCells (t : Tk) : List Value := [.int .i64 t.kind, .string ⟨t.text.toArray⟩, .int .u64 t.num, .int .i64 t.line, .int .i64 t.col]
def tksCells (l : List Tk) : List Value := l.flatMap tkCells
theorem tks_snoc (l : List Tk) (i : Nat) (t : Tk) (h : l[i]? = some t) : tksCells (l.take (i + 1)) = tksCells (l.take i) ++ tkCells t := by
  rw [List.take_add_one, h]
  simp [tksCells]

/-- a text has at most MaxTokens tokens -/
theorem scan_count (s : Bs) (line col cnt : Nat) (h : cnt ≤ 16384) : (scan s line col cnt).1.length + cnt ≤ 16384 := by
  fun_induction scan s line col cnt with
  | case1 => simpa using h
  | case2 line col cnt c r hc ih => exact ih h
  | case3 line col cnt c r h1 h2 ih => exact ih h
  | case4 line col cnt c r h1 h2 h3 ih => exact ih h
  | case5 => simpa using h
  | case6 => simp
  | case7 line col cnt c r h1 h2 h3 k t v hrd hne ih =>
    have := ih (by omega)
    simp only [List.length_cons]
    omega
theorem scanT_count (s : Bs) : (scanT s).1.length ≤ 16384 := by
  unfold scanT
  split
  · simp
  · have := scan_count s 1 1 0 (by omega)
    omega

theorem infoTk : (Tryz.prog.info? 40).map (fun i => (i.zero, i.size, i.bytes)) = some (some (.agg #[.int .i64 0, .string ⟨#[]⟩, .int .u64 0, .int .i64 0, .int .i64 0]), 5, 48) := by kernel_rfl

theorem cell_five_new (w : World) (c0 c1 c2 c3 c4 : Value) (t : TypeId) : ∀ j u, [c0, c1, c2, c3, c4][j]? = some u → (w.alloc (.cells #[c0, c1, c2, c3, c4] t)).cell? ((⟨w.heap.size, 0, none⟩ : Addr).add j) = some u := by
  intro j u hj
  have hlt : j < 5 := by
    by_cases h : j < 5
    · exact h
    · rw [List.getElem?_eq_none (by simp; omega)] at hj; cases hj
  have ha : (⟨w.heap.size, 0, none⟩ : Addr).add j = ⟨w.heap.size, j, none⟩ := by unfold Addr.add; simp; exact fun h => h.symm
  rw [ha]
  unfold World.cell?
  rw [World.alloc_heap_new]
  match j, hlt with
  | 0, _ => exact hj
  | 1, _ => exact hj
  | 2, _ => exact hj
  | 3, _ => exact hj
  | 4, _ => exact hj

theorem own_heap {c : Array Value} {t : TypeId} {fr : Nat × Nat} (b : Nat) : Own (fun (_ : Unit) W => W.heap[b]? = some (.cells c t fr)) := by
  rintro _ X Y row h hg hr
  refine (hg.block b (Array.getElem?_eq_some_iff.1 h).1 (fun e => ?_)).trans h
  obtain ⟨o, ho, hc⟩ := hr b e.symm
  rw [h] at ho
  cases ho
  cases hc
theorem It_own (R : List Tk × Option Er) (i : Nat) (vs : Array Value) : Own (fun (_ : Unit) W => It R i vs W) := by
  rintro _ X Y row h hg hr
  rcases h with h | ⟨h1, e, b, h2, h3, h4⟩
  · exact .inl h
  · exact .inr ⟨h1, e, b, h2, h3, own_heap b () X Y row h4 hg hr⟩
theorem It_shape {R : List Tk × Option Er} {i : Nat} {vs : Array Value} {W : World} (h : It R i vs W) : ∃ (k : Int) (t : Bs) (v : Nat) (ln cl : Int) (er : Value), vs = #[tokV k t v ln cl, er] ∧ (er = .nilIface ∨ ∃ ty p, er = .iface ty p) := by
  rcases h with ⟨t, _, rfl⟩ | ⟨_, e, b, _, rfl, _⟩
  · exact ⟨_, _, _, _, _, _, rfl, .inl rfl⟩
  · exact ⟨_, _, _, _, _, _, rfl, .inr ⟨_, _, rfl⟩⟩

/-- what Scan keeps between two rounds -/
def SI (R : List Tk × Option Er) (w : World) (i b : Nat) (W : World) : Prop :=
  i ≤ R.1.length ∧ (∃ v, Boxed W (w.heap.size + 1 + 1) 35 v ∧ W.ownsRow w.heap.size 40 5 v i (tksCells (R.1.take i)) ∧ (∀ g, v.ownBlock = some g → g < b)) ∧
  Boxed W w.heap.size 35 (.slice none 0 0) ∧ Boxed W (w.heap.size + 1) 26 .nilIface ∧ Below w.heap.size w W
def SIx (R : List Tk × Option Er) (w : World) (c : Code) (i : Nat) (W : World) : Prop :=
  c = .ret ∧ ∃ e b, R.2 = some e ∧ Boxed W w.heap.size 35 (.slice none 0 0) ∧ Boxed W (w.heap.size + 1) 26 (.iface 56 (.pointer (some ⟨b, 0, none⟩))) ∧ W.heap[b]? = some (posObj e.code e.line e.col) ∧ Below w.heap.size w W
theorem SI_own (R : List Tk × Option Er) (w : World) (B b : Nat) (hB : w.heap.size ≤ B) : OwnFrom B (fun i W => SI R w i b W) := by
  rintro i X Y row ⟨h1, h2, h3, h4, h5⟩ hg hr
  have hr' : ∀ r, row = some r → ∃ o : Obj, X.heap[r]? = some o ∧ o.isCells = false := fun r e => (hr r e).2
  exact ⟨h1, holdsRow_own w.heap.size (w.heap.size + 1 + 1) 35 40 5 (fun i => i) (fun i => tksCells (R.1.take i)) (fun _ v => ∀ g, v.ownBlock = some g → g < b) i X Y row h2 hg hr',
    boxed_own (β := Unit) _ _ (fun _ => .slice none 0 0) () X Y row h3 hg hr', boxed_own (β := Unit) _ _ (fun _ => .nilIface) () X Y row h4 hg hr', ownFrom_below (β := Unit) (Nat.le_refl _) hB () X Y row h5 hg hr⟩
theorem SIx_own (R : List Tk × Option Er) (w : World) (B : Nat) (hB : w.heap.size ≤ B) (c : Code) : OwnFrom B (SIx R w c) := by
  rintro i X Y row ⟨h0, e, b, h1, h2, h3, h5, h6⟩ hg hr
  have hr' : ∀ r, row = some r → ∃ o : Obj, X.heap[r]? = some o ∧ o.isCells = false := fun r e => (hr r e).2
  exact ⟨h0, e, b, h1, boxed_own (β := Unit) _ _ (fun _ => .slice none 0 0) () X Y row h2 hg hr', boxed_own (β := Unit) _ _ (fun _ => .iface 56 (.pointer (some ⟨b, 0, none⟩))) () X Y row h3 hg hr', own_heap b () X Y row h5 hg hr', ownFrom_below (β := Unit) (Nat.le_refl _) hB () X Y row h6 hg hr⟩

/-- what Scan hands back -/
def ScanPost (R : List Tk × Option Er) (w : World) (e : Ending) (W : World) : Prop :=
  Below w.heap.size w W ∧
  ((R.2 = none ∧ ∃ v, e = .returned (.tuple #[v, .nilIface]) ∧ W.ownsRow w.heap.size 40 5 v R.1.length (tksCells R.1)) ∨
   (∃ er b, R.2 = some er ∧ e = .returned (.tuple #[.slice none 0 0, .iface 56 (.pointer (some ⟨b, 0, none⟩))]) ∧ W.heap[b]? = some (posObj er.code er.line er.col)))

def SA (R : List Tk × Option Er) (src : Bs) (w : World) (i b : Nat) (vs : Array Value) (a : Act) (W : World) : Prop :=
  SI R w i b W ∧ It R i vs W ∧ ∃ bx k t v ln cl er, b ≤ bx ∧ vs = #[tokV k t v ln cl, er] ∧ W.heap[bx]? = some (.cells #[.int .i64 k, .string ⟨t.toArray⟩, .int .u64 (v : Nat), .int .i64 ln, .int .i64 cl] 40 (0, 0)) ∧
    a = { tmps := #[.string ⟨src.toArray⟩, undef, .pointer (some ⟨w.heap.size, 0, none⟩), .pointer (some ⟨w.heap.size + 1, 0, none⟩), .pointer (some ⟨w.heap.size + 1 + 1, 0, none⟩), .pointer (some ⟨bx, 0, none⟩), er, .string ⟨src.toArray⟩, .func (.func 31) #[] #[.pointer (some ⟨w.heap.size + 1 + 1 + 1, 0, none⟩)], tokV k t v ln cl, er, undef, undef, undef, undef, undef, undef, undef, undef], defers := [] }
theorem SA_own (R : List Tk × Option Er) (src : Bs) (w : World) (B i b : Nat) (vs : Array Value) (a : Act) (hB : w.heap.size ≤ B) : OwnFrom B (fun (_ : Unit) W => SA R src w i b vs a W) := by
  rintro _ X Y row ⟨h1, h2, bx, k, t, v, ln, cl, er, h3, h4, h5, h6⟩ hg hr
  have hr' : ∀ r, row = some r → ∃ o : Obj, X.heap[r]? = some o ∧ o.isCells = false := fun r e => (hr r e).2
  exact ⟨SI_own R w B b hB i X Y row h1 hg hr, It_own R i vs () X Y row h2 hg hr', bx, k, t, v, ln, cl, er, h3, h4, own_heap bx () X Y row h5 hg hr', h6⟩

theorem cells5 {W : World} {b : Nat} {c0 c1 c2 c3 c4 : Value} {t : TypeId} (h : W.heap[b]? = some (.cells #[c0, c1, c2, c3, c4] t (0, 0))) : W.cell? ⟨b, 0, none⟩ = some c0 ∧ W.cell? ⟨b, 1, none⟩ = some c1 ∧ W.cell? ⟨b, 2, none⟩ = some c2 ∧ W.cell? ⟨b, 3, none⟩ = some c3 ∧ W.cell? ⟨b, 4, none⟩ = some c4 := by
  refine ⟨?_, ?_, ?_, ?_, ?_⟩
  all_goals (unfold World.cell?; rw [h]; rfl)
theorem own_slice {W : World} {base : Nat} {e : TypeId} {size : Nat} {v : Value} {k : Nat} {xs : List Value} (h : W.ownsRow base e size v k xs) : ∃ p m c, v = .slice p m c := by
  rcases h.2 with ⟨rfl, _⟩ | ⟨g', cap, cur, rfl, _⟩
  · exact ⟨_, _, _, rfl⟩
  · exact ⟨_, _, _, rfl⟩
theorem heap_setCell {W : World} {b B : Nat} {o : Obj} (v : Value) (h : W.heap[b]? = some o) (hne : b ≠ B) : (W.setCell ⟨B, 0, none⟩ v).heap[b]? = some o := by
  exact ((grownBy_setCell' W B v).block b (Array.getElem?_eq_some_iff.1 h).1 (fun e => hne (by cases e; rfl))).trans h
theorem own_base {W : World} {base : Nat} {e : TypeId} {size : Nat} {v : Value} {k : Nat} {xs : List Value} (h : W.ownsRow base e size v k xs) {g : Nat} (hg : v.ownBlock = some g) : base ≤ g := by
  rcases h.2 with ⟨rfl, _⟩ | ⟨g', cap, cur, rfl, hb, _⟩
  · cases hg
  · cases hg; exact hb
theorem own_lt {W : World} {base : Nat} {e : TypeId} {size : Nat} {v : Value} {k : Nat} {xs : List Value} (h : W.ownsRow base e size v k xs) {g : Nat} (hg : v.ownBlock = some g) : g < W.heap.size := by
  rcases h.2 with ⟨rfl, _⟩ | ⟨g', cap, cur, rfl, hb, hh, _⟩
  · cases hg
  · cases hg; exact (Array.getElem?_eq_some_iff.1 hh).1
theorem tot_none {R : List Tk × Option Er} (h : tot R ≤ R.1.length) : R.2 = none ∧ tot R = R.1.length := by
  unfold tot at h ⊢
  cases hr : R.2 with
  | none => simp
  | some e => rw [hr] at h; simp at h; omega
theorem zero_inj {k : Int} {t : Bs} {v : Nat} {ln cl : Int} {er er' z : Value} (h : (#[tokV k t v ln cl, er] : Array Value) = #[z, er']) : tokV k t v ln cl = z ∧ er = er' := by
  simpa using h
theorem tok_inj {k : Int} {t : Bs} {v : Nat} {ln cl : Int} {er er' : Value} {tk : Tk} (h : (#[tokV k t v ln cl, er] : Array Value) = #[tkV tk, er']) : tkCells tk = [.int .i64 k, .string ⟨t.toArray⟩, .int .u64 v, .int .i64 ln, .int .i64 cl] ∧ er = er' := by
  simp only [Array.mk.injEq, List.cons.injEq, and_true] at h
  obtain ⟨h1, h2⟩ := h
  refine ⟨?_, h2⟩
  unfold tkV tokV at h1
  injection h1 with h1
  have := congrArg Array.toList h1
  unfold tkCells
  simpa using this.symm

set_option maxRecDepth 100000 in
set_option maxHeartbeats 4000000 in
theorem scan_any (src : Bs) (hmx : src.length ≤ maxLen) (w : World) (g : Gr w) :
    Calls Tryz.prog 9 #[.string ⟨src.toArray⟩] w (ScanPost (scanT src) w) := by
  obtain ⟨i0, hi, hz0, hz1, hz2⟩ := info_parts infoTk
  have hcnt := scanT_count src
  refine (callsIn_wide (n := 3)).1 ?_
  refine callsIn_of_wp_marks Tryz.func9 rfl trivial ?_ rfl
  simp only [Tryz.ntmps9, List.size_toArray, List.length_cons, List.length_nil, Nat.reduceAdd, Nat.reduceSub, Array.replicate_succ, Array.replicate_zero, List.push_toArray, List.append_toArray, List.nil_append, List.cons_append]
  gi_wp2_with (refine ⟨trivial, ?_⟩; gi_at_call 18; (with_reducible refine (callsIn_wide.2 (each_any _ _)).mono ?_); rintro e' w1 ⟨rfl, rfl⟩)
  have b2 := ((Boxed.new w 35 (.slice none 0 0)).alloc (.cells #[.nilIface] 26)).alloc (.cells #[.slice none 0 0] 35) |>.alloc (.cells #[.string ⟨src.toArray⟩] 9)
  have b3 := ((Boxed.new (w.alloc (.cells #[.slice none 0 0] 35)) 26 .nilIface).alloc (.cells #[.slice none 0 0] 35)).alloc (.cells #[.string ⟨src.toArray⟩] 9)
  have b4 := (Boxed.new ((w.alloc (.cells #[.slice none 0 0] 35)).alloc (.cells #[.nilIface] 26)) 35 (.slice none 0 0)).alloc (.cells #[.string ⟨src.toArray⟩] 9)
  have b5 := Boxed.new (((w.alloc (.cells #[.slice none 0 0] 35)).alloc (.cells #[.nilIface] 26)).alloc (.cells #[.slice none 0 0] 35)) 9 (.string ⟨src.toArray⟩)
  simp only [World.size_alloc] at b3 b4 b5
  have hB0 : Below w.heap.size w ((((w.alloc (.cells #[.slice none 0 0] 35)).alloc (.cells #[.nilIface] 26)).alloc (.cells #[.slice none 0 0] 35)).alloc (.cells #[.string ⟨src.toArray⟩] 9)) := ((((Below.refl _ w).alloc (Nat.le_refl _) _).alloc (by simp) _).alloc (by simp; omega) _).alloc (by simp; omega) _
  obtain ⟨wA, hwA⟩ : ∃ wA, (((w.alloc (.cells #[.slice none 0 0] 35)).alloc (.cells #[.nilIface] 26)).alloc (.cells #[.slice none 0 0] 35)).alloc (.cells #[.string ⟨src.toArray⟩] 9) = wA := ⟨_, rfl⟩
  have hsz : wA.heap.size = w.heap.size + 4 := by rw [← hwA]; simp
  rw [hwA] at b2 b3 b4 b5 hB0 ⊢
  refine wpIn_range_gives (F := Fence.wide) (n := 3) rfl (by decide) (gf := 31) (lb := #[.pointer (some ⟨w.heap.size + 1 + 1 + 1, 0, none⟩)]) rfl trivial (enters_of Tryz.func31 (by kernel_rfl) rfl)
    (It := It (scanT src)) (tot := tot (scanT src)) (n0 := w.heap.size) (fun W1 hb => each1_in src hmx w.heap.size g.low _ _ W1 ((hb.block _ b5.lt).trans b5) (g.keep (hB0.trans (hb.mono hB0.size)))) (by omega)
    (fun i vs W h => by obtain ⟨_, _, _, _, _, _, rfl, _⟩ := It_shape h; rfl)
    (SI (scanT src) w) (SIx (scanT src) w) (fun b => SI_own _ w _ b (by omega)) (fun c => SIx_own _ w _ (by omega) c)
    ⟨Nat.zero_le _, ⟨_, b4, World.ownsRow_nil _ _ _ _, fun g hg => by cases hg⟩, b2, b3, hB0⟩
    (fun i b b' W hbb h => ⟨h.1, by obtain ⟨v, q1, q2, q3⟩ := h.2.1; exact ⟨v, q1, q2, fun g hg => Nat.lt_of_lt_of_le (q3 g hg) hbb⟩, h.2.2⟩)
    (SA (scanT src) src w) (fun i b vs a' => SA_own _ src w _ i b vs a' (by omega)) ?assign ?body ?done ?stop
  case assign =>
    intro l i b vs W K hb1 hb2 hI hIt hK
    obtain ⟨k, t, v, ln, cl, er, rfl, her⟩ := It_shape hIt
    unfold tokV
    gi_wp2
    refine hK _ _ ((KeepsOthers.alloc _ _).from _) (Kept.of_grown (World.grownBy_alloc W _ none) (fun r e => by cases e)) ⟨(SI_own _ w _ b (Nat.le_refl _)).alloc _ hI, It_own _ i _ () W _ none hIt (World.grownBy_alloc W _ none) (fun r e => by cases e), W.heap.size, k, t, v, ln, cl, er, hb2, rfl, World.alloc_heap_new W _, rfl⟩
  case body =>
    rintro l i b vs a' W hb1 hb2 ⟨⟨hi1, ⟨sv, hbox, hown, hlt⟩, h2, h3, hbel⟩, hit, bx, k, t, v, ln, cl, er, hbx, rfl, hrow, rfl⟩
    obtain ⟨q0, q1, q2, q3, q4⟩ := cells5 hrow
    have hc := hbox.cell
    rcases hit with ⟨tk, htk, hvs⟩ | ⟨hieq, e, bb, hR2, hvs, hpos⟩
    · obtain ⟨hcl, rfl⟩ := tok_inj hvs
      have hilt : i < (scanT src).1.length := (List.getElem?_eq_some_iff.1 htk).1
      have hsn := tks_snoc (scanT src).1 i tk htk
      have p1 : i + 1 ≤ maxLen := by unfold maxLen; omega
      have p2 : (i + 1) * 48 ≤ 140737488355328 := by omega
      have p3 : w.heap.size ≤ W.heap.size := hbel.size
      have p4 : w.heap.size ≤ (W.alloc (.cells #[.int .i64 k, .string ⟨t.toArray⟩, .int .u64 v, .int .i64 ln, .int .i64 cl] 40)).heap.size := by simp; omega
      have p5 : w.heap.size ≤ w.heap.size + 1 + 1 := by omega
      have p6 : w.heap.size + 1 + 1 < b := by omega
      clear hi1 hcnt hbx hvs hrow
      gi_wp2_with (gi_at_builtin; refine wpListIn_append_own _ rfl _ _ 35 rfl w.heap.size 40 i0 _ 5 48 Tryz.underlying35 hi hz0 hz1 hz2 rfl (by decide) _ _ _ rfl (hown.alloc _) ⟨W.heap.size, 0, none⟩ 1 1 [.int .i64 k, .string ⟨t.toArray⟩, .int .u64 v, .int .i64 ln, .int .i64 cl] rfl rfl (cell_five_new _ _ _ _ _ _ _) (by simp [Value.oneCell']) p1 p2 p4 ?_; intro v' w1 hown' hgrow _; obtain ⟨g', cap', rfl⟩ := ownsRow_succ hown'; obtain ⟨hv1, hv2, hr2, hk2, hbb⟩ := hbox.appended (by decide) hown p3 p5 hown' hgrow; have hc1 := hv1.cell; have hf1 := hv1.frozen)
      have hbA : Boxed (W.alloc (.cells #[.int .i64 k, .string ⟨t.toArray⟩, .int .u64 v, .int .i64 ln, .int .i64 cl] 40)) w.heap.size 35 (.slice none 0 0) := h2.alloc _
      have hbB : Boxed (W.alloc (.cells #[.int .i64 k, .string ⟨t.toArray⟩, .int .u64 v, .int .i64 ln, .int .i64 cl] 40)) (w.heap.size + 1) 26 .nilIface := h3.alloc _
      refine ⟨hk2.from _, ?_, hilt, ⟨_, hv2, by rw [hsn, hcl]; exact hr2, fun g hg => own_lt hr2 hg⟩, ?_, ?_, hbel.trans hbb⟩
      · refine ((Kept.of_grown (World.grownBy_alloc W _ none) (fun r e => by cases e)).trans (Kept.of_grown hgrow (fun r e => ⟨own_base hown e, hlt r e⟩))).trans (Kept.of_grown (grownBy_setCell' w1 _ _) (fun r e => by cases e; exact ⟨p5, p6⟩))
      · exact (hbA.kept hgrow (h2.not_row (by decide) hown)).other (by omega) _
      · exact (hbB.kept hgrow (h3.not_row (by decide) hown)).other (by omega) _
    · obtain ⟨_, rfl⟩ := zero_inj hvs
      have hc2 := h2.cell
      have hf2 := h2.frozen
      have hc3 := h3.cell
      have hf3 := h3.frozen
      have hne1 : w.heap.size ≠ w.heap.size + 1 := by omega
      have hbb0 : W.heap[bb]? ≠ none := by rw [hpos]; simp
      clear hcnt hbx hvs hrow hown hbox
      have n1 : bb ≠ w.heap.size := fun e => by rw [e, show W.heap[w.heap.size]? = _ from h2] at hpos; cases hpos
      have n2 : bb ≠ w.heap.size + 1 := fun e => by rw [e, show W.heap[w.heap.size + 1]? = _ from h3] at hpos; cases hpos
      gi_wp2
      refine ⟨((KeepsOthers.setCell _ _ _).trans (KeepsOthers.setCell _ _ _)).from _, rfl, e, bb, hR2, (h2.set _).other hne1 _, (h3.other (by omega) _).set _, heap_setCell _ (heap_setCell _ hpos n1) n2, ?_⟩
      exact (hbel.setCell (p := ⟨w.heap.size, 0, none⟩) (Nat.le_refl _) _).setCell (p := ⟨w.heap.size + 1, 0, none⟩) (by simp) _
  case done =>
    rintro D b W hD ⟨h1, ⟨v, hbox, hown, _⟩, h2, h3, hbel⟩ hK
    have hR2 : (scanT src).2 = none ∧ tot (scanT src) = (scanT src).1.length := tot_none h1
    rw [hR2.2] at hown
    rw [List.take_length] at hown
    obtain ⟨vp, vm, vc, rfl⟩ := own_slice hown
    have hc := hbox.cell
    have hc2 := h2.cell
    have hf2 := h2.frozen
    have hc3 := (h3.other (B' := w.heap.size) (by omega) (.slice vp vm vc)).cell
    have hf3 := (h3.other (B' := w.heap.size) (by omega) (.slice vp vm vc)).frozen
    gi_wp2
    have k1 := (KeepsOthers.setCell W ⟨w.heap.size, 0, none⟩ (.slice vp vm vc)).same D _ hK rfl
    have k2 := (KeepsOthers.setCell (W.setCell ⟨w.heap.size, 0, none⟩ (.slice vp vm vc)) ⟨w.heap.size + 1, 0, none⟩ .nilIface).same D _ k1 rfl
    have o1 := hown.kept (grownBy_setCell' W w.heap.size (.slice vp vm vc)) (.inr (fun e => h2.not_row (by decide) hown e.symm))
    have o2 := o1.kept (grownBy_setCell' _ (w.heap.size + 1) .nilIface) (.inr (fun e => (h3.other (B' := w.heap.size) (by omega) (.slice vp vm vc)).not_row (by decide) o1 e.symm))
    have c2 := ((h2.set (.slice vp vm vc)).other (B' := w.heap.size + 1) (by omega) .nilIface).kept (grownBy_putObj' _ D (.deferred none)) (fun e => by cases e; omega)
    have c3 := ((h3.other (B' := w.heap.size) (by omega) (.slice vp vm vc)).set .nilIface).kept (grownBy_putObj' _ D (.deferred none)) (fun e => by cases e; omega)
    have d2 := c2.cell
    have d3 := c3.cell
    have hbl := (hbel.setCell (p := ⟨w.heap.size, 0, none⟩) (Nat.le_refl _) (.slice vp vm vc)).setCell (p := ⟨w.heap.size + 1, 0, none⟩) (by simp) .nilIface
    refine ⟨by simp, .inl ⟨_, _, rfl, run_takeDeferred k2, ?_⟩⟩
    refine ⟨_, by simp [results, Tryz.results9, go_sem, d2, d3], hbl.trans (belowK_b (w := w) (Nat.le_refl _) _ D _ _ (by omega) k2 rfl rfl), .inl ⟨hR2.1, _, rfl, ownsRow_putObj o2 _ k2 rfl⟩⟩
  case stop =>
    rintro D c i W hD hit ⟨rfl, e, bb, hR2, h2, h3, h5, hbel⟩ hK
    have hc2 := h2.cell
    have hc3 := h3.cell
    gi_wp2
    have c2 := h2.kept (grownBy_putObj' _ D (.deferred none)) (fun e => by cases e; omega)
    have c3 := h3.kept (grownBy_putObj' _ D (.deferred none)) (fun e => by cases e; omega)
    have d2 := c2.cell
    have d3 := c3.cell
    have n1 : bb ≠ D := fun e => by rw [e, hK] at h5; cases h5
    refine ⟨by simp, .inl ⟨_, _, rfl, run_takeDeferred hK, ?_⟩⟩
    refine ⟨_, by simp [results, Tryz.results9, go_sem, d2, d3], hbel.trans (belowK_b (w := w) (Nat.le_refl _) _ D _ _ (by omega) hK rfl rfl), .inr ⟨e, bb, hR2, rfl, (World.putObj_heap_other n1).trans h5⟩⟩
end Go.Proofs.YtmekcccmnkgodaaGreatDoor
namespace Go.Proofs.YtmekcccmnkgodaaGreatDoor
open Go.ChangeShapes Go.WideShapes Go.ChangeAt Go.RowKit
set_option linter.unusedVariables false

/-- a token's cells in a row -/
theorem row_tok {W : World} {base : Nat} {e : TypeId} {g cap n : Nat} {l : List Tk} (h : W.ownsRow base e 5 (.slice (some ⟨g, 0, none⟩) n cap) l.length (tksCells l)) (i : Nat) (hi : i < l.length) :
    W.cell? ⟨g, i * 5, none⟩ = some (.int .i64 l[i].kind) ∧ W.cell? ⟨g, i * 5 + 1, none⟩ = some (.string ⟨l[i].text.toArray⟩) ∧ W.cell? ⟨g, i * 5 + 2, none⟩ = some (.int .u64 l[i].num) ∧ W.cell? ⟨g, i * 5 + 3, none⟩ = some (.int .i64 l[i].line) ∧ W.cell? ⟨g, i * 5 + 4, none⟩ = some (.int .i64 l[i].col) := by
  have hc : ∀ (l : List Tk) (i : Nat) (hi : i < l.length) (j : Nat), j < 5 → (tksCells l)[i * 5 + j]? = (tkCells l[i])[j]? := by
    intro l
    induction l with
    | nil => intro i hi; simp at hi
    | cons t r ih =>
      intro i hi j hj
      have hl : (tkCells t).length = 5 := rfl
      cases i with
      | zero =>
        show (tkCells t ++ tksCells r)[0 * 5 + j]? = _
        rw [List.getElem?_append_left (by rw [hl]; omega)]
        simp
      | succ i =>
        show (tkCells t ++ tksCells r)[(i + 1) * 5 + j]? = _
        rw [List.getElem?_append_right (by rw [hl]; omega), hl, show (i + 1) * 5 + j - 5 = i * 5 + j by omega]
        exact ih i (by simpa using hi) j hj
  rcases h.2 with ⟨h1, _⟩ | ⟨g', cap', cur, h1, _, hh, hcp, _, hs, ht⟩
  · cases h1
  · injection h1 with h1 h2 h3
    injection h1 with h1
    injection h1 with h1 _ _
    subst h1
    have cell : ∀ j, j < 5 → W.cell? ⟨g, i * 5 + j, none⟩ = (tkCells l[i])[j]? := by
      intro j hj
      rw [← hc l i hi j hj, ← ht, List.getElem?_take_of_lt (by omega)]
      unfold World.cell?
      rw [hh]
      simp
    exact ⟨cell 0 (by decide), cell 1 (by decide), cell 2 (by decide), cell 3 (by decide), cell 4 (by decide)⟩

theorem own_len' {W : World} {base : Nat} {e : TypeId} {size : Nat} {p : Option Addr} {m c : Nat} {k : Nat} {xs : List Value} (h : W.ownsRow base e size (.slice p m c) k xs) : m = k := by
  rcases h.2 with ⟨h1, h2⟩ | ⟨g, cap, cur, h1, _⟩
  · injection h1 with _ h1 _; omega
  · injection h1
theorem own_some {W : World} {base : Nat} {e : TypeId} {size : Nat} {p : Option Addr} {m c : Nat} {k : Nat} {xs : List Value} (h : W.ownsRow base e size (.slice p m c) k xs) (hk : 0 < k) : ∃ g, p = some ⟨g, 0, none⟩ := by
  rcases h.2 with ⟨h1, h2⟩ | ⟨g, cap, cur, h1, _⟩
  · omega
  · injection h1 with h1; exact ⟨g, h1⟩
theorem own_more' {W W' : World} {base : Nat} {e : TypeId} {size : Nat} {v : Value} {k : Nat} {xs : List Value} (h : W.ownsRow base e size v k xs) (hb : Below W.heap.size W W') : W'.ownsRow base e size v k xs := by
  rcases h.2 with ⟨rfl, _⟩ | ⟨g, cap, cur, rfl, _⟩
  · exact h.kept (grown_of_below hb) (.inl rfl)
  · exact h.kept (grown_of_below hb) (.inr (by simp [Value.ownBlock]))

end Go.Proofs.YtmekcccmnkgodaaGreatDoor
