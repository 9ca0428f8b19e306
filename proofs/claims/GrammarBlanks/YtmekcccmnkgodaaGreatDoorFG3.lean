import Derived.Test.YtmekcccmnkgodaaGreatDoorFG1
namespace Go.Proofs.YtmekcccmnkgodaaGreatDoor
open Go.ChangeShapes Go.WideShapes Go.ChangeAt Go.RowKit
set_option linter.unusedVariables false

/-- a node, wherever its kids lie -/
structure NdF where
  kind : Int
  name : ByteArray
  num : Int
  op : Int
  kp : Option Addr
  kn : Nat
  kc : Nat
  K : Nat → Int
  line : Int
  col : Int
def ndV (x : NdF) : Value := .agg #[.int .i64 x.kind, .string x.name, .int .u64 x.num, .int .i64 x.op, .slice x.kp x.kn x.kc, .int .i64 x.line, .int .i64 x.col]
def sameN (x y : NdF) : Bool := (x.kind == y.kind) && (x.name.toList == y.name.toList) && (x.num == y.num) && (x.op == y.op) && (decide (x.kn = y.kn) && sameF x.kn x.K y.K)
def sameL (x y : NdF) : Bool := (x.kind == y.kind) && (x.name.toList == y.name.toList) && (x.num == y.num) && (x.op == y.op) && (x.line == y.line) && (x.col == y.col) && (decide (x.kn = y.kn) && sameF x.kn x.K y.K)
/-- its kids lie where it says -/
def KidsOk (W : World) (x : NdF) : Prop := KAt W x.kp x.kn x.K ∧ x.kn ≤ 17592186044416
theorem KidsOk.below {W W' : World} {x : NdF} (h : KidsOk W x) (hb : Below W.heap.size W W') : KidsOk W' x := ⟨h.1.below hb, h.2⟩

set_option maxRecDepth 100000 in
set_option maxHeartbeats 2000000 in
theorem sameOne_any (x y : NdF) (w : World) (hx : KidsOk w x) (hy : KidsOk w y) :
    Calls Tryz.prog 25 #[ndV x, ndV y] w fun e w' => e = .returned (.bool (sameN x y)) ∧ Below w.heap.size w w' := by
  have HE : ∀ w', Below w.heap.size w w' → Hid (Calls Tryz.prog 26 #[.slice x.kp x.kn x.kc, .slice y.kp y.kn y.kc] w' fun e w'' => e = .returned (.bool (decide (x.kn = y.kn) && sameF x.kn x.K y.K)) ∧ Below w'.heap.size w' w'') := fun w' h => equalInts_any x.kp y.kp x.kn y.kn x.kc y.kc x.K y.K hx.2 w' (hx.1.below h) (hy.1.below h)
  have hb0 : ∀ o1 o2 : Obj, Below w.heap.size w ((w.alloc o1).alloc o2) := fun o1 o2 => ((Below.refl _ w).alloc (Nat.le_refl _) _).alloc (by simp) _
  unfold sameN ndV
  clear hx hy
  generalize (decide (x.kn = y.kn) && sameF x.kn x.K y.K) = rk at HE ⊢
  cases e1 : (x.kind == y.kind) with
  | false =>
    simp only [Bool.false_and]
    go_enter Tryz.func25, Tryz.ntmps25
    go_wp2
    go_ret
    exact ⟨rfl, hb0 _ _⟩
  | true =>
    cases e2 : (x.name.toList == y.name.toList) with
    | false =>
      simp only [Bool.false_and, Bool.true_and]
      go_enter Tryz.func25, Tryz.ntmps25
      go_wp2
      go_ret
      exact ⟨rfl, hb0 _ _⟩
    | true =>
      cases e3 : (x.num == y.num) with
      | false =>
        simp only [Bool.false_and, Bool.true_and]
        go_enter Tryz.func25, Tryz.ntmps25
        go_wp2
        go_ret
        exact ⟨rfl, hb0 _ _⟩
      | true =>
        cases e4 : (x.op == y.op) with
        | false =>
          simp only [Bool.false_and, Bool.true_and]
          go_enter Tryz.func25, Tryz.ntmps25
          go_wp2
          go_ret
          exact ⟨rfl, hb0 _ _⟩
        | true =>
          simp only [Bool.true_and]
          go_enter Tryz.func25, Tryz.ntmps25
          go_wp2_with (go_at_call 26; (with_reducible refine ((HE _ (hb0 _ _)).out).mono ?_); rintro e w1 ⟨rfl, b1⟩)
          go_ret
          exact ⟨rfl, (hb0 _ _).trans (b1.mono (hb0 _ _).size)⟩
set_option maxRecDepth 100000 in
set_option maxHeartbeats 2000000 in
theorem sameNode_any (x y : NdF) (w : World) (hx : KidsOk w x) (hy : KidsOk w y) :
    Calls Tryz.prog 29 #[ndV x, ndV y] w fun e w' => e = .returned (.bool (sameL x y)) ∧ Below w.heap.size w w' := by
  have HE : ∀ w', Below w.heap.size w w' → Hid (Calls Tryz.prog 13 #[.slice x.kp x.kn x.kc, .slice y.kp y.kn y.kc] w' fun e w'' => e = .returned (.bool (decide (x.kn = y.kn) && sameF x.kn x.K y.K)) ∧ Below w'.heap.size w' w'') := fun w' h => sameInts_any x.kp y.kp x.kn y.kn x.kc y.kc x.K y.K hx.2 w' (hx.1.below h) (hy.1.below h)
  have hb0 : ∀ o1 o2 : Obj, Below w.heap.size w ((w.alloc o1).alloc o2) := fun o1 o2 => ((Below.refl _ w).alloc (Nat.le_refl _) _).alloc (by simp) _
  unfold sameL ndV
  clear hx hy
  generalize (decide (x.kn = y.kn) && sameF x.kn x.K y.K) = rk at HE ⊢
  cases e1 : (x.kind == y.kind) with
  | false =>
    have e1' : (x.kind != y.kind) = true := by simp only [bne, e1]; rfl
    simp only [Bool.false_and]
    go_enter Tryz.func29, Tryz.ntmps29
    go_wp2
    go_ret
    exact ⟨rfl, hb0 _ _⟩
  | true =>
    have e1' : (x.kind != y.kind) = false := by simp only [bne, e1]; rfl
    cases e2 : (x.name.toList == y.name.toList) with
    | false =>
      simp only [Bool.false_and, Bool.true_and]
      go_enter Tryz.func29, Tryz.ntmps29
      go_wp2
      go_ret
      exact ⟨rfl, hb0 _ _⟩
    | true =>
      cases e3 : (x.num == y.num) with
      | false =>
        have e3' : (x.num != y.num) = true := by simp only [bne, e3]; rfl
        simp only [Bool.false_and, Bool.true_and]
        go_enter Tryz.func29, Tryz.ntmps29
        go_wp2
        go_ret
        exact ⟨rfl, hb0 _ _⟩
      | true =>
        have e3' : (x.num != y.num) = false := by simp only [bne, e3]; rfl
        cases e4 : (x.op == y.op) with
        | false =>
          have e4' : (x.op != y.op) = true := by simp only [bne, e4]; rfl
          simp only [Bool.false_and, Bool.true_and]
          go_enter Tryz.func29, Tryz.ntmps29
          go_wp2
          go_ret
          exact ⟨rfl, hb0 _ _⟩
        | true =>
          have e4' : (x.op != y.op) = false := by simp only [bne, e4]; rfl
          cases e5 : (x.line == y.line) with
          | false =>
            have e5' : (x.line != y.line) = true := by simp only [bne, e5]; rfl
            simp only [Bool.false_and, Bool.true_and]
            go_enter Tryz.func29, Tryz.ntmps29
            go_wp2
            go_ret
            exact ⟨rfl, hb0 _ _⟩
          | true =>
            have e5' : (x.line != y.line) = false := by simp only [bne, e5]; rfl
            cases e6 : (x.col == y.col) with
            | false =>
              have e6' : (x.col != y.col) = true := by simp only [bne, e6]; rfl
              simp only [Bool.false_and, Bool.true_and]
              go_enter Tryz.func29, Tryz.ntmps29
              go_wp2
              go_ret
              exact ⟨rfl, hb0 _ _⟩
            | true =>
              have e6' : (x.col != y.col) = false := by simp only [bne, e6]; rfl
              simp only [Bool.true_and]
              go_enter Tryz.func29, Tryz.ntmps29
              go_wp2_with (go_at_call 13; (with_reducible refine ((HE _ (hb0 _ _)).out).mono ?_); rintro e w1 ⟨rfl, b1⟩)
              go_ret
              exact ⟨rfl, (hb0 _ _).trans (b1.mono (hb0 _ _).size)⟩

end Go.Proofs.YtmekcccmnkgodaaGreatDoor
namespace Go.Proofs.YtmekcccmnkgodaaGreatDoor
open Go.ChangeShapes Go.WideShapes Go.ChangeAt Go.RowKit
set_option linter.unusedVariables false

/-- n nodes lie at p -/
def NAt (W : World) (p : Option Addr) (n : Nat) (N : Nat → NdF) : Prop :=
  n = 0 ∨ ∃ b o, p = some ⟨b, o, none⟩ ∧ b < W.heap.size ∧ ∀ i, i < n → (W.cell? ⟨b, o + i * 7, none⟩ = some (.int .i64 (N i).kind) ∧ W.cell? ⟨b, o + i * 7 + 1, none⟩ = some (.string (N i).name) ∧ W.cell? ⟨b, o + i * 7 + 2, none⟩ = some (.int .u64 (N i).num) ∧
    W.cell? ⟨b, o + i * 7 + 3, none⟩ = some (.int .i64 (N i).op) ∧ W.cell? ⟨b, o + i * 7 + 4, none⟩ = some (.slice (N i).kp (N i).kn (N i).kc) ∧ W.cell? ⟨b, o + i * 7 + 5, none⟩ = some (.int .i64 (N i).line) ∧ W.cell? ⟨b, o + i * 7 + 6, none⟩ = some (.int .i64 (N i).col)) ∧ KidsOk W (N i)
theorem NAt.below {W W' : World} {p : Option Addr} {n : Nat} {N : Nat → NdF} (h : NAt W p n N) (hb : Below W.heap.size W W') : NAt W' p n N := by
  rcases h with h | ⟨b, o, rfl, hl, hc⟩
  · exact .inl h
  · refine .inr ⟨b, o, rfl, Nat.lt_of_lt_of_le hl hb.size, fun i hi => ?_⟩
    obtain ⟨⟨h0, h1, h2, h3, h4, h5, h6⟩, hk⟩ := hc i hi
    have c : ∀ k, W'.cell? ⟨b, k, none⟩ = W.cell? ⟨b, k, none⟩ := fun k => cell_below (a := ⟨b, k, none⟩) hb hl
    exact ⟨⟨(c _).trans h0, (c _).trans h1, (c _).trans h2, (c _).trans h3, (c _).trans h4, (c _).trans h5, (c _).trans h6⟩, hk.below hb⟩
def allF (n : Nat) (f : Nat → Bool) : Bool := (List.range n).all f
theorem allF_yes {n : Nat} {f : Nat → Bool} (h : ∀ j, j < n → f j = true) : allF n f = true := by
  unfold allF
  rw [List.all_eq_true]
  intro j hj
  exact h j (List.mem_range.1 hj)
theorem allF_no {n : Nat} {f : Nat → Bool} {j : Nat} (hj : j < n) (h : f j = false) : allF n f = false := by
  unfold allF
  rw [List.all_eq_false]
  exact ⟨j, List.mem_range.2 hj, by rw [h]; decide⟩

set_option maxRecDepth 100000 in
set_option maxHeartbeats 2000000 in
theorem equalFunc_any (p q : Option Addr) (n m c d : Nat) (N M : Nat → NdF) (hn : n ≤ 17592186044416) (w : World) (hp : NAt w p n N) (hq : NAt w q m M) :
    Calls Tryz.prog 24 #[.slice p n c, .slice q m d, .func (.func 25) #[] #[]] w fun e w' => e = .returned (.bool (decide (n = m) && allF n (fun i => sameN (N i) (M i)))) ∧ Below w.heap.size w w' := by
  by_cases hnm : n = m
  · subst hnm
    rw [decide_eq_true rfl, Bool.true_and]
    have fy : Hid ((∀ j, j < n → sameN (N j) (M j) = true) → allF n (fun i => sameN (N i) (M i)) = true) := allF_yes
    have fn : ∀ j, Hid (j < n → sameN (N j) (M j) = false → allF n (fun i => sameN (N i) (M i)) = false) := fun j h1 h2 => allF_no h1 h2
    generalize allF n (fun i => sameN (N i) (M i)) = res at fy fn ⊢
    go_enter Tryz.func24, Tryz.ntmps24
    go_wp2
    go_loopw [17] (fun v wr => ∃ i : Nat, v = .int .i64 i ∧ i ≤ n ∧ Hid (∀ j, j < i → sameN (N j) (M j) = true) ∧ Below w.heap.size w wr) (fun v _ => n - (intOf v).toNat)
    case atStart => exact ⟨0, rfl, Nat.zero_le _, (fun j hj => by omega : ∀ j, j < 0 → sameN (N j) (M j) = true), Below.refl _ _⟩
    case round =>
      obtain ⟨i, rfl, hi, hsm, hbel⟩ := hrel
      by_cases hlt : i < n
      · obtain h0 | ⟨b, o, rfl, hl, hc⟩ := hp.below hbel
        · omega
        obtain h0 | ⟨b', o', rfl, hl', hc'⟩ := hq.below hbel
        · omega
        obtain ⟨⟨x0, x1, x2, x3, x4, x5, x6⟩, kx⟩ := hc i hlt
        obtain ⟨⟨y0, y1, y2, y3, y4, y5, y6⟩, ky⟩ := hc' i hlt
        have dl : decide ((i : Int) < n) = true := decide_eq_true (by omega)
        have hm := meas0 hlt
        have hni := fn i
        have hb0 : ∀ o1 o2 : Obj, Below wr.heap.size wr ((wr.alloc o1).alloc o2) := fun o1 o2 => ((Below.refl _ wr).alloc (Nat.le_refl _) _).alloc (by simp) _
        have YY : ∀ (z : Obj), (wr.alloc z).cell? ⟨b', o' + i * 7, none⟩ = some (.int .i64 (M i).kind) ∧ (wr.alloc z).cell? ⟨b', o' + i * 7 + 1, none⟩ = some (.string (M i).name) ∧ (wr.alloc z).cell? ⟨b', o' + i * 7 + 2, none⟩ = some (.int .u64 (M i).num) ∧ (wr.alloc z).cell? ⟨b', o' + i * 7 + 3, none⟩ = some (.int .i64 (M i).op) ∧ (wr.alloc z).cell? ⟨b', o' + i * 7 + 4, none⟩ = some (.slice (M i).kp (M i).kn (M i).kc) ∧ (wr.alloc z).cell? ⟨b', o' + i * 7 + 5, none⟩ = some (.int .i64 (M i).line) ∧ (wr.alloc z).cell? ⟨b', o' + i * 7 + 6, none⟩ = some (.int .i64 (M i).col) := fun z => by
          have c : ∀ k, (wr.alloc z).cell? ⟨b', k, none⟩ = wr.cell? ⟨b', k, none⟩ := fun k => cell_below (a := ⟨b', k, none⟩) ((Below.refl _ wr).alloc (Nat.le_refl _) _) hl'
          exact ⟨(c _).trans y0, (c _).trans y1, (c _).trans y2, (c _).trans y3, (c _).trans y4, (c _).trans y5, (c _).trans y6⟩
        have Y0 := fun z => (YY z).1
        have Y1 := fun z => (YY z).2.1
        have Y2 := fun z => (YY z).2.2.1
        have Y3 := fun z => (YY z).2.2.2.1
        have Y4 := fun z => (YY z).2.2.2.2.1
        have Y5 := fun z => (YY z).2.2.2.2.2.1
        have Y6 := fun z => (YY z).2.2.2.2.2.2
        have HS : ∀ w', Below wr.heap.size wr w' → Hid (Calls Tryz.prog 25 #[ndV (N i), ndV (M i)] w' fun e w'' => e = .returned (.bool (sameN (N i) (M i))) ∧ Below w'.heap.size w' w'') := fun w' h => sameOne_any (N i) (M i) w' (kx.below h) (ky.below h)
        unfold ndV at HS
        have hsz : w.heap.size ≤ wr.heap.size := hbel.size
        clear hc hc' hl' fn YY y0 y1 y2 y3 y4 y5 y6 kx ky hp hq
        cases hs : sameN (N i) (M i) with
        | true =>
          have hsm' : Hid (∀ j, j < i + 1 → sameN (N j) (M j) = true) := by
            show ∀ j, j < i + 1 → sameN (N j) (M j) = true
            intro j hj
            by_cases h : j < i
            · exact hsm.out j h
            · obtain rfl : j = i := by omega
              exact hs
          rw [hs] at HS
          clear hs hsm hni
          generalize N i = X at *
          generalize M i = Y at *
          go_wp2_with (go_at_call 25; (with_reducible refine ((HS _ (hb0 _ _)).out).mono ?_); rintro e w1 ⟨rfl, b1⟩)
          exact ⟨⟨i + 1, rfl, hlt, hsm', (hbel.trans ((hb0 _ _).mono hsz)).trans (b1.mono (Nat.le_trans hsz (hb0 _ _).size))⟩, hm⟩
        | false =>
          have hres : res = false := hni.out hlt hs
          subst hres
          rw [hs] at HS
          clear hs hsm hni fy
          generalize N i = X at *
          generalize M i = Y at *
          go_wp2_with (go_at_call 25; (with_reducible refine ((HS _ (hb0 _ _)).out).mono ?_); rintro e w1 ⟨rfl, b1⟩)
          go_ret
          exact ⟨rfl, (hbel.trans ((hb0 _ _).mono hsz)).trans (b1.mono (Nat.le_trans hsz (hb0 _ _).size))⟩
      · have dl : decide ((i : Int) < n) = false := decide_eq_false (by omega)
        obtain rfl : i = n := by omega
        have hres : res = true := fy.out hsm.out
        subst hres
        clear fy fn hp hq
        go_wp2
        go_ret
        exact ⟨rfl, hbel⟩
  · have d0 : ((n : Int) == m) = false := by simp; omega
    rw [decide_eq_false hnm, Bool.false_and]
    clear hp hq
    go_enter Tryz.func24, Tryz.ntmps24
    go_wp2
    go_ret
    exact ⟨rfl, Below.refl _ _⟩

set_option maxRecDepth 100000 in
theorem gsame_any (p q : Option Addr) (n m c d : Nat) (N M : Nat → NdF) (hn : n ≤ 17592186044416) (w : World) (hp : NAt w p n N) (hq : NAt w q m M) :
    Calls Tryz.prog 11 #[.agg #[.slice p n c], .agg #[.slice q m d]] w fun e w' => e = .returned (.bool (decide (n = m) && allF n (fun i => sameN (N i) (M i)))) ∧ Below w.heap.size w w' := by
  have hb0 : ∀ o1 o2 : Obj, Below w.heap.size w ((w.alloc o1).alloc o2) := fun o1 o2 => ((Below.refl _ w).alloc (Nat.le_refl _) _).alloc (by simp) _
  have HE : ∀ w', Below w.heap.size w w' → Hid (Calls Tryz.prog 24 #[.slice p n c, .slice q m d, .func (.func 25) #[] #[]] w' fun e w'' => e = .returned (.bool (decide (n = m) && allF n (fun i => sameN (N i) (M i)))) ∧ Below w'.heap.size w' w'') := fun w' h => equalFunc_any p q n m c d N M hn w' (hp.below h) (hq.below h)
  clear hp hq
  generalize (decide (n = m) && allF n (fun i => sameN (N i) (M i))) = res at HE ⊢
  go_enter Tryz.func11, Tryz.ntmps11
  go_wp2_with (go_at_call 24; (with_reducible refine ((HE _ (hb0 _ _)).out).mono ?_); rintro e w1 ⟨rfl, b1⟩)
  go_ret
  exact ⟨rfl, (hb0 _ _).trans (b1.mono (hb0 _ _).size)⟩
end Go.Proofs.YtmekcccmnkgodaaGreatDoor
