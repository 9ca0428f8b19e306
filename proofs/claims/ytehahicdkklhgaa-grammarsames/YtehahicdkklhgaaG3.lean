import Derived.Test.YtehahicdkklhgaaG2
namespace Go.Proofs.Ytehahicdkklhgaa
open Go.ChangeShapes Go.WideShapes Go.ChangeAt Go.RowKit
set_option linter.unusedVariables false

/-- n nodes lie at p -/
def NAt (W : World) (p : Option Addr) (n : Nat) (N : Nat → NdF) : Prop :=
  n = 0 ∨ ∃ b o, p = some ⟨b, o, none⟩ ∧ b < W.heap.size ∧ ∀ i, i < n → (W.cell? ⟨b, o + i * 7, none⟩ = some (.int .i64 (N i).kind) ∧ W.cell? ⟨b, o + i * 7 + 1, none⟩ = some (.string (N i).name) ∧ W.cell? ⟨b, o + i * 7 + 2, none⟩ = some (.int .u64 (N i).num) ∧
    W.cell? ⟨b, o + i * 7 + 3, none⟩ = some (.int .i64 (N i).op) ∧ W.cell? ⟨b, o + i * 7 + 4, none⟩ = some (.slice (N i).kp (N i).kn (N i).kc) ∧ W.cell? ⟨b, o + i * 7 + 5, none⟩ = some (.int .i64 (N i).line) ∧ W.cell? ⟨b, o + i * 7 + 6, none⟩ = some (.int .i64 (N i).col)) ∧ KidsOk W (N i)
theorem NAt.below {W W' : World} {p : Option Addr} {n : Nat} {N : Nat → NdF} (h : NAt W p n N) (hb : Below W.heap.size W W') : NAt W' p n N := by
  rcases h with h | ⟨b, o, rfl, hl, hc⟩
  · exact .inl h
  · refine .inr ⟨b, o, rfl, Nat.lt_of_lt_of_le hl hb.size, fun i hi => ?_⟩
    obtain ⟨⟨h0, h1, h2, h3, h4, h5, h6⟩, hk⟩ := hc i hi
    have c : ∀ k, W'.cell? ⟨b, k, none⟩ = W.cell? ⟨b, k, none⟩ := fun k => cell_below (a := ⟨b, k, none⟩) hb hl
    exact ⟨⟨(c _).trans h0, (c _).trans h1, (c _).trans h2, (c _).trans h3, (c _).trans h4, (c _).trans h5, (c _).trans h6⟩, hk.below hb⟩
def allF (n : Nat) (f : Nat → Bool) : Bool := (List.range n).all f
theorem allF_yes {n : Nat} {f : Nat → Bool} (h : ∀ j, j < n → f j = true) : allF n f = true := by
  unfold allF
  rw [List.all_eq_true]
  intro j hj
  exact h j (List.mem_range.1 hj)
theorem allF_no {n : Nat} {f : Nat → Bool} {j : Nat} (hj : j < n) (h : f j = false) : allF n f = false := by
  unfold allF
  rw [List.all_eq_false]
  exact ⟨j, List.mem_range.2 hj, by rw [h]; decide⟩

set_option maxRecDepth 100000 in
set_option maxHeartbeats 2000000 in
theorem equalFunc_any (p q : Option Addr) (n m c d : Nat) (N M : Nat → NdF) (hn : n ≤ 17592186044416) (w : World) (hp : NAt w p n N) (hq : NAt w q m M) :
    Calls Try.prog 8 #[.slice p n c, .slice q m d, .func (.func 9) #[] #[]] w fun e w' => e = .returned (.bool (decide (n = m) && allF n (fun i => sameN (N i) (M i)))) ∧ Below w.heap.size w w' := by
  by_cases hnm : n = m
  · subst hnm
    rw [decide_eq_true rfl, Bool.true_and]
    have fy : Hid ((∀ j, j < n → sameN (N j) (M j) = true) → allF n (fun i => sameN (N i) (M i)) = true) := allF_yes
    have fn : ∀ j, Hid (j < n → sameN (N j) (M j) = false → allF n (fun i => sameN (N i) (M i)) = false) := fun j h1 h2 => allF_no h1 h2
    generalize allF n (fun i => sameN (N i) (M i)) = res at fy fn ⊢
    go_enter Try.func8, Try.ntmps8
    go_wp2
    go_loopw [17] (fun v wr => ∃ i : Nat, v = .int .i64 i ∧ i ≤ n ∧ Hid (∀ j, j < i → sameN (N j) (M j) = true) ∧ Below w.heap.size w wr) (fun v _ => n - (intOf v).toNat)
    case atStart => exact ⟨0, rfl, Nat.zero_le _, (fun j hj => by omega : ∀ j, j < 0 → sameN (N j) (M j) = true), Below.refl _ _⟩
    case round =>
      obtain ⟨i, rfl, hi, hsm, hbel⟩ := hrel
      by_cases hlt : i < n
      · obtain h0 | ⟨b, o, rfl, hl, hc⟩ := hp.below hbel
        · omega
        obtain h0 | ⟨b', o', rfl, hl', hc'⟩ := hq.below hbel
        · omega
        obtain ⟨⟨x0, x1, x2, x3, x4, x5, x6⟩, kx⟩ := hc i hlt
        obtain ⟨⟨y0, y1, y2, y3, y4, y5, y6⟩, ky⟩ := hc' i hlt
        have dl : decide ((i : Int) < n) = true := decide_eq_true (by omega)
        have hm := meas hlt
        have hni := fn i
        have hb0 : ∀ o1 o2 : Obj, Below wr.heap.size wr ((wr.alloc o1).alloc o2) := fun o1 o2 => ((Below.refl _ wr).alloc (Nat.le_refl _) _).alloc (by simp) _
        have YY : ∀ (z : Obj), (wr.alloc z).cell? ⟨b', o' + i * 7, none⟩ = some (.int .i64 (M i).kind) ∧ (wr.alloc z).cell? ⟨b', o' + i * 7 + 1, none⟩ = some (.string (M i).name) ∧ (wr.alloc z).cell? ⟨b', o' + i * 7 + 2, none⟩ = some (.int .u64 (M i).num) ∧ (wr.alloc z).cell? ⟨b', o' + i * 7 + 3, none⟩ = some (.int .i64 (M i).op) ∧ (wr.alloc z).cell? ⟨b', o' + i * 7 + 4, none⟩ = some (.slice (M i).kp (M i).kn (M i).kc) ∧ (wr.alloc z).cell? ⟨b', o' + i * 7 + 5, none⟩ = some (.int .i64 (M i).line) ∧ (wr.alloc z).cell? ⟨b', o' + i * 7 + 6, none⟩ = some (.int .i64 (M i).col) := fun z => by
          have c : ∀ k, (wr.alloc z).cell? ⟨b', k, none⟩ = wr.cell? ⟨b', k, none⟩ := fun k => cell_below (a := ⟨b', k, none⟩) ((Below.refl _ wr).alloc (Nat.le_refl _) _) hl'
          exact ⟨(c _).trans y0, (c _).trans y1, (c _).trans y2, (c _).trans y3, (c _).trans y4, (c _).trans y5, (c _).trans y6⟩
        have Y0 := fun z => (YY z).1
        have Y1 := fun z => (YY z).2.1
        have Y2 := fun z => (YY z).2.2.1
        have Y3 := fun z => (YY z).2.2.2.1
        have Y4 := fun z => (YY z).2.2.2.2.1
        have Y5 := fun z => (YY z).2.2.2.2.2.1
        have Y6 := fun z => (YY z).2.2.2.2.2.2
        have HS : ∀ w', Below wr.heap.size wr w' → Hid (Calls Try.prog 9 #[ndV (N i), ndV (M i)] w' fun e w'' => e = .returned (.bool (sameN (N i) (M i))) ∧ Below w'.heap.size w' w'') := fun w' h => sameOne_any (N i) (M i) w' (kx.below h) (ky.below h)
        unfold ndV at HS
        have hsz : w.heap.size ≤ wr.heap.size := hbel.size
        clear hc hc' hl' fn YY y0 y1 y2 y3 y4 y5 y6 kx ky hp hq
        cases hs : sameN (N i) (M i) with
        | true =>
          have hsm' : Hid (∀ j, j < i + 1 → sameN (N j) (M j) = true) := by
            show ∀ j, j < i + 1 → sameN (N j) (M j) = true
            intro j hj
            by_cases h : j < i
            · exact hsm.out j h
            · obtain rfl : j = i := by omega
              exact hs
          rw [hs] at HS
          clear hs hsm hni
          generalize N i = X at *
          generalize M i = Y at *
          go_wp2_with (go_at_call 9; (with_reducible refine ((HS _ (hb0 _ _)).out).mono ?_); rintro e w1 ⟨rfl, b1⟩)
          exact ⟨⟨i + 1, rfl, hlt, hsm', (hbel.trans ((hb0 _ _).mono hsz)).trans (b1.mono (Nat.le_trans hsz (hb0 _ _).size))⟩, hm⟩
        | false =>
          have hres : res = false := hni.out hlt hs
          subst hres
          rw [hs] at HS
          clear hs hsm hni fy
          generalize N i = X at *
          generalize M i = Y at *
          go_wp2_with (go_at_call 9; (with_reducible refine ((HS _ (hb0 _ _)).out).mono ?_); rintro e w1 ⟨rfl, b1⟩)
          go_ret
          exact ⟨rfl, (hbel.trans ((hb0 _ _).mono hsz)).trans (b1.mono (Nat.le_trans hsz (hb0 _ _).size))⟩
      · have dl : decide ((i : Int) < n) = false := decide_eq_false (by omega)
        obtain rfl : i = n := by omega
        have hres : res = true := fy.out hsm.out
        subst hres
        clear fy fn hp hq
        go_wp2
        go_ret
        exact ⟨rfl, hbel⟩
  · have d0 : ((n : Int) == m) = false := by simp; omega
    rw [decide_eq_false hnm, Bool.false_and]
    clear hp hq
    go_enter Try.func8, Try.ntmps8
    go_wp2
    go_ret
    exact ⟨rfl, Below.refl _ _⟩

set_option maxRecDepth 100000 in
theorem gsame_any (p q : Option Addr) (n m c d : Nat) (N M : Nat → NdF) (hn : n ≤ 17592186044416) (w : World) (hp : NAt w p n N) (hq : NAt w q m M) :
    Calls Try.prog 5 #[.agg #[.slice p n c], .agg #[.slice q m d]] w fun e w' => e = .returned (.bool (decide (n = m) && allF n (fun i => sameN (N i) (M i)))) ∧ Below w.heap.size w w' := by
  have hb0 : ∀ o1 o2 : Obj, Below w.heap.size w ((w.alloc o1).alloc o2) := fun o1 o2 => ((Below.refl _ w).alloc (Nat.le_refl _) _).alloc (by simp) _
  have HE : ∀ w', Below w.heap.size w w' → Hid (Calls Try.prog 8 #[.slice p n c, .slice q m d, .func (.func 9) #[] #[]] w' fun e w'' => e = .returned (.bool (decide (n = m) && allF n (fun i => sameN (N i) (M i)))) ∧ Below w'.heap.size w' w'') := fun w' h => equalFunc_any p q n m c d N M hn w' (hp.below h) (hq.below h)
  clear hp hq
  generalize (decide (n = m) && allF n (fun i => sameN (N i) (M i))) = res at HE ⊢
  go_enter Try.func5, Try.ntmps5
  go_wp2_with (go_at_call 8; (with_reducible refine ((HE _ (hb0 _ _)).out).mono ?_); rintro e w1 ⟨rfl, b1⟩)
  go_ret
  exact ⟨rfl, (hb0 _ _).trans (b1.mono (hb0 _ _).size)⟩
end Go.Proofs.Ytehahicdkklhgaa
