import Derived.Test.YtehahicdkklhgaaG6
import Derived.Test.YtehahicdkklhgaaG7
namespace Go.Proofs.Ytehahicdkklhgaa
open Go.ChangeShapes Go.WideShapes Go.ChangeAt Go.RowKit
set_option linter.unusedVariables false

theorem beq_comm' {α : Type} [BEq α] [LawfulBEq α] (a b : α) : (a == b) = (b == a) := by
  rw [Bool.eq_iff_iff]
  simp only [beq_iff_eq]
  exact ⟨Eq.symm, Eq.symm⟩
theorem sameF_comm (n : Nat) (K L : Nat → Int) : sameF n K L = sameF n L K := by
  unfold sameF
  congr 1
  funext j
  exact beq_comm' _ _
theorem sameN_comm (x y : NdF) : sameN x y = sameN y x := by
  unfold sameN
  rw [beq_comm' x.kind, beq_comm' x.name.toList, beq_comm' x.num, beq_comm' x.op]
  congr 1
  by_cases h : x.kn = y.kn
  · rw [h, sameF_comm]
  · rw [decide_eq_false h, decide_eq_false (fun e => h e.symm), Bool.false_and, Bool.false_and]
theorem sameN_refl (x : NdF) : sameN x x = true := by
  unfold sameN
  simp
  exact sameF_yes (fun _ _ => rfl)
theorem tree_comm (n m : Nat) (N M : Nat → NdF) : (decide (m = n) && allF m (fun i => sameN (M i) (N i))) = (decide (n = m) && allF n (fun i => sameN (N i) (M i))) := by
  by_cases h : n = m
  · subst h
    congr 1
    exact allF_congr (fun k _ => sameN_comm _ _)
  · rw [decide_eq_false h, decide_eq_false (fun e => h e.symm), Bool.false_and, Bool.false_and]
theorem tree_refl (n : Nat) (N : Nat → NdF) : (decide (n = n) && allF n (fun i => sameN (N i) (N i))) = true := by
  rw [decide_eq_true rfl, Bool.true_and]
  exact allF_yes (fun k _ => sameN_refl _)

set_option maxRecDepth 100000 in
set_option maxHeartbeats 2000000 in
theorem law_sames (p : Option Addr) (n c : Nat) (N : Nat → NdF) (q : Option Addr) (m d : Nat) (M : Nat → NdF) (w : World) (hn : n * 80 ≤ 140737488351232) (hm : m * 80 ≤ 140737488351232) (hp : NAt w p n N) (hq : NAt w q m M) :
    Calls Try.prog 3 #[.agg #[.slice p n c], .agg #[.slice q m d]] w fun e w' => e = .returned (.bool true) ∧ Below w.heap.size w w' := by
  have hb0 : Below w.heap.size w ((w.alloc (.cells #[.slice p n c] 24)).alloc (.cells #[.slice q m d] 24)) := ((Below.refl _ w).alloc (Nat.le_refl _) _).alloc (by simp) _
  have k1 := (Boxed.new w 24 (.slice p n c)).alloc (.cells #[.slice q m d] 24)
  have k2 := Boxed.new (w.alloc (.cells #[.slice p n c] 24)) 24 (.slice q m d)
  simp only [World.size_alloc] at k2
  obtain ⟨w0, hw0⟩ : ∃ w0, (w.alloc (.cells #[.slice p n c] 24)).alloc (.cells #[.slice q m d] 24) = w0 := ⟨_, rfl⟩
  rw [hw0] at hb0 k1 k2
  have hp' := hp.below hb0
  have hq' := hq.below hb0
  have cells : ∀ w', Below w0.heap.size w0 w' → w'.cell? ⟨w.heap.size, 0, none⟩ = some (.slice p n c) ∧ w'.cell? ⟨w.heap.size + 1, 0, none⟩ = some (.slice q m d) := fun w' h => ⟨(show Boxed w' _ _ _ from (h.block _ k1.lt).trans k1).cell, (show Boxed w' _ _ _ from (h.block _ k2.lt).trans k2).cell⟩
  have n1 : n ≤ 17592186044416 := by omega
  have m1 : m ≤ 17592186044416 := by omega
  have H0 : Hid (Calls Try.prog 4 #[.agg #[.slice p n c], .agg #[.slice q m d]] w0 fun e w' => e = .returned (.bool (decide (n = m) && allF n (fun i => sameN (N i) (M i)))) ∧ Below w0.heap.size w0 w' ∧ w'.cell? ⟨w.heap.size, 0, none⟩ = some (.slice p n c) ∧ w'.cell? ⟨w.heap.size + 1, 0, none⟩ = some (.slice q m d)) := by
    refine (rsame_any p q n m c d N M hn hm w0 hp' hq').mono ?_
    rintro e w' ⟨h1, h2⟩
    exact ⟨h1, h2, cells w' h2⟩
  have G : ∀ (p1 p2 : Option Addr) (n1 n2 c1 c2 : Nat) (N1 N2 : Nat → NdF) (h1 : n1 ≤ 17592186044416) (hN : NAt w0 p1 n1 N1) (hM : NAt w0 p2 n2 N2) w', Below w0.heap.size w0 w' → Calls Try.prog 5 #[.agg #[.slice p1 n1 c1], .agg #[.slice p2 n2 c2]] w' fun e w'' => e = .returned (.bool (decide (n1 = n2) && allF n1 (fun i => sameN (N1 i) (N2 i)))) ∧ Below w0.heap.size w0 w'' ∧ w''.cell? ⟨w.heap.size, 0, none⟩ = some (.slice p n c) ∧ w''.cell? ⟨w.heap.size + 1, 0, none⟩ = some (.slice q m d) := fun p1 p2 n1 n2 c1 c2 N1 N2 h1 hN hM w' h => by
    refine (gsame_any p1 p2 n1 n2 c1 c2 N1 N2 h1 w' (hN.below h) (hM.below h)).mono ?_
    rintro e w'' ⟨h1, h2⟩
    have h3 := h.trans (h2.mono h.size)
    exact ⟨h1, h3, cells w'' h3⟩
  have H1 : ∀ w', Below w0.heap.size w0 w' → Hid (Calls Try.prog 5 #[.agg #[.slice p n c], .agg #[.slice q m d]] w' fun e w'' => e = .returned (.bool (decide (n = m) && allF n (fun i => sameN (N i) (M i)))) ∧ Below w0.heap.size w0 w'' ∧ w''.cell? ⟨w.heap.size, 0, none⟩ = some (.slice p n c) ∧ w''.cell? ⟨w.heap.size + 1, 0, none⟩ = some (.slice q m d)) := fun w' h => G p q n m c d N M n1 hp' hq' w' h
  have H2 : ∀ w', Below w0.heap.size w0 w' → Hid (Calls Try.prog 5 #[.agg #[.slice q m d], .agg #[.slice p n c]] w' fun e w'' => e = .returned (.bool (decide (n = m) && allF n (fun i => sameN (N i) (M i)))) ∧ Below w0.heap.size w0 w'' ∧ w''.cell? ⟨w.heap.size, 0, none⟩ = some (.slice p n c) ∧ w''.cell? ⟨w.heap.size + 1, 0, none⟩ = some (.slice q m d)) := fun w' h => by
    have := G q p m n d c M N m1 hq' hp' w' h
    rw [tree_comm] at this
    exact this
  have H3 : ∀ w', Below w0.heap.size w0 w' → Hid (Calls Try.prog 5 #[.agg #[.slice p n c], .agg #[.slice p n c]] w' fun e w'' => e = .returned (.bool true) ∧ Below w0.heap.size w0 w'' ∧ w''.cell? ⟨w.heap.size, 0, none⟩ = some (.slice p n c) ∧ w''.cell? ⟨w.heap.size + 1, 0, none⟩ = some (.slice q m d)) := fun w' h => by
    have := G p p n n c c N N n1 hp' hp' w' h
    rw [tree_refl] at this
    exact this
  have H4 : ∀ w', Below w0.heap.size w0 w' → Hid (Calls Try.prog 5 #[.agg #[.slice q m d], .agg #[.slice q m d]] w' fun e w'' => e = .returned (.bool true) ∧ Below w0.heap.size w0 w'' ∧ w''.cell? ⟨w.heap.size, 0, none⟩ = some (.slice p n c) ∧ w''.cell? ⟨w.heap.size + 1, 0, none⟩ = some (.slice q m d)) := fun w' h => by
    have := G q q m m d d M M m1 hq' hq' w' h
    rw [tree_refl] at this
    exact this
  clear G cells hp hq hp' hq' k1 k2
  generalize (decide (n = m) && allF n (fun i => sameN (N i) (M i))) = res at H0 H1 H2
  rw [← hw0] at H0
  have hw1 : Hid ((w.alloc (.cells #[.slice p n c] 24)).alloc (.cells #[.slice q m d] 24) = w0) := hw0
  clear hw0
  go_enter Try.func3, Try.ntmps3
  cases res
  all_goals go_wp2_with (first | (go_at_call 4; (with_reducible refine (H0.out).mono ?_); rintro e w1 ⟨rfl, b1, z1, z2⟩; rw [hw1.out] at b1; clear H0) | (go_at_call 5; (with_reducible refine ((H1 _ b1).out).mono ?_); rintro e w2 ⟨rfl, b2, z3, z4⟩; clear H1) | (go_at_call 5; (with_reducible refine ((H2 _ b2).out).mono ?_); rintro e w3 ⟨rfl, b3, z5, z6⟩; clear H2) | (go_at_call 5; (with_reducible refine ((H3 _ b3).out).mono ?_); rintro e w4 ⟨rfl, b4, z7, z8⟩; clear H3) | (go_at_call 5; (with_reducible refine ((H4 _ b4).out).mono ?_); rintro e w5 ⟨rfl, b5, z9, z10⟩; clear H4))
  all_goals go_ret
  all_goals exact ⟨rfl, hb0.trans (b5.mono hb0.size)⟩
end Go.Proofs.Ytehahicdkklhgaa
