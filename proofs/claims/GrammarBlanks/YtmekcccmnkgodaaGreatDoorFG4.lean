import Derived.Test.YtmekcccmnkgodaaGreatDoorFG3
import Derived.Deep.RegionWith
namespace Go.Proofs.YtmekcccmnkgodaaGreatDoor
open Go.ChangeShapes Go.WideShapes Go.ChangeAt Go.RowKit
set_option linter.unusedVariables false

set_option maxRecDepth 100000 in
set_option maxHeartbeats 4000000 in
theorem sameTree_any (p q : Option Addr) (n m c d : Nat) (N M : Nat → NdF) (hn : n ≤ 17592186044416) (w : World) (hp : NAt w p n N) (hq : NAt w q m M) :
    Calls Tryz.prog 15 #[.agg #[.slice p n c], .agg #[.slice q m d]] w fun e w' => e = .returned (.bool (decide (n = m) && allF n (fun i => sameL (N i) (M i)))) ∧ Below w.heap.size w w' := by
  have hb0 : Below w.heap.size w ((w.alloc (.cells #[.slice p n c] 24)).alloc (.cells #[.slice q m d] 24)) := ((Below.refl _ w).alloc (Nat.le_refl _) _).alloc (by simp) _
  by_cases hnm : n = m
  · subst hnm
    rw [decide_eq_true rfl, Bool.true_and]
    have fy : Hid ((∀ j, j < n → sameL (N j) (M j) = true) → allF n (fun i => sameL (N i) (M i)) = true) := allF_yes
    have fn : ∀ j, Hid (j < n → sameL (N j) (M j) = false → allF n (fun i => sameL (N i) (M i)) = false) := fun j h1 h2 => allF_no h1 h2
    generalize allF n (fun i => sameL (N i) (M i)) = res at fy fn ⊢
    have k1 := (Boxed.new w 24 (.slice p n c)).alloc (.cells #[.slice q n d] 24)
    have k2 := Boxed.new (w.alloc (.cells #[.slice p n c] 24)) 24 (.slice q n d)
    simp only [World.size_alloc] at k2
    have hp' := hp.below hb0
    have hq' := hq.below hb0
    clear hp hq
    go_enter Tryz.func15, Tryz.ntmps15
    go_wp2
    obtain ⟨w0, hw0⟩ : ∃ w0, (w.alloc (.cells #[.slice p n c] 24)).alloc (.cells #[.slice q n d] 24) = w0 := ⟨_, rfl⟩
    rw [hw0] at hb0 k1 k2 hp' hq' ⊢
    clear hw0
    go_loopw [16] (fun v wr => ∃ i : Nat, v = .int .i64 i ∧ i ≤ n ∧ Hid (∀ j, j < i → sameL (N j) (M j) = true) ∧ Below w0.heap.size w0 wr) (fun v _ => n - (intOf v).toNat)
    case atStart => exact ⟨0, rfl, Nat.zero_le _, (fun j hj => by omega : ∀ j, j < 0 → sameL (N j) (M j) = true), Below.refl _ _⟩
    case round =>
      obtain ⟨i, rfl, hi, hsm, hbel⟩ := hrel
      by_cases hlt : i < n
      · obtain h0 | ⟨b, o, rfl, hl, hc⟩ := hp'.below hbel
        · omega
        obtain h0 | ⟨b', o', rfl, hl', hc'⟩ := hq'.below hbel
        · omega
        obtain ⟨⟨x0, x1, x2, x3, x4, x5, x6⟩, kx⟩ := hc i hlt
        obtain ⟨⟨y0, y1, y2, y3, y4, y5, y6⟩, ky⟩ := hc' i hlt
        have dl : decide ((i : Int) < n) = true := decide_eq_true (by omega)
        have hm := meas0 hlt
        have hni := fn i
        have c1 := (show Boxed wr w.heap.size 24 (.slice (some ⟨b, o, none⟩) n c) from (hbel.block _ k1.lt).trans k1).cell
        have c2 := (show Boxed wr (w.heap.size + 1) 24 (.slice (some ⟨b', o', none⟩) n d) from (hbel.block _ k2.lt).trans k2).cell
        have HS : ∀ w', Below wr.heap.size wr w' → Hid (Calls Tryz.prog 29 #[ndV (N i), ndV (M i)] w' fun e w'' => e = .returned (.bool (sameL (N i) (M i))) ∧ Below wr.heap.size wr w'') := fun w' h => by
          refine (sameNode_any (N i) (M i) w' (kx.below h) (ky.below h)).mono ?_
          rintro e w'' ⟨h1, h2⟩
          exact ⟨h1, h.trans (h2.mono h.size)⟩
        unfold ndV at HS
        have hsz : w0.heap.size ≤ wr.heap.size := hbel.size
        clear hc hc' hl hl' fn kx ky hp' hq' k1 k2
        cases hs : sameL (N i) (M i) with
        | true =>
          have hsm' : Hid (∀ j, j < i + 1 → sameL (N j) (M j) = true) := by
            show ∀ j, j < i + 1 → sameL (N j) (M j) = true
            intro j hj
            by_cases h : j < i
            · exact hsm.out j h
            · obtain rfl : j = i := by omega
              exact hs
          rw [hs] at HS
          clear hs hsm hni
          generalize N i = X at *
          generalize M i = Y at *
          go_wp2
          go_region_with (go_at_call 29; (with_reducible refine ((HS _ (Below.drew (Below.refl _ wr))).out).mono ?_); rintro e w1 ⟨rfl, b1⟩)
          all_goals (try go_wp2)
          all_goals exact ⟨⟨i + 1, rfl, hlt, hsm', hbel.trans (b1.mono hsz)⟩, hm⟩
        | false =>
          have hres : res = false := hni.out hlt hs
          subst hres
          rw [hs] at HS
          clear hs hsm hni fy
          generalize N i = X at *
          generalize M i = Y at *
          go_wp2
          go_region_with (go_at_call 29; (with_reducible refine ((HS _ (Below.drew (Below.refl _ wr))).out).mono ?_); rintro e w1 ⟨rfl, b1⟩)
          all_goals (try go_wp2)
          all_goals go_ret
          all_goals exact ⟨rfl, hb0.trans ((hbel.trans (b1.mono hsz)).mono hb0.size)⟩
      · have dl : decide ((i : Int) < n) = false := decide_eq_false (by omega)
        obtain rfl : i = n := by omega
        have hres : res = true := fy.out hsm.out
        subst hres
        clear fy fn hp' hq'
        go_wp2
        go_ret
        exact ⟨rfl, hb0.trans (hbel.mono hb0.size)⟩
  · have d0 : ((n : Int) == m) = false := by simp; omega
    have d0' : ((n : Int) != m) = true := by simp; omega
    rw [decide_eq_false hnm, Bool.false_and]
    clear hp hq
    go_enter Tryz.func15, Tryz.ntmps15
    go_wp2
    go_ret
    exact ⟨rfl, hb0⟩
end Go.Proofs.YtmekcccmnkgodaaGreatDoor
