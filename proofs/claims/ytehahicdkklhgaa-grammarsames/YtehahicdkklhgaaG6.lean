import Derived.Test.YtehahicdkklhgaaG6a
import Derived.Deep.RegionHeld3
namespace Go.Proofs.Ytehahicdkklhgaa
open Go.ChangeShapes Go.WideShapes Go.ChangeAt Go.RowKit
set_option linter.unusedVariables false

/-- what the two copies leave -/
def RS (w0 W : World) (b5 b6 : Nat) (v v' : Value) (n m : Nat) (C D N M : Nat → NdF) : Prop :=
  Boxed W b5 24 v ∧ Boxed W b6 24 v' ∧ CT W w0.heap.size v n C ∧ CT W w0.heap.size v' m D ∧ (∀ k, k < n → ∃ g kc, C k = { N k with kp := some ⟨g, 0, none⟩, kc := kc }) ∧ (∀ k, k < m → ∃ g kc, D k = { M k with kp := some ⟨g, 0, none⟩, kc := kc }) ∧
  Below w0.heap.size w0 W ∧ w0.heap.size ≤ b5 ∧ w0.heap.size ≤ b6 ∧ (∀ g, v.ownBlock = some g → v'.ownBlock ≠ some g)

def PRE (w0 W : World) (v v' : Value) (n m : Nat) (C D N M : Nat → NdF) : Prop :=
  CT W w0.heap.size v n C ∧ CT W w0.heap.size v' m D ∧ (∀ k, k < n → ∃ g kc, C k = { N k with kp := some ⟨g, 0, none⟩, kc := kc }) ∧ (∀ k, k < m → ∃ g kc, D k = { M k with kp := some ⟨g, 0, none⟩, kc := kc }) ∧ Below w0.heap.size w0 W ∧ (∀ g, v.ownBlock = some g → v'.ownBlock ≠ some g)
theorem own_lt {W : World} {base : Nat} {e : TypeId} {size : Nat} {v : Value} {k : Nat} {xs : List Value} (h : W.ownsRow base e size v k xs) {g : Nat} (hg : v.ownBlock = some g) : g < W.heap.size := by
  rcases h.2 with ⟨rfl, _⟩ | ⟨g', cap, cur, rfl, hb, hh, _⟩
  · cases hg
  · cases hg; exact (Array.getElem?_eq_some_iff.1 hh).1
theorem pre_mk {w0 w1 w' w2 : World} {v v' : Value} {n m : Nat} {C D N M : Nat → NdF} (ct1 : CT w1 w0.heap.size v n C) (hb : Below w1.heap.size w1 w') (b2 : Below w'.heap.size w' w2) (ct2 : CT w2 w'.heap.size v' m D) (h0 : Below w0.heap.size w0 w') (h2 : Below w0.heap.size w0 w2) (cp1 : ∀ k, k < n → ∃ g kc, C k = { N k with kp := some ⟨g, 0, none⟩, kc := kc }) (cp2 : ∀ k, k < m → ∃ g kc, D k = { M k with kp := some ⟨g, 0, none⟩, kc := kc }) : PRE w0 w2 v v' n m C D N M :=
  ⟨(ct1.below hb).below b2, ct2.low h0.size, cp1, cp2, h2, fun g hg e => by
    have h1 := own_lt (ct1.below hb).1 hg
    have h3 := own_base ct2.1 e
    omega⟩
theorem CT.box {W : World} {B : Nat} {v : Value} {n : Nat} {C : Nat → NdF} (h : CT W B v n C) {b : Nat} {u : Value} (hb : Boxed W b 24 u) (x : Value) : CT (W.setCell ⟨b, 0, none⟩ x) B v n C := by
  refine ⟨h.1.kept (grownBy_setCell' W b x) (.inr (fun e => hb.not_row (by decide) h.1 e.symm)), fun k hk => ?_⟩
  obtain ⟨g', h1, h2, h3, h4⟩ := h.2 k hk
  refine ⟨g', h1, h2, (Below.heap_setCell W ⟨b, 0, none⟩ x g' ?_).trans h3, h4⟩
  intro e
  have e' : g' = b := e
  rw [e', show W.heap[b]? = _ from hb] at h3
  injection h3 with h3
  injection h3 with _ h3 _
  revert h3
  decide
theorem below_al {w0 W : World} (h : Below w0.heap.size w0 W) (o : Obj) : Below w0.heap.size w0 (W.alloc o) := h.alloc h.size o
theorem below_self (W : World) (o : Obj) : Below W.heap.size W (W.alloc o) := (Below.refl _ W).alloc (Nat.le_refl _) o
theorem other {W : World} {B B' : Nat} {t : TypeId} {v : Value} (h : Boxed W B t v) (hne : B ≠ B') (u : Value) : Boxed (W.setCell ⟨B', 0, none⟩ u) B t v := h.kept (grownBy_setCell' W B' u) (fun e => hne (by cases e; rfl))
theorem newB (W : World) (x : Nat) (v : Value) : Boxed ((W.setCell ⟨x, 0, none⟩ v).alloc (.cells #[.slice none 0 0] 24)) W.heap.size 24 (.slice none 0 0) := by
  have := Boxed.new (W.setCell ⟨x, 0, none⟩ v) 24 (.slice none 0 0)
  rwa [size_setCell] at this
theorem newC (W : World) (x : Nat) (v : Value) (hx : W.heap.size ≠ x) : Boxed ((W.alloc (.cells #[.slice none 0 0] 24)).setCell ⟨x, 0, none⟩ v) W.heap.size 24 (.slice none 0 0) := other (Boxed.new W _ _) hx v
theorem boxO {W : World} {b : Nat} {t : TypeId} {u : Value} (h : Boxed W b t u) {g : Nat} (hne : b ≠ g) (o : Nat) (x : Value) : Boxed (W.setCell ⟨g, o, none⟩ x) b t u := (Below.heap_setCell W ⟨g, o, none⟩ x b hne).trans h
section
variable {w0 W : World} {v v' : Value} {n m : Nat} {C D N M : Nat → NdF}
theorem rs_A (h : PRE w0 W v v' n m C D N M) : RS w0 ((W.alloc (.cells #[v] 24)).alloc (.cells #[v'] 24)) W.heap.size (W.heap.size + 1) v v' n m C D N M := by
  obtain ⟨h1, h2, h3, h4, h5, h6⟩ := h
  refine ⟨(Boxed.new W _ _).alloc _, by have := Boxed.new (W.alloc (.cells #[v] 24)) 24 v'; rwa [World.size_alloc] at this, (h1.below (below_self _ _)).below (below_self _ _), (h2.below (below_self _ _)).below (below_self _ _), h3, h4, below_al (below_al h5 _) _, h5.size, Nat.le_succ_of_le h5.size, h6⟩
theorem rs_A' (h : PRE w0 W v v' n m C D N M) : RS w0 ((W.alloc (.cells #[v'] 24)).alloc (.cells #[v] 24)) (W.heap.size + 1) W.heap.size v v' n m C D N M := by
  obtain ⟨h1, h2, h3, h4, h5, h6⟩ := h
  refine ⟨by have := Boxed.new (W.alloc (.cells #[v'] 24)) 24 v; rwa [World.size_alloc] at this, (Boxed.new W _ _).alloc _, (h1.below (below_self _ _)).below (below_self _ _), (h2.below (below_self _ _)).below (below_self _ _), h3, h4, below_al (below_al h5 _) _, Nat.le_succ_of_le h5.size, h5.size, h6⟩
theorem rs_B (h : PRE w0 W v v' n m C D N M) {x : Nat} {u : Value} (hx : Boxed W x 24 u) (hxB : w0.heap.size ≤ x) : RS w0 ((W.setCell ⟨x, 0, none⟩ v).alloc (.cells #[v'] 24)) x W.heap.size v v' n m C D N M := by
  obtain ⟨h1, h2, h3, h4, h5, h6⟩ := h
  refine ⟨(hx.set _).alloc _, by have := Boxed.new (W.setCell ⟨x, 0, none⟩ v) 24 v'; rwa [size_setCell] at this, (h1.box hx _).below (below_self _ _), (h2.box hx _).below (below_self _ _), h3, h4, below_al (h5.setCell (p := ⟨x, 0, none⟩) hxB _) _, hxB, h5.size, h6⟩
theorem rs_B' (h : PRE w0 W v v' n m C D N M) {x : Nat} {u : Value} (hx : Boxed W x 24 u) (hxB : w0.heap.size ≤ x) : RS w0 (((W.setCell ⟨x, 0, none⟩ v).alloc (.cells #[.slice none 0 0] 24)).setCell ⟨W.heap.size, 0, none⟩ v') x W.heap.size v v' n m C D N M := by
  obtain ⟨h1, h2, h3, h4, h5, h6⟩ := h
  have hn := newB W x v
  exact ⟨other ((hx.set _).alloc _) (Nat.ne_of_lt hx.lt) _, hn.set _, ((h1.box hx _).below (below_self _ _)).box hn _, ((h2.box hx _).below (below_self _ _)).box hn _, h3, h4, (below_al (h5.setCell (p := ⟨x, 0, none⟩) hxB _) _).setCell (p := ⟨W.heap.size, 0, none⟩) h5.size _, hxB, h5.size, h6⟩
theorem rs_E (h : PRE w0 W v v' n m C D N M) {x : Nat} {u : Value} (hx : Boxed W x 24 u) (hxB : w0.heap.size ≤ x) : RS w0 (((W.alloc (.cells #[.slice none 0 0] 24)).setCell ⟨x, 0, none⟩ v).setCell ⟨W.heap.size, 0, none⟩ v') x W.heap.size v v' n m C D N M := by
  obtain ⟨h1, h2, h3, h4, h5, h6⟩ := h
  have hx' := hx.alloc (.cells #[.slice none 0 0] 24)
  have hn := newC W x v (Nat.ne_of_gt hx.lt)
  exact ⟨other (hx'.set _) (Nat.ne_of_lt hx.lt) _, hn.set _, ((h1.below (below_self _ _)).box hx' _).box hn _, ((h2.below (below_self _ _)).box hx' _).box hn _, h3, h4, ((below_al h5 _).setCell (p := ⟨x, 0, none⟩) hxB _).setCell (p := ⟨W.heap.size, 0, none⟩) h5.size _, hxB, h5.size, h6⟩
theorem rs_C (h : PRE w0 W v v' n m C D N M) {x : Nat} {u : Value} (hx : Boxed W x 24 u) (hxB : w0.heap.size ≤ x) : RS w0 ((W.setCell ⟨x, 0, none⟩ v').alloc (.cells #[v] 24)) W.heap.size x v v' n m C D N M := by
  obtain ⟨h1, h2, h3, h4, h5, h6⟩ := h
  refine ⟨by have := Boxed.new (W.setCell ⟨x, 0, none⟩ v') 24 v; rwa [size_setCell] at this, (hx.set _).alloc _, (h1.box hx _).below (below_self _ _), (h2.box hx _).below (below_self _ _), h3, h4, below_al (h5.setCell (p := ⟨x, 0, none⟩) hxB _) _, h5.size, hxB, h6⟩
theorem rs_C' (h : PRE w0 W v v' n m C D N M) {x : Nat} {u : Value} (hx : Boxed W x 24 u) (hxB : w0.heap.size ≤ x) : RS w0 ((W.alloc (.cells #[v] 24)).setCell ⟨x, 0, none⟩ v') W.heap.size x v v' n m C D N M := by
  obtain ⟨h1, h2, h3, h4, h5, h6⟩ := h
  have hx' := hx.alloc (.cells #[v] 24)
  refine ⟨other (Boxed.new W _ _) (Nat.ne_of_gt hx.lt) _, hx'.set _, (h1.below (below_self _ _)).box hx' _, (h2.below (below_self _ _)).box hx' _, h3, h4, (below_al h5 _).setCell (p := ⟨x, 0, none⟩) hxB _, h5.size, hxB, h6⟩
theorem rs_D (h : PRE w0 W v v' n m C D N M) {x y : Nat} {u u' : Value} (hx : Boxed W x 24 u) (hy : Boxed W y 24 u') (hne : x ≠ y) (hxB : w0.heap.size ≤ x) (hyB : w0.heap.size ≤ y) : RS w0 ((W.setCell ⟨x, 0, none⟩ v).setCell ⟨y, 0, none⟩ v') x y v v' n m C D N M := by
  obtain ⟨h1, h2, h3, h4, h5, h6⟩ := h
  have hy' := other hy hne.symm v
  exact ⟨other (hx.set _) hne _, hy'.set _, (h1.box hx _).box hy' _, (h2.box hx _).box hy' _, h3, h4, (h5.setCell (p := ⟨x, 0, none⟩) hxB _).setCell (p := ⟨y, 0, none⟩) hyB _, hxB, hyB, h6⟩
end

set_option maxRecDepth 100000 in
set_option maxHeartbeats 4000000 in
theorem rsame_any (p q : Option Addr) (n m c d : Nat) (N M : Nat → NdF) (hn : n * 80 ≤ 140737488351232) (hm : m * 80 ≤ 140737488351232) (w : World) (hp : NAt w p n N) (hq : NAt w q m M) :
    Calls Try.prog 4 #[.agg #[.slice p n c], .agg #[.slice q m d]] w fun e w' => e = .returned (.bool (decide (n = m) && allF n (fun i => sameN (N i) (M i)))) ∧ Below w.heap.size w w' := by
  have hb0 : Below w.heap.size w ((w.alloc (.cells #[.slice p n c] 24)).alloc (.cells #[.slice q m d] 24)) := ((Below.refl _ w).alloc (Nat.le_refl _) _).alloc (by simp) _
  have k1 := (Boxed.new w 24 (.slice p n c)).alloc (.cells #[.slice q m d] 24)
  have k2 := Boxed.new (w.alloc (.cells #[.slice p n c] 24)) 24 (.slice q m d)
  simp only [World.size_alloc] at k2
  have hp' := hp.below hb0
  have hq' := hq.below hb0
  clear hp hq
  go_enter Try.func4, Try.ntmps4
  go_wp2
  obtain ⟨w0, hw0⟩ : ∃ w0, (w.alloc (.cells #[.slice p n c] 24)).alloc (.cells #[.slice q m d] 24) = w0 := ⟨_, rfl⟩
  have hs0 : w0.heap.size = w.heap.size + 2 := by rw [← hw0]; simp
  rw [hw0] at hb0 k1 k2 hp' hq' ⊢
  clear hw0
  have z1 := k1.cell
  have z2 := k2.cell
  have H1 : ∀ w', Below w0.heap.size w0 w' → Hid (Calls Try.prog 6 #[.agg #[.slice p n c]] w' fun e w'' => ∃ pc mc cc C, e = .returned (.agg #[.slice pc mc cc]) ∧ CT w'' w0.heap.size (.slice pc mc cc) n C ∧ (∀ k, k < n → ∃ g kc, C k = { N k with kp := some ⟨g, 0, none⟩, kc := kc }) ∧ Below w0.heap.size w0 w'' ∧ Below w'.heap.size w' w'' ∧ w''.cell? ⟨w.heap.size + 1, 0, none⟩ = some (.slice q m d) ∧ w''.cell? ⟨w.heap.size, 0, none⟩ = some (.slice p n c)) := fun w' h => by
    refine (copyTree_any p n c N hn w' (hp'.below h)).mono ?_
    rintro e w'' ⟨v, C, rfl, a1, a2, a3⟩
    obtain ⟨pc, mc, cc, rfl⟩ := own_slice a1.1
    have h2 := h.trans (a3.mono h.size)
    exact ⟨pc, mc, cc, C, rfl, a1.low h.size, a2, h2, a3, (show Boxed w'' _ _ _ from (h2.block _ k2.lt).trans k2).cell, (show Boxed w'' _ _ _ from (h2.block _ k1.lt).trans k1).cell⟩
  have H2 : ∀ w', Below w0.heap.size w0 w' → Hid (Calls Try.prog 6 #[.agg #[.slice q m d]] w' fun e w'' => ∃ pd md cd D, e = .returned (.agg #[.slice pd md cd]) ∧ CT w'' w'.heap.size (.slice pd md cd) m D ∧ (∀ k, k < m → ∃ g kc, D k = { M k with kp := some ⟨g, 0, none⟩, kc := kc }) ∧ Below w0.heap.size w0 w'' ∧ Below w'.heap.size w' w'' ∧ w''.cell? ⟨w.heap.size + 1, 0, none⟩ = some (.slice q m d) ∧ w''.cell? ⟨w.heap.size, 0, none⟩ = some (.slice p n c)) := fun w' h => by
    refine (copyTree_any q m d M hm w' (hq'.below h)).mono ?_
    rintro e w'' ⟨v, C, rfl, a1, a2, a3⟩
    obtain ⟨pc, mc, cc, rfl⟩ := own_slice a1.1
    have h2 := h.trans (a3.mono h.size)
    exact ⟨pc, mc, cc, C, rfl, a1, a2, h2, a3, (show Boxed w'' _ _ _ from (h2.block _ k2.lt).trans k2).cell, (show Boxed w'' _ _ _ from (h2.block _ k1.lt).trans k1).cell⟩
  have k1d : Boxed w0 w.heap.size 24 (.slice p n c) := k1
  have k2d : Boxed w0 (w.heap.size + 1) 24 (.slice q m d) := k2
  have k1a := fun o => (k1d.alloc o).cell
  have k1b := fun o o' => ((k1d.alloc o).alloc o').cell
  have k2a := fun o => (k2d.alloc o).cell
  have k2b := fun o o' => ((k2d.alloc o).alloc o').cell
  clear hp' hq' k1 k1d k2d
  have hd0 : Below w0.heap.size w0 w0.drew := (Below.refl _ w0).drew
  have hd1 : Below w0.heap.size w0 (w0.alloc (.cells #[.slice none 0 0] 24)).drew := (below_self w0 _).drew
  have hd2 : Below w0.heap.size w0 ((w0.alloc (.cells #[.slice none 0 0] 24)).alloc (.cells #[.slice none 0 0] 24)).drew := ((below_self w0 (.cells #[.slice none 0 0] 24)).trans ((below_self (w0.alloc (.cells #[.slice none 0 0] 24)) (.cells #[.slice none 0 0] 24)).mono (by rw [World.size_alloc]; exact Nat.le_succ _))).drew
  have hs0' : Hid (w0.heap.size = w.heap.size + 2) := hs0
  clear hs0
  have nz0 : w0.heap.size ≠ w.heap.size := (by have := hs0'.out; omega)
  have nz1 : w0.heap.size ≠ w.heap.size + 1 := (by have := hs0'.out; omega)
  have nz2 : w0.heap.size + 1 ≠ w.heap.size := (by have := hs0'.out; omega)
  have nz4 : w.heap.size ≠ w0.heap.size := (by have := hs0'.out; omega)
  have nz5 : w.heap.size + 1 ≠ w0.heap.size := (by have := hs0'.out; omega)
  have nz6 : w.heap.size ≠ w0.heap.size + 1 := (by have := hs0'.out; omega)
  refine Code.wp_mono (Q := (fun e a' W => e = .normal ∧ ∃ b5 b6 pc mc cc C pd md cd D, a' = { tmps := #[.agg #[.slice p n c], .agg #[.slice q m d], .pointer (some ⟨w.heap.size, 0, none⟩), .pointer (some ⟨w.heap.size + 1, 0, none⟩), .bool false, .pointer (some ⟨b5, 0, none⟩), .pointer (some ⟨b6, 0, none⟩), undef, undef, .agg #[.slice p n c], .agg #[.slice pc mc cc], .agg #[.slice q m d], .agg #[.slice pd md cd], undef, undef, undef, undef, undef, undef, undef, undef, undef, undef, undef, undef, undef, undef, undef, undef, undef, undef, undef, undef, undef, undef, undef, undef, undef, undef, undef, undef, undef, undef, undef, undef, undef, undef, undef, undef, undef], defers := [] } ∧ RS w0 W b5 b6 (.slice pc mc cc) (.slice pd md cd) n m C D N M)) ?rest ?region
  case rest =>
    rintro e a' W ⟨rfl, b5, b6, pc, mc, cc, C, pd, md, cd, D, rfl, hRS⟩
    obtain ⟨x5, x6, ctc, ctd, cpc, cpd, hbel0, hl5, hl6, hdj⟩ := hRS
    clear H1 H2 hd0 hd1 hd2 k2 k1a k1b k2a k2b z1 z2 nz0 nz1 nz2 nz4 nz5 nz6
    have emc := own_len' ctc.1
    have emd := own_len' ctd.1
    subst emc emd
    have hbW : Below w.heap.size w W := hb0.trans (hbel0.mono hb0.size)
    have HT : ∀ (C' D' : Nat → NdF) w', CT w' w0.heap.size (.slice pc mc cc) mc C' → CT w' w0.heap.size (.slice pd md cd) md D' → Hid (Calls Try.prog 7 #[.agg #[.slice pc mc cc], .agg #[.slice pd md cd]] w' fun e w'' => e = .returned (.bool (decide (mc = md) && allF mc (fun i => sameL (C' i) (D' i)))) ∧ Below w'.heap.size w' w'') := fun C' D' w' h1 h2 => sameTree_any pc pd mc md cc cd C' D' (by omega) w' (ct_nat h1) (ct_nat h2)
    have x5c := x5.cell
    have hmc : mc ≤ 17592186044416 := by omega
    have hmd : md ≤ 17592186044416 := by omega
    go_wp2
    go_loopw [16] (fun v wr => ∃ (i : Nat) (C' : Nat → NdF), v = .int .i64 i ∧ i ≤ mc ∧ CT wr w0.heap.size (.slice pc mc cc) mc C' ∧ CT wr w0.heap.size (.slice pd md cd) md D ∧ Boxed wr b5 24 (.slice pc mc cc) ∧ Boxed wr b6 24 (.slice pd md cd) ∧ (∀ k, k < mc → C' k = if k < i then zeroN (C k) else C k) ∧ Below w.heap.size w wr) (fun v _ => mc - (intOf v).toNat)
    case atStart => exact ⟨0, C, rfl, Nat.zero_le _, ctc, ctd, x5, x6, fun k hk => by rw [if_neg (by omega)], hbW⟩
    case round =>
      obtain ⟨i, C', rfl, hi, hc1, hd1, y5, y6, hz, hbel⟩ := hrel
      by_cases hlt : i < mc
      · obtain ⟨g, cur, rfl, _, hgB, hh, _, _, hs, ht⟩ := ct_row hc1 (by omega)
        have ck5 : wr.cell? ⟨g, i * 7 + 5, none⟩ = some (.int .i64 (C' i).line) := ct_cell (j := 5) hh ht hlt (by decide) rfl
        have fz : ∀ o, wr.frozen? ⟨g, o, none⟩ = false := fun o => by simp [World.frozen?, hh]
        have hset := ct_set hc1 (i := i) (j := 5) (v := .int .i64 0) (y := { C' i with line := 0 }) hlt (by decide) rfl ⟨rfl, rfl, rfl⟩
        obtain ⟨g2, cur2, hg2, _, _, hh2, _, _, _, ht2⟩ := ct_row hset (by omega)
        injection hg2 with hg2
        injection hg2 with hg2 _ _
        subst hg2
        have ck6 : (wr.setCell ⟨g, i * 7 + 5, none⟩ (.int .i64 0)).cell? ⟨g, i * 7 + 6, none⟩ = some (.int .i64 (C' i).col) := ct_cell (j := 6) hh2 ht2 hlt (by decide) (by rw [upd_at]; rfl)
        have fz2 : ∀ o, (wr.setCell ⟨g, i * 7 + 5, none⟩ (.int .i64 0)).frozen? ⟨g, o, none⟩ = false := fun o => by simp [World.frozen?, hh2]
        have hset2 := ct_set hset (i := i) (j := 6) (v := .int .i64 0) (y := zeroN (C' i)) hlt (by decide) (by rw [upd_at]; rfl) (by rw [upd_at]; exact ⟨rfl, rfl, rfl⟩)
        have hdd := ct_other (ct_other hd1 (fun e => hdj g rfl e) hh (i * 7 + 5) (.int .i64 0)) (fun e => hdj g rfl e) hh2 (i * 7 + 6) (.int .i64 0)
        have ne5 : b5 ≠ g := fun e => by have h := y5; unfold Boxed at h; rw [e, hh] at h; cases h
        have ne6 : b6 ≠ g := fun e => by have h := y6; unfold Boxed at h; rw [e, hh] at h; cases h
        have y5a := boxO y5 ne5 (i * 7 + 5) (.int .i64 0)
        have y5b := boxO y5a ne5 (i * 7 + 6) (.int .i64 0)
        have y6b := boxO (boxO y6 ne6 (i * 7 + 5) (.int .i64 0)) ne6 (i * 7 + 6) (.int .i64 0)
        have y5c := y5.cell
        have y5ac := y5a.cell
        have dl : decide ((i : Int) < mc) = true := decide_eq_true (by omega)
        have hm' := meas hlt
        have hgw : w.heap.size ≤ g := Nat.le_trans hb0.size hgB
        have fin : Hid ((CT ((wr.setCell ⟨g, i * 7 + 5, none⟩ (.int .i64 0)).setCell ⟨g, i * 7 + 6, none⟩ (.int .i64 0)) w0.heap.size (.slice (some ⟨g, 0, none⟩) mc cc) mc (upd (upd C' i { C' i with line := 0 }) i (zeroN (C' i)))) ∧ (∀ k, k < mc → upd (upd C' i { C' i with line := 0 }) i (zeroN (C' i)) k = if k < i + 1 then zeroN (C k) else C k)) := by
          refine ⟨hset2, fun k hk => ?_⟩
          have hzk := hz k hk
          by_cases hki : k = i
          · subst hki
            rw [upd_at, if_pos (by omega), hzk, if_neg (by omega)]
          · have e1 : upd (upd C' i { C' i with line := 0 }) i (zeroN (C' i)) k = C' k := by unfold upd; rw [if_neg hki, if_neg hki]
            rw [e1, hzk]
            by_cases hk2 : k < i
            · rw [if_pos hk2, if_pos (by omega)]
            · rw [if_neg hk2, if_neg (by omega)]
        clear hset hset2 hh hh2 ht ht2 hs hc1 hd1 hz HT ctc ctd cpc cpd x5c
        go_wp2
        exact ⟨⟨i + 1, _, rfl, hlt, fin.out.1, hdd, y5b, y6b, fin.out.2, (hbel.setCell (p := ⟨g, i * 7 + 5, none⟩) hgw _).setCell (p := ⟨g, i * 7 + 6, none⟩) hgw _⟩, hm'⟩
      · have dl : decide ((i : Int) < mc) = false := decide_eq_false (by omega)
        obtain rfl : i = mc := by omega
        have hz1 : Hid (∀ k, k < i → C' k = zeroN (C k)) := by
          show ∀ k, k < i → C' k = zeroN (C k)
          intro k hk
          rw [hz k hk, if_pos hk]
        have y6c := y6.cell
        clear hz ctc ctd x5 x6 x5c hbW hbel0
        go_wp2
        go_loopw [33] (fun v wr => ∃ (j : Nat) (D' : Nat → NdF), v = .int .i64 j ∧ j ≤ md ∧ CT wr w0.heap.size (.slice pc i cc) i C' ∧ CT wr w0.heap.size (.slice pd md cd) md D' ∧ Boxed wr b5 24 (.slice pc i cc) ∧ Boxed wr b6 24 (.slice pd md cd) ∧ (∀ k, k < md → D' k = if k < j then zeroN (D k) else D k) ∧ Below w.heap.size w wr) (fun v _ => md - (intOf v).toNat)
        case atStart => exact ⟨0, D, rfl, Nat.zero_le _, hc1, hd1, y5, y6, fun k hk => by rw [if_neg (by omega)], hbel⟩
        case round =>
          clear y6c y5 y6 hc1 hd1 hbel
          obtain ⟨j, D', rfl, hj, hc1, hd1, y5, y6, hz, hbel⟩ := hrel
          by_cases hlt : j < md
          · obtain ⟨g, cur, rfl, _, hgB, hh, _, _, hs, ht⟩ := ct_row hd1 (by omega)
            have ck5 : wr.cell? ⟨g, j * 7 + 5, none⟩ = some (.int .i64 (D' j).line) := ct_cell (j := 5) hh ht hlt (by decide) rfl
            have fz : ∀ o, wr.frozen? ⟨g, o, none⟩ = false := fun o => by simp [World.frozen?, hh]
            have hset := ct_set hd1 (i := j) (j := 5) (v := .int .i64 0) (y := { D' j with line := 0 }) hlt (by decide) rfl ⟨rfl, rfl, rfl⟩
            obtain ⟨g2, cur2, hg2, _, _, hh2, _, _, _, ht2⟩ := ct_row hset (by omega)
            injection hg2 with hg2
            injection hg2 with hg2 _ _
            subst hg2
            have ck6 : (wr.setCell ⟨g, j * 7 + 5, none⟩ (.int .i64 0)).cell? ⟨g, j * 7 + 6, none⟩ = some (.int .i64 (D' j).col) := ct_cell (j := 6) hh2 ht2 hlt (by decide) (by rw [upd_at]; rfl)
            have fz2 : ∀ o, (wr.setCell ⟨g, j * 7 + 5, none⟩ (.int .i64 0)).frozen? ⟨g, o, none⟩ = false := fun o => by simp [World.frozen?, hh2]
            have hset2 := ct_set hset (i := j) (j := 6) (v := .int .i64 0) (y := zeroN (D' j)) hlt (by decide) (by rw [upd_at]; rfl) (by rw [upd_at]; exact ⟨rfl, rfl, rfl⟩)
            have hcc := ct_other (ct_other hc1 (fun e => hdj g e rfl) hh (j * 7 + 5) (.int .i64 0)) (fun e => hdj g e rfl) hh2 (j * 7 + 6) (.int .i64 0)
            have ne5 : b5 ≠ g := fun e => by have h := y5; unfold Boxed at h; rw [e, hh] at h; cases h
            have ne6 : b6 ≠ g := fun e => by have h := y6; unfold Boxed at h; rw [e, hh] at h; cases h
            have y6a := boxO y6 ne6 (j * 7 + 5) (.int .i64 0)
            have y6b := boxO y6a ne6 (j * 7 + 6) (.int .i64 0)
            have y5b := boxO (boxO y5 ne5 (j * 7 + 5) (.int .i64 0)) ne5 (j * 7 + 6) (.int .i64 0)
            have y6c := y6.cell
            have y6ac := y6a.cell
            have dl : decide ((j : Int) < md) = true := decide_eq_true (by omega)
            have hm' := meas hlt
            have hgw : w.heap.size ≤ g := Nat.le_trans hb0.size hgB
            have fin : Hid ((CT ((wr.setCell ⟨g, j * 7 + 5, none⟩ (.int .i64 0)).setCell ⟨g, j * 7 + 6, none⟩ (.int .i64 0)) w0.heap.size (.slice (some ⟨g, 0, none⟩) md cd) md (upd (upd D' j { D' j with line := 0 }) j (zeroN (D' j)))) ∧ (∀ k, k < md → upd (upd D' j { D' j with line := 0 }) j (zeroN (D' j)) k = if k < j + 1 then zeroN (D k) else D k)) := by
              refine ⟨hset2, fun k hk => ?_⟩
              have hzk := hz k hk
              by_cases hki : k = j
              · subst hki
                rw [upd_at, if_pos (by omega), hzk, if_neg (by omega)]
              · have e1 : upd (upd D' j { D' j with line := 0 }) j (zeroN (D' j)) k = D' k := by unfold upd; rw [if_neg hki, if_neg hki]
                rw [e1, hzk]
                by_cases hk2 : k < j
                · rw [if_pos hk2, if_pos (by omega)]
                · rw [if_neg hk2, if_neg (by omega)]
            clear hset hset2 hh hh2 ht ht2 hs hc1 hd1 hz HT cpc cpd
            go_wp2
            exact ⟨⟨j + 1, _, rfl, hlt, hcc, fin.out.1, y5b, y6b, fin.out.2, (hbel.setCell (p := ⟨g, j * 7 + 5, none⟩) hgw _).setCell (p := ⟨g, j * 7 + 6, none⟩) hgw _⟩, hm'⟩
          · have dl : decide ((j : Int) < md) = false := decide_eq_false (by omega)
            obtain rfl : j = md := by omega
            have hres : (decide (i = j) && allF i (fun k => sameL (C' k) (D' k))) = (decide (i = j) && allF i (fun k => sameN (N k) (M k))) := by
              by_cases hij : i = j
              · subst hij
                congr 1
                refine allF_congr (fun k hk => ?_)
                rw [hz1.out k hk, hz k hk, if_pos hk, same_zero]
                obtain ⟨g1, c1, h1⟩ := cpc k hk
                obtain ⟨g2, c2, h2⟩ := cpd k hk
                rw [h1, h2]
                rfl
              · rw [decide_eq_false hij, Bool.false_and, Bool.false_and]
            have HT1 := HT C' D' wr hc1 hd1
            rw [hres] at HT1
            have y5c := y5.cell
            have y6c := y6.cell
            obtain ⟨res, hr0⟩ : ∃ res, (decide (i = j) && allF i (fun k => sameN (N k) (M k))) = res := ⟨_, rfl⟩
            rw [hr0] at HT1
            have hr1 : Hid ((decide (i = j) && allF i (fun k => sameN (N k) (M k))) = res) := hr0
            clear HT hres hz hz1 cpc cpd hc1 hd1 hr0
            go_wp2_with (go_at_call 7; (with_reducible refine (HT1.out).mono ?_); rintro e w3 ⟨rfl, b3⟩)
            go_ret
            exact ⟨congrArg (fun b => Ending.returned (Value.bool b)) hr1.out.symm, hbel.trans (b3.mono hbel.size)⟩
  case region =>
    go_region_held3 (fun w' => w'.cell? ⟨w.heap.size, 0, none⟩ = some (.slice p n c) ∧ w'.cell? ⟨w.heap.size + 1, 0, none⟩ = some (.slice q m d)) (first | exact ⟨z1, z2⟩ | exact ⟨y4, y3⟩ | exact ⟨y2, y1⟩ | go_keep) (first | (go_at_call 6; (with_reducible refine ((H1 _ hd0).out).mono ?_); rintro e w1 ⟨pc, mc, cc, C, rfl, ct1, cp1, b1, b1', y1, y2⟩; have g1 := b1.alloc b1.size (.cells #[.slice none 0 0] 24); have g2 := g1.alloc g1.size (.cells #[.slice none 0 0] 24); have hs1 := b1.size; have nx0 : w1.heap.size ≠ w.heap.size := (by have := hs0'.out; omega); have nx1 : w1.heap.size ≠ w.heap.size + 1 := (by have := hs0'.out; omega); have nx2 : w1.heap.size + 1 ≠ w.heap.size := (by have := hs0'.out; omega); have nx4 : w.heap.size ≠ w1.heap.size := (by have := hs0'.out; omega); have nx5 : w.heap.size + 1 ≠ w1.heap.size := (by have := hs0'.out; omega); have nx6 : w.heap.size ≠ w1.heap.size + 1 := (by have := hs0'.out; omega); have y5 := (show Boxed w1 (w.heap.size + 1) 24 (.slice q m d) from (b1.block _ k2.lt).trans k2); have y5a := (fun o => (y5.alloc o).cell); have y5b := (fun o o' => ((y5.alloc o).alloc o').cell); clear y5) | (go_at_call 6; (with_reducible refine ((H1 _ hd1).out).mono ?_); rintro e w1 ⟨pc, mc, cc, C, rfl, ct1, cp1, b1, b1', y1, y2⟩; have g1 := b1.alloc b1.size (.cells #[.slice none 0 0] 24); have g2 := g1.alloc g1.size (.cells #[.slice none 0 0] 24); have hs1 := b1.size; have nx0 : w1.heap.size ≠ w.heap.size := (by have := hs0'.out; omega); have nx1 : w1.heap.size ≠ w.heap.size + 1 := (by have := hs0'.out; omega); have nx2 : w1.heap.size + 1 ≠ w.heap.size := (by have := hs0'.out; omega); have nx4 : w.heap.size ≠ w1.heap.size := (by have := hs0'.out; omega); have nx5 : w.heap.size + 1 ≠ w1.heap.size := (by have := hs0'.out; omega); have nx6 : w.heap.size ≠ w1.heap.size + 1 := (by have := hs0'.out; omega); have y5 := (show Boxed w1 (w.heap.size + 1) 24 (.slice q m d) from (b1.block _ k2.lt).trans k2); have y5a := (fun o => (y5.alloc o).cell); have y5b := (fun o o' => ((y5.alloc o).alloc o').cell); clear y5; have e1 := (show Boxed w1 w0.heap.size 24 (.slice none 0 0) from (b1'.block _ (by simp [World.drew])).trans (World.alloc_heap_new w0 _))) | (go_at_call 6; (with_reducible refine ((H1 _ hd2).out).mono ?_); rintro e w1 ⟨pc, mc, cc, C, rfl, ct1, cp1, b1, b1', y1, y2⟩; have g1 := b1.alloc b1.size (.cells #[.slice none 0 0] 24); have g2 := g1.alloc g1.size (.cells #[.slice none 0 0] 24); have hs1 := b1.size; have nx0 : w1.heap.size ≠ w.heap.size := (by have := hs0'.out; omega); have nx1 : w1.heap.size ≠ w.heap.size + 1 := (by have := hs0'.out; omega); have nx2 : w1.heap.size + 1 ≠ w.heap.size := (by have := hs0'.out; omega); have nx4 : w.heap.size ≠ w1.heap.size := (by have := hs0'.out; omega); have nx5 : w.heap.size + 1 ≠ w1.heap.size := (by have := hs0'.out; omega); have nx6 : w.heap.size ≠ w1.heap.size + 1 := (by have := hs0'.out; omega); have y5 := (show Boxed w1 (w.heap.size + 1) 24 (.slice q m d) from (b1.block _ k2.lt).trans k2); have y5a := (fun o => (y5.alloc o).cell); have y5b := (fun o o' => ((y5.alloc o).alloc o').cell); clear y5; have e1 := (show Boxed w1 w0.heap.size 24 (.slice none 0 0) from (b1'.block _ (by simp [World.drew]; omega)).trans ((Boxed.new w0 24 (.slice none 0 0)).alloc (.cells #[.slice none 0 0] 24))); have e2 := (show Boxed w1 (w0.heap.size + 1) 24 (.slice none 0 0) from (b1'.block _ (by simp [World.drew])).trans (by have := Boxed.new (w0.alloc (.cells #[.slice none 0 0] 24)) 24 (.slice none 0 0); rwa [World.size_alloc] at this))) | (go_at_call 6; (with_reducible refine ((H2 _ b1).out).mono ?_); rintro e w2 ⟨pd, md, cd, D, rfl, ct2, cp2, b2, b2', y3, y4⟩; have hs2 := b2.size; have ny0 : w2.heap.size ≠ w.heap.size := (by have := hs0'.out; omega); have ny1 : w2.heap.size ≠ w.heap.size + 1 := (by have := hs0'.out; omega); have ny2 : w2.heap.size + 1 ≠ w.heap.size := (by have := hs0'.out; omega); have ny4 : w.heap.size ≠ w2.heap.size := (by have := hs0'.out; omega); have ny5 : w.heap.size + 1 ≠ w2.heap.size := (by have := hs0'.out; omega); have ny6 : w.heap.size ≠ w2.heap.size + 1 := (by have := hs0'.out; omega); have hpre := (show Hid (PRE w0 w2 (.slice pc mc cc) (.slice pd md cd) n m C D N M) from pre_mk ct1 (Below.refl _ w1) b2' ct2 b1 b2 cp1 cp2); clear ct1 ct2 cp1 cp2; (first | (have r1 := (show Boxed w2 w0.heap.size 24 (.slice none 0 0) from (b2'.block _ e1.lt).trans e1); have r1c := r1.cell; have r1f := r1.frozen; have r1a := (fun o => (r1.alloc o).cell); have r1b := (fun o => (r1.alloc o).frozen); have r1p := (fun v => (newC w2 w0.heap.size v (Nat.ne_of_gt r1.lt)).cell); have r1q := (fun v => (newC w2 w0.heap.size v (Nat.ne_of_gt r1.lt)).frozen); have r1n := (fun v => (newB w2 w0.heap.size v).cell); have r1m := (fun v => (newB w2 w0.heap.size v).frozen); have r2 := (show Boxed w2 (w0.heap.size + 1) 24 (.slice none 0 0) from (b2'.block _ e2.lt).trans e2); have r2c := r2.cell; have r2f := r2.frozen; have r2a := (fun o => (r2.alloc o).cell); have r2b := (fun o => (r2.alloc o).frozen); have r1r2c := (fun v => (other r2 (Nat.succ_ne_self _) v).cell); have r1r2f := (fun v => (other r2 (Nat.succ_ne_self _) v).frozen); have r2r1c := (fun v => (other r1 (Nat.succ_ne_self _).symm v).cell); have r2r1f := (fun v => (other r1 (Nat.succ_ne_self _).symm v).frozen); clear e1 e2) | (have r1 := (show Boxed w2 w0.heap.size 24 (.slice none 0 0) from (b2'.block _ e1.lt).trans e1); have r1c := r1.cell; have r1f := r1.frozen; have r1a := (fun o => (r1.alloc o).cell); have r1b := (fun o => (r1.alloc o).frozen); have r1p := (fun v => (newC w2 w0.heap.size v (Nat.ne_of_gt r1.lt)).cell); have r1q := (fun v => (newC w2 w0.heap.size v (Nat.ne_of_gt r1.lt)).frozen); have r1n := (fun v => (newB w2 w0.heap.size v).cell); have r1m := (fun v => (newB w2 w0.heap.size v).frozen); clear e1) | skip)) | (go_at_call 6; (with_reducible refine ((H2 _ g1).out).mono ?_); rintro e w2 ⟨pd, md, cd, D, rfl, ct2, cp2, b2, b2', y3, y4⟩; have hs2 := b2.size; have ny0 : w2.heap.size ≠ w.heap.size := (by have := hs0'.out; omega); have ny1 : w2.heap.size ≠ w.heap.size + 1 := (by have := hs0'.out; omega); have ny2 : w2.heap.size + 1 ≠ w.heap.size := (by have := hs0'.out; omega); have ny4 : w.heap.size ≠ w2.heap.size := (by have := hs0'.out; omega); have ny5 : w.heap.size + 1 ≠ w2.heap.size := (by have := hs0'.out; omega); have ny6 : w.heap.size ≠ w2.heap.size + 1 := (by have := hs0'.out; omega); have hpre := (show Hid (PRE w0 w2 (.slice pc mc cc) (.slice pd md cd) n m C D N M) from pre_mk ct1 (below_self w1 _) b2' ct2 g1 b2 cp1 cp2); clear ct1 ct2 cp1 cp2; have s1 := (show Boxed w2 w1.heap.size 24 (.slice none 0 0) from (b2'.block _ (by simp)).trans (World.alloc_heap_new w1 _)); have s1c := s1.cell; have s1f := s1.frozen; have s1a := (fun o => (s1.alloc o).cell); have s1b := (fun o => (s1.alloc o).frozen); have s1p := (fun v => (newC w2 w1.heap.size v (Nat.ne_of_gt s1.lt)).cell); have s1q := (fun v => (newC w2 w1.heap.size v (Nat.ne_of_gt s1.lt)).frozen); have s1n := (fun v => (newB w2 w1.heap.size v).cell); have s1m := (fun v => (newB w2 w1.heap.size v).frozen); (first | (have r1 := (show Boxed w2 w0.heap.size 24 (.slice none 0 0) from (b2'.block _ (e1.alloc (.cells #[.slice none 0 0] 24)).lt).trans (e1.alloc (.cells #[.slice none 0 0] 24))); have r1c := r1.cell; have r1f := r1.frozen; have r1a := (fun o => (r1.alloc o).cell); have r1b := (fun o => (r1.alloc o).frozen); have r1p := (fun v => (newC w2 w0.heap.size v (Nat.ne_of_gt r1.lt)).cell); have r1q := (fun v => (newC w2 w0.heap.size v (Nat.ne_of_gt r1.lt)).frozen); have r1n := (fun v => (newB w2 w0.heap.size v).cell); have r1m := (fun v => (newB w2 w0.heap.size v).frozen); have r1s1c := (fun v => (other s1 (Nat.ne_of_gt (e1.lt)) v).cell); have r1s1f := (fun v => (other s1 (Nat.ne_of_gt (e1.lt)) v).frozen); have s1r1c := (fun v => (other r1 (Nat.ne_of_lt (e1.lt)) v).cell); have s1r1f := (fun v => (other r1 (Nat.ne_of_lt (e1.lt)) v).frozen)) | skip)) | (go_at_call 6; (with_reducible refine ((H2 _ g2).out).mono ?_); rintro e w2 ⟨pd, md, cd, D, rfl, ct2, cp2, b2, b2', y3, y4⟩; have hs2 := b2.size; have ny0 : w2.heap.size ≠ w.heap.size := (by have := hs0'.out; omega); have ny1 : w2.heap.size ≠ w.heap.size + 1 := (by have := hs0'.out; omega); have ny2 : w2.heap.size + 1 ≠ w.heap.size := (by have := hs0'.out; omega); have ny4 : w.heap.size ≠ w2.heap.size := (by have := hs0'.out; omega); have ny5 : w.heap.size + 1 ≠ w2.heap.size := (by have := hs0'.out; omega); have ny6 : w.heap.size ≠ w2.heap.size + 1 := (by have := hs0'.out; omega); have hpre := (show Hid (PRE w0 w2 (.slice pc mc cc) (.slice pd md cd) n m C D N M) from pre_mk ct1 ((below_self w1 (.cells #[.slice none 0 0] 24)).trans ((below_self (w1.alloc (.cells #[.slice none 0 0] 24)) (.cells #[.slice none 0 0] 24)).mono (by rw [World.size_alloc]; exact Nat.le_succ _))) b2' ct2 g2 b2 cp1 cp2); clear ct1 ct2 cp1 cp2; have s1 := (show Boxed w2 w1.heap.size 24 (.slice none 0 0) from (b2'.block _ (by simp; omega)).trans ((Boxed.new w1 24 (.slice none 0 0)).alloc (.cells #[.slice none 0 0] 24))); have s1c := s1.cell; have s1f := s1.frozen; have s1a := (fun o => (s1.alloc o).cell); have s1b := (fun o => (s1.alloc o).frozen); have s1p := (fun v => (newC w2 w1.heap.size v (Nat.ne_of_gt s1.lt)).cell); have s1q := (fun v => (newC w2 w1.heap.size v (Nat.ne_of_gt s1.lt)).frozen); have s1n := (fun v => (newB w2 w1.heap.size v).cell); have s1m := (fun v => (newB w2 w1.heap.size v).frozen); have s2 := (show Boxed w2 (w1.heap.size + 1) 24 (.slice none 0 0) from (b2'.block _ (by simp)).trans (by have := Boxed.new (w1.alloc (.cells #[.slice none 0 0] 24)) 24 (.slice none 0 0); rwa [World.size_alloc] at this)); have s2c := s2.cell; have s2f := s2.frozen; have s2a := (fun o => (s2.alloc o).cell); have s2b := (fun o => (s2.alloc o).frozen); have s1s2c := (fun v => (other s2 (Nat.succ_ne_self _) v).cell); have s1s2f := (fun v => (other s2 (Nat.succ_ne_self _) v).frozen); have s2s1c := (fun v => (other s1 (Nat.succ_ne_self _).symm v).cell); have s2s1f := (fun v => (other s1 (Nat.succ_ne_self _).symm v).frozen)))
    all_goals (first | exact ⟨rfl, _, _, _, _, _, _, _, _, _, _, rfl, rs_E hpre.out s1 hs1⟩ | exact ⟨rfl, _, _, _, _, _, _, _, _, _, _, rfl, rs_E hpre.out r1 (Nat.le_refl _)⟩ | exact ⟨rfl, _, _, _, _, _, _, _, _, _, _, rfl, rs_B' hpre.out s1 hs1⟩ | exact ⟨rfl, _, _, _, _, _, _, _, _, _, _, rfl, rs_B' hpre.out r1 (Nat.le_refl _)⟩ | exact ⟨rfl, _, _, _, _, _, _, _, _, _, _, rfl, rs_A hpre.out⟩ | exact ⟨rfl, _, _, _, _, _, _, _, _, _, _, rfl, rs_A' hpre.out⟩ | exact ⟨rfl, _, _, _, _, _, _, _, _, _, _, rfl, rs_B hpre.out s1 hs1⟩ | exact ⟨rfl, _, _, _, _, _, _, _, _, _, _, rfl, rs_C hpre.out s1 hs1⟩ | exact ⟨rfl, _, _, _, _, _, _, _, _, _, _, rfl, rs_C' hpre.out s1 hs1⟩ | exact ⟨rfl, _, _, _, _, _, _, _, _, _, _, rfl, rs_B hpre.out r1 (Nat.le_refl _)⟩ | exact ⟨rfl, _, _, _, _, _, _, _, _, _, _, rfl, rs_C hpre.out r1 (Nat.le_refl _)⟩ | exact ⟨rfl, _, _, _, _, _, _, _, _, _, _, rfl, rs_C' hpre.out r1 (Nat.le_refl _)⟩ | exact ⟨rfl, _, _, _, _, _, _, _, _, _, _, rfl, rs_D hpre.out r1 r2 (Nat.succ_ne_self _).symm (Nat.le_refl _) (Nat.le_succ _)⟩ | exact ⟨rfl, _, _, _, _, _, _, _, _, _, _, rfl, rs_D hpre.out r2 r1 (Nat.succ_ne_self _).symm.symm (Nat.le_succ _) (Nat.le_refl _)⟩ | exact ⟨rfl, _, _, _, _, _, _, _, _, _, _, rfl, rs_D hpre.out s1 s2 (Nat.succ_ne_self _).symm hs1 (Nat.le_succ_of_le hs1)⟩ | exact ⟨rfl, _, _, _, _, _, _, _, _, _, _, rfl, rs_D hpre.out s2 s1 (Nat.succ_ne_self _).symm.symm (Nat.le_succ_of_le hs1) hs1⟩ | exact ⟨rfl, _, _, _, _, _, _, _, _, _, _, rfl, rs_D hpre.out r1 s1 (Nat.ne_of_lt e1.lt) (Nat.le_refl _) hs1⟩ | exact ⟨rfl, _, _, _, _, _, _, _, _, _, _, rfl, rs_D hpre.out s1 r1 (Nat.ne_of_lt e1.lt).symm hs1 (Nat.le_refl _)⟩)
end Go.Proofs.Ytehahicdkklhgaa
