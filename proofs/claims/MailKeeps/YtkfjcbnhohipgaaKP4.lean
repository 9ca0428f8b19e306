import Derived.Test.YtkfjcbnhohipgaaKP3
import Derived.Test.YtkfjcbnhohipgaaMC1
import Derived.Test.YtkfjcbnhohipgaaMCO
import Derived.Deep.Upon
import Derived.BigQuiet
import Derived.Deep.RegionLaw
import Derived.Deep.RegionHeld3
import Derived.Deep.Cut
import Derived.Deep.DeepCutAuto
import Derived.Deep.CutBlock
import Derived.Deep.CutRange
import Derived.Deep.AppendLies
import Derived.Handy
import Derived.Lib.RabinKarpLaws
namespace Go.Proofs.Ytkfjcbnhohipgaa
open Go.ChangeShapes Go.WideShapes Go.ChangeAt Go.RowKit
set_option linter.unusedVariables false
set_option linter.unusedSimpArgs false


theorem infoFT : (Try.prog.info? 56).map (fun i => (i.zero, i.size, i.bytes)) = some (some (.agg #[.int .i64 0, .int .i64 0, .int .i64 0, .bool false, .bool false, .int .i64 0]), 6, 40) := by kernel_rfl
theorem madeF (n j : Nat) (hj : j < n * 6) : (madeCells (Value.agg #[.int .i64 0, .int .i64 0, .int .i64 0, .bool false, .bool false, .int .i64 0]).cells (n * 6)).toList.getD j undef = ftF (fun _ => ft0) j := by
  have h6 : (Value.agg #[.int .i64 0, .int .i64 0, .int .i64 0, .bool false, .bool false, .int .i64 0]).cells.size = 6 := rfl
  have hm : j % 6 = 0 ∨ j % 6 = 1 ∨ j % 6 = 2 ∨ j % 6 = 3 ∨ j % 6 = 4 ∨ j % 6 = 5 := by omega
  unfold madeCells ftF
  simp [hj, h6]
  rcases hm with h | h | h | h | h | h <;> rw [h] <;> rfl
theorem own_fates (w : World) (n : Nat) (hn : n ≤ maxLen) : Own (w.alloc (.cells (zA (.agg #[.int .i64 0, .int .i64 0, .int .i64 0, .bool false, .bool false, .int .i64 0]) n 6) 56)) w.heap.size 56 6 (.slice (some ⟨w.heap.size, 0, none⟩) n n) n (ftF fun _ => ft0) := Own.congr (own_new w _ _ n 6 hn) fun j hj => madeF n j hj
abbrev byKw : Value := .func (.func 14) #[] #[]
set_option maxRecDepth 100000 in
/-- a call of Phase, as a step of a region that draws -/
theorem step_phase {ops : Array Oper} {o : Oper} {a : Act} {w : World} {K : Act → World → Prop} {Q : Exit → Act → World → Prop} {E : Prop} (hg : o.guard = none) (x y : Nat) (hop : o.op = Op.call { callee := Callee.value (Operand.func 19), args := #[.tmp x, .tmp y], argTypes := #[26, 3] }) (vx vy : Value) (hx : a.eval (.tmp x) = vx) (hy : a.eval (.tmp y) = vy) (post : Ending → World → Prop) (hc : Calls Try.prog 19 #[vx, vy] w post) (hr : ∀ e w', post e w' → ∃ v, e = .returned v ∧ K (a.put o.dst v) w') :
    if Region.wanted o (yielded ops a.tmps) = true then Oper.wp Try.prog o a w K Q else E := by
  have hw : Region.wanted o (yielded ops a.tmps) = true := by simp [Region.wanted, hg]
  rw [if_pos hw]
  unfold Oper.wp
  have he : (execOp a.eval o).run Try.prog w = .ok (.enter 19 #[vx, vy]) w := by
    simp [execOp, hop, resolve, invoke, Act.eval]
    go_simp
    simp [Act.eval] at hx hy
    exact ⟨hx, hy⟩
  rw [he, Oper.upon_enter]
  refine hc.mono fun e w' h => ?_
  obtain ⟨v, rfl, h2⟩ := hr e w' h
  exact h2
theorem setG_two (G : Nat → Ft) (k : Nat) (g g' : Ft) : setG (setG G k g) k g' = setG G k g' := by
  funext j
  unfold setG
  split <;> rfl
theorem own_six {w : World} {B fb N c : Nat} {G : Nat → Ft} (h : Own w B 56 6 (.slice (some ⟨fb, 0, none⟩) N c) N (ftF G)) (k : Nat) (a b p : Int) (s q : Bool) (m : Int) : Own ((((((w.setCell ⟨fb, k * 6, none⟩ (.int .i64 a)).setCell ⟨fb, k * 6 + 1, none⟩ (.int .i64 b)).setCell ⟨fb, k * 6 + 2, none⟩ (.int .i64 p)).setCell ⟨fb, k * 6 + 3, none⟩ (.bool s)).setCell ⟨fb, k * 6 + 4, none⟩ (.bool q)).setCell ⟨fb, k * 6 + 5, none⟩ (.int .i64 m)) B 56 6 (.slice (some ⟨fb, 0, none⟩) N c) N (ftF (setG G k ⟨a, b, p, s, q, m⟩)) := by
  obtain ⟨⟨f0, t0, p0, s0, b0, c0⟩, hg⟩ : ∃ g, G k = g := ⟨_, rfl⟩
  have six : ∀ (P : Nat → Prop) (r : Nat), P 0 → P 1 → P 2 → P 3 → P 4 → P 5 → r < 6 → P r := fun P r a0 a1 a2 a3 a4 a5 hr => by
    rcases (by omega : r = 0 ∨ r = 1 ∨ r = 2 ∨ r = 3 ∨ r = 4 ∨ r = 5) with rfl | rfl | rfl | rfl | rfl | rfl <;> assumption
  have h0 := own_setF h k 0 (by decide) ⟨a, t0, p0, s0, b0, c0⟩ (.int .i64 a) rfl (fun r hr hne => by rw [hg]; exact six (fun r => r ≠ 0 → ftV _ r = ftV _ r) r (fun e => absurd rfl e) (fun _ => rfl) (fun _ => rfl) (fun _ => rfl) (fun _ => rfl) (fun _ => rfl) hr hne)
  have h1 := own_setF h0 k 1 (by decide) ⟨a, b, p0, s0, b0, c0⟩ (.int .i64 b) rfl (fun r hr hne => by rw [setG_at]; exact six (fun r => r ≠ 1 → ftV _ r = ftV _ r) r (fun _ => rfl) (fun e => absurd rfl e) (fun _ => rfl) (fun _ => rfl) (fun _ => rfl) (fun _ => rfl) hr hne)
  rw [setG_two] at h1
  have h2 := own_setF h1 k 2 (by decide) ⟨a, b, p, s0, b0, c0⟩ (.int .i64 p) rfl (fun r hr hne => by rw [setG_at]; exact six (fun r => r ≠ 2 → ftV _ r = ftV _ r) r (fun _ => rfl) (fun _ => rfl) (fun e => absurd rfl e) (fun _ => rfl) (fun _ => rfl) (fun _ => rfl) hr hne)
  rw [setG_two] at h2
  have h3 := own_setF h2 k 3 (by decide) ⟨a, b, p, s, b0, c0⟩ (.bool s) rfl (fun r hr hne => by rw [setG_at]; exact six (fun r => r ≠ 3 → ftV _ r = ftV _ r) r (fun _ => rfl) (fun _ => rfl) (fun _ => rfl) (fun e => absurd rfl e) (fun _ => rfl) (fun _ => rfl) hr hne)
  rw [setG_two] at h3
  have h4 := own_setF h3 k 4 (by decide) ⟨a, b, p, s, q, c0⟩ (.bool q) rfl (fun r hr hne => by rw [setG_at]; exact six (fun r => r ≠ 4 → ftV _ r = ftV _ r) r (fun _ => rfl) (fun _ => rfl) (fun _ => rfl) (fun _ => rfl) (fun e => absurd rfl e) (fun _ => rfl) hr hne)
  rw [setG_two] at h4
  have h5 := own_setF h4 k 5 (by decide) ⟨a, b, p, s, q, m⟩ (.int .i64 m) rfl (fun r hr hne => by rw [setG_at]; exact six (fun r => r ≠ 5 → ftV _ r = ftV _ r) r (fun _ => rfl) (fun _ => rfl) (fun _ => rfl) (fun _ => rfl) (fun _ => rfl) (fun e => absurd rfl e) hr hne)
  rw [setG_two] at h5
  exact h5
theorem far_six (w : World) (fb k : Nat) (a b p : Int) (s q : Bool) (m : Int) (j : Nat) (hne : j ≠ fb) : ((((((w.setCell ⟨fb, k * 6, none⟩ (.int .i64 a)).setCell ⟨fb, k * 6 + 1, none⟩ (.int .i64 b)).setCell ⟨fb, k * 6 + 2, none⟩ (.int .i64 p)).setCell ⟨fb, k * 6 + 3, none⟩ (.bool s)).setCell ⟨fb, k * 6 + 4, none⟩ (.bool q)).setCell ⟨fb, k * 6 + 5, none⟩ (.int .i64 m)).heap[j]? = w.heap[j]? := (Below.heap_setCell _ _ _ _ hne).trans ((Below.heap_setCell _ _ _ _ hne).trans ((Below.heap_setCell _ _ _ _ hne).trans ((Below.heap_setCell _ _ _ _ hne).trans ((Below.heap_setCell _ _ _ _ hne).trans (Below.heap_setCell _ _ _ _ hne)))))
theorem below_six (w : World) (B fb k : Nat) (hfb : B ≤ fb) (a b p : Int) (s q : Bool) (m : Int) : Below B w ((((((w.setCell ⟨fb, k * 6, none⟩ (.int .i64 a)).setCell ⟨fb, k * 6 + 1, none⟩ (.int .i64 b)).setCell ⟨fb, k * 6 + 2, none⟩ (.int .i64 p)).setCell ⟨fb, k * 6 + 3, none⟩ (.bool s)).setCell ⟨fb, k * 6 + 4, none⟩ (.bool q)).setCell ⟨fb, k * 6 + 5, none⟩ (.int .i64 m)) := ((((((Below.refl B w).setCell (p := ⟨fb, k * 6, none⟩) hfb _).setCell (p := ⟨fb, k * 6 + 1, none⟩) hfb _).setCell (p := ⟨fb, k * 6 + 2, none⟩) hfb _).setCell (p := ⟨fb, k * 6 + 3, none⟩) hfb _).setCell (p := ⟨fb, k * 6 + 4, none⟩) hfb _).setCell (p := ⟨fb, k * 6 + 5, none⟩) hfb _
theorem PK.put {B hb wb bb n : Nat} {room : Int} {cmp : Value} {R : Nat → Nat} {ph fl : Nat → Int} {H : Nat → Nat → Nat → Hf} {L : List Lt} {fb N : Nat} {G : Nat → Ft} {t : Nat} {w : World} (h : PK w B hb wb bb n room cmp R ph fl H L fb N G t) (k : Nat) (a b p : Int) (s q : Bool) (m : Int) : PK ((((((w.setCell ⟨fb, k * 6, none⟩ (.int .i64 a)).setCell ⟨fb, k * 6 + 1, none⟩ (.int .i64 b)).setCell ⟨fb, k * 6 + 2, none⟩ (.int .i64 p)).setCell ⟨fb, k * 6 + 3, none⟩ (.bool s)).setCell ⟨fb, k * 6 + 4, none⟩ (.bool q)).setCell ⟨fb, k * 6 + 5, none⟩ (.int .i64 m)).drew B hb wb bb n room cmp R ph fl H L fb N (setG G k ⟨a, b, p, s, q, m⟩) t ∧ Below B w ((((((w.setCell ⟨fb, k * 6, none⟩ (.int .i64 a)).setCell ⟨fb, k * 6 + 1, none⟩ (.int .i64 b)).setCell ⟨fb, k * 6 + 2, none⟩ (.int .i64 p)).setCell ⟨fb, k * 6 + 3, none⟩ (.bool s)).setCell ⟨fb, k * 6 + 4, none⟩ (.bool q)).setCell ⟨fb, k * 6 + 5, none⟩ (.int .i64 m)).drew := by
  have hfb := (h.fo.lt fb rfl).1
  have o6 := own_six h.fo k a b p s q m
  have f6 := far_six w fb k a b p s q m
  have b6 := below_six w B fb k hfb a b p s q m
  generalize (((((w.setCell ⟨fb, k * 6, none⟩ (.int .i64 a)).setCell ⟨fb, k * 6 + 1, none⟩ (.int .i64 b)).setCell ⟨fb, k * 6 + 2, none⟩ (.int .i64 p)).setCell ⟨fb, k * 6 + 3, none⟩ (.bool s)).setCell ⟨fb, k * 6 + 4, none⟩ (.bool q)).setCell ⟨fb, k * 6 + 5, none⟩ (.int .i64 m) = w6 at o6 f6 b6 ⊢
  exact ⟨PK.later (h.fates o6 fun j hj hne => f6 j hne) (drewB _), ⟨b6.os, b6.tape, b6.output, b6.size, b6.block⟩⟩
theorem phase_pk {B hb wb bb n : Nat} {room : Int} {cmp : Value} {R : Nat → Nat} {ph : Nat → Int} (oa : Int) : ∃ z : Int, ((oa < 0 ∨ (n : Int) ≤ oa) → z = -1) ∧ (∀ x : Nat, oa = (x : Int) → x < n → z = ph x) ∧ ∀ (W : World) (fl : Nat → Int) (H : Nat → Nat → Nat → Hf) (L : List Lt) (fb N : Nat) (G : Nat → Ft) (t : Nat), PK W B hb wb bb n room cmp R ph fl H L fb N G t → Calls Try.prog 19 #[.pointer (some ⟨hb, 0, none⟩), .int .i64 oa] W fun e W' => e = .returned (.int .i64 z) ∧ W' = W := by
  rcases who oa n with hx | ⟨x, hx, rfl⟩
  · exact ⟨-1, fun _ => rfl, fun x e h => by omega, fun W fl H L fb N G t h => phase_no _ _ _ _ _ oa hx _ W h.mp.p⟩
  · exact ⟨ph x, fun h => by omega, fun y e h => by rw [show y = x by omega], fun W fl H L fb N G t h => phase_yes hb wb bb n room x hx cmp ph fl W h.mp.p h.mp.wk⟩
theorem bla_below {fb B : Nat} {W W' : World} {b : Nat} (h : BlA (fun k => k = fb) b W W') (hb : B ≤ b) (hf : B ≤ fb) : Below B W W' := ⟨h.os, h.tape, h.output, h.size, fun k hk => h.block k (by omega) (fun e => by have : k = fb := e; omega)⟩
theorem CA.nil {G G' : Nat → Ft} {d : Nat → Int × Int} (h : CA G d 0 G') : G' = G := by
  funext s
  exact (h s).2 fun ⟨i, h1, _⟩ => absurd h1 (Nat.not_lt_zero _)
theorem TB.zero (G : Nat → Ft) (x z : Int) : TB G 0 x z G := fun s => by rw [if_neg (by omega)]
theorem TB.at {G Gj : Nat → Ft} {j : Nat} {x z : Int} (h : TB G j x z Gj) : Gj j = G j := by rw [h j, if_neg (by omega)]
theorem TB.yes {G Gj : Nat → Ft} {j : Nat} {x z : Int} (h : TB G j x z Gj) (h1 : (G j).f = x) (h2 : (G j).p = z) : TB G (j + 1) x z (setG Gj j { G j with b := true }) := fun s => by
  by_cases e : s = j
  · subst e; rw [setG_at, if_pos ⟨by omega, h1, h2⟩]
  · rw [setG_ne _ _ e, h s]
    by_cases e2 : s < j ∧ (G s).f = x ∧ (G s).p = z
    · rw [if_pos e2, if_pos ⟨by omega, e2.2⟩]
    · rw [if_neg e2, if_neg (fun h3 => e2 ⟨by omega, h3.2⟩)]
theorem TB.no {G Gj : Nat → Ft} {j : Nat} {x z : Int} (h : TB G j x z Gj) (h1 : ¬ ((G j).f = x ∧ (G j).p = z)) : TB G (j + 1) x z Gj := fun s => by
  rw [h s]
  by_cases e : s = j
  · subst e; rw [if_neg (by omega), if_neg (fun h3 => h1 h3.2)]
  · by_cases e2 : s < j ∧ (G s).f = x ∧ (G s).p = z
    · rw [if_pos e2, if_pos ⟨by omega, e2.2⟩]
    · rw [if_neg e2, if_neg (fun h3 => e2 ⟨by omega, h3.2⟩)]
set_option maxRecDepth 100000 in
set_option maxHeartbeats 8000000 in
theorem keeps_bad (w0 w1 r0 r1 : Int) (p : Option Addr) (N c : Nat) (W : World) (h : (w0 < 1 ∨ 64 < w0) ∨ (r0 < 1 ∨ 1024 < r0)) :
    Calls Try.prog 5 #[.agg #[.int .i64 w0, .int .i64 w1, .int .i64 r0, .int .i64 r1, .slice p N c]] W fun e W' => e = .returned (.bool true) ∧ Below W.heap.size W W' := by
  have hb : Below W.heap.size W (W.alloc (.cells #[.int .i64 w0, .int .i64 w1, .int .i64 r0, .int .i64 r1, .slice p N c] 25)) := (Below.refl _ W).alloc (Nat.le_refl _) _
  have HN := fun w => mb_newBadC byKw w0 r0 h w
  obtain ⟨z, hz⟩ : ∃ z, nbad w0 r0 = z := ⟨_, rfl⟩
  have hz0 : (z != 0) = true := by
    rw [← hz]; unfold nbad; split <;> rfl
  simp only [hz] at HN
  have HB := mhid hb
  clear hb hz
  have key : decide (w0 < 1) = true ∨ (decide (w0 < 1) = false ∧ (decide (64 < w0) = true ∨ (decide (64 < w0) = false ∧ (decide (r0 < 1) = true ∨ (decide (r0 < 1) = false ∧ decide (1024 < r0) = true))))) := by
    simp only [decide_eq_true_eq, decide_eq_false_iff_not]
    omega
  clear h
  rcases key with d1 | ⟨d1, d2 | ⟨d2, d3 | ⟨d3, d4⟩⟩⟩
  all_goals (
    go_enter Try.func5, Try.ntmps5
    go_wp2_with (go_at_call 13; (with_reducible refine (HN _).mono ?_); rintro e9 w9 ⟨rfl, h9⟩; subst h9)
    go_ret
    exact ⟨rfl, HB.out⟩)
set_option maxRecDepth 100000 in
set_option maxHeartbeats 40000000 in
theorem keeps_law (w0 w1 r0 r1 : Int) (p : Option Addr) (N c : Nat) (X : Nat → OpV) (W : World) (h : OpIn W p N X) (hN : N * 40 ≤ 140737488351232) :
    Calls Try.prog 5 #[.agg #[.int .i64 w0, .int .i64 w1, .int .i64 r0, .int .i64 r1, .slice p N c]] W fun e W' => e = .returned (.bool true) ∧ Below W.heap.size W W' := by
  by_cases hbad : (w0 < 1 ∨ 64 < w0) ∨ (r0 < 1 ∨ 1024 < r0)
  · exact keeps_bad w0 w1 r0 r1 p N c W hbad
  obtain ⟨n, rfl⟩ : ∃ n : Nat, w0 = (n : Int) := ⟨w0.toNat, by omega⟩
  have hn0 : 0 < n := by omega
  have hn : n ≤ 64 := by omega
  have hr : 1 ≤ r0 ∧ r0 ≤ 1024 := by omega
  have d1 : decide ((n : Int) < 1) = false := by simp; omega
  have d2 : decide (64 < (n : Int)) = false := by simp; omega
  have d3 : decide (r0 < 1) = false := by simp; omega
  have d4 : decide (1024 < r0) = false := by simp; omega
  obtain ⟨W1, hW1⟩ : ∃ W1, W.alloc (.cells #[.int .i64 (n : Int), .int .i64 w1, .int .i64 r0, .int .i64 r1, .slice p N c] 25) = W1 := ⟨_, rfl⟩
  have hb1 : Below W.heap.size W W1 := by rw [← hW1]; exact (Below.refl _ W).alloc (Nat.le_refl _) _
  have hs1 : ScAt W1 W.heap.size n w1 r0 r1 p N c := by rw [← hW1]; exact World.alloc_heap_new W _
  have HNEW := mb_newC 14 #[] n r0 (by omega) hn hr.1 hr.2 W1
  obtain ⟨iF, hF1, hF2, hF3, hF4⟩ := binfo infoFT
  have rF : ∀ w : World, (Instr.makeSlice 54 (.int .i64 (N : Int)) (.int .i64 (N : Int))).run Try.prog w = .ok (.slice (some ⟨w.heap.size, 0, none⟩) N N) (w.alloc (.cells (zA (.agg #[.int .i64 0, .int .i64 0, .int .i64 0, .bool false, .bool false, .int .i64 0]) N 6) 56)) := run_make_eq _ _ iF _ 6 Try.underlying54 hF1 hF2 hF3 N (by rw [hF4]; omega) (by omega)
  have HOP := mhid (h.later hb1)
  have HSC := mhid hs1
  have HB1 := mhid hb1
  have HR := mhid (And.intro hn0 (And.intro hn (And.intro hr hN)))
  have HW1 := mhid hW1
  obtain ⟨SB, hSB⟩ : ∃ SB, W.heap.size = SB := ⟨_, rfl⟩
  rw [hSB] at HSC hs1
  have HSB := mhid hSB
  have HSL := mhid (lt_of_block hs1)
  obtain ⟨c0, c1, c2, c3, c4⟩ := hs1.cells
  clear h hbad hn0 hn hr hs1 hb1 hW1 hN hF1 hF2 hF3 hF4
  go_enter Try.func5, Try.ntmps5
  go_upto_region 1 with fail
  rw [HW1.out]
  clear hSB
  go_upto_region 6 with (go_at_call 13; (with_reducible refine HNEW.mono ?_); rintro e w2 ⟨hb, wb, bb, R, rfl, np, b2⟩; have hs2 : ScAt w2 SB n w1 r0 r1 p N c := (b2.block _ HSL.out).trans HSC.out; obtain ⟨e0, e1, e2, e3, e4⟩ := hs2.cells; have HNP := mhid (And.intro np.mp b2); clear np b2 hs2)
  clear HNEW c0 c1 c2 c3 c4 d1 d2 d3 d4
  have HLA : Hid (∀ wr, Below W1.heap.size W1 wr → ScAt wr SB n w1 r0 r1 p N c ∧ OpIn wr p N X) := fun wr hb => ⟨(hb.block _ HSL.out).trans HSC.out, HOP.out.later hb⟩
  clear HOP HSC
  obtain ⟨B, hB⟩ : ∃ B, W1.heap.size = B := ⟨_, rfl⟩
  rw [hB] at HNP HLA HSL
  have HBB := mhid hB
  clear hB
  go_upto_region 7 with fail
  obtain ⟨w3, hw3⟩ : ∃ w3, w2.alloc (.cells (zA (.agg #[.int .i64 0, .int .i64 0, .int .i64 0, .bool false, .bool false, .int .i64 0]) N 6) 56) = w3 := ⟨_, rfl⟩
  rw [hw3]
  have hb3 : Below w2.heap.size w2 w3 := by rw [← hw3]; exact (Below.refl _ w2).alloc (Nat.le_refl _) _
  have hB2 : B ≤ w2.heap.size := by have := HNP.out.2.size; have := HBB.out; omega
  have hfo : Own w3 B 56 6 (.slice (some ⟨w2.heap.size, 0, none⟩) N N) N (ftF fun _ => ft0) := by rw [← hw3]; exact (own_fates w2 N (by have := HR.out.2.2.2; unfold maxLen; omega)).lower hB2
  obtain ⟨fb, hfb⟩ : ∃ fb, w2.heap.size = fb := ⟨_, rfl⟩
  rw [hfb] at hfo ⊢
  have HST : Hid (PK w3 B hb wb bb n r0 byKw R (fun _ => 0) (fun _ => 0) noH [] fb N (fun _ => ft0) 0 ∧ Below B W1 w3) := ⟨⟨HNP.out.1.later hb3, RE.new n r0 (by have := HR.out.2.2.1; omega), hfo⟩, HNP.out.2.trans (hb3.mono hB2)⟩
  clear hw3 hb3 hB2 hfo hfb rF e0 e1 e2 e3 e4 HNP
  go_wp2_with fail
  go_loopw [6] (fun a wr => ∃ (k : Nat) (ph fl : Nat → Int) (H : Nat → Nat → Nat → Hf) (L : List Lt) (G : Nat → Ft), a = .int .i64 (k : Int) ∧ k ≤ N ∧ k ≤ 400 ∧ PK wr B hb wb bb n r0 byKw R ph fl H L fb N G k ∧ FR L G N k ∧ Below B W1 wr) (fun a _ => N - (intOf a).toNat)
  case atStart => exact ⟨0, _, _, _, _, _, rfl, Nat.zero_le _, Nat.zero_le _, HST.out.1, FR.new N, HST.out.2⟩
  case round =>
    obtain ⟨k, ph, fl, H, L, G, rfl, hk, hk4, hpk, hfr, hbr⟩ := hrel
    have HM := mhid (And.intro hpk (And.intro hfr hbr))
    have hsz : B ≤ wr.heap.size := by have := hbr.size; have := HBB.out; omega
    have hbr' := hbr
    rw [← HBB.out] at hbr'
    obtain ⟨hsc, hop⟩ := HLA.out wr hbr
    obtain ⟨c0, c1, c2, c3, c4⟩ := hsc.cells
    by_cases hlt : k < N ∧ k < 400
    · have dl : decide ((k : Int) < (N : Int)) = true := by simp; omega
      have dl4 : decide ((k : Int) < 400) = true := by simp; omega
      have hme := meas hlt.1
      have ek : IntKind.i64.wrap ((k : Int) + 1) = (k : Int) + 1 := by rw [IntKind.wrap_i64]; omega
      have k0 : (0 : Int) ≤ (k : Int) := by omega
      have k1 : (k : Int) < (N : Int) := by omega
      rcases hop with h0 | ⟨ob, off, hp, hob, hcs⟩
      · omega
      obtain ⟨y0, y1, y2, y3, y4⟩ := hcs k hlt.1
      obtain ⟨⟨op, kd, oa, ob2, ok⟩, hX⟩ : ∃ o, X k = o := ⟨_, rfl⟩
      rw [hX] at y0 y1 y2 y3 y4
      simp only at y0 y1 y2 y3 y4
      subst hp
      have HLT := mhid hlt
      have HSZ := mhid hsz
      clear hcs hX hpk hfr hbr hbr' hlt hk hk4 hsz hob
      go_upto_region 11 with fail
      clear y0 y1 y2 y3 y4 c0 c1 c2 c3 c4
      obtain ⟨wz, hwz⟩ : ∃ wz, wr.alloc (.cells #[.int .i64 op, .int .i64 kd, .int .i64 oa, .int .i64 ob2, .int .i64 ok] 34) = wz := ⟨_, rfl⟩
      rw [hwz]
      have hnew : wz.heap[wr.heap.size]? = some (.cells #[.int .i64 op, .int .i64 kd, .int .i64 oa, .int .i64 ob2, .int .i64 ok] 34 (0, 0)) := by rw [← hwz]; exact World.alloc_heap_new wr _
      have hbz : Below wr.heap.size wr wz := by rw [← hwz]; exact (Below.refl _ wr).alloc (Nat.le_refl _) _
      obtain ⟨Z, hZ⟩ : ∃ Z, wr.heap.size = Z := ⟨_, rfl⟩
      rw [hZ] at hnew ⊢
      have CZ : Hid (∀ w : World, KT wz w → w.cell? ⟨Z, 1, none⟩ = some (.int .i64 kd) ∧ w.cell? ⟨Z, 2, none⟩ = some (.int .i64 oa) ∧ w.cell? ⟨Z, 3, none⟩ = some (.int .i64 ob2) ∧ w.cell? ⟨Z, 4, none⟩ = some (.int .i64 ok)) := fun w hk => by
        have h9 := hk Z _ _ _ hnew (by decide)
        refine ⟨?_, ?_, ?_, ?_⟩ <;> (unfold World.cell?; rw [h9]; rfl)
      have ZB : Hid (∃ cz : Array Value, wz.heap[Z]? = some (Obj.cells cz 34 (0, 0))) := ⟨_, hnew⟩
      have CS : Hid (∀ w : World, KT wz w → w.cell? ⟨SB, 0, none⟩ = some (.int .i64 (n : Int))) := fun w hk => by
        have h8 : ScAt wz SB n w1 r0 r1 (some ⟨ob, off, none⟩) N c := (hbz.block _ (lt_of_block hsc)).trans hsc
        have h9 := hk SB _ _ _ h8 (by decide)
        unfold World.cell?; rw [h9]; rfl
      have hpz := HM.out.1.later hbz
      have hbb : Below B W1 wz := HM.out.2.2.trans (hbz.mono HSZ.out)
      have hzs : B ≤ wz.heap.size := Nat.le_trans HSZ.out hbz.size
      have HZ := mhid (And.intro hpz (And.intro hbb hzs))
      have ht : k ≤ 1000 := by have := HLT.out; omega
      obtain ⟨hn0, hn, hr, hN⟩ := HR.out
      obtain ⟨z1, z2, z3, z4⟩ := CZ.out wz (KT.refl _)
      have cs := CS.out wz (KT.refl _)
      have MK : Hid (∀ (w9 : World) (ph9 fl9 : Nat → Int) (H9 : Nat → Nat → Nat → Hf) (L9 : List Lt) (G9 : Nat → Ft), PK w9 B hb wb bb n r0 byKw R ph9 fl9 H9 L9 fb N G9 (k + 1) → FR L9 G9 N (k + 1) → Below B wz w9 → (∃ (k' : Nat) (ph fl : Nat → Int) (H : Nat → Nat → Nat → Hf) (L : List Lt) (G : Nat → Ft), Value.int .i64 ((k : Int) + 1) = .int .i64 (k' : Int) ∧ k' ≤ N ∧ k' ≤ 400 ∧ PK w9 B hb wb bb n r0 byKw R ph fl H L fb N G k' ∧ FR L G N k' ∧ Below B W1 w9)) := fun w9 ph9 fl9 H9 L9 G9 a1 a2 a3 => ⟨k + 1, ph9, fl9, H9, L9, G9, rfl, HLT.out.1, HLT.out.2, a1, a2, HZ.out.2.1.trans a3⟩
      have hre := hpz.re
      clear hwz hnew hbz hpz hbb hzs hsc hn0
      by_cases e1 : kd = 1
      · subst e1
        rcases send_pk (B := B) (hb := hb) (wb := wb) (bb := bb) (cmp := byKw) (R := R) (fl := fl) (fb := fb) (N := N) (G := G) hn hr ht hre oa ob2 ok with ⟨x, y, rfl, rfl, hx, hy, HS⟩ | ⟨z, fl', hz0, hwhy, HS⟩
        · have HPH : Hid (∀ (w9 w8 : World) (H9 : Nat → Nat → Nat → Hf) (L9 : List Lt), PK w9 B hb wb bb n r0 byKw R ph fl H9 L9 fb N G (k + 1) → Below w9.heap.size w9 w8 → Calls Try.prog 19 #[.pointer (some ⟨hb, 0, none⟩), .int .i64 (x : Int)] w8 fun e W' => e = .returned (.int .i64 (ph x)) ∧ W' = w8) := fun w9 w8 H9 L9 h9 hb9 => phase_yes hb wb bb n r0 x hx byKw ph fl w8 (h9.later hb9).mp.p (h9.later hb9).mp.wk
          have hp0 := hre.lo x hx
          obtain ⟨px, hpx⟩ : ∃ px, ph x = px := ⟨_, rfl⟩
          rw [hpx] at HS HPH hp0
          have HSW := HS wz HZ.out.1 HZ.out.2.2
          have HP0 := mhid (And.intro hp0 hpx)
          have HLIM := mhid hre.lim
          have HKN : Hid (k < N) := HLT.out.1
          clear HS hp0 hpx hre hn hr hN cs hx hy
          go_upto_region 16 with (go_at_call 15; (with_reducible refine HSW.mono ?_); rintro e9 w9 ⟨rfl, b9, H', p9, t9⟩; obtain ⟨z1, z2, z3, z4⟩ := CZ.out w9 t9; have P9 := mhid (And.intro p9 (And.intro b9 t9)); clear p9 b9 t9)
          clear z1 z4
          have fz : ∀ j, w9.frozen? ⟨fb, j, none⟩ = false := fun j => by obtain ⟨cr, hcr, _⟩ := P9.out.1.fo.block; exact frz hcr _
          obtain ⟨r0', r1', r2', r3', r4', r5'⟩ := ftc P9.out.1.fo HKN.out
          clear HSW
          go_region_law (refine step_phase rfl 105 107 rfl (.pointer (some ⟨hb, 0, none⟩)) (.int .i64 (x : Int)) (by simp [Act.eval, Act.put]) (by simp [Act.eval, Act.put]) _ (HPH.out w9 _ _ _ P9.out.1 (drewB _)) ?_; rintro e8 w8 ⟨rfl, h8⟩; subst h8; refine ⟨_, rfl, ?_⟩)
          all_goals (
            go_wp2_with fail
            exact ⟨MK.out _ _ _ _ _ _ (P9.out.1.put k x y px true false 0).1 (HM.out.2.1.send HKN.out HLIM.out x y px ok HP0.out.1) (P9.out.2.1.trans (P9.out.1.put k x y px true false 0).2), hme⟩)
        · as_aux_lemma =>
            have HSW := HS wz HZ.out.1 HZ.out.2.2
            have zq : (z == 0) = false := by simpa using hz0
            have HER : Hid (∀ (x : Nat) (w9 : World), x < n → PK w9 B hb wb bb n r0 byKw R ph fl' H L fb N G (k + 1) → Calls Try.prog 20 #[.pointer (some ⟨hb, 0, none⟩), .int .i64 (x : Int)] w9 fun e W' => e = .returned (.int .i64 (fl' x)) ∧ W' = w9) := fun x w9 hx h9 => err_yes hb wb bb n r0 x hx byKw ph fl' w9 h9.mp.p h9.mp.wk
            clear HS hz0 hre hn hr hN
            rcases hwhy with (hx | hx) | ⟨x, hx, rfl, hf⟩
            · have dx : decide (oa < 0) = true := by simpa using hx
              clear hx
              go_wp2_with (first | (go_at_call 15; (with_reducible refine HSW.mono ?_); rintro e9 w9 ⟨rfl, b9, p9, t9⟩; obtain ⟨z1, z2, z3, z4⟩ := CZ.out w9 t9; have cs := CS.out w9 t9; have P9 := mhid (And.intro p9 b9); clear p9 b9 t9))
              exact ⟨MK.out _ _ _ _ _ _ P9.out.1 HM.out.2.1.up P9.out.2, hme⟩
            · have dx : decide (oa < 0) = false := by simp; omega
              have dy : decide ((n : Int) ≤ oa) = true := by simpa using hx
              clear hx
              go_wp2_with (first | (go_at_call 15; (with_reducible refine HSW.mono ?_); rintro e9 w9 ⟨rfl, b9, p9, t9⟩; obtain ⟨z1, z2, z3, z4⟩ := CZ.out w9 t9; have cs := CS.out w9 t9; have P9 := mhid (And.intro p9 b9); clear p9 b9 t9))
              exact ⟨MK.out _ _ _ _ _ _ P9.out.1 HM.out.2.1.up P9.out.2, hme⟩
            · have dx : decide ((x : Int) < 0) = false := by simp
              have dy : decide ((n : Int) ≤ (x : Int)) = false := by simp; omega
              have dyn : decide (n ≤ x) = false := by simp; omega
              obtain ⟨fx, hfx⟩ : ∃ fx, fl' x = fx := ⟨_, rfl⟩
              have HE9 : Hid (∀ (w9 : World), PK w9 B hb wb bb n r0 byKw R ph fl' H L fb N G (k + 1) → Calls Try.prog 20 #[.pointer (some ⟨hb, 0, none⟩), .int .i64 (x : Int)] w9 fun e W' => e = .returned (.int .i64 fx) ∧ W' = w9) := fun w9 h9 => by rw [← hfx]; exact HER.out x w9 hx h9
              have fq : (fx != 0) = true := by rw [hfx] at hf; simpa using hf
              clear hx hf hfx HER
              go_wp2_with (first | (go_at_call 15; (with_reducible refine HSW.mono ?_); rintro e9 w9 ⟨rfl, b9, p9, t9⟩; obtain ⟨z1, z2, z3, z4⟩ := CZ.out w9 t9; have cs := CS.out w9 t9; have P9 := mhid (And.intro p9 b9); clear p9 b9 t9) | (go_at_call 20; (with_reducible refine (HE9.out w9 P9.out.1).mono ?_); rintro e8 w8 ⟨rfl, h8⟩; subst h8))
              exact ⟨MK.out _ _ _ _ _ _ P9.out.1 HM.out.2.1.up P9.out.2, hme⟩
      · have q1 : (kd == 1) = false := by simpa using e1
        by_cases e2 : kd = 2
        · subst e2
          as_aux_lemma =>
            have HF := flip_pk hn ht oa wz HZ.out.1 HZ.out.2.2
            clear hre hn hr hN
            go_wp2_with (go_at_call 16; (with_reducible refine HF.mono ?_); rintro e9 w9 ⟨⟨zz, rfl⟩, b9, ph', p9, t9⟩)
            exact ⟨MK.out _ _ _ _ _ _ p9 HM.out.2.1.up b9, hme⟩
        · have q2 : (kd == 2) = false := by simpa using e2
          by_cases e3 : kd = 4
          · subst e3
            rcases drain_pk (B := B) (hb := hb) (wb := wb) (bb := bb) (cmp := byKw) (R := R) (fl := fl) (fb := fb) (N := N) (G := G) hn ht hre byK_sorts oa with ⟨x, rfl, hx, HD⟩ | ⟨z, hz0, HD⟩
            · as_aux_lemma =>
                obtain ⟨px, hpx⟩ : ∃ px, ph x = px := ⟨_, rfl⟩
                have hplo := hre.lo x hx
                have hphi := hre.hi x hx
                rw [hpx] at HD hplo hphi
                have HDW := HD wz HZ.out.1 HZ.out.2.2
                have ew : IntKind.i64.wrap (px - 1) = px - 1 := by rw [IntKind.wrap_i64]; omega
                have HPH : Hid (∀ (w9 : World) (H9 : Nat → Nat → Nat → Hf) (L9 : List Lt) (G9 : Nat → Ft) (t9 : Nat), PK w9 B hb wb bb n r0 byKw R ph fl H9 L9 fb N G9 t9 → Calls Try.prog 19 #[.pointer (some ⟨hb, 0, none⟩), .int .i64 (x : Int)] w9 fun e W' => e = .returned (.int .i64 px) ∧ W' = w9) := fun w9 H9 L9 G9 t9 h9 => by rw [← hpx]; exact phase_yes hb wb bb n r0 x hx byKw ph fl w9 h9.mp.p h9.mp.wk
                have HIN := mhid (And.intro hre.inc (And.intro hre.lim hN))
                have HW := mhid ew
                clear HD hpx hplo hphi hre hn hr hN cs
                go_upto_region 23 with (first | (go_at_call 17; (with_reducible refine HDW.mono ?_); rintro e9 w9 ⟨g, S, d, H', rfl, o9, hS, b9, ⟨p9, t9⟩, hd, hne⟩; obtain ⟨z1, z2, z3, z4⟩ := CZ.out w9 t9; have HP9 := HPH.out w9 _ _ _ _ p9; have P9 := mhid (And.intro p9 (And.intro b9 (And.intro t9 (And.intro o9 (And.intro hS (And.intro hd hne)))))); clear p9 b9 t9 o9 hS hd hne) | (go_at_call 19; (with_reducible refine HP9.mono ?_); rintro e8 w8 ⟨rfl, h8⟩; have h8' := h8.symm; subst h8'))
                have HC9 := came_any B B fb N S (some ⟨g, 0, none⟩) S G d (x : Int) px w9 P9.out.1.fo P9.out.2.2.2.1 (by rw [HW.out]; exact HM.out.2.1.dg x (px - 1) P9.out.2.2.2.2.2.1 P9.out.2.2.2.2.2.2) (by have := P9.out.2.2.2.2.1; omega)
                have HL8 : Hid (∀ (w8 : World) (G' : Nat → Ft), Own w8 B 56 6 (.slice (some ⟨fb, 0, none⟩) N N) N (ftF G') → CA G d S G' → Calls Try.prog 24 #[.slice (some ⟨fb, 0, none⟩) N N, .int .i64 (-1), .int .i64 (x : Int), .int .i64 (px - 1), .int .i64 (px - 1)] w8 fun e W' => e = .returned (.int .i64 0) ∧ Below w8.heap.size w8 W') := fun w8 G' h8 c8 => (lying_any (-1) (x : Int) (px - 1) (px - 1) B fb N G' w8 h8 HIN.out.2.2).mono fun e W' ⟨a1, a2⟩ => ⟨by rw [a1, FR.left (HM.out.2.1.drain HIN.out.1 HIN.out.2.1 x (px - 1) P9.out.2.2.2.2.2.1 c8) HIN.out.1]; rfl, a2⟩
                have zfb : Hid (∀ w8, BlA (fun k => k = fb) w9.heap.size w9 w8 → w8.cell? ⟨Z, 2, none⟩ = some (.int .i64 (x : Int))) := fun w8 h8 => by
                  obtain ⟨cr, hcr, _⟩ := P9.out.1.fo.block
                  obtain ⟨cz, hcz⟩ := ZB.out
                  have hz9 := P9.out.2.2.1 Z _ _ _ hcz (by decide)
                  have hne : Z ≠ fb := typ_ne hz9 hcr (by decide)
                  exact (World.cell?_of_block (a := ⟨Z, 2, none⟩) (h8.block Z (lt_of_block hz9) hne)).trans z2
                clear HDW HP9 z1 z3 z4
                go_wp2_with (first | (go_at_call 23; (with_reducible refine HC9.mono ?_); rintro e8 w8 ⟨rfl, bl8, sz8, G', o8, ca8⟩; have z8 := zfb.out w8 bl8; have HL := HL8.out w8 G' o8 ca8; have P8 := mhid (And.intro bl8 (And.intro sz8 (And.intro o8 ca8))); clear bl8 sz8 o8 ca8) | (go_at_call 24; (with_reducible refine HL.mono ?_); rintro e7 w7 ⟨rfl, b7⟩; have B7 := mhid b7; clear b7))
                have hb9 : B ≤ w9.heap.size := Nat.le_trans HZ.out.2.2 P9.out.2.1.size
                exact ⟨MK.out _ _ _ _ _ _ ((P9.out.1.fates P8.out.2.2.1 (fun j h1 h2 => P8.out.1.block j h1 h2)).later B7.out) (HM.out.2.1.drain HIN.out.1 HIN.out.2.1 x (px - 1) P9.out.2.2.2.2.2.1 P8.out.2.2.2) ((P9.out.2.1.trans (bla_below P8.out.1 hb9 (P9.out.1.fo.lt fb rfl).1)).trans (B7.out.mono (by rw [P8.out.2.1]; exact hb9))), hme⟩
            · as_aux_lemma =>
                have HDW := HD wz HZ.out.1 HZ.out.2.2
                have zq : (z == 0) = false := by simpa using hz0
                obtain ⟨pz, _, _, HPH⟩ := phase_pk (B := B) (hb := hb) (wb := wb) (bb := bb) (n := n) (room := r0) (cmp := byKw) (R := R) (ph := ph) oa
                have HC : Hid (∀ w9 : World, PK w9 B hb wb bb n r0 byKw R ph fl H L fb N G (k + 1) → Calls Try.prog 23 #[.slice (some ⟨fb, 0, none⟩) N N, .slice none 0 0, .int .i64 oa, .int .i64 pz] w9 fun e W' => e = .returned (.bool true) ∧ BlA (fun k => k = fb) w9.heap.size w9 W' ∧ PK W' B hb wb bb n r0 byKw R ph fl H L fb N G (k + 1)) := fun w9 h9 => (came_any B B fb N 0 none 0 G (fun _ => (0, 0)) oa pz w9 h9.fo ⟨rfl, .inl ⟨rfl, rfl⟩⟩ ⟨fun i hi => absurd hi (Nat.not_lt_zero _), fun p q hp => absurd hp (Nat.not_lt_zero _)⟩ (by omega)).mono fun e W' ⟨a1, a2, a3, G', a4, a5⟩ => ⟨a1, a2, by rw [← a5.nil]; exact h9.fates a4 fun j h1 h2 => a2.block j h1 h2⟩
                clear HD hz0 hre hn hr hN cs
                go_wp2_with (first | (go_at_call 17; (with_reducible refine HDW.mono ?_); rintro e9 w9 ⟨rfl, b9, p9, t9⟩; obtain ⟨z1, z2, z3, z4⟩ := CZ.out w9 t9; have HP9 := HPH w9 _ _ _ _ _ _ _ p9; have HC9 := HC.out w9 p9; have P9 := mhid (And.intro p9 b9); clear p9 b9 t9) | (go_at_call 19; (with_reducible refine HP9.mono ?_); rintro e8 w8 ⟨rfl, h8⟩; subst h8) | (go_at_call 23; (with_reducible refine HC9.mono ?_); rintro e7 w7 ⟨rfl, b7, p7⟩; have P7 := mhid (And.intro p7 b7); clear p7 b7))
                exact ⟨MK.out _ _ _ _ _ _ P7.out.1 HM.out.2.1.up (P9.out.2.trans (bla_below P7.out.2 (Nat.le_trans HZ.out.2.2 P9.out.2.size) (P9.out.1.fo.lt fb rfl).1)), hme⟩
          · have q3 : (kd == 4) = false := by simpa using e3
            by_cases e4 : kd = 5
            · subst e4
              rcases drop_pk (B := B) (hb := hb) (wb := wb) (bb := bb) (cmp := byKw) (R := R) (fl := fl) (fb := fb) (N := N) (G := G) hn ht hre oa with ⟨x, rfl, hx, HD⟩ | ⟨hx, HD⟩
              · as_aux_lemma =>
                  obtain ⟨px, hpx⟩ : ∃ px, ph x = px := ⟨_, rfl⟩
                  have hplo := hre.lo x hx
                  rw [hpx] at HD hplo
                  obtain ⟨m, hm⟩ : ∃ m, L.countP (dq x px) = m := ⟨_, rfl⟩
                  rw [hm] at HD
                  have HDW := HD wz HZ.out.1 HZ.out.2.2
                  have HPH : Hid (∀ (w9 : World) (fl9 : Nat → Int) (H9 : Nat → Nat → Nat → Hf) (L9 : List Lt) (G9 : Nat → Ft) (t9 : Nat), PK w9 B hb wb bb n r0 byKw R ph fl9 H9 L9 fb N G9 t9 → Calls Try.prog 19 #[.pointer (some ⟨hb, 0, none⟩), .int .i64 (x : Int)] w9 fun e W' => e = .returned (.int .i64 px) ∧ W' = w9) := fun w9 fl9 H9 L9 G9 t9 h9 => by rw [← hpx]; exact phase_yes hb wb bb n r0 x hx byKw ph fl9 w9 h9.mp.p h9.mp.wk
                  have HL : Hid (∀ w8 : World, Own w8 B 56 6 (.slice (some ⟨fb, 0, none⟩) N N) N (ftF G) → Calls Try.prog 24 #[.slice (some ⟨fb, 0, none⟩) N N, .int .i64 (x : Int), .int .i64 (-1), .int .i64 px, .int .i64 px] w8 fun e W' => e = .returned (.int .i64 (m : Int)) ∧ Below w8.heap.size w8 W') := fun w8 h8 => (lying_any (x : Int) (-1) px px B fb N G w8 h8 hN).mono fun e W' ⟨a1, a2⟩ => ⟨by rw [a1, HM.out.2.1.dropC hre.inc x px, hm], a2⟩
                  have HIN := mhid (And.intro hre.inc (And.intro hre.lim hpx))
                  have mm : ((m : Int) == (m : Int)) = true := by simp
                  clear HD hpx hplo hm hre hn hr hN cs
                  go_upto_region 30 with (first | (go_at_call 18; (with_reducible refine HDW.mono ?_); rintro e9 w9 ⟨rfl, b9, fl', H', p9, t9⟩; obtain ⟨z1, z2, z3, z4⟩ := CZ.out w9 t9; have HP9 := HPH.out w9 _ _ _ _ _ p9; have HL9 := HL.out w9 p9.fo; have P9 := mhid (And.intro p9 (And.intro b9 t9)); clear p9 b9 t9) | (go_at_call 19; (with_reducible refine HP9.mono ?_); rintro e8 w8 ⟨rfl, h8⟩; subst h8) | (go_at_call 24; (with_reducible refine HL9.mono ?_); rintro e7 w7 ⟨rfl, b7⟩; have P7 := mhid (And.intro (P9.out.1.later b7) (And.intro b7 (P9.out.2.2.trans (KT.below b7)))); clear b7))
                  clear HDW HP9 HL9
                  obtain ⟨wo, hwo⟩ : ∃ wo, wo = w7 := ⟨_, rfl⟩
                  have HZ7 : Hid (∀ w8 : World, BlA (fun k => k = fb) w7.heap.size w7 w8 → w8.cell? ⟨Z, 2, none⟩ = some (.int .i64 (x : Int))) := fun w8 h8 => by
                    obtain ⟨cr, hcr, _⟩ := P7.out.1.fo.block
                    obtain ⟨cz, hcz⟩ := ZB.out
                    have hz9 := P7.out.2.2 Z _ _ _ hcz (by decide)
                    have hne : Z ≠ fb := typ_ne hz9 hcr (by decide)
                    refine (World.cell?_of_block (a := ⟨Z, 2, none⟩) (h8.block Z (lt_of_block hz9) hne)).trans ?_
                    exact (CZ.out w7 P7.out.2.2).2.1
                  subst hwo
                  clear z1 z2 z3 z4
                  go_wp2_with fail
                  go_loopw [15] (fun y wr => ∃ (j : Nat) (Gj : Nat → Ft), y = .int .i64 (j : Int) ∧ j ≤ k ∧ Own wr B 56 6 (.slice (some ⟨fb, 0, none⟩) N N) N (ftF Gj) ∧ TB G j (x : Int) px Gj ∧ BlA (fun k => k = fb) wo.heap.size wo wr) (fun y _ => k - (intOf y).toNat)
                  case atStart => exact ⟨0, G, rfl, Nat.zero_le _, P7.out.1.fo, TB.zero _ _ _, ⟨rfl, rfl, rfl, Nat.le_refl _, fun _ _ _ => rfl⟩⟩
                  case round =>
                    obtain ⟨j, Gj, rfl, hj, hoj, htb, hbl⟩ := hrel
                    have z2 := HZ7.out wr hbl
                    by_cases hjk : j < k
                    · have dj : decide ((j : Int) < (k : Int)) = true := by simp; omega
                      have djn : decide (j < k) = true := by simp; omega
                      have hmj := meas hjk
                      have hkN := HLT.out.1
                      have ej : IntKind.i64.wrap ((j : Int) + 1) = (j : Int) + 1 := by have := HLT.out; rw [IntKind.wrap_i64]; omega
                      have j0 : (0 : Int) ≤ (j : Int) := by omega
                      have j1 : (j : Int) < (N : Int) := by omega
                      obtain ⟨r0', r1', r2', r3', r4', r5'⟩ := ftc hoj (show j < N by omega)
                      rw [htb.at] at r0' r2' r4'
                      have fz : ∀ i, wr.frozen? ⟨fb, i, none⟩ = false := fun i => by obtain ⟨cr, hcr, _⟩ := hoj.block; exact frz hcr _
                      obtain ⟨gf, hgf⟩ : ∃ gf, (G j).f = gf := ⟨_, rfl⟩
                      obtain ⟨gp, hgp⟩ : ∃ gp, (G j).p = gp := ⟨_, rfl⟩
                      rw [hgf] at r0'
                      rw [hgp] at r2'
                      have HJ := mhid (And.intro hjk (And.intro hoj (And.intro htb (And.intro hbl (And.intro hgf hgp)))))
                      clear hjk hoj htb hbl hj hkN hgf hgp r1' r3' r5'
                      by_cases g1 : gf = (x : Int)
                      · have b1 : (gf == (x : Int)) = true := by simpa using g1
                        have HG1 := mhid g1
                        clear g1
                        by_cases g2 : gp = px
                        · have b2 : (gp == px) = true := by simpa using g2
                          have HG2 := mhid g2
                          clear g2
                          go_upto_region 33 with fail
                          go_quiet (fail)
                          go_wp2_with fail
                          have ow := own_setF HJ.out.2.1 j 4 (by decide) { G j with b := true } (.bool true) rfl (fun i hi hi4 => by rw [HJ.out.2.2.1.at]; rcases (by omega : i = 0 ∨ i = 1 ∨ i = 2 ∨ i = 3 ∨ i = 5) with rfl | rfl | rfl | rfl | rfl <;> rfl)
                          refine ⟨⟨j + 1, _, rfl, HJ.out.1, ?_, HJ.out.2.2.1.yes (by rw [HJ.out.2.2.2.2.1]; exact HG1.out) (by rw [HJ.out.2.2.2.2.2]; exact HG2.out), ?_⟩, hmj⟩
                          · exact Own.far ow fun i hi => rfl
                          · have bl := HJ.out.2.2.2.1
                            exact ⟨bl.os, bl.tape, bl.output, by simpa [World.setCell] using bl.size, fun i h1 h2 => (Below.heap_setCell _ _ _ _ h2).trans (bl.block i h1 h2)⟩
                        · have b2 : (gp == px) = false := by simpa using g2
                          have HG2 := mhid g2
                          clear g2
                          go_upto_region 33 with fail
                          go_quiet (fail)
                          go_wp2_with fail
                          exact ⟨⟨j + 1, _, rfl, HJ.out.1, Own.far HJ.out.2.1 fun i hi => rfl, HJ.out.2.2.1.no (fun h9 => HG2.out (by rw [← HJ.out.2.2.2.2.2]; exact h9.2)), ⟨HJ.out.2.2.2.1.os, HJ.out.2.2.2.1.tape, HJ.out.2.2.2.1.output, HJ.out.2.2.2.1.size, HJ.out.2.2.2.1.block⟩⟩, hmj⟩
                      · have b1 : (gf == (x : Int)) = false := by simpa using g1
                        have HG1 := mhid g1
                        clear g1
                        go_upto_region 33 with fail
                        go_quiet (fail)
                        go_wp2_with fail
                        exact ⟨⟨j + 1, _, rfl, HJ.out.1, Own.far HJ.out.2.1 fun i hi => rfl, HJ.out.2.2.1.no (fun h9 => HG1.out (by rw [← HJ.out.2.2.2.2.1]; exact h9.1)), ⟨HJ.out.2.2.2.1.os, HJ.out.2.2.2.1.tape, HJ.out.2.2.2.1.output, HJ.out.2.2.2.1.size, HJ.out.2.2.2.1.block⟩⟩, hmj⟩
                    · have dj : decide ((j : Int) < (k : Int)) = false := by simp; omega
                      have djn : decide (j < k) = false := by simp; omega
                      obtain rfl : k = j := by omega
                      have HJ := mhid (And.intro hoj (And.intro htb hbl))
                      clear hoj htb hbl hj hjk
                      go_wp2_with fail
                      exact ⟨MK.out _ _ _ _ _ _ (P7.out.1.fates HJ.out.1 (fun i h1 h2 => HJ.out.2.2.block i h1 h2)) (HM.out.2.1.drop HIN.out.1 HIN.out.2.1 x px HJ.out.2.1) ((P9.out.2.1.trans (P7.out.2.1.mono (Nat.le_trans HZ.out.2.2 P9.out.2.1.size))).trans (bla_below HJ.out.2.2 (Nat.le_trans HZ.out.2.2 (Nat.le_trans P9.out.2.1.size P7.out.2.1.size)) (P7.out.1.fo.lt fb rfl).1)), hme⟩
              · as_aux_lemma =>
                  have HDW := HD wz HZ.out.1
                  have HPH := phase_no hb wb bb n r0 oa hx byKw wz HZ.out.1.mp.p
                  have HL : Calls Try.prog 24 #[.slice (some ⟨fb, 0, none⟩) N N, .int .i64 oa, .int .i64 (-1), .int .i64 (-1), .int .i64 (-1)] wz fun e W' => e = .returned (.int .i64 0) ∧ Below wz.heap.size wz W' := (lying_any oa (-1) (-1) (-1) B fb N G wz HZ.out.1.fo hN).mono fun e W' ⟨a1, a2⟩ => ⟨by rw [a1, HM.out.2.1.noneC oa]; rfl, a2⟩
                  clear HD hre hn hr hN cs hx
                  go_upto_region 30 with (first | (go_at_call 18; (with_reducible refine HDW.mono ?_); rintro e9 w9 ⟨rfl, h9⟩; subst h9) | (go_at_call 19; (with_reducible refine HPH.mono ?_); rintro e8 w8 ⟨rfl, h8⟩; subst h8) | (go_at_call 24; (with_reducible refine HL.mono ?_); rintro e7 w7 ⟨rfl, b7⟩; have P7 := mhid (And.intro (HZ.out.1.later b7) (And.intro b7 (KT.below b7))); clear b7))
                  clear HDW HPH HL
                  obtain ⟨wo, hwo⟩ : ∃ wo, wo = w7 := ⟨_, rfl⟩
                  have HZ7 : Hid (∀ w8 : World, BlA (fun k => k = fb) w7.heap.size w7 w8 → w8.cell? ⟨Z, 2, none⟩ = some (.int .i64 oa)) := fun w8 h8 => by
                    obtain ⟨cr, hcr, _⟩ := P7.out.1.fo.block
                    obtain ⟨cz, hcz⟩ := ZB.out
                    have hz9 := P7.out.2.2 Z _ _ _ hcz (by decide)
                    have hne : Z ≠ fb := typ_ne hz9 hcr (by decide)
                    refine (World.cell?_of_block (a := ⟨Z, 2, none⟩) (h8.block Z (lt_of_block hz9) hne)).trans ?_
                    exact (CZ.out w7 P7.out.2.2).2.1
                  subst hwo
                  clear z1 z2 z3 z4
                  go_wp2_with fail
                  go_loopw [15] (fun y wr => ∃ (j : Nat) (Gj : Nat → Ft), y = .int .i64 (j : Int) ∧ j ≤ k ∧ Own wr B 56 6 (.slice (some ⟨fb, 0, none⟩) N N) N (ftF Gj) ∧ TB G j oa (-1) Gj ∧ BlA (fun k => k = fb) wo.heap.size wo wr) (fun y _ => k - (intOf y).toNat)
                  case atStart => exact ⟨0, G, rfl, Nat.zero_le _, P7.out.1.fo, TB.zero _ _ _, ⟨rfl, rfl, rfl, Nat.le_refl _, fun _ _ _ => rfl⟩⟩
                  case round =>
                    obtain ⟨j, Gj, rfl, hj, hoj, htb, hbl⟩ := hrel
                    have z2 := HZ7.out wr hbl
                    by_cases hjk : j < k
                    · have dj : decide ((j : Int) < (k : Int)) = true := by simp; omega
                      have djn : decide (j < k) = true := by simp; omega
                      have hmj := meas hjk
                      have hkN := HLT.out.1
                      have ej : IntKind.i64.wrap ((j : Int) + 1) = (j : Int) + 1 := by have := HLT.out; rw [IntKind.wrap_i64]; omega
                      have j0 : (0 : Int) ≤ (j : Int) := by omega
                      have j1 : (j : Int) < (N : Int) := by omega
                      obtain ⟨r0', r1', r2', r3', r4', r5'⟩ := ftc hoj (show j < N by omega)
                      rw [htb.at] at r0' r2' r4'
                      have fz : ∀ i, wr.frozen? ⟨fb, i, none⟩ = false := fun i => by obtain ⟨cr, hcr, _⟩ := hoj.block; exact frz hcr _
                      obtain ⟨gf, hgf⟩ : ∃ gf, (G j).f = gf := ⟨_, rfl⟩
                      obtain ⟨gp, hgp⟩ : ∃ gp, (G j).p = gp := ⟨_, rfl⟩
                      rw [hgf] at r0'
                      rw [hgp] at r2'
                      have HJ := mhid (And.intro hjk (And.intro hoj (And.intro htb (And.intro hbl (And.intro hgf hgp)))))
                      clear hjk hoj htb hbl hj hkN hgf hgp r1' r3' r5'
                      by_cases g1 : gf = oa
                      · have b1 : (gf == oa) = true := by simpa using g1
                        have HG1 := mhid g1
                        clear g1
                        by_cases g2 : gp = (-1)
                        · have b2 : (gp == (-1)) = true := by simpa using g2
                          have HG2 := mhid g2
                          clear g2
                          go_upto_region 33 with fail
                          go_quiet (fail)
                          go_wp2_with fail
                          have ow := own_setF HJ.out.2.1 j 4 (by decide) { G j with b := true } (.bool true) rfl (fun i hi hi4 => by rw [HJ.out.2.2.1.at]; rcases (by omega : i = 0 ∨ i = 1 ∨ i = 2 ∨ i = 3 ∨ i = 5) with rfl | rfl | rfl | rfl | rfl <;> rfl)
                          refine ⟨⟨j + 1, _, rfl, HJ.out.1, ?_, HJ.out.2.2.1.yes (by rw [HJ.out.2.2.2.2.1]; exact HG1.out) (by rw [HJ.out.2.2.2.2.2]; exact HG2.out), ?_⟩, hmj⟩
                          · exact Own.far ow fun i hi => rfl
                          · have bl := HJ.out.2.2.2.1
                            exact ⟨bl.os, bl.tape, bl.output, by simpa [World.setCell] using bl.size, fun i h1 h2 => (Below.heap_setCell _ _ _ _ h2).trans (bl.block i h1 h2)⟩
                        · have b2 : (gp == (-1)) = false := by simpa using g2
                          have HG2 := mhid g2
                          clear g2
                          go_upto_region 33 with fail
                          go_quiet (fail)
                          go_wp2_with fail
                          exact ⟨⟨j + 1, _, rfl, HJ.out.1, Own.far HJ.out.2.1 fun i hi => rfl, HJ.out.2.2.1.no (fun h9 => HG2.out (by rw [← HJ.out.2.2.2.2.2]; exact h9.2)), ⟨HJ.out.2.2.2.1.os, HJ.out.2.2.2.1.tape, HJ.out.2.2.2.1.output, HJ.out.2.2.2.1.size, HJ.out.2.2.2.1.block⟩⟩, hmj⟩
                      · have b1 : (gf == oa) = false := by simpa using g1
                        have HG1 := mhid g1
                        clear g1
                        go_upto_region 33 with fail
                        go_quiet (fail)
                        go_wp2_with fail
                        exact ⟨⟨j + 1, _, rfl, HJ.out.1, Own.far HJ.out.2.1 fun i hi => rfl, HJ.out.2.2.1.no (fun h9 => HG1.out (by rw [← HJ.out.2.2.2.2.1]; exact h9.1)), ⟨HJ.out.2.2.2.1.os, HJ.out.2.2.2.1.tape, HJ.out.2.2.2.1.output, HJ.out.2.2.2.1.size, HJ.out.2.2.2.1.block⟩⟩, hmj⟩
                    · have dj : decide ((j : Int) < (k : Int)) = false := by simp; omega
                      have djn : decide (j < k) = false := by simp; omega
                      obtain rfl : k = j := by omega
                      have HJ := mhid (And.intro hoj (And.intro htb hbl))
                      clear hoj htb hbl hj hjk
                      go_wp2_with fail
                      have e9 := TB.none HM.out.2.1 (by decide) HJ.out.2.1
                      exact ⟨MK.out _ _ _ _ _ _ (PK.mk (P7.out.1.fates HJ.out.1 (fun i h1 h2 => HJ.out.2.2.block i h1 h2)).mp P7.out.1.re.up HJ.out.1) (by rw [e9]; exact HM.out.2.1.up) ((P7.out.2.1.mono HZ.out.2.2).trans (bla_below HJ.out.2.2 (Nat.le_trans HZ.out.2.2 P7.out.2.1.size) (P7.out.1.fo.lt fb rfl).1)), hme⟩
            · have q4 : (kd == 5) = false := by simpa using e4
              clear hn hr hN hre
              go_wp2_with fail
              exact ⟨MK.out _ _ _ _ _ _ ⟨HZ.out.1.mp, HZ.out.1.re.up, HZ.out.1.fo⟩ HM.out.2.1.up (Below.refl _ _), hme⟩
    · have HT := mhid (And.intro hk hk4)
      have stop : (decide ((k : Int) < (N : Int)) = false ∧ decide (k < N) = false) ∨ ((decide ((k : Int) < (N : Int)) = true ∧ decide (k < N) = true) ∧ (decide ((k : Int) < 400) = false ∧ decide (k < 400) = false)) := by
        by_cases h8 : k < N
        · exact .inr ⟨⟨by simp; omega, by simp; omega⟩, by simp; omega, by simp; omega⟩
        · exact .inl ⟨by simp; omega, by simp; omega⟩
      clear hsc hop hpk hfr hbr hbr' hk hk4 hlt
      rcases stop with ⟨dl, dln⟩ | ⟨⟨dl, dln⟩, dl4, dl4n⟩
      all_goals (
        go_upto_region 37 with fail
        clear dl dln
        try clear dl4 dl4n
        clear c0 c1 c2 c3 c4
        as_aux_lemma =>
          go_wp2_with fail
          go_loopw [16] (fun y wr => ∃ j : Nat, y = .int .i64 (j : Int) ∧ j ≤ n ∧ PK wr B hb wb bb n r0 byKw R ph fl H L fb N G k ∧ Below B W1 wr) (fun y _ => n - (intOf y).toNat)
          case atStart => exact ⟨0, rfl, Nat.zero_le _, HM.out.1, HM.out.2.2⟩
          case round =>
            obtain ⟨j, rfl, hj, hpk, hbr⟩ := hrel
            have HP := mhid (And.intro hpk hbr)
            obtain ⟨hsc, _⟩ := HLA.out wr hbr
            obtain ⟨c0, c1, c2, c3, c4⟩ := hsc.cells
            by_cases hlt : j < n
            · have dl : decide ((j : Int) < (n : Int)) = true := by simp; omega
              have dln : decide (j < n) = true := by simp; omega
              have hme := meas hlt
              have hn := HR.out.2.1
              have ek : IntKind.i64.wrap ((j : Int) + 1) = (j : Int) + 1 := by rw [IntKind.wrap_i64]; omega
              obtain ⟨m, hm⟩ : ∃ m, L.countP (cm (-1) j (-1)) = m := ⟨_, rfl⟩
              have mm : ((m : Int) != (m : Int)) = false := by simp
              have HWT : Calls Try.prog 25 #[.pointer (some ⟨hb, 0, none⟩), .int .i64 (j : Int)] wr fun e W' => e = .returned (.tuple #[.int .i64 (m : Int), .int .i64 0]) ∧ W' = wr := (waiting_yes _ _ _ _ _ j hlt hn _ _ _ wr hpk.mp.bx).mono fun e W' ⟨a1, a2⟩ => ⟨by rw [a1, hpk.re.waitN hlt, hm], a2⟩
              have HLY : Calls Try.prog 24 #[.slice (some ⟨fb, 0, none⟩) N N, .int .i64 (-1), .int .i64 (j : Int), .int .i64 0, .int .i64 1152921504606846976] wr fun e W' => e = .returned (.int .i64 (m : Int)) ∧ Below wr.heap.size wr W' := (lying_any (-1) (j : Int) 0 1152921504606846976 B fb N G wr hpk.fo HR.out.2.2.2).mono fun e W' ⟨a1, a2⟩ => ⟨by rw [a1, HM.out.2.1.waitC hpk.re (by have := HT.out.2; omega) j, hm], a2⟩
              have HLT := mhid hlt
              have HS : Hid (B ≤ wr.heap.size) := by have h1 := hbr.size; have h2 := HBB.out; show B ≤ wr.heap.size; omega
              clear hsc hpk hbr hlt hj hn hm
              go_wp2_with (first | (go_at_call 25; (with_reducible refine HWT.mono ?_); rintro e8 w8 ⟨rfl, h8⟩; subst h8) | (go_at_call 24; (with_reducible refine HLY.mono ?_); rintro e7 w7 ⟨rfl, b7⟩))
              exact ⟨⟨j + 1, rfl, HLT.out, HP.out.1.later b7, HP.out.2.trans (b7.mono HS.out)⟩, hme⟩
            · have dl : decide ((j : Int) < (n : Int)) = false := by simp; omega
              have dln : decide (j < n) = false := by simp; omega
              clear hsc hpk hbr hlt hj
              go_wp2_with fail
              go_ret
              exact ⟨rfl, HB1.out.trans (HP.out.2.mono (by have := HBB.out; have := HB1.out.size; omega))⟩
        )
end Go.Proofs.Ytkfjcbnhohipgaa
