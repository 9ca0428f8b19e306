import Derived.Test.YtkfjcbnhohipgaaB3
namespace Go.Proofs.Ytkfjcbnhohipgaa
open Go.ChangeShapes Go.WideShapes Go.ChangeAt Go.RowKit
set_option linter.unusedVariables false
set_option linter.unusedSimpArgs false

set_option maxRecDepth 100000 in
theorem half0 (b o : Nat) (W : World) : Calls Try.prog 32 #[.pointer (some ⟨b, o, none⟩), .int .i64 0] W fun e W' => e = .returned (.pointer (some ⟨b, o, none⟩)) ∧ W' = W := by
  go_enter Try.func32, Try.ntmps32
  go_wp2
  go_ret
  exact ⟨rfl, rfl⟩
theorem NP.wk {W : World} {base hb wb bb n : Nat} {room : Int} {cmp : Value} {R : Nat → Nat} {k : Nat} (h : NP W base hb wb bb n room cmp R k) : WK W wb n (fun _ => 0) (fun _ => 0) := fun i hi => ⟨h.w.cell (j := i * 2) (by omega), h.w.cell (j := i * 2 + 1) (by omega)⟩
theorem NP.bx {W : World} {base hb wb bb n : Nat} {room : Int} {cmp : Value} {R : Nat → Nat} (h : NP W base hb wb bb n room cmp R n) : BX W hb wb bb n room cmp R (fun _ _ _ => 0) := ⟨h.p, fun i hi => by have := h.b.cell (j := i) (by omega); rw [if_pos hi] at this; exact this, fun i j hi hj => ⟨none, 0, none, 0, (h.r i hi).cell (j := j * 2) (by omega), (h.r i hi).cell (j := j * 2 + 1) (by omega)⟩, fun _ _ _ => by omega⟩
theorem NP.later {W W' : World} {base hb wb bb n : Nat} {room : Int} {cmp : Value} {R : Nat → Nat} {k : Nat} (h : NP W base hb wb bb n room cmp R k) (hb' : Below W.heap.size W W') : NP W' base hb wb bb n room cmp R k := ⟨(hb'.block _ (lt_of_block h.p)).trans h.p, h.w.later hb', h.b.later hb', fun i hi => (h.r i hi).later hb', h.ap, h.hbs⟩
theorem NP.sent {W : World} {base hb wb bb n : Nat} {room : Int} {cmp : Value} {R : Nat → Nat} (h : NP W base hb wb bb n room cmp R n) (x : Nat) (hx : x < n) (g c : Nat) : BX (W.setCell ⟨R x, x * 2, none⟩ (.slice (some ⟨g, 0, none⟩) 1 c)) hb wb bb n room cmp R (fun i j h => if i = x ∧ j = x ∧ h = 0 then 1 else 0) := by
  obtain ⟨cr, hcr, _⟩ := (h.r x hx).block
  obtain ⟨cb, hcb, _⟩ := h.b.block
  have hset : ∀ j, j ≠ R x → (W.setCell ⟨R x, x * 2, none⟩ (.slice (some ⟨g, 0, none⟩) 1 c)).heap[j]? = W.heap[j]? := fun j hj => Below.heap_setCell _ _ _ _ hj
  refine ⟨(hset hb (typ_ne h.p hcr (by decide))).trans h.p, fun i hi => ?_, fun i j hi hj => ?_, fun i j h => by split <;> omega⟩
  · have := h.b.cell (j := i) (by omega)
    rw [if_pos hi] at this
    exact (World.cell?_of_block (hset bb (typ_ne hcb hcr (by decide)))).trans this
  · by_cases e : i = x
    · subst e
      have hp := (h.r i hi).put (i * 2) [.slice (some ⟨g, 0, none⟩) 1 c]
      have a0 := hp.cell (j := j * 2) (by omega)
      have a1 := hp.cell (j := j * 2 + 1) (by omega)
      unfold putF at a0 a1
      by_cases e2 : j = i
      · subst e2
        rw [if_pos (by simp)] at a0
        rw [if_neg (by simp)] at a1
        simp at a0
        refine ⟨some ⟨g, 0, none⟩, c, none, 0, ?_, ?_⟩
        · rw [if_pos ⟨rfl, rfl, rfl⟩]; exact a0
        · rw [if_neg (by simp)]; exact a1
      · rw [if_neg (by simp; omega)] at a0 a1
        refine ⟨none, 0, none, 0, ?_, ?_⟩
        · rw [if_neg (by simp; omega)]; exact a0
        · rw [if_neg (by simp)]; exact a1
    · have hne : R i ≠ R x := fun e2 => e (h.ap i x hi hx e2)
      refine ⟨none, 0, none, 0, ?_, ?_⟩
      · rw [if_neg (by simp [e])]; exact (World.cell?_of_block (hset (R i) hne)).trans ((h.r i hi).cell (j := j * 2) (by omega))
      · rw [if_neg (by simp)]; exact (World.cell?_of_block (hset (R i) hne)).trans ((h.r i hi).cell (j := j * 2 + 1) (by omega))
set_option maxRecDepth 100000 in
set_option maxHeartbeats 4000000 in
theorem send_new (x n : Nat) (hx : x < n) {base hb wb bb : Nat} {room : Int} (hr : 1 ≤ room) {cmp : Value} {R : Nat → Nat} (W : World) (h : NP W base hb wb bb n room cmp R n) (hbase : base ≤ W.heap.size) :
    Calls Try.prog 15 #[.pointer (some ⟨hb, 0, none⟩), .int .i64 (x : Int), .int .i64 (x : Int), .agg #[.int .i64 2, .int .i64 0]] W fun e W' => e = .returned (.int .i64 0) ∧ BX W' hb wb bb n room cmp R (fun i j h => if i = x ∧ j = x ∧ h = 0 then 1 else 0) ∧ Below base W W' := by
  obtain ⟨iT, hT1, hT2, hT3, hT4⟩ := binfo infoTH
  have i0 : (0 : Int) ≤ (x : Int) := by omega
  have i1 : (x : Int) < (n : Int) := by omega
  obtain ⟨wA, hwA⟩ : ∃ wA, W.alloc (.cells #[.int .i64 2, .int .i64 0] 31) = wA := ⟨_, rfl⟩
  have hbA : Below W.heap.size W wA := by rw [← hwA]; exact (Below.refl _ W).alloc (Nat.le_refl _) _
  have hNA := h.later hbA
  have t0 : wA.heap[W.heap.size]? = some (.cells #[.int .i64 2, .int .i64 0] 31 (0, 0)) := by rw [← hwA]; exact World.alloc_heap_new W _
  have HWA : Hid (W.alloc (.cells #[.int .i64 2, .int .i64 0] 31) = wA) := hwA
  have HE := err_yes hb wb bb n room x hx cmp _ _ wA hNA.p hNA.wk
  have HK := knows_yes hb wb bb n room x hx cmp wA hNA.p
  obtain ⟨c0, c1, c2, c3⟩ := hNA.p.cells
  have y0 := (hNA.bx).b x hx
  have y1 := (hNA.r x hx).cell (j := x * 2) (by omega)
  have y2 := (hNA.wk x hx).1
  have u0 : wA.cell? ⟨W.heap.size, 0, none⟩ = some (.int .i64 2) := by unfold World.cell?; rw [t0]; rfl
  have u1 : wA.cell? ⟨W.heap.size, 1, none⟩ = some (.int .i64 0) := by unfold World.cell?; rw [t0]; rfl
  have dr : ((0 : Int) == room) = false := by simp; omega
  clear hwA hbA
  have HN : Hid (NP wA base hb wb bb n room cmp R n) := hNA
  clear h hNA t0
  go_enter Try.func15, Try.ntmps15
  go_upto_region 6 with (first | (go_at_call 20; rw [HWA.out]; (with_reducible refine HE.mono ?_); rintro e w1 ⟨rfl, h9⟩; subst h9) | (go_at_call 30; (with_reducible refine HK.mono ?_); rintro e w1 ⟨rfl, h9⟩; subst h9))
  go_quiet ((go_at_call 32; refine Calls.quiet_of_same (half0 _ _ _)))
  go_wp2
  go_quiet (fail)
  go_wp2
  generalize hw3 : World.drewN (World.drewN w1 _) _ = w3
  have hb3 : Below w1.heap.size w1 w3 := by rw [← hw3]; exact ⟨rfl, rfl, rfl, Nat.le_refl _, fun _ _ => rfl⟩
  have hs1 : w1.heap.size = W.heap.size + 1 := by rw [← HWA.out]; exact World.size_alloc _ _
  have hb1 : Below W.heap.size W w1 := by rw [← HWA.out]; exact (Below.refl _ W).alloc (Nat.le_refl _) _
  have hN3 := HN.out.later hb3
  have z1 := (hN3.r x hx).cell (j := x * 2) (by omega)
  have v0 : w3.cell? ⟨W.heap.size, 0, none⟩ = some (.int .i64 2) := (cell_below (a := ⟨W.heap.size, 0, none⟩) hb3 (by show W.heap.size < w1.heap.size; omega)).trans u0
  have v1 : w3.cell? ⟨W.heap.size, 1, none⟩ = some (.int .i64 0) := (cell_below (a := ⟨W.heap.size, 1, none⟩) hb3 (by show W.heap.size < w1.heap.size; omega)).trans u1
  have HB : Hid (Below w1.heap.size w1 w3 ∧ Below W.heap.size W w1 ∧ w1.heap.size = W.heap.size + 1) := ⟨hb3, hb1, hs1⟩
  have HN3 : Hid (NP w3 base hb wb bb n room cmp R n) := hN3
  have hlx := (Own.lt (hN3.r x hx) (R x) rfl).2
  clear hw3 hs1 hb1 hb3 hN3 HN c0 c1 c2 c3 y0 y1 y2 u0 u1 HE HK HWA
  have hA6 : Hid (∀ j u, ([.int .i64 2, .int .i64 0] : List Value)[j]? = some u → (w3.drew.alloc (.cells #[.int .i64 2, .int .i64 0] 31)).cell? ((⟨w3.heap.size, 0, none⟩ : Addr).add j) = some u) := fun j u hj => cells_new9 w3.drew [.int .i64 2, .int .i64 0] 31 j u hj
  have HO : Hid ((w3.drew.alloc (.cells #[.int .i64 2, .int .i64 0] 31)).ownsRow base 31 2 (.slice none 0 0) 0 []) := ⟨rfl, .inl ⟨rfl, rfl⟩⟩
  have HBB : Hid (base ≤ w3.heap.size) := by have h1 := HB.out.1.size; have h2 := HB.out.2.2; show base ≤ w3.heap.size; omega
  go_region_law (refine step_app9 rfl (.tmp 57) (.tmp 59) 76 rfl base 31 iT _ 2 16 Try.underlying76 hT1 hT2 hT3 hT4 rfl (by decide) (.slice none 0 0) 0 [] (by simp [Act.eval]) HO.out ⟨w3.heap.size, 0, none⟩ 1 1 [.int .i64 2, .int .i64 0] (by simp [Act.eval]) rfl hA6.out (by simp [Value.oneCell']) (by unfold maxLen; omega) (by omega) (by show base ≤ (World.alloc w3 _).heap.size; rw [World.size_alloc]; exact Nat.le_succ_of_le HBB.out) ?_; intro v' w6 hown' hgrow hat; have hb6 : Below w3.heap.size w3 w6 := ((show Below w3.heap.size w3 w3.drew from ⟨rfl, rfl, rfl, Nat.le_refl _, fun _ _ => rfl⟩).alloc (Nat.le_refl _) _).grown hgrow (by show w3.heap.size ≤ (World.alloc w3 _).heap.size; rw [World.size_alloc]; exact Nat.le_succ _) (by simp [Value.ownBlock]); have n0 : w6.cell? ⟨R x, x * 2, none⟩ = some (.slice none 0 0) := (cell_below (a := ⟨R x, x * 2, none⟩) hb6 hlx).trans z1; have nf : w6.frozen? ⟨R x, x * 2, none⟩ = false := (by obtain ⟨cr, hcr, _⟩ := ((HN3.out.later hb6).r x hx).block; exact frz hcr _); obtain ⟨g6, c6, hv6⟩ : ∃ g6 c6, v' = .slice (some ⟨g6, 0, none⟩) 1 c6 := (by rcases (own_of_row hown').form with ⟨_, h8⟩ | ⟨g6, c6, h8, _⟩; exact absurd h8 (by decide); exact ⟨g6, c6, h8⟩); subst hv6)
  all_goals
    go_wp2
    go_ret
    have hN6 := HN3.out.later hb6
    refine ⟨rfl, hN6.sent x hx g6 c6, ?_⟩
    obtain ⟨q1, q2, q3⟩ := HB.out
    have hB6 : Below base W w6 := ((q2.mono hbase).trans (q1.mono (by omega))).trans (hb6.mono HBB.out)
    exact hB6.setCell (p := ⟨R x, x * 2, none⟩) (Own.lt (hN6.r x hx) (R x) rfl).1 _
end Go.Proofs.Ytkfjcbnhohipgaa
