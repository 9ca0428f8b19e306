import Derived.Test.YtlklolmhaiaaiaaKY20
namespace Go.Proofs.Ytlklolmhaiaaiaa
open Go.ChangeShapes Go.WideShapes Go.ChangeAt Go.RowKit
set_option linter.unusedVariables false

/-! ### the way to a time -/
def sdT (u : Int) (E : Nat → Ev) : Tr → Int
  | .nil => 2
  | .node _ p _ => if u ≤ (E p).t then 0 else 1
theorem side_sdT (u : Int) (E : Nat → Ev) : Side (sdT u E) := fun l p r => by
  by_cases h : u ≤ (E p).t
  · exact .inl (if_pos h)
  · exact .inr (.inl (if_neg h))
def TBx (W : World) (tb : Nat) (u : Int) : Prop := W.heap[tb]? = some (.cells #[.int .u64 u] 28 (0, 0))
theorem TBx.cell {W : World} {tb : Nat} {u : Int} (h : TBx W tb u) : W.cell? ⟨tb, 0, none⟩ = some (.int .u64 u) := by
  unfold TBx at h
  unfold World.cell?
  rw [h]
  rfl
set_option maxRecDepth 100000 in
set_option maxHeartbeats 4000000 in
theorem toTime1_any (tb pb base qb g c n : Nat) (A : Ar) (f r s m k : Int) (u : Int) (p : Nat) (W : World) (h : QW W base qb g c n A f r s m k) (hT : TBx W tb u) (hP : PBx W pb qb) (hp : p < n) (hn : n ≤ 8193) :
    Calls Try.prog 69 #[.int .i64 (p : Int), .pointer (some ⟨pb, 0, none⟩), .pointer (some ⟨tb, 0, none⟩)] W fun e W' => e = .returned (.int .i64 (if u ≤ (A.E p).t then 0 else 1)) ∧ Below W.heap.size W W' := by
  obtain ⟨q0, q1, q2, q3, q4, q5⟩ := h.cells
  have t0 := hT.cell
  have p0 := hP.cell
  have i0 : (0 : Int) ≤ (p : Int) := by omega
  have i1 : (p : Int) < (n : Int) := by omega
  have x0 : W.cell? ⟨g, p * 8, none⟩ = some (.int .u64 (A.E p).t) := h.nd hp 0 (by decide)
  by_cases hz : u ≤ (A.E p).t
  · have dz : decide (u ≤ (A.E p).t) = true := by simpa using hz
    rw [if_pos hz]
    clear hz
    go_enter Try.func69, Try.ntmps69
    go_wp2
    go_quiet (fail)
    go_wp2
    go_ret
    exact ⟨rfl, below_drewNq _ _ _⟩
  · have dz : decide (u ≤ (A.E p).t) = false := by simpa using hz
    rw [if_neg hz]
    clear hz
    go_enter Try.func69, Try.ntmps69
    go_wp2
    go_quiet (fail)
    go_wp2
    go_ret
    exact ⟨rfl, below_drewNq _ _ _⟩
set_option maxRecDepth 100000 in
set_option maxHeartbeats 4000000 in
theorem toTime_any (qb : Nat) (u : Int) (W : World) :
    Calls Try.prog 47 #[.pointer (some ⟨qb, 0, none⟩), .int .u64 u] W fun e W' => e = .returned (.func (.func 69) #[] #[.pointer (some ⟨W.heap.size, 0, none⟩), .pointer (some ⟨W.heap.size + 1, 0, none⟩)]) ∧ TBx W' (W.heap.size + 1) u ∧ PBx W' W.heap.size qb ∧ Below W.heap.size W W' := by
  go_enter Try.func47, Try.ntmps47
  go_wp2
  go_ret
  refine ⟨rfl, ?_, ?_, ((Below.refl _ W).alloc (Nat.le_refl _) _).alloc (by simp) _⟩
  · have := World.alloc_heap_new (W.alloc (.cells #[.pointer (some ⟨qb, 0, none⟩)] 23)) (.cells #[.int .u64 u] 28)
    rw [World.size_alloc] at this
    exact this
  · show _ = _
    rw [Below.heap_alloc _ _ _ (by simp)]
    exact World.alloc_heap_new W _
theorem enterT (args : Array Value) (W : World) : Sem.run Try.prog (callFunc 69 args) W = .ok (.enter 69 args) W := by go_simp
theorem wayT {base qb g c n : Nat} {A : Ar} {f r s m : Int} {tb pb : Nat} {u : Int} {W : World} (hT : TBx W tb u) (hP : PBx W pb qb) (h1 : tb ≠ qb ∧ tb ≠ g) (h2 : pb ≠ qb ∧ pb ≠ g) (hn : n ≤ 8193) : WayOk 69 #[.pointer (some ⟨pb, 0, none⟩), .pointer (some ⟨tb, 0, none⟩)] base qb g c n A f r s m (sdT u A.E) W := by
  intro W2 A2 wk t q hc hq hE hl hq0 hqn
  obtain ⟨l, r', rfl, _, _⟩ := Tr.lies_node hl hq0
  have hT2 : TBx W2 tb u := (hc.block tb (lt_of_block hT) (by rintro (e | e); exact h1.1 e; exact h1.2 e)).trans hT
  have hP2 : PBx W2 pb qb := (hc.block pb (lt_of_block hP) (by rintro (e | e); exact h2.1 e; exact h2.2 e)).trans hP
  have h := toTime1_any tb pb base qb g c n A2 f r s m wk u q W2 hq hT2 hP2 hqn hn
  rw [hE] at h
  exact h
end Go.Proofs.Ytlklolmhaiaaiaa
namespace Go.Proofs.Ytlklolmhaiaaiaa
open Go.ChangeShapes Go.WideShapes Go.ChangeAt Go.RowKit
set_option linter.unusedVariables false
set_option linter.unusedSimpArgs false

/-- so many spots of the tree that is cut off have been given out -/
structure SJ (base b0 qb g c n : Nat) (A : Ar) (E : Nat → Ev) (f : Nat) (r : Int) (s : Nat) (m k : Int) (lb pb : Nat) (sn : List (Nat × Nat)) (lv : Value) (W : World) : Prop where
  q : QW W base qb g c n A f r s m k
  p : PBx W pb qb
  l : W.heap[lb]? = some (.cells #[lv] 27 (0, 0))
  row : Own W b0 64 6 lv sn.length (evF E sn)
  n1 : lb ≠ qb ∧ lb ≠ g ∧ lb ≠ pb ∧ pb ≠ qb ∧ pb ≠ g
  n2 : ∀ k, lv.ownBlock = some k → k ≠ qb ∧ k ≠ g ∧ k ≠ lb ∧ k ≠ pb
theorem SJ.later {base b0 qb g c n : Nat} {A : Ar} {E : Nat → Ev} {f : Nat} {r : Int} {s : Nat} {m k : Int} {lb pb : Nat} {sn : List (Nat × Nat)} {lv : Value} {W W' : World} (h : SJ base b0 qb g c n A E f r s m k lb pb sn lv W) (hF : ∀ k, LF qb g lb pb lv k → W'.heap[k]? = W.heap[k]?) : SJ base b0 qb g c n A E f r s m k lb pb sn lv W' :=
  ⟨⟨h.q.box.far fun k e => by cases e; exact hF _ (.inl rfl), h.q.row.far fun k e => by cases e; exact hF _ (.inr (.inl rfl)), h.q.ne⟩, (hF _ (.inr (.inr (.inr (.inl rfl))))).trans h.p, (hF _ (.inr (.inr (.inl rfl)))).trans h.l, h.row.far fun k hk => hF k (.inr (.inr (.inr (.inr hk)))), h.n1, h.n2⟩
theorem SJ.ltF {base b0 qb g c n : Nat} {A : Ar} {E : Nat → Ev} {f : Nat} {r : Int} {s : Nat} {m k : Int} {lb pb : Nat} {sn : List (Nat × Nat)} {lv : Value} {W : World} (h : SJ base b0 qb g c n A E f r s m k lb pb sn lv W) : ∀ k, LF qb g lb pb lv k → k < W.heap.size := by
  rintro k (rfl | rfl | rfl | rfl | hk)
  · exact h.q.lt.1.1
  · exact h.q.lt.2.1
  · exact lt_of_block h.l
  · exact lt_of_block h.p
  · exact (Own.lt h.row k hk).2
set_option maxRecDepth 100000 in
set_option maxHeartbeats 4000000 in
theorem split1_any (base b0 qb g c n : Nat) (A : Ar) (E : Nat → Ev) (f : Nat) (r : Int) (s : Nat) (m k : Int) (lb pb : Nat) (sn : List (Nat × Nat)) (lv : Value) (p d : Nat) (W : World) (h : SJ base b0 qb g c n A E f r s m k lb pb sn lv W) (hE : A.E p = E p) (hp : p < n) (hn : n ≤ 8193) (hs : 0 < s ∧ s ≤ 8192) (hl : sn.length ≤ 8192) (hb0 : b0 ≤ W.heap.size) :
    Calls Try.prog 48 #[.agg #[.int .i64 (p : Int), .int .i64 (d : Int)], .pointer (some ⟨lb, 0, none⟩), .pointer (some ⟨pb, 0, none⟩)] W fun e W' => e = .returned (.tuple #[]) ∧ ∃ lv', SJ base b0 qb g c n (A.set p ev0 f 0) E p r (s - 1) m k lb pb (sn ++ [(p, d)]) lv' W' ∧ (lv'.ownBlock = lv.ownBlock ∨ ∃ k9, lv'.ownBlock = some k9 ∧ W.heap.size ≤ k9) ∧ Ch (LF qb g lb pb lv) W W' := by
  obtain ⟨i6, hi6, ha6, hb6, hc6⟩ := qinfo infoEV
  obtain ⟨WB, hwB⟩ : ∃ WB, W.alloc (.cells #[.int .i64 (p : Int), .int .i64 (d : Int)] 61) = WB := ⟨_, rfl⟩
  have HW : Hid (W.alloc (.cells #[.int .i64 (p : Int), .int .i64 (d : Int)] 61) = WB) := hwB
  have hbB : Below W.heap.size W WB := by rw [← hwB]; exact (Below.refl _ W).alloc (Nat.le_refl _) _
  have hsB : WB.heap[W.heap.size]? = some (.cells #[.int .i64 (p : Int), .int .i64 (d : Int)] 61 (0, 0)) := by rw [← hwB]; exact World.alloc_heap_new W _
  have hzB : WB.heap.size = W.heap.size + 1 := by rw [← hwB, World.size_alloc]
  clear hwB
  have hB := h.later (W' := WB) fun k hk => hbB.block k (h.ltF k hk)
  have p0 := hB.p.cell
  have l0 := one_c hB.l
  obtain ⟨s0, s1⟩ := q2c hsB
  obtain ⟨gw, cw, hlv⟩ : ∃ gw cw, lv = .slice gw sn.length cw := by
    rcases h.row.form with ⟨h1, h2⟩ | ⟨g9, c9, h1, _⟩
    · exact ⟨none, 0, by rw [h1, h2]⟩
    · exact ⟨_, _, h1⟩
  subst hlv
  have HLV := leave_any base qb g c n A f r s m k p WB.drew (hB.q.later (below_drewNq _ WB 1)) hp hn hs
  rw [hE] at HLV
  unfold evV at HLV
  go_enter Try.func48, Try.ntmps48
  go_wp2_with fail
  rw [HW.out]
  have p1' : sn.length + 1 ≤ maxLen := by unfold maxLen; omega
  have p2' : (sn.length + 1) * 48 ≤ 140737488355328 := by omega
  go_region_law (first | (refine step_append_own rfl (.tmp 4) (.tmp 9) 27 rfl b0 64 i6 _ 6 48 Try.underlying27 hi6 ha6 hb6 hc6 rfl (by decide) (.slice gw sn.length cw) sn.length _ (by simp [Act.eval]) HO.out ⟨w1.heap.size, 0, none⟩ 1 1 (evL (E p)) (by simp [Act.eval]) rfl hA6.out (by simp [evL, Value.oneCell']) p1' p2' (by rw [World.size_alloc]; have := hC1.size; have h7 : WB.drew.heap.size = WB.heap.size := rfl; omega) ?_; intro v' w6 hown' hgrow hat; obtain ⟨g6, c6, hv6, hO6, hg6⟩ := list_row d hown' hat; subst hv6; have hbl : w6.heap[lb]? = WB.heap[lb]? := (hgrow.block lb (by rw [World.size_alloc]; exact Nat.lt_succ_of_lt (Nat.lt_of_lt_of_le (lt_of_block hB.l) hC1.size)) (fun e => (h.n2 lb e.symm).2.2.1 rfl)).trans ((hbA.block lb (Nat.lt_of_lt_of_le (lt_of_block hB.l) hC1.size)).trans hf1); have n0 : w6.cell? ⟨lb, 0, none⟩ = some (.slice gw sn.length cw) := (World.cell?_of_block hbl).trans l0; have nfz := frz (hbl.trans hB.l) 0) | (go_simp; (with_reducible refine HLV.mono ?_); rintro e w1 ⟨rfl, hQ1, hC1⟩; have hf1 : w1.heap[lb]? = WB.heap[lb]? := hC1.block lb (lt_of_block hB.l) (by rintro (e | e); exact h.n1.1 e; exact h.n1.2.1 e); have l1 : w1.cell? ⟨lb, 0, none⟩ = some (.slice gw sn.length cw) := one_c (hf1.trans hB.l); have hr1 : Own w1 b0 64 6 (.slice gw sn.length cw) sn.length (evF E sn) := hB.row.far (fun k9 hk => hC1.block k9 (Own.lt hB.row k9 hk).2 (by have h8 := h.n2 k9 hk; rintro (e | e); exact h8.1 e; exact h8.2.1 e)); have hbA : Below w1.heap.size w1 (w1.alloc (.cells #[.int .u64 (E p).t, .int .i64 (E p).s, .int .u64 (E p).q, .int .i64 (E p).d, .int .i64 (E p).k, .int .i64 (E p).v] 64)) := (Below.refl _ w1).alloc (Nat.le_refl _) _; have lA : (w1.alloc (.cells #[.int .u64 (E p).t, .int .i64 (E p).s, .int .u64 (E p).q, .int .i64 (E p).d, .int .i64 (E p).k, .int .i64 (E p).v] 64)).cell? ⟨lb, 0, none⟩ = some (.slice gw sn.length cw) := (World.cell?_of_block (hbA.block lb (by have := lt_of_block hB.l; have := hC1.size; exact Nat.lt_of_lt_of_le (lt_of_block hB.l) hC1.size))).trans l1; have HO : Hid ((w1.alloc (.cells #[.int .u64 (E p).t, .int .i64 (E p).s, .int .u64 (E p).q, .int .i64 (E p).d, .int .i64 (E p).k, .int .i64 (E p).v] 64)).ownsRow b0 64 6 (.slice gw sn.length cw) sn.length (cellsF (evF E sn) (sn.length * 6))) := hr1.later hbA; have hA6 : Hid (∀ j u, (evL (E p))[j]? = some u → (w1.alloc (.cells #[.int .u64 (E p).t, .int .i64 (E p).s, .int .u64 (E p).q, .int .i64 (E p).d, .int .i64 (E p).k, .int .i64 (E p).v] 64)).cell? ((⟨w1.heap.size, 0, none⟩ : Addr).add j) = some u) := fun j u hj => cells_new w1 (evL (E p)) 64 j u hj))
  all_goals
    have hzD : (World.alloc w1 (.cells #[.int .u64 (E p).t, .int .i64 (E p).s, .int .u64 (E p).q, .int .i64 (E p).d, .int .i64 (E p).k, .int .i64 (E p).v] 64)).heap.size = w1.heap.size + 1 := World.size_alloc _ _
    have hs1 : WB.heap.size ≤ w1.heap.size := hC1.size
    have a1 := hQ1.lt.1.1
    have a2 := hQ1.lt.2.1
    have a3 := hB.ltF lb (.inr (.inr (.inl rfl)))
    have a4 := hB.ltF pb (.inr (.inr (.inr (.inl rfl))))
    have hn1 := h.n1
    have hgg : ∀ k9, k9 < w1.heap.size → (Value.slice gw sn.length cw).ownBlock ≠ some k9 → w6.heap[k9]? = w1.heap[k9]? := fun k9 h1 h2 => (hgrow.block k9 (by rw [hzD]; omega) (fun e => h2 e.symm)).trans (hbA.block k9 h1)
    have hg6n : g6 ≠ qb ∧ g6 ≠ g ∧ g6 ≠ lb ∧ g6 ≠ pb := by
      rcases hg6 with h2 | h2
      · exact h.n2 g6 h2
      · have h3 : g6 = w1.heap.size + 1 := h2.trans hzD
        omega
    have far : ∀ k9, k9 < w1.heap.size → (Value.slice gw sn.length cw).ownBlock ≠ some k9 → k9 ≠ lb → (w6.setCell ⟨lb, 0, none⟩ (.slice (some ⟨g6, 0, none⟩) (sn.length + 1) c6)).heap[k9]? = w1.heap[k9]? := fun k9 h1 h2 h3 => (Below.heap_setCell _ _ _ _ h3).trans (hgg k9 h1 h2)
    have hnq : ∀ k9, k9 = qb ∨ k9 = g ∨ k9 = pb → (Value.slice gw sn.length cw).ownBlock ≠ some k9 := fun k9 hk e => by
      have := h.n2 k9 e
      rcases hk with rfl | rfl | rfl
      · exact this.1 rfl
      · exact this.2.1 rfl
      · exact this.2.2.2 rfl
    have h9 : Below 0 _ w6 := (Below.refl 0 _).grown hgrow (Nat.zero_le _) (fun _ _ => Nat.zero_le _)
    have hsz6 : (w6.setCell ⟨lb, 0, none⟩ (.slice (some ⟨g6, 0, none⟩) (sn.length + 1) c6)).heap.size = w6.heap.size := by simp [World.setCell]
    have h4 : w1.heap.size + 1 ≤ w6.heap.size := by rw [← hzD]; exact hgrow.size
    go_end0
    refine ⟨rfl, _, ⟨⟨hQ1.box.far fun k9 e => (by cases e; exact far qb a1 (hnq qb (.inl rfl)) (fun e => hn1.1 e.symm)), hQ1.row.far fun k9 e => (by cases e; exact far g a2 (hnq g (.inr (.inl rfl))) (fun e => hn1.2.1 e.symm)), h.q.ne⟩, (far pb (by omega) (hnq pb (.inr (.inr rfl))) (fun e => hn1.2.2.1 e.symm)).trans ((hC1.block pb a4 (by rintro (e | e); exact hn1.2.2.2.1 e; exact hn1.2.2.2.2 e)).trans hB.p), ?_, hO6.far fun k9 e => (by cases e; exact Below.heap_setCell _ _ _ _ hg6n.2.2.1), hn1, fun k9 e => (by cases e; exact hg6n)⟩, ?_, ?_⟩
    · rw [setCell_block _ _ _ _ (hbl.trans hB.l)]
      rfl
    · rcases hg6 with h2 | h2
      · exact .inl h2.symm
      · exact .inr ⟨g6, rfl, by have h3 : g6 = w1.heap.size + 1 := h2.trans hzD; omega⟩
    · refine ⟨((h9.os.trans hbA.os).trans hC1.os).trans hbB.os, ((h9.tape.trans hbA.tape).trans hC1.tape).trans hbB.tape, ((h9.output.trans hbA.output).trans hC1.output).trans hbB.output, by rw [hsz6]; omega, fun k9 hk hs9 => ((far k9 (by omega) (fun e => hs9 (.inr (.inr (.inr (.inr e))))) (fun e => hs9 (.inr (.inr (.inl e))))).trans (hC1.block k9 (show k9 < WB.heap.size by omega) (by rintro (e | e); exact hs9 (.inl e); exact hs9 (.inr (.inl e))))).trans (hbB.block k9 hk)⟩
end Go.Proofs.Ytlklolmhaiaaiaa
namespace Go.Proofs.Ytlklolmhaiaaiaa
open Go.ChangeShapes Go.WideShapes Go.ChangeAt Go.RowKit
set_option linter.unusedVariables false
set_option linter.unusedSimpArgs false

theorem enterSp (args : Array Value) (W : World) : Sem.run Try.prog (callFunc 48 args) W = .ok (.enter 48 args) W := by go_simp
/-- the free places, when those of sn are given out -/
def flS (sn : List (Nat × Nat)) (fl : List Nat) : List Nat := (sn.map Prod.fst).reverse ++ fl
theorem flS_push (sn : List (Nat × Nat)) (fl : List Nat) (p d : Nat) : flS (sn ++ [(p, d)]) fl = p :: flS sn fl := by
  simp [flS]
def SJJ (base b0 qb g c n : Nat) (A : Ar) (fl : List Nat) (r : Int) (s0 : Nat) (m k : Int) (lb pb : Nat) (sn : List (Nat × Nat)) (F : Nat → Prop) (W : World) : Prop :=
  ∃ A' lv, SJ base b0 qb g c n A' A.E ((flS sn fl).headD 0) r (s0 - sn.length) m k lb pb sn lv W ∧ F = LF qb g lb pb lv ∧ b0 ≤ W.heap.size ∧ (∀ p, p ∉ sn.map Prod.fst → A'.E p = A.E p ∧ A'.L p = A.L p ∧ A'.R p = A.R p) ∧ FLs A'.L (flS sn fl)
theorem seeSplit (base b0 qb g c n : Nat) (A : Ar) (fl : List Nat) (r : Int) (s0 : Nat) (m k : Int) (lb pb : Nat) (t0 : Tr) (hn : n ≤ 8193) (hin : ∀ p ∈ t0.ps, p < n) (hnd : (t0.ps ++ fl).Nodup) (hsz : t0.size ≤ s0 ∧ s0 ≤ 8192) : SeeOk 48 #[.pointer (some ⟨lb, 0, none⟩), .pointer (some ⟨pb, 0, none⟩)] base qb g c n A (t0.spots 0) (SJJ base b0 qb g c n A fl r s0 m k lb pb) := by
  have hnd2 := List.nodup_append.1 hnd
  refine ⟨?_, ?_, ?_, ?_⟩
  · rintro sn F W ⟨A', lv, h, rfl, _⟩ k hk
    exact h.ltF k hk
  · rintro sn F W W' ⟨A', lv, h, rfl, hb, ho, hf⟩ hF hs
    exact ⟨A', lv, h.later hF, rfl, Nat.le_trans hb hs, ho, hf⟩
  · rintro sn F W ⟨A', lv, h, rfl, _, ho, _⟩
    exact ⟨.inl rfl, .inr (.inl rfl), A', _, _, _, _, _, h.q, fun p hp => (ho p hp).2⟩
  · rintro sn F W p d rest ⟨A', lv, h, rfl, hb, ho, hf⟩ htot
    have hlen : sn.length + 1 ≤ t0.size := by
      have := congrArg List.length htot
      rw [spots_len] at this
      simp at this
      omega
    have hpt := mem_tot htot
    have hps := new_tot hnd2.1 htot
    have hpf : p ∉ flS sn fl := by
      intro h9
      rcases List.mem_append.1 h9 with h8 | h8
      · exact hps (List.mem_reverse.1 h8)
      · exact hnd2.2.2 p hpt p h8 rfl
    refine (split1_any base b0 qb g c n A' A.E _ r (s0 - sn.length) m k lb pb sn lv p d W h (ho p hps).1 (hin p hpt) hn (by omega) (by omega) hb).mono ?_
    rintro e W' ⟨rfl, lv', h', hat, hC⟩
    have hne : ∀ q, q ≠ p → (A'.set p ev0 ((flS sn fl).headD 0) 0).E q = A'.E q ∧ (A'.set p ev0 ((flS sn fl).headD 0) 0).L q = A'.L q ∧ (A'.set p ev0 ((flS sn fl).headD 0) 0).R q = A'.R q := fun q hq => ⟨by show updE _ _ _ q = _; unfold updE; rw [if_neg hq], upd_ne _ _ hq, upd_ne _ _ hq⟩
    refine ⟨rfl, LF qb g lb pb lv', ⟨A'.set p ev0 ((flS sn fl).headD 0) 0, lv', ?_, rfl, Nat.le_trans hb hC.size, fun q hq => ?_, ?_⟩, ?_, hC⟩
    · rw [flS_push, show s0 - (sn ++ [(p, d)]).length = s0 - sn.length - 1 by simp; omega]
      exact h'
    · have h1 : q ∉ sn.map Prod.fst := fun h9 => hq (by simp only [List.map_append, List.mem_append]; exact .inl h9)
      have h2 : q ≠ p := fun h9 => hq (by subst h9; simp)
      have h3 := hne q h2
      have h4 := ho q h1
      exact ⟨h3.1.trans h4.1, h3.2.1.trans h4.2.1, h3.2.2.trans h4.2.2⟩
    · rw [flS_push]
      exact ⟨upd_at _ _ _, FLs.congr hf fun q hq => (hne q (fun h9 => hpf (h9 ▸ hq))).2.1⟩
    · rintro k9 (rfl | rfl | rfl | rfl | hk)
      · exact .inl (.inl rfl)
      · exact .inl (.inr (.inl rfl))
      · exact .inl (.inr (.inr (.inl rfl)))
      · exact .inl (.inr (.inr (.inr (.inl rfl))))
      · rcases hat with h2 | ⟨k8, h2, h3⟩
        · exact .inl (.inr (.inr (.inr (.inr (h2 ▸ hk)))))
        · rw [h2] at hk
          have := Option.some.inj hk
          exact .inr (by omega)
end Go.Proofs.Ytlklolmhaiaaiaa
