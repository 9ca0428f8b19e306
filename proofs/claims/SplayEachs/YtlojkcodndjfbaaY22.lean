import Derived.Test.YtlojkcodndjfbaaY21
namespace Go.Proofs.Ytlojkcodndjfbaa
open Go.ChangeShapes Go.WideShapes Go.ChangeAt Go.RowKit
set_option linter.unusedVariables false
set_option linter.unusedSimpArgs false

/-- so many spots of the tree that is cut off have been given out -/
structure SJ (base b0 qb g c n : Nat) (A : Ar) (E : Nat → Ev) (f : Nat) (r : Int) (s : Nat) (m k : Int) (lb pb : Nat) (sn : List (Nat × Nat)) (lv : Value) (W : World) : Prop where
  q : QW W base qb g c n A f r s m k
  p : PBx W pb qb
  l : W.heap[lb]? = some (.cells #[lv] 22 (0, 0))
  row : Own W b0 27 6 lv sn.length (evF E sn)
  n1 : lb ≠ qb ∧ lb ≠ g ∧ lb ≠ pb ∧ pb ≠ qb ∧ pb ≠ g
  n2 : ∀ k, lv.ownBlock = some k → k ≠ qb ∧ k ≠ g ∧ k ≠ lb ∧ k ≠ pb
theorem SJ.later {base b0 qb g c n : Nat} {A : Ar} {E : Nat → Ev} {f : Nat} {r : Int} {s : Nat} {m k : Int} {lb pb : Nat} {sn : List (Nat × Nat)} {lv : Value} {W W' : World} (h : SJ base b0 qb g c n A E f r s m k lb pb sn lv W) (hF : ∀ k, LF qb g lb pb lv k → W'.heap[k]? = W.heap[k]?) : SJ base b0 qb g c n A E f r s m k lb pb sn lv W' :=
  ⟨⟨h.q.box.far fun k e => by cases e; exact hF _ (.inl rfl), h.q.row.far fun k e => by cases e; exact hF _ (.inr (.inl rfl)), h.q.ne⟩, (hF _ (.inr (.inr (.inr (.inl rfl))))).trans h.p, (hF _ (.inr (.inr (.inl rfl)))).trans h.l, h.row.far fun k hk => hF k (.inr (.inr (.inr (.inr hk)))), h.n1, h.n2⟩
theorem SJ.ltF {base b0 qb g c n : Nat} {A : Ar} {E : Nat → Ev} {f : Nat} {r : Int} {s : Nat} {m k : Int} {lb pb : Nat} {sn : List (Nat × Nat)} {lv : Value} {W : World} (h : SJ base b0 qb g c n A E f r s m k lb pb sn lv W) : ∀ k, LF qb g lb pb lv k → k < W.heap.size := by
  rintro k (rfl | rfl | rfl | rfl | hk)
  · exact h.q.lt.1.1
  · exact h.q.lt.2.1
  · exact lt_of_block h.l
  · exact lt_of_block h.p
  · exact (Own.lt h.row k hk).2
set_option maxRecDepth 100000 in
set_option maxHeartbeats 4000000 in
theorem split1_any (base b0 qb g c n : Nat) (A : Ar) (E : Nat → Ev) (f : Nat) (r : Int) (s : Nat) (m k : Int) (lb pb : Nat) (sn : List (Nat × Nat)) (lv : Value) (p d : Nat) (W : World) (h : SJ base b0 qb g c n A E f r s m k lb pb sn lv W) (hE : A.E p = E p) (hp : p < n) (hn : n ≤ 8193) (hs : 0 < s ∧ s ≤ 8192) (hl : sn.length ≤ 8192) (hb0 : b0 ≤ W.heap.size) :
    Calls Try.prog 39 #[.agg #[.int .i64 (p : Int), .int .i64 (d : Int)], .pointer (some ⟨lb, 0, none⟩), .pointer (some ⟨pb, 0, none⟩)] W fun e W' => e = .returned (.tuple #[]) ∧ ∃ lv', SJ base b0 qb g c n (A.set p ev0 f 0) E p r (s - 1) m k lb pb (sn ++ [(p, d)]) lv' W' ∧ (lv'.ownBlock = lv.ownBlock ∨ ∃ k9, lv'.ownBlock = some k9 ∧ W.heap.size ≤ k9) ∧ Ch (LF qb g lb pb lv) W W' := by
  obtain ⟨i6, hi6, ha6, hb6, hc6⟩ := qinfo infoEV
  obtain ⟨WB, hwB⟩ : ∃ WB, W.alloc (.cells #[.int .i64 (p : Int), .int .i64 (d : Int)] 74) = WB := ⟨_, rfl⟩
  have HW : Hid (W.alloc (.cells #[.int .i64 (p : Int), .int .i64 (d : Int)] 74) = WB) := hwB
  have hbB : Below W.heap.size W WB := by rw [← hwB]; exact (Below.refl _ W).alloc (Nat.le_refl _) _
  have hsB : WB.heap[W.heap.size]? = some (.cells #[.int .i64 (p : Int), .int .i64 (d : Int)] 74 (0, 0)) := by rw [← hwB]; exact World.alloc_heap_new W _
  have hzB : WB.heap.size = W.heap.size + 1 := by rw [← hwB, World.size_alloc]
  clear hwB
  have hB := h.later (W' := WB) fun k hk => hbB.block k (h.ltF k hk)
  have p0 := hB.p.cell
  have l0 := one_c hB.l
  obtain ⟨s0, s1⟩ := q2c hsB
  obtain ⟨gw, cw, hlv⟩ : ∃ gw cw, lv = .slice gw sn.length cw := by
    rcases h.row.form with ⟨h1, h2⟩ | ⟨g9, c9, h1, _⟩
    · exact ⟨none, 0, by rw [h1, h2]⟩
    · exact ⟨_, _, h1⟩
  subst hlv
  have HLV := leave_any base qb g c n A f r s m k p WB.drew (hB.q.later (below_drewNq _ WB 1)) hp hn hs
  rw [hE] at HLV
  unfold evV at HLV
  go_enter Try.func39, Try.ntmps39
  go_wp2_with fail
  rw [HW.out]
  have p1' : sn.length + 1 ≤ maxLen := by unfold maxLen; omega
  have p2' : (sn.length + 1) * 48 ≤ 140737488355328 := by omega
  go_region_law (first | (refine step_append_own rfl (.tmp 4) (.tmp 9) 22 rfl b0 27 i6 _ 6 48 Try.underlying22 hi6 ha6 hb6 hc6 rfl (by decide) (.slice gw sn.length cw) sn.length _ (by simp [Act.eval]) HO.out ⟨w1.heap.size, 0, none⟩ 1 1 (evL (E p)) (by simp [Act.eval]) rfl hA6.out (by simp [evL, Value.oneCell']) p1' p2' (by rw [World.size_alloc]; have := hC1.size; have h7 : WB.drew.heap.size = WB.heap.size := rfl; omega) ?_; intro v' w6 hown' hgrow hat; obtain ⟨g6, c6, hv6, hO6, hg6⟩ := list_row d hown' hat; subst hv6; have hbl : w6.heap[lb]? = WB.heap[lb]? := (hgrow.block lb (by rw [World.size_alloc]; exact Nat.lt_succ_of_lt (Nat.lt_of_lt_of_le (lt_of_block hB.l) hC1.size)) (fun e => (h.n2 lb e.symm).2.2.1 rfl)).trans ((hbA.block lb (Nat.lt_of_lt_of_le (lt_of_block hB.l) hC1.size)).trans hf1); have n0 : w6.cell? ⟨lb, 0, none⟩ = some (.slice gw sn.length cw) := (World.cell?_of_block hbl).trans l0; have nfz := frz (hbl.trans hB.l) 0) | (go_simp; (with_reducible refine HLV.mono ?_); rintro e w1 ⟨rfl, hQ1, hC1⟩; have hf1 : w1.heap[lb]? = WB.heap[lb]? := hC1.block lb (lt_of_block hB.l) (by rintro (e | e); exact h.n1.1 e; exact h.n1.2.1 e); have l1 : w1.cell? ⟨lb, 0, none⟩ = some (.slice gw sn.length cw) := one_c (hf1.trans hB.l); have hr1 : Own w1 b0 27 6 (.slice gw sn.length cw) sn.length (evF E sn) := hB.row.far (fun k9 hk => hC1.block k9 (Own.lt hB.row k9 hk).2 (by have h8 := h.n2 k9 hk; rintro (e | e); exact h8.1 e; exact h8.2.1 e)); have hbA : Below w1.heap.size w1 (w1.alloc (.cells #[.int .u64 (E p).t, .int .i64 (E p).s, .int .u64 (E p).q, .int .i64 (E p).d, .int .i64 (E p).k, .int .i64 (E p).v] 27)) := (Below.refl _ w1).alloc (Nat.le_refl _) _; have lA : (w1.alloc (.cells #[.int .u64 (E p).t, .int .i64 (E p).s, .int .u64 (E p).q, .int .i64 (E p).d, .int .i64 (E p).k, .int .i64 (E p).v] 27)).cell? ⟨lb, 0, none⟩ = some (.slice gw sn.length cw) := (World.cell?_of_block (hbA.block lb (by have := lt_of_block hB.l; have := hC1.size; exact Nat.lt_of_lt_of_le (lt_of_block hB.l) hC1.size))).trans l1; have HO : Hid ((w1.alloc (.cells #[.int .u64 (E p).t, .int .i64 (E p).s, .int .u64 (E p).q, .int .i64 (E p).d, .int .i64 (E p).k, .int .i64 (E p).v] 27)).ownsRow b0 27 6 (.slice gw sn.length cw) sn.length (cellsF (evF E sn) (sn.length * 6))) := hr1.later hbA; have hA6 : Hid (∀ j u, (evL (E p))[j]? = some u → (w1.alloc (.cells #[.int .u64 (E p).t, .int .i64 (E p).s, .int .u64 (E p).q, .int .i64 (E p).d, .int .i64 (E p).k, .int .i64 (E p).v] 27)).cell? ((⟨w1.heap.size, 0, none⟩ : Addr).add j) = some u) := fun j u hj => cells_new w1 (evL (E p)) 27 j u hj))
  all_goals
    have hzD : (World.alloc w1 (.cells #[.int .u64 (E p).t, .int .i64 (E p).s, .int .u64 (E p).q, .int .i64 (E p).d, .int .i64 (E p).k, .int .i64 (E p).v] 27)).heap.size = w1.heap.size + 1 := World.size_alloc _ _
    have hs1 : WB.heap.size ≤ w1.heap.size := hC1.size
    have a1 := hQ1.lt.1.1
    have a2 := hQ1.lt.2.1
    have a3 := hB.ltF lb (.inr (.inr (.inl rfl)))
    have a4 := hB.ltF pb (.inr (.inr (.inr (.inl rfl))))
    have hn1 := h.n1
    have hgg : ∀ k9, k9 < w1.heap.size → (Value.slice gw sn.length cw).ownBlock ≠ some k9 → w6.heap[k9]? = w1.heap[k9]? := fun k9 h1 h2 => (hgrow.block k9 (by rw [hzD]; omega) (fun e => h2 e.symm)).trans (hbA.block k9 h1)
    have hg6n : g6 ≠ qb ∧ g6 ≠ g ∧ g6 ≠ lb ∧ g6 ≠ pb := by
      rcases hg6 with h2 | h2
      · exact h.n2 g6 h2
      · have h3 : g6 = w1.heap.size + 1 := h2.trans hzD
        omega
    have far : ∀ k9, k9 < w1.heap.size → (Value.slice gw sn.length cw).ownBlock ≠ some k9 → k9 ≠ lb → (w6.setCell ⟨lb, 0, none⟩ (.slice (some ⟨g6, 0, none⟩) (sn.length + 1) c6)).heap[k9]? = w1.heap[k9]? := fun k9 h1 h2 h3 => (Below.heap_setCell _ _ _ _ h3).trans (hgg k9 h1 h2)
    have hnq : ∀ k9, k9 = qb ∨ k9 = g ∨ k9 = pb → (Value.slice gw sn.length cw).ownBlock ≠ some k9 := fun k9 hk e => by
      have := h.n2 k9 e
      rcases hk with rfl | rfl | rfl
      · exact this.1 rfl
      · exact this.2.1 rfl
      · exact this.2.2.2 rfl
    have h9 : Below 0 _ w6 := (Below.refl 0 _).grown hgrow (Nat.zero_le _) (fun _ _ => Nat.zero_le _)
    have hsz6 : (w6.setCell ⟨lb, 0, none⟩ (.slice (some ⟨g6, 0, none⟩) (sn.length + 1) c6)).heap.size = w6.heap.size := by simp [World.setCell]
    have h4 : w1.heap.size + 1 ≤ w6.heap.size := by rw [← hzD]; exact hgrow.size
    go_end0
    refine ⟨rfl, _, ⟨⟨hQ1.box.far fun k9 e => (by cases e; exact far qb a1 (hnq qb (.inl rfl)) (fun e => hn1.1 e.symm)), hQ1.row.far fun k9 e => (by cases e; exact far g a2 (hnq g (.inr (.inl rfl))) (fun e => hn1.2.1 e.symm)), h.q.ne⟩, (far pb (by omega) (hnq pb (.inr (.inr rfl))) (fun e => hn1.2.2.1 e.symm)).trans ((hC1.block pb a4 (by rintro (e | e); exact hn1.2.2.2.1 e; exact hn1.2.2.2.2 e)).trans hB.p), ?_, hO6.far fun k9 e => (by cases e; exact Below.heap_setCell _ _ _ _ hg6n.2.2.1), hn1, fun k9 e => (by cases e; exact hg6n)⟩, ?_, ?_⟩
    · rw [setCell_block _ _ _ _ (hbl.trans hB.l)]
      rfl
    · rcases hg6 with h2 | h2
      · exact .inl h2.symm
      · exact .inr ⟨g6, rfl, by have h3 : g6 = w1.heap.size + 1 := h2.trans hzD; omega⟩
    · refine ⟨((h9.os.trans hbA.os).trans hC1.os).trans hbB.os, ((h9.tape.trans hbA.tape).trans hC1.tape).trans hbB.tape, ((h9.output.trans hbA.output).trans hC1.output).trans hbB.output, by rw [hsz6]; omega, fun k9 hk hs9 => ((far k9 (by omega) (fun e => hs9 (.inr (.inr (.inr (.inr e))))) (fun e => hs9 (.inr (.inr (.inl e))))).trans (hC1.block k9 (show k9 < WB.heap.size by omega) (by rintro (e | e); exact hs9 (.inl e); exact hs9 (.inr (.inl e))))).trans (hbB.block k9 hk)⟩
end Go.Proofs.Ytlojkcodndjfbaa
