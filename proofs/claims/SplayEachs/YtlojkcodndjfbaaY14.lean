import Derived.Test.YtlojkcodndjfbaaY13
namespace Go.Proofs.Ytlojkcodndjfbaa
open Go.ChangeShapes Go.WideShapes Go.ChangeAt Go.RowKit
set_option linter.unusedVariables false
set_option linter.unusedSimpArgs false

def evC (e : Ev) (r : Nat) : Value := (evL e).getD r undef
/-- the events of so many spots, cell by cell -/
def evF (E : Nat → Ev) (sn : List (Nat × Nat)) (x : Nat) : Value := evC (E (sn.getD (x / 6) (0, 0)).1) (x % 6)
theorem evF_push (E : Nat → Ev) (sn : List (Nat × Nat)) (p d : Nat) {j : Nat} (hj : j < (sn.length + 1) * 6) : (if j < sn.length * 6 then evF E sn j else (evL (E p)).getD (j - sn.length * 6) undef) = evF E (sn ++ [(p, d)]) j := by
  unfold evF
  by_cases h : j < sn.length * 6
  · rw [if_pos h]
    have e : (sn ++ [(p, d)]).getD (j / 6) (0, 0) = sn.getD (j / 6) (0, 0) := by
      rw [List.getD_eq_getElem?_getD, List.getD_eq_getElem?_getD, List.getElem?_append_left (by omega)]
    rw [e]
  · rw [if_neg h]
    have e : (sn ++ [(p, d)]).getD (j / 6) (0, 0) = (p, d) := by
      rw [List.getD_eq_getElem?_getD, List.getElem?_append_right (by omega), show j / 6 - sn.length = 0 by omega]
      rfl
    rw [e]
    show _ = (evL (E p)).getD (j % 6) undef
    congr 1
    omega
structure LJ (base b0 qb g c n : Nat) (A : Ar) (f r s m k : Int) (lb pb : Nat) (sn : List (Nat × Nat)) (lv : Value) (W : World) : Prop where
  q : QW W base qb g c n A f r s m k
  p : PBx W pb qb
  l : W.heap[lb]? = some (.cells #[lv] 22 (0, 0))
  row : Own W b0 27 6 lv sn.length (evF A.E sn)
  n1 : lb ≠ qb ∧ lb ≠ g ∧ lb ≠ pb ∧ pb ≠ qb ∧ pb ≠ g
  n2 : ∀ k, lv.ownBlock = some k → k ≠ qb ∧ k ≠ g ∧ k ≠ lb ∧ k ≠ pb
def LF (qb g lb pb : Nat) (lv : Value) : Nat → Prop := fun k => k = qb ∨ k = g ∨ k = lb ∨ k = pb ∨ lv.ownBlock = some k
theorem LJ.later {base b0 qb g c n : Nat} {A : Ar} {f r s m k : Int} {lb pb : Nat} {sn : List (Nat × Nat)} {lv : Value} {W W' : World} (h : LJ base b0 qb g c n A f r s m k lb pb sn lv W) (hF : ∀ k, LF qb g lb pb lv k → W'.heap[k]? = W.heap[k]?) : LJ base b0 qb g c n A f r s m k lb pb sn lv W' :=
  ⟨⟨h.q.box.far fun k e => by cases e; exact hF _ (.inl rfl), h.q.row.far fun k e => by cases e; exact hF _ (.inr (.inl rfl)), h.q.ne⟩, (hF _ (.inr (.inr (.inr (.inl rfl))))).trans h.p, (hF _ (.inr (.inr (.inl rfl)))).trans h.l, h.row.far fun k hk => hF k (.inr (.inr (.inr (.inr hk)))), h.n1, h.n2⟩
theorem LJ.ltF {base b0 qb g c n : Nat} {A : Ar} {f r s m k : Int} {lb pb : Nat} {sn : List (Nat × Nat)} {lv : Value} {W : World} (h : LJ base b0 qb g c n A f r s m k lb pb sn lv W) : ∀ k, LF qb g lb pb lv k → k < W.heap.size := by
  rintro k (rfl | rfl | rfl | rfl | hk)
  · exact h.q.lt.1.1
  · exact h.q.lt.2.1
  · exact lt_of_block h.l
  · exact lt_of_block h.p
  · exact (Own.lt h.row k hk).2
theorem one_c {W : World} {b : Nat} {c0 : Value} {t : TypeId} (h : W.heap[b]? = some (.cells #[c0] t (0, 0))) : W.cell? ⟨b, 0, none⟩ = some c0 := by
  unfold World.cell?; rw [h]; rfl
theorem list_row {w6 WD : World} {b0 : Nat} {gw : Option Addr} {cw : Nat} {E : Nat → Ev} {sn : List (Nat × Nat)} {p : Nat} (d : Nat) {v' : Value} (hown' : w6.ownsRow b0 27 6 v' (sn.length + 1) (cellsF (evF E sn) (sn.length * 6) ++ evL (E p))) (hat : v'.ownBlock = (Value.slice gw sn.length cw).ownBlock ∨ v'.ownBlock = some WD.heap.size) : ∃ g6 c6, v' = .slice (some ⟨g6, 0, none⟩) (sn.length + 1) c6 ∧ Own w6 b0 27 6 (.slice (some ⟨g6, 0, none⟩) (sn.length + 1) c6) (sn ++ [(p, d)]).length (evF E (sn ++ [(p, d)])) ∧ ((Value.slice gw sn.length cw).ownBlock = some g6 ∨ g6 = WD.heap.size) := by
  have hO6 : Own w6 b0 27 6 v' (sn ++ [(p, d)]).length (evF E (sn ++ [(p, d)])) := by
    have e6 : evL (E p) = cellsF (fun j => (evL (E p)).getD j undef) 6 := rfl
    rw [e6, cellsF_append, show sn.length * 6 + 6 = (sn.length + 1) * 6 by omega] at hown'
    rw [show (sn ++ [(p, d)]).length = sn.length + 1 by simp]
    exact Own.congr (F := fun j => if j < sn.length * 6 then evF E sn j else (evL (E p)).getD (j - sn.length * 6) undef) hown' fun j hj => evF_push E sn p d hj
  rcases hO6.form with ⟨_, h2⟩ | ⟨g6, c6, h2, _, _⟩
  · simp at h2
  · rw [show (sn ++ [(p, d)]).length = sn.length + 1 by simp] at h2
    subst h2
    refine ⟨g6, c6, rfl, hO6, ?_⟩
    rcases hat with h3 | h3
    · exact .inl h3.symm
    · exact .inr (Option.some.inj h3)
set_option maxRecDepth 100000 in
set_option maxHeartbeats 4000000 in
theorem list1_any (base b0 qb g c n : Nat) (A : Ar) (f r s m k : Int) (lb pb : Nat) (sn : List (Nat × Nat)) (lv : Value) (p d : Nat) (W : World) (h : LJ base b0 qb g c n A f r s m k lb pb sn lv W) (hp : p < n) (hn : n ≤ 8193) (hl : sn.length ≤ 8192) (hb0 : b0 ≤ W.heap.size) :
    Calls Try.prog 30 #[.agg #[.int .i64 (p : Int), .int .i64 (d : Int)], .pointer (some ⟨lb, 0, none⟩), .pointer (some ⟨pb, 0, none⟩)] W fun e W' => e = .returned (.tuple #[]) ∧ ∃ lv', LJ base b0 qb g c n A f r s m k lb pb (sn ++ [(p, d)]) lv' W' ∧ (lv'.ownBlock = lv.ownBlock ∨ ∃ k9, lv'.ownBlock = some k9 ∧ W.heap.size ≤ k9) ∧ Ch (LF qb g lb pb lv) W W' := by
  obtain ⟨i6, hi6, ha6, hb6, hc6⟩ := qinfo infoEV
  obtain ⟨WB, hwB⟩ : ∃ WB, W.alloc (.cells #[.int .i64 (p : Int), .int .i64 (d : Int)] 74) = WB := ⟨_, rfl⟩
  have HW : Hid (W.alloc (.cells #[.int .i64 (p : Int), .int .i64 (d : Int)] 74) = WB) := hwB
  have hbB : Below W.heap.size W WB := by rw [← hwB]; exact (Below.refl _ W).alloc (Nat.le_refl _) _
  have hsB : WB.heap[W.heap.size]? = some (.cells #[.int .i64 (p : Int), .int .i64 (d : Int)] 74 (0, 0)) := by rw [← hwB]; exact World.alloc_heap_new W _
  have hzB : WB.heap.size = W.heap.size + 1 := by rw [← hwB, World.size_alloc]
  clear hwB
  have hB := h.later (W' := WB) fun k hk => hbB.block k (h.ltF k hk)
  obtain ⟨q0, q1, q2, q3, q4, q5⟩ := hB.q.cells
  have p0 := hB.p.cell
  have l0 := one_c hB.l
  obtain ⟨s0, s1⟩ := q2c hsB
  have i0 : (0 : Int) ≤ (p : Int) := by omega
  have i1 : (p : Int) < (n : Int) := by omega
  have x0 : WB.cell? ⟨g, p * 8, none⟩ = some (.int .u64 (A.E p).t) := hB.q.nd hp 0 (by decide)
  have x1 : WB.cell? ⟨g, p * 8 + 1, none⟩ = some (.int .i64 (A.E p).s) := hB.q.nd hp 1 (by decide)
  have x2 : WB.cell? ⟨g, p * 8 + 2, none⟩ = some (.int .u64 (A.E p).q) := hB.q.nd hp 2 (by decide)
  have x3 : WB.cell? ⟨g, p * 8 + 3, none⟩ = some (.int .i64 (A.E p).d) := hB.q.nd hp 3 (by decide)
  have x4 : WB.cell? ⟨g, p * 8 + 4, none⟩ = some (.int .i64 (A.E p).k) := hB.q.nd hp 4 (by decide)
  have x5 : WB.cell? ⟨g, p * 8 + 5, none⟩ = some (.int .i64 (A.E p).v) := hB.q.nd hp 5 (by decide)
  obtain ⟨gw, cw, hlv⟩ : ∃ gw cw, lv = .slice gw sn.length cw := by
    rcases h.row.form with ⟨h1, h2⟩ | ⟨g9, c9, h1, _⟩
    · exact ⟨none, 0, by rw [h1, h2]⟩
    · exact ⟨_, _, h1⟩
  subst hlv
  have hsk : WB.drew.heap.size = WB.heap.size := rfl
  have hlB := hB.ltF lb (.inr (.inr (.inl rfl)))
  have HO : Hid (∀ W9, Below WB.heap.size WB W9 → W9.ownsRow b0 27 6 (.slice gw sn.length cw) sn.length (cellsF (evF A.E sn) (sn.length * 6))) := fun W9 hW => hB.row.later hW
  have p1' : sn.length + 1 ≤ maxLen := by unfold maxLen; omega
  have p2' : (sn.length + 1) * 48 ≤ 140737488355328 := by omega
  have hbs : b0 ≤ WB.heap.size := by omega
  have hA6 : Hid (∀ j u, (evL (A.E p))[j]? = some u → (WB.drew.alloc (.cells #[.int .u64 (A.E p).t, .int .i64 (A.E p).s, .int .u64 (A.E p).q, .int .i64 (A.E p).d, .int .i64 (A.E p).k, .int .i64 (A.E p).v] 27)).cell? ((⟨WB.heap.size, 0, none⟩ : Addr).add j) = some u) := fun j u hj => cells_new WB.drew (evL (A.E p)) 27 j u hj
  have kB0 : (WB.alloc (.cells #[.int .u64 (A.E p).t, .int .i64 (A.E p).s, .int .u64 (A.E p).q, .int .i64 (A.E p).d, .int .i64 (A.E p).k, .int .i64 (A.E p).v] 27)).cell? ⟨lb, 0, none⟩ = some (.slice gw sn.length cw) := (World.cell?_of_block (((Below.refl _ WB).alloc (Nat.le_refl _) _).block lb hlB)).trans l0
  have kA0 : (WB.drew.alloc (.cells #[.int .u64 (A.E p).t, .int .i64 (A.E p).s, .int .u64 (A.E p).q, .int .i64 (A.E p).d, .int .i64 (A.E p).k, .int .i64 (A.E p).v] 27)).cell? ⟨lb, 0, none⟩ = some (.slice gw sn.length cw) := (World.cell?_of_block ((belowDA WB _).block lb hlB)).trans l0
  go_enter Try.func30, Try.ntmps30
  go_wp2_with fail
  rw [HW.out]
  go_region_law ((refine step_append_own rfl (.tmp 4) (.tmp 14) 22 rfl b0 27 i6 _ 6 48 Try.underlying22 hi6 ha6 hb6 hc6 rfl (by decide) (.slice gw sn.length cw) sn.length _ (by simp [Act.eval]) (HO.out _ (belowDA WB _)) ⟨WB.heap.size, 0, none⟩ 1 1 (evL (A.E p)) (by simp [Act.eval, hsk]) rfl hA6.out (by simp [evL, Value.oneCell']) p1' p2' (by show b0 ≤ (World.alloc WB.drew _).heap.size; rw [World.size_alloc]; exact Nat.le_succ_of_le hbs) ?_; intro v' w6 hown' hgrow hat; obtain ⟨g6, c6, hv6, hO6, hg6⟩ := list_row d hown' hat; subst hv6; have hbl : w6.heap[lb]? = WB.heap[lb]? := (hgrow.block lb (by show lb < (World.alloc WB.drew _).heap.size; rw [World.size_alloc]; show _ < WB.heap.size + 1; omega) (fun e => (h.n2 lb e.symm).2.2.1 rfl)).trans ((belowDA WB _).block lb hlB); have n0 : w6.cell? ⟨lb, 0, none⟩ = some (.slice gw sn.length cw) := (World.cell?_of_block hbl).trans l0; have nfz := frz (hbl.trans hB.l) 0))
  all_goals
    have hzD : (World.alloc WB.drew (.cells #[.int .u64 (A.E p).t, .int .i64 (A.E p).s, .int .u64 (A.E p).q, .int .i64 (A.E p).d, .int .i64 (A.E p).k, .int .i64 (A.E p).v] 27)).heap.size = WB.heap.size + 1 := World.size_alloc _ _
    have hgg : ∀ k9, k9 < WB.heap.size → (Value.slice gw sn.length cw).ownBlock ≠ some k9 → w6.heap[k9]? = WB.heap[k9]? := fun k9 h1 h2 => (hgrow.block k9 (by show k9 < (World.alloc WB.drew _).heap.size; rw [World.size_alloc]; show _ < WB.heap.size + 1; omega) (fun e => h2 e.symm)).trans ((belowDA WB _).block k9 h1)
    have hg6n : g6 ≠ qb ∧ g6 ≠ g ∧ g6 ≠ lb ∧ g6 ≠ pb := by
      rcases hg6 with h2 | h2
      · exact h.n2 g6 h2
      · have a1 := hB.ltF qb (.inl rfl)
        have a2 := hB.ltF g (.inr (.inl rfl))
        have a4 := hB.ltF pb (.inr (.inr (.inr (.inl rfl))))
        have h3 : g6 = WB.heap.size + 1 := h2.trans hzD
        omega
    have far : ∀ k9, k9 < WB.heap.size → (Value.slice gw sn.length cw).ownBlock ≠ some k9 → k9 ≠ lb → (w6.setCell ⟨lb, 0, none⟩ (.slice (some ⟨g6, 0, none⟩) (sn.length + 1) c6)).heap[k9]? = WB.heap[k9]? := fun k9 h1 h2 h3 => (Below.heap_setCell _ _ _ _ h3).trans (hgg k9 h1 h2)
    have hnq : ∀ k9, k9 = qb ∨ k9 = g ∨ k9 = pb → (Value.slice gw sn.length cw).ownBlock ≠ some k9 := fun k9 hk e => by
      have := h.n2 k9 e
      rcases hk with rfl | rfl | rfl
      · exact this.1 rfl
      · exact this.2.1 rfl
      · exact this.2.2.2 rfl
    have h9 : Below 0 _ w6 := (Below.refl 0 _).grown hgrow (Nat.zero_le _) (fun _ _ => Nat.zero_le _)
    have hn1 := h.n1
    go_wp2
    go_end0
    refine ⟨rfl, _, ⟨⟨hB.q.box.far fun k9 e => (by cases e; exact far qb (hB.ltF qb (.inl rfl)) (hnq qb (.inl rfl)) (fun e => hn1.1 e.symm)), hB.q.row.far fun k9 e => (by cases e; exact far g (hB.ltF g (.inr (.inl rfl))) (hnq g (.inr (.inl rfl))) (fun e => hn1.2.1 e.symm)), h.q.ne⟩, (far pb (hB.ltF pb (.inr (.inr (.inr (.inl rfl))))) (hnq pb (.inr (.inr rfl))) (fun e => hn1.2.2.1 e.symm)).trans hB.p, ?_, hO6.far fun k9 e => (by cases e; exact Below.heap_setCell _ _ _ _ hg6n.2.2.1), hn1, fun k9 e => (by cases e; exact hg6n)⟩, ?_, ?_⟩
    · rw [setCell_block _ _ _ _ (hbl.trans hB.l)]
      rfl
    · rcases hg6 with h2 | h2
      · exact .inl h2.symm
      · exact .inr ⟨g6, rfl, by have h3 : g6 = WB.heap.size + 1 := h2.trans hzD; omega⟩
    · refine ⟨(h9.os.trans (belowDA WB _).os).trans hbB.os, (h9.tape.trans (belowDA WB _).tape).trans hbB.tape, (h9.output.trans (belowDA WB _).output).trans hbB.output, ?_, fun k9 hk hs9 => (far k9 (by omega) (fun e => hs9 (.inr (.inr (.inr (.inr e))))) (fun e => hs9 (.inr (.inr (.inl e))))).trans (hbB.block k9 hk)⟩
      have h4 : WB.heap.size + 1 ≤ w6.heap.size := by rw [← hzD]; exact hgrow.size
      have h3 : (w6.setCell ⟨lb, 0, none⟩ (.slice (some ⟨g6, 0, none⟩) (sn.length + 1) c6)).heap.size = w6.heap.size := by simp [World.setCell]
      rw [h3]
      omega
end Go.Proofs.Ytlojkcodndjfbaa
