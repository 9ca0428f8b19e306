import Derived.Test.YtlklolmhaiaaiaaKY13
namespace Go.Proofs.Ytlklolmhaiaaiaa
open Go.ChangeShapes Go.WideShapes Go.ChangeAt Go.RowKit
set_option linter.unusedVariables false
set_option linter.unusedSimpArgs false

def evC (e : Ev) (r : Nat) : Value := (evL e).getD r undef
/-- the events of so many spots, cell by cell -/
def evF (E : Nat → Ev) (sn : List (Nat × Nat)) (x : Nat) : Value := evC (E (sn.getD (x / 6) (0, 0)).1) (x % 6)
theorem evF_push (E : Nat → Ev) (sn : List (Nat × Nat)) (p d : Nat) {j : Nat} (hj : j < (sn.length + 1) * 6) : (if j < sn.length * 6 then evF E sn j else (evL (E p)).getD (j - sn.length * 6) undef) = evF E (sn ++ [(p, d)]) j := by
  unfold evF
  by_cases h : j < sn.length * 6
  · rw [if_pos h]
    have e : (sn ++ [(p, d)]).getD (j / 6) (0, 0) = sn.getD (j / 6) (0, 0) := by
      rw [List.getD_eq_getElem?_getD, List.getD_eq_getElem?_getD, List.getElem?_append_left (by omega)]
    rw [e]
  · rw [if_neg h]
    have e : (sn ++ [(p, d)]).getD (j / 6) (0, 0) = (p, d) := by
      rw [List.getD_eq_getElem?_getD, List.getElem?_append_right (by omega), show j / 6 - sn.length = 0 by omega]
      rfl
    rw [e]
    show _ = (evL (E p)).getD (j % 6) undef
    congr 1
    omega
structure LJ (base b0 qb g c n : Nat) (A : Ar) (f r s m k : Int) (lb pb : Nat) (sn : List (Nat × Nat)) (lv : Value) (W : World) : Prop where
  q : QW W base qb g c n A f r s m k
  p : PBx W pb qb
  l : W.heap[lb]? = some (.cells #[lv] 27 (0, 0))
  row : Own W b0 64 6 lv sn.length (evF A.E sn)
  n1 : lb ≠ qb ∧ lb ≠ g ∧ lb ≠ pb ∧ pb ≠ qb ∧ pb ≠ g
  n2 : ∀ k, lv.ownBlock = some k → k ≠ qb ∧ k ≠ g ∧ k ≠ lb ∧ k ≠ pb
def LF (qb g lb pb : Nat) (lv : Value) : Nat → Prop := fun k => k = qb ∨ k = g ∨ k = lb ∨ k = pb ∨ lv.ownBlock = some k
theorem LJ.later {base b0 qb g c n : Nat} {A : Ar} {f r s m k : Int} {lb pb : Nat} {sn : List (Nat × Nat)} {lv : Value} {W W' : World} (h : LJ base b0 qb g c n A f r s m k lb pb sn lv W) (hF : ∀ k, LF qb g lb pb lv k → W'.heap[k]? = W.heap[k]?) : LJ base b0 qb g c n A f r s m k lb pb sn lv W' :=
  ⟨⟨h.q.box.far fun k e => by cases e; exact hF _ (.inl rfl), h.q.row.far fun k e => by cases e; exact hF _ (.inr (.inl rfl)), h.q.ne⟩, (hF _ (.inr (.inr (.inr (.inl rfl))))).trans h.p, (hF _ (.inr (.inr (.inl rfl)))).trans h.l, h.row.far fun k hk => hF k (.inr (.inr (.inr (.inr hk)))), h.n1, h.n2⟩
theorem LJ.ltF {base b0 qb g c n : Nat} {A : Ar} {f r s m k : Int} {lb pb : Nat} {sn : List (Nat × Nat)} {lv : Value} {W : World} (h : LJ base b0 qb g c n A f r s m k lb pb sn lv W) : ∀ k, LF qb g lb pb lv k → k < W.heap.size := by
  rintro k (rfl | rfl | rfl | rfl | hk)
  · exact h.q.lt.1.1
  · exact h.q.lt.2.1
  · exact lt_of_block h.l
  · exact lt_of_block h.p
  · exact (Own.lt h.row k hk).2
theorem one_c {W : World} {b : Nat} {c0 : Value} {t : TypeId} (h : W.heap[b]? = some (.cells #[c0] t (0, 0))) : W.cell? ⟨b, 0, none⟩ = some c0 := by
  unfold World.cell?; rw [h]; rfl
theorem list_row {w6 WD : World} {b0 : Nat} {gw : Option Addr} {cw : Nat} {E : Nat → Ev} {sn : List (Nat × Nat)} {p : Nat} (d : Nat) {v' : Value} (hown' : w6.ownsRow b0 64 6 v' (sn.length + 1) (cellsF (evF E sn) (sn.length * 6) ++ evL (E p))) (hat : v'.ownBlock = (Value.slice gw sn.length cw).ownBlock ∨ v'.ownBlock = some WD.heap.size) : ∃ g6 c6, v' = .slice (some ⟨g6, 0, none⟩) (sn.length + 1) c6 ∧ Own w6 b0 64 6 (.slice (some ⟨g6, 0, none⟩) (sn.length + 1) c6) (sn ++ [(p, d)]).length (evF E (sn ++ [(p, d)])) ∧ ((Value.slice gw sn.length cw).ownBlock = some g6 ∨ g6 = WD.heap.size) := by
  have hO6 : Own w6 b0 64 6 v' (sn ++ [(p, d)]).length (evF E (sn ++ [(p, d)])) := by
    have e6 : evL (E p) = cellsF (fun j => (evL (E p)).getD j undef) 6 := rfl
    rw [e6, cellsF_append, show sn.length * 6 + 6 = (sn.length + 1) * 6 by omega] at hown'
    rw [show (sn ++ [(p, d)]).length = sn.length + 1 by simp]
    exact Own.congr (F := fun j => if j < sn.length * 6 then evF E sn j else (evL (E p)).getD (j - sn.length * 6) undef) hown' fun j hj => evF_push E sn p d hj
  rcases hO6.form with ⟨_, h2⟩ | ⟨g6, c6, h2, _, _⟩
  · simp at h2
  · rw [show (sn ++ [(p, d)]).length = sn.length + 1 by simp] at h2
    subst h2
    refine ⟨g6, c6, rfl, hO6, ?_⟩
    rcases hat with h3 | h3
    · exact .inl h3.symm
    · exact .inr (Option.some.inj h3)
set_option maxRecDepth 100000 in
set_option maxHeartbeats 4000000 in
theorem list1_any (base b0 qb g c n : Nat) (A : Ar) (f r s m k : Int) (lb pb : Nat) (sn : List (Nat × Nat)) (lv : Value) (p d : Nat) (W : World) (h : LJ base b0 qb g c n A f r s m k lb pb sn lv W) (hp : p < n) (hn : n ≤ 8193) (hl : sn.length ≤ 8192) (hb0 : b0 ≤ W.heap.size) :
    Calls Try.prog 26 #[.agg #[.int .i64 (p : Int), .int .i64 (d : Int)], .pointer (some ⟨lb, 0, none⟩), .pointer (some ⟨pb, 0, none⟩)] W fun e W' => e = .returned (.tuple #[]) ∧ ∃ lv', LJ base b0 qb g c n A f r s m k lb pb (sn ++ [(p, d)]) lv' W' ∧ (lv'.ownBlock = lv.ownBlock ∨ ∃ k9, lv'.ownBlock = some k9 ∧ W.heap.size ≤ k9) ∧ Ch (LF qb g lb pb lv) W W' := by
  obtain ⟨i6, hi6, ha6, hb6, hc6⟩ := qinfo infoEV
  obtain ⟨WB, hwB⟩ : ∃ WB, W.alloc (.cells #[.int .i64 (p : Int), .int .i64 (d : Int)] 61) = WB := ⟨_, rfl⟩
  have HW : Hid (W.alloc (.cells #[.int .i64 (p : Int), .int .i64 (d : Int)] 61) = WB) := hwB
  have hbB : Below W.heap.size W WB := by rw [← hwB]; exact (Below.refl _ W).alloc (Nat.le_refl _) _
  have hsB : WB.heap[W.heap.size]? = some (.cells #[.int .i64 (p : Int), .int .i64 (d : Int)] 61 (0, 0)) := by rw [← hwB]; exact World.alloc_heap_new W _
  have hzB : WB.heap.size = W.heap.size + 1 := by rw [← hwB, World.size_alloc]
  clear hwB
  have hB := h.later (W' := WB) fun k hk => hbB.block k (h.ltF k hk)
  obtain ⟨q0, q1, q2, q3, q4, q5⟩ := hB.q.cells
  have p0 := hB.p.cell
  have l0 := one_c hB.l
  obtain ⟨s0, s1⟩ := q2c hsB
  have i0 : (0 : Int) ≤ (p : Int) := by omega
  have i1 : (p : Int) < (n : Int) := by omega
  have x0 : WB.cell? ⟨g, p * 8, none⟩ = some (.int .u64 (A.E p).t) := hB.q.nd hp 0 (by decide)
  have x1 : WB.cell? ⟨g, p * 8 + 1, none⟩ = some (.int .i64 (A.E p).s) := hB.q.nd hp 1 (by decide)
  have x2 : WB.cell? ⟨g, p * 8 + 2, none⟩ = some (.int .u64 (A.E p).q) := hB.q.nd hp 2 (by decide)
  have x3 : WB.cell? ⟨g, p * 8 + 3, none⟩ = some (.int .i64 (A.E p).d) := hB.q.nd hp 3 (by decide)
  have x4 : WB.cell? ⟨g, p * 8 + 4, none⟩ = some (.int .i64 (A.E p).k) := hB.q.nd hp 4 (by decide)
  have x5 : WB.cell? ⟨g, p * 8 + 5, none⟩ = some (.int .i64 (A.E p).v) := hB.q.nd hp 5 (by decide)
  obtain ⟨gw, cw, hlv⟩ : ∃ gw cw, lv = .slice gw sn.length cw := by
    rcases h.row.form with ⟨h1, h2⟩ | ⟨g9, c9, h1, _⟩
    · exact ⟨none, 0, by rw [h1, h2]⟩
    · exact ⟨_, _, h1⟩
  subst hlv
  have hsk : WB.drew.heap.size = WB.heap.size := rfl
  have hlB := hB.ltF lb (.inr (.inr (.inl rfl)))
  have HO : Hid (∀ W9, Below WB.heap.size WB W9 → W9.ownsRow b0 64 6 (.slice gw sn.length cw) sn.length (cellsF (evF A.E sn) (sn.length * 6))) := fun W9 hW => hB.row.later hW
  have p1' : sn.length + 1 ≤ maxLen := by unfold maxLen; omega
  have p2' : (sn.length + 1) * 48 ≤ 140737488355328 := by omega
  have hbs : b0 ≤ WB.heap.size := by omega
  have hA6 : Hid (∀ j u, (evL (A.E p))[j]? = some u → (WB.drew.alloc (.cells #[.int .u64 (A.E p).t, .int .i64 (A.E p).s, .int .u64 (A.E p).q, .int .i64 (A.E p).d, .int .i64 (A.E p).k, .int .i64 (A.E p).v] 64)).cell? ((⟨WB.heap.size, 0, none⟩ : Addr).add j) = some u) := fun j u hj => cells_new WB.drew (evL (A.E p)) 64 j u hj
  have kB0 : (WB.alloc (.cells #[.int .u64 (A.E p).t, .int .i64 (A.E p).s, .int .u64 (A.E p).q, .int .i64 (A.E p).d, .int .i64 (A.E p).k, .int .i64 (A.E p).v] 64)).cell? ⟨lb, 0, none⟩ = some (.slice gw sn.length cw) := (World.cell?_of_block (((Below.refl _ WB).alloc (Nat.le_refl _) _).block lb hlB)).trans l0
  have kA0 : (WB.drew.alloc (.cells #[.int .u64 (A.E p).t, .int .i64 (A.E p).s, .int .u64 (A.E p).q, .int .i64 (A.E p).d, .int .i64 (A.E p).k, .int .i64 (A.E p).v] 64)).cell? ⟨lb, 0, none⟩ = some (.slice gw sn.length cw) := (World.cell?_of_block ((belowDA WB _).block lb hlB)).trans l0
  go_enter Try.func26, Try.ntmps26
  go_wp2_with fail
  rw [HW.out]
  go_region_law ((refine step_append_own rfl (.tmp 4) (.tmp 14) 27 rfl b0 64 i6 _ 6 48 Try.underlying27 hi6 ha6 hb6 hc6 rfl (by decide) (.slice gw sn.length cw) sn.length _ (by simp [Act.eval]) (HO.out _ (belowDA WB _)) ⟨WB.heap.size, 0, none⟩ 1 1 (evL (A.E p)) (by simp [Act.eval, hsk]) rfl hA6.out (by simp [evL, Value.oneCell']) p1' p2' (by show b0 ≤ (World.alloc WB.drew _).heap.size; rw [World.size_alloc]; exact Nat.le_succ_of_le hbs) ?_; intro v' w6 hown' hgrow hat; obtain ⟨g6, c6, hv6, hO6, hg6⟩ := list_row d hown' hat; subst hv6; have hbl : w6.heap[lb]? = WB.heap[lb]? := (hgrow.block lb (by show lb < (World.alloc WB.drew _).heap.size; rw [World.size_alloc]; show _ < WB.heap.size + 1; omega) (fun e => (h.n2 lb e.symm).2.2.1 rfl)).trans ((belowDA WB _).block lb hlB); have n0 : w6.cell? ⟨lb, 0, none⟩ = some (.slice gw sn.length cw) := (World.cell?_of_block hbl).trans l0; have nfz := frz (hbl.trans hB.l) 0))
  all_goals
    have hzD : (World.alloc WB.drew (.cells #[.int .u64 (A.E p).t, .int .i64 (A.E p).s, .int .u64 (A.E p).q, .int .i64 (A.E p).d, .int .i64 (A.E p).k, .int .i64 (A.E p).v] 64)).heap.size = WB.heap.size + 1 := World.size_alloc _ _
    have hgg : ∀ k9, k9 < WB.heap.size → (Value.slice gw sn.length cw).ownBlock ≠ some k9 → w6.heap[k9]? = WB.heap[k9]? := fun k9 h1 h2 => (hgrow.block k9 (by show k9 < (World.alloc WB.drew _).heap.size; rw [World.size_alloc]; show _ < WB.heap.size + 1; omega) (fun e => h2 e.symm)).trans ((belowDA WB _).block k9 h1)
    have hg6n : g6 ≠ qb ∧ g6 ≠ g ∧ g6 ≠ lb ∧ g6 ≠ pb := by
      rcases hg6 with h2 | h2
      · exact h.n2 g6 h2
      · have a1 := hB.ltF qb (.inl rfl)
        have a2 := hB.ltF g (.inr (.inl rfl))
        have a4 := hB.ltF pb (.inr (.inr (.inr (.inl rfl))))
        have h3 : g6 = WB.heap.size + 1 := h2.trans hzD
        omega
    have far : ∀ k9, k9 < WB.heap.size → (Value.slice gw sn.length cw).ownBlock ≠ some k9 → k9 ≠ lb → (w6.setCell ⟨lb, 0, none⟩ (.slice (some ⟨g6, 0, none⟩) (sn.length + 1) c6)).heap[k9]? = WB.heap[k9]? := fun k9 h1 h2 h3 => (Below.heap_setCell _ _ _ _ h3).trans (hgg k9 h1 h2)
    have hnq : ∀ k9, k9 = qb ∨ k9 = g ∨ k9 = pb → (Value.slice gw sn.length cw).ownBlock ≠ some k9 := fun k9 hk e => by
      have := h.n2 k9 e
      rcases hk with rfl | rfl | rfl
      · exact this.1 rfl
      · exact this.2.1 rfl
      · exact this.2.2.2 rfl
    have h9 : Below 0 _ w6 := (Below.refl 0 _).grown hgrow (Nat.zero_le _) (fun _ _ => Nat.zero_le _)
    have hn1 := h.n1
    go_wp2
    go_end0
    refine ⟨rfl, _, ⟨⟨hB.q.box.far fun k9 e => (by cases e; exact far qb (hB.ltF qb (.inl rfl)) (hnq qb (.inl rfl)) (fun e => hn1.1 e.symm)), hB.q.row.far fun k9 e => (by cases e; exact far g (hB.ltF g (.inr (.inl rfl))) (hnq g (.inr (.inl rfl))) (fun e => hn1.2.1 e.symm)), h.q.ne⟩, (far pb (hB.ltF pb (.inr (.inr (.inr (.inl rfl))))) (hnq pb (.inr (.inr rfl))) (fun e => hn1.2.2.1 e.symm)).trans hB.p, ?_, hO6.far fun k9 e => (by cases e; exact Below.heap_setCell _ _ _ _ hg6n.2.2.1), hn1, fun k9 e => (by cases e; exact hg6n)⟩, ?_, ?_⟩
    · rw [setCell_block _ _ _ _ (hbl.trans hB.l)]
      rfl
    · rcases hg6 with h2 | h2
      · exact .inl h2.symm
      · exact .inr ⟨g6, rfl, by have h3 : g6 = WB.heap.size + 1 := h2.trans hzD; omega⟩
    · refine ⟨(h9.os.trans (belowDA WB _).os).trans hbB.os, (h9.tape.trans (belowDA WB _).tape).trans hbB.tape, (h9.output.trans (belowDA WB _).output).trans hbB.output, ?_, fun k9 hk hs9 => (far k9 (by omega) (fun e => hs9 (.inr (.inr (.inr (.inr e))))) (fun e => hs9 (.inr (.inr (.inl e))))).trans (hbB.block k9 hk)⟩
      have h4 : WB.heap.size + 1 ≤ w6.heap.size := by rw [← hzD]; exact hgrow.size
      have h3 : (w6.setCell ⟨lb, 0, none⟩ (.slice (some ⟨g6, 0, none⟩) (sn.length + 1) c6)).heap.size = w6.heap.size := by simp [World.setCell]
      rw [h3]
      omega
end Go.Proofs.Ytlklolmhaiaaiaa
namespace Go.Proofs.Ytlklolmhaiaaiaa
open Go.ChangeShapes Go.WideShapes Go.ChangeAt Go.RowKit
set_option linter.unusedVariables false
set_option linter.unusedSimpArgs false

theorem enterLs (args : Array Value) (W : World) : Sem.run Try.prog (callFunc 26 args) W = .ok (.enter 26 args) W := by go_simp
def LJJ (base b0 qb g c n : Nat) (A : Ar) (f r s m k : Int) (lb pb : Nat) (sn : List (Nat × Nat)) (F : Nat → Prop) (W : World) : Prop := ∃ lv, LJ base b0 qb g c n A f r s m k lb pb sn lv W ∧ F = LF qb g lb pb lv ∧ b0 ≤ W.heap.size
theorem seeList (base b0 qb g c n : Nat) (A : Ar) (f r s m k : Int) (lb pb : Nat) (t0 : Tr) (hn : n ≤ 8193) (hin : ∀ p ∈ t0.ps, p < n) (hsz : t0.size ≤ 8192) : SeeOk 26 #[.pointer (some ⟨lb, 0, none⟩), .pointer (some ⟨pb, 0, none⟩)] base qb g c n A (t0.spots 0) (LJJ base b0 qb g c n A f r s m k lb pb) := by
  refine ⟨?_, ?_, ?_, ?_⟩
  · rintro sn F W ⟨lv, h, rfl, _⟩ k hk
    exact h.ltF k hk
  · rintro sn F W W' ⟨lv, h, rfl, hb⟩ hF hs
    exact ⟨lv, h.later hF, rfl, Nat.le_trans hb hs⟩
  · rintro sn F W ⟨lv, h, rfl, _⟩
    exact ⟨.inl rfl, .inr (.inl rfl), A, f, r, s, m, k, h.q, fun _ _ => ⟨rfl, rfl⟩⟩
  · rintro sn F W p d rest ⟨lv, h, rfl, hb⟩ htot
    have hlen : sn.length ≤ 8192 := by
      have := congrArg List.length htot
      rw [spots_len] at this
      simp at this
      omega
    refine (list1_any base b0 qb g c n A f r s m k lb pb sn lv p d W h (hin p (mem_tot htot)) hn hlen hb).mono ?_
    rintro e W' ⟨rfl, lv', h', hat, hC⟩
    refine ⟨rfl, LF qb g lb pb lv', ⟨lv', h', rfl, Nat.le_trans hb hC.size⟩, ?_, hC⟩
    rintro k9 (rfl | rfl | rfl | rfl | hk)
    · exact .inl (.inl rfl)
    · exact .inl (.inr (.inl rfl))
    · exact .inl (.inr (.inr (.inl rfl)))
    · exact .inl (.inr (.inr (.inr (.inl rfl))))
    · rcases hat with h2 | ⟨k8, h2, h3⟩
      · exact .inl (.inr (.inr (.inr (.inr (h2 ▸ hk)))))
      · rw [h2] at hk
        have := Option.some.inj hk
        exact .inr (by omega)
theorem evC_one (e : Ev) (r : Nat) (h : r < 6) : (evC e r).oneCell' = true := by
  have : r = 0 ∨ r = 1 ∨ r = 2 ∨ r = 3 ∨ r = 4 ∨ r = 5 := by omega
  rcases this with rfl | rfl | rfl | rfl | rfl | rfl <;> rfl
set_option maxRecDepth 100000 in
set_option maxHeartbeats 4000000 in
theorem list_any (base qb g c n : Nat) (A : Ar) (f : Int) (root : Nat) (s m k : Int) (t : Tr) (W : World) (h : QW W base qb g c n A f root s m k) (hn : n ≤ 8193) (ht : t.lies A.L A.R root) (hnd : t.ps.Nodup) (hin : ∀ p ∈ t.ps, p < n) (hsz : t.size ≤ 8192) :
    Calls Try.prog 10 #[.pointer (some ⟨qb, 0, none⟩)] W fun e W' => ∃ b, e = .returned (.slice (some ⟨b, 0, none⟩) t.size t.size) ∧ Own W' W.heap.size 64 6 (.slice (some ⟨b, 0, none⟩) t.size t.size) t.size (evF A.E (t.spots 0)) ∧ QW W' base qb g c n A f root s m k ∧ Ch (S2 qb g) W W' := by
  obtain ⟨w1, hw1⟩ : ∃ w1, (W.alloc (.cells #[.pointer (some ⟨qb, 0, none⟩)] 23)).alloc (.cells #[.slice none 0 0] 27) = w1 := ⟨_, rfl⟩
  have hlt := h.lt
  have hb0 : Below W.heap.size W (W.alloc (.cells #[.pointer (some ⟨qb, 0, none⟩)] 23)) := (Below.refl _ W).alloc (Nat.le_refl _) _
  have hb : Below W.heap.size W w1 := by rw [← hw1]; exact hb0.alloc (by simp) _
  have hh0 : PBx w1 W.heap.size qb := by unfold PBx; rw [← hw1, Below.heap_alloc _ _ _ (by simp)]; exact World.alloc_heap_new W _
  have hh : w1.heap[W.heap.size + 1]? = some (.cells #[.slice none 0 0] 27 (0, 0)) := by
    rw [← hw1]
    have := World.alloc_heap_new (W.alloc (.cells #[.pointer (some ⟨qb, 0, none⟩)] 23)) (.cells #[.slice none 0 0] 27)
    rwa [World.size_alloc] at this
  have hl1 := lt_of_block hh
  have HW : Hid ((W.alloc (.cells #[.pointer (some ⟨qb, 0, none⟩)] 23)).alloc (.cells #[.slice none 0 0] 27) = w1) := hw1
  clear hw1
  have hQ1 := h.later hb
  obtain ⟨q0, q1, q2, q3, q4, q5⟩ := hQ1.cells
  have p0 := hh0.cell
  have hJ0 : LJJ base W.heap.size qb g c n A f root s m k (W.heap.size + 1) W.heap.size [] (LF qb g (W.heap.size + 1) W.heap.size (.slice none 0 0)) w1.drew := ⟨_, ⟨hQ1.later (below_drewNq _ w1 1), hh0, hh, Own.nil0, by omega, fun k9 e => (by cases e)⟩, rfl, by show W.heap.size ≤ w1.heap.size; omega⟩
  have HV := walk_any 26 #[.pointer (some ⟨W.heap.size + 1, 0, none⟩), .pointer (some ⟨W.heap.size, 0, none⟩)] enterLs base qb g c n A t root _ (seeList base W.heap.size qb g c n A f root s m k (W.heap.size + 1) W.heap.size t hn hin hsz) _ w1.drew hJ0 hn ht hnd hin hsz
  go_enter Try.func10, Try.ntmps10
  go_wp2_with (fail)
  rw [HW.out]
  go_region_held3 (fun W9 => W9.cell? ⟨W.heap.size, 0, none⟩ = some (.pointer (some ⟨qb, 0, none⟩)) ∧ W9.cell? ⟨qb, 2, none⟩ = some (.int .i64 (root : Int))) (first | exact KP | go_keep) ((go_at_call 24; (with_reducible refine HV.mono ?_); rintro e w2 ⟨rfl, F2, ⟨lv, hL, hF2, hb2⟩, hfr, hC2⟩; have KP : w2.cell? ⟨W.heap.size, 0, none⟩ = some (.pointer (some ⟨qb, 0, none⟩)) ∧ w2.cell? ⟨qb, 2, none⟩ = some (.int .i64 (root : Int)) := ⟨hL.p.cell, hL.q.cells.2.2.1⟩))
  obtain ⟨gw, cw, hlv⟩ : ∃ gw cw, lv = .slice gw t.size cw := by
    rcases hL.row.form with ⟨h1, h2⟩ | ⟨g9, c9, h1, _⟩
    · rw [spots_len] at h2
      exact ⟨none, 0, by rw [h1, h2]⟩
    · rw [spots_len] at h1
      exact ⟨_, _, h1⟩
  subst hlv
  have d0 := one_c hL.l
  have hrow := hL.row
  rw [spots_len] at hrow
  have hsrc : t.size = 0 ∨ ∃ b o, gw = some ⟨b, o, none⟩ ∧ b < w2.heap.size ∧ ∀ j, j < t.size * 6 → w2.cell? ⟨b, o + j, none⟩ = some (evF A.E (t.spots 0) j) := by
    rcases hrow.form with ⟨_, h2⟩ | ⟨g9, c9, h1, h2, h3⟩
    · exact .inl h2
    · have h4 : gw = some ⟨g9, 0, none⟩ := by injection h1
      subst h4
      exact .inr ⟨g9, 0, rfl, h3, fun j hj => by rw [Nat.zero_add]; exact Own.cell (c := cw) hrow hj⟩
  have HH := q_handed gw t.size cw (evF A.E (t.spots 0)) w2 hsz (fun j => evC_one _ _ (Nat.mod_lt _ (by decide))) hsrc
  go_wp2_with (go_at_call 27; (with_reducible refine HH.mono ?_); rintro e w3 ⟨b, rfl, hO, hb3⟩)
  go_ret
  have hs1 := hC2.size
  refine ⟨b, rfl, hO.lower hb2, hL.q.later hb3, ?_⟩
  have hc : Ch (LF qb g (W.heap.size + 1) W.heap.size (.slice none 0 0)) W w2 := (Ch.below (hb.trans (below_drewNq _ w1 1))).trans hC2
  refine ⟨hb3.os.trans hc.os, hb3.tape.trans hc.tape, hb3.output.trans hc.output, Nat.le_trans hc.size hb3.size, fun j hj hs9 => (hb3.block j (Nat.lt_of_lt_of_le hj hc.size)).trans (hc.block j hj ?_)⟩
  rintro (e | e | e | e | e)
  · exact hs9 (.inl e)
  · exact hs9 (.inr e)
  · omega
  · omega
  · cases e
end Go.Proofs.Ytlklolmhaiaaiaa
