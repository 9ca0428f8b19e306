import Derived.Test.YtlklolmhaiaaiaaKY30
import Derived.Test.YtlklolmhaiaaiaaKY15
namespace Go.Proofs.Ytlklolmhaiaaiaa
open Go.ChangeShapes Go.WideShapes Go.ChangeAt Go.RowKit
set_option linter.unusedVariables false
set_option linter.unusedSimpArgs false

theorem infoI1 : (Try.prog.info? 3).map (fun i => (i.zero, i.size, i.bytes)) = some (some (.int .i64 0), 1, 8) := by kernel_rfl
/-- the depths of so many spots -/
def dpF (sn : List (Nat × Nat)) (x : Nat) : Value := .int .i64 ((sn.getD x (0, 0)).2 : Int)
theorem dpF_push (sn : List (Nat × Nat)) (p d : Nat) {j : Nat} (hj : j < sn.length + 1) : (if j < sn.length then dpF sn j else ([.int .i64 (d : Int)] : List Value).getD (j - sn.length) undef) = dpF (sn ++ [(p, d)]) j := by
  unfold dpF
  by_cases h : j < sn.length
  · rw [if_pos h, List.getD_eq_getElem?_getD, List.getD_eq_getElem?_getD, List.getElem?_append_left h]
  · obtain rfl : j = sn.length := by omega
    rw [if_neg h]
    simp
structure DJ (base b0 qb g c n : Nat) (A : Ar) (f r s m k : Int) (lb : Nat) (sn : List (Nat × Nat)) (lv : Value) (W : World) : Prop where
  q : QW W base qb g c n A f r s m k
  l : W.heap[lb]? = some (.cells #[lv] 33 (0, 0))
  row : Own W b0 3 1 lv sn.length (dpF sn)
  n1 : lb ≠ qb ∧ lb ≠ g
  n2 : ∀ k, lv.ownBlock = some k → k ≠ qb ∧ k ≠ g ∧ k ≠ lb
def DF (qb g lb : Nat) (lv : Value) : Nat → Prop := fun k => k = qb ∨ k = g ∨ k = lb ∨ lv.ownBlock = some k
theorem DJ.later {base b0 qb g c n : Nat} {A : Ar} {f r s m k : Int} {lb : Nat} {sn : List (Nat × Nat)} {lv : Value} {W W' : World} (h : DJ base b0 qb g c n A f r s m k lb sn lv W) (hF : ∀ k, DF qb g lb lv k → W'.heap[k]? = W.heap[k]?) : DJ base b0 qb g c n A f r s m k lb sn lv W' :=
  ⟨⟨h.q.box.far fun k e => by cases e; exact hF _ (.inl rfl), h.q.row.far fun k e => by cases e; exact hF _ (.inr (.inl rfl)), h.q.ne⟩, (hF _ (.inr (.inr (.inl rfl)))).trans h.l, h.row.far fun k hk => hF k (.inr (.inr (.inr hk))), h.n1, h.n2⟩
theorem DJ.ltF {base b0 qb g c n : Nat} {A : Ar} {f r s m k : Int} {lb : Nat} {sn : List (Nat × Nat)} {lv : Value} {W : World} (h : DJ base b0 qb g c n A f r s m k lb sn lv W) : ∀ k, DF qb g lb lv k → k < W.heap.size := by
  rintro k (rfl | rfl | rfl | hk)
  · exact h.q.lt.1.1
  · exact h.q.lt.2.1
  · exact lt_of_block h.l
  · exact (Own.lt h.row k hk).2
theorem dep_row {w6 WD : World} {b0 : Nat} {gw : Option Addr} {cw : Nat} {sn : List (Nat × Nat)} (p d : Nat) {v' : Value} (hown' : w6.ownsRow b0 3 1 v' (sn.length + 1) (cellsF (dpF sn) (sn.length * 1) ++ [.int .i64 (d : Int)])) (hat : v'.ownBlock = (Value.slice gw sn.length cw).ownBlock ∨ v'.ownBlock = some WD.heap.size) : ∃ g6 c6, v' = .slice (some ⟨g6, 0, none⟩) (sn.length + 1) c6 ∧ Own w6 b0 3 1 (.slice (some ⟨g6, 0, none⟩) (sn.length + 1) c6) (sn ++ [(p, d)]).length (dpF (sn ++ [(p, d)])) ∧ ((Value.slice gw sn.length cw).ownBlock = some g6 ∨ g6 = WD.heap.size) := by
  have hO6 : Own w6 b0 3 1 v' (sn ++ [(p, d)]).length (dpF (sn ++ [(p, d)])) := by
    have e6 : ([.int .i64 (d : Int)] : List Value) = cellsF (fun j => ([.int .i64 (d : Int)] : List Value).getD j undef) 1 := rfl
    rw [e6, cellsF_append, show sn.length * 1 + 1 = (sn.length + 1) * 1 by omega] at hown'
    rw [show (sn ++ [(p, d)]).length = sn.length + 1 by simp]
    refine Own.congr (F := fun j => if j < sn.length * 1 then dpF sn j else ([.int .i64 (d : Int)] : List Value).getD (j - sn.length * 1) undef) hown' fun j hj => ?_
    have := dpF_push sn p d (j := j) (by omega)
    rw [Nat.mul_one]
    exact this
  rcases hO6.form with ⟨_, h2⟩ | ⟨g6, c6, h2, _, _⟩
  · simp at h2
  · rw [show (sn ++ [(p, d)]).length = sn.length + 1 by simp] at h2
    subst h2
    refine ⟨g6, c6, rfl, hO6, ?_⟩
    rcases hat with h3 | h3
    · exact .inl h3.symm
    · exact .inr (Option.some.inj h3)
set_option maxRecDepth 100000 in
set_option maxHeartbeats 4000000 in
theorem depths1_any (base b0 qb g c n : Nat) (A : Ar) (f r s m k : Int) (lb : Nat) (sn : List (Nat × Nat)) (lv : Value) (p d : Nat) (W : World) (h : DJ base b0 qb g c n A f r s m k lb sn lv W) (hl : sn.length ≤ 8192) (hb0 : b0 ≤ W.heap.size) :
    Calls Try.prog 25 #[.agg #[.int .i64 (p : Int), .int .i64 (d : Int)], .pointer (some ⟨lb, 0, none⟩)] W fun e W' => e = .returned (.tuple #[]) ∧ ∃ lv', DJ base b0 qb g c n A f r s m k lb (sn ++ [(p, d)]) lv' W' ∧ (lv'.ownBlock = lv.ownBlock ∨ ∃ k9, lv'.ownBlock = some k9 ∧ W.heap.size ≤ k9) ∧ Ch (DF qb g lb lv) W W' := by
  obtain ⟨i6, hi6, ha6, hb6, hc6⟩ := qinfo infoI1
  obtain ⟨WB, hwB⟩ : ∃ WB, W.alloc (.cells #[.int .i64 (p : Int), .int .i64 (d : Int)] 61) = WB := ⟨_, rfl⟩
  have hbB : Below W.heap.size W WB := by rw [← hwB]; exact (Below.refl _ W).alloc (Nat.le_refl _) _
  have hzB : WB.heap.size = W.heap.size + 1 := by rw [← hwB, World.size_alloc]
  obtain ⟨WD, hwD⟩ : ∃ WD, WB.alloc (.cells #[.int .i64 (d : Int)] 3) = WD := ⟨_, rfl⟩
  have hbD : Below WB.heap.size WB WD := by rw [← hwD]; exact (Below.refl _ WB).alloc (Nat.le_refl _) _
  have hzD : WD.heap.size = WB.heap.size + 1 := by rw [← hwD, World.size_alloc]
  have hbWD : Below W.heap.size W WD := hbB.trans (hbD.mono (by omega))
  have hD := h.later (W' := WD) fun k hk => hbWD.block k (h.ltF k hk)
  have l0 := one_c (h.later (W' := WB) fun k hk => hbB.block k (h.ltF k hk)).l
  rw [← hwB] at l0
  obtain ⟨gw, cw, hlv⟩ : ∃ gw cw, lv = .slice gw sn.length cw := by
    rcases h.row.form with ⟨h1, h2⟩ | ⟨g9, c9, h1, _⟩
    · exact ⟨none, 0, by rw [h1, h2]⟩
    · exact ⟨_, _, h1⟩
  subst hlv
  have hA6 : Hid (∀ j u, ([.int .i64 (d : Int)] : List Value)[j]? = some u → WD.cell? ((⟨WB.heap.size, 0, none⟩ : Addr).add j) = some u) := fun j u hj => by rw [← hwD]; exact cells_new WB [.int .i64 (d : Int)] 3 j u hj
  have hrow := hD.row
  have HO : Hid (WD.ownsRow b0 3 1 (.slice gw sn.length cw) sn.length (cellsF (dpF sn) (sn.length * 1))) := hrow
  have HW : Hid ((W.alloc (.cells #[.int .i64 (p : Int), .int .i64 (d : Int)] 61)).alloc (.cells #[.int .i64 (d : Int)] 3) = WD) := by show (W.alloc _).alloc _ = WD; rw [hwB, hwD]
  have p1' : sn.length + 1 ≤ maxLen := by unfold maxLen; omega
  have p2' : (sn.length + 1) * 8 ≤ 140737488355328 := by omega
  have hbs : b0 ≤ WD.heap.size := by omega
  have HSZ : Hid (WB.heap.size = W.heap.size + 1 ∧ WD.heap.size = WB.heap.size + 1) := ⟨hzB, hzD⟩
  have hq : (⟨WB.heap.size, 0, none⟩ : Addr) = ⟨W.heap.size + 1, 0, none⟩ := by rw [hzB]
  rw [hq] at hA6
  clear hwB hwD hq hzB hzD hbD
  go_enter Try.func25, Try.ntmps25
  go_wp2_with (at_builtin; rw [HW.out]; refine wpList_append_own_at _ rfl _ _ 33 rfl b0 3 i6 _ 1 8 Try.underlying33 hi6 ha6 hb6 hc6 rfl (by decide) (.slice gw sn.length cw) sn.length _ rfl HO.out ⟨W.heap.size + 1, 0, none⟩ 1 1 [.int .i64 (d : Int)] rfl rfl hA6.out (by simp [Value.oneCell']) p1' p2' hbs ?_; intro v' w6 hown' hgrow hnil hat; have hbl : w6.heap[lb]? = WD.heap[lb]? := hgrow.block lb (lt_of_block hD.l) (fun e => (h.n2 lb e.symm).2.2 rfl); have n0 : w6.cell? ⟨lb, 0, none⟩ = some (.slice gw sn.length cw) := (World.cell?_of_block hbl).trans (one_c hD.l); have nfz := frz (hbl.trans hD.l) 0; obtain ⟨g6, c6, hv6, hO6, hg6⟩ := dep_row p d hown' hat; subst hv6)
  obtain ⟨hzB, hzD⟩ := HSZ.out
  have hgg : ∀ k9, k9 < WD.heap.size → (Value.slice gw sn.length cw).ownBlock ≠ some k9 → w6.heap[k9]? = WD.heap[k9]? := fun k9 h1 h2 => hgrow.block k9 h1 (fun e => h2 e.symm)
  have hg6n : g6 ≠ qb ∧ g6 ≠ g ∧ g6 ≠ lb := by
    rcases hg6 with h2 | h2
    · exact h.n2 g6 h2
    · have a1 := hD.ltF qb (.inl rfl)
      have a2 := hD.ltF g (.inr (.inl rfl))
      have a3 := hD.ltF lb (.inr (.inr (.inl rfl)))
      omega
  have far : ∀ k9, k9 < WD.heap.size → (Value.slice gw sn.length cw).ownBlock ≠ some k9 → k9 ≠ lb → (w6.setCell ⟨lb, 0, none⟩ (.slice (some ⟨g6, 0, none⟩) (sn.length + 1) c6)).heap[k9]? = WD.heap[k9]? := fun k9 h1 h2 h3 => (Below.heap_setCell _ _ _ _ h3).trans (hgg k9 h1 h2)
  have hnq : ∀ k9, k9 = qb ∨ k9 = g → (Value.slice gw sn.length cw).ownBlock ≠ some k9 := fun k9 hk e => by
    have := h.n2 k9 e
    rcases hk with rfl | rfl
    · exact this.1 rfl
    · exact this.2.1 rfl
  have h9 : Below 0 _ w6 := (Below.refl 0 _).grown hgrow (Nat.zero_le _) (fun _ _ => Nat.zero_le _)
  have hn1 := h.n1
  go_end0
  refine ⟨rfl, _, ⟨⟨hD.q.box.far fun k9 e => (by cases e; exact far qb (hD.ltF qb (.inl rfl)) (hnq qb (.inl rfl)) (fun e => hn1.1 e.symm)), hD.q.row.far fun k9 e => (by cases e; exact far g (hD.ltF g (.inr (.inl rfl))) (hnq g (.inr rfl)) (fun e => hn1.2 e.symm)), h.q.ne⟩, ?_, hO6.far fun k9 e => (by cases e; exact Below.heap_setCell _ _ _ _ hg6n.2.2), hn1, fun k9 e => (by cases e; exact hg6n)⟩, ?_, ?_⟩
  · rw [setCell_block _ _ _ _ (hbl.trans hD.l)]
    rfl
  · rcases hg6 with h2 | h2
    · exact .inl h2.symm
    · exact .inr ⟨g6, rfl, by omega⟩
  · refine ⟨h9.os.trans hbWD.os, h9.tape.trans hbWD.tape, h9.output.trans hbWD.output, ?_, fun k9 hk hs9 => (far k9 (by omega) (fun e => hs9 (.inr (.inr (.inr e)))) (fun e => hs9 (.inr (.inr (.inl e))))).trans (hbWD.block k9 hk)⟩
    have h4 := hgrow.size
    have h3 : (w6.setCell ⟨lb, 0, none⟩ (.slice (some ⟨g6, 0, none⟩) (sn.length + 1) c6)).heap.size = w6.heap.size := by simp [World.setCell]
    rw [h3]
    omega
theorem enterDs (args : Array Value) (W : World) : Sem.run Try.prog (callFunc 25 args) W = .ok (.enter 25 args) W := by go_simp
def DJJ (base b0 qb g c n : Nat) (A : Ar) (f r s m k : Int) (lb : Nat) (sn : List (Nat × Nat)) (F : Nat → Prop) (W : World) : Prop := ∃ lv, DJ base b0 qb g c n A f r s m k lb sn lv W ∧ F = DF qb g lb lv ∧ b0 ≤ W.heap.size
theorem seeDepths (base b0 qb g c n : Nat) (A : Ar) (f r s m k : Int) (lb : Nat) (t0 : Tr) (hn : n ≤ 8193) (hin : ∀ p ∈ t0.ps, p < n) (hsz : t0.size ≤ 8192) : SeeOk 25 #[.pointer (some ⟨lb, 0, none⟩)] base qb g c n A (t0.spots 0) (DJJ base b0 qb g c n A f r s m k lb) := by
  refine ⟨?_, ?_, ?_, ?_⟩
  · rintro sn F W ⟨lv, h, rfl, _⟩ k hk
    exact h.ltF k hk
  · rintro sn F W W' ⟨lv, h, rfl, hb⟩ hF hs
    exact ⟨lv, h.later hF, rfl, Nat.le_trans hb hs⟩
  · rintro sn F W ⟨lv, h, rfl, _⟩
    exact ⟨.inl rfl, .inr (.inl rfl), A, f, r, s, m, k, h.q, fun _ _ => ⟨rfl, rfl⟩⟩
  · rintro sn F W p d rest ⟨lv, h, rfl, hb⟩ htot
    have hlen : sn.length ≤ 8192 := by
      have := congrArg List.length htot
      rw [spots_len] at this
      simp at this
      omega
    refine (depths1_any base b0 qb g c n A f r s m k lb sn lv p d W h hlen hb).mono ?_
    rintro e W' ⟨rfl, lv', h', hat, hC⟩
    refine ⟨rfl, DF qb g lb lv', ⟨lv', h', rfl, Nat.le_trans hb hC.size⟩, ?_, hC⟩
    rintro k9 (rfl | rfl | rfl | hk)
    · exact .inl (.inl rfl)
    · exact .inl (.inr (.inl rfl))
    · exact .inl (.inr (.inr (.inl rfl)))
    · rcases hat with h2 | ⟨k8, h2, h3⟩
      · exact .inl (.inr (.inr (.inr (h2 ▸ hk))))
      · rw [h2] at hk
        have := Option.some.inj hk
        exact .inr (by omega)
set_option maxRecDepth 100000 in
set_option maxHeartbeats 4000000 in
theorem depths_any (base qb g c n : Nat) (A : Ar) (f : Int) (root : Nat) (s m k : Int) (t : Tr) (W : World) (h : QW W base qb g c n A f root s m k) (hn : n ≤ 8193) (ht : t.lies A.L A.R root) (hnd : t.ps.Nodup) (hin : ∀ p ∈ t.ps, p < n) (hsz : t.size ≤ 8192) :
    Calls Try.prog 7 #[.pointer (some ⟨qb, 0, none⟩)] W fun e W' => ∃ gw cw, e = .returned (.slice gw t.size cw) ∧ Own W' W.heap.size 3 1 (.slice gw t.size cw) t.size (dpF (t.spots 0)) ∧ QW W' base qb g c n A f root s m k ∧ Ch (S2 qb g) W W' := by
  obtain ⟨w1, hw1⟩ : ∃ w1, W.alloc (.cells #[.slice none 0 0] 33) = w1 := ⟨_, rfl⟩
  have hlt := h.lt
  have hb : Below W.heap.size W w1 := by rw [← hw1]; exact (Below.refl _ W).alloc (Nat.le_refl _) _
  have hh : w1.heap[W.heap.size]? = some (.cells #[.slice none 0 0] 33 (0, 0)) := by rw [← hw1]; exact World.alloc_heap_new W _
  have hl1 := lt_of_block hh
  have HW : Hid (W.alloc (.cells #[.slice none 0 0] 33) = w1) := hw1
  have hQ1 := h.later hb
  obtain ⟨q0, q1, q2, q3, q4, q5⟩ := hQ1.cells
  rw [← hw1] at q2
  clear hw1 q0 q1 q3 q4 q5
  have hJ0 : DJJ base W.heap.size qb g c n A f root s m k W.heap.size [] (DF qb g W.heap.size (.slice none 0 0)) w1 := ⟨_, ⟨hQ1, hh, Own.nil0, by omega, fun k9 e => (by cases e)⟩, rfl, by omega⟩
  have HV := walk_any 25 #[.pointer (some ⟨W.heap.size, 0, none⟩)] enterDs base qb g c n A t root _ (seeDepths base W.heap.size qb g c n A f root s m k W.heap.size t hn hin hsz) _ w1 hJ0 hn ht hnd hin hsz
  go_enter Try.func7, Try.ntmps7
  go_wp2_with (go_at_call 24; rw [HW.out]; (with_reducible refine HV.mono ?_); rintro e w2 ⟨rfl, F2, ⟨lv, hL, hF2, hb2⟩, hfr, hC2⟩; have d0 := one_c hL.l)
  go_ret
  obtain ⟨gw, cw, hlv⟩ : ∃ gw cw, lv = .slice gw t.size cw := by
    rcases hL.row.form with ⟨h1, h2⟩ | ⟨g9, c9, h1, _⟩
    · rw [spots_len] at h2
      exact ⟨none, 0, by rw [h1, h2]⟩
    · rw [spots_len] at h1
      exact ⟨_, _, h1⟩
  subst hlv
  have hrow := hL.row
  rw [spots_len] at hrow
  refine ⟨gw, cw, rfl, hrow, hL.q, ?_⟩
  have hc : Ch (DF qb g W.heap.size (.slice none 0 0)) W w2 := (Ch.below hb).trans hC2
  refine ⟨hc.os, hc.tape, hc.output, hc.size, fun j hj hs9 => hc.block j hj ?_⟩
  rintro (e | e | e | e)
  · exact hs9 (.inl e)
  · exact hs9 (.inr e)
  · omega
  · cases e
end Go.Proofs.Ytlklolmhaiaaiaa
