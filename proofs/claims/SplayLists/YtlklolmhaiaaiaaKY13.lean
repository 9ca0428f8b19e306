import Derived.Test.YtlklolmhaiaaiaaKY12
namespace Go.Proofs.Ytlklolmhaiaaiaa
open Go.ChangeShapes Go.WideShapes Go.ChangeAt Go.RowKit
set_option linter.unusedVariables false
set_option linter.unusedSimpArgs false

/-! ### the walk -/
/-- the spots of a tree in the order of keys -/
def Tr.spots : Tr → Nat → List (Nat × Nat)
  | .nil, _ => []
  | .node l p r, d => l.spots (d + 1) ++ (p, d) :: r.spots (d + 1)
theorem Tr.spots_ps : ∀ (t : Tr) (d : Nat), (t.spots d).map Prod.fst = t.ps
  | .nil, _ => rfl
  | .node l p r, d => by simp [Tr.spots, Tr.ps, Tr.spots_ps l, Tr.spots_ps r]
/-- those that wait: place, depth, the tree behind -/
def StPs : List (Nat × Nat × Tr) → List (Nat × Nat)
  | [] => []
  | (p, d, r) :: rest => (p, d) :: r.spots (d + 1) ++ StPs rest
def StOk (L R : Nat → Nat) (N : Nat) : List (Nat × Nat × Tr) → Prop
  | [] => True
  | (p, d, r) :: rest => r.lies L R (R p) ∧ d + 1 + r.size ≤ N ∧ StOk L R N rest
/-- what the call-back needs and keeps: J tells the world where so many spots have been shown; F its blocks -/
structure SeeOk (fn : Nat) (cap : Array Value) (base qb g c n : Nat) (A : Ar) (tot : List (Nat × Nat)) (J : List (Nat × Nat) → (Nat → Prop) → World → Prop) : Prop where
  lt : ∀ sn F W, J sn F W → ∀ k, F k → k < W.heap.size
  st : ∀ sn F W W', J sn F W → (∀ k, F k → W'.heap[k]? = W.heap[k]?) → W.heap.size ≤ W'.heap.size → J sn F W'
  q : ∀ sn F W, J sn F W → F qb ∧ F g ∧ ∃ A' f r s m k, QW W base qb g c n A' f r s m k ∧ ∀ p, p ∉ sn.map Prod.fst → A'.L p = A.L p ∧ A'.R p = A.R p
  see : ∀ sn F W p d rest, J sn F W → sn ++ (p, d) :: rest = tot → Calls Try.prog fn (#[.agg #[.int .i64 (p : Int), .int .i64 (d : Int)]] ++ cap) W fun e W' => e = .returned (.tuple #[]) ∧ ∃ F', J (sn ++ [(p, d)]) F' W' ∧ (∀ k, F' k → F k ∨ W.heap.size ≤ k) ∧ Ch F W W'
def stC (st : List (Nat × Nat × Tr)) (x : Nat) : Value :=
  match (st.reverse.getD (x / 2) (0, 0, .nil)) with
  | (p, d, _) => if x % 2 = 0 then .int .i64 (p : Int) else .int .i64 (d : Int)
theorem infoSP : (Try.prog.info? 61).map (fun i => (i.zero, i.size, i.bytes)) = some (some (.agg #[.int .i64 0, .int .i64 0]), 2, 16) := by kernel_rfl
/-- the walk's own blocks -/
structure WkI (b0 nb : Nat) (wv : Value) (st : List (Nat × Nat × Tr)) (q d : Nat) (F : Nat → Prop) (W : World) : Prop where
  nx : W.heap[nb]? = some (.cells #[.int .i64 (q : Int), .int .i64 (d : Int)] 61 (0, 0))
  row : Own W b0 61 2 wv st.length (stC st)
  rn : wv.ownBlock ≠ some nb
  rf : ∀ k, wv.ownBlock = some k → ¬ F k
  nf : ¬ F nb
  nb0 : b0 ≤ nb
theorem Own.nil0 {W : World} {base : Nat} {t : TypeId} {s : Nat} {F : Nat → Value} : Own W base t s (.slice none 0 0) 0 F := ⟨by simp [cellsF], .inl ⟨rfl, rfl⟩⟩
theorem stC_push (st : List (Nat × Nat × Tr)) (p d : Nat) (r : Tr) (j : Nat) : (if j < st.length * 2 then stC st j else [Value.int .i64 (p : Int), Value.int .i64 (d : Int)].getD (j - st.length * 2) undef) = if j < (st.length + 1) * 2 then stC ((p, d, r) :: st) j else [Value.int .i64 (p : Int), Value.int .i64 (d : Int)].getD (j - st.length * 2) undef := by
  by_cases h : j < st.length * 2
  · rw [if_pos h, if_pos (by omega)]
    unfold stC
    have e : ((p, d, r) :: st).reverse.getD (j / 2) (0, 0, .nil) = st.reverse.getD (j / 2) (0, 0, .nil) := by
      rw [List.reverse_cons, List.getD_eq_getElem?_getD, List.getD_eq_getElem?_getD, List.getElem?_append_left (by simp; omega)]
    rw [e]
  · rw [if_neg h]
    by_cases h2 : j < (st.length + 1) * 2
    · rw [if_pos h2]
      unfold stC
      have e : ((p, d, r) :: st).reverse.getD (j / 2) (0, 0, .nil) = (p, d, r) := by
        rw [List.reverse_cons, List.getD_eq_getElem?_getD, List.getElem?_append_right (by simp; omega)]
        have : j / 2 - st.reverse.length = 0 := by simp; omega
        rw [this]
        rfl
      rw [e]
      have : j = st.length * 2 ∨ j = st.length * 2 + 1 := by omega
      rcases this with rfl | rfl
      · simp
      · simp [Nat.add_mod]
    · rw [if_neg h2]
theorem stC_cons (st : List (Nat × Nat × Tr)) (p d : Nat) (r : Tr) {j : Nat} (h : j < st.length * 2) : stC ((p, d, r) :: st) j = stC st j := by
  have := stC_push st p d r j
  rw [if_pos h, if_pos (by omega)] at this
  exact this.symm
theorem own_pushS {W : World} {b0 : Nat} {v : Value} {st : List (Nat × Nat × Tr)} {p d : Nat} (r : Tr) (h : W.ownsRow b0 61 2 v (st.length + 1) (cellsF (stC st) (st.length * 2) ++ [.int .i64 (p : Int), .int .i64 (d : Int)])) : Own W b0 61 2 v ((p, d, r) :: st).length (stC ((p, d, r) :: st)) := by
  have e2 : [Value.int .i64 (p : Int), Value.int .i64 (d : Int)] = cellsF (fun j => [Value.int .i64 (p : Int), Value.int .i64 (d : Int)].getD j undef) 2 := rfl
  rw [e2, cellsF_append, show st.length * 2 + 2 = (st.length + 1) * 2 by omega] at h
  refine Own.congr (F := fun j => if j < st.length * 2 then stC st j else [Value.int .i64 (p : Int), Value.int .i64 (d : Int)].getD (j - st.length * 2) undef) h fun j hj => ?_
  rw [stC_push st p d r j, if_pos (by simpa using hj)]
theorem own_cut {W : World} {base : Nat} {t : TypeId} {s g m m' c : Nat} {F : Nat → Value} (h : Own W base t s (.slice (some ⟨g, 0, none⟩) m c) m F) (hm : m' ≤ m) : Own W base t s (.slice (some ⟨g, 0, none⟩) m' c) m' F := by
  obtain ⟨cur, h1, h2, h3, h4, h5, h6⟩ := h.block
  exact Own.mk' h1 h2 (Nat.le_trans hm h3) h4 h5 fun j hj => h6 j (Nat.lt_of_lt_of_le hj (Nat.mul_le_mul_right _ hm))
theorem mem_tot {t0 : Tr} {sn rest : List (Nat × Nat)} {p d : Nat} (h : sn ++ (p, d) :: rest = t0.spots 0) : p ∈ t0.ps := by
  rw [← Tr.spots_ps t0 0, ← h]
  simp
theorem new_tot {t0 : Tr} {sn rest : List (Nat × Nat)} {p d : Nat} (hnd : t0.ps.Nodup) (h : sn ++ (p, d) :: rest = t0.spots 0) : p ∉ sn.map Prod.fst := by
  rw [← Tr.spots_ps t0 0, ← h, List.map_append, List.nodup_append] at hnd
  exact fun hp => hnd.2.2 p hp p (by simp) rfl
/-- where the walk stands -/
structure WkR (J : List (Nat × Nat) → (Nat → Prop) → World → Prop) (A : Ar) (t0 : Tr) (F0 : Nat → Prop) (W : World) (sn : List (Nat × Nat)) (tn : Tr) (q d : Nat) (st : List (Nat × Nat × Tr)) (F : Nat → Prop) (wv : Value) (wr : World) : Prop where
  tot : sn ++ (tn.spots d ++ StPs st) = t0.spots 0
  j : J sn F wr
  ti : tn.lies A.L A.R q
  so : StOk A.L A.R t0.size st
  dd : d + tn.size ≤ t0.size
  w : WkI W.heap.size W.heap.size wv st q d F wr
  ch : Ch F0 W wr
  fr : ∀ k, F k → F0 k ∨ W.heap.size ≤ k
theorem Ch.past {S : Nat → Prop} {W wr w' : World} (h : Ch S W wr) (hb : Below W.heap.size wr w') : Ch S W w' := ⟨hb.os.trans h.os, hb.tape.trans h.tape, hb.output.trans h.output, Nat.le_trans h.size hb.size, fun k hk hs => (hb.block k hk).trans (h.block k hk hs)⟩
theorem spots_len : ∀ (t : Tr) (d : Nat), (t.spots d).length = t.size
  | .nil, _ => rfl
  | .node l p r, d => by simp [Tr.spots, Tr.size, spots_len l, spots_len r]; omega
theorem StPs_len : ∀ st : List (Nat × Nat × Tr), st.length ≤ (StPs st).length
  | [] => Nat.le_refl _
  | (p, d, r) :: rest => by have := StPs_len rest; simp [StPs]; omega
theorem WkR.stl {J : List (Nat × Nat) → (Nat → Prop) → World → Prop} {A : Ar} {t0 : Tr} {F0 : Nat → Prop} {W : World} {sn : List (Nat × Nat)} {tn : Tr} {q d : Nat} {st : List (Nat × Nat × Tr)} {F : Nat → Prop} {wv : Value} {wr : World} (h : WkR J A t0 F0 W sn tn q d st F wv wr) : st.length ≤ t0.size := by
  have := congrArg List.length h.tot
  rw [spots_len] at this
  have h2 := StPs_len st
  simp at this
  omega
set_option maxRecDepth 100000 in
set_option maxHeartbeats 8000000 in
theorem walk_any (fn : Nat) (cap : Array Value) (HF : ∀ args W, Sem.run Try.prog (callFunc fn args) W = .ok (.enter fn args) W) (base qb g c n : Nat) (A : Ar) (t0 : Tr) (q0 : Nat) (J : List (Nat × Nat) → (Nat → Prop) → World → Prop) (hs : SeeOk fn cap base qb g c n A (t0.spots 0) J) (F0 : Nat → Prop) (W : World) (h : J [] F0 W) (hn : n ≤ 8193) (ht : t0.lies A.L A.R q0) (hnd : t0.ps.Nodup) (hin : ∀ p ∈ t0.ps, p < n) (hsz : t0.size ≤ 8192) :
    Calls Try.prog 24 #[.pointer (some ⟨qb, 0, none⟩), .int .i64 (q0 : Int), .func (.func fn) #[] cap] W fun e W' => e = .returned (.tuple #[]) ∧ ∃ F', J (t0.spots 0) F' W' ∧ (∀ k, F' k → F0 k ∨ W.heap.size ≤ k) ∧ Ch F0 W W' := by
  obtain ⟨i2, hi2, ha2, hb2, hc2⟩ := qinfo infoSP
  go_enter Try.func24, Try.ntmps24
  go_wp2_with fail
  have hb1 : Below W.heap.size W (W.alloc (.cells #[.int .i64 (q0 : Int), .int .i64 0] 61)) := (Below.refl _ W).alloc (Nat.le_refl _) _
  go_loopg [6] ((t0.spots 0).length + 1) (fun k wv wr => ∃ sn tn q d st F, k = (tn.spots d ++ StPs st).length + 1 ∧ WkR J A t0 F0 W sn tn q d st F wv wr)
  case atStart =>
    refine ⟨[], t0, q0, 0, [], F0, by simp [StPs], ⟨by simp [StPs], hs.st _ _ _ _ h (fun k hk => hb1.block k (hs.lt _ _ _ h k hk)) hb1.size, ht, trivial, by omega, ⟨World.alloc_heap_new W _, Own.nil0, by simp [Value.ownBlock], fun k hk => (by simp [Value.ownBlock] at hk), fun hk => Nat.lt_irrefl _ (hs.lt _ _ _ h _ hk), Nat.le_refl _⟩, Ch.below hb1, fun k hk => .inl hk⟩⟩
  case round =>
    obtain ⟨sn, tn, q, d, st, F, hk, hR⟩ := hrel
    go_wp2_with fail
    go_loopg [6] tn.size (fun k wv wr => ∃ tn' q' d' st', k = tn'.size ∧ (tn'.spots d' ++ StPs st').length = (tn.spots d ++ StPs st).length ∧ WkR J A t0 F0 W sn tn' q' d' st' F wv wr)
    case atStart => exact ⟨tn, q, d, st, rfl, rfl, hR⟩
    case round =>
      clear hR
      obtain ⟨tn', q', d', st', hk', hlen, hR⟩ := hrel
      obtain ⟨c0, c1⟩ := q2c hR.w.nx
      by_cases hq : q' = 0
      · subst hq
        have htn := Tr.lies_zero hR.ti
        subst htn
        cases st' with
        | nil =>
          have hw0 : u6 = .slice none 0 0 ∨ ∃ g9 c9, u6 = .slice (some ⟨g9, 0, none⟩) 0 c9 := by
            rcases hR.w.row.form with ⟨h1, _⟩ | ⟨g9, c9, h1, _⟩
            · exact .inl h1
            · exact .inr ⟨g9, c9, h1⟩
          have htot : sn = t0.spots 0 := by simpa [Tr.spots, StPs] using hR.tot
          rcases hw0 with rfl | ⟨g9, c9, rfl⟩
          all_goals
            go_wp2
            refine bodyPost_ret (v := .tuple #[]) (by simp [results, Try.results24, go_sem]) rfl ?_
            exact ⟨rfl, F, htot ▸ hR.j, hR.fr, hR.ch⟩
        | cons x st2 =>
          obtain ⟨p, e, r⟩ := x
          obtain ⟨g9, c9, hu6, hg9b, hg9l⟩ : ∃ g9 c9, u6 = .slice (some ⟨g9, 0, none⟩) (st2.length + 1) c9 ∧ W.heap.size ≤ g9 ∧ g9 < wr.heap.size := by
            rcases hR.w.row.form with ⟨_, h2⟩ | h2
            · simp at h2
            · exact h2
          subst hu6
          have hrow := hR.w.row
          have hcp := (hrow.block).choose_spec.2.2.1
          have x0 : wr.cell? ⟨g9, st2.length * 2, none⟩ = some (.int .i64 (p : Int)) := by
            have := hrow.cell (j := st2.length * 2) (by omega)
            rw [this]
            unfold stC
            rw [show st2.length * 2 / 2 = st2.length by omega, List.reverse_cons, List.getD_eq_getElem?_getD, List.getElem?_append_right (by simp)]
            simp
          have x1 : wr.cell? ⟨g9, st2.length * 2 + 1, none⟩ = some (.int .i64 (e : Int)) := by
            have := hrow.cell (j := st2.length * 2 + 1) (by omega)
            rw [this]
            unfold stC
            rw [show (st2.length * 2 + 1) / 2 = st2.length by omega, List.reverse_cons, List.getD_eq_getElem?_getD, List.getElem?_append_right (by simp)]
            have h9 : ¬ (st2.length * 2 + 1) % 2 = 0 := by omega
            simp [h9]
          have hstl := hR.stl
          simp only [List.length_cons] at hstl
          have el : IntKind.i64.wrap ((st2.length : Int) + 1 - 1) = (st2.length : Int) := by rw [IntKind.wrap_i64]; omega
          have dl : decide ((st2.length : Int) < 0) = false := by simp
          have i0 : (0 : Int) ≤ (st2.length : Int) := by omega
          have i1 : (st2.length : Int) < (st2.length : Int) + 1 := by omega
          have i2' : (st2.length : Int) ≤ (c9 : Int) := by omega
          have htot : sn ++ (p, e) :: (r.spots (e + 1) ++ StPs st2) = t0.spots 0 := by rw [← hR.tot]; simp [Tr.spots, StPs]
          have hpt : p ∈ t0.ps := mem_tot htot
          have hps : p ∉ sn.map Prod.fst := new_tot hnd htot
          obtain ⟨hso1, hso2, hso3⟩ := hR.so
          have hnbl := lt_of_block hR.w.nx
          have hwr0 := hR.ch.size
          obtain ⟨w2, hw2⟩ : ∃ w2, wr.alloc (.cells #[.int .i64 (p : Int), .int .i64 (e : Int)] 61) = w2 := ⟨_, rfl⟩
          have HW2 : Hid (wr.alloc (.cells #[.int .i64 (p : Int), .int .i64 (e : Int)] 61) = w2) := hw2
          have hb2' : Below wr.heap.size wr w2 := by rw [← hw2]; exact (Below.refl _ wr).alloc (Nat.le_refl _) _
          have hsh2 : w2.heap[wr.heap.size]? = some (.cells #[.int .i64 (p : Int), .int .i64 (e : Int)] 61 (0, 0)) := by rw [← hw2]; exact World.alloc_heap_new wr _
          have hJ2 : J sn F w2 := hs.st _ _ _ _ hR.j (fun k hk => hb2'.block k (hs.lt _ _ _ hR.j k hk)) hb2'.size
          obtain ⟨_, _, A2, f2, r2, s2, m2, k2, hQ2, hag⟩ := hs.q _ _ _ hJ2
          have HB := below1 base qb g c n A2 f2 r2 s2 m2 k2 p e w2 hQ2 (hin p hpt) hn (by omega)
          rw [(hag p hps).2] at HB
          have hl2 := lt_of_block hsh2
          have HE : ∀ W9, J sn F W9 → Calls Try.prog fn (#[.agg #[.int .i64 (p : Int), .int .i64 (e : Int)]] ++ cap) W9 fun e' W' => e' = .returned (.tuple #[]) ∧ ∃ F', J (sn ++ [(p, e)]) F' W' ∧ (∀ k, F' k → F k ∨ W9.heap.size ≤ k) ∧ Ch F W9 W' := fun W9 h9 => hs.see sn F W9 p e _ h9 htot
          have HEH : Hid (∀ W9, J sn F W9 → Calls Try.prog fn (#[.agg #[.int .i64 (p : Int), .int .i64 (e : Int)]] ++ cap) W9 fun e' W' => e' = .returned (.tuple #[]) ∧ ∃ F', J (sn ++ [(p, e)]) F' W' ∧ (∀ k, F' k → F k ∨ W9.heap.size ≤ k) ∧ Ch F W9 W') := HE
          clear hw2 HE
          go_wp2_with (first | (go_at_call 55; rw [HW2.out]; (with_reducible refine HB.mono ?_); rintro e' w3 ⟨rfl, hb3⟩; have hnb3 := (hb3.block W.heap.size (by omega)).trans ((hb2'.block W.heap.size hnbl).trans hR.w.nx); have hsh3 := (hb3.block wr.heap.size hl2).trans hsh2; obtain ⟨g0, g1⟩ := q2c hnb3; have gf0 := frz hnb3 0; have gf1 := frz hnb3 1; obtain ⟨y0, y1⟩ := q2c hsh3; have nsh : wr.heap.size ≠ W.heap.size := (by omega); have far : ∀ k, k ≠ W.heap.size → k < w2.heap.size → ((w3.setCell ⟨W.heap.size, 0, none⟩ (.int .i64 (A.R p : Int))).setCell ⟨W.heap.size, 1, none⟩ (.int .i64 ((e : Int) + 1))).heap[k]? = w2.heap[k]? := (fun k h1 h2 => (by rw [Below.heap_setCell _ _ _ _ h1, Below.heap_setCell _ _ _ _ h1]; exact hb3.block k h2)); have hz4 : ((w3.setCell ⟨W.heap.size, 0, none⟩ (.int .i64 (A.R p : Int))).setCell ⟨W.heap.size, 1, none⟩ (.int .i64 ((e : Int) + 1))).heap.size = w3.heap.size := (by simp [World.setCell]); have hJ4 : J sn F ((w3.setCell ⟨W.heap.size, 0, none⟩ (.int .i64 (A.R p : Int))).setCell ⟨W.heap.size, 1, none⟩ (.int .i64 ((e : Int) + 1))) := hs.st _ _ _ _ hJ2 (fun k hk => far k (fun e9 => hR.w.nf (e9 ▸ hk)) (hs.lt _ _ _ hJ2 k hk)) (by rw [hz4]; exact hb3.size); have HZ4 : Hid (((w3.setCell ⟨W.heap.size, 0, none⟩ (.int .i64 (A.R p : Int))).setCell ⟨W.heap.size, 1, none⟩ (.int .i64 ((e : Int) + 1))).heap.size = w3.heap.size) := hz4; clear hz4) | ((with_reducible refine (HEH.out _ hJ4).mono ?_); rintro e' w5 ⟨rfl, F5, hJ5, hF5, hC5⟩))
          have hz4 := HZ4.out
          have hs3 := hb3.size
          have hs2 := hb2'.size
          have hnb4 : ((w3.setCell ⟨W.heap.size, 0, none⟩ (.int .i64 (A.R p : Int))).setCell ⟨W.heap.size, 1, none⟩ (.int .i64 ((e : Int) + 1))).heap[W.heap.size]? = some (.cells #[.int .i64 (A.R p : Int), .int .i64 ((e + 1 : Nat) : Int)] 61 (0, 0)) := by
            rw [setCell_block _ _ _ _ (setCell_block _ _ _ _ hnb3)]
            rfl
          have hg9n : g9 ≠ W.heap.size := fun e9 => hR.w.rn (by rw [e9]; rfl)
          have hg9f : ¬ F g9 := hR.w.rf g9 rfl
          have hnb5 := (hC5.block W.heap.size (by rw [hz4]; omega) hR.w.nf).trans hnb4
          have hg95 : w5.heap[g9]? = wr.heap[g9]? := (hC5.block g9 (by rw [hz4]; omega) hg9f).trans ((far g9 hg9n (by omega)).trans (hb2'.block g9 hg9l))
          have hb4 : Below W.heap.size wr ((w3.setCell ⟨W.heap.size, 0, none⟩ (.int .i64 (A.R p : Int))).setCell ⟨W.heap.size, 1, none⟩ (.int .i64 ((e : Int) + 1))) := ((((hb2'.mono hwr0).trans (hb3.mono (Nat.le_trans hwr0 hs2))).setCell (p := ⟨W.heap.size, 0, none⟩) (Nat.le_refl _) _).setCell (p := ⟨W.heap.size, 1, none⟩) (Nat.le_refl _) _)
          have hc4 := hR.ch.past hb4
          go_roundg ((r.spots (e + 1) ++ StPs st2).length + 1)
          case measure => rw [hk, ← hlen]; simp [Tr.spots, StPs]
          case rel =>
            refine ⟨sn ++ [(p, e)], r, A.R p, e + 1, st2, F5, rfl, ⟨by rw [← htot]; simp, hJ5, hso1, hso3, by omega, ⟨hnb5, ((own_cut hrow (Nat.le_succ _)).congr fun j hj => stC_cons st2 p e r hj).far fun k hk9 => ?_, fun e9 => hg9n (by simpa [Value.ownBlock] using e9), fun k hk9 => ?_, fun hf => ?_, Nat.le_refl _⟩, ⟨hC5.os.trans hc4.os, hC5.tape.trans hc4.tape, hC5.output.trans hc4.output, Nat.le_trans hc4.size hC5.size, fun k hk9 hs9 => (hC5.block k (Nat.lt_of_lt_of_le hk9 hc4.size) fun hf => ?_).trans (hc4.block k hk9 hs9)⟩, fun k hk9 => ?_⟩⟩
            · cases hk9
              exact hg95
            · cases hk9
              intro hf
              rcases hF5 g9 hf with h2 | h2
              · exact hg9f h2
              · rw [hz4] at h2; omega
            · rcases hF5 _ hf with h2 | h2
              · exact hR.w.nf h2
              · rw [hz4] at h2; omega
            · rcases hR.fr k hf with h2 | h2
              · exact hs9 h2
              · omega
            · rcases hF5 k hk9 with h2 | h2
              · exact hR.fr k h2
              · rw [hz4] at h2; exact .inr (by omega)
      · obtain ⟨l, r, rfl, hl, hr⟩ := Tr.lies_node hR.ti hq
        have dq : ((q' : Int) == 0) = false := by simp; omega
        have hlen9 := hR.stl
        obtain ⟨wA, hwA⟩ : ∃ wA, wr.alloc (.cells #[.int .i64 (q' : Int), .int .i64 (d' : Int)] 61) = wA := ⟨_, rfl⟩
        have HWA : Hid (wr.alloc (.cells #[.int .i64 (q' : Int), .int .i64 (d' : Int)] 61) = wA) := hwA
        have hbA : Below wr.heap.size wr wA := by rw [← hwA]; exact (Below.refl _ wr).alloc (Nat.le_refl _) _
        have hzA : wA.heap.size = wr.heap.size + 1 := by rw [← hwA, World.size_alloc]
        have HZA : Hid (wA.heap.size = wr.heap.size + 1) := hzA
        have hnew : ∀ j u, [Value.int .i64 (q' : Int), .int .i64 (d' : Int)][j]? = some u → wA.cell? ((⟨wr.heap.size, 0, none⟩ : Addr).add j) = some u := by rw [← hwA]; exact cells_new wr [.int .i64 (q' : Int), .int .i64 (d' : Int)] _
        have hrowA := hR.w.row.later hbA
        have hnbl := lt_of_block hR.w.nx
        have hwr0 := hR.ch.size
        have hqt : q' ∈ t0.ps := mem_tot (sn := sn ++ l.spots (d' + 1)) (d := d') (rest := r.spots (d' + 1) ++ StPs st') (by rw [← hR.tot]; simp [Tr.spots])
        have hqs : q' ∉ sn.map Prod.fst := by
          have := new_tot (p := q') (sn := sn ++ l.spots (d' + 1)) (d := d') (rest := r.spots (d' + 1) ++ StPs st') hnd (by rw [← hR.tot]; simp [Tr.spots])
          rw [List.map_append] at this
          exact fun hx => this (by simp only [List.mem_append]; exact .inl hx)
        have hdd := hR.dd
        simp only [Tr.size] at hdd
        obtain ⟨gw, cw, hu6⟩ : ∃ gw cw, u6 = .slice gw st'.length cw := by
          rcases hR.w.row.form with ⟨h1, h2⟩ | ⟨g9, c9, h1, _⟩
          · exact ⟨none, 0, by rw [h1, h2]⟩
          · exact ⟨_, _, h1⟩
        subst hu6
        clear hwA hzA
        go_wp2_with (first | (at_builtin; rw [HWA.out]; refine wpList_append_own_at _ rfl _ _ 96 rfl W.heap.size 61 i2 _ 2 16 Try.underlying96 hi2 ha2 hb2 hc2 rfl (by decide) (.slice gw st'.length cw) st'.length _ rfl hrowA ⟨wr.heap.size, 0, none⟩ 1 1 [.int .i64 (q' : Int), .int .i64 (d' : Int)] rfl rfl hnew (by simp [Value.oneCell']) ?p1 ?p2 ?p3 ?_; (case p1 => (unfold maxLen; omega)); (case p2 => omega); (case p3 => (have := HZA.out; omega)); intro v4 w4 hown hgrow hnil hat; have hO4 := own_pushS r hown; have HAT : Hid (v4.ownBlock = (Value.slice gw st'.length cw).ownBlock ∨ v4.ownBlock = some wA.heap.size) := hat; clear hnil hat; have hnb4 := (hgrow.block W.heap.size (by have := HZA.out; omega) (fun e => hR.w.rn e.symm)).trans ((hbA.block W.heap.size hnbl).trans hR.w.nx); obtain ⟨e0, e1⟩ := q2c hnb4; have hJ4 : J sn F w4 := hs.st _ _ _ _ hR.j (fun k hk => (hgrow.block k (by have := hs.lt _ _ _ hR.j k hk; have := HZA.out; omega) (fun e => hR.w.rf k e.symm hk)).trans (hbA.block k (hs.lt _ _ _ hR.j k hk))) (Nat.le_trans hbA.size hgrow.size); obtain ⟨_, _, A4, f4, r4, s4, m4, k4, hQ4, hag⟩ := hs.q _ _ _ hJ4; have HB := below0 base qb g c n A4 f4 r4 s4 m4 k4 q' d' w4 hQ4 (hin q' hqt) hn (by omega); rw [(hag q' hqs).1] at HB) | (go_at_call 55; (with_reducible refine HB.mono ?_); rintro e' w5 ⟨rfl, hb5⟩; have hnb5 := (hb5.block W.heap.size (lt_of_block hnb4)).trans hnb4; obtain ⟨g0, g1⟩ := q2c hnb5; have gf0 := frz hnb5 0; have gf1 := frz hnb5 1))
        obtain ⟨g4, c4, hv4, hg4b, hg4l⟩ : ∃ g4 c4, v4 = .slice (some ⟨g4, 0, none⟩) (st'.length + 1) c4 ∧ W.heap.size ≤ g4 ∧ g4 < w4.heap.size := by
          rcases hO4.form with ⟨_, h2⟩ | h2
          · simp at h2
          · exact h2
        have hg4n : g4 ≠ W.heap.size := by
          intro e
          rcases HAT.out with h2 | h2
          · exact hR.w.rn (by rw [← h2, hv4, e]; rfl)
          · rw [hv4] at h2
            have h3 : g4 = wA.heap.size := Option.some.inj h2
            have := HZA.out
            omega
        have hg4f : ¬ F g4 := by
          intro hF
          rcases HAT.out with h2 | h2
          · exact hR.w.rf g4 (by rw [← h2, hv4]; rfl) hF
          · rw [hv4] at h2
            have h3 : g4 = wA.heap.size := Option.some.inj h2
            have := HZA.out
            have := hs.lt _ _ _ hR.j g4 hF
            omega
        have hbr4 : Below W.heap.size wr w4 := (hbA.mono (by omega)).trans ((Below.refl _ wA).grown hgrow (by have := HZA.out; omega) (fun k hk => by
          have hk9 : (Value.slice gw st'.length cw).ownBlock = some k := hk
          exact (Own.lt hrowA k hk9).1))
        have hb49 : Below W.heap.size wr ((w5.setCell ⟨W.heap.size, 0, none⟩ (.int .i64 (A.L q' : Int))).setCell ⟨W.heap.size, 1, none⟩ (.int .i64 ((d' : Int) + 1))) := ((hbr4.trans (hb5.mono (by have := hbr4.size; omega))).setCell (p := ⟨W.heap.size, 0, none⟩) (Nat.le_refl _) _).setCell (p := ⟨W.heap.size, 1, none⟩) (Nat.le_refl _) _
        have hnbF : ((w5.setCell ⟨W.heap.size, 0, none⟩ (.int .i64 (A.L q' : Int))).setCell ⟨W.heap.size, 1, none⟩ (.int .i64 ((d' : Int) + 1))).heap[W.heap.size]? = some (.cells #[.int .i64 (A.L q' : Int), .int .i64 ((d' + 1 : Nat) : Int)] 61 (0, 0)) := by
          rw [setCell_block _ _ _ _ (setCell_block _ _ _ _ hnb5)]
          rfl
        have far : ∀ k, k ≠ W.heap.size → k < w4.heap.size → ((w5.setCell ⟨W.heap.size, 0, none⟩ (.int .i64 (A.L q' : Int))).setCell ⟨W.heap.size, 1, none⟩ (.int .i64 ((d' : Int) + 1))).heap[k]? = w4.heap[k]? := fun k h1 h2 => by
          rw [Below.heap_setCell _ _ _ _ h1, Below.heap_setCell _ _ _ _ h1]
          exact hb5.block k h2
        have hJF := hs.st _ _ _ _ hJ4 (fun k hk => far k (fun e => hR.w.nf (e ▸ hk)) (hs.lt _ _ _ hJ4 k hk)) (show w4.heap.size ≤ _ by simpa [World.setCell] using hb5.size)
        subst hv4
        go_roundg l.size
        case measure => rw [hk']; simp only [Tr.size]; omega
        case rel =>
          refine ⟨l, A.L q', d' + 1, (q', d', r) :: st', rfl, ?_, ⟨?_, hJF, hl, ⟨hr, by omega, hR.so⟩, by omega, ⟨hnbF, hO4.far fun k hk => ?_, ?_, ?_, hR.w.nf, Nat.le_refl _⟩, hR.ch.past hb49, hR.fr⟩⟩
          · rw [← hlen]
            simp [Tr.spots, StPs]
          · rw [← hR.tot]
            simp [Tr.spots, StPs]
          · cases hk
            exact far g4 hg4n hg4l
          · intro e
            cases e
            exact hg4n rfl
          · intro k hk
            cases hk
            exact hg4f
end Go.Proofs.Ytlklolmhaiaaiaa
