import Derived.Test.YtlklolmhaiaaiaaKY9
namespace Go.Proofs.Ytlklolmhaiaaiaa
open Go.ChangeShapes Go.WideShapes Go.ChangeAt Go.RowKit
set_option linter.unusedVariables false
set_option linter.unusedSimpArgs false

theorem relink {W W' : World} {base qb g c n : Nat} {A A3 : Ar} {t a b : Tr} {fl : List Nat} {root m ra rb : Nat} {room work work' : Int} (h : QI W base qb g c n A t fl root room work) (hps : a.ps ++ m :: b.ps = t.ps) (hE : A3.E = A.E) (hla : a.lies A3.L A3.R ra) (hlb : b.lies A3.L A3.R rb) (hout : ∀ p, p ∉ t.ps → A3.L p = A.L p ∧ A3.R p = A.R p) (hq : QW W' base qb g c n { A3 with L := upd A3.L m ra, R := upd A3.R m rb } ((fl.headD 0 : Nat) : Int) m t.size room work') (hw : 0 ≤ work') : QI W' base qb g c n { A3 with L := upd A3.L m ra, R := upd A3.R m rb } (.node a m b) fl m room work' := by
  have hnd := h.ndT
  rw [← hps] at hnd
  obtain ⟨n1, n2, n3, n4, n5⟩ := ndNode (a := a) (x := m) (b := b) hnd
  have hmt : m ∈ t.ps := by rw [← hps]; simp
  have hm0 : m ≠ 0 := h.neT m hmt
  have hsz : (Tr.node a m b).size = t.size := by rw [← Tr.size_ps, ← Tr.size_ps, ← hps]; rfl
  have hps' : (Tr.node a m b).ps = t.ps := hps
  refine ⟨?_, ⟨rfl, hm0, ?_, ?_⟩, ?_, by rw [hps']; exact h.nd, by rw [hps']; exact h.inr, by rw [hsz]; exact h.cnt, ?_, h.nr, h.rm, ?_, hw⟩
  · rw [hsz]; exact hq
  · show a.lies _ _ (upd A3.L m ra m)
    rw [upd_at]
    exact Tr.lies_congr hla fun p hp => ⟨upd_ne _ _ fun e => n1 (e ▸ hp), upd_ne _ _ fun e => n1 (e ▸ hp)⟩
  · show b.lies _ _ (upd A3.R m rb m)
    rw [upd_at]
    exact Tr.lies_congr hlb fun p hp => ⟨upd_ne _ _ fun e => n2 (e ▸ hp), upd_ne _ _ fun e => n2 (e ▸ hp)⟩
  · refine FLs.congr h.fr fun p hp => ?_
    have hpt : p ∉ t.ps := fun hq => (List.nodup_append.1 h.nd).2.2 p hq p hp rfl
    have hpm : p ≠ m := fun e => hpt (e ▸ hmt)
    show upd A3.L m ra p = _
    rw [upd_ne _ _ hpm]
    exact (hout p hpt).1
  · have h0 : (0 : Nat) ∉ t.ps := fun hq => h.neT 0 hq rfl
    show upd A3.L m ra 0 = 0 ∧ upd A3.R m rb 0 = 0
    rw [upd_ne _ _ (fun e => hm0 e.symm), upd_ne _ _ (fun e => hm0 e.symm), (hout 0 h0).1, (hout 0 h0).2]
    exact h.z
  · rw [hps']
    show t.ps.Pairwise fun p q => keyLt (A3.E p) (A3.E q)
    rw [hE]
    exact h.srt
theorem Ch.comp {qb g g4 : Nat} {W W4 W5 : World} (h : Ch (S2 qb g) W W4) (h' : Ch (S2 qb g4) W4 W5) (hg : g4 = g ∨ W.heap.size ≤ g4) : Ch (S2 qb g) W W5 := ⟨h'.os.trans h.os, h'.tape.trans h.tape, h'.output.trans h.output, Nat.le_trans h.size h'.size, fun j hj hs => (h'.block j (Nat.lt_of_lt_of_le hj h.size) (by
    rintro (e | e)
    · exact hs (.inl e)
    · rcases hg with h2 | h2
      · exact hs (.inr (by rw [e, h2]))
      · omega)).trans (h.block j hj hs)⟩
/-- a new node is linked -/
theorem relinkNew {W W' : World} {base qb g c n g' c' n' : Nat} {A A3 : Ar} {t a b : Tr} {fl fl' : List Nat} {root p ra rb : Nat} {e : Ev} {room work work' : Int} (h : QI W base qb g c n A t fl root room work) (hps : a.ps ++ b.ps = t.ps) (hE : A3.E = A.E) (hla : a.lies A3.L A3.R ra) (hlb : b.lies A3.L A3.R rb) (hout : ∀ p, p ∉ t.ps → A3.L p = A.L p ∧ A3.R p = A.R p)
    (hp0 : p ≠ 0) (hpn : p < n') (hnn : n ≤ n') (hpt : p ∉ t.ps) (hpf : p ∉ fl') (hfl : ∀ q ∈ fl', q ∈ fl) (hfnd : fl'.Nodup) (hfr : FLs A.L fl') (hcnt : t.size + 1 + fl'.length + 1 = n') (hnr : (n' : Int) ≤ room + 1) (hsa : ∀ q ∈ a.ps, keyLt (A.E q) e) (hsb : ∀ q ∈ b.ps, keyLt e (A.E q))
    (hq : QW W' base qb g' c' n' { A3.set p e 0 0 with L := upd (A3.set p e 0 0).L p ra, R := upd (A3.set p e 0 0).R p rb } ((fl'.headD 0 : Nat) : Int) p ((t.size : Int) + 1) room work') (hw : 0 ≤ work') : QI W' base qb g' c' n' { A3.set p e 0 0 with L := upd (A3.set p e 0 0).L p ra, R := upd (A3.set p e 0 0).R p rb } (.node a p b) fl' p room work' ∧ (Tr.node a p b).ps.map (updE A3.E p e) = a.ps.map A.E ++ e :: b.ps.map A.E := by
  have hnd := h.ndT
  have hne : ∀ q ∈ t.ps, q ≠ p := fun q hq e => hpt (e ▸ hq)
  have hna : ∀ q ∈ a.ps, q ≠ p := fun q hq => hne q (by rw [← hps]; simp [hq])
  have hnb : ∀ q ∈ b.ps, q ≠ p := fun q hq => hne q (by rw [← hps]; simp [hq])
  have hsz : (Tr.node a p b).size = t.size + 1 := by
    have := congrArg List.length hps
    rw [List.length_append, Tr.size_ps, Tr.size_ps, Tr.size_ps] at this
    simp only [Tr.size]
    omega
  have hL : ∀ q, q ≠ p → upd (A3.set p e 0 0).L p ra q = A3.L q := fun q hq => by rw [upd_ne _ _ hq]; exact upd_ne _ _ hq
  have hR : ∀ q, q ≠ p → upd (A3.set p e 0 0).R p rb q = A3.R q := fun q hq => by rw [upd_ne _ _ hq]; exact upd_ne _ _ hq
  have hEq : ∀ q, q ≠ p → updE A3.E p e q = A.E q := fun q hq => by unfold updE; rw [if_neg hq, hE]
  have hEp : updE A3.E p e p = e := if_pos rfl
  refine ⟨⟨?_, ⟨rfl, hp0, ?_, ?_⟩, ?_, ?_, ?_, by rw [hsz]; exact hcnt, ?_, hnr, h.rm, ?_, hw⟩, ?_⟩
  · rw [hsz]; exact hq
  · show a.lies _ _ (upd (A3.set p e 0 0).L p ra p)
    rw [upd_at]
    exact Tr.lies_congr hla fun q hq => ⟨hL q (hna q hq), hR q (hna q hq)⟩
  · show b.lies _ _ (upd (A3.set p e 0 0).R p rb p)
    rw [upd_at]
    exact Tr.lies_congr hlb fun q hq => ⟨hL q (hnb q hq), hR q (hnb q hq)⟩
  · refine FLs.congr hfr fun q hq => ?_
    have hqt : q ∉ t.ps := fun h2 => (List.nodup_append.1 h.nd).2.2 q h2 q (hfl q hq) rfl
    show upd (A3.set p e 0 0).L p ra q = _
    rw [hL q fun e => hpf (e ▸ hq)]
    exact (hout q hqt).1
  · have hnd2 := (List.nodup_append.1 h.nd)
    rw [List.nodup_append]
    refine ⟨?_, hfnd, ?_⟩
    · show (a.ps ++ p :: b.ps).Nodup
      rw [← hps, List.nodup_append] at hnd
      rw [List.nodup_append, List.nodup_cons]
      exact ⟨hnd.1, ⟨fun h2 => hnb p h2 rfl, hnd.2.1⟩, fun x hx y hy => by
        rcases List.mem_cons.1 hy with h2 | h2
        · rw [h2]; exact hna x hx
        · exact hnd.2.2 x hx y h2⟩
    · intro x hx y hy
      have hx' : x ∈ a.ps ∨ x = p ∨ x ∈ b.ps := by simpa [Tr.ps] using hx
      rcases hx' with h2 | h2 | h2
      · exact hnd2.2.2 x (by rw [← hps]; simp [h2]) y (hfl y hy)
      · rw [h2]; exact fun e => hpf (e ▸ hy)
      · exact hnd2.2.2 x (by rw [← hps]; simp [h2]) y (hfl y hy)
  · intro x hx
    have hx' : x ∈ a.ps ∨ x = p ∨ x ∈ b.ps ∨ x ∈ fl' := by simpa [Tr.ps] using hx
    rcases hx' with h2 | h2 | h2 | h2
    · have := h.inr x (by rw [← hps]; simp [h2]); omega
    · omega
    · have := h.inr x (by rw [← hps]; simp [h2]); omega
    · have := h.inr x (by simp [hfl x h2]); omega
  · have h0 : (0 : Nat) ∉ t.ps := fun hq => h.neT 0 hq rfl
    show upd (A3.set p e 0 0).L p ra 0 = 0 ∧ upd (A3.set p e 0 0).R p rb 0 = 0
    rw [hL 0 (fun e => hp0 e.symm), hR 0 (fun e => hp0 e.symm), (hout 0 h0).1, (hout 0 h0).2]
    exact h.z
  · show (a.ps ++ p :: b.ps).Pairwise fun x y => keyLt (updE A3.E p e x) (updE A3.E p e y)
    have hs := h.srt
    rw [← hps, List.pairwise_append] at hs
    rw [List.pairwise_append, List.pairwise_cons]
    refine ⟨hs.1.imp_of_mem fun {x y} hx hy h2 => by rw [hEq x (hna x hx), hEq y (hna y hy)]; exact h2, ⟨fun y hy => by rw [hEp, hEq y (hnb y hy)]; exact hsb y hy, hs.2.1.imp_of_mem fun {x y} hx hy h2 => by rw [hEq x (hnb x hx), hEq y (hnb y hy)]; exact h2⟩, fun x hx y hy => ?_⟩
    rw [hEq x (hna x hx)]
    rcases List.mem_cons.1 hy with h2 | h2
    · rw [h2, hEp]; exact hsa x hx
    · rw [hEq y (hnb y h2)]; exact hs.2.2 x hx y h2
  · show (a.ps ++ p :: b.ps).map _ = _
    rw [List.map_append, List.map_cons, hEp, List.map_congr_left fun q hq => hEq q (hna q hq), List.map_congr_left fun q hq => hEq q (hnb q hq)]
set_option maxRecDepth 100000 in
set_option maxHeartbeats 4000000 in
theorem insert_full (base qb g c n : Nat) (A : Ar) (t : Tr) (fl : List Nat) (root : Nat) (room work : Int) (e : Ev) (W : World) (h : QI W base qb g c n A t fl root room work) (hf : (t.size : Int) = room) :
    Calls Try.prog 29 #[.pointer (some ⟨qb, 0, none⟩), evV e] W fun e' W' => e' = .returned (.int .i64 80) ∧ Below W.heap.size W W' := by
  obtain ⟨W1, hW1⟩ : ∃ W1, W.alloc (.cells #[.int .u64 e.t, .int .i64 e.s, .int .u64 e.q, .int .i64 e.d, .int .i64 e.k, .int .i64 e.v] 64) = W1 := ⟨_, rfl⟩
  have hb1 : Below W.heap.size W W1 := by rw [← hW1]; exact (Below.refl _ W).alloc (Nat.le_refl _) _
  have he1 : W1.heap[W.heap.size]? = some (.cells #[.int .u64 e.t, .int .i64 e.s, .int .u64 e.q, .int .i64 e.d, .int .i64 e.k, .int .i64 e.v] 64 (0, 0)) := by rw [← hW1]; exact World.alloc_heap_new W _
  have hz1 : W1.heap.size = W.heap.size + 1 := by rw [← hW1, World.size_alloc]
  have HW : Hid (W.alloc (.cells #[.int .u64 e.t, .int .i64 e.s, .int .u64 e.q, .int .i64 e.d, .int .i64 e.k, .int .i64 e.v] 64) = W1) := hW1
  have hQ1 := h.q.later hb1
  obtain ⟨q0, q1, q2, q3, q4, q5⟩ := hQ1.cells
  rw [← hW1] at q0 q1 q2 q3 q4 q5
  have hlt := h.q.lt
  have hn1 := h.n1
  have hl1 := lt_of_block he1
  clear hW1
  have df : ((t.size : Int) == room) = true := by simpa using hf
  unfold evV
  go_enter Try.func29, Try.ntmps29
  go_wp2_with fail
  go_quiet (fail)
  go_wp2
  go_ret
  rw [HW.out]
  exact ⟨rfl, hb1.trans (below_drewNq _ _ _)⟩
set_option maxRecDepth 100000 in
set_option maxHeartbeats 4000000 in
theorem insert_twinX (base qb g c n : Nat) (A : Ar) (t : Tr) (fl : List Nat) (root : Nat) (room work : Int) (e : Ev) (W : World) (h : QI W base qb g c n A t fl root room work) (hf : (t.size : Int) ≠ room) (hwk2 : work ≤ 4611686018427387904) (hm : (openT (sdK e.t e.s e.q A.E) t).m ≠ 0) :
    Calls Try.prog 29 #[.pointer (some ⟨qb, 0, none⟩), evV e] W fun e' W' => e' = .returned (.int .i64 81) ∧ ∃ A', QI W' base qb g c n A' (.node (openT (sdK e.t e.s e.q A.E) t).a (openT (sdK e.t e.s e.q A.E) t).m (openT (sdK e.t e.s e.q A.E) t).b) fl (openT (sdK e.t e.s e.q A.E) t).m room (work + (openT (sdK e.t e.s e.q A.E) t).k) ∧ (Tr.node (openT (sdK e.t e.s e.q A.E) t).a (openT (sdK e.t e.s e.q A.E) t).m (openT (sdK e.t e.s e.q A.E) t).b).ps = t.ps ∧ A'.E = A.E ∧ Ch (S2 qb g) W W' := by
  obtain ⟨W1, hW1⟩ : ∃ W1, W.alloc (.cells #[.int .u64 e.t, .int .i64 e.s, .int .u64 e.q, .int .i64 e.d, .int .i64 e.k, .int .i64 e.v] 64) = W1 := ⟨_, rfl⟩
  have hb1 : Below W.heap.size W W1 := by rw [← hW1]; exact (Below.refl _ W).alloc (Nat.le_refl _) _
  have he1 : W1.heap[W.heap.size]? = some (.cells #[.int .u64 e.t, .int .i64 e.s, .int .u64 e.q, .int .i64 e.d, .int .i64 e.k, .int .i64 e.v] 64 (0, 0)) := by rw [← hW1]; exact World.alloc_heap_new W _
  have hz1 : W1.heap.size = W.heap.size + 1 := by rw [← hW1, World.size_alloc]
  have HW : Hid (W.alloc (.cells #[.int .u64 e.t, .int .i64 e.s, .int .u64 e.q, .int .i64 e.d, .int .i64 e.k, .int .i64 e.v] 64) = W1) := hW1
  have hQ1 := h.q.later hb1
  obtain ⟨q0, q1, q2, q3, q4, q5⟩ := hQ1.cells
  rw [← hW1] at q0 q1 q2 q3 q4 q5
  have hlt := h.q.lt
  have hn1 := h.n1
  have hl1 := lt_of_block he1
  clear hW1
  have df : ((t.size : Int) == room) = false := by simpa using hf
  unfold evV
  go_enter Try.func29, Try.ntmps29
  go_wp2_with fail
  go_quiet (fail)
  rw [HW.out]
  generalize hwb : World.drewN W1 _ = WB
  have hbB : Below W1.heap.size W1 WB := by rw [← hwb]; exact below_drewNq _ _ _
  have hQB := hQ1.later hbB
  have heB := (hbB.block _ hl1).trans he1
  clear hwb q0 q1 q2 q3 q4 q5
  go_wp2_with fail
  obtain ⟨p0, p1, p2, p3, p4, p5⟩ := hQB.cells
  have hlB := hQB.lt
  have hleB := lt_of_block heB
  refine wp_region_held_drew (S := fun W9 => W9.cell? ⟨qb, 2, none⟩ = some (.int .i64 (root : Int)) ∧ W9.heap[W.heap.size]? = WB.heap[W.heap.size]?) (by kernel_rfl) ⟨p2, rfl⟩ (fun hHeld => ?_)
  refine wpAnyH_take (i := 0) (v := ?hv0u1) rfl (by kernel_rfl) (by kernel_rfl) (by kernel_rfl) (fun _ _ _ h => h) (Or.inl ⟨by rfl, ?hy0u1⟩) (by assumption) ?hr0u1
  case hy0u1 => ((intro W9 hSw; have q2' := hSw.1; obtain ⟨v0, v1, v2, v3, v4, v5⟩ := q6c (hSw.2.trans heB); go_simp); try with_reducible rfl)
  simp only [List.getElem_toArray, List.getElem_cons_zero, List.getElem_cons_succ, Act.put, List.setIfInBounds_toArray, List.set_cons_zero, List.set_cons_succ]
  refine wpAnyH_take (i := 1) (v := ?hv1u2) rfl (by kernel_rfl) (by kernel_rfl) (by kernel_rfl) (fun _ _ _ h => h) (Or.inl ⟨by rfl, ?hy1u2⟩) (by assumption) ?hr1u2
  case hy1u2 => ((intro W9 hSw; have q2' := hSw.1; obtain ⟨v0, v1, v2, v3, v4, v5⟩ := q6c (hSw.2.trans heB); go_simp); try with_reducible rfl)
  simp only [List.getElem_toArray, List.getElem_cons_zero, List.getElem_cons_succ, Act.put, List.setIfInBounds_toArray, List.set_cons_zero, List.set_cons_succ]
  refine wpAnyH_take (i := 2) (v := ?hv2u3) rfl (by kernel_rfl) (by kernel_rfl) (by kernel_rfl) (fun _ _ _ h => h) (Or.inl ⟨by rfl, ?hy2u3⟩) (by assumption) ?hr2u3
  case hy2u3 => ((intro W9 hSw; have q2' := hSw.1; obtain ⟨v0, v1, v2, v3, v4, v5⟩ := q6c (hSw.2.trans heB); go_simp); try with_reducible rfl)
  simp only [List.getElem_toArray, List.getElem_cons_zero, List.getElem_cons_succ, Act.put, List.setIfInBounds_toArray, List.set_cons_zero, List.set_cons_succ]
  refine wpAnyH_take (i := 3) (v := ?hv3u4) rfl (by kernel_rfl) (by kernel_rfl) (by kernel_rfl) (fun _ _ _ h => h) (Or.inl ⟨by rfl, ?hy3u4⟩) (by assumption) ?hr3u4
  case hy3u4 => ((intro W9 hSw; have q2' := hSw.1; obtain ⟨v0, v1, v2, v3, v4, v5⟩ := q6c (hSw.2.trans heB); go_simp); try with_reducible rfl)
  simp only [List.getElem_toArray, List.getElem_cons_zero, List.getElem_cons_succ, Act.put, List.setIfInBounds_toArray, List.set_cons_zero, List.set_cons_succ]
  refine wpAnyH_take (i := 4) (v := ?hv4u5) rfl (by kernel_rfl) (by kernel_rfl) (by kernel_rfl) (fun _ _ _ h => h) (Or.inl ⟨by rfl, ?hy4u5⟩) (by assumption) ?hr4u5
  case hy4u5 => ((intro W9 hSw; have q2' := hSw.1; obtain ⟨v0, v1, v2, v3, v4, v5⟩ := q6c (hSw.2.trans heB); go_simp); try with_reducible rfl)
  simp only [List.getElem_toArray, List.getElem_cons_zero, List.getElem_cons_succ, Act.put, List.setIfInBounds_toArray, List.set_cons_zero, List.set_cons_succ]
  refine wpAnyH_take (i := 5) (v := ?hv5u6) rfl (by kernel_rfl) (by kernel_rfl) (by kernel_rfl) (fun _ _ _ h => h) (Or.inl ⟨by rfl, ?hy5u6⟩) (by assumption) ?hr5u6
  case hy5u6 => ((intro W9 hSw; have q2' := hSw.1; obtain ⟨v0, v1, v2, v3, v4, v5⟩ := q6c (hSw.2.trans heB); go_simp); try with_reducible rfl)
  simp only [List.getElem_toArray, List.getElem_cons_zero, List.getElem_cons_succ, Act.put, List.setIfInBounds_toArray, List.set_cons_zero, List.set_cons_succ]
  refine wpAnyH_take (i := 6) (v := ?hv6u7) rfl (by kernel_rfl) (by kernel_rfl) (by kernel_rfl) (fun _ _ _ h => h) (Or.inl ⟨by rfl, ?hy6u7⟩) (by assumption) ?hr6u7
  case hy6u7 => ((intro W9 hSw; have q2' := hSw.1; obtain ⟨v0, v1, v2, v3, v4, v5⟩ := q6c (hSw.2.trans heB); go_simp); try with_reducible rfl)
  simp only [List.getElem_toArray, List.getElem_cons_zero, List.getElem_cons_succ, Act.put, List.setIfInBounds_toArray, List.set_cons_zero, List.set_cons_succ]
  refine wpAnyH_take (i := 7) (v := ?hv7u8) rfl (by kernel_rfl) (by kernel_rfl) (by kernel_rfl) (fun _ _ _ h => h) (Or.inl ⟨by rfl, ?hy7u8⟩) (by assumption) ?hr7u8
  case hy7u8 => ((intro W9 hSw; have q2' := hSw.1; obtain ⟨v0, v1, v2, v3, v4, v5⟩ := q6c (hSw.2.trans heB); go_simp); try with_reducible rfl)
  simp only [List.getElem_toArray, List.getElem_cons_zero, List.getElem_cons_succ, Act.put, List.setIfInBounds_toArray, List.set_cons_zero, List.set_cons_succ]
  refine wpAnyH_ready (rs := [8]) (by kernel_rfl) (by simp) (AllReadyH.cons rfl (fun KK hK => ?_) AllReadyH.nil)
  dsimp -proj only [List.getElem_toArray, List.getElem_cons_zero, List.getElem_cons_succ]
  go_simp
  go_at_call 57
  refine (toKey_any qb e.t e.s e.q WB.drew).mono ?_
  rintro e' w2 ⟨rfl, hKB, hPB, hb2⟩
  try go_wp2_with fail
  have hbd : Below WB.heap.size WB w2 := (below_drewNq _ WB 1).trans (hb2.mono (Nat.le_refl _))
  have hQ2 := hQB.later hbd
  have he2 := (hbd.block _ hleB).trans heB
  refine hK.out _ _ ⟨hQ2.cells.2.2.1, hbd.block _ hleB⟩ (fun hHeld => ?_)
  clear hK KK
  try simp only [List.getElem_toArray, List.getElem_cons_zero, List.getElem_cons_succ, Act.put, List.setIfInBounds_toArray, List.set_cons_zero, List.set_cons_succ]
  refine wpAnyH_ready (rs := [9]) (by kernel_rfl) (by simp) (AllReadyH.cons rfl (fun KK hK => ?_) AllReadyH.nil)
  dsimp -proj only [List.getElem_toArray, List.getElem_cons_zero, List.getElem_cons_succ]
  go_simp
  go_at_call 46
  have hsz2 := hb2.size
  have hsd : WB.drew.heap.size = WB.heap.size := rfl
  have hwk := h.wk
  refine (open_any 73 #[.pointer (some ⟨WB.drew.heap.size + 1, 0, none⟩), .pointer (some ⟨WB.drew.heap.size, 0, none⟩)] enterK base qb g c n A _ _ _ _ _ (sdK e.t e.s e.q A.E) (side_sdK _ _ _ _) t root w2 hQ2 hn1.2.1 hn1.1 h.ti h.ndT h.inT h.z ⟨hwk, hwk2⟩ hn1.2.2 (wayK hKB hPB (by omega) (by omega) hn1.2.1)).mono ?_
  rintro e' w3 ⟨A3, ra, rb, rfl, hQ3, hE3, hla, hlb, hout, hC3⟩
  try go_wp2_with fail
  refine hK.out _ _ ⟨hQ3.cells.2.2.1, (hC3.block _ (by omega) (by rintro (e | e) <;> omega)).trans (hbd.block _ hleB)⟩ (fun hHeld => ?_)
  clear hK KK
  try simp only [List.getElem_toArray, List.getElem_cons_zero, List.getElem_cons_succ, Act.put, List.setIfInBounds_toArray, List.set_cons_zero, List.set_cons_succ]
  refine wpAnyH_take (i := 10) (v := ?hv10u9) rfl (by kernel_rfl) (by kernel_rfl) (by kernel_rfl) (fun _ _ _ h => h) (Or.inl ⟨by rfl, ?hy10u9⟩) (by assumption) ?hr10u9
  case hy10u9 => ((intro W9 hSw; go_simp); try with_reducible rfl)
  simp only [List.getElem_toArray, List.getElem_cons_zero, List.getElem_cons_succ, Act.put, List.setIfInBounds_toArray, List.set_cons_zero, List.set_cons_succ]
  refine wpAnyH_take (i := 11) (v := ?hv11u10) rfl (by kernel_rfl) (by kernel_rfl) (by kernel_rfl) (fun _ _ _ h => h) (Or.inl ⟨by rfl, ?hy11u10⟩) (by assumption) ?hr11u10
  case hy11u10 => ((intro W9 hSw; go_simp); try with_reducible rfl)
  simp only [List.getElem_toArray, List.getElem_cons_zero, List.getElem_cons_succ, Act.put, List.setIfInBounds_toArray, List.set_cons_zero, List.set_cons_succ]
  refine wpAnyH_take (i := 12) (v := ?hv12u11) rfl (by kernel_rfl) (by kernel_rfl) (by kernel_rfl) (fun _ _ _ h => h) (Or.inl ⟨by rfl, ?hy12u11⟩) (by assumption) ?hr12u11
  case hy12u11 => ((intro W9 hSw; go_simp); try with_reducible rfl)
  simp only [List.getElem_toArray, List.getElem_cons_zero, List.getElem_cons_succ, Act.put, List.setIfInBounds_toArray, List.set_cons_zero, List.set_cons_succ]
  refine wpAnyH_take (i := 13) (v := ?hv13u12) rfl (by kernel_rfl) (by kernel_rfl) (by kernel_rfl) (fun _ _ _ h => h) (Or.inl ⟨by rfl, ?hy13u12⟩) (by assumption) ?hr13u12
  case hy13u12 => ((intro W9 hSw; go_simp); try with_reducible rfl)
  simp only [List.getElem_toArray, List.getElem_cons_zero, List.getElem_cons_succ, Act.put, List.setIfInBounds_toArray, List.set_cons_zero, List.set_cons_succ]
  refine wpAnyH_take (i := 14) (v := ?hv14u13) rfl (by kernel_rfl) (by kernel_rfl) (by kernel_rfl) (fun _ _ _ h => h) (Or.inl ⟨by rfl, ?hy14u13⟩) (by assumption) ?hr14u13
  case hy14u13 => ((intro W9 hSw; go_simp); try with_reducible rfl)
  simp only [List.getElem_toArray, List.getElem_cons_zero, List.getElem_cons_succ, Act.put, List.setIfInBounds_toArray, List.set_cons_zero, List.set_cons_succ]
  refine wpAnyH_take (i := 15) (v := ?hv15u14) rfl (by kernel_rfl) (by kernel_rfl) (by kernel_rfl) (fun _ _ _ h => h) (Or.inl ⟨by rfl, ?hy15u14⟩) (by assumption) ?hr15u14
  case hy15u14 => ((intro W9 hSw; go_simp); try with_reducible rfl)
  simp only [List.getElem_toArray, List.getElem_cons_zero, List.getElem_cons_succ, Act.put, List.setIfInBounds_toArray, List.set_cons_zero, List.set_cons_succ]
  refine wpAnyH_take (i := 16) (v := ?hv16u15) rfl (by kernel_rfl) (by kernel_rfl) (by kernel_rfl) (fun _ _ _ h => h) (Or.inl ⟨by rfl, ?hy16u15⟩) (by assumption) ?hr16u15
  case hy16u15 => ((intro W9 hSw; go_simp); try with_reducible rfl)
  simp only [List.getElem_toArray, List.getElem_cons_zero, List.getElem_cons_succ, Act.put, List.setIfInBounds_toArray, List.set_cons_zero, List.set_cons_succ]
  refine wpAnyH_done (by kernel_rfl) ?_ _
  have hps := openT_ps (side_sdK e.t e.s e.q A.E) t.size t (Nat.le_refl _) h.neT
  rw [midn hm] at hps
  have hps2 : (openT (sdK e.t e.s e.q A.E) t).a.ps ++ (openT (sdK e.t e.s e.q A.E) t).m :: (openT (sdK e.t e.s e.q A.E) t).b.ps = t.ps := by rw [← hps]; simp
  have hmn : (openT (sdK e.t e.s e.q A.E) t).m < n := h.inT _ (by rw [← hps2]; simp)
  generalize hO : openT (sdK e.t e.s e.q A.E) t = O at *
  have dm : ((O.m : Int) == 0) = false := by simp; omega
  have HL := link_any base qb g c n A3 _ _ _ _ _ ra O.m rb w3 hQ3 hmn hn1.2.1
  go_wp2_with (go_at_call 58; (with_reducible refine HL.mono ?_); rintro e' w4 ⟨rfl, hQ4, hC4⟩; obtain ⟨z0, z1, z2, z3, z4, z5⟩ := hQ4.cells; have zf := own_frozen hQ4.box 2)
  go_ret
  refine ⟨rfl, { A3 with L := upd A3.L O.m ra, R := upd A3.R O.m rb }, by rw [hO]; exact relink h hps2 hE3 hla hlb hout (hQ4.setRoot (O.m : Int)) (by omega), by rw [hO]; exact hps2, hE3, ?_⟩
  exact ((((Ch.below hb1).trans (Ch.below hbB)).trans (Ch.below hbd)).trans hC3).trans (hC4.trans (Ch.set _ _ _ _ _ (.inl rfl)))
theorem insert_twin (base qb g c n : Nat) (A : Ar) (t : Tr) (fl : List Nat) (root : Nat) (room work : Int) (e : Ev) (W : World) (h : QI W base qb g c n A t fl root room work) (hf : (t.size : Int) ≠ room) (hwk2 : work ≤ 4611686018427387904) (hm : (openT (sdK e.t e.s e.q A.E) t).m ≠ 0) :
    Calls Try.prog 29 #[.pointer (some ⟨qb, 0, none⟩), evV e] W fun e' W' => e' = .returned (.int .i64 81) ∧ ∃ A' t' root', QI W' base qb g c n A' t' fl root' room (work + (openT (sdK e.t e.s e.q A.E) t).k) ∧ t'.ps = t.ps ∧ A'.E = A.E ∧ Ch (S2 qb g) W W' ∧ root' = (openT (sdK e.t e.s e.q A.E) t).m :=
  (insert_twinX base qb g c n A t fl root room work e W h hf hwk2 hm).mono fun _ _ ⟨h1, A', h2, h3, h4, h5⟩ => ⟨h1, A', _, _, h2, h3, h4, h5, rfl⟩
set_option maxRecDepth 100000 in
set_option maxHeartbeats 4000000 in
theorem insert_newX (base qb g c n : Nat) (A : Ar) (t : Tr) (root : Nat) (room work : Int) (e : Ev) (W : World) (h : QI W base qb g c n A t [] root room work) (hf : (t.size : Int) ≠ room) (hwk2 : work ≤ 4611686018427387904) (hm : (openT (sdK e.t e.s e.q A.E) t).m = 0) :
    Calls Try.prog 29 #[.pointer (some ⟨qb, 0, none⟩), evV e] W fun e' W' => e' = .returned (.int .i64 0) ∧ ∃ (g' c' n' : Nat) (A' : Ar) (fl' : List Nat) (p' : Nat), QI W' base qb g' c' n' A' (.node (openT (sdK e.t e.s e.q A.E) t).a p' (openT (sdK e.t e.s e.q A.E) t).b) fl' p' room (work + (openT (sdK e.t e.s e.q A.E) t).k) ∧ (Tr.node (openT (sdK e.t e.s e.q A.E) t).a p' (openT (sdK e.t e.s e.q A.E) t).b).ps.map A'.E = (openT (sdK e.t e.s e.q A.E) t).a.ps.map A.E ++ e :: (openT (sdK e.t e.s e.q A.E) t).b.ps.map A.E ∧ Ch (S2 qb g) W W' ∧ (g' = g ∨ W.heap.size ≤ g') ∧ p' ≠ 0 ∧ A'.E p' = e ∧ ∀ q, q ≠ p' → A'.E q = A.E q := by
  obtain ⟨W1, hW1⟩ : ∃ W1, W.alloc (.cells #[.int .u64 e.t, .int .i64 e.s, .int .u64 e.q, .int .i64 e.d, .int .i64 e.k, .int .i64 e.v] 64) = W1 := ⟨_, rfl⟩
  have hb1 : Below W.heap.size W W1 := by rw [← hW1]; exact (Below.refl _ W).alloc (Nat.le_refl _) _
  have he1 : W1.heap[W.heap.size]? = some (.cells #[.int .u64 e.t, .int .i64 e.s, .int .u64 e.q, .int .i64 e.d, .int .i64 e.k, .int .i64 e.v] 64 (0, 0)) := by rw [← hW1]; exact World.alloc_heap_new W _
  have hz1 : W1.heap.size = W.heap.size + 1 := by rw [← hW1, World.size_alloc]
  have HW : Hid (W.alloc (.cells #[.int .u64 e.t, .int .i64 e.s, .int .u64 e.q, .int .i64 e.d, .int .i64 e.k, .int .i64 e.v] 64) = W1) := hW1
  have hQ1 := h.q.later hb1
  obtain ⟨q0, q1, q2, q3, q4, q5⟩ := hQ1.cells
  rw [← hW1] at q0 q1 q2 q3 q4 q5
  have hlt := h.q.lt
  have hn1 := h.n1
  have hl1 := lt_of_block he1
  clear hW1
  have df : ((t.size : Int) == room) = false := by simpa using hf
  unfold evV
  go_enter Try.func29, Try.ntmps29
  go_wp2_with fail
  go_quiet (fail)
  rw [HW.out]
  generalize hwb : World.drewN W1 _ = WB
  have hbB : Below W1.heap.size W1 WB := by rw [← hwb]; exact below_drewNq _ _ _
  have hQB := hQ1.later hbB
  have heB := (hbB.block _ hl1).trans he1
  clear hwb q0 q1 q2 q3 q4 q5
  go_wp2_with fail
  obtain ⟨p0, p1, p2, p3, p4, p5⟩ := hQB.cells
  have hlB := hQB.lt
  have hleB := lt_of_block heB
  refine wp_region_held_drew (S := fun W9 => W9.cell? ⟨qb, 2, none⟩ = some (.int .i64 (root : Int)) ∧ W9.heap[W.heap.size]? = WB.heap[W.heap.size]?) (by kernel_rfl) ⟨p2, rfl⟩ (fun hHeld => ?_)
  refine wpAnyH_take (i := 0) (v := ?hv0u1) rfl (by kernel_rfl) (by kernel_rfl) (by kernel_rfl) (fun _ _ _ h => h) (Or.inl ⟨by rfl, ?hy0u1⟩) (by assumption) ?hr0u1
  case hy0u1 => ((intro W9 hSw; have q2' := hSw.1; obtain ⟨v0, v1, v2, v3, v4, v5⟩ := q6c (hSw.2.trans heB); go_simp); try with_reducible rfl)
  simp only [List.getElem_toArray, List.getElem_cons_zero, List.getElem_cons_succ, Act.put, List.setIfInBounds_toArray, List.set_cons_zero, List.set_cons_succ]
  refine wpAnyH_take (i := 1) (v := ?hv1u2) rfl (by kernel_rfl) (by kernel_rfl) (by kernel_rfl) (fun _ _ _ h => h) (Or.inl ⟨by rfl, ?hy1u2⟩) (by assumption) ?hr1u2
  case hy1u2 => ((intro W9 hSw; have q2' := hSw.1; obtain ⟨v0, v1, v2, v3, v4, v5⟩ := q6c (hSw.2.trans heB); go_simp); try with_reducible rfl)
  simp only [List.getElem_toArray, List.getElem_cons_zero, List.getElem_cons_succ, Act.put, List.setIfInBounds_toArray, List.set_cons_zero, List.set_cons_succ]
  refine wpAnyH_take (i := 2) (v := ?hv2u3) rfl (by kernel_rfl) (by kernel_rfl) (by kernel_rfl) (fun _ _ _ h => h) (Or.inl ⟨by rfl, ?hy2u3⟩) (by assumption) ?hr2u3
  case hy2u3 => ((intro W9 hSw; have q2' := hSw.1; obtain ⟨v0, v1, v2, v3, v4, v5⟩ := q6c (hSw.2.trans heB); go_simp); try with_reducible rfl)
  simp only [List.getElem_toArray, List.getElem_cons_zero, List.getElem_cons_succ, Act.put, List.setIfInBounds_toArray, List.set_cons_zero, List.set_cons_succ]
  refine wpAnyH_take (i := 3) (v := ?hv3u4) rfl (by kernel_rfl) (by kernel_rfl) (by kernel_rfl) (fun _ _ _ h => h) (Or.inl ⟨by rfl, ?hy3u4⟩) (by assumption) ?hr3u4
  case hy3u4 => ((intro W9 hSw; have q2' := hSw.1; obtain ⟨v0, v1, v2, v3, v4, v5⟩ := q6c (hSw.2.trans heB); go_simp); try with_reducible rfl)
  simp only [List.getElem_toArray, List.getElem_cons_zero, List.getElem_cons_succ, Act.put, List.setIfInBounds_toArray, List.set_cons_zero, List.set_cons_succ]
  refine wpAnyH_take (i := 4) (v := ?hv4u5) rfl (by kernel_rfl) (by kernel_rfl) (by kernel_rfl) (fun _ _ _ h => h) (Or.inl ⟨by rfl, ?hy4u5⟩) (by assumption) ?hr4u5
  case hy4u5 => ((intro W9 hSw; have q2' := hSw.1; obtain ⟨v0, v1, v2, v3, v4, v5⟩ := q6c (hSw.2.trans heB); go_simp); try with_reducible rfl)
  simp only [List.getElem_toArray, List.getElem_cons_zero, List.getElem_cons_succ, Act.put, List.setIfInBounds_toArray, List.set_cons_zero, List.set_cons_succ]
  refine wpAnyH_take (i := 5) (v := ?hv5u6) rfl (by kernel_rfl) (by kernel_rfl) (by kernel_rfl) (fun _ _ _ h => h) (Or.inl ⟨by rfl, ?hy5u6⟩) (by assumption) ?hr5u6
  case hy5u6 => ((intro W9 hSw; have q2' := hSw.1; obtain ⟨v0, v1, v2, v3, v4, v5⟩ := q6c (hSw.2.trans heB); go_simp); try with_reducible rfl)
  simp only [List.getElem_toArray, List.getElem_cons_zero, List.getElem_cons_succ, Act.put, List.setIfInBounds_toArray, List.set_cons_zero, List.set_cons_succ]
  refine wpAnyH_take (i := 6) (v := ?hv6u7) rfl (by kernel_rfl) (by kernel_rfl) (by kernel_rfl) (fun _ _ _ h => h) (Or.inl ⟨by rfl, ?hy6u7⟩) (by assumption) ?hr6u7
  case hy6u7 => ((intro W9 hSw; have q2' := hSw.1; obtain ⟨v0, v1, v2, v3, v4, v5⟩ := q6c (hSw.2.trans heB); go_simp); try with_reducible rfl)
  simp only [List.getElem_toArray, List.getElem_cons_zero, List.getElem_cons_succ, Act.put, List.setIfInBounds_toArray, List.set_cons_zero, List.set_cons_succ]
  refine wpAnyH_take (i := 7) (v := ?hv7u8) rfl (by kernel_rfl) (by kernel_rfl) (by kernel_rfl) (fun _ _ _ h => h) (Or.inl ⟨by rfl, ?hy7u8⟩) (by assumption) ?hr7u8
  case hy7u8 => ((intro W9 hSw; have q2' := hSw.1; obtain ⟨v0, v1, v2, v3, v4, v5⟩ := q6c (hSw.2.trans heB); go_simp); try with_reducible rfl)
  simp only [List.getElem_toArray, List.getElem_cons_zero, List.getElem_cons_succ, Act.put, List.setIfInBounds_toArray, List.set_cons_zero, List.set_cons_succ]
  refine wpAnyH_ready (rs := [8]) (by kernel_rfl) (by simp) (AllReadyH.cons rfl (fun KK hK => ?_) AllReadyH.nil)
  dsimp -proj only [List.getElem_toArray, List.getElem_cons_zero, List.getElem_cons_succ]
  go_simp
  go_at_call 57
  refine (toKey_any qb e.t e.s e.q WB.drew).mono ?_
  rintro e' w2 ⟨rfl, hKB, hPB, hb2⟩
  try go_wp2_with fail
  have hbd : Below WB.heap.size WB w2 := (below_drewNq _ WB 1).trans (hb2.mono (Nat.le_refl _))
  have hQ2 := hQB.later hbd
  have he2 := (hbd.block _ hleB).trans heB
  refine hK.out _ _ ⟨hQ2.cells.2.2.1, hbd.block _ hleB⟩ (fun hHeld => ?_)
  clear hK KK
  try simp only [List.getElem_toArray, List.getElem_cons_zero, List.getElem_cons_succ, Act.put, List.setIfInBounds_toArray, List.set_cons_zero, List.set_cons_succ]
  refine wpAnyH_ready (rs := [9]) (by kernel_rfl) (by simp) (AllReadyH.cons rfl (fun KK hK => ?_) AllReadyH.nil)
  dsimp -proj only [List.getElem_toArray, List.getElem_cons_zero, List.getElem_cons_succ]
  go_simp
  go_at_call 46
  have hsz2 := hb2.size
  have hsd : WB.drew.heap.size = WB.heap.size := rfl
  have hwk := h.wk
  refine (open_any 73 #[.pointer (some ⟨WB.drew.heap.size + 1, 0, none⟩), .pointer (some ⟨WB.drew.heap.size, 0, none⟩)] enterK base qb g c n A _ _ _ _ _ (sdK e.t e.s e.q A.E) (side_sdK _ _ _ _) t root w2 hQ2 hn1.2.1 hn1.1 h.ti h.ndT h.inT h.z ⟨hwk, hwk2⟩ hn1.2.2 (wayK hKB hPB (by omega) (by omega) hn1.2.1)).mono ?_
  rintro e' w3 ⟨A3, ra, rb, rfl, hQ3, hE3, hla, hlb, hout, hC3⟩
  try go_wp2_with fail
  refine hK.out _ _ ⟨hQ3.cells.2.2.1, (hC3.block _ (by omega) (by rintro (e | e) <;> omega)).trans (hbd.block _ hleB)⟩ (fun hHeld => ?_)
  clear hK KK
  try simp only [List.getElem_toArray, List.getElem_cons_zero, List.getElem_cons_succ, Act.put, List.setIfInBounds_toArray, List.set_cons_zero, List.set_cons_succ]
  refine wpAnyH_take (i := 10) (v := ?hv10u9) rfl (by kernel_rfl) (by kernel_rfl) (by kernel_rfl) (fun _ _ _ h => h) (Or.inl ⟨by rfl, ?hy10u9⟩) (by assumption) ?hr10u9
  case hy10u9 => ((intro W9 hSw; go_simp); try with_reducible rfl)
  simp only [List.getElem_toArray, List.getElem_cons_zero, List.getElem_cons_succ, Act.put, List.setIfInBounds_toArray, List.set_cons_zero, List.set_cons_succ]
  refine wpAnyH_take (i := 11) (v := ?hv11u10) rfl (by kernel_rfl) (by kernel_rfl) (by kernel_rfl) (fun _ _ _ h => h) (Or.inl ⟨by rfl, ?hy11u10⟩) (by assumption) ?hr11u10
  case hy11u10 => ((intro W9 hSw; go_simp); try with_reducible rfl)
  simp only [List.getElem_toArray, List.getElem_cons_zero, List.getElem_cons_succ, Act.put, List.setIfInBounds_toArray, List.set_cons_zero, List.set_cons_succ]
  refine wpAnyH_take (i := 12) (v := ?hv12u11) rfl (by kernel_rfl) (by kernel_rfl) (by kernel_rfl) (fun _ _ _ h => h) (Or.inl ⟨by rfl, ?hy12u11⟩) (by assumption) ?hr12u11
  case hy12u11 => ((intro W9 hSw; go_simp); try with_reducible rfl)
  simp only [List.getElem_toArray, List.getElem_cons_zero, List.getElem_cons_succ, Act.put, List.setIfInBounds_toArray, List.set_cons_zero, List.set_cons_succ]
  refine wpAnyH_take (i := 13) (v := ?hv13u12) rfl (by kernel_rfl) (by kernel_rfl) (by kernel_rfl) (fun _ _ _ h => h) (Or.inl ⟨by rfl, ?hy13u12⟩) (by assumption) ?hr13u12
  case hy13u12 => ((intro W9 hSw; go_simp); try with_reducible rfl)
  simp only [List.getElem_toArray, List.getElem_cons_zero, List.getElem_cons_succ, Act.put, List.setIfInBounds_toArray, List.set_cons_zero, List.set_cons_succ]
  refine wpAnyH_take (i := 14) (v := ?hv14u13) rfl (by kernel_rfl) (by kernel_rfl) (by kernel_rfl) (fun _ _ _ h => h) (Or.inl ⟨by rfl, ?hy14u13⟩) (by assumption) ?hr14u13
  case hy14u13 => ((intro W9 hSw; go_simp); try with_reducible rfl)
  simp only [List.getElem_toArray, List.getElem_cons_zero, List.getElem_cons_succ, Act.put, List.setIfInBounds_toArray, List.set_cons_zero, List.set_cons_succ]
  refine wpAnyH_take (i := 15) (v := ?hv15u14) rfl (by kernel_rfl) (by kernel_rfl) (by kernel_rfl) (fun _ _ _ h => h) (Or.inl ⟨by rfl, ?hy15u14⟩) (by assumption) ?hr15u14
  case hy15u14 => ((intro W9 hSw; go_simp); try with_reducible rfl)
  simp only [List.getElem_toArray, List.getElem_cons_zero, List.getElem_cons_succ, Act.put, List.setIfInBounds_toArray, List.set_cons_zero, List.set_cons_succ]
  refine wpAnyH_take (i := 16) (v := ?hv16u15) rfl (by kernel_rfl) (by kernel_rfl) (by kernel_rfl) (fun _ _ _ h => h) (Or.inl ⟨by rfl, ?hy16u15⟩) (by assumption) ?hr16u15
  case hy16u15 => ((intro W9 hSw; go_simp); try with_reducible rfl)
  simp only [List.getElem_toArray, List.getElem_cons_zero, List.getElem_cons_succ, Act.put, List.setIfInBounds_toArray, List.set_cons_zero, List.set_cons_succ]
  refine wpAnyH_done (by kernel_rfl) ?_ _
  have hps := openT_ps (side_sdK e.t e.s e.q A.E) t.size t (Nat.le_refl _) h.neT
  rw [hm, mid0, List.append_nil] at hps
  obtain ⟨hs1, hs2, _⟩ := openT_side (s := sK e.t e.s e.q A.E) (side_sdK e.t e.s e.q A.E) (fun _ _ _ => rfl) t.size t (Nat.le_refl _) h.neT (mono_sK _ _ _ _ h.srt)
  have hka : ∀ q ∈ (openT (sdK e.t e.s e.q A.E) t).a.ps, keyLt (A.E q) e := fun q hq => by
    have h2 := sK_1.1 (hs1 q hq)
    unfold cmpE at h2
    rw [keyCmp_gt] at h2
    rw [keyLt_iff]
    omega
  have hkb : ∀ q ∈ (openT (sdK e.t e.s e.q A.E) t).b.ps, keyLt e (A.E q) := fun q hq => sK_0.1 (hs2 q hq)
  have hk9 := openT_k _ (side_sdK e.t e.s e.q A.E) t.size t (Nat.le_refl _)
  generalize hO : openT (sdK e.t e.s e.q A.E) t = O at *
  obtain ⟨v0, v1, v2, v3, v4, v5⟩ := q6c ((hC3.block _ (by omega) (by rintro (e | e) <;> omega)).trans he2)
  have hcn := h.cnt
  have hnr := h.nr
  have hrm := h.rm
  simp only [List.length_nil] at hcn
  have HS := settle_new base qb g c n A3 _ t.size _ _ e w3 hQ3 (by omega) (by omega)
  unfold evV at HS
  go_wp2_with (first | (go_at_call 59; (with_reducible refine HS.mono ?_); rintro e' w4 ⟨g4, c4, rfl, hQ4, hC4, hg4⟩; have HL := link_any base qb g4 c4 (n + 1) _ _ _ _ _ _ ra n rb w4 hQ4 (Nat.lt_succ_self n) (by omega)) | (go_at_call 58; (with_reducible refine HL.mono ?_); rintro e' w5 ⟨rfl, hQ5, hC5⟩; obtain ⟨z0, z1, z2, z3, z4, z5⟩ := hQ5.cells; have zf := own_frozen hQ5.box 2))
  go_ret
  obtain ⟨r1, r2⟩ := relinkNew (p := n) (n' := n + 1) (fl' := []) (e := e) h hps hE3 hla hlb hout (by omega) (Nat.lt_succ_self n) (Nat.le_succ n) (fun h2 => absurd (h.inT n h2) (Nat.lt_irrefl n)) (by simp) (fun q hq => hq) List.nodup_nil trivial (by simp; omega) (by omega) hka hkb (hQ5.setRoot (n : Int)) (show 0 ≤ work + (O.k : Int) by omega)
  have hc3 : Ch (S2 qb g) W w3 := (((Ch.below hb1).trans (Ch.below hbB)).trans (Ch.below hbd)).trans hC3
  have hs3 := hc3.size
  refine ⟨rfl, g4, c4, n + 1, _, [], n, by rw [hO]; exact r1, by rw [hO]; exact r2, (Ch.comp (hc3.trans hC4) (hC5.trans (Ch.set _ _ _ _ _ (.inl rfl))) ?_), ?_, by omega, if_pos rfl, fun q hq => (if_neg hq).trans (congrFun hE3 q)⟩
  all_goals (rcases hg4 with h2 | h2; exact .inl h2; exact .inr (by omega))
theorem insert_new (base qb g c n : Nat) (A : Ar) (t : Tr) (root : Nat) (room work : Int) (e : Ev) (W : World) (h : QI W base qb g c n A t [] root room work) (hf : (t.size : Int) ≠ room) (hwk2 : work ≤ 4611686018427387904) (hm : (openT (sdK e.t e.s e.q A.E) t).m = 0) :
    Calls Try.prog 29 #[.pointer (some ⟨qb, 0, none⟩), evV e] W fun e' W' => e' = .returned (.int .i64 0) ∧ ∃ (g' c' n' : Nat) (A' : Ar) (t' : Tr) (fl' : List Nat) (root' : Nat), QI W' base qb g' c' n' A' t' fl' root' room (work + (openT (sdK e.t e.s e.q A.E) t).k) ∧ t'.ps.map A'.E = (openT (sdK e.t e.s e.q A.E) t).a.ps.map A.E ++ e :: (openT (sdK e.t e.s e.q A.E) t).b.ps.map A.E ∧ Ch (S2 qb g) W W' ∧ (g' = g ∨ W.heap.size ≤ g') ∧ root' ≠ 0 ∧ A'.E root' = e :=
  (insert_newX base qb g c n A t root room work e W h hf hwk2 hm).mono fun _ _ ⟨h1, g', c', n', A', fl', p', h2, h3, h4, h5, h6, h7, _⟩ => ⟨h1, g', c', n', A', _, fl', p', h2, h3, h4, h5, h6, h7⟩
set_option maxRecDepth 100000 in
set_option maxHeartbeats 4000000 in
theorem insert_freeX (base qb g c n : Nat) (A : Ar) (t : Tr) (p : Nat) (fl : List Nat) (root : Nat) (room work : Int) (e : Ev) (W : World) (h : QI W base qb g c n A t (p :: fl) root room work) (hf : (t.size : Int) ≠ room) (hwk2 : work ≤ 4611686018427387904) (hm : (openT (sdK e.t e.s e.q A.E) t).m = 0) :
    Calls Try.prog 29 #[.pointer (some ⟨qb, 0, none⟩), evV e] W fun e' W' => e' = .returned (.int .i64 0) ∧ ∃ (g' c' n' : Nat) (A' : Ar) (fl' : List Nat) (p' : Nat), QI W' base qb g' c' n' A' (.node (openT (sdK e.t e.s e.q A.E) t).a p' (openT (sdK e.t e.s e.q A.E) t).b) fl' p' room (work + (openT (sdK e.t e.s e.q A.E) t).k) ∧ (Tr.node (openT (sdK e.t e.s e.q A.E) t).a p' (openT (sdK e.t e.s e.q A.E) t).b).ps.map A'.E = (openT (sdK e.t e.s e.q A.E) t).a.ps.map A.E ++ e :: (openT (sdK e.t e.s e.q A.E) t).b.ps.map A.E ∧ Ch (S2 qb g) W W' ∧ (g' = g ∨ W.heap.size ≤ g') ∧ p' ≠ 0 ∧ A'.E p' = e ∧ ∀ q, q ≠ p' → A'.E q = A.E q := by
  obtain ⟨W1, hW1⟩ : ∃ W1, W.alloc (.cells #[.int .u64 e.t, .int .i64 e.s, .int .u64 e.q, .int .i64 e.d, .int .i64 e.k, .int .i64 e.v] 64) = W1 := ⟨_, rfl⟩
  have hb1 : Below W.heap.size W W1 := by rw [← hW1]; exact (Below.refl _ W).alloc (Nat.le_refl _) _
  have he1 : W1.heap[W.heap.size]? = some (.cells #[.int .u64 e.t, .int .i64 e.s, .int .u64 e.q, .int .i64 e.d, .int .i64 e.k, .int .i64 e.v] 64 (0, 0)) := by rw [← hW1]; exact World.alloc_heap_new W _
  have hz1 : W1.heap.size = W.heap.size + 1 := by rw [← hW1, World.size_alloc]
  have HW : Hid (W.alloc (.cells #[.int .u64 e.t, .int .i64 e.s, .int .u64 e.q, .int .i64 e.d, .int .i64 e.k, .int .i64 e.v] 64) = W1) := hW1
  have hQ1 := h.q.later hb1
  obtain ⟨q0, q1, q2, q3, q4, q5⟩ := hQ1.cells
  rw [← hW1] at q0 q1 q2 q3 q4 q5
  have hlt := h.q.lt
  have hn1 := h.n1
  have hl1 := lt_of_block he1
  clear hW1
  have df : ((t.size : Int) == room) = false := by simpa using hf
  unfold evV
  go_enter Try.func29, Try.ntmps29
  go_wp2_with fail
  go_quiet (fail)
  rw [HW.out]
  generalize hwb : World.drewN W1 _ = WB
  have hbB : Below W1.heap.size W1 WB := by rw [← hwb]; exact below_drewNq _ _ _
  have hQB := hQ1.later hbB
  have heB := (hbB.block _ hl1).trans he1
  clear hwb q0 q1 q2 q3 q4 q5
  go_wp2_with fail
  obtain ⟨p0, p1, p2, p3, p4, p5⟩ := hQB.cells
  have hlB := hQB.lt
  have hleB := lt_of_block heB
  refine wp_region_held_drew (S := fun W9 => W9.cell? ⟨qb, 2, none⟩ = some (.int .i64 (root : Int)) ∧ W9.heap[W.heap.size]? = WB.heap[W.heap.size]?) (by kernel_rfl) ⟨p2, rfl⟩ (fun hHeld => ?_)
  refine wpAnyH_take (i := 0) (v := ?hv0u1) rfl (by kernel_rfl) (by kernel_rfl) (by kernel_rfl) (fun _ _ _ h => h) (Or.inl ⟨by rfl, ?hy0u1⟩) (by assumption) ?hr0u1
  case hy0u1 => ((intro W9 hSw; have q2' := hSw.1; obtain ⟨v0, v1, v2, v3, v4, v5⟩ := q6c (hSw.2.trans heB); go_simp); try with_reducible rfl)
  simp only [List.getElem_toArray, List.getElem_cons_zero, List.getElem_cons_succ, Act.put, List.setIfInBounds_toArray, List.set_cons_zero, List.set_cons_succ]
  refine wpAnyH_take (i := 1) (v := ?hv1u2) rfl (by kernel_rfl) (by kernel_rfl) (by kernel_rfl) (fun _ _ _ h => h) (Or.inl ⟨by rfl, ?hy1u2⟩) (by assumption) ?hr1u2
  case hy1u2 => ((intro W9 hSw; have q2' := hSw.1; obtain ⟨v0, v1, v2, v3, v4, v5⟩ := q6c (hSw.2.trans heB); go_simp); try with_reducible rfl)
  simp only [List.getElem_toArray, List.getElem_cons_zero, List.getElem_cons_succ, Act.put, List.setIfInBounds_toArray, List.set_cons_zero, List.set_cons_succ]
  refine wpAnyH_take (i := 2) (v := ?hv2u3) rfl (by kernel_rfl) (by kernel_rfl) (by kernel_rfl) (fun _ _ _ h => h) (Or.inl ⟨by rfl, ?hy2u3⟩) (by assumption) ?hr2u3
  case hy2u3 => ((intro W9 hSw; have q2' := hSw.1; obtain ⟨v0, v1, v2, v3, v4, v5⟩ := q6c (hSw.2.trans heB); go_simp); try with_reducible rfl)
  simp only [List.getElem_toArray, List.getElem_cons_zero, List.getElem_cons_succ, Act.put, List.setIfInBounds_toArray, List.set_cons_zero, List.set_cons_succ]
  refine wpAnyH_take (i := 3) (v := ?hv3u4) rfl (by kernel_rfl) (by kernel_rfl) (by kernel_rfl) (fun _ _ _ h => h) (Or.inl ⟨by rfl, ?hy3u4⟩) (by assumption) ?hr3u4
  case hy3u4 => ((intro W9 hSw; have q2' := hSw.1; obtain ⟨v0, v1, v2, v3, v4, v5⟩ := q6c (hSw.2.trans heB); go_simp); try with_reducible rfl)
  simp only [List.getElem_toArray, List.getElem_cons_zero, List.getElem_cons_succ, Act.put, List.setIfInBounds_toArray, List.set_cons_zero, List.set_cons_succ]
  refine wpAnyH_take (i := 4) (v := ?hv4u5) rfl (by kernel_rfl) (by kernel_rfl) (by kernel_rfl) (fun _ _ _ h => h) (Or.inl ⟨by rfl, ?hy4u5⟩) (by assumption) ?hr4u5
  case hy4u5 => ((intro W9 hSw; have q2' := hSw.1; obtain ⟨v0, v1, v2, v3, v4, v5⟩ := q6c (hSw.2.trans heB); go_simp); try with_reducible rfl)
  simp only [List.getElem_toArray, List.getElem_cons_zero, List.getElem_cons_succ, Act.put, List.setIfInBounds_toArray, List.set_cons_zero, List.set_cons_succ]
  refine wpAnyH_take (i := 5) (v := ?hv5u6) rfl (by kernel_rfl) (by kernel_rfl) (by kernel_rfl) (fun _ _ _ h => h) (Or.inl ⟨by rfl, ?hy5u6⟩) (by assumption) ?hr5u6
  case hy5u6 => ((intro W9 hSw; have q2' := hSw.1; obtain ⟨v0, v1, v2, v3, v4, v5⟩ := q6c (hSw.2.trans heB); go_simp); try with_reducible rfl)
  simp only [List.getElem_toArray, List.getElem_cons_zero, List.getElem_cons_succ, Act.put, List.setIfInBounds_toArray, List.set_cons_zero, List.set_cons_succ]
  refine wpAnyH_take (i := 6) (v := ?hv6u7) rfl (by kernel_rfl) (by kernel_rfl) (by kernel_rfl) (fun _ _ _ h => h) (Or.inl ⟨by rfl, ?hy6u7⟩) (by assumption) ?hr6u7
  case hy6u7 => ((intro W9 hSw; have q2' := hSw.1; obtain ⟨v0, v1, v2, v3, v4, v5⟩ := q6c (hSw.2.trans heB); go_simp); try with_reducible rfl)
  simp only [List.getElem_toArray, List.getElem_cons_zero, List.getElem_cons_succ, Act.put, List.setIfInBounds_toArray, List.set_cons_zero, List.set_cons_succ]
  refine wpAnyH_take (i := 7) (v := ?hv7u8) rfl (by kernel_rfl) (by kernel_rfl) (by kernel_rfl) (fun _ _ _ h => h) (Or.inl ⟨by rfl, ?hy7u8⟩) (by assumption) ?hr7u8
  case hy7u8 => ((intro W9 hSw; have q2' := hSw.1; obtain ⟨v0, v1, v2, v3, v4, v5⟩ := q6c (hSw.2.trans heB); go_simp); try with_reducible rfl)
  simp only [List.getElem_toArray, List.getElem_cons_zero, List.getElem_cons_succ, Act.put, List.setIfInBounds_toArray, List.set_cons_zero, List.set_cons_succ]
  refine wpAnyH_ready (rs := [8]) (by kernel_rfl) (by simp) (AllReadyH.cons rfl (fun KK hK => ?_) AllReadyH.nil)
  dsimp -proj only [List.getElem_toArray, List.getElem_cons_zero, List.getElem_cons_succ]
  go_simp
  go_at_call 57
  refine (toKey_any qb e.t e.s e.q WB.drew).mono ?_
  rintro e' w2 ⟨rfl, hKB, hPB, hb2⟩
  try go_wp2_with fail
  have hbd : Below WB.heap.size WB w2 := (below_drewNq _ WB 1).trans (hb2.mono (Nat.le_refl _))
  have hQ2 := hQB.later hbd
  have he2 := (hbd.block _ hleB).trans heB
  refine hK.out _ _ ⟨hQ2.cells.2.2.1, hbd.block _ hleB⟩ (fun hHeld => ?_)
  clear hK KK
  try simp only [List.getElem_toArray, List.getElem_cons_zero, List.getElem_cons_succ, Act.put, List.setIfInBounds_toArray, List.set_cons_zero, List.set_cons_succ]
  refine wpAnyH_ready (rs := [9]) (by kernel_rfl) (by simp) (AllReadyH.cons rfl (fun KK hK => ?_) AllReadyH.nil)
  dsimp -proj only [List.getElem_toArray, List.getElem_cons_zero, List.getElem_cons_succ]
  go_simp
  go_at_call 46
  have hsz2 := hb2.size
  have hsd : WB.drew.heap.size = WB.heap.size := rfl
  have hwk := h.wk
  refine (open_any 73 #[.pointer (some ⟨WB.drew.heap.size + 1, 0, none⟩), .pointer (some ⟨WB.drew.heap.size, 0, none⟩)] enterK base qb g c n A _ _ _ _ _ (sdK e.t e.s e.q A.E) (side_sdK _ _ _ _) t root w2 hQ2 hn1.2.1 hn1.1 h.ti h.ndT h.inT h.z ⟨hwk, hwk2⟩ hn1.2.2 (wayK hKB hPB (by omega) (by omega) hn1.2.1)).mono ?_
  rintro e' w3 ⟨A3, ra, rb, rfl, hQ3, hE3, hla, hlb, hout, hC3⟩
  try go_wp2_with fail
  refine hK.out _ _ ⟨hQ3.cells.2.2.1, (hC3.block _ (by omega) (by rintro (e | e) <;> omega)).trans (hbd.block _ hleB)⟩ (fun hHeld => ?_)
  clear hK KK
  try simp only [List.getElem_toArray, List.getElem_cons_zero, List.getElem_cons_succ, Act.put, List.setIfInBounds_toArray, List.set_cons_zero, List.set_cons_succ]
  refine wpAnyH_take (i := 10) (v := ?hv10u9) rfl (by kernel_rfl) (by kernel_rfl) (by kernel_rfl) (fun _ _ _ h => h) (Or.inl ⟨by rfl, ?hy10u9⟩) (by assumption) ?hr10u9
  case hy10u9 => ((intro W9 hSw; go_simp); try with_reducible rfl)
  simp only [List.getElem_toArray, List.getElem_cons_zero, List.getElem_cons_succ, Act.put, List.setIfInBounds_toArray, List.set_cons_zero, List.set_cons_succ]
  refine wpAnyH_take (i := 11) (v := ?hv11u10) rfl (by kernel_rfl) (by kernel_rfl) (by kernel_rfl) (fun _ _ _ h => h) (Or.inl ⟨by rfl, ?hy11u10⟩) (by assumption) ?hr11u10
  case hy11u10 => ((intro W9 hSw; go_simp); try with_reducible rfl)
  simp only [List.getElem_toArray, List.getElem_cons_zero, List.getElem_cons_succ, Act.put, List.setIfInBounds_toArray, List.set_cons_zero, List.set_cons_succ]
  refine wpAnyH_take (i := 12) (v := ?hv12u11) rfl (by kernel_rfl) (by kernel_rfl) (by kernel_rfl) (fun _ _ _ h => h) (Or.inl ⟨by rfl, ?hy12u11⟩) (by assumption) ?hr12u11
  case hy12u11 => ((intro W9 hSw; go_simp); try with_reducible rfl)
  simp only [List.getElem_toArray, List.getElem_cons_zero, List.getElem_cons_succ, Act.put, List.setIfInBounds_toArray, List.set_cons_zero, List.set_cons_succ]
  refine wpAnyH_take (i := 13) (v := ?hv13u12) rfl (by kernel_rfl) (by kernel_rfl) (by kernel_rfl) (fun _ _ _ h => h) (Or.inl ⟨by rfl, ?hy13u12⟩) (by assumption) ?hr13u12
  case hy13u12 => ((intro W9 hSw; go_simp); try with_reducible rfl)
  simp only [List.getElem_toArray, List.getElem_cons_zero, List.getElem_cons_succ, Act.put, List.setIfInBounds_toArray, List.set_cons_zero, List.set_cons_succ]
  refine wpAnyH_take (i := 14) (v := ?hv14u13) rfl (by kernel_rfl) (by kernel_rfl) (by kernel_rfl) (fun _ _ _ h => h) (Or.inl ⟨by rfl, ?hy14u13⟩) (by assumption) ?hr14u13
  case hy14u13 => ((intro W9 hSw; go_simp); try with_reducible rfl)
  simp only [List.getElem_toArray, List.getElem_cons_zero, List.getElem_cons_succ, Act.put, List.setIfInBounds_toArray, List.set_cons_zero, List.set_cons_succ]
  refine wpAnyH_take (i := 15) (v := ?hv15u14) rfl (by kernel_rfl) (by kernel_rfl) (by kernel_rfl) (fun _ _ _ h => h) (Or.inl ⟨by rfl, ?hy15u14⟩) (by assumption) ?hr15u14
  case hy15u14 => ((intro W9 hSw; go_simp); try with_reducible rfl)
  simp only [List.getElem_toArray, List.getElem_cons_zero, List.getElem_cons_succ, Act.put, List.setIfInBounds_toArray, List.set_cons_zero, List.set_cons_succ]
  refine wpAnyH_take (i := 16) (v := ?hv16u15) rfl (by kernel_rfl) (by kernel_rfl) (by kernel_rfl) (fun _ _ _ h => h) (Or.inl ⟨by rfl, ?hy16u15⟩) (by assumption) ?hr16u15
  case hy16u15 => ((intro W9 hSw; go_simp); try with_reducible rfl)
  simp only [List.getElem_toArray, List.getElem_cons_zero, List.getElem_cons_succ, Act.put, List.setIfInBounds_toArray, List.set_cons_zero, List.set_cons_succ]
  refine wpAnyH_done (by kernel_rfl) ?_ _
  have hps := openT_ps (side_sdK e.t e.s e.q A.E) t.size t (Nat.le_refl _) h.neT
  rw [hm, mid0, List.append_nil] at hps
  obtain ⟨hs1, hs2, _⟩ := openT_side (s := sK e.t e.s e.q A.E) (side_sdK e.t e.s e.q A.E) (fun _ _ _ => rfl) t.size t (Nat.le_refl _) h.neT (mono_sK _ _ _ _ h.srt)
  have hka : ∀ q ∈ (openT (sdK e.t e.s e.q A.E) t).a.ps, keyLt (A.E q) e := fun q hq => by
    have h2 := sK_1.1 (hs1 q hq)
    unfold cmpE at h2
    rw [keyCmp_gt] at h2
    rw [keyLt_iff]
    omega
  have hkb : ∀ q ∈ (openT (sdK e.t e.s e.q A.E) t).b.ps, keyLt e (A.E q) := fun q hq => sK_0.1 (hs2 q hq)
  have hk9 := openT_k _ (side_sdK e.t e.s e.q A.E) t.size t (Nat.le_refl _)
  generalize hO : openT (sdK e.t e.s e.q A.E) t = O at *
  obtain ⟨v0, v1, v2, v3, v4, v5⟩ := q6c ((hC3.block _ (by omega) (by rintro (e | e) <;> omega)).trans he2)
  have hcn := h.cnt
  have hnr := h.nr
  have hrm := h.rm
  simp only [List.length_cons] at hcn
  have hpp := h.inr p (by simp)
  have hnd2 := List.nodup_append.1 h.nd
  have hnd3 := List.nodup_cons.1 hnd2.2.1
  have hpt : p ∉ t.ps := fun h2 => hnd2.2.2 p h2 p (by simp) rfl
  have HS := settle_free base qb g c n A3 p _ t.size _ _ e w3 hQ3 hpp.2 hpp.1 hn1.2.1 hn1.2.2
  rw [(hout p hpt).1, h.fr.1] at HS
  unfold evV at HS
  go_wp2_with (first | (go_at_call 59; (with_reducible refine HS.mono ?_); rintro e' w4 ⟨rfl, hQ4, hC4⟩; have HL := link_any base qb g c n _ _ _ _ _ _ ra p rb w4 hQ4 hpp.2 hn1.2.1) | (go_at_call 58; (with_reducible refine HL.mono ?_); rintro e' w5 ⟨rfl, hQ5, hC5⟩; obtain ⟨z0, z1, z2, z3, z4, z5⟩ := hQ5.cells; have zf := own_frozen hQ5.box 2))
  go_ret
  obtain ⟨r1, r2⟩ := relinkNew (p := p) (n' := n) (fl' := fl) (e := e) h hps hE3 hla hlb hout hpp.1 hpp.2 (Nat.le_refl n) hpt hnd3.1 (fun q hq => by simp [hq]) hnd3.2 h.fr.2 (by omega) (by omega) hka hkb (hQ5.setRoot (p : Int)) (show 0 ≤ work + (O.k : Int) by omega)
  have hc3 : Ch (S2 qb g) W w3 := (((Ch.below hb1).trans (Ch.below hbB)).trans (Ch.below hbd)).trans hC3
  exact ⟨rfl, g, c, n, _, fl, p, by rw [hO]; exact r1, by rw [hO]; exact r2, (hc3.trans hC4).trans (hC5.trans (Ch.set _ _ _ _ _ (.inl rfl))), .inl rfl, hpp.1, if_pos rfl, fun q hq => (if_neg hq).trans (congrFun hE3 q)⟩
theorem insert_free (base qb g c n : Nat) (A : Ar) (t : Tr) (p : Nat) (fl : List Nat) (root : Nat) (room work : Int) (e : Ev) (W : World) (h : QI W base qb g c n A t (p :: fl) root room work) (hf : (t.size : Int) ≠ room) (hwk2 : work ≤ 4611686018427387904) (hm : (openT (sdK e.t e.s e.q A.E) t).m = 0) :
    Calls Try.prog 29 #[.pointer (some ⟨qb, 0, none⟩), evV e] W fun e' W' => e' = .returned (.int .i64 0) ∧ ∃ (g' c' n' : Nat) (A' : Ar) (t' : Tr) (fl' : List Nat) (root' : Nat), QI W' base qb g' c' n' A' t' fl' root' room (work + (openT (sdK e.t e.s e.q A.E) t).k) ∧ t'.ps.map A'.E = (openT (sdK e.t e.s e.q A.E) t).a.ps.map A.E ++ e :: (openT (sdK e.t e.s e.q A.E) t).b.ps.map A.E ∧ Ch (S2 qb g) W W' ∧ (g' = g ∨ W.heap.size ≤ g') ∧ root' ≠ 0 ∧ A'.E root' = e :=
  (insert_freeX base qb g c n A t p fl root room work e W h hf hwk2 hm).mono fun _ _ ⟨h1, g', c', n', A', fl', p', h2, h3, h4, h5, h6, h7, _⟩ => ⟨h1, g', c', n', A', _, fl', p', h2, h3, h4, h5, h6, h7⟩
end Go.Proofs.Ytlklolmhaiaaiaa
