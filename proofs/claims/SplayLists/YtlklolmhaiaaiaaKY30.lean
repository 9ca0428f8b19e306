import Derived.Test.YtlklolmhaiaaiaaKY29
namespace Go.Proofs.Ytlklolmhaiaaiaa
open Go.ChangeShapes Go.WideShapes Go.ChangeAt Go.RowKit
set_option linter.unusedVariables false
set_option linter.unusedSimpArgs false

theorem QI.tree {W W' : World} {base qb g c n : Nat} {A A3 : Ar} {t j : Tr} {fl : List Nat} {root rj : Nat} {room work work' : Int} (h : QI W base qb g c n A t fl root room work) (hps : j.ps = t.ps) (hE : A3.E = A.E) (hlj : j.lies A3.L A3.R rj) (hout : ∀ p, p ∉ t.ps → A3.L p = A.L p ∧ A3.R p = A.R p) (hq : QW W' base qb g c n A3 ((fl.headD 0 : Nat) : Int) rj t.size room work') (hw : 0 ≤ work') : QI W' base qb g c n A3 j fl rj room work' := by
  have hsz : j.size = t.size := by rw [← Tr.size_ps, ← Tr.size_ps, hps]
  have hnd2 := List.nodup_append.1 h.nd
  refine ⟨by rw [hsz]; exact hq, hlj, FLs.congr h.fr fun p hp => (hout p fun h9 => hnd2.2.2 p h9 p hp rfl).1, by rw [hps]; exact h.nd, by rw [hps]; exact h.inr, by rw [hsz]; exact h.cnt, ?_, h.nr, h.rm, ?_, hw⟩
  · have h0 : (0 : Nat) ∉ t.ps := fun hq => h.neT 0 hq rfl
    rw [(hout 0 h0).1, (hout 0 h0).2]
    exact h.z
  · rw [hps, hE]
    exact h.srt
/-- a node that has been cut out goes to the free ones -/
theorem unlink2 {W W' : World} {base qb g c n : Nat} {A A3 : Ar} {t b : Tr} {l1 l2 : List Nat} {fl : List Nat} {root m rb : Nat} {room work work' : Int} (h : QI W base qb g c n A t fl root room work) (hps : t.ps = l1 ++ m :: l2) (hbs : b.ps = l1 ++ l2) (hE : A3.E = A.E) (hlb : b.lies A3.L A3.R rb) (hout : ∀ p, p ∉ t.ps → A3.L p = A.L p ∧ A3.R p = A.R p) (hq : QW W' base qb g c n (A3.set m ev0 (fl.headD 0) 0) m rb ((t.size - 1 : Nat) : Int) room work') (hw : 0 ≤ work') : QI W' base qb g c n (A3.set m ev0 (fl.headD 0) 0) b (m :: fl) rb room work' ∧ b.ps.map (A3.set m ev0 (fl.headD 0) 0).E = b.ps.map A.E := by
  have hnd := h.ndT
  have hpm : t.ps.Perm (m :: b.ps) := by rw [hps, hbs]; exact List.perm_middle
  have hnd' := hpm.nodup_iff.1 hnd
  rw [List.nodup_cons] at hnd'
  have hmt : m ∈ t.ps := by rw [hps]; simp
  have hm0 : m ≠ 0 := h.neT m hmt
  have hsz2 : t.size = b.size + 1 := by
    have := hpm.length_eq
    rw [List.length_cons, Tr.size_ps, Tr.size_ps] at this
    omega
  have hsz : b.size = t.size - 1 := by omega
  have hbt : ∀ q ∈ b.ps, q ∈ t.ps := fun q hq => hpm.mem_iff.2 (List.mem_cons_of_mem _ hq)
  have hnb : ∀ q ∈ b.ps, q ≠ m := fun q hq e => hnd'.1 (e ▸ hq)
  have hL : ∀ q, q ≠ m → (A3.set m ev0 (fl.headD 0) 0).L q = A3.L q := fun q hq => upd_ne _ _ hq
  have hR : ∀ q, q ≠ m → (A3.set m ev0 (fl.headD 0) 0).R q = A3.R q := fun q hq => upd_ne _ _ hq
  have hEq : ∀ q, q ≠ m → (A3.set m ev0 (fl.headD 0) 0).E q = A.E q := fun q hq => by show updE A3.E m ev0 q = _; unfold updE; rw [if_neg hq, hE]
  have hnd2 := List.nodup_append.1 h.nd
  have hmf : ∀ q ∈ fl, q ≠ m ∧ q ∉ t.ps := fun q hq => ⟨fun e => hnd2.2.2 m hmt q hq e.symm, fun h2 => hnd2.2.2 q h2 q hq rfl⟩
  refine ⟨⟨?_, ?_, ⟨upd_at _ _ _, ?_⟩, ?_, ?_, ?_, ?_, h.nr, h.rm, ?_, hw⟩, List.map_congr_left fun q hq => hEq q (hnb q hq)⟩
  · rw [hsz]; exact hq
  · exact Tr.lies_congr hlb fun q hq => ⟨hL q (hnb q hq), hR q (hnb q hq)⟩
  · exact FLs.congr h.fr fun q hq => by rw [hL q (hmf q hq).1]; exact (hout q (hmf q hq).2).1
  · rw [List.nodup_append, List.nodup_cons]
    refine ⟨hnd'.2, ⟨fun h2 => (hmf m h2).1 rfl, hnd2.2.1⟩, fun x hx y hy => ?_⟩
    rcases List.mem_cons.1 hy with h2 | h2
    · rw [h2]; exact hnb x hx
    · exact hnd2.2.2 x (hbt x hx) y h2
  · intro x hx
    have hx' : x ∈ b.ps ∨ x = m ∨ x ∈ fl := by simpa using hx
    rcases hx' with h2 | h2 | h2
    · exact h.inr x (by simp [hbt x h2])
    · rw [h2]; exact h.inr m (by simp [hmt])
    · exact h.inr x (by simp [h2])
  · have := h.cnt
    simp only [List.length_cons]
    omega
  · have h0 : (0 : Nat) ∉ t.ps := fun hq => h.neT 0 hq rfl
    rw [hL 0 (fun e => hm0 e.symm), hR 0 (fun e => hm0 e.symm), (hout 0 h0).1, (hout 0 h0).2]
    exact h.z
  · have hs : b.ps.Pairwise fun p q => keyLt (A.E p) (A.E q) := by
      have hs := h.srt
      rw [hps] at hs
      rw [hbs]
      exact hs.sublist (List.Sublist.append_left (List.sublist_cons_self _ _) _)
    exact hs.imp_of_mem fun {x y} hx hy h2 => by rw [hEq x (hnb x hx), hEq y (hnb y hy)]; exact h2
set_option maxRecDepth 100000 in
set_option maxHeartbeats 4000000 in
theorem find_yes (base qb g c n : Nat) (A : Ar) (t : Tr) (fl : List Nat) (root : Nat) (room work : Int) (kt ks kq : Int) (W : World) (h : QI W base qb g c n A t fl root room work) (hwk2 : work ≤ 4611686018427000000) (hm : (openT (sdK kt ks kq A.E) t).m ≠ 0) :
    Calls Try.prog 35 #[.pointer (some ⟨qb, 0, none⟩), .agg #[.int .u64 kt, .int .i64 ks, .int .u64 kq]] W fun e' W' => ∃ A', e' = .returned (.tuple #[evV (A.E (openT (sdK kt ks kq A.E) t).m), .int .i64 0]) ∧ QI W' base qb g c n A' (.node (openT (sdK kt ks kq A.E) t).a (openT (sdK kt ks kq A.E) t).m (openT (sdK kt ks kq A.E) t).b) fl (openT (sdK kt ks kq A.E) t).m room (work + (openT (sdK kt ks kq A.E) t).k) ∧ A'.E = A.E ∧ Ch (S2 qb g) W W' := by
  obtain ⟨W1, hW1⟩ : ∃ W1, (W.alloc (.cells #[.int .u64 kt, .int .i64 ks, .int .u64 kq] 30)).alloc (.cells #[.int .u64 0, .int .i64 0, .int .u64 0, .int .i64 0, .int .i64 0, .int .i64 0] 64) = W1 := ⟨_, rfl⟩
  have hsA : (W.alloc (.cells #[.int .u64 kt, .int .i64 ks, .int .u64 kq] 30)).heap.size = W.heap.size + 1 := World.size_alloc _ _
  have hbA : Below W.heap.size W (W.alloc (.cells #[.int .u64 kt, .int .i64 ks, .int .u64 kq] 30)) := (Below.refl _ W).alloc (Nat.le_refl _) _
  have hbA1 : Below (W.heap.size + 1) (W.alloc (.cells #[.int .u64 kt, .int .i64 ks, .int .u64 kq] 30)) W1 := by rw [← hW1, ← hsA]; exact (Below.refl _ _).alloc (Nat.le_refl _) _
  have hb1 : Below W.heap.size W W1 := hbA.trans (hbA1.mono (by omega))
  have hK1 : KBx W1 W.heap.size kt ks kq := (hbA1.block _ (by omega)).trans (World.alloc_heap_new W _)
  have he1 : W1.heap[W.heap.size + 1]? = some (.cells #[.int .u64 0, .int .i64 0, .int .u64 0, .int .i64 0, .int .i64 0, .int .i64 0] 64 (0, 0)) := by
    rw [← hW1]
    have := World.alloc_heap_new (W.alloc (.cells #[.int .u64 kt, .int .i64 ks, .int .u64 kq] 30)) (.cells #[.int .u64 0, .int .i64 0, .int .u64 0, .int .i64 0, .int .i64 0, .int .i64 0] 64)
    rwa [hsA] at this
  have HW : Hid ((W.alloc (.cells #[.int .u64 kt, .int .i64 ks, .int .u64 kq] 30)).alloc (.cells #[.int .u64 0, .int .i64 0, .int .u64 0, .int .i64 0, .int .i64 0, .int .i64 0] 64) = W1) := hW1
  have hQ1 := h.q.later hb1
  have hlt := h.q.lt
  have hn1 := h.n1
  have hwk := h.wk
  have hl1 := lt_of_block he1
  have hlK := lt_of_block hK1
  obtain ⟨q0, q1, q2, q3, q4, q5⟩ := hQ1.cells
  obtain ⟨y0, y1, y2⟩ := hK1.cells
  have hps := openT_ps (side_sdK kt ks kq A.E) t.size t (Nat.le_refl _) h.neT
  have hk9 := openT_k _ (side_sdK kt ks kq A.E) t.size t (Nat.le_refl _)
  have HT := toKey_any qb kt ks kq W1.drew
  rw [show W1.drew.heap.size = W1.heap.size from rfl] at HT
  clear hW1 hsA hbA hbA1
  go_enter Try.func35, Try.ntmps35
  go_wp2_with fail
  rw [HW.out]
  go_region_held3 (fun W9 => W9.cell? ⟨W.heap.size, 0, none⟩ = some (.int .u64 kt) ∧ W9.cell? ⟨W.heap.size, 1, none⟩ = some (.int .i64 ks) ∧ W9.cell? ⟨W.heap.size, 2, none⟩ = some (.int .u64 kq) ∧ W9.cell? ⟨qb, 2, none⟩ = some (.int .i64 (root : Int))) (first | exact KP | go_keep) (first | (go_at_call 57; (with_reducible refine HT.mono ?_); rintro e w2 ⟨rfl, hT2, hP2, hb2⟩; have hQ2 := hQ1.later (W' := w2) ((below_drewNq _ W1 1).trans hb2); have hKB2 : KBx w2 W.heap.size kt ks kq := (hb2.block _ hlK).trans hK1; have KP : w2.cell? ⟨W.heap.size, 0, none⟩ = some (.int .u64 kt) ∧ w2.cell? ⟨W.heap.size, 1, none⟩ = some (.int .i64 ks) ∧ w2.cell? ⟨W.heap.size, 2, none⟩ = some (.int .u64 kq) ∧ w2.cell? ⟨qb, 2, none⟩ = some (.int .i64 (root : Int)) := ⟨hKB2.cells.1, hKB2.cells.2.1, hKB2.cells.2.2, hQ2.cells.2.2.1⟩) | (go_at_call 46; refine (open_any 73 #[.pointer (some ⟨W1.heap.size + 1, 0, none⟩), .pointer (some ⟨W1.heap.size, 0, none⟩)] enterK base qb g c n A _ _ _ _ _ (sdK kt ks kq A.E) (side_sdK _ _ _ _) t root w2 hQ2 hn1.2.1 hn1.1 h.ti h.ndT h.inT h.z ⟨hwk, by omega⟩ hn1.2.2 (wayK hT2 hP2 (by omega) (by omega) hn1.2.1)).mono ?_; rintro e w3 ⟨A3, ra, rb, rfl, hQ3, hE3, hla, hlb, hout, hC3⟩; have hKB3 : KBx w3 W.heap.size kt ks kq := (hC3.block _ (lt_of_block hKB2) (by rintro (e | e) <;> omega)).trans hKB2; clear KP; have KP : w3.cell? ⟨W.heap.size, 0, none⟩ = some (.int .u64 kt) ∧ w3.cell? ⟨W.heap.size, 1, none⟩ = some (.int .i64 ks) ∧ w3.cell? ⟨W.heap.size, 2, none⟩ = some (.int .u64 kq) ∧ w3.cell? ⟨qb, 2, none⟩ = some (.int .i64 (root : Int)) := ⟨hKB3.cells.1, hKB3.cells.2.1, hKB3.cells.2.2, hQ3.cells.2.2.1⟩))
  have hC13 : Ch (S2 qb g) W1 w3 := (Ch.below ((below_drewNq _ W1 1).trans hb2)).trans hC3
  have hz3 : A3.L 0 = 0 ∧ A3.R 0 = 0 := by
    have h0 : (0 : Nat) ∉ t.ps := fun hq => h.neT 0 hq rfl
    rw [(hout 0 h0).1, (hout 0 h0).2]
    exact h.z
  have HC13 : Hid (Ch (S2 qb g) W1 w3) := hC13
  clear KP hC13 hC3 hb2 hT2 hP2 hQ2 hKB2 hKB3 HT q0 q1 q2 q3 q4 q5 y0 y1 y2 HW
  generalize hO : openT (sdK kt ks kq A.E) t = O at *
  rw [midn hm, List.append_assoc] at hps
  have hmt : O.m ∈ t.ps := by rw [← hps]; simp
  have hmn : O.m < n := h.inT _ hmt
  have dm : ((O.m : Int) == 0) = false := by simp; omega
  have i0 : (0 : Int) ≤ (O.m : Int) := by omega
  have i1 : (O.m : Int) < (n : Int) := by omega
  have HK := link_any base qb g c n A3 _ _ _ _ _ ra O.m rb w3 hQ3 hmn hn1.2.1
  go_upto_region 6 with (go_at_call 58; (with_reducible refine HK.mono ?_); rintro e' w4 ⟨rfl, hQ4, hC4⟩; obtain ⟨z0, z1, z2, z3, z4, z5⟩ := hQ4.cells; have zf := own_frozen hQ4.box 2)
  generalize hw5 : World.setCell w4 _ _ = w5
  have hQ5 : QW w5 base qb g c n { A3 with L := upd A3.L O.m ra, R := upd A3.R O.m rb } ((fl.headD 0 : Nat) : Int) (O.m : Int) t.size room (work + O.k) := by rw [← hw5]; exact hQ4.setRoot (O.m : Int)
  have hC5 : Ch (S2 qb g) w4 w5 := by rw [← hw5]; exact Ch.set _ _ _ _ _ (.inl rfl)
  have hC15 : Ch (S2 qb g) W1 w5 := (HC13.out.trans hC4).trans hC5
  have he5 := (hC15.block _ hl1 (by rintro (e | e) <;> omega)).trans he1
  obtain ⟨r0, r1, r2, r3, r4, r5⟩ := q6c he5
  have rf := frz he5
  have rf0 := rf 0; have rf1 := rf 1; have rf2 := rf 2; have rf3 := rf 3; have rf4 := rf 4; have rf5 := rf 5
  clear rf
  clear hw5 z0 z1 z2 z3 z4 z5 zf
  obtain ⟨z0, z1, z2, z3, z4, z5⟩ := hQ5.cells
  have x0 := hQ5.nd hmn 0 (by decide)
  have x1 := hQ5.nd hmn 1 (by decide)
  have x2 := hQ5.nd hmn 2 (by decide)
  have x3 := hQ5.nd hmn 3 (by decide)
  have x4 := hQ5.nd hmn 4 (by decide)
  have x5 := hQ5.nd hmn 5 (by decide)
  simp [ndC, hE3] at x0 x1 x2 x3 x4 x5
  go_wp2_with fail
  generalize hWF : (World.setCell (World.setCell (World.setCell (World.setCell (World.setCell (World.setCell w5 _ _) _ _) _ _) _ _) _ _) _ _) = wF
  obtain ⟨p1, p2, p3⟩ := put6 he5 _ _ _ _ _ _ wF hWF
  obtain ⟨d0, d1, d2, d3, d4, d5⟩ := q6c p1
  refine bodyPost_ret (v := .tuple #[evV (A.E O.m), .int .i64 0]) (by simp [results, Try.results35, go_sem, d0, d1, d2, d3, d4, d5, evV]; try rfl) rfl ?_
  have hQF : QW wF base qb g c n { A3 with L := upd A3.L O.m ra, R := upd A3.R O.m rb } ((fl.headD 0 : Nat) : Int) (O.m : Int) t.size room (work + O.k) := ⟨hQ5.box.far fun j e => (by cases e; exact p2 qb (by omega)), hQ5.row.far fun j e => (by cases e; exact p2 g (by omega)), hQ5.ne⟩
  have r1 := relink (a := O.a) (b := O.b) (ra := ra) (rb := rb) (m := O.m) h hps hE3 hla hlb hout hQF (by omega)
  subst hO
  refine ⟨{ A3 with L := upd A3.L (openT (sdK kt ks kq A.E) t).m ra, R := upd A3.R (openT (sdK kt ks kq A.E) t).m rb }, rfl, r1, hE3, ?_⟩
  have hcF : Ch (S2 qb g) W w5 := (Ch.below hb1).trans hC15
  have hbF := p3 0 _ (Below.refl 0 _) (Nat.zero_le _)
  exact ⟨hbF.os.trans hcF.os, hbF.tape.trans hcF.tape, hbF.output.trans hcF.output, Nat.le_trans hcF.size hbF.size, fun j hj hs => (p2 j (by omega)).trans (hcF.block j hj hs)⟩
set_option maxRecDepth 100000 in
set_option maxHeartbeats 4000000 in
theorem find_noX (base qb g c n : Nat) (A : Ar) (t : Tr) (fl : List Nat) (root : Nat) (room work : Int) (kt ks kq : Int) (W : World) (h : QI W base qb g c n A t fl root room work) (hwk2 : work ≤ 4611686018427000000) (hm : (openT (sdK kt ks kq A.E) t).m = 0) :
    Calls Try.prog 35 #[.pointer (some ⟨qb, 0, none⟩), .agg #[.int .u64 kt, .int .i64 ks, .int .u64 kq]] W fun e' W' => ∃ (A' : Ar) (j : Tr) (rj k' : Nat), e' = .returned (.tuple #[evV ev0, .int .i64 83]) ∧ QI W' base qb g c n A' j fl rj room (work + (openT (sdK kt ks kq A.E) t).k + k') ∧ k' ≤ 8192 ∧ j.ps = t.ps ∧ A'.E = A.E ∧ Ch (S2 qb g) W W' ∧ j = joinT (openT (sdK kt ks kq A.E) t).a (openT (sdK kt ks kq A.E) t).b ∧ k' = joinK (openT (sdK kt ks kq A.E) t).a (openT (sdK kt ks kq A.E) t).b := by
  obtain ⟨W1, hW1⟩ : ∃ W1, (W.alloc (.cells #[.int .u64 kt, .int .i64 ks, .int .u64 kq] 30)).alloc (.cells #[.int .u64 0, .int .i64 0, .int .u64 0, .int .i64 0, .int .i64 0, .int .i64 0] 64) = W1 := ⟨_, rfl⟩
  have hsA : (W.alloc (.cells #[.int .u64 kt, .int .i64 ks, .int .u64 kq] 30)).heap.size = W.heap.size + 1 := World.size_alloc _ _
  have hbA : Below W.heap.size W (W.alloc (.cells #[.int .u64 kt, .int .i64 ks, .int .u64 kq] 30)) := (Below.refl _ W).alloc (Nat.le_refl _) _
  have hbA1 : Below (W.heap.size + 1) (W.alloc (.cells #[.int .u64 kt, .int .i64 ks, .int .u64 kq] 30)) W1 := by rw [← hW1, ← hsA]; exact (Below.refl _ _).alloc (Nat.le_refl _) _
  have hb1 : Below W.heap.size W W1 := hbA.trans (hbA1.mono (by omega))
  have hK1 : KBx W1 W.heap.size kt ks kq := (hbA1.block _ (by omega)).trans (World.alloc_heap_new W _)
  have he1 : W1.heap[W.heap.size + 1]? = some (.cells #[.int .u64 0, .int .i64 0, .int .u64 0, .int .i64 0, .int .i64 0, .int .i64 0] 64 (0, 0)) := by
    rw [← hW1]
    have := World.alloc_heap_new (W.alloc (.cells #[.int .u64 kt, .int .i64 ks, .int .u64 kq] 30)) (.cells #[.int .u64 0, .int .i64 0, .int .u64 0, .int .i64 0, .int .i64 0, .int .i64 0] 64)
    rwa [hsA] at this
  have HW : Hid ((W.alloc (.cells #[.int .u64 kt, .int .i64 ks, .int .u64 kq] 30)).alloc (.cells #[.int .u64 0, .int .i64 0, .int .u64 0, .int .i64 0, .int .i64 0, .int .i64 0] 64) = W1) := hW1
  have hQ1 := h.q.later hb1
  have hlt := h.q.lt
  have hn1 := h.n1
  have hwk := h.wk
  have hl1 := lt_of_block he1
  have hlK := lt_of_block hK1
  obtain ⟨q0, q1, q2, q3, q4, q5⟩ := hQ1.cells
  obtain ⟨y0, y1, y2⟩ := hK1.cells
  have hps := openT_ps (side_sdK kt ks kq A.E) t.size t (Nat.le_refl _) h.neT
  have hk9 := openT_k _ (side_sdK kt ks kq A.E) t.size t (Nat.le_refl _)
  have HT := toKey_any qb kt ks kq W1.drew
  rw [show W1.drew.heap.size = W1.heap.size from rfl] at HT
  clear hW1 hsA hbA hbA1
  go_enter Try.func35, Try.ntmps35
  go_wp2_with fail
  rw [HW.out]
  go_region_held3 (fun W9 => W9.cell? ⟨W.heap.size, 0, none⟩ = some (.int .u64 kt) ∧ W9.cell? ⟨W.heap.size, 1, none⟩ = some (.int .i64 ks) ∧ W9.cell? ⟨W.heap.size, 2, none⟩ = some (.int .u64 kq) ∧ W9.cell? ⟨qb, 2, none⟩ = some (.int .i64 (root : Int))) (first | exact KP | go_keep) (first | (go_at_call 57; (with_reducible refine HT.mono ?_); rintro e w2 ⟨rfl, hT2, hP2, hb2⟩; have hQ2 := hQ1.later (W' := w2) ((below_drewNq _ W1 1).trans hb2); have hKB2 : KBx w2 W.heap.size kt ks kq := (hb2.block _ hlK).trans hK1; have KP : w2.cell? ⟨W.heap.size, 0, none⟩ = some (.int .u64 kt) ∧ w2.cell? ⟨W.heap.size, 1, none⟩ = some (.int .i64 ks) ∧ w2.cell? ⟨W.heap.size, 2, none⟩ = some (.int .u64 kq) ∧ w2.cell? ⟨qb, 2, none⟩ = some (.int .i64 (root : Int)) := ⟨hKB2.cells.1, hKB2.cells.2.1, hKB2.cells.2.2, hQ2.cells.2.2.1⟩) | (go_at_call 46; refine (open_any 73 #[.pointer (some ⟨W1.heap.size + 1, 0, none⟩), .pointer (some ⟨W1.heap.size, 0, none⟩)] enterK base qb g c n A _ _ _ _ _ (sdK kt ks kq A.E) (side_sdK _ _ _ _) t root w2 hQ2 hn1.2.1 hn1.1 h.ti h.ndT h.inT h.z ⟨hwk, by omega⟩ hn1.2.2 (wayK hT2 hP2 (by omega) (by omega) hn1.2.1)).mono ?_; rintro e w3 ⟨A3, ra, rb, rfl, hQ3, hE3, hla, hlb, hout, hC3⟩; have hKB3 : KBx w3 W.heap.size kt ks kq := (hC3.block _ (lt_of_block hKB2) (by rintro (e | e) <;> omega)).trans hKB2; clear KP; have KP : w3.cell? ⟨W.heap.size, 0, none⟩ = some (.int .u64 kt) ∧ w3.cell? ⟨W.heap.size, 1, none⟩ = some (.int .i64 ks) ∧ w3.cell? ⟨W.heap.size, 2, none⟩ = some (.int .u64 kq) ∧ w3.cell? ⟨qb, 2, none⟩ = some (.int .i64 (root : Int)) := ⟨hKB3.cells.1, hKB3.cells.2.1, hKB3.cells.2.2, hQ3.cells.2.2.1⟩))
  have hC13 : Ch (S2 qb g) W1 w3 := (Ch.below ((below_drewNq _ W1 1).trans hb2)).trans hC3
  have hz3 : A3.L 0 = 0 ∧ A3.R 0 = 0 := by
    have h0 : (0 : Nat) ∉ t.ps := fun hq => h.neT 0 hq rfl
    rw [(hout 0 h0).1, (hout 0 h0).2]
    exact h.z
  have HC13 : Hid (Ch (S2 qb g) W1 w3) := hC13
  clear KP hC13 hC3 hb2 hT2 hP2 hQ2 hKB2 hKB3 HT q0 q1 q2 q3 q4 q5 y0 y1 y2 HW
  generalize hO : openT (sdK kt ks kq A.E) t = O at *
  rw [hm, mid0, List.append_nil] at hps
  have hndT := h.ndT
  rw [← hps] at hndT
  have hsb : O.b.size ≤ 8192 := by
    have h8 := congrArg List.length hps
    rw [List.length_append, Tr.size_ps, Tr.size_ps, Tr.size_ps] at h8
    omega
  have HJ := join_any base qb g c n A3 _ _ _ _ _ O.a O.b ra rb w3 hQ3 hn1.2.1 hn1.1 hla hlb hndT (fun p hp => h.inT p (by rw [← hps]; exact hp)) hz3 ⟨by omega, by omega⟩ hsb
  have HPS : Hid (O.a.ps ++ O.b.ps = t.ps ∧ (∀ p, p ∉ t.ps → A3.L p = A.L p ∧ A3.R p = A.R p) ∧ A3.E = A.E ∧ O.k ≤ 8192 ∧ 0 ≤ work) := ⟨hps, hout, hE3, by omega, hwk⟩
  have HLT : Hid (((qb < W.heap.size ∧ base ≤ qb) ∧ g < W.heap.size ∧ base ≤ g) ∧ W.heap.size + 1 < W1.heap.size) := ⟨hlt, hl1⟩
  clear hps hm hsb hndT hk9 hn1 hz3 hlt hl1 hlK hout hE3 hla hlb hwk hwk2
  go_upto_region 4 with (go_at_call 61; (with_reducible refine HJ.mono ?_); rintro e' w4 ⟨A4, j, rj, k', rfl, hQ4, hk', hE4, hlj, hpj, houtj, hjt, hC4⟩; have HJT : Hid (j = joinT O.a O.b ∧ k' = joinK O.a O.b) := hjt; clear hjt; have HX4 : Hid (k' ≤ 8192 ∧ A4.E = A3.E ∧ j.lies A4.L A4.R rj ∧ j.ps = O.a.ps ++ O.b.ps ∧ ∀ p, p ∉ O.a.ps ++ O.b.ps → A4.L p = A3.L p ∧ A4.R p = A3.R p) := ⟨hk', hE4, hlj, hpj, houtj⟩; clear hk' hE4 hlj hpj houtj; obtain ⟨z0, z1, z2, z3, z4, z5⟩ := hQ4.cells; have zf := own_frozen hQ4.box 2)
  generalize hw5 : World.setCell w4 _ _ = w5
  have hQ5 : QW w5 base qb g c n A4 ((fl.headD 0 : Nat) : Int) (rj : Int) t.size room (work + O.k + k') := by rw [← hw5]; exact hQ4.setRoot (rj : Int)
  have hC5 : Ch (S2 qb g) w4 w5 := by rw [← hw5]; exact Ch.set _ _ _ _ _ (.inl rfl)
  have hC15 : Ch (S2 qb g) W1 w5 := (HC13.out.trans hC4).trans hC5
  obtain ⟨hlt, hl1⟩ := HLT.out
  have he5 := (hC15.block _ hl1 (by rintro (e | e) <;> omega)).trans he1
  obtain ⟨r0, r1, r2, r3, r4, r5⟩ := q6c he5
  have rf := frz he5
  have rf0 := rf 0; have rf1 := rf 1; have rf2 := rf 2; have rf3 := rf 3; have rf4 := rf 4; have rf5 := rf 5
  clear rf
  clear hw5 z0 z1 z2 z3 z4 z5 zf hlt hl1
  go_wp2_with fail
  obtain ⟨hps, hout, hE3, hkk, hwk⟩ := HPS.out
  obtain ⟨hk', hE4, hlj, hpj, houtj⟩ := HX4.out
  obtain ⟨hlt, hl1⟩ := HLT.out
  generalize hWF : (World.setCell (World.setCell (World.setCell (World.setCell (World.setCell (World.setCell w5 _ _) _ _) _ _) _ _) _ _) _ _) = wF
  obtain ⟨p1, p2, p3⟩ := put6 he5 _ _ _ _ _ _ wF hWF
  obtain ⟨d0, d1, d2, d3, d4, d5⟩ := q6c p1
  refine bodyPost_ret (v := .tuple #[evV ev0, .int .i64 83]) (by simp [results, Try.results35, go_sem, d0, d1, d2, d3, d4, d5, evV, ev0]; try rfl) rfl ?_
  have hQF : QW wF base qb g c n A4 ((fl.headD 0 : Nat) : Int) (rj : Int) t.size room (work + O.k + k') := ⟨hQ5.box.far fun j e => (by cases e; exact p2 qb (by omega)), hQ5.row.far fun j e => (by cases e; exact p2 g (by omega)), hQ5.ne⟩
  have r1 := QI.tree (j := j) (rj := rj) (A3 := A4) h (hpj.trans hps) (hE4.trans hE3) hlj (fun p hp => ⟨(houtj p (by rw [hps]; exact hp)).1.trans (hout p hp).1, (houtj p (by rw [hps]; exact hp)).2.trans (hout p hp).2⟩) hQF (by omega)
  have hcF : Ch (S2 qb g) W w5 := (Ch.below hb1).trans hC15
  have hbF := p3 0 _ (Below.refl 0 _) (Nat.zero_le _)
  have hcW : Ch (S2 qb g) W wF := ⟨hbF.os.trans hcF.os, hbF.tape.trans hcF.tape, hbF.output.trans hcF.output, Nat.le_trans hcF.size hbF.size, fun j hj hs => (p2 j (by omega)).trans (hcF.block j hj hs)⟩
  subst hO
  exact ⟨A4, j, rj, k', rfl, r1, hk', hpj.trans hps, hE4.trans hE3, hcW, HJT.out.1, HJT.out.2⟩
theorem find_no (base qb g c n : Nat) (A : Ar) (t : Tr) (fl : List Nat) (root : Nat) (room work : Int) (kt ks kq : Int) (W : World) (h : QI W base qb g c n A t fl root room work) (hwk2 : work ≤ 4611686018427000000) (hm : (openT (sdK kt ks kq A.E) t).m = 0) :
    Calls Try.prog 35 #[.pointer (some ⟨qb, 0, none⟩), .agg #[.int .u64 kt, .int .i64 ks, .int .u64 kq]] W fun e' W' => ∃ (A' : Ar) (j : Tr) (rj k' : Nat), e' = .returned (.tuple #[evV ev0, .int .i64 83]) ∧ QI W' base qb g c n A' j fl rj room (work + (openT (sdK kt ks kq A.E) t).k + k') ∧ k' ≤ 8192 ∧ j.ps = t.ps ∧ A'.E = A.E ∧ Ch (S2 qb g) W W' :=
  (find_noX base qb g c n A t fl root room work kt ks kq W h hwk2 hm).mono fun _ _ ⟨A', j, rj, k', h1, h2, h3, h4, h5, h6, _⟩ => ⟨A', j, rj, k', h1, h2, h3, h4, h5, h6⟩
set_option maxRecDepth 100000 in
set_option maxHeartbeats 4000000 in
theorem remove_noX (base qb g c n : Nat) (A : Ar) (t : Tr) (fl : List Nat) (root : Nat) (room work : Int) (kt ks kq : Int) (W : World) (h : QI W base qb g c n A t fl root room work) (hwk2 : work ≤ 4611686018427000000) (hm : (openT (sdK kt ks kq A.E) t).m = 0) :
    Calls Try.prog 36 #[.pointer (some ⟨qb, 0, none⟩), .agg #[.int .u64 kt, .int .i64 ks, .int .u64 kq]] W fun e' W' => ∃ (A' : Ar) (j : Tr) (rj k' : Nat), e' = .returned (.tuple #[evV ev0, .int .i64 83]) ∧ QI W' base qb g c n A' j fl rj room (work + (openT (sdK kt ks kq A.E) t).k + k') ∧ k' ≤ 8192 ∧ j.ps = t.ps ∧ A'.E = A.E ∧ Ch (S2 qb g) W W' ∧ j = joinT (openT (sdK kt ks kq A.E) t).a (openT (sdK kt ks kq A.E) t).b ∧ k' = joinK (openT (sdK kt ks kq A.E) t).a (openT (sdK kt ks kq A.E) t).b := by
  obtain ⟨W1, hW1⟩ : ∃ W1, (W.alloc (.cells #[.int .u64 kt, .int .i64 ks, .int .u64 kq] 30)).alloc (.cells #[.int .u64 0, .int .i64 0, .int .u64 0, .int .i64 0, .int .i64 0, .int .i64 0] 64) = W1 := ⟨_, rfl⟩
  have hsA : (W.alloc (.cells #[.int .u64 kt, .int .i64 ks, .int .u64 kq] 30)).heap.size = W.heap.size + 1 := World.size_alloc _ _
  have hbA : Below W.heap.size W (W.alloc (.cells #[.int .u64 kt, .int .i64 ks, .int .u64 kq] 30)) := (Below.refl _ W).alloc (Nat.le_refl _) _
  have hbA1 : Below (W.heap.size + 1) (W.alloc (.cells #[.int .u64 kt, .int .i64 ks, .int .u64 kq] 30)) W1 := by rw [← hW1, ← hsA]; exact (Below.refl _ _).alloc (Nat.le_refl _) _
  have hb1 : Below W.heap.size W W1 := hbA.trans (hbA1.mono (by omega))
  have hK1 : KBx W1 W.heap.size kt ks kq := (hbA1.block _ (by omega)).trans (World.alloc_heap_new W _)
  have he1 : W1.heap[W.heap.size + 1]? = some (.cells #[.int .u64 0, .int .i64 0, .int .u64 0, .int .i64 0, .int .i64 0, .int .i64 0] 64 (0, 0)) := by
    rw [← hW1]
    have := World.alloc_heap_new (W.alloc (.cells #[.int .u64 kt, .int .i64 ks, .int .u64 kq] 30)) (.cells #[.int .u64 0, .int .i64 0, .int .u64 0, .int .i64 0, .int .i64 0, .int .i64 0] 64)
    rwa [hsA] at this
  have HW : Hid ((W.alloc (.cells #[.int .u64 kt, .int .i64 ks, .int .u64 kq] 30)).alloc (.cells #[.int .u64 0, .int .i64 0, .int .u64 0, .int .i64 0, .int .i64 0, .int .i64 0] 64) = W1) := hW1
  have hQ1 := h.q.later hb1
  have hlt := h.q.lt
  have hn1 := h.n1
  have hwk := h.wk
  have hl1 := lt_of_block he1
  have hlK := lt_of_block hK1
  obtain ⟨q0, q1, q2, q3, q4, q5⟩ := hQ1.cells
  obtain ⟨y0, y1, y2⟩ := hK1.cells
  have hps := openT_ps (side_sdK kt ks kq A.E) t.size t (Nat.le_refl _) h.neT
  have hk9 := openT_k _ (side_sdK kt ks kq A.E) t.size t (Nat.le_refl _)
  have HT := toKey_any qb kt ks kq W1.drew
  rw [show W1.drew.heap.size = W1.heap.size from rfl] at HT
  clear hW1 hsA hbA hbA1
  go_enter Try.func36, Try.ntmps36
  go_wp2_with fail
  rw [HW.out]
  go_region_held3 (fun W9 => W9.cell? ⟨W.heap.size, 0, none⟩ = some (.int .u64 kt) ∧ W9.cell? ⟨W.heap.size, 1, none⟩ = some (.int .i64 ks) ∧ W9.cell? ⟨W.heap.size, 2, none⟩ = some (.int .u64 kq) ∧ W9.cell? ⟨qb, 2, none⟩ = some (.int .i64 (root : Int))) (first | exact KP | go_keep) (first | (go_at_call 57; (with_reducible refine HT.mono ?_); rintro e w2 ⟨rfl, hT2, hP2, hb2⟩; have hQ2 := hQ1.later (W' := w2) ((below_drewNq _ W1 1).trans hb2); have hKB2 : KBx w2 W.heap.size kt ks kq := (hb2.block _ hlK).trans hK1; have KP : w2.cell? ⟨W.heap.size, 0, none⟩ = some (.int .u64 kt) ∧ w2.cell? ⟨W.heap.size, 1, none⟩ = some (.int .i64 ks) ∧ w2.cell? ⟨W.heap.size, 2, none⟩ = some (.int .u64 kq) ∧ w2.cell? ⟨qb, 2, none⟩ = some (.int .i64 (root : Int)) := ⟨hKB2.cells.1, hKB2.cells.2.1, hKB2.cells.2.2, hQ2.cells.2.2.1⟩) | (go_at_call 46; refine (open_any 73 #[.pointer (some ⟨W1.heap.size + 1, 0, none⟩), .pointer (some ⟨W1.heap.size, 0, none⟩)] enterK base qb g c n A _ _ _ _ _ (sdK kt ks kq A.E) (side_sdK _ _ _ _) t root w2 hQ2 hn1.2.1 hn1.1 h.ti h.ndT h.inT h.z ⟨hwk, by omega⟩ hn1.2.2 (wayK hT2 hP2 (by omega) (by omega) hn1.2.1)).mono ?_; rintro e w3 ⟨A3, ra, rb, rfl, hQ3, hE3, hla, hlb, hout, hC3⟩; have hKB3 : KBx w3 W.heap.size kt ks kq := (hC3.block _ (lt_of_block hKB2) (by rintro (e | e) <;> omega)).trans hKB2; clear KP; have KP : w3.cell? ⟨W.heap.size, 0, none⟩ = some (.int .u64 kt) ∧ w3.cell? ⟨W.heap.size, 1, none⟩ = some (.int .i64 ks) ∧ w3.cell? ⟨W.heap.size, 2, none⟩ = some (.int .u64 kq) ∧ w3.cell? ⟨qb, 2, none⟩ = some (.int .i64 (root : Int)) := ⟨hKB3.cells.1, hKB3.cells.2.1, hKB3.cells.2.2, hQ3.cells.2.2.1⟩))
  have hC13 : Ch (S2 qb g) W1 w3 := (Ch.below ((below_drewNq _ W1 1).trans hb2)).trans hC3
  have hz3 : A3.L 0 = 0 ∧ A3.R 0 = 0 := by
    have h0 : (0 : Nat) ∉ t.ps := fun hq => h.neT 0 hq rfl
    rw [(hout 0 h0).1, (hout 0 h0).2]
    exact h.z
  have HC13 : Hid (Ch (S2 qb g) W1 w3) := hC13
  clear KP hC13 hC3 hb2 hT2 hP2 hQ2 hKB2 hKB3 HT q0 q1 q2 q3 q4 q5 y0 y1 y2 HW
  generalize hO : openT (sdK kt ks kq A.E) t = O at *
  rw [hm, mid0, List.append_nil] at hps
  have hndT := h.ndT
  rw [← hps] at hndT
  have hsb : O.b.size ≤ 8192 := by
    have h8 := congrArg List.length hps
    rw [List.length_append, Tr.size_ps, Tr.size_ps, Tr.size_ps] at h8
    omega
  have HJ := join_any base qb g c n A3 _ _ _ _ _ O.a O.b ra rb w3 hQ3 hn1.2.1 hn1.1 hla hlb hndT (fun p hp => h.inT p (by rw [← hps]; exact hp)) hz3 ⟨by omega, by omega⟩ hsb
  have HPS : Hid (O.a.ps ++ O.b.ps = t.ps ∧ (∀ p, p ∉ t.ps → A3.L p = A.L p ∧ A3.R p = A.R p) ∧ A3.E = A.E ∧ O.k ≤ 8192 ∧ 0 ≤ work) := ⟨hps, hout, hE3, by omega, hwk⟩
  have HLT : Hid (((qb < W.heap.size ∧ base ≤ qb) ∧ g < W.heap.size ∧ base ≤ g) ∧ W.heap.size + 1 < W1.heap.size) := ⟨hlt, hl1⟩
  clear hps hm hsb hndT hk9 hn1 hz3 hlt hl1 hlK hout hE3 hla hlb hwk hwk2
  go_upto_region 4 with (go_at_call 61; (with_reducible refine HJ.mono ?_); rintro e' w4 ⟨A4, j, rj, k', rfl, hQ4, hk', hE4, hlj, hpj, houtj, hjt, hC4⟩; have HJT : Hid (j = joinT O.a O.b ∧ k' = joinK O.a O.b) := hjt; clear hjt; have HX4 : Hid (k' ≤ 8192 ∧ A4.E = A3.E ∧ j.lies A4.L A4.R rj ∧ j.ps = O.a.ps ++ O.b.ps ∧ ∀ p, p ∉ O.a.ps ++ O.b.ps → A4.L p = A3.L p ∧ A4.R p = A3.R p) := ⟨hk', hE4, hlj, hpj, houtj⟩; clear hk' hE4 hlj hpj houtj; obtain ⟨z0, z1, z2, z3, z4, z5⟩ := hQ4.cells; have zf := own_frozen hQ4.box 2)
  generalize hw5 : World.setCell w4 _ _ = w5
  have hQ5 : QW w5 base qb g c n A4 ((fl.headD 0 : Nat) : Int) (rj : Int) t.size room (work + O.k + k') := by rw [← hw5]; exact hQ4.setRoot (rj : Int)
  have hC5 : Ch (S2 qb g) w4 w5 := by rw [← hw5]; exact Ch.set _ _ _ _ _ (.inl rfl)
  have hC15 : Ch (S2 qb g) W1 w5 := (HC13.out.trans hC4).trans hC5
  obtain ⟨hlt, hl1⟩ := HLT.out
  have he5 := (hC15.block _ hl1 (by rintro (e | e) <;> omega)).trans he1
  obtain ⟨r0, r1, r2, r3, r4, r5⟩ := q6c he5
  have rf := frz he5
  have rf0 := rf 0; have rf1 := rf 1; have rf2 := rf 2; have rf3 := rf 3; have rf4 := rf 4; have rf5 := rf 5
  clear rf
  clear hw5 z0 z1 z2 z3 z4 z5 zf hlt hl1
  go_wp2_with fail
  obtain ⟨hps, hout, hE3, hkk, hwk⟩ := HPS.out
  obtain ⟨hk', hE4, hlj, hpj, houtj⟩ := HX4.out
  obtain ⟨hlt, hl1⟩ := HLT.out
  generalize hWF : (World.setCell (World.setCell (World.setCell (World.setCell (World.setCell (World.setCell w5 _ _) _ _) _ _) _ _) _ _) _ _) = wF
  obtain ⟨p1, p2, p3⟩ := put6 he5 _ _ _ _ _ _ wF hWF
  obtain ⟨d0, d1, d2, d3, d4, d5⟩ := q6c p1
  refine bodyPost_ret (v := .tuple #[evV ev0, .int .i64 83]) (by simp [results, Try.results36, go_sem, d0, d1, d2, d3, d4, d5, evV, ev0]; try rfl) rfl ?_
  have hQF : QW wF base qb g c n A4 ((fl.headD 0 : Nat) : Int) (rj : Int) t.size room (work + O.k + k') := ⟨hQ5.box.far fun j e => (by cases e; exact p2 qb (by omega)), hQ5.row.far fun j e => (by cases e; exact p2 g (by omega)), hQ5.ne⟩
  have r1 := QI.tree (j := j) (rj := rj) (A3 := A4) h (hpj.trans hps) (hE4.trans hE3) hlj (fun p hp => ⟨(houtj p (by rw [hps]; exact hp)).1.trans (hout p hp).1, (houtj p (by rw [hps]; exact hp)).2.trans (hout p hp).2⟩) hQF (by omega)
  have hcF : Ch (S2 qb g) W w5 := (Ch.below hb1).trans hC15
  have hbF := p3 0 _ (Below.refl 0 _) (Nat.zero_le _)
  have hcW : Ch (S2 qb g) W wF := ⟨hbF.os.trans hcF.os, hbF.tape.trans hcF.tape, hbF.output.trans hcF.output, Nat.le_trans hcF.size hbF.size, fun j hj hs => (p2 j (by omega)).trans (hcF.block j hj hs)⟩
  subst hO
  exact ⟨A4, j, rj, k', rfl, r1, hk', hpj.trans hps, hE4.trans hE3, hcW, HJT.out.1, HJT.out.2⟩
theorem remove_no (base qb g c n : Nat) (A : Ar) (t : Tr) (fl : List Nat) (root : Nat) (room work : Int) (kt ks kq : Int) (W : World) (h : QI W base qb g c n A t fl root room work) (hwk2 : work ≤ 4611686018427000000) (hm : (openT (sdK kt ks kq A.E) t).m = 0) :
    Calls Try.prog 36 #[.pointer (some ⟨qb, 0, none⟩), .agg #[.int .u64 kt, .int .i64 ks, .int .u64 kq]] W fun e' W' => ∃ (A' : Ar) (j : Tr) (rj k' : Nat), e' = .returned (.tuple #[evV ev0, .int .i64 83]) ∧ QI W' base qb g c n A' j fl rj room (work + (openT (sdK kt ks kq A.E) t).k + k') ∧ k' ≤ 8192 ∧ j.ps = t.ps ∧ A'.E = A.E ∧ Ch (S2 qb g) W W' :=
  (remove_noX base qb g c n A t fl root room work kt ks kq W h hwk2 hm).mono fun _ _ ⟨A', j, rj, k', h1, h2, h3, h4, h5, h6, _⟩ => ⟨A', j, rj, k', h1, h2, h3, h4, h5, h6⟩
set_option maxRecDepth 100000 in
set_option maxHeartbeats 4000000 in
theorem remove_yesX (base qb g c n : Nat) (A : Ar) (t : Tr) (fl : List Nat) (root : Nat) (room work : Int) (kt ks kq : Int) (W : World) (h : QI W base qb g c n A t fl root room work) (hwk2 : work ≤ 4611686018427000000) (hm : (openT (sdK kt ks kq A.E) t).m ≠ 0) :
    Calls Try.prog 36 #[.pointer (some ⟨qb, 0, none⟩), .agg #[.int .u64 kt, .int .i64 ks, .int .u64 kq]] W fun e' W' => ∃ (A' : Ar) (j : Tr) (fl' : List Nat) (rj k' : Nat), e' = .returned (.tuple #[evV (A.E (openT (sdK kt ks kq A.E) t).m), .int .i64 0]) ∧ QI W' base qb g c n A' j fl' rj room (work + (openT (sdK kt ks kq A.E) t).k + k') ∧ k' ≤ 8192 ∧ j.ps = (openT (sdK kt ks kq A.E) t).a.ps ++ (openT (sdK kt ks kq A.E) t).b.ps ∧ j.ps.map A'.E = j.ps.map A.E ∧ Ch (S2 qb g) W W' ∧ j = joinT (openT (sdK kt ks kq A.E) t).a (openT (sdK kt ks kq A.E) t).b ∧ k' = joinK (openT (sdK kt ks kq A.E) t).a (openT (sdK kt ks kq A.E) t).b := by
  obtain ⟨W1, hW1⟩ : ∃ W1, (W.alloc (.cells #[.int .u64 kt, .int .i64 ks, .int .u64 kq] 30)).alloc (.cells #[.int .u64 0, .int .i64 0, .int .u64 0, .int .i64 0, .int .i64 0, .int .i64 0] 64) = W1 := ⟨_, rfl⟩
  have hsA : (W.alloc (.cells #[.int .u64 kt, .int .i64 ks, .int .u64 kq] 30)).heap.size = W.heap.size + 1 := World.size_alloc _ _
  have hbA : Below W.heap.size W (W.alloc (.cells #[.int .u64 kt, .int .i64 ks, .int .u64 kq] 30)) := (Below.refl _ W).alloc (Nat.le_refl _) _
  have hbA1 : Below (W.heap.size + 1) (W.alloc (.cells #[.int .u64 kt, .int .i64 ks, .int .u64 kq] 30)) W1 := by rw [← hW1, ← hsA]; exact (Below.refl _ _).alloc (Nat.le_refl _) _
  have hb1 : Below W.heap.size W W1 := hbA.trans (hbA1.mono (by omega))
  have hK1 : KBx W1 W.heap.size kt ks kq := (hbA1.block _ (by omega)).trans (World.alloc_heap_new W _)
  have he1 : W1.heap[W.heap.size + 1]? = some (.cells #[.int .u64 0, .int .i64 0, .int .u64 0, .int .i64 0, .int .i64 0, .int .i64 0] 64 (0, 0)) := by
    rw [← hW1]
    have := World.alloc_heap_new (W.alloc (.cells #[.int .u64 kt, .int .i64 ks, .int .u64 kq] 30)) (.cells #[.int .u64 0, .int .i64 0, .int .u64 0, .int .i64 0, .int .i64 0, .int .i64 0] 64)
    rwa [hsA] at this
  have HW : Hid ((W.alloc (.cells #[.int .u64 kt, .int .i64 ks, .int .u64 kq] 30)).alloc (.cells #[.int .u64 0, .int .i64 0, .int .u64 0, .int .i64 0, .int .i64 0, .int .i64 0] 64) = W1) := hW1
  have hQ1 := h.q.later hb1
  have hlt := h.q.lt
  have hn1 := h.n1
  have hwk := h.wk
  have hl1 := lt_of_block he1
  have hlK := lt_of_block hK1
  obtain ⟨q0, q1, q2, q3, q4, q5⟩ := hQ1.cells
  obtain ⟨y0, y1, y2⟩ := hK1.cells
  have hps := openT_ps (side_sdK kt ks kq A.E) t.size t (Nat.le_refl _) h.neT
  have hk9 := openT_k _ (side_sdK kt ks kq A.E) t.size t (Nat.le_refl _)
  have HT := toKey_any qb kt ks kq W1.drew
  rw [show W1.drew.heap.size = W1.heap.size from rfl] at HT
  clear hW1 hsA hbA hbA1
  go_enter Try.func36, Try.ntmps36
  go_wp2_with fail
  rw [HW.out]
  go_region_held3 (fun W9 => W9.cell? ⟨W.heap.size, 0, none⟩ = some (.int .u64 kt) ∧ W9.cell? ⟨W.heap.size, 1, none⟩ = some (.int .i64 ks) ∧ W9.cell? ⟨W.heap.size, 2, none⟩ = some (.int .u64 kq) ∧ W9.cell? ⟨qb, 2, none⟩ = some (.int .i64 (root : Int))) (first | exact KP | go_keep) (first | (go_at_call 57; (with_reducible refine HT.mono ?_); rintro e w2 ⟨rfl, hT2, hP2, hb2⟩; have hQ2 := hQ1.later (W' := w2) ((below_drewNq _ W1 1).trans hb2); have hKB2 : KBx w2 W.heap.size kt ks kq := (hb2.block _ hlK).trans hK1; have KP : w2.cell? ⟨W.heap.size, 0, none⟩ = some (.int .u64 kt) ∧ w2.cell? ⟨W.heap.size, 1, none⟩ = some (.int .i64 ks) ∧ w2.cell? ⟨W.heap.size, 2, none⟩ = some (.int .u64 kq) ∧ w2.cell? ⟨qb, 2, none⟩ = some (.int .i64 (root : Int)) := ⟨hKB2.cells.1, hKB2.cells.2.1, hKB2.cells.2.2, hQ2.cells.2.2.1⟩) | (go_at_call 46; refine (open_any 73 #[.pointer (some ⟨W1.heap.size + 1, 0, none⟩), .pointer (some ⟨W1.heap.size, 0, none⟩)] enterK base qb g c n A _ _ _ _ _ (sdK kt ks kq A.E) (side_sdK _ _ _ _) t root w2 hQ2 hn1.2.1 hn1.1 h.ti h.ndT h.inT h.z ⟨hwk, by omega⟩ hn1.2.2 (wayK hT2 hP2 (by omega) (by omega) hn1.2.1)).mono ?_; rintro e w3 ⟨A3, ra, rb, rfl, hQ3, hE3, hla, hlb, hout, hC3⟩; have hKB3 : KBx w3 W.heap.size kt ks kq := (hC3.block _ (lt_of_block hKB2) (by rintro (e | e) <;> omega)).trans hKB2; clear KP; have KP : w3.cell? ⟨W.heap.size, 0, none⟩ = some (.int .u64 kt) ∧ w3.cell? ⟨W.heap.size, 1, none⟩ = some (.int .i64 ks) ∧ w3.cell? ⟨W.heap.size, 2, none⟩ = some (.int .u64 kq) ∧ w3.cell? ⟨qb, 2, none⟩ = some (.int .i64 (root : Int)) := ⟨hKB3.cells.1, hKB3.cells.2.1, hKB3.cells.2.2, hQ3.cells.2.2.1⟩))
  have hC13 : Ch (S2 qb g) W1 w3 := (Ch.below ((below_drewNq _ W1 1).trans hb2)).trans hC3
  have hz3 : A3.L 0 = 0 ∧ A3.R 0 = 0 := by
    have h0 : (0 : Nat) ∉ t.ps := fun hq => h.neT 0 hq rfl
    rw [(hout 0 h0).1, (hout 0 h0).2]
    exact h.z
  have HC13 : Hid (Ch (S2 qb g) W1 w3) := hC13
  clear KP hC13 hC3 hb2 hT2 hP2 hQ2 hKB2 hKB3 HT q0 q1 q2 q3 q4 q5 y0 y1 y2 HW
  generalize hO : openT (sdK kt ks kq A.E) t = O at *
  rw [midn hm, List.append_assoc] at hps
  have hmt : O.m ∈ t.ps := by rw [← hps]; simp
  have hmn : O.m < n := h.inT _ hmt
  have dm : ((O.m : Int) == 0) = false := by simp; omega
  have hpm : t.ps.Perm (O.m :: (O.a.ps ++ O.b.ps)) := by rw [← hps]; exact List.perm_middle
  have hndT := (List.nodup_cons.1 (hpm.nodup_iff.1 h.ndT)).2
  have hab : ∀ p ∈ O.a.ps ++ O.b.ps, p ∈ t.ps := fun p hp => hpm.mem_iff.2 (List.mem_cons_of_mem _ hp)
  have hszs := hpm.length_eq
  rw [List.length_cons, List.length_append, Tr.size_ps, Tr.size_ps, Tr.size_ps] at hszs
  have hsz : 0 < t.size := by omega
  have HJ := join_any base qb g c n A3 _ _ _ _ _ O.a O.b ra rb w3 hQ3 hn1.2.1 hn1.1 hla hlb hndT (fun p hp => h.inT p (hab p hp)) hz3 ⟨by omega, by omega⟩ (by omega)
  have HSZ : Hid (0 < t.size ∧ t.size ≤ 8192) := ⟨hsz, hn1.2.2⟩
  clear hszs hsz
  go_upto_region 5 with (go_at_call 61; (with_reducible refine HJ.mono ?_); rintro e' w4 ⟨A4, j, rj, k', rfl, hQ4, hk', hE4, hlj, hpj, houtj, hjt, hC4⟩; have HJT : Hid (j = joinT O.a O.b ∧ k' = joinK O.a O.b) := hjt; clear hjt; have HX4 : Hid (k' ≤ 8192 ∧ A4.E = A3.E ∧ j.lies A4.L A4.R rj ∧ j.ps = O.a.ps ++ O.b.ps ∧ ∀ p, p ∉ O.a.ps ++ O.b.ps → A4.L p = A3.L p ∧ A4.R p = A3.R p) := ⟨hk', hE4, hlj, hpj, houtj⟩; clear hk' hE4 hlj hpj houtj; obtain ⟨z0, z1, z2, z3, z4, z5⟩ := hQ4.cells; have zf := own_frozen hQ4.box 2)
  generalize hw5 : World.setCell w4 _ _ = w5
  have hQ5 : QW w5 base qb g c n A4 ((fl.headD 0 : Nat) : Int) (rj : Int) t.size room (work + O.k + k') := by rw [← hw5]; exact hQ4.setRoot (rj : Int)
  have hC5 : Ch (S2 qb g) w4 w5 := by rw [← hw5]; exact Ch.set _ _ _ _ _ (.inl rfl)
  have HV := leave_any base qb g c n A4 (fl.headD 0) _ t.size _ _ O.m w5 hQ5 hmn hn1.2.1 HSZ.out
  have HC5 : Hid (Ch (S2 qb g) W1 w5) := (HC13.out.trans hC4).trans hC5
  clear hw5 z0 z1 z2 z3 z4 z5 zf hC5 hC4
  go_wp2_with (go_at_call 49; (with_reducible refine HV.mono ?_); rintro e' w6 ⟨rfl, hQ6, hC6⟩; have hC16 : Ch (S2 qb g) W1 w6 := HC5.out.trans hC6; have he6 := (hC16.block _ hl1 (by rintro (e | e) <;> omega)).trans he1; obtain ⟨r0, r1, r2, r3, r4, r5⟩ := q6c he6; have rf := frz he6; have rf0 := rf 0; have rf1 := rf 1; have rf2 := rf 2; have rf3 := rf 3; have rf4 := rf 4; have rf5 := rf 5; clear rf; unfold evV)
  generalize hWF : (World.setCell (World.setCell (World.setCell (World.setCell (World.setCell (World.setCell w6 _ _) _ _) _ _) _ _) _ _) _ _) = wF
  obtain ⟨p1, p2, p3⟩ := put6 he6 _ _ _ _ _ _ wF hWF
  obtain ⟨d0, d1, d2, d3, d4, d5⟩ := q6c p1
  obtain ⟨hk', hE4, hlj, hpj, houtj⟩ := HX4.out
  have hEm : A4.E O.m = A.E O.m := by rw [hE4, hE3]
  refine bodyPost_ret (v := .tuple #[evV (A.E O.m), .int .i64 0]) (by simp [results, Try.results36, go_sem, d0, d1, d2, d3, d4, d5, evV, hEm]; try rfl) rfl ?_
  have hQF : QW wF base qb g c n (A4.set O.m ev0 (fl.headD 0) 0) O.m rj ((t.size - 1 : Nat) : Int) room (work + O.k + k') := ⟨hQ6.box.far fun j e => (by cases e; exact p2 qb (by omega)), hQ6.row.far fun j e => (by cases e; exact p2 g (by omega)), hQ6.ne⟩
  obtain ⟨r1, r2⟩ := unlink2 (b := j) (rb := rj) (A3 := A4) h hps.symm hpj (hE4.trans hE3) hlj (fun p hp => ⟨(houtj p (fun h9 => hp (hab p h9))).1.trans (hout p hp).1, (houtj p (fun h9 => hp (hab p h9))).2.trans (hout p hp).2⟩) hQF (by omega)
  subst hO
  refine ⟨_, j, _, rj, k', rfl, r1, hk', hpj, r2, ?_, HJT.out.1, HJT.out.2⟩
  have hcF : Ch (S2 qb g) W w6 := (Ch.below hb1).trans hC16
  have hbF := p3 0 _ (Below.refl 0 _) (Nat.zero_le _)
  exact ⟨hbF.os.trans hcF.os, hbF.tape.trans hcF.tape, hbF.output.trans hcF.output, Nat.le_trans hcF.size hbF.size, fun j hj hs => (p2 j (by omega)).trans (hcF.block j hj hs)⟩
theorem remove_yes (base qb g c n : Nat) (A : Ar) (t : Tr) (fl : List Nat) (root : Nat) (room work : Int) (kt ks kq : Int) (W : World) (h : QI W base qb g c n A t fl root room work) (hwk2 : work ≤ 4611686018427000000) (hm : (openT (sdK kt ks kq A.E) t).m ≠ 0) :
    Calls Try.prog 36 #[.pointer (some ⟨qb, 0, none⟩), .agg #[.int .u64 kt, .int .i64 ks, .int .u64 kq]] W fun e' W' => ∃ (A' : Ar) (j : Tr) (fl' : List Nat) (rj k' : Nat), e' = .returned (.tuple #[evV (A.E (openT (sdK kt ks kq A.E) t).m), .int .i64 0]) ∧ QI W' base qb g c n A' j fl' rj room (work + (openT (sdK kt ks kq A.E) t).k + k') ∧ k' ≤ 8192 ∧ j.ps = (openT (sdK kt ks kq A.E) t).a.ps ++ (openT (sdK kt ks kq A.E) t).b.ps ∧ j.ps.map A'.E = j.ps.map A.E ∧ Ch (S2 qb g) W W' :=
  (remove_yesX base qb g c n A t fl root room work kt ks kq W h hwk2 hm).mono fun _ _ ⟨A', j, fl', rj, k', h1, h2, h3, h4, h5, h6, _⟩ => ⟨A', j, fl', rj, k', h1, h2, h3, h4, h5, h6⟩
end Go.Proofs.Ytlklolmhaiaaiaa
