import Derived.Test.YtlklolmhaiaaiaaKY32
namespace Go.Proofs.Ytlklolmhaiaaiaa
open Go.ChangeShapes Go.WideShapes Go.ChangeAt Go.RowKit
set_option linter.unusedVariables false
set_option linter.unusedSimpArgs false

structure OpV where
  kd : Int
  wh : Int
  t : Int
  s : Int
  q : Int
  d : Int
  n : Int
def opA (o : OpV) : Array Value := #[.int .i64 o.kd, .int .i64 o.wh, .int .u64 o.t, .int .i64 o.s, .int .u64 o.q, .int .i64 o.d, .int .i64 o.n]
theorem c7 {W : World} {b : Nat} {c0 c1 c2 c3 c4 c5 c6 : Value} {t : TypeId} (h : W.heap[b]? = some (.cells #[c0, c1, c2, c3, c4, c5, c6] t (0, 0))) : W.cell? ⟨b, 0, none⟩ = some c0 ∧ W.cell? ⟨b, 1, none⟩ = some c1 ∧ W.cell? ⟨b, 2, none⟩ = some c2 ∧ W.cell? ⟨b, 3, none⟩ = some c3 ∧ W.cell? ⟨b, 4, none⟩ = some c4 ∧ W.cell? ⟨b, 5, none⟩ = some c5 ∧ W.cell? ⟨b, 6, none⟩ = some c6 := by
  refine ⟨?_, ?_, ?_, ?_, ?_, ?_, ?_⟩
  all_goals (unfold World.cell?; rw [h]; rfl)
theorem two_alloc (W : World) (a b : Array Value) (ta tb : TypeId) (wF : World) (h : (W.alloc (.cells a ta)).alloc (.cells b tb) = wF) : wF.heap[W.heap.size]? = some (.cells a ta (0, 0)) ∧ wF.heap[W.heap.size + 1]? = some (.cells b tb (0, 0)) ∧ Below W.heap.size W wF := by
  have hsA : (W.alloc (.cells a ta)).heap.size = W.heap.size + 1 := World.size_alloc _ _
  have hbA : Below W.heap.size W (W.alloc (.cells a ta)) := (Below.refl _ W).alloc (Nat.le_refl _) _
  have hbA1 : Below (W.heap.size + 1) (W.alloc (.cells a ta)) wF := by rw [← h, ← hsA]; exact (Below.refl _ _).alloc (Nat.le_refl _) _
  refine ⟨(hbA1.block _ (by omega)).trans (World.alloc_heap_new W _), ?_, hbA.trans (hbA1.mono (by omega))⟩
  rw [← h]
  have := World.alloc_heap_new (W.alloc (.cells a ta)) (.cells b tb)
  rwa [hsA] at this
set_option maxRecDepth 100000 in
set_option maxHeartbeats 4000000 in
theorem event_any (o : OpV) (W : World) : Calls Try.prog 30 #[.agg (opA o)] W fun e W' => e = .returned (evV ⟨o.t, o.s, o.q, o.d.tmod 7, o.d.tmod 5, o.d⟩) ∧ Below W.heap.size W W' := by
  unfold opA
  obtain ⟨W1, hW1⟩ : ∃ W1, (W.alloc (.cells #[.int .i64 o.kd, .int .i64 o.wh, .int .u64 o.t, .int .i64 o.s, .int .u64 o.q, .int .i64 o.d, .int .i64 o.n] 32)).alloc (.cells #[.int .u64 0, .int .i64 0, .int .u64 0, .int .i64 0, .int .i64 0, .int .i64 0] 64) = W1 := ⟨_, rfl⟩
  obtain ⟨ho1, he1, hb1⟩ := two_alloc _ _ _ _ _ _ hW1
  obtain ⟨y0, y1, y2, y3, y4, y5, y6⟩ := c7 ho1
  obtain ⟨r0, r1, r2, r3, r4, r5⟩ := q6c he1
  have rf := frz he1
  have rf0 := rf 0; have rf1 := rf 1; have rf2 := rf 2; have rf3 := rf 3; have rf4 := rf 4; have rf5 := rf 5
  rw [← hW1] at y0 y1 y2 y3 y4 y5 y6 r0 r1 r2 r3 r4 r5 rf0 rf1 rf2 rf3 rf4 rf5
  clear rf hb1 he1 hW1 ho1
  go_enter Try.func30, Try.ntmps30
  go_wp2_with fail
  generalize hWF : World.alloc (World.alloc W _) _ = wF
  obtain ⟨_, p1, hbF⟩ := two_alloc _ _ _ _ _ _ hWF
  obtain ⟨d0, d1, d2, d3, d4, d5⟩ := q6c p1
  refine bodyPost_ret (v := evV ⟨o.t, o.s, o.q, o.d.tmod 7, o.d.tmod 5, o.d⟩) (by simp [results, Try.results30, go_sem, d0, d1, d2, d3, d4, d5, evV]; try rfl) rfl ?_
  exact ⟨rfl, hbF⟩
end Go.Proofs.Ytlklolmhaiaaiaa
namespace Go.Proofs.Ytlklolmhaiaaiaa
open Go.ChangeShapes Go.WideShapes Go.ChangeAt Go.RowKit
set_option linter.unusedVariables false
set_option linter.unusedSimpArgs false

theorem spot_in : ∀ (t : Tr) (d : Nat) (x : Nat × Nat), x ∈ t.spots d → x.1 ∈ t.ps := fun t d x hx => by
  rw [← Tr.spots_ps t d]
  exact List.mem_map.2 ⟨x, hx, rfl⟩
theorem QI.rootT {W : World} {base qb g c n : Nat} {A : Ar} {t : Tr} {fl : List Nat} {root : Nat} {room work : Int} (h : QI W base qb g c n A t fl root room work) (hr : root ≠ 0) : ∃ l r, t = .node l root r := by
  obtain ⟨l, r, e, _⟩ := Tr.lies_node h.ti hr
  exact ⟨l, r, e⟩
/-- the root's depth -/
theorem QI.depth0 {W : World} {base qb g c n : Nat} {A : Ar} {t : Tr} {fl : List Nat} {root : Nat} {room work : Int} (h : QI W base qb g c n A t fl root room work) (hr : root ≠ 0) : ∀ x ∈ t.spots 0, x.1 = root → x.2 = 0 := by
  intro x hx e
  obtain ⟨l, r, rfl⟩ := h.rootT hr
  obtain ⟨n1, n2, _⟩ := ndNode h.ndT
  have hx' : x ∈ l.spots 1 ∨ x = (root, 0) ∨ x ∈ r.spots 1 := by
    have : x ∈ l.spots (0 + 1) ++ (root, 0) :: r.spots (0 + 1) := hx
    simpa using this
  rcases hx' with h1 | h1 | h1
  · exact absurd (e ▸ spot_in l 1 x h1) n1
  · rw [h1]
  · exact absurd (e ▸ spot_in r 1 x h1) n2
/-- one key, one place -/
theorem QI.one {W : World} {base qb g c n : Nat} {A : Ar} {t : Tr} {fl : List Nat} {root : Nat} {room work : Int} (h : QI W base qb g c n A t fl root room work) {kt ks kq : Int} {p q : Nat} (hp : p ∈ t.ps) (hq : q ∈ t.ps) (h1 : cmpE kt ks kq (A.E p) = 0) (h2 : cmpE kt ks kq (A.E q) = 0) : p = q := by
  obtain ⟨i, hi, rfl⟩ := List.getElem_of_mem hp
  obtain ⟨j, hj, rfl⟩ := List.getElem_of_mem hq
  unfold cmpE at h1 h2
  rw [keyCmp_eq] at h1 h2
  rcases Nat.lt_trichotomy i j with h9 | h9 | h9
  · have := List.pairwise_iff_getElem.1 h.srt i j hi hj h9
    rw [keyLt_iff] at this
    omega
  · subst h9; rfl
  · have := List.pairwise_iff_getElem.1 h.srt j i hj hi h9
    rw [keyLt_iff] at this
    omega
def spX (A : Ar) (t : Tr) (i : Nat) : Ev := A.E ((t.spots 0).getD i (0, 0)).1
theorem spX_mem {A : Ar} {t : Tr} {i : Nat} (hi : i < t.size) : (t.spots 0).getD i (0, 0) ∈ t.spots 0 := by
  have hi2 : i < (t.spots 0).length := by rw [spots_len]; exact hi
  rw [List.getD_eq_getElem?_getD, List.getElem?_eq_getElem hi2]
  exact List.getElem_mem _
/-- the place of a key in the list is the root's -/
theorem QI.atRoot {W : World} {base qb g c n : Nat} {A : Ar} {t : Tr} {fl : List Nat} {root : Nat} {room work : Int} (h : QI W base qb g c n A t fl root room work) (hr : root ≠ 0) {kt ks kq : Int} (hk : cmpE kt ks kq (A.E root) = 0) {i : Nat} (hi : i < t.size) (hx : cmpE kt ks kq (spX A t i) = 0) : spX A t i = A.E root ∧ dpF (t.spots 0) i = .int .i64 0 := by
  have hm := spX_mem (A := A) hi
  have hrt : root ∈ t.ps := by
    obtain ⟨l, r, rfl⟩ := h.rootT hr
    simp [Tr.ps]
  have e := h.one (spot_in t 0 _ hm) hrt hx hk
  refine ⟨by unfold spX; rw [e], ?_⟩
  unfold dpF
  rw [h.depth0 hr _ hm e]
  rfl
theorem listQ {base qb g c n : Nat} {A : Ar} {t : Tr} {fl : List Nat} {root : Nat} {room work : Int} (W : World) (h : QI W base qb g c n A t fl root room work) : Calls Try.prog 10 #[.pointer (some ⟨qb, 0, none⟩)] W fun e' W' => ∃ b, e' = .returned (.slice (some ⟨b, 0, none⟩) t.size t.size) ∧ EvsL W' b t.size (spX A t) ∧ W.heap.size ≤ b ∧ QI W' base qb g c n A t fl root room work ∧ Ch (S2 qb g) W W' := by
  have hn1 := h.n1
  refine (list_any base qb g c n A _ root _ room work t W h.q hn1.2.1 h.ti h.ndT h.inT hn1.2.2).mono ?_
  rintro e' W' ⟨b, rfl, hO, hQ, hC⟩
  have hOl := Own.lt hO b rfl
  refine ⟨b, rfl, ⟨hOl.2, fun i r hi hr => ?_⟩, hOl.1, ⟨hQ, h.ti, h.fr, h.nd, h.inr, h.cnt, h.z, h.nr, h.rm, h.srt, h.wk⟩, hC⟩
  rw [hO.cell (j := i * 6 + r) (by omega)]
  unfold evF spX
  rw [show (i * 6 + r) / 6 = i by omega, show (i * 6 + r) % 6 = r by omega]
theorem spX_srt {W : World} {base qb g c n : Nat} {A : Ar} {t : Tr} {fl : List Nat} {root : Nat} {room work : Int} (h : QI W base qb g c n A t fl root room work) : ∀ i j, i < j → j < t.size → keyLt (spX A t i) (spX A t j) := by
  intro i j hij hj
  have hsp : (t.spots 0).map Prod.fst = t.ps := Tr.spots_ps t 0
  have hl : t.ps.length = t.size := Tr.size_ps t
  have hg : ∀ i (hi : i < t.size), ((t.spots 0).getD i (0, 0)).1 = t.ps[i]'(by omega) := fun i hi => by
    have hi2 : i < (t.spots 0).length := by rw [spots_len]; exact hi
    have : t.ps[i]? = some ((t.spots 0).getD i (0, 0)).1 := by
      rw [← hsp, List.getElem?_map, List.getElem?_eq_getElem hi2, List.getD_eq_getElem?_getD, List.getElem?_eq_getElem hi2]
      rfl
    rw [List.getElem?_eq_getElem (by omega)] at this
    exact (Option.some.inj this).symm
  unfold spX
  rw [hg i (by omega), hg j hj]
  exact List.pairwise_iff_getElem.1 h.srt i j (by omega) (by omega) hij
theorem depthsQ {base qb g c n : Nat} {A : Ar} {t : Tr} {fl : List Nat} {root : Nat} {room work : Int} (W : World) (h : QI W base qb g c n A t fl root room work) (ht : 0 < t.size) : Calls Try.prog 7 #[.pointer (some ⟨qb, 0, none⟩)] W fun e' W' => ∃ b cw, e' = .returned (.slice (some ⟨b, 0, none⟩) t.size cw) ∧ (b < W'.heap.size ∧ ∀ i, i < t.size → W'.cell? ⟨b, i, none⟩ = some (dpF (t.spots 0) i)) ∧ W.heap.size ≤ b ∧ QI W' base qb g c n A t fl root room work ∧ Ch (S2 qb g) W W' := by
  have hn1 := h.n1
  refine (depths_any base qb g c n A _ root _ room work t W h.q hn1.2.1 h.ti h.ndT h.inT hn1.2.2).mono ?_
  rintro e' W' ⟨gw, cw, rfl, hO, hQ, hC⟩
  rcases hO.form with ⟨_, h2⟩ | ⟨b, c9, h2, h3, h4⟩
  · omega
  · injection h2 with h5 h6 h7
    subst h5
    exact ⟨b, cw, rfl, ⟨h4, fun i hi => hO.cell (by omega)⟩, h3, ⟨hQ, h.ti, h.fr, h.nd, h.inr, h.cnt, h.z, h.nr, h.rm, h.srt, h.wk⟩, hC⟩
set_option maxRecDepth 100000 in
theorem workQ {base qb g c n : Nat} {A : Ar} {t : Tr} {fl : List Nat} {root : Nat} {room work : Int} (W : World) (h : QI W base qb g c n A t fl root room work) : Calls Try.prog 8 #[.pointer (some ⟨qb, 0, none⟩)] W fun e W' => e = .returned (.int .i64 work) ∧ W' = W := by
  obtain ⟨c0, c1, c2, c3, c4, c5⟩ := h.q.cells
  clear h
  go_enter Try.func8, Try.ntmps8
  go_wp2
  go_ret
  exact ⟨rfl, rfl⟩
/-- Find of the root's key costs nothing -/
theorem findRoot {base qb g c n : Nat} {A : Ar} {t : Tr} {fl : List Nat} {root : Nat} {room work : Int} (kt ks kq : Int) (W : World) (h : QI W base qb g c n A t fl root room work) (hr : root ≠ 0) (hk : cmpE kt ks kq (A.E root) = 0) (hw : work ≤ 4611686018427000000) : Calls Try.prog 35 #[.pointer (some ⟨qb, 0, none⟩), .agg #[.int .u64 kt, .int .i64 ks, .int .u64 kq]] W fun e' W' => e' = .returned (.tuple #[evV (A.E root), .int .i64 0]) ∧ ∃ A' : Ar, QI W' base qb g c n A' t fl root room work ∧ A'.E = A.E ∧ Ch (S2 qb g) W W' := by
  obtain ⟨l, r, rfl⟩ := h.rootT hr
  have ho : openT (sdK kt ks kq A.E) (.node l root r) = ⟨l, root, r, 0⟩ := openT_here (by
    show sideOf (cmpE kt ks kq (A.E root)) = 2
    rw [hk]
    rfl)
  have h1 := find_yes base qb g c n A _ fl root room work kt ks kq W h hw (by rw [ho]; exact hr)
  rw [ho] at h1
  refine h1.mono ?_
  rintro e' W' ⟨A', rfl, hq, hE, hC⟩
  exact ⟨rfl, A', by simpa using hq, hE, hC⟩
/-- Find of a key that is there -/
theorem findThere {base qb g c n : Nat} {A : Ar} {t : Tr} {fl : List Nat} {root : Nat} {room work : Int} (kt ks kq : Int) (W : World) (h : QI W base qb g c n A t fl root room work) {p : Nat} (hp : p ∈ t.ps) (hk : cmpE kt ks kq (A.E p) = 0) (hw : work ≤ 4611686018427000000) : Calls Try.prog 35 #[.pointer (some ⟨qb, 0, none⟩), .agg #[.int .u64 kt, .int .i64 ks, .int .u64 kq]] W fun e' W' => e' = .returned (.tuple #[evV (A.E p), .int .i64 0]) ∧ ∃ (A' : Ar) (t' : Tr) (work' : Int), QI W' base qb g c n A' t' fl p room work' ∧ p ≠ 0 ∧ A'.E = A.E ∧ work' ≤ work + 8192 ∧ Ch (S2 qb g) W W' := by
  have hsz := h.n1.2.2
  have hk9 := openT_k _ (side_sdK kt ks kq A.E) t.size t (Nat.le_refl _)
  have hps := openT_ps (side_sdK kt ks kq A.E) t.size t (Nat.le_refl _) h.neT
  obtain ⟨hs1, hs2, hs3⟩ := openT_side (s := sK kt ks kq A.E) (side_sdK kt ks kq A.E) (fun _ _ _ => rfl) t.size t (Nat.le_refl _) h.neT (mono_sK _ _ _ _ h.srt)
  have hm : (openT (sdK kt ks kq A.E) t).m ≠ 0 := fun hm => by
    rw [hm, mid0, List.append_nil] at hps
    rw [← hps] at hp
    rcases List.mem_append.1 hp with h2 | h2
    · have := sK_1.1 (hs1 p h2); omega
    · have := sK_0.1 (hs2 p h2); omega
  have hmt : (openT (sdK kt ks kq A.E) t).m ∈ t.ps := by
    rw [midn hm] at hps
    rw [← hps]
    simp
  have e := h.one hmt hp (sK_2.1 (hs3 hm)) hk
  refine (find_yes base qb g c n A t fl root room work kt ks kq W h hw hm).mono ?_
  rintro e' W' ⟨A', rfl, hq, hE, hC⟩
  rw [e] at hq ⊢
  exact ⟨rfl, A', _, _, hq, h.neT p hp, hE, by omega, hC⟩
end Go.Proofs.Ytlklolmhaiaaiaa
namespace Go.Proofs.Ytlklolmhaiaaiaa
open Go.ChangeShapes Go.WideShapes Go.ChangeAt Go.RowKit
set_option linter.unusedVariables false
set_option linter.unusedSimpArgs false

/-- calls that come in -/
def OpsIn (W : World) (p : Option Addr) (N : Nat) (O : Nat → OpV) : Prop := N = 0 ∨ ∃ b o, p = some ⟨b, o, none⟩ ∧ b < W.heap.size ∧ ∀ i r, i < N → r < 7 → W.cell? ⟨b, o + i * 7 + r, none⟩ = some ((opA (O i)).toList.getD r undef)
theorem new_QS9 {W : World} {base qb nb : Nat} {room : Int} (hq : W.heap[qb]? = some (.cells #[.slice (some ⟨nb, 0, none⟩) 1 1, .int .i64 0, .int .i64 0, .int .i64 0, .int .i64 room, .int .i64 0] 58 (0, 0))) (hO : Own W base 67 8 (.slice (some ⟨nb, 0, none⟩) 1 1) 1 zNd) (hne : qb ≠ nb) (hb : base ≤ qb) (hr : 1 ≤ room ∧ room ≤ 8192) : QS base qb nb room 0 [] W := new_QS hq hO hne hb hr
theorem QI.later {W W' : World} {base qb g c n : Nat} {A : Ar} {t : Tr} {fl : List Nat} {root : Nat} {room work : Int} (h : QI W base qb g c n A t fl root room work) (hb : Below W.heap.size W W') : QI W' base qb g c n A t fl root room work := ⟨h.q.later hb, h.ti, h.fr, h.nd, h.inr, h.cnt, h.z, h.nr, h.rm, h.srt, h.wk⟩
theorem QI.far {W W' : World} {base qb g c n : Nat} {A : Ar} {t : Tr} {fl : List Nat} {root : Nat} {room work : Int} (h : QI W base qb g c n A t fl root room work) (h1 : W'.heap[qb]? = W.heap[qb]?) (h2 : W'.heap[g]? = W.heap[g]?) : QI W' base qb g c n A t fl root room work := ⟨⟨h.q.box.far fun j e => (by cases e; exact h1), h.q.row.far fun j e => (by cases e; exact h2), h.q.ne⟩, h.ti, h.fr, h.nd, h.inr, h.cnt, h.z, h.nr, h.rm, h.srt, h.wk⟩
theorem spX0 (A : Ar) {t : Tr} {m : Nat} {r : List Nat} (h : t.ps = m :: r) : spX A t 0 = A.E m := by
  have hsp : (t.spots 0).map Prod.fst = t.ps := Tr.spots_ps t 0
  rw [h] at hsp
  unfold spX
  cases hs : t.spots 0 with
  | nil => rw [hs] at hsp; simp at hsp
  | cons x l =>
    rw [hs] at hsp
    simp at hsp
    show A.E x.1 = A.E m
    rw [hsp.1]
theorem EvsL.at {W : World} {b N : Nat} {X : Nat → Ev} (h : EvsL W b N X) {i : Nat} (hi : i < N) : W.cell? ⟨b, i * 6, none⟩ = some (.int .u64 (X i).t) ∧ W.cell? ⟨b, i * 6 + 1, none⟩ = some (.int .i64 (X i).s) ∧ W.cell? ⟨b, i * 6 + 2, none⟩ = some (.int .u64 (X i).q) ∧ W.cell? ⟨b, i * 6 + 3, none⟩ = some (.int .i64 (X i).d) ∧ W.cell? ⟨b, i * 6 + 4, none⟩ = some (.int .i64 (X i).k) ∧ W.cell? ⟨b, i * 6 + 5, none⟩ = some (.int .i64 (X i).v) :=
  ⟨h.2 i 0 hi (by decide), h.2 i 1 hi (by decide), h.2 i 2 hi (by decide), h.2 i 3 hi (by decide), h.2 i 4 hi (by decide), h.2 i 5 hi (by decide)⟩
theorem neq_ev9 (x : Ev) (W : World) : (binOp .neq 64 (.agg #[.int .u64 x.t, .int .i64 x.s, .int .u64 x.q, .int .i64 x.d, .int .i64 x.k, .int .i64 x.v]) (.agg #[.int .u64 x.t, .int .i64 x.s, .int .u64 x.q, .int .i64 x.d, .int .i64 x.k, .int .i64 x.v])).run Try.prog W = .ok (.bool false) W := neq_evV _ _ _ _ _ _ W
end Go.Proofs.Ytlklolmhaiaaiaa
