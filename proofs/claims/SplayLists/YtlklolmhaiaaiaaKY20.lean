import Derived.Test.YtlklolmhaiaaiaaKY16
namespace Go.Proofs.Ytlklolmhaiaaiaa
open Go.ChangeShapes Go.WideShapes Go.ChangeAt Go.RowKit
set_option linter.unusedVariables false
set_option linter.unusedSimpArgs false

/-- a queue that holds L (in the order of keys) -/
def QS (base qb g : Nat) (room wb : Int) (L : List Ev) (W : World) : Prop := ∃ (c n : Nat) (A : Ar) (t : Tr) (fl : List Nat) (root : Nat) (work : Int), QI W base qb g c n A t fl root room work ∧ L = t.ps.map A.E ∧ work ≤ wb
theorem QS.lt {base qb g : Nat} {room wb : Int} {L : List Ev} {W : World} (h : QS base qb g room wb L W) : (qb < W.heap.size ∧ base ≤ qb) ∧ g < W.heap.size ∧ base ≤ g := by
  obtain ⟨c, n, A, t, fl, root, work, hq, _⟩ := h
  exact hq.q.lt
theorem QS.later {base qb g : Nat} {room wb : Int} {L : List Ev} {W W' : World} (h : QS base qb g room wb L W) (hb : Below W.heap.size W W') : QS base qb g room wb L W' := by
  obtain ⟨c, n, A, t, fl, root, work, hq, hL, hw⟩ := h
  exact ⟨c, n, A, t, fl, root, work, ⟨hq.q.later hb, hq.ti, hq.fr, hq.nd, hq.inr, hq.cnt, hq.z, hq.nr, hq.rm, hq.srt, hq.wk⟩, hL, hw⟩
theorem QS.keep {base qb g : Nat} {room wb : Int} {L : List Ev} {W W' : World} (h : QS base qb g room wb L W) {S : Nat → Prop} (hc : Ch S W W') (h1 : ¬ S qb) (h2 : ¬ S g) : QS base qb g room wb L W' := by
  obtain ⟨c, n, A, t, fl, root, work, hq, hL, hw⟩ := h
  exact ⟨c, n, A, t, fl, root, work, ⟨hq.q.keep hc h1 h2, hq.ti, hq.fr, hq.nd, hq.inr, hq.cnt, hq.z, hq.nr, hq.rm, hq.srt, hq.wk⟩, hL, hw⟩
theorem QS.len {base qb g : Nat} {room wb : Int} {L : List Ev} {W : World} (h : QS base qb g room wb L W) : (L.length : Int) ≤ room ∧ room ≤ 8192 := by
  obtain ⟨c, n, A, t, fl, root, work, hq, hL, hw⟩ := h
  have h1 := hq.cnt
  have h2 := hq.nr
  have h3 := hq.rm
  rw [hL, List.length_map, Tr.size_ps]
  omega
set_option maxRecDepth 100000 in
theorem size_any {base qb g : Nat} {room wb : Int} {L : List Ev} (W : World) (h : QS base qb g room wb L W) : Calls Try.prog 38 #[.pointer (some ⟨qb, 0, none⟩)] W fun e W' => e = .returned (.int .i64 (L.length : Int)) ∧ W' = W := by
  obtain ⟨c, n, A, t, fl, root, work, hq, hL, hw⟩ := h
  have e : L.length = t.size := by rw [hL, List.length_map, Tr.size_ps]
  rw [e]
  obtain ⟨c0, c1, c2, c3, c4, c5⟩ := hq.q.cells
  go_enter Try.func38, Try.ntmps38
  go_wp2
  go_ret
  exact ⟨rfl, rfl⟩
set_option maxRecDepth 100000 in
theorem room_any {base qb g : Nat} {room wb : Int} {L : List Ev} (W : World) (h : QS base qb g room wb L W) : Calls Try.prog 39 #[.pointer (some ⟨qb, 0, none⟩)] W fun e W' => e = .returned (.int .i64 (room - (L.length : Int))) ∧ Below W.heap.size W W' := by
  have hl := h.len
  obtain ⟨c, n, A, t, fl, root, work, hq, hL, hw⟩ := h
  have e : L.length = t.size := by rw [hL, List.length_map, Tr.size_ps]
  rw [e] at hl ⊢
  obtain ⟨c0, c1, c2, c3, c4, c5⟩ := hq.q.cells
  have e1 : IntKind.i64.wrap (room - (t.size : Int)) = room - (t.size : Int) := by rw [IntKind.wrap_i64]; omega
  go_enter Try.func39, Try.ntmps39
  go_wp2
  go_quiet (fail)
  go_wp2
  go_ret
  exact ⟨rfl, below_drewNq _ _ _⟩
/-- what Insert does to the list -/
def InsR (base qb g : Nat) (room wb : Int) (L : List Ev) (e : Ev) (W : World) (code : Int) (W' : World) : Prop :=
  ∃ g', ((L.length : Int) = room ∧ code = 80 ∧ QS base qb g' room (wb + 8192) L W' ∨ (L.length : Int) ≠ room ∧ (∃ x ∈ L, cmpE e.t e.s e.q x = 0) ∧ code = 81 ∧ QS base qb g' room (wb + 8192) L W' ∨ (L.length : Int) ≠ room ∧ (¬ ∃ x ∈ L, cmpE e.t e.s e.q x = 0) ∧ code = 0 ∧ ∃ L', QS base qb g' room (wb + 8192) L' W' ∧ L'.length = L.length + 1 ∧ ∀ x, x ∈ L' ↔ x = e ∨ x ∈ L) ∧ (g' = g ∨ W.heap.size ≤ g') ∧ Ch (S2 qb g) W W'
theorem ins_any {base qb g : Nat} {room wb : Int} {L : List Ev} (e : Ev) (W : World) (h : QS base qb g room wb L W) (hwb : wb ≤ 4611686018427387904) : Calls Try.prog 29 #[.pointer (some ⟨qb, 0, none⟩), evV e] W fun e' W' => ∃ code, e' = .returned (.int .i64 code) ∧ InsR base qb g room wb L e W code W' := by
  have h0 := h
  obtain ⟨c, n, A, t, fl, root, work, hq, hL, hw⟩ := h
  have el : L.length = t.size := by rw [hL, List.length_map, Tr.size_ps]
  have hsz := hq.n1.2.2
  have hk9 := openT_k _ (side_sdK e.t e.s e.q A.E) t.size t (Nat.le_refl _)
  by_cases hf : (t.size : Int) = room
  · refine (insert_full base qb g c n A t fl root room work e W hq hf).mono ?_
    rintro e' W' ⟨rfl, hb⟩
    obtain ⟨c, n, A, t, fl, root, work, hq, hL, hw⟩ := h0.later hb
    exact ⟨80, rfl, g, .inl ⟨by rw [el]; exact hf, rfl, ⟨c, n, A, t, fl, root, work, hq, hL, by omega⟩⟩, .inl rfl, Ch.below hb⟩
  · have hps := openT_ps (side_sdK e.t e.s e.q A.E) t.size t (Nat.le_refl _) hq.neT
    obtain ⟨hs1, hs2, hs3⟩ := openT_side (s := sK e.t e.s e.q A.E) (side_sdK e.t e.s e.q A.E) (fun _ _ _ => rfl) t.size t (Nat.le_refl _) hq.neT (mono_sK _ _ _ _ hq.srt)
    by_cases hm : (openT (sdK e.t e.s e.q A.E) t).m = 0
    · rw [hm, mid0, List.append_nil] at hps
      have hno : ¬ ∃ x ∈ L, cmpE e.t e.s e.q x = 0 := by
        rintro ⟨x, hx, hc⟩
        rw [hL] at hx
        obtain ⟨p, hp, rfl⟩ := List.mem_map.1 hx
        rw [← hps] at hp
        rcases List.mem_append.1 hp with h2 | h2
        · have := sK_1.1 (hs1 p h2); omega
        · have := sK_0.1 (hs2 p h2); omega
      have key : ∀ (e' : Ending) (W' : World), e' = .returned (.int .i64 0) ∧ (∃ (g' c' n' : Nat) (A' : Ar) (t' : Tr) (fl' : List Nat) (root' : Nat), QI W' base qb g' c' n' A' t' fl' root' room (work + (openT (sdK e.t e.s e.q A.E) t).k) ∧ t'.ps.map A'.E = (openT (sdK e.t e.s e.q A.E) t).a.ps.map A.E ++ e :: (openT (sdK e.t e.s e.q A.E) t).b.ps.map A.E ∧ Ch (S2 qb g) W W' ∧ (g' = g ∨ W.heap.size ≤ g') ∧ root' ≠ 0 ∧ A'.E root' = e) → ∃ code, e' = .returned (.int .i64 code) ∧ InsR base qb g room wb L e W code W' := by
        rintro e' W' ⟨rfl, g', c', n', A', t', fl', root', hq', hL', hC, hg, hr1, hr2⟩
        refine ⟨0, rfl, g', .inr (.inr ⟨by rw [el]; exact hf, hno, rfl, t'.ps.map A'.E, ⟨c', n', A', t', fl', root', _, hq', rfl, by omega⟩, ?_, ?_⟩), hg, hC⟩
        · rw [hL', hL, ← hps]
          simp
          omega
        · intro x
          rw [hL', hL, ← hps]
          simp only [List.mem_append, List.mem_cons, List.map_append]
          constructor
          · rintro (h2 | h2 | h2)
            · exact .inr (.inl h2)
            · exact .inl h2
            · exact .inr (.inr h2)
          · rintro (h2 | h2 | h2)
            · exact .inr (.inl h2)
            · exact .inl h2
            · exact .inr (.inr h2)
      cases fl with
      | nil => exact (insert_new base qb g c n A t root room work e W hq hf (by omega) hm).mono fun e' W' h9 => key e' W' h9
      | cons p fl => exact (insert_free base qb g c n A t p fl root room work e W hq hf (by omega) hm).mono fun e' W' h9 => key e' W' h9
    · refine (insert_twin base qb g c n A t fl root room work e W hq hf (by omega) hm).mono ?_
      rintro e' W' ⟨rfl, A', t', root', hq', hps', hE', hC, hr'⟩
      rw [midn hm] at hps
      refine ⟨81, rfl, g, .inr (.inl ⟨by rw [el]; exact hf, ⟨A.E (openT (sdK e.t e.s e.q A.E) t).m, ?_, sK_2.1 (hs3 hm)⟩, rfl, ⟨c, n, A', t', fl, root', _, hq', by rw [hps', hE', hL], by omega⟩⟩), .inl rfl, hC⟩
      rw [hL]
      exact List.mem_map.2 ⟨_, by rw [← hps]; simp, rfl⟩
theorem popS {base qb g : Nat} {room wb : Int} {L : List Ev} (W : World) (h : QS base qb g room wb L W) (hwb : wb ≤ 4611686018427387904) (hL : L ≠ []) : Calls Try.prog 34 #[.pointer (some ⟨qb, 0, none⟩)] W fun e' W' => ∃ x L', e' = .returned (.tuple #[evV x, .int .i64 0]) ∧ L = x :: L' ∧ QS base qb g room (wb + 8192) L' W' ∧ Ch (S2 qb g) W W' := by
  obtain ⟨c, n, A, t, fl, root, work, hq, hLe, hw⟩ := h
  have hsz := hq.n1.2.2
  have hk9 := openT_k _ side_sdL t.size t (Nat.le_refl _)
  have ht : t ≠ .nil := by
    rintro rfl
    exact hL (by rw [hLe]; rfl)
  refine (pop_any base qb g c n A t fl root room work W hq ht (by omega)).mono ?_
  rintro e' W' ⟨A', t', fl', root', m, rfl, hq', hps, hE, hC⟩
  refine ⟨A.E m, t'.ps.map A.E, rfl, by rw [hLe, hps]; rfl, ⟨c, n, A', t', fl', root', _, hq', hE.symm, by omega⟩, hC⟩
theorem listS {base qb g : Nat} {room wb : Int} {L : List Ev} (W : World) (h : QS base qb g room wb L W) : Calls Try.prog 10 #[.pointer (some ⟨qb, 0, none⟩)] W fun e' W' => ∃ b X, e' = .returned (.slice (some ⟨b, 0, none⟩) L.length L.length) ∧ EvsL W' b L.length X ∧ (∀ i j, i < j → j < L.length → keyLt (X i) (X j)) ∧ (∀ i, i < L.length → L[i]? = some (X i)) ∧ W.heap.size ≤ b ∧ QS base qb g room wb L W' ∧ Ch (S2 qb g) W W' := by
  obtain ⟨c, n, A, t, fl, root, work, hq, hLe, hw⟩ := h
  have hn1 := hq.n1
  have el : L.length = t.size := by rw [hLe, List.length_map, Tr.size_ps]
  refine (list_any base qb g c n A _ root _ room work t W hq.q hn1.2.1 hq.ti hq.ndT hq.inT hn1.2.2).mono ?_
  rintro e' W' ⟨b, rfl, hO, hQ, hC⟩
  have hsp : (t.spots 0).map Prod.fst = t.ps := Tr.spots_ps t 0
  have hX : ∀ i, i < L.length → L[i]? = some (A.E ((t.spots 0).getD i (0, 0)).1) := fun i hi => by
    have hi2 : i < (t.spots 0).length := by rw [spots_len]; omega
    rw [hLe, ← hsp, List.map_map, List.getElem?_map, List.getElem?_eq_getElem hi2, List.getD_eq_getElem?_getD, List.getElem?_eq_getElem hi2]
    rfl
  have hOl := Own.lt hO b rfl
  refine ⟨b, fun i => A.E ((t.spots 0).getD i (0, 0)).1, by rw [el], ⟨hOl.2, fun i r hi hr => ?_⟩, fun i j hij hj => ?_, hX, hOl.1, ⟨c, n, A, t, fl, root, work, ⟨hQ, hq.ti, hq.fr, hq.nd, hq.inr, hq.cnt, hq.z, hq.nr, hq.rm, hq.srt, hq.wk⟩, hLe, hw⟩, hC⟩
  · rw [hO.cell (j := i * 6 + r) (by omega)]
    unfold evF
    rw [show (i * 6 + r) / 6 = i by omega, show (i * 6 + r) % 6 = r by omega]
  · have hs := hq.srt
    have hs2 : L.Pairwise keyLt := by rw [hLe]; exact List.pairwise_map.2 hs
    have h1 := hX i (by omega)
    have h2 := hX j hj
    rw [List.getElem?_eq_getElem (by omega)] at h1
    rw [List.getElem?_eq_getElem hj] at h2
    have h3 := List.pairwise_iff_getElem.1 hs2 i j (by omega) hj hij
    rw [Option.some.inj h1, Option.some.inj h2] at h3
    exact h3
end Go.Proofs.Ytlklolmhaiaaiaa
namespace Go.Proofs.Ytlklolmhaiaaiaa
open Go.ChangeShapes Go.WideShapes Go.ChangeAt Go.RowKit
set_option linter.unusedVariables false
set_option linter.unusedSimpArgs false

theorem KBx.frz {W : World} {kb : Nat} {kt ks kq : Int} (h : KBx W kb kt ks kq) (k : Nat) : W.frozen? ⟨kb, k, none⟩ = false := by
  unfold KBx at h
  simp [World.frozen?, h]
theorem new_QS {W : World} {base qb nb : Nat} {room : Int} (hq : W.heap[qb]? = some (.cells #[.slice (some ⟨nb, 0, none⟩) 1 1, .int .i64 0, .int .i64 0, .int .i64 0, .int .i64 room, .int .i64 0] 58 (0, 0))) (hO : Own W base 67 8 (.slice (some ⟨nb, 0, none⟩) 1 1) 1 zNd) (hne : qb ≠ nb) (hb : base ≤ qb) (hr : 1 ≤ room ∧ room ≤ 8192) : QS base qb nb room 0 [] W := by
  refine ⟨1, 1, ⟨fun _ => ev0, fun _ => 0, fun _ => 0⟩, .nil, [], 0, 0, ⟨⟨?_, ?_, fun e => hne e.symm⟩, rfl, trivial, by simp [Tr.ps], by simp [Tr.ps], rfl, ⟨rfl, rfl⟩, by omega, hr, List.Pairwise.nil, Int.le_refl _⟩, rfl, Int.le_refl _⟩
  · refine Own.mk' hq rfl (Nat.le_refl _) (by unfold maxLen; omega) hb fun j hj => ?_
    have : j = 0 ∨ j = 1 ∨ j = 2 ∨ j = 3 ∨ j = 4 ∨ j = 5 := by omega
    rcases this with rfl | rfl | rfl | rfl | rfl | rfl <;> rfl
  · refine hO.congr fun j hj => ?_
    have : j = 0 ∨ j = 1 ∨ j = 2 ∨ j = 3 ∨ j = 4 ∨ j = 5 ∨ j = 6 ∨ j = 7 := by omega
    rcases this with rfl | rfl | rfl | rfl | rfl | rfl | rfl | rfl <;> rfl
theorem QS.up {base qb g : Nat} {room wb wb' : Int} {L : List Ev} {W : World} (h : QS base qb g room wb L W) (hw : wb ≤ wb') : QS base qb g room wb' L W := by
  obtain ⟨c, n, A, t, fl, root, work, hq, hL, h2⟩ := h
  exact ⟨c, n, A, t, fl, root, work, hq, hL, by omega⟩
/-- keys that come in -/
def KeysAt (W : World) (p : Option Addr) (N : Nat) (T S Q : Nat → Int) : Prop := N = 0 ∨ ∃ b o, p = some ⟨b, o, none⟩ ∧ b < W.heap.size ∧ ∀ i, i < N → W.cell? ⟨b, o + i * 3, none⟩ = some (.int .u64 (T i)) ∧ W.cell? ⟨b, o + i * 3 + 1, none⟩ = some (.int .i64 (S i)) ∧ W.cell? ⟨b, o + i * 3 + 2, none⟩ = some (.int .u64 (Q i))
theorem insOk {base qb g : Nat} {room wb : Int} {L : List Ev} {e : Ev} {W W' : World} {code : Int} (h : InsR base qb g room wb L e W code W') (h1 : (L.length : Int) ≠ room) (h2 : ¬ ∃ x ∈ L, cmpE e.t e.s e.q x = 0) : ∃ g', code = 0 ∧ ∃ L', QS base qb g' room (wb + 8192) L' W' ∧ L'.length = L.length + 1 ∧ (∀ x, x ∈ L' ↔ x = e ∨ x ∈ L) ∧ (g' = g ∨ W.heap.size ≤ g') ∧ Ch (S2 qb g) W W' := by
  obtain ⟨g', hc, hg, hC⟩ := h
  rcases hc with ⟨h3, _⟩ | ⟨_, h3, _⟩ | ⟨_, _, h4, L', h5, h6, h7⟩
  · exact absurd h3 h1
  · exact absurd h3 h2
  · exact ⟨g', h4, L', h5, h6, h7, hg, hC⟩
theorem insFull {base qb g : Nat} {room wb : Int} {L : List Ev} {e : Ev} {W W' : World} {code : Int} (h : InsR base qb g room wb L e W code W') (h1 : (L.length : Int) = room) : ∃ g', code = 80 ∧ QS base qb g' room (wb + 8192) L W' ∧ (g' = g ∨ W.heap.size ≤ g') ∧ Ch (S2 qb g) W W' := by
  obtain ⟨g', hc, hg, hC⟩ := h
  rcases hc with ⟨_, h4, h5⟩ | ⟨h3, _⟩ | ⟨h3, _⟩
  · exact ⟨g', h4, h5, hg, hC⟩
  · exact absurd h1 h3
  · exact absurd h1 h3
theorem insTwin {base qb g : Nat} {room wb : Int} {L : List Ev} {e : Ev} {W W' : World} {code : Int} (h : InsR base qb g room wb L e W code W') (h1 : (L.length : Int) ≠ room) (h2 : ∃ x ∈ L, cmpE e.t e.s e.q x = 0) : ∃ g', code = 81 ∧ QS base qb g' room (wb + 8192) L W' ∧ (g' = g ∨ W.heap.size ≤ g') ∧ Ch (S2 qb g) W W' := by
  obtain ⟨g', hc, hg, hC⟩ := h
  rcases hc with ⟨h3, _⟩ | ⟨_, _, h4, h5⟩ | ⟨_, h3, _⟩
  · exact absurd h3 h1
  · exact ⟨g', h4, h5, hg, hC⟩
  · exact absurd h2 h3
end Go.Proofs.Ytlklolmhaiaaiaa
namespace Go.Proofs.Ytlklolmhaiaaiaa
open Go.ChangeShapes Go.WideShapes Go.ChangeAt Go.RowKit
set_option linter.unusedVariables false
set_option linter.unusedSimpArgs false

/-- events that come in -/
def EvIn (W : World) (p : Option Addr) (N : Nat) (X : Nat → Ev) : Prop := N = 0 ∨ ∃ b o, p = some ⟨b, o, none⟩ ∧ b < W.heap.size ∧ ∀ i r, i < N → r < 6 → W.cell? ⟨b, o + i * 6 + r, none⟩ = some (evC (X i) r)
/-- what a queue filled with X 0 .. X (M - 1) holds -/
def FillOk (X : Nat → Ev) (M : Nat) (L : List Ev) : Prop := L.length ≤ M ∧ (∀ i, i < M → ∃ x ∈ L, cmpE (X i).t (X i).s (X i).q x = 0) ∧ ∀ x ∈ L, ∃ i, i < M ∧ x = X i
theorem keyCmp_self (t s q : Int) : keyCmp t s q t s q = 0 := by
  rw [keyCmp_eq]
  exact ⟨rfl, rfl, rfl⟩
theorem FillOk.twin {X : Nat → Ev} {M : Nat} {L : List Ev} (h : FillOk X M L) (h2 : ∃ x ∈ L, cmpE (X M).t (X M).s (X M).q x = 0) : FillOk X (M + 1) L := by
  refine ⟨by have := h.1; omega, fun i hi => ?_, fun x hx => ?_⟩
  · by_cases h9 : i < M
    · exact h.2.1 i h9
    · obtain rfl : i = M := by omega
      exact h2
  · obtain ⟨i, hi, e⟩ := h.2.2 x hx
    exact ⟨i, by omega, e⟩
theorem FillOk.put {X : Nat → Ev} {M : Nat} {L L' : List Ev} (h : FillOk X M L) (hl : L'.length = L.length + 1) (h2 : ∀ x, x ∈ L' ↔ x = X M ∨ x ∈ L) : FillOk X (M + 1) L' := by
  refine ⟨by have := h.1; omega, fun i hi => ?_, fun x hx => ?_⟩
  · by_cases h9 : i < M
    · obtain ⟨x, hx, e⟩ := h.2.1 i h9
      exact ⟨x, (h2 x).2 (.inr hx), e⟩
    · obtain rfl : i = M := by omega
      exact ⟨X i, (h2 _).2 (.inl rfl), keyCmp_self _ _ _⟩
  · rcases (h2 x).1 hx with h9 | h9
    · exact ⟨M, by omega, h9⟩
    · obtain ⟨i, hi, e⟩ := h.2.2 x h9
      exact ⟨i, by omega, e⟩
/-- what Insert did, full aside -/
theorem insTwo {base qb g : Nat} {room wb : Int} {L : List Ev} {e : Ev} {W W' : World} {code : Int} (h : InsR base qb g room wb L e W code W') (h1 : (L.length : Int) ≠ room) : ∃ g' L', QS base qb g' room (wb + 8192) L' W' ∧ (g' = g ∨ W.heap.size ≤ g') ∧ Ch (S2 qb g) W W' ∧ (code = 81 ∧ L' = L ∧ (∃ x ∈ L, cmpE e.t e.s e.q x = 0) ∨ code = 0 ∧ L'.length = L.length + 1 ∧ ∀ x, x ∈ L' ↔ x = e ∨ x ∈ L) := by
  obtain ⟨g', hc, hg, hC⟩ := h
  rcases hc with ⟨h3, _⟩ | ⟨_, h3, h4, h5⟩ | ⟨_, _, h4, L', h5, h6, h7⟩
  · exact absurd h3 h1
  · exact ⟨g', L, h5, hg, hC, .inl ⟨h4, rfl, h3⟩⟩
  · exact ⟨g', L', h5, hg, hC, .inr ⟨h4, h6, h7⟩⟩
end Go.Proofs.Ytlklolmhaiaaiaa
