import Derived.Test.YtlklolmhaiaaiaaKY31
import Derived.Test.YtlklolmhaiaaiaaKY28a
namespace Go.Proofs.Ytlklolmhaiaaiaa
open Go.ChangeShapes Go.WideShapes Go.ChangeAt Go.RowKit
set_option linter.unusedVariables false
set_option linter.unusedSimpArgs false

theorem keyCmp_self9 (t s q : Int) : keyCmp t s q t s q = 0 := by
  rw [keyCmp_eq]
  exact ⟨rfl, rfl, rfl⟩
/-- Insert where there is room: what was put in, or its twin, is the root then -/
theorem ins_root {base qb g : Nat} {room wb : Int} {L : List Ev} (e : Ev) (W : World) (h : QS base qb g room wb L W) (hwb : wb ≤ 4611686018427000000) (hf : (L.length : Int) ≠ room) : Calls Try.prog 29 #[.pointer (some ⟨qb, 0, none⟩), evV e] W fun e' W' => ∃ (code : Int) (g' c n : Nat) (A : Ar) (t : Tr) (fl : List Nat) (root : Nat) (work : Int), e' = .returned (.int .i64 code) ∧ (code = 0 ∨ code = 81) ∧ QI W' base qb g' c n A t fl root room work ∧ root ≠ 0 ∧ cmpE e.t e.s e.q (A.E root) = 0 ∧ work ≤ wb + 8192 ∧ (g' = g ∨ W.heap.size ≤ g') ∧ Ch (S2 qb g) W W' := by
  obtain ⟨c, n, A, t, fl, root, work, hq, hL, hw⟩ := h
  have el : L.length = t.size := by rw [hL, List.length_map, Tr.size_ps]
  rw [el] at hf
  have hsz := hq.n1.2.2
  have hk9 := openT_k _ (side_sdK e.t e.s e.q A.E) t.size t (Nat.le_refl _)
  obtain ⟨hs1, hs2, hs3⟩ := openT_side (s := sK e.t e.s e.q A.E) (side_sdK e.t e.s e.q A.E) (fun _ _ _ => rfl) t.size t (Nat.le_refl _) hq.neT (mono_sK _ _ _ _ hq.srt)
  by_cases hm : (openT (sdK e.t e.s e.q A.E) t).m = 0
  · cases fl with
    | nil =>
      refine (insert_new base qb g c n A t root room work e W hq hf (by omega) hm).mono ?_
      rintro e' W' ⟨rfl, g', c', n', A', t', fl', root', hq', _, hC, hg, hr1, hr2⟩
      exact ⟨0, g', c', n', A', t', fl', root', _, rfl, .inl rfl, hq', hr1, by rw [hr2]; exact keyCmp_self9 _ _ _, by omega, hg, hC⟩
    | cons p fl =>
      refine (insert_free base qb g c n A t p fl root room work e W hq hf (by omega) hm).mono ?_
      rintro e' W' ⟨rfl, g', c', n', A', t', fl', root', hq', _, hC, hg, hr1, hr2⟩
      exact ⟨0, g', c', n', A', t', fl', root', _, rfl, .inl rfl, hq', hr1, by rw [hr2]; exact keyCmp_self9 _ _ _, by omega, hg, hC⟩
  · refine (insert_twin base qb g c n A t fl root room work e W hq hf (by omega) hm).mono ?_
    rintro e' W' ⟨rfl, A', t', root', hq', hps', hE', hC, hr'⟩
    exact ⟨81, g, c, n, A', t', fl, root', _, rfl, .inr rfl, hq', by rw [hr']; exact hm, by rw [hE', hr']; exact sK_2.1 (hs3 hm), by omega, .inl rfl, hC⟩
theorem minS {base qb g : Nat} {room wb : Int} {L : List Ev} (W : World) (h : QS base qb g room wb L W) (hwb : wb ≤ 4611686018427000000) : Calls Try.prog 32 #[.pointer (some ⟨qb, 0, none⟩)] W fun e' W' => ∃ (x : Ev) (code : Int), e' = .returned (.tuple #[evV x, .int .i64 code]) ∧ (L = [] ∧ x = ev0 ∧ code = 82 ∨ code = 0 ∧ ∃ L', L = x :: L') ∧ QS base qb g room (wb + 16384) L W' ∧ Ch (S2 qb g) W W' := by
  have h0 := h
  obtain ⟨c, n, A, t, fl, root, work, hq, hL, hw⟩ := h
  have hsz := hq.n1.2.2
  have hk9 := openT_k _ side_sdL t.size t (Nat.le_refl _)
  by_cases ht : t = .nil
  · subst ht
    refine (min_none base qb g c n A fl root room work W hq).mono ?_
    rintro e' W' ⟨rfl, hb⟩
    exact ⟨ev0, 82, rfl, .inl ⟨hL, rfl, rfl⟩, (h0.later hb).up (by omega), Ch.below hb⟩
  · refine (min_any base qb g c n A t fl root room work W hq ht (by omega)).mono ?_
    rintro e' W' ⟨A', rfl, hq', hps, hE, hC⟩
    refine ⟨_, 0, rfl, .inr ⟨rfl, (openT sdL t).b.ps.map A.E, by rw [hL, hps]; rfl⟩, ⟨c, n, A', _, fl, _, _, hq', ?_, by omega⟩, hC⟩
    rw [hL, hps, hE]
    rfl
theorem popS2 {base qb g : Nat} {room wb : Int} {L : List Ev} (W : World) (h : QS base qb g room wb L W) (hwb : wb ≤ 4611686018427000000) : Calls Try.prog 34 #[.pointer (some ⟨qb, 0, none⟩)] W fun e' W' => ∃ (x : Ev) (code : Int) (L' : List Ev), e' = .returned (.tuple #[evV x, .int .i64 code]) ∧ (L = [] ∧ L' = [] ∧ x = ev0 ∧ code = 82 ∨ code = 0 ∧ L = x :: L') ∧ QS base qb g room (wb + 16384) L' W' ∧ Ch (S2 qb g) W W' := by
  by_cases hL0 : L = []
  · have h0 := h
    obtain ⟨c, n, A, t, fl, root, work, hq, hL, hw⟩ := h
    have ht : t = .nil := by
      cases t with
      | nil => rfl
      | node a p b => rw [hL0] at hL; simp [Tr.ps] at hL
    subst ht
    refine (pop_none base qb g c n A fl root room work W hq).mono ?_
    rintro e' W' ⟨rfl, hb⟩
    exact ⟨ev0, 82, [], rfl, .inl ⟨hL0, rfl, rfl, rfl⟩, by rw [← hL0]; exact (h0.later hb).up (by omega), Ch.below hb⟩
  · refine (popS W h (by omega) hL0).mono ?_
    rintro e' W' ⟨x, L', rfl, hLL, hQ, hC⟩
    exact ⟨x, 0, L', rfl, .inr ⟨rfl, hLL⟩, hQ.up (by omega), hC⟩
theorem findS {base qb g : Nat} {room wb : Int} {L : List Ev} (kt ks kq : Int) (W : World) (h : QS base qb g room wb L W) (hwb : wb ≤ 4611686018427000000 - 16384) : Calls Try.prog 35 #[.pointer (some ⟨qb, 0, none⟩), .agg #[.int .u64 kt, .int .i64 ks, .int .u64 kq]] W fun e' W' => ∃ (x : Ev) (code : Int), e' = .returned (.tuple #[evV x, .int .i64 code]) ∧ (x ∈ L ∧ cmpE kt ks kq x = 0 ∧ code = 0 ∨ (¬ ∃ y ∈ L, cmpE kt ks kq y = 0) ∧ x = ev0 ∧ code = 83) ∧ QS base qb g room (wb + 16384) L W' ∧ Ch (S2 qb g) W W' := by
  obtain ⟨c, n, A, t, fl, root, work, hq, hL, hw⟩ := h
  have hsz := hq.n1.2.2
  have hk9 := openT_k _ (side_sdK kt ks kq A.E) t.size t (Nat.le_refl _)
  have hps := openT_ps (side_sdK kt ks kq A.E) t.size t (Nat.le_refl _) hq.neT
  obtain ⟨hs1, hs2, hs3⟩ := openT_side (s := sK kt ks kq A.E) (side_sdK kt ks kq A.E) (fun _ _ _ => rfl) t.size t (Nat.le_refl _) hq.neT (mono_sK _ _ _ _ hq.srt)
  by_cases hm : (openT (sdK kt ks kq A.E) t).m = 0
  · refine (find_no base qb g c n A t fl root room work kt ks kq W hq (by omega) hm).mono ?_
    rintro e' W' ⟨A', j, rj, k', rfl, hq', hk', hpj, hE, hC⟩
    refine ⟨ev0, 83, rfl, .inr ⟨?_, rfl, rfl⟩, ⟨c, n, A', j, fl, rj, _, hq', by rw [hL, hpj, hE], by omega⟩, hC⟩
    rintro ⟨y, hy, hc⟩
    rw [hL] at hy
    obtain ⟨p, hp, rfl⟩ := List.mem_map.1 hy
    rw [hm, mid0, List.append_nil] at hps
    rw [← hps] at hp
    rcases List.mem_append.1 hp with h2 | h2
    · have := sK_1.1 (hs1 p h2); omega
    · have := sK_0.1 (hs2 p h2); omega
  · refine (find_yes base qb g c n A t fl root room work kt ks kq W hq (by omega) hm).mono ?_
    rintro e' W' ⟨A', rfl, hq', hE, hC⟩
    rw [midn hm, List.append_assoc] at hps
    refine ⟨_, 0, rfl, .inl ⟨?_, sK_2.1 (hs3 hm), rfl⟩, ⟨c, n, A', _, fl, _, _, hq', ?_, by omega⟩, hC⟩
    · rw [hL]
      exact List.mem_map.2 ⟨_, by rw [← hps]; simp, rfl⟩
    · rw [hL, hE, ← hps]
      rfl
theorem removeS {base qb g : Nat} {room wb : Int} {L : List Ev} (kt ks kq : Int) (W : World) (h : QS base qb g room wb L W) (hwb : wb ≤ 4611686018427000000 - 16384) : Calls Try.prog 36 #[.pointer (some ⟨qb, 0, none⟩), .agg #[.int .u64 kt, .int .i64 ks, .int .u64 kq]] W fun e' W' => ∃ (x : Ev) (code : Int) (L' : List Ev), e' = .returned (.tuple #[evV x, .int .i64 code]) ∧ ((∃ L1 L2, L = L1 ++ x :: L2 ∧ L' = L1 ++ L2) ∧ cmpE kt ks kq x = 0 ∧ code = 0 ∨ (¬ ∃ y ∈ L, cmpE kt ks kq y = 0) ∧ L' = L ∧ x = ev0 ∧ code = 83) ∧ QS base qb g room (wb + 16384) L' W' ∧ Ch (S2 qb g) W W' := by
  obtain ⟨c, n, A, t, fl, root, work, hq, hL, hw⟩ := h
  have hsz := hq.n1.2.2
  have hk9 := openT_k _ (side_sdK kt ks kq A.E) t.size t (Nat.le_refl _)
  have hps := openT_ps (side_sdK kt ks kq A.E) t.size t (Nat.le_refl _) hq.neT
  obtain ⟨hs1, hs2, hs3⟩ := openT_side (s := sK kt ks kq A.E) (side_sdK kt ks kq A.E) (fun _ _ _ => rfl) t.size t (Nat.le_refl _) hq.neT (mono_sK _ _ _ _ hq.srt)
  by_cases hm : (openT (sdK kt ks kq A.E) t).m = 0
  · refine (remove_no base qb g c n A t fl root room work kt ks kq W hq (by omega) hm).mono ?_
    rintro e' W' ⟨A', j, rj, k', rfl, hq', hk', hpj, hE, hC⟩
    refine ⟨ev0, 83, L, rfl, .inr ⟨?_, rfl, rfl, rfl⟩, ⟨c, n, A', j, fl, rj, _, hq', by rw [hL, hpj, hE], by omega⟩, hC⟩
    rintro ⟨y, hy, hc⟩
    rw [hL] at hy
    obtain ⟨p, hp, rfl⟩ := List.mem_map.1 hy
    rw [hm, mid0, List.append_nil] at hps
    rw [← hps] at hp
    rcases List.mem_append.1 hp with h2 | h2
    · have := sK_1.1 (hs1 p h2); omega
    · have := sK_0.1 (hs2 p h2); omega
  · refine (remove_yes base qb g c n A t fl root room work kt ks kq W hq (by omega) hm).mono ?_
    rintro e' W' ⟨A', j, fl', rj, k', rfl, hq', hk', hpj, hE, hC⟩
    rw [midn hm, List.append_assoc] at hps
    refine ⟨_, 0, (openT (sdK kt ks kq A.E) t).a.ps.map A.E ++ (openT (sdK kt ks kq A.E) t).b.ps.map A.E, rfl, .inl ⟨⟨(openT (sdK kt ks kq A.E) t).a.ps.map A.E, (openT (sdK kt ks kq A.E) t).b.ps.map A.E, ?_, rfl⟩, sK_2.1 (hs3 hm), rfl⟩, ⟨c, n, A', j, fl', rj, _, hq', ?_, by omega⟩, hC⟩
    · rw [hL, ← hps]
      simp
    · rw [hE, hpj, List.map_append]
end Go.Proofs.Ytlklolmhaiaaiaa
