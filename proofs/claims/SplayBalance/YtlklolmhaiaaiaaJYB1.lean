import Derived.Test.YtlklolmhaiaaiaaJYWay
import Derived.Test.YtlklolmhaiaaiaaJY39
namespace Go.Proofs.Ytlklolmhaiaaiaa
open Go.ChangeShapes Go.WideShapes Go.ChangeAt Go.RowKit
set_option linter.unusedVariables false
set_option linter.unusedSimpArgs false

/-- the queue as a sorted list, with a relation of its events, its tree and its work -/
def QSR (R : (Nat → Ev) → Tr → Int → Prop) (base qb g : Nat) (room wb : Int) (L : List Ev) (W : World) : Prop := ∃ (c n : Nat) (A : Ar) (t : Tr) (fl : List Nat) (root : Nat) (work : Int), QI W base qb g c n A t fl root room work ∧ L = t.ps.map A.E ∧ work ≤ wb ∧ R A.E t work
theorem QSR.qs {R : (Nat → Ev) → Tr → Int → Prop} {base qb g : Nat} {room wb : Int} {L : List Ev} {W : World} (h : QSR R base qb g room wb L W) : QS base qb g room wb L W := by
  obtain ⟨c, n, A, t, fl, root, work, hq, hL, hw, hr⟩ := h
  exact ⟨c, n, A, t, fl, root, work, hq, hL, hw⟩
theorem QSR.lt {R : (Nat → Ev) → Tr → Int → Prop} {base qb g : Nat} {room wb : Int} {L : List Ev} {W : World} (h : QSR R base qb g room wb L W) : (qb < W.heap.size ∧ base ≤ qb) ∧ g < W.heap.size ∧ base ≤ g := h.qs.lt
theorem QSR.len {R : (Nat → Ev) → Tr → Int → Prop} {base qb g : Nat} {room wb : Int} {L : List Ev} {W : World} (h : QSR R base qb g room wb L W) : (L.length : Int) ≤ room ∧ room ≤ 8192 := h.qs.len
theorem QSR.srt {R : (Nat → Ev) → Tr → Int → Prop} {base qb g : Nat} {room wb : Int} {L : List Ev} {W : World} (h : QSR R base qb g room wb L W) : L.Pairwise keyLt := h.qs.srt
theorem QSR.later {R : (Nat → Ev) → Tr → Int → Prop} {base qb g : Nat} {room wb : Int} {L : List Ev} {W W' : World} (h : QSR R base qb g room wb L W) (hb : Below W.heap.size W W') : QSR R base qb g room wb L W' := by
  obtain ⟨c, n, A, t, fl, root, work, hq, hL, hw, hr⟩ := h
  exact ⟨c, n, A, t, fl, root, work, ⟨hq.q.later hb, hq.ti, hq.fr, hq.nd, hq.inr, hq.cnt, hq.z, hq.nr, hq.rm, hq.srt, hq.wk⟩, hL, hw, hr⟩
theorem QSR.up {R : (Nat → Ev) → Tr → Int → Prop} {base qb g : Nat} {room wb wb' : Int} {L : List Ev} {W : World} (h : QSR R base qb g room wb L W) (hw : wb ≤ wb') : QSR R base qb g room wb' L W := by
  obtain ⟨c, n, A, t, fl, root, work, hq, hL, hw9, hr⟩ := h
  exact ⟨c, n, A, t, fl, root, work, hq, hL, by omega, hr⟩
theorem QSR.turn {R R' : (Nat → Ev) → Tr → Int → Prop} {base qb g : Nat} {room wb wb' : Int} {L : List Ev} {W : World} (h : QSR R base qb g room wb L W) (hR : ∀ E t w, R E t w → R' E t w) (hw : wb ≤ wb') : QSR R' base qb g room wb' L W := by
  obtain ⟨c, n, A, t, fl, root, work, hq, hL, hw9, hr⟩ := h
  exact ⟨c, n, A, t, fl, root, work, hq, hL, by omega, hR _ _ _ hr⟩
/-- what a call makes of the relation -/
structure OpC (R0 : (Nat → Ev) → Tr → Int → Prop) (R1 : Tr → Int → Prop) (o : OpV) (room : Int) : Prop where
  idle : o.kd ≠ 1 → o.kd ≠ 2 → o.kd ≠ 3 → o.kd ≠ 4 → o.kd ≠ 5 → o.kd ≠ 6 → ∀ E t w, R0 E t w → R1 t w
  none : (o.kd = 2 ∨ o.kd = 3) → ∀ E w, R0 E .nil w → R1 .nil w
  min : o.kd = 2 → ∀ E t w, R0 E t w → t ≠ .nil → (∀ x ∈ t.ps, x ≠ 0) → R1 (.node .nil (openT sdL t).m (openT sdL t).b) (w + (openT sdL t).k)
  pop : o.kd = 3 → ∀ E t w, R0 E t w → t ≠ .nil → R1 (openT sdL t).b (w + (openT sdL t).k)
  findN : o.kd = 4 → ∀ E t w, R0 E t w → (openT (sdK o.t o.s o.q E) t).m = 0 → R1 (joinT (openT (sdK o.t o.s o.q E) t).a (openT (sdK o.t o.s o.q E) t).b) (w + (openT (sdK o.t o.s o.q E) t).k + joinK (openT (sdK o.t o.s o.q E) t).a (openT (sdK o.t o.s o.q E) t).b)
  findY : o.kd = 4 → ∀ E t w, R0 E t w → (openT (sdK o.t o.s o.q E) t).m ≠ 0 → R1 (.node (openT (sdK o.t o.s o.q E) t).a (openT (sdK o.t o.s o.q E) t).m (openT (sdK o.t o.s o.q E) t).b) (w + (openT (sdK o.t o.s o.q E) t).k)
  rem : o.kd = 5 → ∀ E t w, R0 E t w → R1 (joinT (openT (sdK o.t o.s o.q E) t).a (openT (sdK o.t o.s o.q E) t).b) (w + (openT (sdK o.t o.s o.q E) t).k + joinK (openT (sdK o.t o.s o.q E) t).a (openT (sdK o.t o.s o.q E) t).b)
  insF : o.kd = 1 → ∀ E t w, R0 E t w → (t.size : Int) = room → R1 t w
  ins : o.kd = 1 → ∀ E t w p, R0 E t w → (t.size : Int) ≠ room → R1 (.node (openT (sdK o.t o.s o.q E) t).a p (openT (sdK o.t o.s o.q E) t).b) (w + (openT (sdK o.t o.s o.q E) t).k)
  split : o.kd = 6 → ∀ E t w, R0 E t w → R1 (openT (sdT o.t E) t).a (w + (openT (sdT o.t E) t).k)
def rOf (R1 : Tr → Int → Prop) : (Nat → Ev) → Tr → Int → Prop := fun _ t w => R1 t w
theorem minA {R0 : (Nat → Ev) → Tr → Int → Prop} {R1 : Tr → Int → Prop} {o : OpV} {room : Int} (hc : OpC R0 R1 o room) (hkd : o.kd = 2) {base qb g : Nat} {wb : Int} {L : List Ev} (W : World) (h : QSR R0 base qb g room wb L W) (hwb : wb ≤ 4611686018427000000) : Calls Try.prog 32 #[.pointer (some ⟨qb, 0, none⟩)] W fun e' W' => ∃ (x : Ev) (code : Int), e' = .returned (.tuple #[evV x, .int .i64 code]) ∧ (L = [] ∧ x = ev0 ∧ code = 82 ∨ code = 0 ∧ ∃ L', L = x :: L') ∧ QSR (rOf R1) base qb g room (wb + 16384) L W' ∧ Ch (S2 qb g) W W' := by
  have h0 := h
  obtain ⟨c, n, A, t, fl, root, work, hq, hL, hw, hr⟩ := h
  have hsz := hq.n1.2.2
  have hk9 := openT_k _ side_sdL t.size t (Nat.le_refl _)
  by_cases ht : t = .nil
  · subst ht
    refine (min_none base qb g c n A fl root room work W hq).mono ?_
    rintro e' W' ⟨rfl, hb⟩
    exact ⟨ev0, 82, rfl, .inl ⟨hL, rfl, rfl⟩, ⟨c, n, A, .nil, fl, root, work, ⟨hq.q.later hb, hq.ti, hq.fr, hq.nd, hq.inr, hq.cnt, hq.z, hq.nr, hq.rm, hq.srt, hq.wk⟩, hL, by omega, hc.none (.inl hkd) _ _ hr⟩, Ch.below hb⟩
  · refine (min_any base qb g c n A t fl root room work W hq ht (by omega)).mono ?_
    rintro e' W' ⟨A', rfl, hq', hps, hE, hC⟩
    refine ⟨_, 0, rfl, .inr ⟨rfl, (openT sdL t).b.ps.map A.E, by rw [hL, hps]; rfl⟩, ⟨c, n, A', _, fl, _, _, hq', ?_, by omega, hc.min hkd _ _ _ hr ht hq.neT⟩, hC⟩
    rw [hL, hps, hE]
    rfl
theorem popA {R0 : (Nat → Ev) → Tr → Int → Prop} {R1 : Tr → Int → Prop} {o : OpV} {room : Int} (hc : OpC R0 R1 o room) (hkd : o.kd = 3) {base qb g : Nat} {wb : Int} {L : List Ev} (W : World) (h : QSR R0 base qb g room wb L W) (hwb : wb ≤ 4611686018427000000) : Calls Try.prog 34 #[.pointer (some ⟨qb, 0, none⟩)] W fun e' W' => ∃ (x : Ev) (code : Int) (L' : List Ev), e' = .returned (.tuple #[evV x, .int .i64 code]) ∧ (L = [] ∧ L' = [] ∧ x = ev0 ∧ code = 82 ∨ code = 0 ∧ L = x :: L') ∧ QSR (rOf R1) base qb g room (wb + 16384) L' W' ∧ Ch (S2 qb g) W W' := by
  have h0 := h
  obtain ⟨c, n, A, t, fl, root, work, hq, hL, hw, hr⟩ := h
  have hsz := hq.n1.2.2
  have hk9 := openT_k _ side_sdL t.size t (Nat.le_refl _)
  by_cases ht : t = .nil
  · subst ht
    refine (pop_none base qb g c n A fl root room work W hq).mono ?_
    rintro e' W' ⟨rfl, hb⟩
    exact ⟨ev0, 82, [], rfl, .inl ⟨hL, rfl, rfl, rfl⟩, ⟨c, n, A, .nil, fl, root, work, ⟨hq.q.later hb, hq.ti, hq.fr, hq.nd, hq.inr, hq.cnt, hq.z, hq.nr, hq.rm, hq.srt, hq.wk⟩, rfl, by omega, hc.none (.inr hkd) _ _ hr⟩, Ch.below hb⟩
  · refine (pop_anyX base qb g c n A t fl root room work W hq ht (by omega)).mono ?_
    rintro e' W' ⟨A', fl', root', rfl, hq', hps, hE, hC⟩
    exact ⟨A.E (openT sdL t).m, 0, (openT sdL t).b.ps.map A.E, rfl, .inr ⟨rfl, by rw [hL, hps]; rfl⟩, ⟨c, n, A', _, fl', root', _, hq', hE.symm, by omega, hc.pop hkd _ _ _ hr ht⟩, hC⟩
theorem findA {R0 : (Nat → Ev) → Tr → Int → Prop} {R1 : Tr → Int → Prop} {o : OpV} {room : Int} (hc : OpC R0 R1 o room) (hkd : o.kd = 4) {base qb g : Nat} {wb : Int} {L : List Ev} (W : World) (h : QSR R0 base qb g room wb L W) (hwb : wb ≤ 4611686018427000000 - 16384) : Calls Try.prog 35 #[.pointer (some ⟨qb, 0, none⟩), .agg #[.int .u64 o.t, .int .i64 o.s, .int .u64 o.q]] W fun e' W' => ∃ (x : Ev) (code : Int), e' = .returned (.tuple #[evV x, .int .i64 code]) ∧ (x ∈ L ∧ cmpE o.t o.s o.q x = 0 ∧ code = 0 ∨ (¬ ∃ y ∈ L, cmpE o.t o.s o.q y = 0) ∧ x = ev0 ∧ code = 83) ∧ QSR (rOf R1) base qb g room (wb + 16384) L W' ∧ Ch (S2 qb g) W W' := by
  obtain ⟨c, n, A, t, fl, root, work, hq, hL, hw, hr⟩ := h
  have hsz := hq.n1.2.2
  have hk9 := openT_k _ (side_sdK o.t o.s o.q A.E) t.size t (Nat.le_refl _)
  have hps := openT_ps (side_sdK o.t o.s o.q A.E) t.size t (Nat.le_refl _) hq.neT
  obtain ⟨hs1, hs2, hs3⟩ := openT_side (s := sK o.t o.s o.q A.E) (side_sdK o.t o.s o.q A.E) (fun _ _ _ => rfl) t.size t (Nat.le_refl _) hq.neT (mono_sK _ _ _ _ hq.srt)
  by_cases hm : (openT (sdK o.t o.s o.q A.E) t).m = 0
  · refine (find_noX base qb g c n A t fl root room work o.t o.s o.q W hq (by omega) hm).mono ?_
    rintro e' W' ⟨A', j, rj, k', rfl, hq', hk', hpj, hE, hC, rfl, rfl⟩
    refine ⟨ev0, 83, rfl, .inr ⟨?_, rfl, rfl⟩, ⟨c, n, A', _, fl, rj, _, hq', by rw [hL, hpj, hE], by omega, hc.findN hkd _ _ _ hr hm⟩, hC⟩
    rintro ⟨y, hy, hcy⟩
    rw [hL] at hy
    obtain ⟨p, hp, rfl⟩ := List.mem_map.1 hy
    rw [hm, mid0, List.append_nil] at hps
    rw [← hps] at hp
    rcases List.mem_append.1 hp with h2 | h2
    · have := sK_1.1 (hs1 p h2); omega
    · have := sK_0.1 (hs2 p h2); omega
  · refine (find_yes base qb g c n A t fl root room work o.t o.s o.q W hq (by omega) hm).mono ?_
    rintro e' W' ⟨A', rfl, hq', hE, hC⟩
    rw [midn hm, List.append_assoc] at hps
    refine ⟨_, 0, rfl, .inl ⟨?_, sK_2.1 (hs3 hm), rfl⟩, ⟨c, n, A', _, fl, _, _, hq', ?_, by omega, hc.findY hkd _ _ _ hr hm⟩, hC⟩
    · rw [hL]
      exact List.mem_map.2 ⟨_, by rw [← hps]; simp, rfl⟩
    · rw [hL, hE, ← hps]
      rfl
theorem removeA {R0 : (Nat → Ev) → Tr → Int → Prop} {R1 : Tr → Int → Prop} {o : OpV} {room : Int} (hc : OpC R0 R1 o room) (hkd : o.kd = 5) {base qb g : Nat} {wb : Int} {L : List Ev} (W : World) (h : QSR R0 base qb g room wb L W) (hwb : wb ≤ 4611686018427000000 - 16384) : Calls Try.prog 36 #[.pointer (some ⟨qb, 0, none⟩), .agg #[.int .u64 o.t, .int .i64 o.s, .int .u64 o.q]] W fun e' W' => ∃ (x : Ev) (code : Int) (L' : List Ev), e' = .returned (.tuple #[evV x, .int .i64 code]) ∧ ((∃ L1 L2, L = L1 ++ x :: L2 ∧ L' = L1 ++ L2) ∧ cmpE o.t o.s o.q x = 0 ∧ code = 0 ∨ (¬ ∃ y ∈ L, cmpE o.t o.s o.q y = 0) ∧ L' = L ∧ x = ev0 ∧ code = 83) ∧ QSR (rOf R1) base qb g room (wb + 16384) L' W' ∧ Ch (S2 qb g) W W' := by
  obtain ⟨c, n, A, t, fl, root, work, hq, hL, hw, hr⟩ := h
  have hsz := hq.n1.2.2
  have hk9 := openT_k _ (side_sdK o.t o.s o.q A.E) t.size t (Nat.le_refl _)
  have hps := openT_ps (side_sdK o.t o.s o.q A.E) t.size t (Nat.le_refl _) hq.neT
  obtain ⟨hs1, hs2, hs3⟩ := openT_side (s := sK o.t o.s o.q A.E) (side_sdK o.t o.s o.q A.E) (fun _ _ _ => rfl) t.size t (Nat.le_refl _) hq.neT (mono_sK _ _ _ _ hq.srt)
  by_cases hm : (openT (sdK o.t o.s o.q A.E) t).m = 0
  · refine (remove_noX base qb g c n A t fl root room work o.t o.s o.q W hq (by omega) hm).mono ?_
    rintro e' W' ⟨A', j, rj, k', rfl, hq', hk', hpj, hE, hC, rfl, rfl⟩
    refine ⟨ev0, 83, L, rfl, .inr ⟨?_, rfl, rfl, rfl⟩, ⟨c, n, A', _, fl, rj, _, hq', by rw [hL, hpj, hE], by omega, hc.rem hkd _ _ _ hr⟩, hC⟩
    rintro ⟨y, hy, hcy⟩
    rw [hL] at hy
    obtain ⟨p, hp, rfl⟩ := List.mem_map.1 hy
    rw [hm, mid0, List.append_nil] at hps
    rw [← hps] at hp
    rcases List.mem_append.1 hp with h2 | h2
    · have := sK_1.1 (hs1 p h2); omega
    · have := sK_0.1 (hs2 p h2); omega
  · refine (remove_yesX base qb g c n A t fl root room work o.t o.s o.q W hq (by omega) hm).mono ?_
    rintro e' W' ⟨A', j, fl', rj, k', rfl, hq', hk', hpj, hE, hC, rfl, rfl⟩
    rw [midn hm, List.append_assoc] at hps
    refine ⟨_, 0, (openT (sdK o.t o.s o.q A.E) t).a.ps.map A.E ++ (openT (sdK o.t o.s o.q A.E) t).b.ps.map A.E, rfl, .inl ⟨⟨(openT (sdK o.t o.s o.q A.E) t).a.ps.map A.E, (openT (sdK o.t o.s o.q A.E) t).b.ps.map A.E, ?_, rfl⟩, sK_2.1 (hs3 hm), rfl⟩, ⟨c, n, A', _, fl', rj, _, hq', ?_, by omega, hc.rem hkd _ _ _ hr⟩, hC⟩
    · rw [hL, ← hps]
      simp
    · rw [hE, hpj, List.map_append]
def InsA (R1 : Tr → Int → Prop) (base qb g : Nat) (room wb : Int) (L : List Ev) (e : Ev) (W : World) (code : Int) (W' : World) : Prop :=
  ∃ g', ((L.length : Int) = room ∧ code = 80 ∧ QSR (rOf R1) base qb g' room (wb + 8192) L W' ∨ (L.length : Int) ≠ room ∧ (∃ x ∈ L, cmpE e.t e.s e.q x = 0) ∧ code = 81 ∧ QSR (rOf R1) base qb g' room (wb + 8192) L W' ∨ (L.length : Int) ≠ room ∧ (¬ ∃ x ∈ L, cmpE e.t e.s e.q x = 0) ∧ code = 0 ∧ ∃ L', QSR (rOf R1) base qb g' room (wb + 8192) L' W' ∧ L'.length = L.length + 1 ∧ ∀ x, x ∈ L' ↔ x = e ∨ x ∈ L) ∧ (g' = g ∨ W.heap.size ≤ g') ∧ Ch (S2 qb g) W W'
theorem ins_A {R0 : (Nat → Ev) → Tr → Int → Prop} {R1 : Tr → Int → Prop} {o : OpV} {room : Int} (hc : OpC R0 R1 o room) (hkd : o.kd = 1) {base qb g : Nat} {wb : Int} {L : List Ev} (e : Ev) (W : World) (he : e.t = o.t ∧ e.s = o.s ∧ e.q = o.q) (h : QSR R0 base qb g room wb L W) (hwb : wb ≤ 4611686018427387904) : Calls Try.prog 29 #[.pointer (some ⟨qb, 0, none⟩), evV e] W fun e' W' => ∃ code, e' = .returned (.int .i64 code) ∧ InsA R1 base qb g room wb L e W code W' := by
  have h0 := h
  obtain ⟨c, n, A, t, fl, root, work, hq, hL, hw, hr⟩ := h
  have hins : (t.size : Int) ≠ room → ∀ p, R1 (.node (openT (sdK e.t e.s e.q A.E) t).a p (openT (sdK e.t e.s e.q A.E) t).b) (work + (openT (sdK e.t e.s e.q A.E) t).k) := fun h9 p => by rw [he.1, he.2.1, he.2.2]; exact hc.ins hkd _ _ _ p hr h9
  have el : L.length = t.size := by rw [hL, List.length_map, Tr.size_ps]
  have hsz := hq.n1.2.2
  have hk9 := openT_k _ (side_sdK e.t e.s e.q A.E) t.size t (Nat.le_refl _)
  by_cases hf : (t.size : Int) = room
  · refine (insert_full base qb g c n A t fl root room work e W hq hf).mono ?_
    rintro e' W' ⟨rfl, hb⟩
    exact ⟨80, rfl, g, .inl ⟨by rw [el]; exact hf, rfl, ⟨c, n, A, t, fl, root, work, ⟨hq.q.later hb, hq.ti, hq.fr, hq.nd, hq.inr, hq.cnt, hq.z, hq.nr, hq.rm, hq.srt, hq.wk⟩, hL, by omega, hc.insF hkd _ _ _ hr hf⟩⟩, .inl rfl, Ch.below hb⟩
  · have hps := openT_ps (side_sdK e.t e.s e.q A.E) t.size t (Nat.le_refl _) hq.neT
    obtain ⟨hs1, hs2, hs3⟩ := openT_side (s := sK e.t e.s e.q A.E) (side_sdK e.t e.s e.q A.E) (fun _ _ _ => rfl) t.size t (Nat.le_refl _) hq.neT (mono_sK _ _ _ _ hq.srt)
    by_cases hm : (openT (sdK e.t e.s e.q A.E) t).m = 0
    · rw [hm, mid0, List.append_nil] at hps
      have hno : ¬ ∃ x ∈ L, cmpE e.t e.s e.q x = 0 := by
        rintro ⟨x, hx, hcx⟩
        rw [hL] at hx
        obtain ⟨p, hp, rfl⟩ := List.mem_map.1 hx
        rw [← hps] at hp
        rcases List.mem_append.1 hp with h2 | h2
        · have := sK_1.1 (hs1 p h2); omega
        · have := sK_0.1 (hs2 p h2); omega
      have key : ∀ (e' : Ending) (W' : World), e' = .returned (.int .i64 0) ∧ (∃ (g' c' n' : Nat) (A' : Ar) (fl' : List Nat) (root' : Nat), QI W' base qb g' c' n' A' (.node (openT (sdK e.t e.s e.q A.E) t).a root' (openT (sdK e.t e.s e.q A.E) t).b) fl' root' room (work + (openT (sdK e.t e.s e.q A.E) t).k) ∧ (Tr.node (openT (sdK e.t e.s e.q A.E) t).a root' (openT (sdK e.t e.s e.q A.E) t).b).ps.map A'.E = (openT (sdK e.t e.s e.q A.E) t).a.ps.map A.E ++ e :: (openT (sdK e.t e.s e.q A.E) t).b.ps.map A.E ∧ Ch (S2 qb g) W W' ∧ (g' = g ∨ W.heap.size ≤ g') ∧ root' ≠ 0 ∧ A'.E root' = e ∧ ∀ q, q ≠ root' → A'.E q = A.E q) → ∃ code, e' = .returned (.int .i64 code) ∧ InsA R1 base qb g room wb L e W code W' := by
        rintro e' W' ⟨rfl, g', c', n', A', fl', root', hq', hL', hC, hg, hr1, hr2, _⟩
        refine ⟨0, rfl, g', .inr (.inr ⟨by rw [el]; exact hf, hno, rfl, (Tr.node (openT (sdK e.t e.s e.q A.E) t).a root' (openT (sdK e.t e.s e.q A.E) t).b).ps.map A'.E, ⟨c', n', A', _, fl', root', _, hq', rfl, by omega, hins hf root'⟩, ?_, ?_⟩), hg, hC⟩
        · rw [hL', hL, ← hps]
          simp
          omega
        · intro x
          rw [hL', hL, ← hps]
          simp only [List.mem_append, List.mem_cons, List.map_append]
          constructor
          · rintro (h2 | h2 | h2)
            · exact .inr (.inl h2)
            · exact .inl h2
            · exact .inr (.inr h2)
          · rintro (h2 | h2 | h2)
            · exact .inr (.inl h2)
            · exact .inl h2
            · exact .inr (.inr h2)
      cases fl with
      | nil => exact (insert_newX base qb g c n A t root room work e W hq hf (by omega) hm).mono fun e' W' h9 => key e' W' h9
      | cons p fl => exact (insert_freeX base qb g c n A t p fl root room work e W hq hf (by omega) hm).mono fun e' W' h9 => key e' W' h9
    · refine (insert_twinX base qb g c n A t fl root room work e W hq hf (by omega) hm).mono ?_
      rintro e' W' ⟨rfl, A', hq', hps', hE', hC⟩
      rw [midn hm] at hps
      refine ⟨81, rfl, g, .inr (.inl ⟨by rw [el]; exact hf, ⟨A.E (openT (sdK e.t e.s e.q A.E) t).m, ?_, sK_2.1 (hs3 hm)⟩, rfl, ⟨c, n, A', _, fl, _, _, hq', by rw [hps', hE', hL], by omega, hins hf _⟩⟩), .inl rfl, hC⟩
      rw [hL]
      exact List.mem_map.2 ⟨_, by rw [← hps]; simp, rfl⟩
theorem splitA {R0 : (Nat → Ev) → Tr → Int → Prop} {R1 : Tr → Int → Prop} {o : OpV} {room : Int} (hc : OpC R0 R1 o room) (hkd : o.kd = 6) {base qb g : Nat} {wb : Int} {L : List Ev} (W : World) (h : QSR R0 base qb g room wb L W) (hwb : wb ≤ 4611686018427387904) : Calls Try.prog 17 #[.pointer (some ⟨qb, 0, none⟩), .int .u64 o.t] W fun e' W' => ∃ b X L1 L2, e' = .returned (.slice (some ⟨b, 0, none⟩) L2.length L2.length) ∧ L = L1 ++ L2 ∧ EvsL W' b L2.length X ∧ (∀ i, i < L2.length → L2[i]? = some (X i)) ∧ W.heap.size ≤ b ∧ (∀ x ∈ L1, x.t < o.t) ∧ (∀ x ∈ L2, o.t ≤ x.t) ∧ QSR (rOf R1) base qb g room (wb + 8192) L1 W' ∧ Ch (S2 qb g) W W' := by
  obtain ⟨c, n, A, t, fl, root, work, hq, hLe, hw, hr⟩ := h
  have hsz := hq.n1.2.2
  have hk9 := openT_k _ (side_sdT o.t A.E) t.size t (Nat.le_refl _)
  obtain ⟨hm, hps, hta, htb⟩ := cutT hq o.t
  refine (split_any base qb g c n A t fl root room work o.t W hq (by omega)).mono ?_
  rintro e' W' ⟨b, A', fl', root', rfl, hO, hq', hE, hC⟩
  have hsp : ((openT (sdT o.t A.E) t).b.spots 0).map Prod.fst = (openT (sdT o.t A.E) t).b.ps := Tr.spots_ps _ 0
  have el : ((openT (sdT o.t A.E) t).b.ps.map A.E).length = (openT (sdT o.t A.E) t).b.size := by rw [List.length_map, Tr.size_ps]
  have hOl := Own.lt hO b rfl
  refine ⟨b, fun i => A.E (((openT (sdT o.t A.E) t).b.spots 0).getD i (0, 0)).1, (openT (sdT o.t A.E) t).a.ps.map A.E, (openT (sdT o.t A.E) t).b.ps.map A.E, by rw [el], by rw [hLe, hps, List.map_append], ⟨hOl.2, fun i r hi hr => ?_⟩, fun i hi => ?_, hOl.1, fun x hx => ?_, fun x hx => ?_, ⟨c, n, A', _, fl', root', _, hq', hE.symm, by omega, hc.split hkd _ _ _ hr⟩, hC⟩
  · rw [el] at hi
    rw [hO.cell (j := i * 6 + r) (by omega)]
    unfold evF
    rw [show (i * 6 + r) / 6 = i by omega, show (i * 6 + r) % 6 = r by omega]
  · rw [el] at hi
    have hi2 : i < ((openT (sdT o.t A.E) t).b.spots 0).length := by rw [spots_len]; omega
    show _ = some (A.E (((openT (sdT o.t A.E) t).b.spots 0).getD i (0, 0)).1)
    rw [← hsp, List.map_map, List.getElem?_map, List.getElem?_eq_getElem hi2, List.getD_eq_getElem?_getD, List.getElem?_eq_getElem hi2]
    rfl
  · obtain ⟨p, hp, rfl⟩ := List.mem_map.1 hx
    exact hta p hp
  · obtain ⟨p, hp, rfl⟩ := List.mem_map.1 hx
    exact htb p hp
theorem listB {R : (Nat → Ev) → Tr → Int → Prop} {base qb g : Nat} {room wb : Int} {L : List Ev} (W : World) (h : QSR R base qb g room wb L W) : Calls Try.prog 10 #[.pointer (some ⟨qb, 0, none⟩)] W fun e' W' => ∃ b X, e' = .returned (.slice (some ⟨b, 0, none⟩) L.length L.length) ∧ EvsL W' b L.length X ∧ (∀ i j, i < j → j < L.length → keyLt (X i) (X j)) ∧ (∀ i, i < L.length → L[i]? = some (X i)) ∧ W.heap.size ≤ b ∧ QSR R base qb g room wb L W' ∧ Ch (S2 qb g) W W' := by
  obtain ⟨c, n, A, t, fl, root, work, hq, hLe, hw, hr⟩ := h
  have hn1 := hq.n1
  have el : L.length = t.size := by rw [hLe, List.length_map, Tr.size_ps]
  refine (list_any base qb g c n A _ root _ room work t W hq.q hn1.2.1 hq.ti hq.ndT hq.inT hn1.2.2).mono ?_
  rintro e' W' ⟨b, rfl, hO, hQ, hC⟩
  have hsp : (t.spots 0).map Prod.fst = t.ps := Tr.spots_ps t 0
  have hX : ∀ i, i < L.length → L[i]? = some (A.E ((t.spots 0).getD i (0, 0)).1) := fun i hi => by
    have hi2 : i < (t.spots 0).length := by rw [spots_len]; omega
    rw [hLe, ← hsp, List.map_map, List.getElem?_map, List.getElem?_eq_getElem hi2, List.getD_eq_getElem?_getD, List.getElem?_eq_getElem hi2]
    rfl
  have hOl := Own.lt hO b rfl
  refine ⟨b, fun i => A.E ((t.spots 0).getD i (0, 0)).1, by rw [el], ⟨hOl.2, fun i r hi hr => ?_⟩, fun i j hij hj => ?_, hX, hOl.1, ⟨c, n, A, t, fl, root, work, ⟨hQ, hq.ti, hq.fr, hq.nd, hq.inr, hq.cnt, hq.z, hq.nr, hq.rm, hq.srt, hq.wk⟩, hLe, hw, hr⟩, hC⟩
  · rw [hO.cell (j := i * 6 + r) (by omega)]
    unfold evF
    rw [show (i * 6 + r) / 6 = i by omega, show (i * 6 + r) % 6 = r by omega]
  · have hs := hq.srt
    have hs2 : L.Pairwise keyLt := by rw [hLe]; exact List.pairwise_map.2 hs
    have h1 := hX i (by omega)
    have h2 := hX j hj
    rw [List.getElem?_eq_getElem (by omega)] at h1
    rw [List.getElem?_eq_getElem hj] at h2
    have h3 := List.pairwise_iff_getElem.1 hs2 i j (by omega) hj hij
    rw [Option.some.inj h1, Option.some.inj h2] at h3
    exact h3
def HResA (R1 : Tr → Int → Prop) (base qb g : Nat) (room wb : Int) (W : World) (r : Ending) (W' : World) : Prop := ∃ (p' : Option Addr) (c' g' : Nat) (L' : List Ev), r = .returned (.tuple #[.slice p' L'.length c', .bool true]) ∧ QSR (rOf R1) base qb g' room (wb + 16384) L' W' ∧ EL W' qb g' p' c' L' ∧ (g' = g ∨ W.heap.size ≤ g') ∧ Ch (S2 qb g) W W'
end Go.Proofs.Ytlklolmhaiaaiaa
