import Derived.Test.YtlklolmhaiaaiaaKYP2
import Derived.Test.YtlklolmhaiaaiaaKY28a
import Derived.Test.YtlklolmhaiaaiaaKG1
namespace Go.Proofs.Ytlklolmhaiaaiaa
open Go.ChangeShapes Go.WideShapes Go.ChangeAt Go.RowKit
set_option linter.unusedVariables false
set_option linter.unusedSimpArgs false

theorem evF_sh (E : Nat → Ev) (sn : List (Nat × Nat)) (n : Nat) : EvSh n (evF E sn) := fun i hi => by
  have hr : ∀ r, r < 6 → evF E sn (i * 6 + r) = evC (E (sn.getD i (0, 0)).1) r := fun r hr => by
    unfold evF
    rw [show (i * 6 + r) / 6 = i by omega, show (i * 6 + r) % 6 = r by omega]
  exact ⟨_, _, _, _, _, _, by have := hr 0 (by omega); rw [Nat.add_zero] at this; rw [this]; rfl, by rw [hr 1 (by omega)]; rfl, by rw [hr 2 (by omega)]; rfl, by rw [hr 3 (by omega)]; rfl, by rw [hr 4 (by omega)]; rfl, by rw [hr 5 (by omega)]; rfl⟩
theorem own_xat {W : World} {base n c : Nat} {p : Option Addr} {F : Nat → Value} (h : Own W base 64 6 (.slice p n c) n F) : XAt W p n F := by
  rcases h.form with ⟨_, h2⟩ | ⟨g9, c9, h1, h2, h3⟩
  · exact .inl h2
  · injection h1 with h1 h4 h5
    subst h1 h5
    exact .inr ⟨g9, 0, rfl, h3, fun j hj => by rw [Nat.zero_add]; exact h.cell hj⟩
/-- what an answer of a list is beside the document's -/
def LPair (fp fr : Nat) (args : List Value) (base qb g qr : Nat) (room wb : Int) (W : World) : Prop := Calls Try.prog fp (#[.pointer (some ⟨qb, 0, none⟩)] ++ args.toArray) W fun e W1 => ∃ (b n : Nat) (F : Nat → Value), e = .returned (.slice (some ⟨b, 0, none⟩) n n) ∧ n ≤ 8192 ∧ EvSh n F ∧ Ch (S2 qb g) W W1 ∧ ∀ W2, KE W1 W2 → W2.heap[b]? = W1.heap[b]? → Calls Try.prog fr (#[.pointer (some ⟨qr, 0, none⟩)] ++ args.toArray) W2 fun e2 W3 => ∃ p2 c2, e2 = .returned (.slice p2 n c2) ∧ XAt W3 (some ⟨b, 0, none⟩) n F ∧ XAt W3 p2 n F ∧ PR W3 base qb g qr room (wb + 16384) ∧ Ch (S1 qr) W2 W3
theorem XAt.keepB {W W' : World} {b n : Nat} {F : Nat → Value} (h : XAt W (some ⟨b, 0, none⟩) n F) (hs : W.heap.size ≤ W'.heap.size) (hb : W'.heap[b]? = W.heap[b]?) : XAt W' (some ⟨b, 0, none⟩) n F := by
  rcases h with h | ⟨b', o, e, hl, hc⟩
  · exact .inl h
  · cases e
    exact .inr ⟨b, 0, rfl, Nat.lt_of_lt_of_le hl hs, fun j hj => (World.cell?_of_block hb).trans (hc j hj)⟩
theorem list_pair {base qb g qr : Nat} {room wb : Int} (W : World) (h : PR W base qb g qr room wb) : LPair 10 19 [] base qb g qr room wb W := by
  obtain ⟨c, n, A, t, fl, root, work, h1, h2, h3⟩ := h
  refine (list_any base qb g c n A _ root _ _ _ t W h1.q h1.n1.2.1 h1.ti h1.ndT h1.inT h1.n1.2.2).mono ?_
  rintro e W1 ⟨b, rfl, ho, hq, hC⟩
  have hx := own_xat ho
  have hr1 := h2.ch h1.q hC
  have hQ1 : QI W1 base qb g c n A t fl root room work := ⟨hq, h1.ti, h1.fr, h1.nd, h1.inr, h1.cnt, h1.z, h1.nr, h1.rm, h1.srt, h1.wk⟩
  refine ⟨b, t.size, evF A.E (t.spots 0), rfl, h1.n1.2.2, evF_sh _ _ _, hC, fun W2 hk hbb => ?_⟩
  have hx2 := hx.keepB hk.size hbb
  refine (rlist_any W2 (hr1.ke hk) h1.n1.2.2).mono ?_
  rintro e2 W3 ⟨v, rfl, ho3, hb3⟩
  obtain ⟨gw, cw, hv, _⟩ := own_slice8 ho3
  subst hv
  exact ⟨_, _, rfl, hx2.below hb3, own_xat ho3, ⟨c, n, A, t, fl, root, work, (hQ1.ke hk).ke (KE.below hb3), (hr1.ke hk).later hb3, by omega⟩, Ch.below hb3⟩
theorem split_pair {base qb g qr : Nat} {room wb : Int} (u : Int) (W : World) (h : PR W base qb g qr room wb) (hwb : wb ≤ 4611686018427000000 - 16384) : LPair 17 18 [.int .u64 u] base qb g qr room wb W := by
  obtain ⟨c, n, A, t, fl, root, work, h1, h2, h3⟩ := h
  have hwk := h1.wk
  have hk9 : (openT (sdT u A.E) t).k ≤ 8192 := by have := openT_k _ (side_sdT u A.E) t.size t (Nat.le_refl _); have := h1.n1; omega
  have hsz := open_sizes (side_sdT u A.E) t.size t (Nat.le_refl _)
  have hn1 := h1.n1
  refine (split_any base qb g c n A t fl root room work u W h1 (by omega)).mono ?_
  rintro e W1 ⟨b, A', fl', root', rfl, ho, hq, hE, hC⟩
  have hx := own_xat ho
  have hr1 := h2.ch h1.q hC
  refine ⟨b, (openT (sdT u A.E) t).b.size, evF A.E ((openT (sdT u A.E) t).b.spots 0), rfl, by omega, evF_sh _ _ _, hC, fun W2 hk hbb => ?_⟩
  have hx2 := hx.keepB hk.size hbb
  refine (rsplit_any u W2 (hr1.ke hk) h1.n1.2.2 h1.neT ⟨hwk, by omega⟩).mono ?_
  rintro e2 W3 ⟨v, rfl, ho3, hr3, hC3⟩
  obtain ⟨gw, cw, hv, _⟩ := own_slice8 ho3
  subst hv
  have hbq : b ≠ qr ∨ (openT (sdT u A.E) t).b.size = 0 := by
    rcases ho.form with ⟨h9, _⟩ | ⟨g9, c9, h9, h8, _⟩
    · cases h9
    · injection h9 with h9
      injection h9 with h9
      injection h9 with h9
      have := h2.lt
      exact .inl (by omega)
  have hx3 : XAt W3 (some ⟨b, 0, none⟩) (openT (sdT u A.E) t).b.size (evF A.E ((openT (sdT u A.E) t).b.spots 0)) := by
    rcases hbq with h9 | h9
    · rcases hx2 with h8 | ⟨b', o, e9, hl, hc⟩
      · exact .inl h8
      · cases e9
        exact .inr ⟨b, 0, rfl, Nat.lt_of_lt_of_le hl hC3.size, fun j hj => (World.cell?_of_block (hC3.block b hl h9)).trans (hc j hj)⟩
    · exact .inl h9
  exact ⟨_, _, rfl, hx3, own_xat ho3, ⟨c, n, A', _, fl', root', _, (hq.ke hk).ch1 (hr1.ke hk) hC3, hr3.ps hE, by omega⟩, hC3⟩
theorem own_kat {W : World} {base n c : Nat} {p : Option Addr} {sn : List (Nat × Nat)} (h : Own W base 3 1 (.slice p n c) n (dpF sn)) : KAt W p n (fun i => ((sn.getD i (0, 0)).2 : Int)) := by
  rcases h.form with ⟨_, h2⟩ | ⟨g9, c9, h1, h2, h3⟩
  · exact .inl h2
  · injection h1 with h1 h4 h5
    subst h1 h5
    exact .inr ⟨g9, 0, rfl, h3, fun j hj => by rw [Nat.zero_add]; exact h.cell (by omega)⟩
theorem depths_pair {base qb g qr : Nat} {room wb : Int} (W : World) (h : PR W base qb g qr room wb) : Calls Try.prog 7 #[.pointer (some ⟨qb, 0, none⟩)] W fun e W1 => ∃ (p : Option Addr) (n c : Nat) (K : Nat → Int), e = .returned (.slice p n c) ∧ n ≤ 8192 ∧ Ch (S2 qb g) W W1 ∧ Calls Try.prog 21 #[.pointer (some ⟨qr, 0, none⟩)] W1 fun e2 W3 => ∃ p2 c2, e2 = .returned (.slice p2 n c2) ∧ KAt W3 p n K ∧ KAt W3 p2 n K ∧ PR W3 base qb g qr room (wb + 16384) ∧ Ch (S1 qr) W1 W3 := by
  obtain ⟨c, n, A, t, fl, root, work, h1, h2, h3⟩ := h
  refine (depths_any base qb g c n A _ root _ _ _ t W h1.q h1.n1.2.1 h1.ti h1.ndT h1.inT h1.n1.2.2).mono ?_
  rintro e W1 ⟨gw, cw, rfl, ho, hq, hC⟩
  have hx := own_kat ho
  have hr1 := h2.ch h1.q hC
  have hQ1 : QI W1 base qb g c n A t fl root room work := ⟨hq, h1.ti, h1.fr, h1.nd, h1.inr, h1.cnt, h1.z, h1.nr, h1.rm, h1.srt, h1.wk⟩
  refine ⟨gw, t.size, cw, fun i => (((t.spots 0).getD i (0, 0)).2 : Int), rfl, h1.n1.2.2, hC, (rdepths_any W1 hr1 h1.n1.2.2).mono ?_⟩
  rintro e2 W3 ⟨v, rfl, ho3, hb3⟩
  obtain ⟨gv, cv, hv, _⟩ := own_slice8 ho3
  subst hv
  exact ⟨_, _, rfl, hx.below hb3, own_kat ho3, ⟨c, n, A, t, fl, root, work, hQ1.ke (KE.below hb3), hr1.later hb3, by omega⟩, Ch.below hb3⟩
def IPair (e : Ev) (base qb g qr : Nat) (room wb : Int) (W : World) : Prop := Calls Try.prog 29 #[.pointer (some ⟨qb, 0, none⟩), evV e] W fun r W1 => ∃ (code : Int) (g' : Nat), r = .returned (.int .i64 code) ∧ (g' = g ∨ W.heap.size ≤ g') ∧ Ch (S2 qb g) W W1 ∧ ∀ W2, KE W1 W2 → Calls Try.prog 42 #[.pointer (some ⟨qr, 0, none⟩), evV e] W2 fun r2 W3 => r2 = .returned (.int .i64 code) ∧ PR W3 base qb g' qr room (wb + 16384) ∧ Ch (S1 qr) W2 W3
theorem ins_pair {base qb g qr : Nat} {room wb : Int} (e : Ev) (W : World) (h : PR W base qb g qr room wb) (hwb : wb ≤ 4611686018427000000 - 16384) : IPair e base qb g qr room wb W := by
  obtain ⟨c, n, A, t, fl, root, work, h1, h2, h3⟩ := h
  have hwk := h1.wk
  have hk9 : (openT (sdK e.t e.s e.q A.E) t).k ≤ 8192 := by have := openT_k _ (side_sdK e.t e.s e.q A.E) t.size t (Nat.le_refl _); have := h1.n1; omega
  by_cases hf : (t.size : Int) = room
  · refine (insert_full base qb g c n A t fl root room work e W h1 hf).mono ?_
    rintro r W1 ⟨rfl, hb⟩
    refine ⟨80, g, rfl, .inl rfl, Ch.below hb, fun W2 hk => (rins_full qr A.E t room work e W2 ((h2.later hb).ke hk) h1.n1.2.2 h1.neT ⟨hwk, by omega⟩ hf).mono ?_⟩
    rintro r2 W3 ⟨rfl, hr, hC⟩
    exact ⟨rfl, ⟨c, n, A, t, fl, root, work, ((h1.ke (KE.below hb)).ke hk).ch1 ((h2.later hb).ke hk) hC, hr, by omega⟩, hC⟩
  · by_cases hm : (openT (sdK e.t e.s e.q A.E) t).m = 0
    · have fin : ∀ (W1 : World) (g' c' n' : Nat) (A' : Ar) (fl' : List Nat) (p' : Nat), QI W1 base qb g' c' n' A' (.node (openT (sdK e.t e.s e.q A.E) t).a p' (openT (sdK e.t e.s e.q A.E) t).b) fl' p' room (work + (openT (sdK e.t e.s e.q A.E) t).k) → Ch (S2 qb g) W W1 → A'.E p' = e → (∀ q, q ≠ p' → A'.E q = A.E q) → ∀ W2, KE W1 W2 → Calls Try.prog 42 #[.pointer (some ⟨qr, 0, none⟩), evV e] W2 fun r2 W3 => r2 = .returned (.int .i64 0) ∧ PR W3 base qb g' qr room (wb + 16384) ∧ Ch (S1 qr) W2 W3 := by
        intro W1 g' c' n' A' fl' p' hq hC1 hEp hEo W2 hk
        have hr1 := h2.ch h1.q hC1
        have hpt : ∀ q ∈ t.ps, A'.E q = A.E q := fun q hq9 => hEo q fun e9 => by
          subst e9
          have hnd := hq.ndT
          have hps := openT_ps (side_sdK e.t e.s e.q A.E) t.size t (Nat.le_refl _) h1.neT
          rw [hm, mid0, List.append_nil] at hps
          simp only [Tr.ps] at hnd
          rw [← hps] at hq9
          rw [List.nodup_append, List.nodup_cons] at hnd
          rcases List.mem_append.1 hq9 with h9 | h9
          · exact hnd.2.2 q h9 q (by simp) rfl
          · exact hnd.2.1.1 h9
        refine (rins_new qr A.E t room work e W2 (hr1.ke hk) h1.n1.2.2 h1.neT ⟨hwk, by omega⟩ hf hm p' A'.E hEp hpt).mono ?_
        rintro r2 W3 ⟨rfl, hr, hC⟩
        exact ⟨rfl, ⟨c', n', A', _, fl', p', _, (hq.ke hk).ch1 (hr1.ke hk) hC, hr, by omega⟩, hC⟩
      cases fl with
      | nil =>
        refine (insert_newX base qb g c n A t root room work e W h1 hf (by omega) hm).mono ?_
        rintro r W1 ⟨rfl, g', c', n', A', fl', p', hq, _, hC1, hg, _, hEp, hEo⟩
        exact ⟨0, g', rfl, hg, hC1, fin W1 g' c' n' A' fl' p' hq hC1 hEp hEo⟩
      | cons f0 fl =>
        refine (insert_freeX base qb g c n A t f0 fl root room work e W h1 hf (by omega) hm).mono ?_
        rintro r W1 ⟨rfl, g', c', n', A', fl', p', hq, _, hC1, hg, _, hEp, hEo⟩
        exact ⟨0, g', rfl, hg, hC1, fin W1 g' c' n' A' fl' p' hq hC1 hEp hEo⟩
    · refine (insert_twinX base qb g c n A t fl root room work e W h1 hf (by omega) hm).mono ?_
      rintro r W1 ⟨rfl, A', hq, _, hE, hC1⟩
      have hr1 := h2.ch h1.q hC1
      refine ⟨81, g, rfl, .inl rfl, hC1, fun W2 hk => (rins_twin qr A.E t room work e W2 (hr1.ke hk) h1.n1.2.2 h1.neT ⟨hwk, by omega⟩ hf hm).mono ?_⟩
      rintro r2 W3 ⟨rfl, hr, hC⟩
      exact ⟨rfl, ⟨c, n, A', _, fl, _, _, (hq.ke hk).ch1 (hr1.ke hk) hC, by rw [hE]; exact hr, by omega⟩, hC⟩
end Go.Proofs.Ytlklolmhaiaaiaa
namespace Go.Proofs.Ytlklolmhaiaaiaa
open Go.ChangeShapes Go.WideShapes Go.ChangeAt Go.RowKit
set_option linter.unusedVariables false
set_option linter.unusedSimpArgs false

theorem TRes.up {base qb g qr : Nat} {room wb : Int} {W W1 W' : World} {r : Ending} (hb : Below W.heap.size W W1) (h : TRes base qb g qr room wb W1 r W') : TRes base qb g qr room wb W r W' := by
  obtain ⟨h1, g', h2, h3, h4⟩ := h
  have hs := hb.size
  exact ⟨h1, g', h2, by rcases h3 with e | e; exact .inl e; exact .inr (by omega), (Ch.below hb).trans h4⟩
set_option maxRecDepth 100000 in
set_option maxHeartbeats 16000000 in
theorem step_other {base qb g qr : Nat} {room wb : Int} (o : OpV) (W : World) (h : PR W base qb g qr room wb) (hwb : wb ≤ 4611686018427000000 - 16384) (hk : ∀ j ∈ [1, 2, 3, 4, 5, 6, 7, 8, 9, 10, 11], o.kd ≠ (j : Int)) :
    Calls Try.prog 16 #[.pointer (some ⟨qb, 0, none⟩), .pointer (some ⟨qr, 0, none⟩), .agg (opA o)] W fun r W' => TRes base qb g qr room wb W r W' := by
  unfold opA
  obtain ⟨W1, hW1⟩ : ∃ W1, W.alloc (.cells #[.int .i64 o.kd, .int .i64 o.wh, .int .u64 o.t, .int .i64 o.s, .int .u64 o.q, .int .i64 o.d, .int .i64 o.n] 32) = W1 := ⟨_, rfl⟩
  have HW : Hid (W.alloc (.cells #[.int .i64 o.kd, .int .i64 o.wh, .int .u64 o.t, .int .i64 o.s, .int .u64 o.q, .int .i64 o.d, .int .i64 o.n] 32) = W1) := hW1
  have hb1 : Below W.heap.size W W1 := by rw [← hW1]; exact (Below.refl _ W).alloc (Nat.le_refl _) _
  have ho1 : W1.heap[W.heap.size]? = some (.cells #[.int .i64 o.kd, .int .i64 o.wh, .int .u64 o.t, .int .i64 o.s, .int .u64 o.q, .int .i64 o.d, .int .i64 o.n] 32 (0, 0)) := by rw [← hW1]; exact World.alloc_heap_new W _
  have h1 := h.ke (KE.below hb1)
  have hlt := h.lt
  obtain ⟨y0, y1, y2, y3, y4, y5, y6⟩ := c7 ho1
  have lo1 := lt_of_block ho1
  have H0 : Hid (Below W.heap.size W W1 ∧ W1.heap[W.heap.size]? = some (.cells #[.int .i64 o.kd, .int .i64 o.wh, .int .u64 o.t, .int .i64 o.s, .int .u64 o.q, .int .i64 o.d, .int .i64 o.n] 32 (0, 0)) ∧ (qb < W.heap.size ∧ g < W.heap.size ∧ qr < W.heap.size)) := ⟨hb1, ho1, hlt⟩
  have d1 : (o.kd == 1) = false := by simpa using hk 1 (by simp)
  have d2 : (o.kd == 2) = false := by simpa using hk 2 (by simp)
  have d3 : (o.kd == 3) = false := by simpa using hk 3 (by simp)
  have d4 : (o.kd == 4) = false := by simpa using hk 4 (by simp)
  have d5 : (o.kd == 5) = false := by simpa using hk 5 (by simp)
  have d6 : (o.kd == 6) = false := by simpa using hk 6 (by simp)
  have d7 : (o.kd == 7) = false := by simpa using hk 7 (by simp)
  have d8 : (o.kd == 8) = false := by simpa using hk 8 (by simp)
  have d9 : (o.kd == 9) = false := by simpa using hk 9 (by simp)
  have d10 : (o.kd == 10) = false := by simpa using hk 10 (by simp)
  have d11 : (o.kd == 11) = false := by simpa using hk 11 (by simp)
  have HF : Hid (PR W1 base qb g qr room wb) := h1
  clear hW1 hk h h1 hb1 ho1 hlt
  go_enter Try.func16, Try.ntmps16
  go_upto_region 1 with fail
  rw [HW.out]
  go_wp2_with fail
  go_ret
  exact ⟨rfl, g, HF.out.up (by omega), .inl rfl, Ch.below H0.out.1⟩
set_option maxRecDepth 100000 in
set_option maxHeartbeats 16000000 in
theorem step_take2 {base qb g qr : Nat} {room wb : Int} (o : OpV) (W : World) (h : PR W base qb g qr room wb) (hwb : wb ≤ 4611686018427000000 - 16384) (hk : o.kd = 2) :
    Calls Try.prog 16 #[.pointer (some ⟨qb, 0, none⟩), .pointer (some ⟨qr, 0, none⟩), .agg (opA o)] W fun r W' => TRes base qb g qr room wb W r W' := by
  unfold opA
  obtain ⟨W1, hW1⟩ : ∃ W1, W.alloc (.cells #[.int .i64 o.kd, .int .i64 o.wh, .int .u64 o.t, .int .i64 o.s, .int .u64 o.q, .int .i64 o.d, .int .i64 o.n] 32) = W1 := ⟨_, rfl⟩
  have HW : Hid (W.alloc (.cells #[.int .i64 o.kd, .int .i64 o.wh, .int .u64 o.t, .int .i64 o.s, .int .u64 o.q, .int .i64 o.d, .int .i64 o.n] 32) = W1) := hW1
  have hb1 : Below W.heap.size W W1 := by rw [← hW1]; exact (Below.refl _ W).alloc (Nat.le_refl _) _
  have ho1 : W1.heap[W.heap.size]? = some (.cells #[.int .i64 o.kd, .int .i64 o.wh, .int .u64 o.t, .int .i64 o.s, .int .u64 o.q, .int .i64 o.d, .int .i64 o.n] 32 (0, 0)) := by rw [← hW1]; exact World.alloc_heap_new W _
  have h1 := h.ke (KE.below hb1)
  have hlt := h.lt
  obtain ⟨y0, y1, y2, y3, y4, y5, y6⟩ := c7 ho1
  have lo1 := lt_of_block ho1
  have H0 : Hid (Below W.heap.size W W1 ∧ W1.heap[W.heap.size]? = some (.cells #[.int .i64 o.kd, .int .i64 o.wh, .int .u64 o.t, .int .i64 o.s, .int .u64 o.q, .int .i64 o.d, .int .i64 o.n] 32 (0, 0)) ∧ (qb < W.heap.size ∧ g < W.heap.size ∧ qr < W.heap.size)) := ⟨hb1, ho1, hlt⟩
  have d1 : (o.kd == 1) = false := by rw [hk]; rfl
  have d2 : (o.kd == 2) = true := by rw [hk]; rfl
  have HT := takes_Min o W1 h1 hk (fun w hw => min_pair w hw hwb)
  unfold opA at HT
  clear hW1 hk h h1 hb1 ho1 hlt hwb
  go_enter Try.func16, Try.ntmps16
  go_upto_region 1 with fail
  rw [HW.out]
  go_wp2_with (go_at_call 43; (with_reducible refine HT.mono ?_); rintro r w2 ⟨rfl, hres⟩)
  go_ret
  exact TRes.up H0.out.1 ⟨rfl, hres⟩
set_option maxRecDepth 100000 in
set_option maxHeartbeats 16000000 in
theorem step_take3 {base qb g qr : Nat} {room wb : Int} (o : OpV) (W : World) (h : PR W base qb g qr room wb) (hwb : wb ≤ 4611686018427000000 - 16384) (hk : o.kd = 3) :
    Calls Try.prog 16 #[.pointer (some ⟨qb, 0, none⟩), .pointer (some ⟨qr, 0, none⟩), .agg (opA o)] W fun r W' => TRes base qb g qr room wb W r W' := by
  unfold opA
  obtain ⟨W1, hW1⟩ : ∃ W1, W.alloc (.cells #[.int .i64 o.kd, .int .i64 o.wh, .int .u64 o.t, .int .i64 o.s, .int .u64 o.q, .int .i64 o.d, .int .i64 o.n] 32) = W1 := ⟨_, rfl⟩
  have HW : Hid (W.alloc (.cells #[.int .i64 o.kd, .int .i64 o.wh, .int .u64 o.t, .int .i64 o.s, .int .u64 o.q, .int .i64 o.d, .int .i64 o.n] 32) = W1) := hW1
  have hb1 : Below W.heap.size W W1 := by rw [← hW1]; exact (Below.refl _ W).alloc (Nat.le_refl _) _
  have ho1 : W1.heap[W.heap.size]? = some (.cells #[.int .i64 o.kd, .int .i64 o.wh, .int .u64 o.t, .int .i64 o.s, .int .u64 o.q, .int .i64 o.d, .int .i64 o.n] 32 (0, 0)) := by rw [← hW1]; exact World.alloc_heap_new W _
  have h1 := h.ke (KE.below hb1)
  have hlt := h.lt
  obtain ⟨y0, y1, y2, y3, y4, y5, y6⟩ := c7 ho1
  have lo1 := lt_of_block ho1
  have H0 : Hid (Below W.heap.size W W1 ∧ W1.heap[W.heap.size]? = some (.cells #[.int .i64 o.kd, .int .i64 o.wh, .int .u64 o.t, .int .i64 o.s, .int .u64 o.q, .int .i64 o.d, .int .i64 o.n] 32 (0, 0)) ∧ (qb < W.heap.size ∧ g < W.heap.size ∧ qr < W.heap.size)) := ⟨hb1, ho1, hlt⟩
  have d1 : (o.kd == 1) = false := by rw [hk]; rfl
  have d2 : (o.kd == 2) = false := by rw [hk]; rfl
  have d3 : (o.kd == 3) = true := by rw [hk]; rfl
  have HT := takes_Pop o W1 h1 hk (fun w hw => pop_pair w hw hwb)
  unfold opA at HT
  clear hW1 hk h h1 hb1 ho1 hlt hwb
  go_enter Try.func16, Try.ntmps16
  go_upto_region 1 with fail
  rw [HW.out]
  go_wp2_with (go_at_call 43; (with_reducible refine HT.mono ?_); rintro r w2 ⟨rfl, hres⟩)
  go_ret
  exact TRes.up H0.out.1 ⟨rfl, hres⟩
set_option maxRecDepth 100000 in
set_option maxHeartbeats 16000000 in
theorem step_take4 {base qb g qr : Nat} {room wb : Int} (o : OpV) (W : World) (h : PR W base qb g qr room wb) (hwb : wb ≤ 4611686018427000000 - 16384) (hk : o.kd = 4) :
    Calls Try.prog 16 #[.pointer (some ⟨qb, 0, none⟩), .pointer (some ⟨qr, 0, none⟩), .agg (opA o)] W fun r W' => TRes base qb g qr room wb W r W' := by
  unfold opA
  obtain ⟨W1, hW1⟩ : ∃ W1, W.alloc (.cells #[.int .i64 o.kd, .int .i64 o.wh, .int .u64 o.t, .int .i64 o.s, .int .u64 o.q, .int .i64 o.d, .int .i64 o.n] 32) = W1 := ⟨_, rfl⟩
  have HW : Hid (W.alloc (.cells #[.int .i64 o.kd, .int .i64 o.wh, .int .u64 o.t, .int .i64 o.s, .int .u64 o.q, .int .i64 o.d, .int .i64 o.n] 32) = W1) := hW1
  have hb1 : Below W.heap.size W W1 := by rw [← hW1]; exact (Below.refl _ W).alloc (Nat.le_refl _) _
  have ho1 : W1.heap[W.heap.size]? = some (.cells #[.int .i64 o.kd, .int .i64 o.wh, .int .u64 o.t, .int .i64 o.s, .int .u64 o.q, .int .i64 o.d, .int .i64 o.n] 32 (0, 0)) := by rw [← hW1]; exact World.alloc_heap_new W _
  have h1 := h.ke (KE.below hb1)
  have hlt := h.lt
  obtain ⟨y0, y1, y2, y3, y4, y5, y6⟩ := c7 ho1
  have lo1 := lt_of_block ho1
  have H0 : Hid (Below W.heap.size W W1 ∧ W1.heap[W.heap.size]? = some (.cells #[.int .i64 o.kd, .int .i64 o.wh, .int .u64 o.t, .int .i64 o.s, .int .u64 o.q, .int .i64 o.d, .int .i64 o.n] 32 (0, 0)) ∧ (qb < W.heap.size ∧ g < W.heap.size ∧ qr < W.heap.size)) := ⟨hb1, ho1, hlt⟩
  have d1 : (o.kd == 1) = false := by rw [hk]; rfl
  have d2 : (o.kd == 2) = false := by rw [hk]; rfl
  have d3 : (o.kd == 3) = false := by rw [hk]; rfl
  have d4 : (o.kd == 4) = true := by rw [hk]; rfl
  have HT := takes_Find o W1 h1 hk (fun w hw => find_pair o.t o.s o.q w hw hwb)
  unfold opA at HT
  clear hW1 hk h h1 hb1 ho1 hlt hwb
  go_enter Try.func16, Try.ntmps16
  go_upto_region 1 with fail
  rw [HW.out]
  go_wp2_with (go_at_call 43; (with_reducible refine HT.mono ?_); rintro r w2 ⟨rfl, hres⟩)
  go_ret
  exact TRes.up H0.out.1 ⟨rfl, hres⟩
set_option maxRecDepth 100000 in
set_option maxHeartbeats 16000000 in
theorem step_take5 {base qb g qr : Nat} {room wb : Int} (o : OpV) (W : World) (h : PR W base qb g qr room wb) (hwb : wb ≤ 4611686018427000000 - 16384) (hk : o.kd = 5) :
    Calls Try.prog 16 #[.pointer (some ⟨qb, 0, none⟩), .pointer (some ⟨qr, 0, none⟩), .agg (opA o)] W fun r W' => TRes base qb g qr room wb W r W' := by
  unfold opA
  obtain ⟨W1, hW1⟩ : ∃ W1, W.alloc (.cells #[.int .i64 o.kd, .int .i64 o.wh, .int .u64 o.t, .int .i64 o.s, .int .u64 o.q, .int .i64 o.d, .int .i64 o.n] 32) = W1 := ⟨_, rfl⟩
  have HW : Hid (W.alloc (.cells #[.int .i64 o.kd, .int .i64 o.wh, .int .u64 o.t, .int .i64 o.s, .int .u64 o.q, .int .i64 o.d, .int .i64 o.n] 32) = W1) := hW1
  have hb1 : Below W.heap.size W W1 := by rw [← hW1]; exact (Below.refl _ W).alloc (Nat.le_refl _) _
  have ho1 : W1.heap[W.heap.size]? = some (.cells #[.int .i64 o.kd, .int .i64 o.wh, .int .u64 o.t, .int .i64 o.s, .int .u64 o.q, .int .i64 o.d, .int .i64 o.n] 32 (0, 0)) := by rw [← hW1]; exact World.alloc_heap_new W _
  have h1 := h.ke (KE.below hb1)
  have hlt := h.lt
  obtain ⟨y0, y1, y2, y3, y4, y5, y6⟩ := c7 ho1
  have lo1 := lt_of_block ho1
  have H0 : Hid (Below W.heap.size W W1 ∧ W1.heap[W.heap.size]? = some (.cells #[.int .i64 o.kd, .int .i64 o.wh, .int .u64 o.t, .int .i64 o.s, .int .u64 o.q, .int .i64 o.d, .int .i64 o.n] 32 (0, 0)) ∧ (qb < W.heap.size ∧ g < W.heap.size ∧ qr < W.heap.size)) := ⟨hb1, ho1, hlt⟩
  have d1 : (o.kd == 1) = false := by rw [hk]; rfl
  have d2 : (o.kd == 2) = false := by rw [hk]; rfl
  have d3 : (o.kd == 3) = false := by rw [hk]; rfl
  have d4 : (o.kd == 4) = false := by rw [hk]; rfl
  have d5 : (o.kd == 5) = true := by rw [hk]; rfl
  have HT := takes_Remove o W1 h1 hk (fun w hw => remove_pair o.t o.s o.q w hw hwb)
  unfold opA at HT
  clear hW1 hk h h1 hb1 ho1 hlt hwb
  go_enter Try.func16, Try.ntmps16
  go_upto_region 1 with fail
  rw [HW.out]
  go_wp2_with (go_at_call 43; (with_reducible refine HT.mono ?_); rintro r w2 ⟨rfl, hres⟩)
  go_ret
  exact TRes.up H0.out.1 ⟨rfl, hres⟩
set_option maxRecDepth 100000 in
set_option maxHeartbeats 16000000 in
theorem step_insert {base qb g qr : Nat} {room wb : Int} (o : OpV) (W : World) (h : PR W base qb g qr room wb) (hwb : wb ≤ 4611686018427000000 - 16384) (hk : o.kd = 1) :
    Calls Try.prog 16 #[.pointer (some ⟨qb, 0, none⟩), .pointer (some ⟨qr, 0, none⟩), .agg (opA o)] W fun r W' => TRes base qb g qr room wb W r W' := by
  unfold opA
  obtain ⟨W1, hW1⟩ : ∃ W1, W.alloc (.cells #[.int .i64 o.kd, .int .i64 o.wh, .int .u64 o.t, .int .i64 o.s, .int .u64 o.q, .int .i64 o.d, .int .i64 o.n] 32) = W1 := ⟨_, rfl⟩
  have HW : Hid (W.alloc (.cells #[.int .i64 o.kd, .int .i64 o.wh, .int .u64 o.t, .int .i64 o.s, .int .u64 o.q, .int .i64 o.d, .int .i64 o.n] 32) = W1) := hW1
  have hb1 : Below W.heap.size W W1 := by rw [← hW1]; exact (Below.refl _ W).alloc (Nat.le_refl _) _
  have ho1 : W1.heap[W.heap.size]? = some (.cells #[.int .i64 o.kd, .int .i64 o.wh, .int .u64 o.t, .int .i64 o.s, .int .u64 o.q, .int .i64 o.d, .int .i64 o.n] 32 (0, 0)) := by rw [← hW1]; exact World.alloc_heap_new W _
  have h1 := h.ke (KE.below hb1)
  have hlt := h.lt
  obtain ⟨y0, y1, y2, y3, y4, y5, y6⟩ := c7 ho1
  have lo1 := lt_of_block ho1
  have H0 : Hid (Below W.heap.size W W1 ∧ W1.heap[W.heap.size]? = some (.cells #[.int .i64 o.kd, .int .i64 o.wh, .int .u64 o.t, .int .i64 o.s, .int .u64 o.q, .int .i64 o.d, .int .i64 o.n] 32 (0, 0)) ∧ (qb < W.heap.size ∧ g < W.heap.size ∧ qr < W.heap.size)) := ⟨hb1, ho1, hlt⟩
  have d1 : (o.kd == 1) = true := by rw [hk]; rfl
  have HEV := event_any o W1
  have HI : Hid (∀ w, PR w base qb g qr room wb → IPair (⟨o.t, o.s, o.q, o.d.tmod 7, o.d.tmod 5, o.d⟩ : Ev) base qb g qr room wb w) := fun w hw => ins_pair (⟨o.t, o.s, o.q, o.d.tmod 7, o.d.tmod 5, o.d⟩ : Ev) w hw hwb
  have HP : Hid (PR W1 base qb g qr room wb) := h1
  unfold opA evV at HEV
  clear hW1 hk h h1 hb1 ho1 hlt hwb
  go_enter Try.func16, Try.ntmps16
  go_upto_region 1 with fail
  rw [HW.out]
  go_upto_region 4 with (first | (go_at_call 30; (with_reducible refine HEV.mono ?_); rintro e w2 ⟨rfl, hb2⟩; have HC := HI.out w2 (HP.out.ke (KE.below hb2)); unfold IPair at HC; unfold evV at HC; have HB2 : Hid (Below W1.heap.size W1 w2) := hb2; clear hb2) | (go_at_call 29; (with_reducible refine HC.mono ?_); rintro r w3 ⟨code, g3, rfl, hg3, hC3, hR⟩; have HR : Hid ((g3 = g ∨ w2.heap.size ≤ g3) ∧ Ch (S2 qb g) w2 w3 ∧ ∀ W2, KE w3 W2 → Calls Try.prog 42 #[.pointer (some ⟨qr, 0, none⟩), .agg #[.int .u64 o.t, .int .i64 o.s, .int .u64 o.q, .int .i64 (o.d.tmod 7), .int .i64 (o.d.tmod 5), .int .i64 o.d]] W2 fun r2 W3 => r2 = .returned (.int .i64 code) ∧ PR W3 base qb g3 qr room (wb + 16384) ∧ Ch (S1 qr) W2 W3) := ⟨hg3, hC3, hR⟩; clear hg3 hC3 hR))
  obtain ⟨hg3, hC3, hR⟩ := HR.out
  have hb2 := HB2.out
  obtain ⟨hb1, ho1, hlt⟩ := H0.out
  have hs1 := hb1.size
  have hs2 := hb2.size
  have hl1 := lt_of_block ho1
  have ho3 : w3.heap[W.heap.size]? = some (.cells #[.int .i64 o.kd, .int .i64 o.wh, .int .u64 o.t, .int .i64 o.s, .int .u64 o.q, .int .i64 o.d, .int .i64 o.n] 32 (0, 0)) := (hC3.block _ (by omega) (by rintro (e | e) <;> omega)).trans ((hb2.block _ hl1).trans ho1)
  have HEV3 := event_any o w3
  unfold opA evV at HEV3
  have HX : Hid (Ch (S2 qb g) W w3 ∧ (g3 = g ∨ W.heap.size ≤ g3)) := ⟨((Ch.below hb1).trans (Ch.below hb2)).trans hC3, by rcases hg3 with e | e; exact .inl e; exact .inr (by omega)⟩
  have HRR : Hid (∀ W2, KE w3 W2 → Calls Try.prog 42 #[.pointer (some ⟨qr, 0, none⟩), .agg #[.int .u64 o.t, .int .i64 o.s, .int .u64 o.q, .int .i64 (o.d.tmod 7), .int .i64 (o.d.tmod 5), .int .i64 o.d]] W2 fun r2 W3 => r2 = .returned (.int .i64 code) ∧ PR W3 base qb g3 qr room (wb + 16384) ∧ Ch (S1 qr) W2 W3) := hR
  have dcode : (code == code) = true := by simp
  clear hg3 hC3 hR HR HB2 HC HEV HI HP hb2 hb1 ho1 hlt y0 y1 y2 y3 y4 y5 y6 hs1 hs2 hl1 lo1
  obtain ⟨y0, y1, y2, y3, y4, y5, y6⟩ := c7 ho3
  have lo3 := lt_of_block ho3
  go_wp2_with (first | (go_at_call 30; (with_reducible refine HEV3.mono ?_); rintro e w4 ⟨rfl, hb4⟩; have HC := HRR.out w4 (KE.below hb4); have HB4 : Hid (Below w3.heap.size w3 w4) := hb4; clear hb4) | (go_at_call 42; (with_reducible refine HC.mono ?_); rintro r w5 ⟨rfl, hP5, hC5⟩))
  go_ret
  exact ⟨rfl, g3, hP5, HX.out.2, (HX.out.1.sq2.trans (Ch.below HB4.out)).trans hC5.sq1⟩
set_option maxRecDepth 100000 in
set_option maxHeartbeats 16000000 in
theorem step_split {base qb g qr : Nat} {room wb : Int} (o : OpV) (W : World) (h : PR W base qb g qr room wb) (hwb : wb ≤ 4611686018427000000 - 16384) (hk : o.kd = 6) :
    Calls Try.prog 16 #[.pointer (some ⟨qb, 0, none⟩), .pointer (some ⟨qr, 0, none⟩), .agg (opA o)] W fun r W' => TRes base qb g qr room wb W r W' := by
  unfold opA
  obtain ⟨W1, hW1⟩ : ∃ W1, W.alloc (.cells #[.int .i64 o.kd, .int .i64 o.wh, .int .u64 o.t, .int .i64 o.s, .int .u64 o.q, .int .i64 o.d, .int .i64 o.n] 32) = W1 := ⟨_, rfl⟩
  have HW : Hid (W.alloc (.cells #[.int .i64 o.kd, .int .i64 o.wh, .int .u64 o.t, .int .i64 o.s, .int .u64 o.q, .int .i64 o.d, .int .i64 o.n] 32) = W1) := hW1
  have hb1 : Below W.heap.size W W1 := by rw [← hW1]; exact (Below.refl _ W).alloc (Nat.le_refl _) _
  have ho1 : W1.heap[W.heap.size]? = some (.cells #[.int .i64 o.kd, .int .i64 o.wh, .int .u64 o.t, .int .i64 o.s, .int .u64 o.q, .int .i64 o.d, .int .i64 o.n] 32 (0, 0)) := by rw [← hW1]; exact World.alloc_heap_new W _
  have h1 := h.ke (KE.below hb1)
  have hlt := h.lt
  obtain ⟨y0, y1, y2, y3, y4, y5, y6⟩ := c7 ho1
  have lo1 := lt_of_block ho1
  have H0 : Hid (Below W.heap.size W W1 ∧ W1.heap[W.heap.size]? = some (.cells #[.int .i64 o.kd, .int .i64 o.wh, .int .u64 o.t, .int .i64 o.s, .int .u64 o.q, .int .i64 o.d, .int .i64 o.n] 32 (0, 0)) ∧ (qb < W.heap.size ∧ g < W.heap.size ∧ qr < W.heap.size)) := ⟨hb1, ho1, hlt⟩
  have d1 : (o.kd == 1) = false := by rw [hk]; rfl
  have d2 : (o.kd == 2) = false := by rw [hk]; rfl
  have d3 : (o.kd == 3) = false := by rw [hk]; rfl
  have d4 : (o.kd == 4) = false := by rw [hk]; rfl
  have d5 : (o.kd == 5) = false := by rw [hk]; rfl
  have d6 : (o.kd == 6) = true := by rw [hk]; rfl
  have HL := split_pair o.t W1 h1 hwb
  unfold LPair at HL
  have HL : Calls Try.prog 17 #[.pointer (some ⟨qb, 0, none⟩), .int .u64 o.t] W1 _ := HL
  clear hW1 hk h h1 hb1 ho1 hlt hwb
  go_enter Try.func16, Try.ntmps16
  go_upto_region 1 with fail
  rw [HW.out]
  go_upto_region 12 with (go_at_call 17; (with_reducible refine HL.mono ?_); rintro e w3 ⟨b, n, F, rfl, hn, hsh, hC3, hR⟩; have HR : Hid (n ≤ 8192 ∧ EvSh n F ∧ Ch (S2 qb g) W1 w3 ∧ Calls Try.prog 18 #[.pointer (some ⟨qr, 0, none⟩), .int .u64 o.t] w3 fun e2 W3 => ∃ p2 c2, e2 = .returned (.slice p2 n c2) ∧ XAt W3 (some ⟨b, 0, none⟩) n F ∧ XAt W3 p2 n F ∧ PR W3 base qb g qr room (wb + 16384) ∧ Ch (S1 qr) w3 W3) := ⟨hn, hsh, hC3, hR w3 (KE.below (Below.refl _ _)) rfl⟩; clear hn hsh hC3 hR)
  obtain ⟨hn, hsh, hC3, hR⟩ := HR.out
  obtain ⟨hb1, ho1, hlt⟩ := H0.out
  have hl1 := lt_of_block ho1
  have ho3 : w3.heap[W.heap.size]? = some (.cells #[.int .i64 o.kd, .int .i64 o.wh, .int .u64 o.t, .int .i64 o.s, .int .u64 o.q, .int .i64 o.d, .int .i64 o.n] 32 (0, 0)) := (hC3.block _ hl1 (by rintro (e | e) <;> omega)).trans ho1
  have HX : Hid (n ≤ 8192 ∧ EvSh n F ∧ Ch (S2 qb g) W w3) := ⟨hn, hsh, (Ch.below hb1).trans hC3⟩
  clear HR HL hn hsh hC3 hb1 ho1 hlt y0 y1 y2 y3 y4 y5 y6 hl1 lo1
  obtain ⟨y0, y1, y2, y3, y4, y5, y6⟩ := c7 ho3
  have lo3 := lt_of_block ho3
  go_wp2_with (first | (go_at_call 18; (with_reducible refine hR.mono ?_); rintro e w5 ⟨p2, c2, rfl, hx1, hx2, hP5, hC5⟩; have HS := sameEvents_yes n F (some ⟨b, 0, none⟩) p2 n c2 (by have := HX.out.1; omega) w5 hx1 hx2 HX.out.2.1; have HY : Hid (PR w5 base qb g qr room (wb + 16384) ∧ Ch (S1 qr) w3 w5) := ⟨hP5, hC5⟩; clear hx1 hx2 hP5 hC5) | (go_at_call 9; (with_reducible refine HS.mono ?_); rintro e w6 ⟨rfl, hb6⟩))
  go_ret
  exact ⟨rfl, g, HY.out.1.ke (KE.below hb6), .inl rfl, (HX.out.2.2.sq2.trans HY.out.2.sq1).trans (Ch.below hb6)⟩
set_option maxRecDepth 100000 in
set_option maxHeartbeats 16000000 in
theorem step_list {base qb g qr : Nat} {room wb : Int} (o : OpV) (W : World) (h : PR W base qb g qr room wb) (hwb : wb ≤ 4611686018427000000 - 16384) (hk : o.kd = 8) :
    Calls Try.prog 16 #[.pointer (some ⟨qb, 0, none⟩), .pointer (some ⟨qr, 0, none⟩), .agg (opA o)] W fun r W' => TRes base qb g qr room wb W r W' := by
  unfold opA
  obtain ⟨W1, hW1⟩ : ∃ W1, W.alloc (.cells #[.int .i64 o.kd, .int .i64 o.wh, .int .u64 o.t, .int .i64 o.s, .int .u64 o.q, .int .i64 o.d, .int .i64 o.n] 32) = W1 := ⟨_, rfl⟩
  have HW : Hid (W.alloc (.cells #[.int .i64 o.kd, .int .i64 o.wh, .int .u64 o.t, .int .i64 o.s, .int .u64 o.q, .int .i64 o.d, .int .i64 o.n] 32) = W1) := hW1
  have hb1 : Below W.heap.size W W1 := by rw [← hW1]; exact (Below.refl _ W).alloc (Nat.le_refl _) _
  have ho1 : W1.heap[W.heap.size]? = some (.cells #[.int .i64 o.kd, .int .i64 o.wh, .int .u64 o.t, .int .i64 o.s, .int .u64 o.q, .int .i64 o.d, .int .i64 o.n] 32 (0, 0)) := by rw [← hW1]; exact World.alloc_heap_new W _
  have h1 := h.ke (KE.below hb1)
  have hlt := h.lt
  obtain ⟨y0, y1, y2, y3, y4, y5, y6⟩ := c7 ho1
  have lo1 := lt_of_block ho1
  have H0 : Hid (Below W.heap.size W W1 ∧ W1.heap[W.heap.size]? = some (.cells #[.int .i64 o.kd, .int .i64 o.wh, .int .u64 o.t, .int .i64 o.s, .int .u64 o.q, .int .i64 o.d, .int .i64 o.n] 32 (0, 0)) ∧ (qb < W.heap.size ∧ g < W.heap.size ∧ qr < W.heap.size)) := ⟨hb1, ho1, hlt⟩
  have d1 : (o.kd == 1) = false := by rw [hk]; rfl
  have d2 : (o.kd == 2) = false := by rw [hk]; rfl
  have d3 : (o.kd == 3) = false := by rw [hk]; rfl
  have d4 : (o.kd == 4) = false := by rw [hk]; rfl
  have d5 : (o.kd == 5) = false := by rw [hk]; rfl
  have d6 : (o.kd == 6) = false := by rw [hk]; rfl
  have d7 : (o.kd == 7) = false := by rw [hk]; rfl
  have d8 : (o.kd == 8) = true := by rw [hk]; rfl
  have HL := list_pair W1 h1
  unfold LPair at HL
  have HL : Calls Try.prog 10 #[.pointer (some ⟨qb, 0, none⟩)] W1 _ := HL
  clear hW1 hk h h1 hb1 ho1 hlt hwb
  go_enter Try.func16, Try.ntmps16
  go_upto_region 1 with fail
  rw [HW.out]
  go_wp2_with (first | (go_at_call 10; (with_reducible refine HL.mono ?_); rintro e w3 ⟨b, n, F, rfl, hn, hsh, hC3, hR⟩; have HX : Hid (n ≤ 8192 ∧ EvSh n F ∧ Ch (S2 qb g) W1 w3) := ⟨hn, hsh, hC3⟩; have hR3 := hR w3 (KE.below (Below.refl _ _)) rfl; have hR3 : Calls Try.prog 19 #[.pointer (some ⟨qr, 0, none⟩)] w3 _ := hR3; clear hn hsh hC3 hR) | (go_at_call 19; (with_reducible refine hR3.mono ?_); rintro e w5 ⟨p2, c2, rfl, hx1, hx2, hP5, hC5⟩; have HS := sameEvents_yes n F (some ⟨b, 0, none⟩) p2 n c2 (by have := HX.out.1; omega) w5 hx1 hx2 HX.out.2.1; have HY : Hid (PR w5 base qb g qr room (wb + 16384) ∧ Ch (S1 qr) w3 w5) := ⟨hP5, hC5⟩; clear hx1 hx2 hP5 hC5) | (go_at_call 9; (with_reducible refine HS.mono ?_); rintro e w6 ⟨rfl, hb6⟩))
  go_ret
  exact ⟨rfl, g, HY.out.1.ke (KE.below hb6), .inl rfl, ((((Ch.below H0.out.1).trans HX.out.2.2).sq2).trans HY.out.2.sq1).trans (Ch.below hb6)⟩
set_option maxRecDepth 100000 in
set_option maxHeartbeats 16000000 in
theorem step_depths {base qb g qr : Nat} {room wb : Int} (o : OpV) (W : World) (h : PR W base qb g qr room wb) (hwb : wb ≤ 4611686018427000000 - 16384) (hk : o.kd = 10) :
    Calls Try.prog 16 #[.pointer (some ⟨qb, 0, none⟩), .pointer (some ⟨qr, 0, none⟩), .agg (opA o)] W fun r W' => TRes base qb g qr room wb W r W' := by
  unfold opA
  obtain ⟨W1, hW1⟩ : ∃ W1, W.alloc (.cells #[.int .i64 o.kd, .int .i64 o.wh, .int .u64 o.t, .int .i64 o.s, .int .u64 o.q, .int .i64 o.d, .int .i64 o.n] 32) = W1 := ⟨_, rfl⟩
  have HW : Hid (W.alloc (.cells #[.int .i64 o.kd, .int .i64 o.wh, .int .u64 o.t, .int .i64 o.s, .int .u64 o.q, .int .i64 o.d, .int .i64 o.n] 32) = W1) := hW1
  have hb1 : Below W.heap.size W W1 := by rw [← hW1]; exact (Below.refl _ W).alloc (Nat.le_refl _) _
  have ho1 : W1.heap[W.heap.size]? = some (.cells #[.int .i64 o.kd, .int .i64 o.wh, .int .u64 o.t, .int .i64 o.s, .int .u64 o.q, .int .i64 o.d, .int .i64 o.n] 32 (0, 0)) := by rw [← hW1]; exact World.alloc_heap_new W _
  have h1 := h.ke (KE.below hb1)
  have hlt := h.lt
  obtain ⟨y0, y1, y2, y3, y4, y5, y6⟩ := c7 ho1
  have lo1 := lt_of_block ho1
  have H0 : Hid (Below W.heap.size W W1 ∧ W1.heap[W.heap.size]? = some (.cells #[.int .i64 o.kd, .int .i64 o.wh, .int .u64 o.t, .int .i64 o.s, .int .u64 o.q, .int .i64 o.d, .int .i64 o.n] 32 (0, 0)) ∧ (qb < W.heap.size ∧ g < W.heap.size ∧ qr < W.heap.size)) := ⟨hb1, ho1, hlt⟩
  have d1 : (o.kd == 1) = false := by rw [hk]; rfl
  have d2 : (o.kd == 2) = false := by rw [hk]; rfl
  have d3 : (o.kd == 3) = false := by rw [hk]; rfl
  have d4 : (o.kd == 4) = false := by rw [hk]; rfl
  have d5 : (o.kd == 5) = false := by rw [hk]; rfl
  have d6 : (o.kd == 6) = false := by rw [hk]; rfl
  have d7 : (o.kd == 7) = false := by rw [hk]; rfl
  have d8 : (o.kd == 8) = false := by rw [hk]; rfl
  have d9 : (o.kd == 9) = false := by rw [hk]; rfl
  have d10 : (o.kd == 10) = true := by rw [hk]; rfl
  have HL := depths_pair W1 h1
  clear hW1 hk h h1 hb1 ho1 hlt hwb
  go_enter Try.func16, Try.ntmps16
  go_upto_region 1 with fail
  rw [HW.out]
  go_wp2_with (first | (go_at_call 7; (with_reducible refine HL.mono ?_); rintro e w3 ⟨p, n, c, K, rfl, hn, hC3, hR3⟩; have HX : Hid (n ≤ 8192 ∧ Ch (S2 qb g) W1 w3) := ⟨hn, hC3⟩; clear hn hC3) | (go_at_call 21; (with_reducible refine hR3.mono ?_); rintro e w5 ⟨p2, c2, rfl, hx1, hx2, hP5, hC5⟩; have HS := sameInts_any p p2 n n c c2 K K (by have := HX.out.1; omega) w5 hx1 hx2; rw [decide_eq_true rfl, sameF_yes (fun _ _ => rfl), Bool.true_and] at HS; have HY : Hid (PR w5 base qb g qr room (wb + 16384) ∧ Ch (S1 qr) w3 w5) := ⟨hP5, hC5⟩; clear hx1 hx2 hP5 hC5) | (go_at_call 20; (with_reducible refine HS.mono ?_); rintro e w6 ⟨rfl, hb6⟩))
  go_ret
  exact ⟨rfl, g, HY.out.1.ke (KE.below hb6), .inl rfl, ((((Ch.below H0.out.1).trans HX.out.2).sq2).trans HY.out.2.sq1).trans (Ch.below hb6)⟩
set_option maxRecDepth 100000 in
set_option maxHeartbeats 16000000 in
theorem step_sizes {base qb g qr : Nat} {room wb : Int} (o : OpV) (W : World) (h : PR W base qb g qr room wb) (hwb : wb ≤ 4611686018427000000 - 16384) (hk : o.kd = 7) :
    Calls Try.prog 16 #[.pointer (some ⟨qb, 0, none⟩), .pointer (some ⟨qr, 0, none⟩), .agg (opA o)] W fun r W' => TRes base qb g qr room wb W r W' := by
  unfold opA
  obtain ⟨W1, hW1⟩ : ∃ W1, W.alloc (.cells #[.int .i64 o.kd, .int .i64 o.wh, .int .u64 o.t, .int .i64 o.s, .int .u64 o.q, .int .i64 o.d, .int .i64 o.n] 32) = W1 := ⟨_, rfl⟩
  have HW : Hid (W.alloc (.cells #[.int .i64 o.kd, .int .i64 o.wh, .int .u64 o.t, .int .i64 o.s, .int .u64 o.q, .int .i64 o.d, .int .i64 o.n] 32) = W1) := hW1
  have hb1 : Below W.heap.size W W1 := by rw [← hW1]; exact (Below.refl _ W).alloc (Nat.le_refl _) _
  have ho1 : W1.heap[W.heap.size]? = some (.cells #[.int .i64 o.kd, .int .i64 o.wh, .int .u64 o.t, .int .i64 o.s, .int .u64 o.q, .int .i64 o.d, .int .i64 o.n] 32 (0, 0)) := by rw [← hW1]; exact World.alloc_heap_new W _
  have h1 := h.ke (KE.below hb1)
  have hlt := h.lt
  obtain ⟨y0, y1, y2, y3, y4, y5, y6⟩ := c7 ho1
  have lo1 := lt_of_block ho1
  have H0 : Hid (Below W.heap.size W W1 ∧ W1.heap[W.heap.size]? = some (.cells #[.int .i64 o.kd, .int .i64 o.wh, .int .u64 o.t, .int .i64 o.s, .int .u64 o.q, .int .i64 o.d, .int .i64 o.n] 32 (0, 0)) ∧ (qb < W.heap.size ∧ g < W.heap.size ∧ qr < W.heap.size)) := ⟨hb1, ho1, hlt⟩
  have d1 : (o.kd == 1) = false := by rw [hk]; rfl
  have d2 : (o.kd == 2) = false := by rw [hk]; rfl
  have d3 : (o.kd == 3) = false := by rw [hk]; rfl
  have d4 : (o.kd == 4) = false := by rw [hk]; rfl
  have d5 : (o.kd == 5) = false := by rw [hk]; rfl
  have d6 : (o.kd == 6) = false := by rw [hk]; rfl
  have d7 : (o.kd == 7) = true := by rw [hk]; rfl
  obtain ⟨c, n, A, t, fl, root, work, hq, hr, hw⟩ := h1
  have HP : Hid (PR W1 base qb g qr room wb) := ⟨c, n, A, t, fl, root, work, hq, hr, hw⟩
  have hQS : QS base qb g room wb (t.ps.map A.E) W1 := ⟨c, n, A, t, fl, root, work, hq, rfl, hw⟩
  have hln : (t.ps.map A.E).length = t.size := by rw [List.length_map, Tr.size_ps]
  have HQS : Hid (QS base qb g room wb (t.ps.map A.E) W1) := hQS
  have HZ := size_any W1.drew (hQS.later (below_drewNq _ W1 1))
  rw [hln] at HZ
  have HRM : Hid (∀ w, Below W1.heap.size W1 w → Calls Try.prog 39 #[.pointer (some ⟨qb, 0, none⟩)] w fun e W' => e = .returned (.int .i64 (room - (t.size : Int))) ∧ Below w.heap.size w W') := fun w hb => by
    have h9 := room_any w (HQS.out.later hb)
    rw [hln] at h9
    exact h9
  obtain ⟨p, hb, hT⟩ := hr
  obtain ⟨q0, q1, q2, q3⟩ := hb.cells
  have lq := lt_of_block hb
  have hrm := hq.rm
  have hn1 := hq.n1
  have e1 : IntKind.i64.wrap (room - (t.size : Int)) = room - (t.size : Int) := by rw [IntKind.wrap_i64]; omega
  have dz : ((t.size : Int) == (t.size : Int)) = true := by simp
  have dr : ((room - (t.size : Int)) == (room - (t.size : Int))) = true := by simp
  clear hW1 hk h hb1 ho1 hlt hwb hq hQS hln hw hT hrm hn1
  go_enter Try.func16, Try.ntmps16
  go_upto_region 1 with fail
  rw [HW.out]
  go_upto_region 14 with fail
  go_region_held3 (fun w' => w'.cell? ⟨qr, 1, none⟩ = some (.int .i64 (t.size : Int)) ∧ w'.cell? ⟨qr, 2, none⟩ = some (.int .i64 room)) (first | exact ⟨q1, q2⟩ | with_reducible exact KP | go_keep) (first | (go_at_call 38; (with_reducible refine HZ.mono ?_); rintro e w2 ⟨rfl, rfl⟩) | (go_at_call 39; (with_reducible refine (HRM.out W1.drew (below_drewNq _ W1 1)).mono ?_); rintro e w2 ⟨rfl, hb2⟩; have hb2 : Below W1.heap.size W1 w2 := (below_drewNq _ W1 1).trans (hb2.mono (Nat.le_refl _)); have KP : (fun w' => w'.cell? ⟨qr, 1, none⟩ = some (.int .i64 (t.size : Int)) ∧ w'.cell? ⟨qr, 2, none⟩ = some (.int .i64 room)) w2 := ⟨(cell_below hb2 lq).trans q1, (cell_below hb2 lq).trans q2⟩))
  go_wp2_with fail
  go_ret
  exact ⟨rfl, g, (HP.out.ke (KE.below hb2)).up (by omega), .inl rfl, (Ch.below H0.out.1).trans (Ch.below hb2)⟩
set_option maxRecDepth 100000 in
set_option maxHeartbeats 16000000 in
theorem step_work {base qb g qr : Nat} {room wb : Int} (o : OpV) (W : World) (h : PR W base qb g qr room wb) (hwb : wb ≤ 4611686018427000000 - 16384) (hk : o.kd = 11) :
    Calls Try.prog 16 #[.pointer (some ⟨qb, 0, none⟩), .pointer (some ⟨qr, 0, none⟩), .agg (opA o)] W fun r W' => TRes base qb g qr room wb W r W' := by
  unfold opA
  obtain ⟨W1, hW1⟩ : ∃ W1, W.alloc (.cells #[.int .i64 o.kd, .int .i64 o.wh, .int .u64 o.t, .int .i64 o.s, .int .u64 o.q, .int .i64 o.d, .int .i64 o.n] 32) = W1 := ⟨_, rfl⟩
  have HW : Hid (W.alloc (.cells #[.int .i64 o.kd, .int .i64 o.wh, .int .u64 o.t, .int .i64 o.s, .int .u64 o.q, .int .i64 o.d, .int .i64 o.n] 32) = W1) := hW1
  have hb1 : Below W.heap.size W W1 := by rw [← hW1]; exact (Below.refl _ W).alloc (Nat.le_refl _) _
  have ho1 : W1.heap[W.heap.size]? = some (.cells #[.int .i64 o.kd, .int .i64 o.wh, .int .u64 o.t, .int .i64 o.s, .int .u64 o.q, .int .i64 o.d, .int .i64 o.n] 32 (0, 0)) := by rw [← hW1]; exact World.alloc_heap_new W _
  have h1 := h.ke (KE.below hb1)
  have hlt := h.lt
  obtain ⟨y0, y1, y2, y3, y4, y5, y6⟩ := c7 ho1
  have lo1 := lt_of_block ho1
  have H0 : Hid (Below W.heap.size W W1 ∧ W1.heap[W.heap.size]? = some (.cells #[.int .i64 o.kd, .int .i64 o.wh, .int .u64 o.t, .int .i64 o.s, .int .u64 o.q, .int .i64 o.d, .int .i64 o.n] 32 (0, 0)) ∧ (qb < W.heap.size ∧ g < W.heap.size ∧ qr < W.heap.size)) := ⟨hb1, ho1, hlt⟩
  have d1 : (o.kd == 1) = false := by rw [hk]; rfl
  have d2 : (o.kd == 2) = false := by rw [hk]; rfl
  have d3 : (o.kd == 3) = false := by rw [hk]; rfl
  have d4 : (o.kd == 4) = false := by rw [hk]; rfl
  have d5 : (o.kd == 5) = false := by rw [hk]; rfl
  have d6 : (o.kd == 6) = false := by rw [hk]; rfl
  have d7 : (o.kd == 7) = false := by rw [hk]; rfl
  have d8 : (o.kd == 8) = false := by rw [hk]; rfl
  have d9 : (o.kd == 9) = false := by rw [hk]; rfl
  have d10 : (o.kd == 10) = false := by rw [hk]; rfl
  have d11 : (o.kd == 11) = true := by rw [hk]; rfl
  obtain ⟨c, n, A, t, fl, root, work, hq, hr, hw⟩ := h1
  have HP : Hid (PR W1 base qb g qr room wb) := ⟨c, n, A, t, fl, root, work, hq, hr, hw⟩
  have HQ : Hid (∀ w, Below W1.heap.size W1 w → Calls Try.prog 8 #[.pointer (some ⟨qb, 0, none⟩)] w fun e W' => e = .returned (.int .i64 work) ∧ W' = w) := fun w hb => workQ w (hq.ke (KE.below hb))
  have HZ := workQ W1.drew (hq.ke (KE.below (below_drewNq _ W1 1)))
  obtain ⟨p, hb, hT⟩ := hr
  obtain ⟨q0, q1, q2, q3⟩ := hb.cells
  have lq := lt_of_block hb
  have dz : (work == work) = true := by simp
  clear hW1 hk h hb1 ho1 hlt hwb hq hw hT
  go_enter Try.func16, Try.ntmps16
  go_upto_region 1 with fail
  rw [HW.out]
  go_upto_region 22 with fail
  go_region_held3 (fun w' => w'.cell? ⟨qr, 3, none⟩ = some (.int .i64 work)) (first | exact q3 | go_keep) ((go_at_call 8; (with_reducible refine HZ.mono ?_); rintro e w2 ⟨rfl, rfl⟩))
  go_wp2_with fail
  go_ret
  exact ⟨rfl, g, (HP.out.ke (KE.below (below_drewNq _ W1 1))).up (by omega), .inl rfl, (Ch.below H0.out.1).trans (Ch.below (below_drewNq _ W1 1))⟩
end Go.Proofs.Ytlklolmhaiaaiaa
