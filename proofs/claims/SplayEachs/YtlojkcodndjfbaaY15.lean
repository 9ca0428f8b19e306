import Derived.Test.YtlojkcodndjfbaaY14
namespace Go.Proofs.Ytlojkcodndjfbaa
open Go.ChangeShapes Go.WideShapes Go.ChangeAt Go.RowKit
set_option linter.unusedVariables false
set_option linter.unusedSimpArgs false

theorem enterLs (args : Array Value) (W : World) : Sem.run Try.prog (callFunc 30 args) W = .ok (.enter 30 args) W := by go_simp
def LJJ (base b0 qb g c n : Nat) (A : Ar) (f r s m k : Int) (lb pb : Nat) (sn : List (Nat × Nat)) (F : Nat → Prop) (W : World) : Prop := ∃ lv, LJ base b0 qb g c n A f r s m k lb pb sn lv W ∧ F = LF qb g lb pb lv ∧ b0 ≤ W.heap.size
theorem seeList (base b0 qb g c n : Nat) (A : Ar) (f r s m k : Int) (lb pb : Nat) (t0 : Tr) (hn : n ≤ 8193) (hin : ∀ p ∈ t0.ps, p < n) (hsz : t0.size ≤ 8192) : SeeOk 30 #[.pointer (some ⟨lb, 0, none⟩), .pointer (some ⟨pb, 0, none⟩)] base qb g c n A (t0.spots 0) (LJJ base b0 qb g c n A f r s m k lb pb) := by
  refine ⟨?_, ?_, ?_, ?_⟩
  · rintro sn F W ⟨lv, h, rfl, _⟩ k hk
    exact h.ltF k hk
  · rintro sn F W W' ⟨lv, h, rfl, hb⟩ hF hs
    exact ⟨lv, h.later hF, rfl, Nat.le_trans hb hs⟩
  · rintro sn F W ⟨lv, h, rfl, _⟩
    exact ⟨.inl rfl, .inr (.inl rfl), A, f, r, s, m, k, h.q, fun _ _ => ⟨rfl, rfl⟩⟩
  · rintro sn F W p d rest ⟨lv, h, rfl, hb⟩ htot
    have hlen : sn.length ≤ 8192 := by
      have := congrArg List.length htot
      rw [spots_len] at this
      simp at this
      omega
    refine (list1_any base b0 qb g c n A f r s m k lb pb sn lv p d W h (hin p (mem_tot htot)) hn hlen hb).mono ?_
    rintro e W' ⟨rfl, lv', h', hat, hC⟩
    refine ⟨rfl, LF qb g lb pb lv', ⟨lv', h', rfl, Nat.le_trans hb hC.size⟩, ?_, hC⟩
    rintro k9 (rfl | rfl | rfl | rfl | hk)
    · exact .inl (.inl rfl)
    · exact .inl (.inr (.inl rfl))
    · exact .inl (.inr (.inr (.inl rfl)))
    · exact .inl (.inr (.inr (.inr (.inl rfl))))
    · rcases hat with h2 | ⟨k8, h2, h3⟩
      · exact .inl (.inr (.inr (.inr (.inr (h2 ▸ hk)))))
      · rw [h2] at hk
        have := Option.some.inj hk
        exact .inr (by omega)
theorem evC_one (e : Ev) (r : Nat) (h : r < 6) : (evC e r).oneCell' = true := by
  have : r = 0 ∨ r = 1 ∨ r = 2 ∨ r = 3 ∨ r = 4 ∨ r = 5 := by omega
  rcases this with rfl | rfl | rfl | rfl | rfl | rfl <;> rfl
set_option maxRecDepth 100000 in
set_option maxHeartbeats 4000000 in
theorem list_any (base qb g c n : Nat) (A : Ar) (f : Int) (root : Nat) (s m k : Int) (t : Tr) (W : World) (h : QW W base qb g c n A f root s m k) (hn : n ≤ 8193) (ht : t.lies A.L A.R root) (hnd : t.ps.Nodup) (hin : ∀ p ∈ t.ps, p < n) (hsz : t.size ≤ 8192) :
    Calls Try.prog 8 #[.pointer (some ⟨qb, 0, none⟩)] W fun e W' => ∃ b, e = .returned (.slice (some ⟨b, 0, none⟩) t.size t.size) ∧ Own W' W.heap.size 27 6 (.slice (some ⟨b, 0, none⟩) t.size t.size) t.size (evF A.E (t.spots 0)) ∧ QW W' base qb g c n A f root s m k ∧ Ch (S2 qb g) W W' := by
  obtain ⟨w1, hw1⟩ : ∃ w1, (W.alloc (.cells #[.pointer (some ⟨qb, 0, none⟩)] 29)).alloc (.cells #[.slice none 0 0] 22) = w1 := ⟨_, rfl⟩
  have hlt := h.lt
  have hb0 : Below W.heap.size W (W.alloc (.cells #[.pointer (some ⟨qb, 0, none⟩)] 29)) := (Below.refl _ W).alloc (Nat.le_refl _) _
  have hb : Below W.heap.size W w1 := by rw [← hw1]; exact hb0.alloc (by simp) _
  have hh0 : PBx w1 W.heap.size qb := by unfold PBx; rw [← hw1, Below.heap_alloc _ _ _ (by simp)]; exact World.alloc_heap_new W _
  have hh : w1.heap[W.heap.size + 1]? = some (.cells #[.slice none 0 0] 22 (0, 0)) := by
    rw [← hw1]
    have := World.alloc_heap_new (W.alloc (.cells #[.pointer (some ⟨qb, 0, none⟩)] 29)) (.cells #[.slice none 0 0] 22)
    rwa [World.size_alloc] at this
  have hl1 := lt_of_block hh
  have HW : Hid ((W.alloc (.cells #[.pointer (some ⟨qb, 0, none⟩)] 29)).alloc (.cells #[.slice none 0 0] 22) = w1) := hw1
  clear hw1
  have hQ1 := h.later hb
  obtain ⟨q0, q1, q2, q3, q4, q5⟩ := hQ1.cells
  have p0 := hh0.cell
  have hJ0 : LJJ base W.heap.size qb g c n A f root s m k (W.heap.size + 1) W.heap.size [] (LF qb g (W.heap.size + 1) W.heap.size (.slice none 0 0)) w1.drew := ⟨_, ⟨hQ1.later (below_drewNq _ w1 1), hh0, hh, Own.nil0, by omega, fun k9 e => (by cases e)⟩, rfl, by show W.heap.size ≤ w1.heap.size; omega⟩
  have HV := walk_any 30 #[.pointer (some ⟨W.heap.size + 1, 0, none⟩), .pointer (some ⟨W.heap.size, 0, none⟩)] enterLs base qb g c n A t root _ (seeList base W.heap.size qb g c n A f root s m k (W.heap.size + 1) W.heap.size t hn hin hsz) _ w1.drew hJ0 hn ht hnd hin hsz
  go_enter Try.func8, Try.ntmps8
  go_wp2_with (fail)
  rw [HW.out]
  go_region_held3 (fun W9 => W9.cell? ⟨W.heap.size, 0, none⟩ = some (.pointer (some ⟨qb, 0, none⟩)) ∧ W9.cell? ⟨qb, 2, none⟩ = some (.int .i64 (root : Int))) (first | exact KP | go_keep) ((go_at_call 29; (with_reducible refine HV.mono ?_); rintro e w2 ⟨rfl, F2, ⟨lv, hL, hF2, hb2⟩, hfr, hC2⟩; have KP : w2.cell? ⟨W.heap.size, 0, none⟩ = some (.pointer (some ⟨qb, 0, none⟩)) ∧ w2.cell? ⟨qb, 2, none⟩ = some (.int .i64 (root : Int)) := ⟨hL.p.cell, hL.q.cells.2.2.1⟩))
  obtain ⟨gw, cw, hlv⟩ : ∃ gw cw, lv = .slice gw t.size cw := by
    rcases hL.row.form with ⟨h1, h2⟩ | ⟨g9, c9, h1, _⟩
    · rw [spots_len] at h2
      exact ⟨none, 0, by rw [h1, h2]⟩
    · rw [spots_len] at h1
      exact ⟨_, _, h1⟩
  subst hlv
  have d0 := one_c hL.l
  have hrow := hL.row
  rw [spots_len] at hrow
  have hsrc : t.size = 0 ∨ ∃ b o, gw = some ⟨b, o, none⟩ ∧ b < w2.heap.size ∧ ∀ j, j < t.size * 6 → w2.cell? ⟨b, o + j, none⟩ = some (evF A.E (t.spots 0) j) := by
    rcases hrow.form with ⟨_, h2⟩ | ⟨g9, c9, h1, h2, h3⟩
    · exact .inl h2
    · have h4 : gw = some ⟨g9, 0, none⟩ := by injection h1
      subst h4
      exact .inr ⟨g9, 0, rfl, h3, fun j hj => by rw [Nat.zero_add]; exact Own.cell (c := cw) hrow hj⟩
  have HH := q_handed gw t.size cw (evF A.E (t.spots 0)) w2 hsz (fun j => evC_one _ _ (Nat.mod_lt _ (by decide))) hsrc
  go_wp2_with (go_at_call 31; (with_reducible refine HH.mono ?_); rintro e w3 ⟨b, rfl, hO, hb3⟩)
  go_ret
  have hs1 := hC2.size
  refine ⟨b, rfl, hO.lower hb2, hL.q.later hb3, ?_⟩
  have hc : Ch (LF qb g (W.heap.size + 1) W.heap.size (.slice none 0 0)) W w2 := (Ch.below (hb.trans (below_drewNq _ w1 1))).trans hC2
  refine ⟨hb3.os.trans hc.os, hb3.tape.trans hc.tape, hb3.output.trans hc.output, Nat.le_trans hc.size hb3.size, fun j hj hs9 => (hb3.block j (Nat.lt_of_lt_of_le hj hc.size)).trans (hc.block j hj ?_)⟩
  rintro (e | e | e | e | e)
  · exact hs9 (.inl e)
  · exact hs9 (.inr e)
  · omega
  · omega
  · cases e
end Go.Proofs.Ytlojkcodndjfbaa
