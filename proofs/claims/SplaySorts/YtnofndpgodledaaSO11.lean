import Derived.Test.YtnofndpgodledaaSO9
import Derived.Test.YtnofndpgodledaaSO10
import Derived.Maps.AppendAt
namespace Go.Proofs.Ytnofndpgodledaa
open Go.ChangeShapes Go.WideShapes Go.ChangeAt Go.RowKit
set_option linter.unusedVariables false
set_option linter.unusedSimpArgs false

def keyV (x : Se) : Value := .agg #[.int .u64 x.t, .int .i64 x.s, .int .u64 x.q]
theorem neq_key (x y : Se) (W : World) : (binOp .neq 31 (.agg #[.int .u64 x.t, .int .i64 x.s, .int .u64 x.q]) (.agg #[.int .u64 y.t, .int .i64 y.s, .int .u64 y.q])).run Try.prog W = .ok (.bool (!(skB x y))) W := by
  unfold skB
  by_cases h0 : x.t = y.t
  · have g0 : (x.t == y.t) = true := by simpa using h0
    have d0 : decide (x.t = y.t) = true := by simpa using h0
    by_cases h1 : x.s = y.s
    · have g1 : (x.s == y.s) = true := by simpa using h1
      have d1 : decide (x.s = y.s) = true := by simpa using h1
      by_cases h2 : x.q = y.q
      · have g2 : (x.q == y.q) = true := by simpa using h2
        have d2 : decide (x.q = y.q) = true := by simpa using h2
        rw [d0, d1, d2]
        go_simp
      · have g2 : (x.q == y.q) = false := by simpa using h2
        have d2 : decide (x.q = y.q) = false := by simpa using h2
        rw [d0, d1, d2]
        go_simp
    · have g1 : (x.s == y.s) = false := by simpa using h1
      have d1 : decide (x.s = y.s) = false := by simpa using h1
      rw [d0, d1]
      go_simp
  · have g0 : (x.t == y.t) = false := by simpa using h0
    have d0 : decide (x.t = y.t) = false := by simpa using h0
    rw [d0]
    go_simp
theorem scells_new (w : World) (cs : List Value) (t : TypeId) : ∀ j u, cs[j]? = some u → (w.alloc (.cells cs.toArray t)).cell? ((⟨w.heap.size, 0, none⟩ : Addr).add j) = some u := by
  intro j u hj
  rw [addr_add0, Nat.zero_add]
  unfold World.cell?
  rw [World.alloc_heap_new]
  simpa using hj
theorem srow_later {W W' : World} {base : Nat} {t : TypeId} {s m : Nat} {v : Value} {xs : List Value} (h : W.ownsRow base t s v m xs) (hb : Below W.heap.size W W') : W'.ownsRow base t s v m xs := by
  rcases h with ⟨h1, h2 | ⟨g, cap, cur, e, hg, hh, r⟩⟩
  · exact ⟨h1, .inl h2⟩
  · exact ⟨h1, .inr ⟨g, cap, cur, e, hg, (hb.block g (Array.getElem?_eq_some_iff.1 hh).1).trans hh, r⟩⟩
theorem srow_lt {W : World} {base : Nat} {t : TypeId} {s m : Nat} {v : Value} {xs : List Value} (h : W.ownsRow base t s v m xs) : ∀ k, v.ownBlock = some k → base ≤ k ∧ k < W.heap.size := fun k hk => by
  rcases h with ⟨h1, h2 | ⟨g, cap, cur, e, hg, hh, r⟩⟩
  · rw [h2.1] at hk
    cases hk
  · rw [e] at hk
    cases hk
    exact ⟨hg, (Array.getElem?_eq_some_iff.1 hh).1⟩
def celL (L : List Se) : List Value := L.flatMap seL
theorem celL_snoc (L : List Se) (x : Se) : celL (L ++ [x]) = celL L ++ seL x := by simp [celL]
theorem celL_len (L : List Se) : (celL L).length = L.length * 6 := by
  induction L with
  | nil => rfl
  | cons x L ih =>
    show (seL x ++ celL L).length = _
    rw [List.length_append, ih, show (seL x).length = 6 from rfl, List.length_cons]
    omega
theorem dl_len (d : Nat → Se) (n : Nat) : (dl d n).length ≤ n := by
  induction n with
  | zero => exact Nat.le_refl _
  | succ n ih =>
    unfold dl
    rw [List.length_append]
    split <;> simp <;> omega
theorem dl_keep {d : Nat → Se} {i : Nat} (h : i = 0 ∨ skB (d i) (d (i - 1)) = false) : dl d (i + 1) = dl d i ++ [d i] := by
  rw [dl, if_pos h]
theorem dl_skip {d : Nat → Se} {i : Nat} (h0 : i ≠ 0) (h : skB (d i) (d (i - 1)) = true) : dl d (i + 1) = dl d i := by
  rw [dl, if_neg (by rintro (e | e); exact h0 e; rw [h] at e; cases e), List.append_nil]
set_option maxRecDepth 100000 in
set_option maxHeartbeats 2000000 in
attribute [-go_sem] run_neq_struct in
theorem distinct_any {base g n cap : Nat} {d : Nat → Se} (hn : n ≤ 1000000000) (W : World) (h : SRow W base g n cap d) : Calls Try.prog 7 #[.slice (some ⟨g, 0, none⟩) n cap] W fun e W' => ∃ v, e = .returned v ∧ W'.ownsRow W.heap.size 33 6 v (dl d n).length (celL (dl d n)) ∧ Below W.heap.size W W' := by
  have HH : Hid (SRow W base g n cap d) := h
  obtain ⟨iE, hE1, hE2, hE3, hE4⟩ := sinfo infoSE
  clear h
  go_enter Try.func7, Try.ntmps7
  go_wp2_with fail
  go_loopw [3, 4] (fun v x wr => ∃ i : Nat, x = .int .i64 (i : Int) ∧ i ≤ n ∧ wr.ownsRow W.heap.size 33 6 v (dl d i).length (celL (dl d i)) ∧ Below W.heap.size W wr) (fun _ x _ => n - (intOf x).toNat)
  case atStart => exact ⟨0, rfl, Nat.zero_le _, World.ownsRow_nil _ _ _ _, Below.refl _ _⟩
  case round =>
    obtain ⟨i, rfl, hin, ho, hbr⟩ := hrel
    by_cases hlt : i < n
    · have dlt : decide ((i : Int) < (n : Int)) = true := by simp; omega
      have hm := smeas hlt
      have hr := HH.out.later hbr
      obtain ⟨a0, a1, a2, a3, a4, a5⟩ := hr.cells hlt
      have i0 : (0 : Int) ≤ (i : Int) := by omega
      have i1 : (i : Int) < (n : Int) := by omega
      have ei : IntKind.i64.wrap ((i : Int) + 1) = (i : Int) + 1 := by rw [IntKind.wrap_i64]; omega
      have hll := dl_len d i
      have p1 : (dl d i).length + 1 ≤ maxLen := by unfold maxLen; omega
      have p2 : ((dl d i).length + 1) * 48 ≤ 140737488355328 := by omega
      have HAPP : ∀ k : Nat, Hid ((((wr.drewN k).alloc (.cells (seL (d i)).toArray 33)).ownsRow W.heap.size 33 6 u3 (dl d i).length (celL (dl d i))) ∧ (∀ j u, (seL (d i))[j]? = some u → ((wr.drewN k).alloc (.cells (seL (d i)).toArray 33)).cell? ((⟨wr.heap.size, 0, none⟩ : Addr).add j) = some u) ∧ Below W.heap.size W ((wr.drewN k).alloc (.cells (seL (d i)).toArray 33))) := fun k => by
        have hb2 : Below W.heap.size W (wr.drewN k) := hbr.trans (below_drewNq _ _ _)
        exact ⟨World.ownsRow.alloc (srow_later ho (below_drewNq _ _ _)) _, scells_new (wr.drewN k) (seL (d i)) _, hb2.alloc hb2.size _⟩
      have HZ : Hid (wr.ownsRow W.heap.size 33 6 u3 (dl d i).length (celL (dl d i)) ∧ Below W.heap.size W wr) := ⟨ho, hbr⟩
      clear ho hbr
      by_cases e0 : i = 0
      · have HK : Hid (dl d (i + 1) = dl d i ++ [d i]) := dl_keep (.inl e0)
        have b0 : ((i : Int) == 0) = true := by simp; omega
        have b1 : (i == 0) = true := by simpa using e0
        clear e0
        go_upto_region 5 with fail
        go_quiet (fail)
        go_wp2_with (at_builtin; refine wpList_append_own_at _ rfl _ _ 22 rfl W.heap.size 33 iE _ 6 48 Try.underlying22 hE1 hE2 hE3 hE4 rfl (by decide) _ _ _ rfl (HAPP nq).out.1 ⟨wr.heap.size, 0, none⟩ 1 1 (seL (d i)) rfl rfl (HAPP nq).out.2.1 (by simp [seL, Value.oneCell']) p1 p2 (HAPP nq).out.2.2.size ?_; intro v' w9 hown9 hgrow9 _ _)
        refine ⟨⟨i + 1, rfl, hlt, ?_, (HAPP nq).out.2.2.grown hgrow9 (HAPP nq).out.2.2.size (fun r' e => (srow_lt (HAPP nq).out.1 r' e).1)⟩, hm⟩
        rw [HK.out, celL_snoc, List.length_append]
        exact hown9
      · have b0 : ((i : Int) == 0) = false := by simp; omega
        have b1 : (i == 0) = false := by simpa using e0
        obtain ⟨p, hp⟩ : ∃ p, i - 1 = p := ⟨_, rfl⟩
        have e1 : IntKind.i64.wrap ((i : Int) - 1) = (p : Int) := by rw [IntKind.wrap_i64]; omega
        have p0 : (0 : Int) ≤ (p : Int) := by omega
        have pn : (p : Int) < (n : Int) := by omega
        obtain ⟨c0, c1, c2, c3, c4, c5⟩ := hr.cells (i := p) (by omega)
        have HN := neq_key (d i) (d p)
        by_cases hs : skB (d i) (d p) = true
        · have HK : Hid (dl d (i + 1) = dl d i) := dl_skip e0 (by rw [hp]; exact hs)
          rw [hs] at HN
          clear e0 hp hs hr HH
          go_upto_region 5 with fail
          go_quiet (fail)
          go_wp2_with fail
          refine ⟨⟨i + 1, rfl, hlt, ?_, HZ.out.2.trans (below_drewNq _ _ _)⟩, hm⟩
          rw [HK.out]
          exact srow_later HZ.out.1 (below_drewNq _ _ _)
        · have hs : skB (d i) (d p) = false := by simpa using hs
          have HK : Hid (dl d (i + 1) = dl d i ++ [d i]) := dl_keep (.inr (by rw [hp]; exact hs))
          rw [hs] at HN
          clear e0 hp hs hr HH
          go_upto_region 5 with fail
          go_quiet (fail)
          go_wp2_with (at_builtin; refine wpList_append_own_at _ rfl _ _ 22 rfl W.heap.size 33 iE _ 6 48 Try.underlying22 hE1 hE2 hE3 hE4 rfl (by decide) _ _ _ rfl (HAPP nq).out.1 ⟨wr.heap.size, 0, none⟩ 1 1 (seL (d i)) rfl rfl (HAPP nq).out.2.1 (by simp [seL, Value.oneCell']) p1 p2 (HAPP nq).out.2.2.size ?_; intro v' w9 hown9 hgrow9 _ _)
          refine ⟨⟨i + 1, rfl, hlt, ?_, (HAPP nq).out.2.2.grown hgrow9 (HAPP nq).out.2.2.size (fun r' e => (srow_lt (HAPP nq).out.1 r' e).1)⟩, hm⟩
          rw [HK.out, celL_snoc, List.length_append]
          exact hown9
    · have dlt : decide ((i : Int) < (n : Int)) = false := by simp; omega
      obtain rfl : i = n := by omega
      go_wp2_with fail
      go_ret
      exact ⟨_, rfl, ho, hbr⟩
end Go.Proofs.Ytnofndpgodledaa
