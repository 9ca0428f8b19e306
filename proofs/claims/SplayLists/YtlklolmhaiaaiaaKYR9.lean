import Derived.Test.YtlklolmhaiaaiaaKYR7
import Derived.Test.YtlklolmhaiaaiaaKY31
namespace Go.Proofs.Ytlklolmhaiaaiaa
open Go.ChangeShapes Go.WideShapes Go.ChangeAt Go.RowKit
set_option linter.unusedVariables false
set_option linter.unusedSimpArgs false

theorem own_slice8 {W : World} {base : Nat} {t : TypeId} {s m : Nat} {v : Value} {F : Nat → Value} (h : Own W base t s v m F) : ∃ gw cw, v = .slice gw m cw ∧ ∀ k, (Value.slice gw m cw).ownBlock = some k → base ≤ k ∧ k < W.heap.size := by
  rcases h.form with ⟨h1, h2⟩ | ⟨g9, c9, h1, h2, h3⟩
  · exact ⟨none, 0, by rw [h1, h2], fun k hk => by cases hk⟩
  · exact ⟨_, _, h1, fun k hk => by cases hk; exact ⟨h2, h3⟩⟩
theorem openT_none (u : Int) (E : Nat → Ev) : ∀ (n : Nat) (t : Tr), t.size ≤ n → (openT (sdT u E) t).m = 0
  | n, .nil, _ => by rw [openT_nil]
  | 0, .node a x b, h => by simp [Tr.size] at h
  | n + 1, .node a x b, hn => by
    simp only [Tr.size] at hn
    have two : ∀ l z r, sdT u E (.node l z r) ≠ 2 := fun l z r => by
      show (if u ≤ (E z).t then (0 : Int) else 1) ≠ 2
      split <;> decide
    rcases side_sdT u E a x b with h | h | h
    · cases a with
      | nil => rw [openT_l h]
      | node c y d =>
        simp only [Tr.size] at hn
        rcases side_sdT u E c y d with h2 | h2 | h2
        · rw [openT_ll h h2]; exact openT_none u E n c (by omega)
        · rw [openT_lr h h2]; exact openT_none u E n d (by omega)
        · exact absurd h2 (two _ _ _)
    · cases b with
      | nil => rw [openT_r h]
      | node c y d =>
        simp only [Tr.size] at hn
        rcases side_sdT u E c y d with h2 | h2 | h2
        · rw [openT_rl h h2]; exact openT_none u E n c (by omega)
        · rw [openT_rr h h2]; exact openT_none u E n d (by omega)
        · exact absurd h2 (two _ _ _)
    · exact absurd h (two _ _ _)
set_option maxRecDepth 100000 in
set_option maxHeartbeats 8000000 in
/-- all events of a tree, laid behind those that are there -/
theorem rinorder {E : Nat → Ev} {W0 : World} : ∀ (n : Nat) (t : Tr) (p : Option Addr) (v : Value) (sn : List (Nat × Nat)) (d : Nat) (W : World), t.size ≤ n → RT W0 E t p → Below W0.heap.size W0 W → Own W W0.heap.size 64 6 v sn.length (evF E sn) → sn.length + t.size ≤ 8192 →
    Calls Try.prog 51 #[.pointer p, v] W fun e W' => ∃ v', e = .returned v' ∧ Own W' W0.heap.size 64 6 v' (sn ++ t.spots d).length (evF E (sn ++ t.spots d)) ∧ Below W0.heap.size W0 W'
  | n, .nil, p, v, sn, d, W, hn, h, hb, ho, hl => by
    have h9 : p = none := h
    subst h9
    have e : sn ++ Tr.nil.spots d = sn := by simp [Tr.spots]
    rw [e]
    have HO : Hid (Own W W0.heap.size 64 6 v sn.length (evF E sn) ∧ Below W0.heap.size W0 W) := ⟨ho, hb⟩
    clear ho hb h e
    go_enter Try.func51, Try.ntmps51
    go_wp2_with fail
    go_ret
    exact ⟨v, rfl, HO.out.1, HO.out.2⟩
  | 0, .node l x r, p, v, sn, d, W, hn, h, hb, ho, hl => by simp [Tr.size] at hn
  | n + 1, .node l x r, p, v, sn, d, W, hn, h, hb, ho, hl => by
    obtain ⟨i6, hi6, ha6, hb6, hc6⟩ := qinfo infoEV
    obtain ⟨b, pl, pr, rfl, hT, hpl, hpr⟩ := h
    simp only [Tr.size] at hn hl
    have lt0 := lt_of_block hT
    have hTW : TB W b pl (E x) pr := (hb.block b lt0).trans hT
    obtain ⟨t0, t1, t2, t3, t4, t5, t6, t7⟩ := hTW.cells
    have lt := lt_of_block hTW
    have HL := rinorder n l pl v sn (d + 1) W (by omega) hpl hb ho (by omega)
    have HH : Hid (TB W0 b pl (E x) pr ∧ RT W0 E r pr ∧ b < W0.heap.size) := ⟨hT, hpr, lt0⟩
    have hll : (sn ++ l.spots (d + 1)).length = sn.length + l.size := by rw [List.length_append, spots_len]
    clear hT hTW hpl hpr ho hb lt0
    go_enter Try.func51, Try.ntmps51
    go_upto_region 4 with (go_at_call 51; (with_reducible refine HL.mono ?_); rintro e w1 ⟨v1, rfl, ho1, hb1⟩)
    clear t0 t1 t2 t3 t4 t5 t6 t7 lt
    obtain ⟨hT, hpr, lt0⟩ := HH.out
    have hT1 : TB w1 b pl (E x) pr := (hb1.block b lt0).trans hT
    obtain ⟨t0, t1, t2, t3, t4, t5, t6, t7⟩ := hT1.cells
    have lt := lt_of_block hT1
    generalize hsn : sn ++ l.spots (d + 1) = s1 at *
    obtain ⟨gw, cw, hv1, hgw⟩ := own_slice8 ho1
    subst hv1
    have p1 : s1.length + 1 ≤ maxLen := by unfold maxLen; omega
    have p2 : (s1.length + 1) * 48 ≤ 140737488355328 := by omega
    have HLL : Hid (s1.length = sn.length + l.size) := hll
    clear hll
    have HO : Hid ((w1.alloc (.cells #[.int .u64 (E x).t, .int .i64 (E x).s, .int .u64 (E x).q, .int .i64 (E x).d, .int .i64 (E x).k, .int .i64 (E x).v] 64)).ownsRow W0.heap.size 64 6 (.slice gw s1.length cw) s1.length (cellsF (evF E s1) (s1.length * 6))) := ho1.later ((Below.refl _ w1).alloc (Nat.le_refl _) _)
    have HN : Hid (∀ j u, (evL (E x))[j]? = some u → (w1.alloc (.cells #[.int .u64 (E x).t, .int .i64 (E x).s, .int .u64 (E x).q, .int .i64 (E x).d, .int .i64 (E x).k, .int .i64 (E x).v] 64)).cell? ((⟨w1.heap.size, 0, none⟩ : Addr).add j) = some u) := fun j u hj => cells_new w1 (evL (E x)) 64 j u hj
    have HBS : Hid (W0.heap.size ≤ (w1.alloc (.cells #[.int .u64 (E x).t, .int .i64 (E x).s, .int .u64 (E x).q, .int .i64 (E x).d, .int .i64 (E x).k, .int .i64 (E x).v] 64)).heap.size) := by have h8 := hb1.size; have h9 : (w1.alloc (.cells #[.int .u64 (E x).t, .int .i64 (E x).s, .int .u64 (E x).q, .int .i64 (E x).d, .int .i64 (E x).k, .int .i64 (E x).v] 64)).heap.size = w1.heap.size + 1 := World.size_alloc _ _; rw [Hid]; omega
    have HB : Hid (Below W0.heap.size W0 (w1.alloc (.cells #[.int .u64 (E x).t, .int .i64 (E x).s, .int .u64 (E x).q, .int .i64 (E x).d, .int .i64 (E x).k, .int .i64 (E x).v] 64))) := hb1.alloc hb1.size _
    clear ho1 hb1 hT1 HL
    go_upto_region 5 with (at_builtin; refine wpList_append_own_at _ rfl _ _ 27 rfl W0.heap.size 64 i6 _ 6 48 Try.underlying27 hi6 ha6 hb6 hc6 rfl (by decide) _ _ _ rfl HO.out ⟨w1.heap.size, 0, none⟩ 1 1 (evL (E x)) rfl rfl HN.out (by simp [evL, Value.oneCell']) p1 p2 HBS.out ?_; intro v' w9 hown9 hgrow9 _ hat9)
    obtain ⟨g6, c6, hv', hO6, hg6⟩ := list_row (E := E) (p := x) d hown9 hat9
    subst hv'
    have hb9 : Below W0.heap.size W0 w9 := HB.out.grown hgrow9 HBS.out (fun k hk => (hgw k hk).1)
    have hT9 : TB w9 b pl (E x) pr := (hb9.block b lt0).trans hT
    clear t0 t1 t2 t3 t4 t5 t6 t7 lt
    obtain ⟨t0, t1, t2, t3, t4, t5, t6, t7⟩ := hT9.cells
    have lt := lt_of_block hT9
    have hl1 : (s1 ++ [(x, d)]).length = s1.length + 1 := by simp
    have HR := rinorder n r pr _ (s1 ++ [(x, d)]) (d + 1) w9 (by omega) hpr hb9 hO6 (by have := HLL.out; omega)
    have hfin : s1 ++ [(x, d)] ++ r.spots (d + 1) = sn ++ (Tr.node l x r).spots d := by rw [← hsn]; simp [Tr.spots]
    rw [hfin] at HR
    clear HO HN HBS HB hown9 hgrow9 hat9 hO6 hg6 hb9 hT9 hT hpr hi6 ha6 hb6 hc6 hl1 hfin hsn
    go_wp2_with (go_at_call 51; (with_reducible refine HR.mono ?_); rintro e w3 ⟨v3, rfl, ho3, hb3⟩)
    go_ret
    exact ⟨_, rfl, ho3, hb3⟩
set_option maxRecDepth 100000 in
set_option maxHeartbeats 8000000 in
theorem rlist_any {qr : Nat} {E : Nat → Ev} {t : Tr} {most sum : Int} (W : World) (h : RQ W qr E t most sum) (hn : t.size ≤ 8192) : Calls Try.prog 19 #[.pointer (some ⟨qr, 0, none⟩)] W fun e W' => ∃ v, e = .returned v ∧ Own W' W.heap.size 64 6 v t.size (evF E (t.spots 0)) ∧ Below W.heap.size W W' := by
  obtain ⟨p0, hq, hT⟩ := h
  obtain ⟨q0, q1, q2, q3⟩ := hq.cells
  have lq := lt_of_block hq
  have HI := rinorder t.size t p0 (.slice none 0 0) [] 0 W (Nat.le_refl _) hT (Below.refl _ _) Own.nil0 (by simpa using hn)
  clear hq hT
  go_enter Try.func19, Try.ntmps19
  go_wp2_with (go_at_call 51; (with_reducible refine HI.mono ?_); rintro e w1 ⟨v1, rfl, ho1, hb1⟩)
  go_ret
  refine ⟨v1, rfl, ?_, hb1⟩
  rw [List.nil_append, spots_len] at ho1
  exact ho1
set_option maxRecDepth 100000 in
set_option maxHeartbeats 8000000 in
theorem rsplit_any {qr : Nat} {E : Nat → Ev} {t : Tr} {most sum : Int} (u : Int) (W : World) (h : RQ W qr E t most sum) (hn : t.size ≤ 8192) (hne : ∀ x ∈ t.ps, x ≠ 0) (hsum : 0 ≤ sum ∧ sum ≤ 4611686018427387904) : Calls Try.prog 18 #[.pointer (some ⟨qr, 0, none⟩), .int .u64 u] W fun e W' => ∃ v, e = .returned v ∧ Own W' W.heap.size 64 6 v (openT (sdT u E) t).b.size (evF E ((openT (sdT u E) t).b.spots 0)) ∧ RQ W' qr E (openT (sdT u E) t).a most (sum + (openT (sdT u E) t).k) ∧ Ch (S1 qr) W W' := by
  obtain ⟨p0, hq, hT⟩ := h
  obtain ⟨q0, q1, q2, q3⟩ := hq.cells
  have lq := lt_of_block hq
  have hm : (openT (sdT u E) t).m = 0 := openT_none u E t.size t (Nat.le_refl _)
  have hps := openT_ps (side_sdT u E) t.size t (Nat.le_refl _) hne
  have hsz := congrArg List.length hps
  rw [hm, mid0] at hsz
  simp only [List.length_append, List.length_nil, Tr.size_ps] at hsz
  have hk9 : (openT (sdT u E) t).k ≤ t.size := by have := openT_k _ (side_sdT u E) t.size t (Nat.le_refl _); omega
  have hO := open_ref (sdC_T u 0 0 E) t.size t p0 W (Nat.le_refl _) hn hne hT
  unfold cutV at hO
  generalize hOO : openT (sdT u E) t = O at *
  clear hT hne hps hm
  go_enter Try.func18, Try.ntmps18
  go_upto_region 2 with (go_at_call 50; (with_reducible refine hO.mono ?_); rintro e w3 ⟨pa, pm, pb, rfl, ha, hmm, hb, hb3⟩)
  have hq3 := hq.later hb3
  have HA : Hid (RT w3 E O.a pa ∧ RT w3 E O.b pb ∧ QB w3 qr p0 (t.size : Int) most sum ∧ Below W.heap.size W w3) := ⟨ha, hb, hq3, hb3⟩
  clear q0 q1 q2 q3 ha hb hmm hb3 hO hq
  obtain ⟨q0, q1, q2, q3⟩ := hq3.cells
  have zf3 := hq3.frz 3
  have lq3 := lt_of_block hq3
  have es : IntKind.i64.wrap (sum + (O.k : Int)) = sum + (O.k : Int) := by rw [IntKind.wrap_i64]; omega
  clear hq3
  go_upto_region 3 with fail
  generalize hw4 : World.setCell w3 _ _ = w4
  obtain ⟨ha, hb, hq3, hb3⟩ := HA.out
  have hq4 : QB w4 qr p0 (t.size : Int) most (sum + (O.k : Int)) := by rw [← hw4]; exact hq3.setS _
  have ha4 : RT w4 E O.a pa := by rw [← hw4]; exact ha.setQ hq3 _ _
  have hb4 : RT w4 E O.b pb := by rw [← hw4]; exact hb.setQ hq3 _ _
  have hC4 : Ch (S1 qr) W w4 := by rw [← hw4]; exact (Ch.below hb3).trans (Ch.set _ _ _ _ _ rfl)
  clear hw4 HA q0 q1 q2 q3 zf3 hq3 hb3 lq3 es ha hb
  have HA : Hid (RT w4 E O.a pa ∧ RT w4 E O.b pb ∧ QB w4 qr p0 (t.size : Int) most (sum + (O.k : Int)) ∧ Ch (S1 qr) W w4) := ⟨ha4, hb4, hq4, hC4⟩
  obtain ⟨q0, q1, q2, q3⟩ := hq4.cells
  have zf0 := hq4.frz 0
  have lq4 := lt_of_block hq4
  clear ha4 hb4 hq4 hC4
  go_upto_region 4 with fail
  generalize hw5 : World.setCell w4 _ _ = w5
  obtain ⟨ha, hb, hq3, hC4⟩ := HA.out
  have hq5 : QB w5 qr pa (t.size : Int) most (sum + (O.k : Int)) := by rw [← hw5]; exact hq3.setT _
  have ha5 : RT w5 E O.a pa := by rw [← hw5]; exact ha.setQ hq3 _ _
  have hb5 : RT w5 E O.b pb := by rw [← hw5]; exact hb.setQ hq3 _ _
  have hC5 : Ch (S1 qr) W w5 := by rw [← hw5]; exact hC4.trans (Ch.set _ _ _ _ _ rfl)
  clear hw5 HA q0 q1 q2 q3 zf0 hq3 hC4 lq4 ha hb
  have HI := rinorder O.b.size O.b pb (.slice none 0 0) [] 0 w5 (Nat.le_refl _) hb5 (Below.refl _ _) Own.nil0 (by simp; omega)
  have HA : Hid (RT w5 E O.a pa ∧ QB w5 qr pa (t.size : Int) most (sum + (O.k : Int)) ∧ Ch (S1 qr) W w5) := ⟨ha5, hq5, hC5⟩
  clear ha5 hb5 hC5 hq5
  go_upto_region 5 with (go_at_call 51; (with_reducible refine HI.mono ?_); rintro e w6 ⟨v6, rfl, ho6, hb6⟩)
  obtain ⟨ha5, hq5, hC5⟩ := HA.out
  rw [List.nil_append, spots_len] at ho6
  have hq6 := hq5.later hb6
  have ha6 := ha5.later hb6
  have hC6 : Ch (S1 qr) W w6 := hC5.trans (Ch.below hb6)
  have hs5 := hC5.size
  obtain ⟨gw, cw, hv6, hgw⟩ := own_slice8 ho6
  subst hv6
  have hqg : (Value.slice gw O.b.size cw).ownBlock ≠ some qr := fun e => by have := hgw qr e; have := lt_of_block hq5; omega
  have HA : Hid (RT w6 E O.a pa ∧ QB w6 qr pa (t.size : Int) most (sum + (O.k : Int)) ∧ Ch (S1 qr) W w6 ∧ Own w6 w5.heap.size 64 6 (.slice gw O.b.size cw) O.b.size (evF E (O.b.spots 0))) := ⟨ha6, hq6, hC6, ho6⟩
  obtain ⟨q0, q1, q2, q3⟩ := hq6.cells
  have zf1 := hq6.frz 1
  have lq6 := lt_of_block hq6
  have en : IntKind.i64.wrap ((t.size : Int) - (O.b.size : Int)) = (O.a.size : Int) := by rw [IntKind.wrap_i64]; omega
  clear HI ha5 hq5 hC5 ha6 hq6 hC6 ho6 hb6
  go_wp2_with fail
  go_ret
  obtain ⟨ha6, hq6, hC6, ho6⟩ := HA.out
  subst hOO
  exact ⟨_, rfl, (ho6.far fun k hk => Below.heap_setCell _ _ _ _ fun e => hqg (by rw [hk, show k = qr from e])).lower (by omega), ⟨pa, hq6.setN _, ha6.setQ hq6 _ _⟩, hC6.trans (Ch.set _ _ _ _ _ rfl)⟩
end Go.Proofs.Ytlklolmhaiaaiaa
namespace Go.Proofs.Ytlklolmhaiaaiaa
open Go.ChangeShapes Go.WideShapes Go.ChangeAt Go.RowKit
set_option linter.unusedVariables false
set_option linter.unusedSimpArgs false

set_option maxRecDepth 100000 in
set_option maxHeartbeats 8000000 in
/-- all depths of a tree, laid behind those that are there -/
theorem rdeep {E : Nat → Ev} {W0 : World} : ∀ (n : Nat) (t : Tr) (p : Option Addr) (v : Value) (sn : List (Nat × Nat)) (d : Nat) (W : World), t.size ≤ n → RT W0 E t p → Below W0.heap.size W0 W → Own W W0.heap.size 3 1 v sn.length (dpF sn) → sn.length + t.size ≤ 8192 → d + t.size ≤ 8192 →
    Calls Try.prog 52 #[.pointer p, .int .i64 (d : Int), v] W fun e W' => ∃ v', e = .returned v' ∧ Own W' W0.heap.size 3 1 v' (sn ++ t.spots d).length (dpF (sn ++ t.spots d)) ∧ Below W0.heap.size W0 W'
  | n, .nil, p, v, sn, d, W, hn, h, hb, ho, hl, hdl => by
    have h9 : p = none := h
    subst h9
    have e : sn ++ Tr.nil.spots d = sn := by simp [Tr.spots]
    rw [e]
    have HO : Hid (Own W W0.heap.size 3 1 v sn.length (dpF sn) ∧ Below W0.heap.size W0 W) := ⟨ho, hb⟩
    clear ho hb h e
    go_enter Try.func52, Try.ntmps52
    go_wp2_with fail
    go_ret
    exact ⟨v, rfl, HO.out.1, HO.out.2⟩
  | 0, .node l x r, p, v, sn, d, W, hn, h, hb, ho, hl, hdl => by simp [Tr.size] at hn
  | n + 1, .node l x r, p, v, sn, d, W, hn, h, hb, ho, hl, hdl => by
    obtain ⟨i6, hi6, ha6, hb6, hc6⟩ := qinfo infoI1
    obtain ⟨b, pl, pr, rfl, hT, hpl, hpr⟩ := h
    simp only [Tr.size] at hn hl hdl
    have ed : IntKind.i64.wrap ((d : Int) + 1) = (d : Int) + 1 := by rw [IntKind.wrap_i64]; omega
    have lt0 := lt_of_block hT
    have hTW : TB W b pl (E x) pr := (hb.block b lt0).trans hT
    obtain ⟨t0, t1, t2, t3, t4, t5, t6, t7⟩ := hTW.cells
    have lt := lt_of_block hTW
    have HL := rdeep n l pl v sn (d + 1) W (by omega) hpl hb ho (by omega) (by omega)
    rw [show ((d + 1 : Nat) : Int) = (d : Int) + 1 by omega] at HL
    have HH : Hid (TB W0 b pl (E x) pr ∧ RT W0 E r pr ∧ b < W0.heap.size) := ⟨hT, hpr, lt0⟩
    have hll : (sn ++ l.spots (d + 1)).length = sn.length + l.size := by rw [List.length_append, spots_len]
    clear hT hTW hpl hpr ho hb lt0
    go_enter Try.func52, Try.ntmps52
    go_upto_region 4 with (go_at_call 52; (with_reducible refine HL.mono ?_); rintro e w1 ⟨v1, rfl, ho1, hb1⟩)
    clear t0 t1 t2 t3 t4 t5 t6 t7 lt
    obtain ⟨hT, hpr, lt0⟩ := HH.out
    have hT1 : TB w1 b pl (E x) pr := (hb1.block b lt0).trans hT
    obtain ⟨t0, t1, t2, t3, t4, t5, t6, t7⟩ := hT1.cells
    have lt := lt_of_block hT1
    generalize hsn : sn ++ l.spots (d + 1) = s1 at *
    obtain ⟨gw, cw, hv1, hgw⟩ := own_slice8 ho1
    subst hv1
    have p1 : s1.length + 1 ≤ maxLen := by unfold maxLen; omega
    have p2 : (s1.length + 1) * 8 ≤ 140737488355328 := by omega
    have HLL : Hid (s1.length = sn.length + l.size) := hll
    clear hll
    have HO : Hid ((w1.alloc (.cells #[.int .i64 (d : Int)] 3)).ownsRow W0.heap.size 3 1 (.slice gw s1.length cw) s1.length (cellsF (dpF s1) (s1.length * 1))) := ho1.later ((Below.refl _ w1).alloc (Nat.le_refl _) _)
    have HN : Hid (∀ j u, [.int .i64 (d : Int)][j]? = some u → (w1.alloc (.cells #[.int .i64 (d : Int)] 3)).cell? ((⟨w1.heap.size, 0, none⟩ : Addr).add j) = some u) := fun j u hj => cells_new w1 [.int .i64 (d : Int)] 3 j u hj
    have HBS : Hid (W0.heap.size ≤ (w1.alloc (.cells #[.int .i64 (d : Int)] 3)).heap.size) := by have h8 := hb1.size; have h9 : (w1.alloc (.cells #[.int .i64 (d : Int)] 3)).heap.size = w1.heap.size + 1 := World.size_alloc _ _; rw [Hid]; omega
    have HB : Hid (Below W0.heap.size W0 (w1.alloc (.cells #[.int .i64 (d : Int)] 3))) := hb1.alloc hb1.size _
    clear ho1 hb1 hT1 HL
    go_upto_region 5 with (at_builtin; refine wpList_append_own_at _ rfl _ _ 33 rfl W0.heap.size 3 i6 _ 1 8 Try.underlying33 hi6 ha6 hb6 hc6 rfl (by decide) _ _ _ rfl HO.out ⟨w1.heap.size, 0, none⟩ 1 1 [.int .i64 (d : Int)] rfl rfl HN.out (by simp [Value.oneCell']) p1 p2 HBS.out ?_; intro v' w9 hown9 hgrow9 _ hat9)
    obtain ⟨g6, c6, hv', hO6, hg6⟩ := dep_row x d hown9 hat9
    subst hv'
    have hb9 : Below W0.heap.size W0 w9 := HB.out.grown hgrow9 HBS.out (fun k hk => (hgw k hk).1)
    have hT9 : TB w9 b pl (E x) pr := (hb9.block b lt0).trans hT
    clear t0 t1 t2 t3 t4 t5 t6 t7 lt
    obtain ⟨t0, t1, t2, t3, t4, t5, t6, t7⟩ := hT9.cells
    have lt := lt_of_block hT9
    have hl1 : (s1 ++ [(x, d)]).length = s1.length + 1 := by simp
    have HR := rdeep n r pr _ (s1 ++ [(x, d)]) (d + 1) w9 (by omega) hpr hb9 hO6 (by have := HLL.out; omega) (by omega)
    have hfin : s1 ++ [(x, d)] ++ r.spots (d + 1) = sn ++ (Tr.node l x r).spots d := by rw [← hsn]; simp [Tr.spots]
    rw [hfin] at HR
    rw [show ((d + 1 : Nat) : Int) = (d : Int) + 1 by omega] at HR
    clear HO HN HBS HB hown9 hgrow9 hat9 hO6 hg6 hb9 hT9 hT hpr hi6 ha6 hb6 hc6 hl1 hfin hsn
    go_wp2_with (go_at_call 52; (with_reducible refine HR.mono ?_); rintro e w3 ⟨v3, rfl, ho3, hb3⟩)
    go_ret
    exact ⟨_, rfl, ho3, hb3⟩
set_option maxRecDepth 100000 in
set_option maxHeartbeats 8000000 in
theorem rdepths_any {qr : Nat} {E : Nat → Ev} {t : Tr} {most sum : Int} (W : World) (h : RQ W qr E t most sum) (hn : t.size ≤ 8192) : Calls Try.prog 21 #[.pointer (some ⟨qr, 0, none⟩)] W fun e W' => ∃ v, e = .returned v ∧ Own W' W.heap.size 3 1 v t.size (dpF (t.spots 0)) ∧ Below W.heap.size W W' := by
  obtain ⟨p0, hq, hT⟩ := h
  obtain ⟨q0, q1, q2, q3⟩ := hq.cells
  have lq := lt_of_block hq
  have HI := rdeep t.size t p0 (.slice none 0 0) [] 0 W (Nat.le_refl _) hT (Below.refl _ _) Own.nil0 (by simpa using hn) (by omega)
  rw [show ((0 : Nat) : Int) = 0 from rfl] at HI
  clear hq hT
  go_enter Try.func21, Try.ntmps21
  go_wp2_with (go_at_call 52; (with_reducible refine HI.mono ?_); rintro e w1 ⟨v1, rfl, ho1, hb1⟩)
  go_ret
  refine ⟨v1, rfl, ?_, hb1⟩
  rw [List.nil_append, spots_len] at ho1
  exact ho1
end Go.Proofs.Ytlklolmhaiaaiaa
