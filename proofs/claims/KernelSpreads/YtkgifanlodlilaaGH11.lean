import Derived.Test.YtkgifanlodlilaaGH10
import Derived.Deep.RegionLaw
import Derived.Maps.AppendAt
import Derived.Deep.AppendLies
import Derived.Laws.Append
import Derived.Deep.RegionHeld3
import Derived.Deep.Cut
import Derived.Deep.DeepCutAuto
import Derived.Deep.CutBlock
import Derived.Deep.CutRange
import Derived.BigQuiet
import Derived.Handy
namespace Go.Proofs.Ytkgifanlodlilaa
open Go.ChangeShapes Go.WideShapes Go.ChangeAt Go.RowKit
set_option linter.unusedVariables false
set_option linter.unusedSimpArgs false


/-- a list of ints of the call's own, nil or not -/
def OI (W : World) (B : Nat) (v : Value) (n : Nat) (f : Nat → Int) : Prop := Own W B 3 1 v n (fun j => .int .i64 (f j))
def snc (f : Nat → Int) (n : Nat) (k : Int) : Nat → Int := fun j => if j < n then f j else k
theorem oi_cells (f : Nat → Int) (n : Nat) (k : Int) : cellsF (fun j => Value.int .i64 (f j)) (n * 1) ++ [.int .i64 k] = cellsF (fun j => Value.int .i64 (snc f n k j)) ((n + 1) * 1) := by
  have e : [Value.int .i64 k] = cellsF (fun _ => Value.int .i64 k) 1 := rfl
  rw [e, cellsF_append, show (n + 1) * 1 = n * 1 + 1 by omega]
  refine cellsF_congr fun j hj => ?_
  unfold snc
  rw [Nat.mul_one]
  split <;> rfl
theorem OI.cell {W : World} {B g n c : Nat} {f : Nat → Int} (h : OI W B (.slice (some ⟨g, 0, none⟩) n c) n f) {i : Nat} (hi : i < n) : W.cell? ⟨g, i, none⟩ = some (.int .i64 (f i)) := Own.cell h (j := i) (by omega)
theorem OI.nil (W : World) (B : Nat) (f : Nat → Int) : OI W B (.slice none 0 0) 0 f := by
  unfold OI Own
  exact World.ownsRow_nil _ _ _ _
theorem OI.form {W : World} {B n : Nat} {v : Value} {f : Nat → Int} (h : OI W B v n f) : (v = .slice none 0 0 ∧ n = 0) ∨ ∃ g c, v = .slice (some ⟨g, 0, none⟩) n c ∧ B ≤ g ∧ g < W.heap.size := Own.form h
theorem OI.kat {W : World} {B n : Nat} {v : Value} {f : Nat → Int} (h : OI W B v n f) : ∃ q c, v = .slice q n c ∧ KAt W q n f := by
  rcases h.form with ⟨rfl, rfl⟩ | ⟨g, c, rfl, h1, h2⟩
  · exact ⟨none, 0, rfl, .inl rfl⟩
  · exact ⟨_, c, rfl, .inr ⟨g, 0, rfl, h2, fun j hj => by rw [Nat.zero_add]; exact h.cell hj⟩⟩
theorem OI.later {W W' : World} {B n : Nat} {v : Value} {f : Nat → Int} (h : OI W B v n f) (hb : Below W.heap.size W W') : OI W' B v n f := Own.later h hb
theorem OI.lower {W : World} {B B' n : Nat} {v : Value} {f : Nat → Int} (h : OI W B v n f) (hb : B' ≤ B) : OI W B' v n f := Own.lower h hb
theorem app_own {W : World} {B n : Nat} {v : Value} {f : Nat → Int} (h : OI W B v n f) (hB : B ≤ W.heap.size) (hn : n ≤ 1000) (k : Int) :
    ∃ v' W', (Builtin.append_ #[28, 28] 28 #[v, .slice (some ⟨W.heap.size, 0, none⟩) 1 1]).run Try.prog (W.alloc (.cells #[.int .i64 k] 3)) = .ok v' W' ∧ OI W' B v' (n + 1) (snc f n k) ∧ Below B W W' ∧ (∀ j, j < W.heap.size → v.ownBlock ≠ some j → W'.heap[j]? = W.heap[j]?) ∧ W.heap.size ≤ W'.heap.size := by
  obtain ⟨i5, hi5, ha5, hb5, hc5⟩ := info_parts infoInt1
  have hb0 : Below W.heap.size W (W.alloc (.cells #[.int .i64 k] 3)) := (Below.refl _ W).alloc (Nat.le_refl _) _
  obtain ⟨v', W', hr, h2, h3, h4, h5⟩ := run_append_own_at (P := Try.prog) (W.alloc (.cells #[.int .i64 k] 3)) B 28 28 3 i5 (.int .i64 0) 1 8 Try.underlying28 hi5 ha5 hb5 hc5 rfl (by decide) v n _ (h.later hb0) ⟨W.heap.size, 0, none⟩ 1 1 [.int .i64 k] rfl (World.news_of_block (cs := #[Value.int .i64 k]) (World.alloc_heap_new W _)) (by intro u hu; simp at hu; subst hu; rfl) (by unfold maxLen; omega) (by omega) (by rw [World.size_alloc]; omega)
  refine ⟨v', W', hr, ?_, ?_, fun j hj hne => ?_, ?_⟩
  · unfold OI Own
    rw [← oi_cells]
    exact h2
  · exact (hb0.mono hB).trans ((Below.refl _ _).grown h3 (by rw [World.size_alloc]; omega) fun k hk => (Own.lt h k hk).1)
  · rw [h3.block j (by rw [World.size_alloc]; omega) (fun e => hne e.symm)]
    exact Below.heap_alloc _ _ _ hj
  · have := h3.size
    rw [World.size_alloc] at this
    omega
set_option maxRecDepth 100000 in
theorem app_new {W : World} {q : Option Addr} {n c : Nat} {f : Nat → Int} (h : KAt W q n f) (hc : q = none ∧ n = 0 ∧ c = 0 ∨ ∃ g o, q = some ⟨g, o, none⟩ ∧ c = n) (hn : n ≤ 1000) (k : Int) :
    ∃ v' W', (Builtin.append_ #[28, 28] 28 #[.slice q n c, .slice (some ⟨W.heap.size, 0, none⟩) 1 1]).run Try.prog (W.alloc (.cells #[.int .i64 k] 3)) = .ok v' W' ∧ OI W' W.heap.size v' (n + 1) (snc f n k) ∧ Below W.heap.size W W' := by
  rcases hc with ⟨rfl, rfl, rfl⟩ | ⟨g, o, rfl, rfl⟩
  · obtain ⟨v', W', h1, h2, h3, -, -⟩ := app_own (OI.nil W W.heap.size f) (Nat.le_refl _) (by omega) k
    exact ⟨v', W', h1, h2, h3⟩
  · obtain ⟨i5, hi5, ha5, hb5, hc5⟩ := info_parts infoInt1
    have hb0 : Below W.heap.size W (W.alloc (.cells #[.int .i64 k] 3)) := (Below.refl _ W).alloc (Nat.le_refl _) _
    have hr := run_append_grow (P := Try.prog) (W.alloc (.cells #[.int .i64 k] 3)) 28 28 3 i5 (.int .i64 0) Try.underlying28 hi5 ha5 ⟨g, o, none⟩ c c (cellsF (fun j => Value.int .i64 (f j)) (c * 1)) (by rw [cellsF_len, hb5]) (fun j v hj => by
        have hlt : j < c := by
          have := (List.getElem?_eq_some_iff.1 hj).1
          rw [cellsF_len] at this
          omega
        rw [cellsF_at _ (by omega)] at hj
        rcases h with h | ⟨g', o', e', hl, hh⟩
        · omega
        · injection e' with e'
          injection e' with e1 e2
          subst e1 e2
          rw [addr_add0]
          injection hj with hj
          rw [← hj]
          have h9 := (cell_below (a := ⟨g, o + j, none⟩) hb0 hl).trans (hh j hlt)
          exact h9) ⟨W.heap.size, 0, none⟩ 1 1 [.int .i64 k] (by rw [hb5]; rfl) (World.news_of_block (cs := #[Value.int .i64 k]) (World.alloc_heap_new W _)) (by omega) (by omega) (growslice_fits (by omega) (by rw [hc5]; omega))
    have hge := grownCap_ge (W.alloc (.cells #[.int .i64 k] 3)) (c + 1) c 3
    have hcm := grownCap_le_maxLen (W.alloc (.cells #[.int .i64 k] 3)) (c + 1) c 3 (by unfold maxLen; omega)
    have hlen : (cellsF (fun j => Value.int .i64 (f j)) (c * 1) ++ [Value.int .i64 k]).length = (c + 1) * 1 := by rw [List.length_append, cellsF_len]; rfl
    have hzs : (Value.int .i64 0).cells.size = 1 := rfl
    refine ⟨_, _, hr, ?_, ?_⟩
    · unfold OI Own
      rw [← oi_cells]
      refine ⟨hlen, .inr ⟨(W.alloc (.cells #[.int .i64 k] 3)).heap.size, _, _, rfl, by rw [World.size_alloc]; omega, heap_alloc_new (W.alloc (.cells #[.int .i64 k] 3)).drew _, hge, hcm, ?_, ?_⟩⟩
      · simp only [Array.size_append, List.size_toArray, size_zeroCells, hzs, cellsF_len, List.length_singleton]
        omega
      · simp only [Array.toList_append, List.append_assoc]
        rw [← List.append_assoc, ← hlen]
        exact List.take_left
    · exact (hb0.trans ((drewG _).mono hb0.size)).alloc (by show W.heap.size ≤ (W.alloc _).heap.size; rw [World.size_alloc]; omega) _
theorem wp_app {ops : Array Oper} {rest : List Oper} {o : Oper} {a : Act} {w : World} {Q : Exit → Act → World → Prop} (hgd : o.guard = none) (s x : Operand)
    (ho : o.op = .call { callee := .builtin .append, args := #[s, x], argTypes := #[28, 28] }) (hty : o.type = 28) {v x' v' : Value} {W' : World} (hs : a.eval s = v) (hx : a.eval x = x')
    (hr : (Builtin.append_ #[28, 28] 28 #[v, x']).run Try.prog w = .ok v' W') (h : wpList Try.prog ops Q rest (a.put o.dst v') W') : wpList Try.prog ops Q (o :: rest) a w := by
  refine wpList_plain hgd fun K hK => ?_
  unfold Oper.wp
  simp [execOp, ho, hty, resolve, invoke, builtin, hs, hx, hr, Result.andThen]
  exact hK _ _ h
set_option maxRecDepth 100000 in
set_option maxHeartbeats 2000000 in
theorem lowners_any (q : Option Addr) (n c : Nat) (f : Nat → Int) (k : Int) (hc : q = none ∧ n = 0 ∧ c = 0 ∨ ∃ g o, q = some ⟨g, o, none⟩ ∧ c = n) (hn : n ≤ 64) (w : World) (h : KAt w q n f) :
    Calls Try.prog 11 #[.slice q n c, .int .i64 k] w fun e w' => ∃ v, e = .returned v ∧ OI w' w.heap.size v (n + 64) (snc f n k) ∧ Below w.heap.size w w' := by
  have H0 : Hid (KAt w q n f ∧ (q = none ∧ n = 0 ∧ c = 0 ∨ ∃ g o, q = some ⟨g, o, none⟩ ∧ c = n)) := ⟨h, hc⟩
  clear h hc
  go_enter Try.func11, Try.ntmps11
  go_wp2_with fail
  go_loopw [0, 5] (fun v y wr => ∃ (j : Nat), y = .int .i64 (j : Int) ∧ j ≤ 64 ∧ ((j = 0 ∧ v = .slice q n c ∧ wr = w) ∨ (OI wr w.heap.size v (n + j) (snc f n k) ∧ Below w.heap.size w wr))) (fun _ y _ => 64 - (intOf y).toNat)
  case atStart => exact ⟨0, rfl, by omega, .inl ⟨rfl, rfl, rfl⟩⟩
  case round =>
    obtain ⟨j, rfl, hj, hst⟩ := hrel
    by_cases hlt : j < 64
    · have dlt : decide ((j : Int) < 64) = true := by simp; omega
      have hm := gmeas hlt
      have ei : IntKind.i64.wrap ((j : Int) + 1) = (j : Int) + 1 := by rw [IntKind.wrap_i64]; omega
      obtain ⟨v', w2, hr2, ho2, hb2⟩ : ∃ v' w2, (Builtin.append_ #[28, 28] 28 #[u0, .slice (some ⟨wr.heap.size, 0, none⟩) 1 1]).run Try.prog (wr.alloc (.cells #[.int .i64 k] 3)) = .ok v' w2 ∧ OI w2 w.heap.size v' (n + (j + 1)) (snc f n k) ∧ Below w.heap.size w w2 := by
        rcases hst with ⟨e1, e2, e3⟩ | ⟨h1, h2⟩
        · subst e1 e2 e3
          exact app_new H0.out.1 H0.out.2 (by omega) k
        · obtain ⟨v', w2, g1, g2, g3, -, -⟩ := app_own h1 h2.size (by omega) k
          exact ⟨v', w2, g1, Own.congr g2 fun i hi => by
            unfold snc
            split <;> (try split) <;> (first | rfl | omega), h2.trans (g3.mono (Nat.le_refl _))⟩
      have H2 : Hid (OI w2 w.heap.size v' (n + (j + 1)) (snc f n k) ∧ Below w.heap.size w w2) := ⟨ho2, hb2⟩
      have HR2 := hid6 hr2
      clear hst ho2 hb2 hr2
      go_wp2_with (at_builtin; refine wp_app rfl _ _ rfl rfl rfl rfl HR2.out ?_)
      exact ⟨⟨j + 1, rfl, hlt, .inr H2.out⟩, hm⟩
    · have dlt : decide ((j : Int) < 64) = false := by simp; omega
      obtain rfl : j = 64 := by omega
      rcases hst with ⟨e1, _⟩ | ⟨h1, h2⟩
      · omega
      have H2 : Hid (OI wr w.heap.size u0 (n + 64) (snc f n k) ∧ Below w.heap.size w wr) := ⟨h1, h2⟩
      clear h1 h2
      go_wp2_with fail
      go_ret
      exact ⟨u0, rfl, H2.out⟩
end Go.Proofs.Ytkgifanlodlilaa
