import Derived.Test.YtlojkcodndjfbaaY33
import Derived.Test.YtlojkcodndjfbaaRG2
import Derived.LoopNIn
import Derived.LoopIn
import Derived.Stop.RegionWithIn
namespace Go.Proofs.Ytlojkcodndjfbaa
open Go.ChangeShapes Go.WideShapes Go.ChangeAt Go.RowKit
set_option linter.unusedVariables false
set_option linter.unusedSimpArgs false
attribute [local go_sem] Oper.semAt_some

/-! ### splay's Each: the list is made as the ranging begins; whoever takes may change the queue -/
theorem each_any (qb : Nat) (w : World) :
    Calls Try.prog 6 #[.pointer (some ⟨qb, 0, none⟩)] w fun e w' => e = .returned (.func (.func 24) #[] #[.pointer (some ⟨w.heap.size, 0, none⟩)]) ∧ w' = w.alloc (.cells #[.pointer (some ⟨qb, 0, none⟩)] 29) := by
  go_enter Try.func6, Try.ntmps6
  go_wp2
  go_ret
  exact ⟨rfl, rfl⟩
theorem evsAt1 {W : World} {b N : Nat} {X : Nat → Ev} (h : EvsL W b N X) {i : Nat} (hi : i < N) : W.cell? ⟨b, i * 6, none⟩ = some (.int .u64 (X i).t) ∧ W.cell? ⟨b, i * 6 + 1, none⟩ = some (.int .i64 (X i).s) ∧ W.cell? ⟨b, i * 6 + 2, none⟩ = some (.int .u64 (X i).q) ∧ W.cell? ⟨b, i * 6 + 3, none⟩ = some (.int .i64 (X i).d) ∧ W.cell? ⟨b, i * 6 + 4, none⟩ = some (.int .i64 (X i).k) ∧ W.cell? ⟨b, i * 6 + 5, none⟩ = some (.int .i64 (X i).v) :=
  ⟨h.2 i 0 hi (by omega), h.2 i 1 hi (by omega), h.2 i 2 hi (by omega), h.2 i 3 hi (by omega), h.2 i 4 hi (by omega), h.2 i 5 hi (by omega)⟩
theorem evsKeep {W W' : World} {b N : Nat} {X : Nat → Ev} (h : EvsL W b N X) (hs : W.heap.size ≤ W'.heap.size) (hb : W'.heap[b]? = W.heap[b]?) : EvsL W' b N X :=
  ⟨Nat.lt_of_lt_of_le h.1 hs, fun i r hi hr => (World.cell?_of_block hb).trans (h.2 i r hi hr)⟩
set_option maxRecDepth 100000 in
set_option maxHeartbeats 4000000 in
theorem each1_mut (W : World) (base qb g : Nat) (room wb : Int) (L : List Ev) (hq : QS base qb g room wb L W) (hn : L.length ≤ 8192) (n Lp : Nat) (lo : Obj) (bx : Nat) (hbx : W.heap[bx]? = some (.cells #[.pointer (some ⟨qb, 0, none⟩)] 29 (0, 0))) (hl : W.heap[Lp]? = some lo) (hLq : ¬ S2 qb g Lp)
    (J : Nat → Nat → World → Prop) (Xs : Nat → Nat → World → Prop)
    (hJ0 : ∀ (b : Nat) (W' : World), QS base qb g room wb L W' → Ch (S2 qb g) W W' → W.heap.size ≤ b → b < W'.heap.size → J b 0 W')
    (hJb : ∀ (b i : Nat) (w w' : World), J b i w → Below w.heap.size w w' → J b i w')
    (hY : ∀ (m b i : Nat) (e : Ev) (w : World), L[i]? = some e → J b i w → b < w.heap.size → w.heap[Lp]? = some lo → YieldAt Fence.wide m Try.prog Lp #[.agg #[.int .u64 e.t, .int .i64 e.s, .int .u64 e.q, .int .i64 e.d, .int .i64 e.k, .int .i64 e.v]] w fun r w' => (r = .returned (.bool true) ∧ w'.heap[Lp]? = some lo ∧ J b (i + 1) w' ∧ w'.heap[b]? = w.heap[b]? ∧ w.heap.size ≤ w'.heap.size) ∨ (r = .returned (.bool false) ∧ Xs b i w')) :
    CallsIn Fence.wide n Try.prog 24 #[.func (.yield Lp) #[] #[], .pointer (some ⟨bx, 0, none⟩)] W fun r W' => (∃ v, r = .returned v) ∧ ((∃ b, J b L.length W' ∧ W'.heap[Lp]? = some lo) ∨ ∃ b i, i < L.length ∧ Xs b i W') := by
  have hc : W.cell? ⟨bx, 0, none⟩ = some (.pointer (some ⟨qb, 0, none⟩)) := by simp [World.cell?, hbx]
  have HS := listS W hq
  have hLs : Lp < W.heap.size := (Array.getElem?_eq_some_iff.1 hl).1
  have HA : Hid (W.heap[Lp]? = some lo ∧ ¬ S2 qb g Lp ∧ Lp < W.heap.size) := ⟨hl, hLq, hLs⟩
  have HJ : Hid ((∀ (b : Nat) (W' : World), QS base qb g room wb L W' → Ch (S2 qb g) W W' → W.heap.size ≤ b → b < W'.heap.size → J b 0 W') ∧ ∀ (b i : Nat) (w w' : World), J b i w → Below w.heap.size w w' → J b i w') := ⟨hJ0, hJb⟩
  obtain ⟨N, hN⟩ : ∃ N, L.length = N := ⟨_, rfl⟩
  rw [hN] at HS hn ⊢
  clear hq hl hLq hLs hJ0 hJb hN hbx
  refine callsIn_of_wp Try.func24 rfl trivial ?_ rfl
  simp only [Try.ntmps24, List.size_toArray, List.length_cons, List.length_nil, Nat.reduceAdd, Nat.reduceSub, Array.replicate_succ, Array.replicate_zero, List.push_toArray, List.append_toArray, List.nil_append, List.cons_append]
  gi_wp2_with (refine ⟨trivial, (fun h => by cases h), ?_⟩; gi_at_call 8; (with_reducible refine (callsIn_wide.2 HS).mono ?_); rintro e w1 ⟨b, X, rfl, h1, h2, h3, h4, h5, h6⟩)
  have HR : Hid (EvsL w1 b N X ∧ (∀ i, i < N → L[i]? = some (X i)) ∧ J b 0 w1 ∧ w1.heap[Lp]? = some lo) := ⟨h1, h3, HJ.out.1 b w1 h5 h6 h4 h1.1, (h6.block Lp HA.out.2.2 HA.out.2.1).trans HA.out.1⟩
  clear h1 h2 h3 h4 h5 h6 HS hc
  gi_loopw [8] (fun v wr => ∃ i : Nat, v = .int .i64 (i : Int) ∧ i ≤ N ∧ J b i wr ∧ EvsL wr b N X ∧ wr.heap[Lp]? = some lo) (fun v _ => N - (intOf v).toNat)
  case atStart => exact ⟨0, rfl, Nat.zero_le _, HR.out.2.2.1, HR.out.1, HR.out.2.2.2⟩
  case round =>
    obtain ⟨i, rfl, hi, hj, he, hlr⟩ := hrel
    by_cases hlt : i < N
    case neg =>
      have dlt : decide ((i : Int) < (N : Int)) = false := by simp; omega
      obtain rfl : i = N := by omega
      have HF : Hid (J b i wr ∧ wr.heap[Lp]? = some lo) := ⟨hj, hlr⟩
      clear hj he hlr hY
      gi_wp2
      first
        | (go_end0; exact ⟨⟨_, rfl⟩, .inl ⟨b, HF.out⟩⟩)
        | (refine bodyPost_ret (results_none rfl _ _ _) rfl ?_; exact ⟨⟨_, rfl⟩, .inl ⟨b, HF.out⟩⟩)
    have dlt : decide ((i : Int) < (N : Int)) = true := by simp; omega
    have i0 : (0 : Int) ≤ (i : Int) := by omega
    have i1 : (i : Int) < (N : Int) := by omega
    have ei : IntKind.i64.wrap ((i : Int) + 1) = (i : Int) + 1 := by rw [IntKind.wrap_i64]; omega
    obtain ⟨x0, x1, x2, x3, x4, x5⟩ := evsAt1 he hlt
    have hal := (Below.refl wr.heap.size wr).alloc (Nat.le_refl _) (.cells #[.int .u64 (X i).t, .int .i64 (X i).s, .int .u64 (X i).q, .int .i64 (X i).d, .int .i64 (X i).k, .int .i64 (X i).v] 27)
    have hLs : Lp < wr.heap.size := (Array.getElem?_eq_some_iff.1 hlr).1
    obtain ⟨fn, tm, asg, bd, hy, hRd⟩ := hY (n - 1) b i (X i) (wr.alloc (.cells #[.int .u64 (X i).t, .int .i64 (X i).s, .int .u64 (X i).q, .int .i64 (X i).d, .int .i64 (X i).k, .int .i64 (X i).v] 27)) (HR.out.2.1 i hlt) (HJ.out.2 _ _ _ _ hj hal) (Nat.lt_of_lt_of_le he.1 hal.size) ((hal.block Lp hLs).trans hlr)
    have HE : Hid (EvsL (wr.alloc (.cells #[.int .u64 (X i).t, .int .i64 (X i).s, .int .u64 (X i).q, .int .i64 (X i).d, .int .i64 (X i).k, .int .i64 (X i).v] 27)) b N X) := he.later hal
    clear hj he hlr hal hLs hY
    gi_wp2
    refine ⟨(fun h => by cases h), ?_⟩
    refine hRd.mono ?_
    rintro e' w2 (⟨rfl, hl2, hj2, hb2, hs2⟩ | ⟨rfl, hx2⟩)
    · have HN : Hid (J b (i + 1) w2 ∧ EvsL w2 b N X ∧ w2.heap[Lp]? = some lo) := ⟨hj2, evsKeep HE.out hs2 hb2, hl2⟩
      clear hy hRd hl2 hj2 hb2 hs2 x0 x1 x2 x3 x4 x5
      gi_wp2
      exact ⟨⟨i + 1, rfl, hlt, HN.out⟩, by simp [intOf]; omega⟩
    · clear hy hRd x0 x1 x2 x3 x4 x5
      gi_wp2
      refine bodyPost_ret (results_none rfl _ _ _) rfl ?_
      exact ⟨⟨_, rfl⟩, .inr ⟨b, i, hlt, hx2⟩⟩
end Go.Proofs.Ytlojkcodndjfbaa
