import Derived.RangeFuncNested
import Derived.RangeFuncBound
import Derived.RangeFuncCalls
import Derived.RangeFuncLeaves
import Derived.OwnWalkIn
import Derived.TacticsInMore
import Derived.Test.YtlklolmhaiaaiaaProg
import Derived.Test.YtlklolmhaiaaiaaKY35
import Derived.LoopNIn
import Derived.LoopIn
import Derived.Stop.RegionWithIn
import Derived.Test.YtlklolmhaiaaiaaKYP4
namespace Go.Proofs.Ytlklolmhaiaaiaa
open Go.RowKit
attribute [local go_sem] Oper.semAt_some

/-- two worlds that differ in one block alone -/
def But (L : Nat) (W W' : World) : Prop := (W'.os = W.os ∧ W'.tape = W.tape ∧ W'.output = W.output) ∧ W'.heap.size = W.heap.size ∧ ∀ k : Nat, k ≠ L → W'.heap[k]? = W.heap[k]?
theorem But.put (L : Nat) (W : World) (o : Obj) : But L W (W.putObj L o) := ⟨⟨rfl, rfl, rfl⟩, by simp, fun k hk => World.putObj_heap_other hk⟩
/-- how a round of a range over a function is left, with the loop's own block as it was -/
def rexit (O : World → Prop) (Ox : Code → World → Prop) : Exit → World → Prop
  | .normal, W => O W
  | .ret, W => Ox .ret W
  | .exit id, W => Ox (.exit id) W
  | .goto t, W => Ox (.goto t) W
  | .panic _, _ => False
  | .outgrown, _ => False
/-- A RANGE OVER A FUNCTION WHOSE ITERATOR WRITES INTO MEMORY OF ITS OWN BETWEEN THE ROUNDS: the iterator's contract is asked for with what a round does, whatever that is (O: it goes on, Ox: it is left), as long as both leave the loop's own block alone. -/
theorem range_mut {n : Nat} {P : Program} {g : Operand} {ps : Array Tmp} {assign body : Code} {Q : Exit → Act → World → Prop} {a : Act} {w : World}
    (h1 : 1 ≤ n) {gf : Nat} {lb : Array Value} (hg : a.eval g = .func (.func gf) #[] lb) (eg : ∀ args w, (callFunc gf args).run P w = .ok (.enter gf args) w)
    (I : Array Value → World → Prop) (A : Array Value → World → Act → World → Prop) (O : Array Value → World → World → Prop) (Ox : Code → Array Value → World → World → Prop)
    (hA : ∀ vs W a' W1 W2, A vs W a' W1 → But (w.heap.size + 1) W1 W2 → A vs W a' W2)
    (hO : ∀ vs W W1 W2, O vs W W1 → But (w.heap.size + 1) W1 W2 → O vs W W2)
    (hOx : ∀ c vs W W1 W2, Ox c vs W W1 → But (w.heap.size + 1) W1 W2 → Ox c vs W W2)
    (hassign : ∀ (m : Nat) (vs : Array Value) (W : World) (K : Act → World → Prop), I vs W → w.heap.size + 1 < W.heap.size → (∀ a' W', A vs W a' W' → W'.heap[w.heap.size + 1]? = W.heap[w.heap.size + 1]? → K a' W') →
      assign.wpIn (Fence.wide.inRound (w.heap.size + 1)) m P (Exit.then K (fun _ _ _ => False)) { tmps := (ps.zip vs).foldl (fun t (p, v) => t.setIfInBounds p v) a.tmps, defers := [] } W)
    (hbody : ∀ (m : Nat) (vs : Array Value) (W : World) (a' : Act) (W' : World) (rc : Loop), A vs W a' W' → W'.heap[w.heap.size + 1]? = some (.loop rc) → body.wpIn (Fence.wide.inRound (w.heap.size + 1)) m P (fun e _ W3 => W3.heap[w.heap.size + 1]? = some (.loop rc) ∧ rexit (O vs W) (fun c => Ox c vs W) e W3) a' W')
    (hps : ∀ vs W, I vs W → vs.size = ps.size)
    (Post : World → Prop) (Postx : Code → World → Prop)
    (hseq : ∀ (L D : Nat) (rc : Loop) (rx : Code → Loop) (W1 : World), Below w.heap.size w W1 → W1.heap.size = w.heap.size + 2 → D = w.heap.size → L = w.heap.size + 1 → W1.heap[L]? = some (.loop rc) → W1.heap[D]? = some (.deferred (some [])) →
      (∀ (m : Nat) (vs : Array Value) (W : World), I vs W → W.heap[L]? = some (.loop rc) → YieldAt Fence.wide m P L vs W fun e W' => (e = .returned (.bool true) ∧ O vs W W' ∧ W'.heap[L]? = some (.loop rc)) ∨ (e = .returned (.bool false) ∧ ∃ c, Ox c vs W W' ∧ W'.heap[L]? = some (.loop (rx c)))) →
      CallsIn Fence.wide (n - 1) P gf (#[.func (.yield L) #[] #[]] ++ lb) W1 fun e W' => (∃ v, e = .returned v) ∧ W'.heap[D]? = some (.deferred (some [])) ∧ ((W'.heap[L]? = some (.loop rc) ∧ Post W') ∨ ∃ c, W'.heap[L]? = some (.loop (rx c)) ∧ Postx c W'))
    (hdone : ∀ (D L : Nat) (W W' : World), D = w.heap.size → L = w.heap.size + 1 → L < W.heap.size → Post W → But L W W' → W'.heap[D]? = some (.deferred (some [])) → Q .normal { a with defers := { target := .collected D, args := #[] } :: a.defers } W')
    (hstop : ∀ (D L : Nat) (c : Code) (W W' : World), D = w.heap.size → L = w.heap.size + 1 → L < W.heap.size → Postx c W → But L W W' → W'.heap[D]? = some (.deferred (some [])) → c.wpIn Fence.wide n P Q { a with defers := { target := .collected D, args := #[] } :: a.defers } W') :
    (Code.rangeFunc g ps assign body).wpIn Fence.wide n P Q a w := by
  refine wpIn_rangeFunc ?_
  intro fn hfn
  have hro : Fence.wide.round = none := rfl
  rw [hro]
  let rec' : LoopState → Option Code → Loop := fun st pe => { state := st, pending := pe, fn, tmps := a.tmps, params := ps, assign, body, defers := w.heap.size }
  obtain ⟨rc, hrc⟩ : ∃ rc, rc = rec' := ⟨_, rfl⟩
  obtain ⟨L, hL⟩ : ∃ L, w.heap.size + 1 = L := ⟨_, rfl⟩
  obtain ⟨D, hD⟩ : ∃ D, w.heap.size = D := ⟨_, rfl⟩
  rw [hL] at hA hO hOx hassign hbody
  obtain ⟨W1, hW1⟩ : ∃ W1, (w.alloc (.deferred (some []))).alloc (.loop (rc .ready none)) = W1 := ⟨_, rfl⟩
  have hsz : W1.heap.size = w.heap.size + 2 := by rw [← hW1]; simp
  have hL1 : W1.heap[L]? = some (.loop (rc .ready none)) := by
    rw [← hW1, ← hL]
    have := World.alloc_heap_new (w.alloc (.deferred (some []))) (.loop (rc .ready none))
    rwa [World.size_alloc] at this
  have hD1 : W1.heap[D]? = some (.deferred (some [])) := by
    rw [← hW1, ← hD]
    exact (Below.heap_alloc _ _ _ (by simp)).trans (World.alloc_heap_new w _)
  have hb1 : Below w.heap.size w W1 := by
    rw [← hW1]
    exact ((Below.refl _ w).alloc (Nat.le_refl _) _).alloc (by simp) _
  refine ⟨L, [{ target := .collected D, args := #[] }], W1, { target := .fn (.func gf) lb, args := #[.func (.yield L) #[] #[]] }, W1, gf, #[.func (.yield L) #[] #[]] ++ lb, W1, ?_, ?_, ?_, ?_, fun _ => h1, ?_⟩
  · rw [← hW1, hrc, ← hL, ← hD]; exact run_enterLoop_outer _ _ _ _ _
  · simp only [resolve, hg]
    simp [go_sem]
  · intro f' hf'
    trivial
  · simp [invoke, go_sem, eg]
  refine (hseq L D (rc .ready none) (fun c => rc .done (some c)) W1 hb1 hsz hD.symm hL.symm hL1 hD1 ?_).mono ?_
  · -- a round
    intro m vs W hI hl
    have hlt : L < W.heap.size := (Array.getElem?_eq_some_iff.1 hl).1
    have hy := run_yield (P := P) (args := vs) hl (by rw [hrc]; exact hps _ _ hI)
    rw [hrc] at hy
    refine ⟨fn, _, assign, body, hy, roundIn_of_wpIn hfn (hassign m vs W _ hI hlt ?_)⟩
    intro a' Wa hAx hLa
    have hla := hLa.trans hl
    have hlta : L < Wa.heap.size := (Array.getElem?_eq_some_iff.1 hla).1
    refine ⟨_, run_beginRound hla (by rw [hrc]), ?_⟩
    obtain ⟨Wb, hWb⟩ : ∃ Wb, Wa.putObj L (.loop { rc .ready none with state := .busy }) = Wb := ⟨_, rfl⟩
    rw [hWb]
    have hlb : Wb.heap[L]? = some (.loop { rc .ready none with state := .busy }) := by rw [← hWb]; exact World.putObj_heap_same hlta
    have hAb : A vs W a' Wb := by rw [← hWb]; exact hA _ _ _ _ _ hAx (But.put _ _ _)
    refine wpIn_mono (hbody m vs W a' Wb _ hAb hlb) ?_
    have fin : ∀ (j : Option Code) (W3 : World), W3.heap[L]? = some (.loop { rc .ready none with state := .busy }) → ∃ W4, (Instr.endRound L j).run P W3 = .ok (.bool j.isNone) W4 ∧ But L W3 W4 ∧ W4.heap[L]? = some (.loop (rc (if j.isNone then .ready else .done) j)) := by
      intro j W3 hl3
      have he := run_endRound (P := P) j hl3
      refine ⟨_, ?_, But.put L W3 (.loop (rc (if j.isNone then .ready else .done) j)), World.putObj_heap_same (Array.getElem?_eq_some_iff.1 hl3).1⟩
      rw [hrc] at he ⊢
      exact he
    rintro e a3 W3 ⟨hl3, hp⟩
    cases e with
    | normal =>
      obtain ⟨W4, hr, h4, hl4⟩ := fin none W3 hl3
      exact ⟨_, _, hr, .inl ⟨rfl, hO _ _ _ _ hp h4, hl4⟩⟩
    | ret =>
      obtain ⟨W4, hr, h4, hl4⟩ := fin (some .ret) W3 hl3
      exact ⟨_, _, hr, .inr ⟨rfl, .ret, hOx _ _ _ _ _ hp h4, hl4⟩⟩
    | exit id =>
      obtain ⟨W4, hr, h4, hl4⟩ := fin (some (.exit id)) W3 hl3
      exact ⟨_, _, hr, .inr ⟨rfl, .exit id, hOx _ _ _ _ _ hp h4, hl4⟩⟩
    | goto t =>
      obtain ⟨W4, hr, h4, hl4⟩ := fin (some (.goto t)) W3 hl3
      exact ⟨_, _, hr, .inr ⟨rfl, .goto t, hOx _ _ _ _ _ hp h4, hl4⟩⟩
    | panic ch => exact hp.elim
    | outgrown => exact hp.elim
  · rintro e W2 ⟨⟨v, rfl⟩, hd, ⟨hl, hp⟩ | ⟨c, hl, hp⟩⟩
    · have he := run_endLoop (P := P) hl (by rw [hrc]; simp [rec'])
      have hlt : L < W2.heap.size := (Array.getElem?_eq_some_iff.1 hl).1
      refine ⟨none, _, by rw [hrc] at he; exact he, hdone D L W2 _ hD.symm hL.symm hlt hp (But.put _ _ _) ((World.putObj_heap_other (by omega)).trans hd)⟩
    · have he := run_endLoop (P := P) hl (by rw [hrc]; simp [rec'])
      have hlt : L < W2.heap.size := (Array.getElem?_eq_some_iff.1 hl).1
      refine ⟨some c, _, by rw [hrc] at he; exact he, hstop D L c W2 _ hD.symm hL.symm hlt hp (But.put _ _ _) ((World.putObj_heap_other (by omega)).trans hd)⟩
end Go.Proofs.Ytlklolmhaiaaiaa
namespace Go.Proofs.Ytlklolmhaiaaiaa
open Go.ChangeShapes Go.WideShapes Go.ChangeAt Go.RowKit
set_option linter.unusedVariables false
set_option linter.unusedSimpArgs false
attribute [local go_sem] Oper.semAt_some

/-! ### splay's Each: the list is made as the ranging begins; whoever takes may change the queue -/
theorem each_any (qb : Nat) (w : World) :
    Calls Try.prog 66 #[.pointer (some ⟨qb, 0, none⟩)] w fun e w' => e = .returned (.func (.func 78) #[] #[.pointer (some ⟨w.heap.size, 0, none⟩)]) ∧ w' = w.alloc (.cells #[.pointer (some ⟨qb, 0, none⟩)] 23) := by
  go_enter Try.func66, Try.ntmps66
  go_wp2
  go_ret
  exact ⟨rfl, rfl⟩
theorem evsAt1 {W : World} {b N : Nat} {X : Nat → Ev} (h : EvsL W b N X) {i : Nat} (hi : i < N) : W.cell? ⟨b, i * 6, none⟩ = some (.int .u64 (X i).t) ∧ W.cell? ⟨b, i * 6 + 1, none⟩ = some (.int .i64 (X i).s) ∧ W.cell? ⟨b, i * 6 + 2, none⟩ = some (.int .u64 (X i).q) ∧ W.cell? ⟨b, i * 6 + 3, none⟩ = some (.int .i64 (X i).d) ∧ W.cell? ⟨b, i * 6 + 4, none⟩ = some (.int .i64 (X i).k) ∧ W.cell? ⟨b, i * 6 + 5, none⟩ = some (.int .i64 (X i).v) :=
  ⟨h.2 i 0 hi (by omega), h.2 i 1 hi (by omega), h.2 i 2 hi (by omega), h.2 i 3 hi (by omega), h.2 i 4 hi (by omega), h.2 i 5 hi (by omega)⟩
theorem evsKeep {W W' : World} {b N : Nat} {X : Nat → Ev} (h : EvsL W b N X) (hs : W.heap.size ≤ W'.heap.size) (hb : W'.heap[b]? = W.heap[b]?) : EvsL W' b N X :=
  ⟨Nat.lt_of_lt_of_le h.1 hs, fun i r hi hr => (World.cell?_of_block hb).trans (h.2 i r hi hr)⟩
set_option maxRecDepth 100000 in
set_option maxHeartbeats 4000000 in
theorem each1_mut (W : World) (base qb g : Nat) (room wb : Int) (L : List Ev) (hq : QS base qb g room wb L W) (hn : L.length ≤ 8192) (n Lp : Nat) (lo : Obj) (bx : Nat) (hbx : W.heap[bx]? = some (.cells #[.pointer (some ⟨qb, 0, none⟩)] 23 (0, 0))) (hl : W.heap[Lp]? = some lo) (hLq : ¬ S2 qb g Lp)
    (J : Nat → Nat → World → Prop) (Xs : Nat → Nat → World → Prop)
    (hJ0 : ∀ (b : Nat) (W' : World), QS base qb g room wb L W' → Ch (S2 qb g) W W' → W.heap.size ≤ b → b < W'.heap.size → J b 0 W')
    (hJb : ∀ (b i : Nat) (w w' : World), J b i w → Below w.heap.size w w' → J b i w')
    (hY : ∀ (m b i : Nat) (e : Ev) (w : World), L[i]? = some e → J b i w → b < w.heap.size → w.heap[Lp]? = some lo → YieldAt Fence.wide m Try.prog Lp #[.agg #[.int .u64 e.t, .int .i64 e.s, .int .u64 e.q, .int .i64 e.d, .int .i64 e.k, .int .i64 e.v]] w fun r w' => (r = .returned (.bool true) ∧ w'.heap[Lp]? = some lo ∧ J b (i + 1) w' ∧ w'.heap[b]? = w.heap[b]? ∧ w.heap.size ≤ w'.heap.size) ∨ (r = .returned (.bool false) ∧ Xs b i w')) :
    CallsIn Fence.wide n Try.prog 78 #[.func (.yield Lp) #[] #[], .pointer (some ⟨bx, 0, none⟩)] W fun r W' => (∃ v, r = .returned v) ∧ ((∃ b, J b L.length W' ∧ W'.heap[Lp]? = some lo) ∨ ∃ b i, i < L.length ∧ Xs b i W') := by
  have hc : W.cell? ⟨bx, 0, none⟩ = some (.pointer (some ⟨qb, 0, none⟩)) := by simp [World.cell?, hbx]
  have HS := listS W hq
  have hLs : Lp < W.heap.size := (Array.getElem?_eq_some_iff.1 hl).1
  have HA : Hid (W.heap[Lp]? = some lo ∧ ¬ S2 qb g Lp ∧ Lp < W.heap.size) := ⟨hl, hLq, hLs⟩
  have HJ : Hid ((∀ (b : Nat) (W' : World), QS base qb g room wb L W' → Ch (S2 qb g) W W' → W.heap.size ≤ b → b < W'.heap.size → J b 0 W') ∧ ∀ (b i : Nat) (w w' : World), J b i w → Below w.heap.size w w' → J b i w') := ⟨hJ0, hJb⟩
  obtain ⟨N, hN⟩ : ∃ N, L.length = N := ⟨_, rfl⟩
  rw [hN] at HS hn ⊢
  clear hq hl hLq hLs hJ0 hJb hN hbx
  refine callsIn_of_wp Try.func78 rfl trivial ?_ rfl
  simp only [Try.ntmps78, List.size_toArray, List.length_cons, List.length_nil, Nat.reduceAdd, Nat.reduceSub, Array.replicate_succ, Array.replicate_zero, List.push_toArray, List.append_toArray, List.nil_append, List.cons_append]
  gi_wp2_with (refine ⟨trivial, (fun h => by cases h), ?_⟩; gi_at_call 10; (with_reducible refine (callsIn_wide.2 HS).mono ?_); rintro e w1 ⟨b, X, rfl, h1, h2, h3, h4, h5, h6⟩)
  have HR : Hid (EvsL w1 b N X ∧ (∀ i, i < N → L[i]? = some (X i)) ∧ J b 0 w1 ∧ w1.heap[Lp]? = some lo) := ⟨h1, h3, HJ.out.1 b w1 h5 h6 h4 h1.1, (h6.block Lp HA.out.2.2 HA.out.2.1).trans HA.out.1⟩
  clear h1 h2 h3 h4 h5 h6 HS hc
  gi_loopw [8] (fun v wr => ∃ i : Nat, v = .int .i64 (i : Int) ∧ i ≤ N ∧ J b i wr ∧ EvsL wr b N X ∧ wr.heap[Lp]? = some lo) (fun v _ => N - (intOf v).toNat)
  case atStart => exact ⟨0, rfl, Nat.zero_le _, HR.out.2.2.1, HR.out.1, HR.out.2.2.2⟩
  case round =>
    obtain ⟨i, rfl, hi, hj, he, hlr⟩ := hrel
    by_cases hlt : i < N
    case neg =>
      have dlt : decide ((i : Int) < (N : Int)) = false := by simp; omega
      obtain rfl : i = N := by omega
      have HF : Hid (J b i wr ∧ wr.heap[Lp]? = some lo) := ⟨hj, hlr⟩
      clear hj he hlr hY
      gi_wp2
      first
        | (go_end0; exact ⟨⟨_, rfl⟩, .inl ⟨b, HF.out⟩⟩)
        | (refine bodyPost_ret (results_none rfl _ _ _) rfl ?_; exact ⟨⟨_, rfl⟩, .inl ⟨b, HF.out⟩⟩)
    have dlt : decide ((i : Int) < (N : Int)) = true := by simp; omega
    have i0 : (0 : Int) ≤ (i : Int) := by omega
    have i1 : (i : Int) < (N : Int) := by omega
    have ei : IntKind.i64.wrap ((i : Int) + 1) = (i : Int) + 1 := by rw [IntKind.wrap_i64]; omega
    obtain ⟨x0, x1, x2, x3, x4, x5⟩ := evsAt1 he hlt
    have hal := (Below.refl wr.heap.size wr).alloc (Nat.le_refl _) (.cells #[.int .u64 (X i).t, .int .i64 (X i).s, .int .u64 (X i).q, .int .i64 (X i).d, .int .i64 (X i).k, .int .i64 (X i).v] 64)
    have hLs : Lp < wr.heap.size := (Array.getElem?_eq_some_iff.1 hlr).1
    obtain ⟨fn, tm, asg, bd, hy, hRd⟩ := hY (n - 1) b i (X i) (wr.alloc (.cells #[.int .u64 (X i).t, .int .i64 (X i).s, .int .u64 (X i).q, .int .i64 (X i).d, .int .i64 (X i).k, .int .i64 (X i).v] 64)) (HR.out.2.1 i hlt) (HJ.out.2 _ _ _ _ hj hal) (Nat.lt_of_lt_of_le he.1 hal.size) ((hal.block Lp hLs).trans hlr)
    have HE : Hid (EvsL (wr.alloc (.cells #[.int .u64 (X i).t, .int .i64 (X i).s, .int .u64 (X i).q, .int .i64 (X i).d, .int .i64 (X i).k, .int .i64 (X i).v] 64)) b N X) := he.later hal
    clear hj he hlr hal hLs hY
    gi_wp2
    refine ⟨(fun h => by cases h), ?_⟩
    refine hRd.mono ?_
    rintro e' w2 (⟨rfl, hl2, hj2, hb2, hs2⟩ | ⟨rfl, hx2⟩)
    · have HN : Hid (J b (i + 1) w2 ∧ EvsL w2 b N X ∧ w2.heap[Lp]? = some lo) := ⟨hj2, evsKeep HE.out hs2 hb2, hl2⟩
      clear hy hRd hl2 hj2 hb2 hs2 x0 x1 x2 x3 x4 x5
      gi_wp2
      exact ⟨⟨i + 1, rfl, hlt, HN.out⟩, by simp [intOf]; omega⟩
    · clear hy hRd x0 x1 x2 x3 x4 x5
      gi_wp2
      refine bodyPost_ret (results_none rfl _ _ _) rfl ?_
      exact ⟨⟨_, rfl⟩, .inr ⟨b, i, hlt, hx2⟩⟩
end Go.Proofs.Ytlklolmhaiaaiaa
namespace Go.Proofs.Ytlklolmhaiaaiaa
open Go.ChangeShapes Go.WideShapes Go.ChangeAt Go.RowKit
set_option linter.unusedVariables false
set_option linter.unusedSimpArgs false
attribute [local go_sem] Oper.semAt_some

set_option maxRecDepth 100000 in
set_option maxHeartbeats 4000000 in
theorem each1_gen (W : World) (qb g N : Nat) (hn : N ≤ 8192) (X : Nat → Ev) (QX : World → Prop) (HS : Calls Try.prog 10 #[.pointer (some ⟨qb, 0, none⟩)] W fun e' W' => ∃ b, e' = .returned (.slice (some ⟨b, 0, none⟩) N N) ∧ EvsL W' b N X ∧ W.heap.size ≤ b ∧ QX W' ∧ Ch (S2 qb g) W W') (n Lp : Nat) (lo : Obj) (bx : Nat) (hbx : W.heap[bx]? = some (.cells #[.pointer (some ⟨qb, 0, none⟩)] 23 (0, 0))) (hl : W.heap[Lp]? = some lo) (hLq : ¬ S2 qb g Lp)
    (J : Nat → Nat → World → Prop) (Xs : Nat → Nat → World → Prop)
    (hJ0 : ∀ (b : Nat) (W' : World), QX W' → Ch (S2 qb g) W W' → W.heap.size ≤ b → b < W'.heap.size → J b 0 W')
    (hJb : ∀ (b i : Nat) (w w' : World), J b i w → Below w.heap.size w w' → J b i w')
    (hY : ∀ (m b i : Nat) (w : World), i < N → J b i w → b < w.heap.size → w.heap[Lp]? = some lo → YieldAt Fence.wide m Try.prog Lp #[.agg #[.int .u64 (X i).t, .int .i64 (X i).s, .int .u64 (X i).q, .int .i64 (X i).d, .int .i64 (X i).k, .int .i64 (X i).v]] w fun r w' => (r = .returned (.bool true) ∧ w'.heap[Lp]? = some lo ∧ J b (i + 1) w' ∧ w'.heap[b]? = w.heap[b]? ∧ w.heap.size ≤ w'.heap.size) ∨ (r = .returned (.bool false) ∧ Xs b i w')) :
    CallsIn Fence.wide n Try.prog 78 #[.func (.yield Lp) #[] #[], .pointer (some ⟨bx, 0, none⟩)] W fun r W' => (∃ v, r = .returned v) ∧ ((∃ b, J b N W' ∧ W'.heap[Lp]? = some lo) ∨ ∃ b i, i < N ∧ Xs b i W') := by
  have hc : W.cell? ⟨bx, 0, none⟩ = some (.pointer (some ⟨qb, 0, none⟩)) := by simp [World.cell?, hbx]
  have hLs : Lp < W.heap.size := (Array.getElem?_eq_some_iff.1 hl).1
  have HA : Hid (W.heap[Lp]? = some lo ∧ ¬ S2 qb g Lp ∧ Lp < W.heap.size) := ⟨hl, hLq, hLs⟩
  have HJ : Hid ((∀ (b : Nat) (W' : World), QX W' → Ch (S2 qb g) W W' → W.heap.size ≤ b → b < W'.heap.size → J b 0 W') ∧ ∀ (b i : Nat) (w w' : World), J b i w → Below w.heap.size w w' → J b i w') := ⟨hJ0, hJb⟩
  clear hl hLq hLs hJ0 hJb hbx
  refine callsIn_of_wp Try.func78 rfl trivial ?_ rfl
  simp only [Try.ntmps78, List.size_toArray, List.length_cons, List.length_nil, Nat.reduceAdd, Nat.reduceSub, Array.replicate_succ, Array.replicate_zero, List.push_toArray, List.append_toArray, List.nil_append, List.cons_append]
  gi_wp2_with (refine ⟨trivial, (fun h => by cases h), ?_⟩; gi_at_call 10; (with_reducible refine (callsIn_wide.2 HS).mono ?_); rintro e w1 ⟨b, rfl, h1, h4, h5, h6⟩)
  have HR : Hid (EvsL w1 b N X ∧ True ∧ J b 0 w1 ∧ w1.heap[Lp]? = some lo) := ⟨h1, trivial, HJ.out.1 b w1 h5 h6 h4 h1.1, (h6.block Lp HA.out.2.2 HA.out.2.1).trans HA.out.1⟩
  clear h1 h4 h5 h6 HS hc
  gi_loopw [8] (fun v wr => ∃ i : Nat, v = .int .i64 (i : Int) ∧ i ≤ N ∧ J b i wr ∧ EvsL wr b N X ∧ wr.heap[Lp]? = some lo) (fun v _ => N - (intOf v).toNat)
  case atStart => exact ⟨0, rfl, Nat.zero_le _, HR.out.2.2.1, HR.out.1, HR.out.2.2.2⟩
  case round =>
    obtain ⟨i, rfl, hi, hj, he, hlr⟩ := hrel
    by_cases hlt : i < N
    case neg =>
      have dlt : decide ((i : Int) < (N : Int)) = false := by simp; omega
      obtain rfl : i = N := by omega
      have HF : Hid (J b i wr ∧ wr.heap[Lp]? = some lo) := ⟨hj, hlr⟩
      clear hj he hlr hY
      gi_wp2
      first
        | (go_end0; exact ⟨⟨_, rfl⟩, .inl ⟨b, HF.out⟩⟩)
        | (refine bodyPost_ret (results_none rfl _ _ _) rfl ?_; exact ⟨⟨_, rfl⟩, .inl ⟨b, HF.out⟩⟩)
    have dlt : decide ((i : Int) < (N : Int)) = true := by simp; omega
    have i0 : (0 : Int) ≤ (i : Int) := by omega
    have i1 : (i : Int) < (N : Int) := by omega
    have ei : IntKind.i64.wrap ((i : Int) + 1) = (i : Int) + 1 := by rw [IntKind.wrap_i64]; omega
    obtain ⟨x0, x1, x2, x3, x4, x5⟩ := evsAt1 he hlt
    have hal := (Below.refl wr.heap.size wr).alloc (Nat.le_refl _) (.cells #[.int .u64 (X i).t, .int .i64 (X i).s, .int .u64 (X i).q, .int .i64 (X i).d, .int .i64 (X i).k, .int .i64 (X i).v] 64)
    have hLs : Lp < wr.heap.size := (Array.getElem?_eq_some_iff.1 hlr).1
    obtain ⟨fn, tm, asg, bd, hy, hRd⟩ := hY (n - 1) b i (wr.alloc (.cells #[.int .u64 (X i).t, .int .i64 (X i).s, .int .u64 (X i).q, .int .i64 (X i).d, .int .i64 (X i).k, .int .i64 (X i).v] 64)) hlt (HJ.out.2 _ _ _ _ hj hal) (Nat.lt_of_lt_of_le he.1 hal.size) ((hal.block Lp hLs).trans hlr)
    have HE : Hid (EvsL (wr.alloc (.cells #[.int .u64 (X i).t, .int .i64 (X i).s, .int .u64 (X i).q, .int .i64 (X i).d, .int .i64 (X i).k, .int .i64 (X i).v] 64)) b N X) := he.later hal
    clear hj he hlr hal hLs hY
    gi_wp2
    refine ⟨(fun h => by cases h), ?_⟩
    refine hRd.mono ?_
    rintro e' w2 (⟨rfl, hl2, hj2, hb2, hs2⟩ | ⟨rfl, hx2⟩)
    · have HN : Hid (J b (i + 1) w2 ∧ EvsL w2 b N X ∧ w2.heap[Lp]? = some lo) := ⟨hj2, evsKeep HE.out hs2 hb2, hl2⟩
      clear hy hRd hl2 hj2 hb2 hs2 x0 x1 x2 x3 x4 x5
      gi_wp2
      exact ⟨⟨i + 1, rfl, hlt, HN.out⟩, by simp [intOf]; omega⟩
    · clear hy hRd x0 x1 x2 x3 x4 x5
      gi_wp2
      refine bodyPost_ret (results_none rfl _ _ _) rfl ?_
      exact ⟨⟨_, rfl⟩, .inr ⟨b, i, hlt, hx2⟩⟩
end Go.Proofs.Ytlklolmhaiaaiaa
