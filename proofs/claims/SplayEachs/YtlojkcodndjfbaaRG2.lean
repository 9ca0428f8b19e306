import Derived.RangeFuncNested
import Derived.RangeFuncBound
import Derived.RangeFuncCalls
import Derived.RangeFuncLeaves
import Derived.OwnWalkIn
import Derived.TacticsInMore
import Derived.Test.YtlojkcodndjfbaaProg
namespace Go.Proofs.Ytlojkcodndjfbaa
open Go.RowKit
attribute [local go_sem] Oper.semAt_some

/-- two worlds that differ in one block alone -/
def But (L : Nat) (W W' : World) : Prop := (W'.os = W.os ∧ W'.tape = W.tape ∧ W'.output = W.output) ∧ W'.heap.size = W.heap.size ∧ ∀ k : Nat, k ≠ L → W'.heap[k]? = W.heap[k]?
theorem But.put (L : Nat) (W : World) (o : Obj) : But L W (W.putObj L o) := ⟨⟨rfl, rfl, rfl⟩, by simp, fun k hk => World.putObj_heap_other hk⟩
/-- how a round of a range over a function is left, with the loop's own block as it was -/
def rexit (O : World → Prop) (Ox : Code → World → Prop) : Exit → World → Prop
  | .normal, W => O W
  | .ret, W => Ox .ret W
  | .exit id, W => Ox (.exit id) W
  | .goto t, W => Ox (.goto t) W
  | .panic _, _ => False
  | .outgrown, _ => False
/-- A RANGE OVER A FUNCTION WHOSE ITERATOR WRITES INTO MEMORY OF ITS OWN BETWEEN THE ROUNDS: the iterator's contract is asked for with what a round does, whatever that is (O: it goes on, Ox: it is left), as long as both leave the loop's own block alone. -/
theorem range_mut {n : Nat} {P : Program} {g : Operand} {ps : Array Tmp} {assign body : Code} {Q : Exit → Act → World → Prop} {a : Act} {w : World}
    (h1 : 1 ≤ n) {gf : Nat} {lb : Array Value} (hg : a.eval g = .func (.func gf) #[] lb) (eg : ∀ args w, (callFunc gf args).run P w = .ok (.enter gf args) w)
    (I : Array Value → World → Prop) (A : Array Value → World → Act → World → Prop) (O : Array Value → World → World → Prop) (Ox : Code → Array Value → World → World → Prop)
    (hA : ∀ vs W a' W1 W2, A vs W a' W1 → But (w.heap.size + 1) W1 W2 → A vs W a' W2)
    (hO : ∀ vs W W1 W2, O vs W W1 → But (w.heap.size + 1) W1 W2 → O vs W W2)
    (hOx : ∀ c vs W W1 W2, Ox c vs W W1 → But (w.heap.size + 1) W1 W2 → Ox c vs W W2)
    (hassign : ∀ (m : Nat) (vs : Array Value) (W : World) (K : Act → World → Prop), I vs W → w.heap.size + 1 < W.heap.size → (∀ a' W', A vs W a' W' → W'.heap[w.heap.size + 1]? = W.heap[w.heap.size + 1]? → K a' W') →
      assign.wpIn (Fence.wide.inRound (w.heap.size + 1)) m P (Exit.then K (fun _ _ _ => False)) { tmps := (ps.zip vs).foldl (fun t (p, v) => t.setIfInBounds p v) a.tmps, defers := [] } W)
    (hbody : ∀ (m : Nat) (vs : Array Value) (W : World) (a' : Act) (W' : World) (rc : Loop), A vs W a' W' → W'.heap[w.heap.size + 1]? = some (.loop rc) → body.wpIn (Fence.wide.inRound (w.heap.size + 1)) m P (fun e _ W3 => W3.heap[w.heap.size + 1]? = some (.loop rc) ∧ rexit (O vs W) (fun c => Ox c vs W) e W3) a' W')
    (hps : ∀ vs W, I vs W → vs.size = ps.size)
    (Post : World → Prop) (Postx : Code → World → Prop)
    (hseq : ∀ (L D : Nat) (rc : Loop) (rx : Code → Loop) (W1 : World), Below w.heap.size w W1 → W1.heap.size = w.heap.size + 2 → D = w.heap.size → L = w.heap.size + 1 → W1.heap[L]? = some (.loop rc) → W1.heap[D]? = some (.deferred (some [])) →
      (∀ (m : Nat) (vs : Array Value) (W : World), I vs W → W.heap[L]? = some (.loop rc) → YieldAt Fence.wide m P L vs W fun e W' => (e = .returned (.bool true) ∧ O vs W W' ∧ W'.heap[L]? = some (.loop rc)) ∨ (e = .returned (.bool false) ∧ ∃ c, Ox c vs W W' ∧ W'.heap[L]? = some (.loop (rx c)))) →
      CallsIn Fence.wide (n - 1) P gf (#[.func (.yield L) #[] #[]] ++ lb) W1 fun e W' => (∃ v, e = .returned v) ∧ W'.heap[D]? = some (.deferred (some [])) ∧ ((W'.heap[L]? = some (.loop rc) ∧ Post W') ∨ ∃ c, W'.heap[L]? = some (.loop (rx c)) ∧ Postx c W'))
    (hdone : ∀ (D L : Nat) (W W' : World), D = w.heap.size → L = w.heap.size + 1 → L < W.heap.size → Post W → But L W W' → W'.heap[D]? = some (.deferred (some [])) → Q .normal { a with defers := { target := .collected D, args := #[] } :: a.defers } W')
    (hstop : ∀ (D L : Nat) (c : Code) (W W' : World), D = w.heap.size → L = w.heap.size + 1 → L < W.heap.size → Postx c W → But L W W' → W'.heap[D]? = some (.deferred (some [])) → c.wpIn Fence.wide n P Q { a with defers := { target := .collected D, args := #[] } :: a.defers } W') :
    (Code.rangeFunc g ps assign body).wpIn Fence.wide n P Q a w := by
  refine wpIn_rangeFunc ?_
  intro fn hfn
  have hro : Fence.wide.round = none := rfl
  rw [hro]
  let rec' : LoopState → Option Code → Loop := fun st pe => { state := st, pending := pe, fn, tmps := a.tmps, params := ps, assign, body, defers := w.heap.size }
  obtain ⟨rc, hrc⟩ : ∃ rc, rc = rec' := ⟨_, rfl⟩
  obtain ⟨L, hL⟩ : ∃ L, w.heap.size + 1 = L := ⟨_, rfl⟩
  obtain ⟨D, hD⟩ : ∃ D, w.heap.size = D := ⟨_, rfl⟩
  rw [hL] at hA hO hOx hassign hbody
  obtain ⟨W1, hW1⟩ : ∃ W1, (w.alloc (.deferred (some []))).alloc (.loop (rc .ready none)) = W1 := ⟨_, rfl⟩
  have hsz : W1.heap.size = w.heap.size + 2 := by rw [← hW1]; simp
  have hL1 : W1.heap[L]? = some (.loop (rc .ready none)) := by
    rw [← hW1, ← hL]
    have := World.alloc_heap_new (w.alloc (.deferred (some []))) (.loop (rc .ready none))
    rwa [World.size_alloc] at this
  have hD1 : W1.heap[D]? = some (.deferred (some [])) := by
    rw [← hW1, ← hD]
    exact (Below.heap_alloc _ _ _ (by simp)).trans (World.alloc_heap_new w _)
  have hb1 : Below w.heap.size w W1 := by
    rw [← hW1]
    exact ((Below.refl _ w).alloc (Nat.le_refl _) _).alloc (by simp) _
  refine ⟨L, [{ target := .collected D, args := #[] }], W1, { target := .fn (.func gf) lb, args := #[.func (.yield L) #[] #[]] }, W1, gf, #[.func (.yield L) #[] #[]] ++ lb, W1, ?_, ?_, ?_, ?_, fun _ => h1, ?_⟩
  · rw [← hW1, hrc, ← hL, ← hD]; exact run_enterLoop_outer _ _ _ _ _
  · simp only [resolve, hg]
    simp [go_sem]
  · intro f' hf'
    trivial
  · simp [invoke, go_sem, eg]
  refine (hseq L D (rc .ready none) (fun c => rc .done (some c)) W1 hb1 hsz hD.symm hL.symm hL1 hD1 ?_).mono ?_
  · -- a round
    intro m vs W hI hl
    have hlt : L < W.heap.size := (Array.getElem?_eq_some_iff.1 hl).1
    have hy := run_yield (P := P) (args := vs) hl (by rw [hrc]; exact hps _ _ hI)
    rw [hrc] at hy
    refine ⟨fn, _, assign, body, hy, roundIn_of_wpIn hfn (hassign m vs W _ hI hlt ?_)⟩
    intro a' Wa hAx hLa
    have hla := hLa.trans hl
    have hlta : L < Wa.heap.size := (Array.getElem?_eq_some_iff.1 hla).1
    refine ⟨_, run_beginRound hla (by rw [hrc]), ?_⟩
    obtain ⟨Wb, hWb⟩ : ∃ Wb, Wa.putObj L (.loop { rc .ready none with state := .busy }) = Wb := ⟨_, rfl⟩
    rw [hWb]
    have hlb : Wb.heap[L]? = some (.loop { rc .ready none with state := .busy }) := by rw [← hWb]; exact World.putObj_heap_same hlta
    have hAb : A vs W a' Wb := by rw [← hWb]; exact hA _ _ _ _ _ hAx (But.put _ _ _)
    refine wpIn_mono (hbody m vs W a' Wb _ hAb hlb) ?_
    have fin : ∀ (j : Option Code) (W3 : World), W3.heap[L]? = some (.loop { rc .ready none with state := .busy }) → ∃ W4, (Instr.endRound L j).run P W3 = .ok (.bool j.isNone) W4 ∧ But L W3 W4 ∧ W4.heap[L]? = some (.loop (rc (if j.isNone then .ready else .done) j)) := by
      intro j W3 hl3
      have he := run_endRound (P := P) j hl3
      refine ⟨_, ?_, But.put L W3 (.loop (rc (if j.isNone then .ready else .done) j)), World.putObj_heap_same (Array.getElem?_eq_some_iff.1 hl3).1⟩
      rw [hrc] at he ⊢
      exact he
    rintro e a3 W3 ⟨hl3, hp⟩
    cases e with
    | normal =>
      obtain ⟨W4, hr, h4, hl4⟩ := fin none W3 hl3
      exact ⟨_, _, hr, .inl ⟨rfl, hO _ _ _ _ hp h4, hl4⟩⟩
    | ret =>
      obtain ⟨W4, hr, h4, hl4⟩ := fin (some .ret) W3 hl3
      exact ⟨_, _, hr, .inr ⟨rfl, .ret, hOx _ _ _ _ _ hp h4, hl4⟩⟩
    | exit id =>
      obtain ⟨W4, hr, h4, hl4⟩ := fin (some (.exit id)) W3 hl3
      exact ⟨_, _, hr, .inr ⟨rfl, .exit id, hOx _ _ _ _ _ hp h4, hl4⟩⟩
    | goto t =>
      obtain ⟨W4, hr, h4, hl4⟩ := fin (some (.goto t)) W3 hl3
      exact ⟨_, _, hr, .inr ⟨rfl, .goto t, hOx _ _ _ _ _ hp h4, hl4⟩⟩
    | panic ch => exact hp.elim
    | outgrown => exact hp.elim
  · rintro e W2 ⟨⟨v, rfl⟩, hd, ⟨hl, hp⟩ | ⟨c, hl, hp⟩⟩
    · have he := run_endLoop (P := P) hl (by rw [hrc]; simp [rec'])
      have hlt : L < W2.heap.size := (Array.getElem?_eq_some_iff.1 hl).1
      refine ⟨none, _, by rw [hrc] at he; exact he, hdone D L W2 _ hD.symm hL.symm hlt hp (But.put _ _ _) ((World.putObj_heap_other (by omega)).trans hd)⟩
    · have he := run_endLoop (P := P) hl (by rw [hrc]; simp [rec'])
      have hlt : L < W2.heap.size := (Array.getElem?_eq_some_iff.1 hl).1
      refine ⟨some c, _, by rw [hrc] at he; exact he, hstop D L c W2 _ hD.symm hL.symm hlt hp (But.put _ _ _) ((World.putObj_heap_other (by omega)).trans hd)⟩
end Go.Proofs.Ytlojkcodndjfbaa
