import Derived.Test.YtmkchlhfcffdkaaPT1
import Derived.BigQuiet
import Derived.Deep.RegionLaw
import Derived.Deep.RegionHeld3
import Derived.Deep.Cut
import Derived.Deep.DeepCutAuto
import Derived.Deep.CutBlock
import Derived.Deep.CutRange
import Derived.Deep.AppendLies
import Derived.Handy
import Derived.Lib.RabinKarpLaws
import Derived.ArgAppend
import Derived.Lib.JoinLaws
namespace Go.Proofs.Ytmkchlhfcffdkaa
open Go.ChangeShapes Go.WideShapes Go.ChangeAt Go.RowKit
set_option linter.unusedVariables false
set_option linter.unusedSimpArgs false


def TIn (W : World) (p : Option Addr) (N : Nat) (X : Nat → Tx) : Prop := N = 0 ∨ ∃ b off, p = some ⟨b, off, none⟩ ∧ b < W.heap.size ∧ ∀ i, i < N → W.cell? ⟨b, off + i, none⟩ = some (.string (X i).val)
theorem TIn.later {W W' : World} {p : Option Addr} {N : Nat} {X : Nat → Tx} {B : Nat} (h : TIn W p N X) (hB : B = W.heap.size) (hb : Below B W W') : TIn W' p N X := by
  subst hB
  rcases h with h | ⟨b, o, rfl, hl, hc⟩
  · exact .inl h
  · exact .inr ⟨b, o, rfl, Nat.lt_of_lt_of_le hl hb.size, fun j hj => (hb.cell (p := ⟨b, o + j, none⟩) hl).trans (hc j hj)⟩
/-- the post, the list beside it: m texts are sent, i were tried -/
structure TS (W : World) (B hb wb bb r : Nat) (R : Nat → Nat) (fl : Nat → Int) (H : Nat → Nat → Nat → Hf) (X : Nat → Tx) (want : Value) (m i : Nat) (d : Nat → Tx) : Prop where
  mp : MP No W B hb wb bb 2 (r : Int) cvT R (fun _ => 0) fl H
  f0 : fl 0 = 0
  f1 : fl 1 = if i ≤ r then 0 else 90
  l1 : (H 1 0 0).l = m
  k1 : ∀ j, j < m → (H 1 0 0).k j = X j
  h0 : ∀ i j k, i < 2 → j < 2 → k < 2 → ¬ (i = 1 ∧ j = 0 ∧ k = 0) → (H i j k).l = 0
  wn : Own W B 9 1 want m (thF d)
  ap : ∀ k, want.ownBlock = some k → ¬ FP hb wb bb 2 R H k
  st : Stb ltT 0 m X d
  so : Srt ltT 0 m d
  bs : B ≤ W.heap.size
section
variable {W W' : World} {B hb wb bb r : Nat} {R : Nat → Nat} {fl : Nat → Int} {H : Nat → Nat → Nat → Hf} {X : Nat → Tx} {want : Value} {m i : Nat} {d : Nat → Tx}
theorem par0 : par 0 = 0 := by decide
theorem parn : par (0 - 1) = 1 := by decide
theorem parm : par (-1) = 1 := by decide
theorem TS.later (h : TS W B hb wb bb r R fl H X want m i d) (hb' : Below W.heap.size W W') : TS W' B hb wb bb r R fl H X want m i d := ⟨h.mp.later hb', h.f0, h.f1, h.l1, h.k1, h.h0, h.wn.later hb', h.ap, h.st, h.so, Nat.le_trans h.bs hb'.size⟩
/-- a text more is sent: the list has it still to get -/
theorem TS.send (h : TS W B hb wb bb r R fl H X want m i d) (hi : i = m) (hm : m < r) (hr : r ≤ 1024) : Calls Try.prog 7 #[.pointer (some ⟨hb, 0, none⟩), .int .i64 1, .int .i64 0, .string (X i).val] W fun e W' => e = .returned (.int .i64 0) ∧ Below B W W' ∧ ∃ H', MP No W' B hb wb bb 2 (r : Int) cvT R (fun _ => 0) fl H' ∧ (H' 1 0 0).l = m + 1 ∧ (∀ j, j < m + 1 → (H' 1 0 0).k j = X j) ∧ (∀ i j k, i < 2 → j < 2 → k < 2 → ¬ (i = 1 ∧ j = 0 ∧ k = 0) → (H' i j k).l = 0) ∧ Own W' B 9 1 want m (thF d) ∧ (∀ k, want.ownBlock = some k → ¬ FP hb wb bb 2 R H' k) := by
  obtain ⟨Fo, hF, _, hM⟩ := h.mp.full (fun _ => False)
  have hl : (H 1 0 (par 0)).l = m := h.l1
  have hf1 : fl 1 = 0 := by rw [h.f1, if_pos (by omega)]
  have hs := send_put 1 0 (X i) (by decide) (by decide) (by decide) hf1 W hM h.bs (by rw [hl]; omega) (by rw [hl]; omega)
  refine hs.mono fun e W' ⟨e1, ⟨q, c, hM'⟩, hb'⟩ => ⟨e1, hb', ?_⟩
  obtain ⟨a1, a2, a3⟩ := MP.after hF hM'
  refine ⟨_, a1, ?_, fun j hj => ?_, fun i j k hi hj hk hne => ?_, h.wn.far fun k hk => a2 k (h.wn.lt k hk).2 (fun e => h.ap k hk (.inr (.inr e))) (fun e => e), fun k hk e => ?_⟩
  · show (setHf H 1 0 0 (more (H 1 0 0) q c (X i)) 1 0 0).l = m + 1
    rw [setHf_at]
    show (H 1 0 0).l + 1 = m + 1
    rw [h.l1]
  · show (setHf H 1 0 0 (more (H 1 0 0) q c (X i)) 1 0 0).k j = X j
    rw [setHf_at]
    show (if j = (H 1 0 0).l then X i else (H 1 0 0).k j) = X j
    rw [h.l1]
    by_cases e : j = m
    · rw [if_pos e, hi, e]
    · rw [if_neg e]
      exact h.k1 j (by omega)
  · show (setHf H 1 0 0 (more (H 1 0 0) q c (X _)) i j k).l = 0
    rw [setHf_ne _ _ _ _ _ hne]
    exact h.h0 i j k hi hj hk hne
  · rcases a3 k e with e | e | e
    · exact h.ap k hk e
    · exact e
    · have := (h.wn.lt k hk).2; omega
/-- a full half: the text is refused -/
theorem TS.refuse (h : TS W B hb wb bb r R fl H X want m i d) (hi : r ≤ i) (hm : m = r) : Calls Try.prog 7 #[.pointer (some ⟨hb, 0, none⟩), .int .i64 1, .int .i64 0, .string (X i).val] W fun e W' => e = .returned (.int .i64 90) ∧ Below B W W' ∧ ∃ fl', TS W' B hb wb bb r R fl' H X want m (i + 1) d := by
  obtain ⟨Fo, hF, _, hM⟩ := h.mp.full (fun _ => False)
  have key : ∀ (W' : World) (fl' : Nat → Int), MP Fo W' B hb wb bb 2 (r : Int) cvT R (fun _ => 0) fl' H → fl' 0 = 0 → fl' 1 = 90 → Below B W W' → TS W' B hb wb bb r R fl' H X want m (i + 1) d := fun W' fl' hM' f0 f1 hb' => by
    obtain ⟨a1, a2, a3⟩ := MP.after hF hM'
    exact ⟨a1, f0, by rw [f1, if_neg (by omega)], h.l1, h.k1, h.h0, h.wn.far fun k hk => a2 k (h.wn.lt k hk).2 (fun e => h.ap k hk (.inr (.inr e))) (fun e => e), h.ap, h.st, h.so, Nat.le_trans h.bs hb'.size⟩
  by_cases e : i = r
  · have hf1 : fl 1 = 0 := by rw [h.f1, if_pos (by omega)]
    have hl : (H 1 0 (par 0)).l = m := h.l1
    have hs := send_full 1 0 (X i) (by decide) (by decide) (by decide) hf1 W hM h.bs (by rw [hl, hm])
    exact hs.mono fun e W' ⟨e1, hM', hb'⟩ => ⟨e1, hb', _, key W' _ hM' (by show (if 0 = 1 then (90 : Int) else fl 0) = 0; rw [if_neg (by decide)]; exact h.f0) (if_pos rfl) hb'⟩
  · have hf1 : fl 1 = 90 := by rw [h.f1, if_neg (by omega)]
    have hs := send_failed 1 (0 : Int) (X i) (by decide) (by rw [hf1]; decide) W hM
    rw [hf1] at hs
    exact hs.mono fun e W' ⟨e1, hM', hb'⟩ => ⟨e1, hb'.mono h.bs, _, key W' _ hM' h.f0 hf1 (hb'.mono h.bs)⟩
/-- the list of the statement is written: the post stays -/
theorem TS.aside {B hb wb bb r : Nat} {R : Nat → Nat} {fl : Nat → Int} {H : Nat → Nat → Nat → Hf} (h : MP No W B hb wb bb 2 (r : Int) cvT R (fun _ => 0) fl H) {want : Value} (ha : ∀ k, want.ownBlock = some k → ¬ FP hb wb bb 2 R H k) (hg : W.grownBy W' want.ownBlock) : MP No W' B hb wb bb 2 (r : Int) cvT R (fun _ => 0) fl H := h.keep fun k hk => hg.block k (h.foot hk).2 fun e => ha k e.symm hk
/-- Drop and Flip behind a refused text -/
theorem TS.drop (h : TS W B hb wb bb r R fl H X want m i d) : Calls Try.prog 8 #[.pointer (some ⟨hb, 0, none⟩), .int .i64 1] W fun e W' => e = .returned (.tuple #[.int .i64 (m : Int), .int .i64 0]) ∧ Below B W W' ∧ ∃ fl' H', MP No W' B hb wb bb 2 (r : Int) cvT R (fun _ => 0) fl' H' ∧ fl' 1 = 0 ∧ (∀ i j, i < 2 → j < 2 → (H' i j 1).l = 0) := by
  have hs := drop_any 1 (by decide) (by decide) (by decide) W h.mp h.bs
  refine hs.mono fun e W' ⟨hb', e1, hM⟩ => ⟨?_, hb', _, _, hM, if_pos rfl, fun i j hi hj => ?_⟩
  · rw [e1]
    have : sm (fun j => (H 1 j (par 0)).l) 2 = m := by
      show 0 + (H 1 0 0).l + (H 1 1 0).l = m
      rw [h.l1, h.h0 1 1 0 (by decide) (by decide) (by decide) (by decide)]
      omega
    rw [this]
  · rw [par0]
    unfold dropH
    rw [if_neg (by omega)]
    exact h.h0 i j 1 hi hj (by decide) (by omega)
theorem flip_ok {ph : Nat → Int} (x : Nat) (hx : x < 2) (h : MP No W B hb wb bb 2 (r : Int) cvT R ph fl H) (hp : ph x = 0) (h0 : ∀ i, i < 2 → 0 ≤ ph i) (hf : fl x = 0) (hB : B ≤ W.heap.size) (hh : ∀ i j, i < 2 → j < 2 → (H i j 1).l = 0) : Calls Try.prog 9 #[.pointer (some ⟨hb, 0, none⟩), .int .i64 (x : Int)] W fun e W' => e = .returned (.int .i64 0) ∧ Below B W W' ∧ MP No W' B hb wb bb 2 (r : Int) cvT R (fun i => if i = x then 1 else ph i) fl H ∧ ∀ k, k < W.heap.size → ¬ PBm wb 2 R H k → W'.heap[k]? = W.heap[k]? := by
  obtain ⟨Fo, hF, _, hM⟩ := h.full (fun _ => False)
  refine (flip_any x hx (by decide) (by rw [hp]; decide) W hM hB).mono fun e W' ⟨hb', hc⟩ => ?_
  have no : ¬ (Low ph 2 x ∨ sentP H 2 x (ph x - 1) ∨ dueP H ph 2 x) := by
    rintro (⟨i, hi, hl⟩ | ⟨j, hj, hl⟩ | ⟨i, hi, _, hl⟩)
    · have := h0 i hi; omega
    · rw [hp, parn, hh x j hx hj] at hl; omega
    · rw [hp, parn, hh i x hi hx] at hl; omega
  rcases hc with ⟨c1, _⟩ | ⟨_, c2, _⟩ | ⟨_, _, c3, c4⟩
  · exact absurd hf c1
  · exact absurd c2 no
  · obtain ⟨a1, a2, a3⟩ := MP.after hF c4
    rw [hp] at a1
    exact ⟨c3, hb', a1, fun k hk hn => a2 k hk hn (fun e => e)⟩
/-- the Drain at the end -/
theorem TS.drain {ph : Nat → Int} (hM0 : MP No W B hb wb bb 2 (r : Int) cvT R ph fl H) (hph : ∀ i, i < 2 → ph i = 1) (l1 : (H 1 0 0).l = m) (k1 : ∀ j, j < m → (H 1 0 0).k j = X j) (l0 : (H 0 0 0).l = 0) (hB : B ≤ W.heap.size) (wn : Own W B 9 1 want m (thF d)) (ap : ∀ k, want.ownBlock = some k → ¬ PBm wb 2 R H k) (st : Stb ltT 0 m X d) (so : Srt ltT 0 m d) : Calls Try.prog 10 #[.pointer (some ⟨hb, 0, none⟩), .int .i64 0] W fun e W' => ∃ g d2, e = .returned (.tuple #[.slice (some ⟨g, 0, none⟩) m m, .int .i64 0]) ∧ Below B W W' ∧ Own W' B 9 1 (.slice (some ⟨g, 0, none⟩) m m) m (thF d2) ∧ Own W' B 9 1 want m (thF d) ∧ ∀ i, i < m → d2 i = d i := by
  obtain ⟨Fo, hF, _, hM⟩ := hM0.full (fun _ => False)
  have p0 := hph 0 (by decide)
  have p1 := hph 1 (by decide)
  have hI : dueI ph 0 2 = [0, 1] := by
    show (if ph 1 = ph 0 then (if ph 0 = ph 0 then [] ++ [0] else []) ++ [1] else _) = [0, 1]
    rw [if_pos (by rw [p0, p1]), if_pos rfl]
    rfl
  have hN : dueN ph 2 0 = 2 := by unfold dueN; rw [hI]; rfl
  obtain ⟨jf, hjf⟩ : ∃ jf, dueJ ph 2 0 = jf := ⟨_, rfl⟩
  have j0 : jf 0 = 0 := by rw [← hjf]; unfold dueJ; rw [hI]; rfl
  have j1 : jf 1 = 1 := by rw [← hjf]; unfold dueJ; rw [hI]; rfl
  have g0 : gln H 0 0 jf 0 = 0 := by unfold gln; rw [j0]; exact l0
  have g1 : gln H 0 0 jf 1 = m := by unfold gln; rw [j1]; exact l1
  have hS : sm (gln H 0 0 jf) 2 = m := by
    show 0 + gln H 0 0 jf 0 + gln H 0 0 jf 1 = m
    rw [g0, g1]
    omega
  have hK : ∀ i, i < m → gKn H 0 0 jf 2 i = X i := fun i hi => by
    show catF _ (sm (gln H 0 0 jf) 1) (H (jf 1) 0 0).k i = X i
    have e1 : sm (gln H 0 0 jf) 1 = 0 := by show 0 + gln H 0 0 jf 0 = 0; rw [g0]
    unfold catF
    rw [e1, if_neg (Nat.not_lt_zero _), j1]
    exact k1 i hi
  have hlow : ¬ Low ph 2 0 := fun ⟨i, hi, hl⟩ => by have := hph i hi; omega
  have hs := drain_ok 0 (lt := ltT) (A := fun _ => False) (J := fun _ => True) (by decide) (by decide) (by rw [p0]; decide) hlow W hM hB texts_sorts (fun _ h => h.elim) (fun _ _ => trivial) 0 2 m jf (by rw [p0]; decide) hN hjf hS
  refine hs.mono fun e W' ⟨g, d2, e1, hg, h3, h4, h5, h6, h7, _⟩ => ?_
  obtain ⟨a1, a2, a3⟩ := MP.after hF h6
  obtain ⟨d3, s1, s2⟩ := h4.base hK
  refine ⟨g, d2, e1, ⟨h7.os, h7.tape, h7.output, h7.size, fun k hk => h7.block k hk (fun e => e)⟩, h3, wn.far fun k hk => a2 k (wn.lt k hk).2 (ap k hk) (fun e => e), fun i hi => ?_⟩
  rw [← s2 i hi]
  exact stable_one ltT_ord s1 (h5.congr fun i _ hi => s2 i hi) st so i hi
end
end Go.Proofs.Ytmkchlhfcffdkaa
