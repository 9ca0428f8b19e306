import Derived.Test.YtkfjcbnhohipgaaMG5
import Derived.BigQuiet
import Derived.Deep.RegionLaw
import Derived.Deep.RegionHeld3
import Derived.Deep.Cut
import Derived.Deep.DeepCutAuto
import Derived.Deep.CutBlock
import Derived.Deep.CutRange
import Derived.Deep.AppendLies
import Derived.Handy
import Derived.Lib.RabinKarpLaws
namespace Go.Proofs.Ytkfjcbnhohipgaa
open Go.ChangeShapes Go.WideShapes Go.ChangeAt Go.RowKit
set_option linter.unusedVariables false
set_option linter.unusedSimpArgs false


structure AP where
  hb : Nat
  wb : Nat
  bb : Nat
  R : Nat → Nat
  ph : Nat → Int
  fl : Nat → Int
  H : Nat → Nat → Nat → Hf
  qb : Nat
  pb : Nat
  fb : Nat
  ph2 : Nat → Int
  fl2 : Nat → Int
  v : Value
  L : List Lt
  sb : Nat
  V : Nat → Value
  m : Nat
def fP (n : Nat) (a : AP) : Nat → Prop := FP a.hb a.wb a.bb n a.R a.H
def fQ (a : AP) : Nat → Prop := FQ a.qb a.pb a.fb a.v
def fS (a : AP) : Nat → Prop := FS a.sb a.V
def FA (n : Nat) (a : AP) (k : Nat) : Prop := fP n a k ∨ fQ a k ∨ fS a k
structure O3 (n : Nat) (room : Int) (cmp : Value) (srt : Bool) (B : Nat) (W : World) (a : AP) : Prop where
  mp : MP No W B a.hb a.wb a.bb n room cmp a.R a.ph a.fl a.H
  rx : RX No W B a.qb a.pb a.fb n room srt a.ph2 a.fl2 a.v a.L
  sh : SH No W B a.sb a.V a.m
  pq : ∀ k, fP n a k → ¬ fQ a k
  ps : ∀ k, fP n a k → ¬ fS a k
  qs : ∀ k, fQ a k → ¬ fS a k
  bs : B ≤ W.heap.size
/-- from one moment to a later one -/
structure St (n : Nat) (X : Nat → Prop) (cc : Nat) (W W' : World) (a a' : AP) : Prop where
  kk : ∀ k, k < W.heap.size → ¬ FA n a k → ¬ X k → W'.heap[k]? = W.heap[k]?
  gr : ∀ k, FA n a' k → FA n a k ∨ W.heap.size ≤ k
  sz : W.heap.size ≤ W'.heap.size
  i1 : a'.hb = a.hb
  i2 : a'.qb = a.qb
  i3 : a'.sb = a.sb
  i4 : a'.m ≤ a.m + cc
variable {n : Nat} {room : Int} {cmp : Value} {srt : Bool} {B : Nat} {X : Nat → Prop}
theorem St.refl (W : World) (a : AP) : St n X 0 W W a a := ⟨fun _ _ _ _ => rfl, fun _ h => .inl h, Nat.le_refl _, rfl, rfl, rfl, Nat.le_refl _⟩
theorem O3.below {W W' : World} {a : AP} (h : O3 n room cmp srt B W a) (hb : Below W.heap.size W W') : O3 n room cmp srt B W' a := ⟨h.mp.later hb, h.rx.later hb, h.sh.later hb, h.pq, h.ps, h.qs, Nat.le_trans h.bs hb.size⟩
theorem St.below {W W' : World} {a : AP} (hb : Below W.heap.size W W') : St n X 0 W W' a a := ⟨fun k hk _ _ => hb.block k hk, fun _ h => .inl h, hb.size, rfl, rfl, rfl, Nat.le_refl _⟩
theorem FA_lt {W : World} {a : AP} (h : O3 n room cmp srt B W a) {k : Nat} (hk : FA n a k) : B ≤ k ∧ k < W.heap.size := by
  rcases hk with hk | hk | hk
  · exact h.mp.foot hk
  · exact h.rx.foot hk
  · exact h.sh.foot hk
/-- the post has done something -/
theorem O3.pcall {W W' : World} {a : AP} {Fo : Nat → Option Obj} (h : O3 n room cmp srt B W a) (hX : ∀ k, X k → k < B) (hF : ∀ k, ¬ PBm a.wb n a.R a.H k → ¬ X k → Fo k = W.heap[k]?) (ph' fl' : Nat → Int) (H' : Nat → Nat → Nat → Hf) (h' : MP Fo W' B a.hb a.wb a.bb n room cmp a.R ph' fl' H') (hsz : W.heap.size ≤ W'.heap.size) : O3 n room cmp srt B W' { a with ph := ph', fl := fl', H := H' } ∧ St n X 0 W W' a { a with ph := ph', fl := fl', H := H' } := by
  obtain ⟨m1, m2, m3⟩ := MP.after hF h'
  have nX : ∀ k, B ≤ k → ¬ X k := fun k h1 h2 => by have := hX k h2; omega
  have m4 : ∀ k, FP a.hb a.wb a.bb n a.R H' k → FP a.hb a.wb a.bb n a.R a.H k ∨ W.heap.size ≤ k := fun k hk => by
    rcases m3 k hk with h1 | h1 | h1
    · exact .inl h1
    · exact absurd h1 (nX k (m1.foot hk).1)
    · exact .inr h1
  have kq : ∀ k, fQ a k → W'.heap[k]? = W.heap[k]? := fun k hk => m2 k (h.rx.foot hk).2 (fun h1 => h.pq k (.inr (.inr h1)) hk) (nX k (h.rx.foot hk).1)
  have ks : ∀ k, fS a k → W'.heap[k]? = W.heap[k]? := fun k hk => m2 k (h.sh.foot hk).2 (fun h1 => h.ps k (.inr (.inr h1)) hk) (nX k (h.sh.foot hk).1)
  refine ⟨⟨m1, h.rx.keep kq, h.sh.keep ks, fun k h1 h2 => ?_, fun k h1 h2 => ?_, h.qs, Nat.le_trans h.bs hsz⟩, ⟨fun k h1 h2 h3 => m2 k h1 (fun h4 => h2 (.inl (.inr (.inr h4)))) h3, fun k hk => ?_, hsz, rfl, rfl, rfl, Nat.le_refl _⟩⟩
  · rcases m4 k h1 with h3 | h3
    · exact h.pq k h3 h2
    · have := (h.rx.foot h2).2; omega
  · rcases m4 k h1 with h3 | h3
    · exact h.ps k h3 h2
    · have := (h.sh.foot h2).2; omega
  · rcases hk with hk | hk | hk
    · rcases m4 k hk with h3 | h3
      · exact .inl (.inl h3)
      · exact .inr h3
    · exact .inl (.inr (.inl hk))
    · exact .inl (.inr (.inr hk))
/-- the document's post has done something -/
theorem O3.qcall {W W' : World} {a : AP} {Fo : Nat → Option Obj} (h : O3 n room cmp srt B W a) (hF : ∀ k, ¬ FQ a.qb a.pb a.fb a.v k → Fo k = W.heap[k]?) (ph' fl' : Nat → Int) (v' : Value) (L' : List Lt) (h' : RX Fo W' B a.qb a.pb a.fb n room srt ph' fl' v' L') (hsz : W.heap.size ≤ W'.heap.size) : O3 n room cmp srt B W' { a with ph2 := ph', fl2 := fl', v := v', L := L' } ∧ St n X 0 W W' a { a with ph2 := ph', fl2 := fl', v := v', L := L' } := by
  obtain ⟨m1, m2, m4⟩ := RX.after hF h'
  have kp : ∀ k, fP n a k → W'.heap[k]? = W.heap[k]? := fun k hk => m2 k (h.mp.foot hk).2 (h.pq k hk)
  have ks : ∀ k, fS a k → W'.heap[k]? = W.heap[k]? := fun k hk => m2 k (h.sh.foot hk).2 (fun h1 => h.qs k h1 hk)
  refine ⟨⟨h.mp.keep kp, m1, h.sh.keep ks, fun k h1 h2 => ?_, h.ps, fun k h1 h2 => ?_, Nat.le_trans h.bs hsz⟩, ⟨fun k h1 h2 h3 => m2 k h1 (fun h4 => h2 (.inr (.inl h4))), fun k hk => ?_, hsz, rfl, rfl, rfl, Nat.le_refl _⟩⟩
  · rcases m4 k h2 with h3 | h3
    · exact h.pq k h1 h3
    · have := (h.mp.foot h1).2; omega
  · rcases m4 k h1 with h3 | h3
    · exact h.qs k h3 h2
    · have := (h.sh.foot h2).2; omega
  · rcases hk with hk | hk | hk
    · exact .inl (.inl hk)
    · rcases m4 k hk with h3 | h3
      · exact .inl (.inr (.inl h3))
      · exact .inr h3
    · exact .inl (.inr (.inr hk))
/-- what both know -/
structure RA (n : Nat) (room : Int) (a : AP) (t : Nat) : Prop where
  re : RE n room a.ph a.H a.L t
  e1 : a.ph2 = a.ph
  e2 : a.fl2 = a.fl
/-- a call on both, the program's post first: one answer -/
def Both (z : Value) (n : Nat) (room : Int) (cmp : Value) (srt : Bool) (B : Nat) (X : Nat → Prop) (f g : FuncId) (xs ys : Array Value) (a : AP) (t : Nat) : Prop := ∀ w, O3 n room cmp srt B w a → Calls Try.prog f xs w fun r w' => r = .returned z ∧ Below B w w' ∧ ∃ a1, O3 n room cmp srt B w' a1 ∧ St n X 0 w w' a a1 ∧ ∀ w2, O3 n room cmp srt B w2 a1 → Calls Try.prog g ys w2 fun r w3 => r = .returned z ∧ Below B w2 w3 ∧ ∃ a2, O3 n room cmp srt B w3 a2 ∧ St n X 0 w2 w3 a1 a2 ∧ RA n room a2 (t + 1)
theorem a_same (a : AP) : { a with ph := a.ph, fl := a.fl, H := a.H } = a := rfl
theorem send_both (a : AP) (t : Nat) (hn : n ≤ 64) (ht : t ≤ 1000) (hroom : 1 ≤ room ∧ room ≤ 1024) (hX : ∀ k, X k → k < B) (hr : RA n room a t) (x y k : Int) : ∃ z : Int, Both (.int .i64 z) n room cmp srt B X 15 43 #[.pointer (some ⟨a.hb, 0, none⟩), .int .i64 x, .int .i64 y, .agg #[.int .i64 k, .int .i64 (t : Int)]] #[.pointer (some ⟨a.qb, 0, none⟩), .int .i64 x, .int .i64 y, .agg #[.int .i64 k, .int .i64 (t : Int)]] a t := by
  have hre := hr.re
  have hll := hre.len
  rcases who x n with hx | ⟨x, hx, rfl⟩
  · refine ⟨91, fun w h => ?_⟩
    obtain ⟨Fo, f1, _, f3⟩ := h.mp.full X
    refine (send_no x y k (t : Int) hx w f3).mono fun r w' ⟨k1, k2, k3⟩ => ⟨k1, k3.mono h.bs, _, (h.pcall hX f1 _ _ _ k2 k3.size).1, (h.pcall hX f1 _ _ _ k2 k3.size).2, fun w2 h2 => ?_⟩
    obtain ⟨Fq, g1, g3⟩ := h2.rx.full
    exact (rsend_no x y k (t : Int) hx w2 g3).mono fun r w3 ⟨j1, j2, j3⟩ => ⟨j1, j3.mono h2.bs, _, (h2.qcall (X := X) g1 _ _ _ _ j2 j3.size).1, (h2.qcall g1 _ _ _ _ j2 j3.size).2, hre.up, hr.e1, hr.e2⟩
  have hp : 0 ≤ a.ph x ∧ a.ph x < 4611686018427387904 := ⟨hre.lo x hx, by have := hre.hi x hx; omega⟩
  by_cases hf : a.fl x = 0
  case neg =>
    refine ⟨(a.fl x), fun w h => ?_⟩
    obtain ⟨Fo, f1, _, f3⟩ := h.mp.full X
    refine (send_failed x y k (t : Int) hx hf w f3).mono fun r w' ⟨k1, k2, k3⟩ => ⟨k1, k3.mono h.bs, _, (h.pcall hX f1 _ _ _ k2 k3.size).1, (h.pcall hX f1 _ _ _ k2 k3.size).2, fun w2 h2 => ?_⟩
    obtain ⟨Fq, g1, g3⟩ := h2.rx.full
    have hf2 : a.fl2 x ≠ 0 := by rw [hr.e2]; exact hf
    exact (rsend_failed x y k (t : Int) hx hf2 w2 g3).mono fun r w3 ⟨j1, j2, j3⟩ => ⟨by rw [j1]; show _ = Ending.returned (.int .i64 (a.fl x)); rw [← hr.e2], j3.mono h2.bs, _, (h2.qcall (X := X) g1 _ _ _ _ j2 j3.size).1, (h2.qcall g1 _ _ _ _ j2 j3.size).2, hre.up, hr.e1, hr.e2⟩
  case pos =>
  have hf2 : a.fl2 x = 0 := by rw [hr.e2]; exact hf
  rcases who y n with hy | ⟨y, hy, rfl⟩
  · refine ⟨91, fun w h => ?_⟩
    obtain ⟨Fo, f1, _, f3⟩ := h.mp.full X
    refine (send_who x y k (t : Int) hx hy hf w f3 h.bs).mono fun r w' ⟨k1, k2, k3⟩ => ⟨k1, k3, _, (h.pcall hX f1 _ _ _ k2 k3.size).1, (h.pcall hX f1 _ _ _ k2 k3.size).2, fun w2 h2 => ?_⟩
    obtain ⟨Fq, g1, g3⟩ := h2.rx.full
    exact (rsend_who x y k (t : Int) hx hy hf2 w2 g3 h2.bs).mono fun r w3 ⟨j1, j2, j3⟩ => ⟨j1, j3, _, (h2.qcall (X := X) g1 _ _ _ _ j2 j3.size).1, (h2.qcall g1 _ _ _ _ j2 j3.size).2, hre.up, hr.e1, by show (fun i => if i = x then (91 : Int) else a.fl2 i) = fun i => if i = x then (91 : Int) else a.fl i; rw [hr.e2]⟩
  · have hcnt := hre.scount hx hy
    have hrm := hre.rm x y (par (a.ph x))
    by_cases hrr : ((a.H x y (par (a.ph x))).l : Int) = room
    · refine ⟨90, fun w h => ?_⟩
      obtain ⟨Fo, f1, _, f3⟩ := h.mp.full X
      refine (send_full x y k (t : Int) hx hy hp hf w f3 h.bs hrr).mono fun r w' ⟨k1, k2, k3⟩ => ⟨k1, k3, _, (h.pcall hX f1 _ _ _ k2 k3.size).1, (h.pcall hX f1 _ _ _ k2 k3.size).2, fun w2 h2 => ?_⟩
      obtain ⟨Fq, g1, g3⟩ := h2.rx.full
      exact (rsend_full x y k (t : Int) hx hy hf2 w2 g3 h2.bs (Nat.le_trans hll (by omega)) (by show room ≤ ((a.L.countP (cm x y (a.ph2 x)) : Nat) : Int); rw [hr.e1, ← hcnt, hrr]; exact Int.le_refl _)).mono fun r w3 ⟨j1, j2, j3⟩ => ⟨j1, j3, _, (h2.qcall (X := X) g1 _ _ _ _ j2 j3.size).1, (h2.qcall g1 _ _ _ _ j2 j3.size).2, hre.up, hr.e1, by show (fun i => if i = x then (90 : Int) else a.fl2 i) = fun i => if i = x then (90 : Int) else a.fl i; rw [hr.e2]⟩
    · refine ⟨0, fun w h => ?_⟩
      obtain ⟨Fo, f1, _, f3⟩ := h.mp.full X
      refine (send_put x y k (t : Int) hx hy hp hf w f3 h.bs hrr (by omega)).mono fun r w' ⟨k1, ⟨q, c, k2⟩, k3⟩ => ⟨k1, k3, _, (h.pcall hX f1 _ _ _ k2 k3.size).1, (h.pcall hX f1 _ _ _ k2 k3.size).2, fun w2 h2 => ?_⟩
      obtain ⟨Fq, g1, g3⟩ := h2.rx.full
      refine (rsend_put x y k (t : Int) hx hy hf2 w2 g3 h2.bs (Nat.le_trans hll (by omega)) (by show ((a.L.countP (cm x y (a.ph2 x)) : Nat) : Int) < room; rw [hr.e1, ← hcnt]; omega)).mono fun r w3 ⟨j1, ⟨v', j2⟩, j3⟩ => ⟨j1, j3, _, (h2.qcall (X := X) g1 _ _ _ _ j2 j3.size).1, (h2.qcall g1 _ _ _ _ j2 j3.size).2, ?_, hr.e1, hr.e2⟩
      have := hre.send x y hx hy q c k hrr
      show RE n room a.ph _ (a.L ++ [⟨x, y, a.ph2 x, k, (t : Int)⟩]) (t + 1)
      rw [hr.e1]
      exact this
theorem flip_both (a : AP) (t : Nat) (hn : n ≤ 64) (ht : t ≤ 1000) (hX : ∀ k, X k → k < B) (hr : RA n room a t) (x : Int) : ∃ z : Int, Both (.int .i64 z) n room cmp srt B X 16 44 #[.pointer (some ⟨a.hb, 0, none⟩), .int .i64 x] #[.pointer (some ⟨a.qb, 0, none⟩), .int .i64 x] a t := by
  have hre := hr.re
  have hll := hre.len
  rcases who x n with hx | ⟨x, hx, rfl⟩
  · refine ⟨91, fun w h => ?_⟩
    refine (flip_no x hx w h.mp).mono fun r w' ⟨k1, k2⟩ => ⟨k1, by rw [k2]; exact Below.refl _ _, a, by rw [k2]; exact h, by rw [k2]; exact St.refl _ _, fun w2 h2 => ?_⟩
    exact (rflip_no x hx w2 h2.rx).mono fun r w3 ⟨j1, j2⟩ => ⟨j1, by rw [j2]; exact Below.refl _ _, a, by rw [j2]; exact h2, by rw [j2]; exact St.refl _ _, hre.up, hr.e1, hr.e2⟩
  have hp : 0 ≤ a.ph x ∧ a.ph x < 4611686018427387904 := ⟨hre.lo x hx, by have := hre.hi x hx; omega⟩
  have hp2 : 0 ≤ a.ph2 x ∧ a.ph2 x < 4611686018427387904 := by rw [hr.e1]; exact hp
  have hfp := hre.flipP hx
  have hfp2 : rfP a.L a.ph2 n x ↔ rfP a.L a.ph n x := by rw [hr.e1]
  by_cases hf : a.fl x = 0
  case neg =>
    refine ⟨(a.fl x), fun w h => ?_⟩
    obtain ⟨Fo, f1, _, f3⟩ := h.mp.full X
    refine (flip_any x hx hn hp w f3 h.bs).mono fun r w' ⟨k3, k4⟩ => ?_
    have k5 : r = .returned (.int .i64 (a.fl x)) ∧ MP Fo w' B a.hb a.wb a.bb n room cmp a.R a.ph a.fl a.H := by
      rcases k4 with ⟨_, k5, k6⟩ | ⟨k5, _⟩ | ⟨k5, _⟩
      · exact ⟨k5, k6⟩
      · exact absurd k5 hf
      · exact absurd k5 hf
    refine ⟨k5.1, k3, _, (h.pcall hX f1 _ _ _ k5.2 k3.size).1, (h.pcall hX f1 _ _ _ k5.2 k3.size).2, fun w2 h2 => ?_⟩
    obtain ⟨Fq, g1, g3⟩ := h2.rx.full
    refine (rflip_any x hx hn (Nat.le_trans hll (by omega)) hp2 w2 g3 h2.bs).mono fun r w3 ⟨j3, j4⟩ => ?_
    have hf2 : a.fl2 x ≠ 0 := by rw [hr.e2]; exact hf
    have j5 : r = .returned (.int .i64 (a.fl2 x)) ∧ RX Fq w3 B a.qb a.pb a.fb n room srt a.ph2 a.fl2 a.v a.L := by
      rcases j4 with ⟨_, j5, j6⟩ | ⟨j5, _⟩ | ⟨j5, _⟩
      · exact ⟨j5, j6⟩
      · exact absurd j5 hf2
      · exact absurd j5 hf2
    exact ⟨by rw [j5.1, hr.e2], j3, _, (h2.qcall (X := X) g1 _ _ _ _ j5.2 j3.size).1, (h2.qcall g1 _ _ _ _ j5.2 j3.size).2, hre.up, hr.e1, hr.e2⟩
  case pos =>
  have hf2 : a.fl2 x = 0 := by rw [hr.e2]; exact hf
  by_cases hP : Low a.ph n x ∨ sentP a.H n x (a.ph x - 1) ∨ dueP a.H a.ph n x
  · refine ⟨92, fun w h => ?_⟩
    obtain ⟨Fo, f1, _, f3⟩ := h.mp.full X
    refine (flip_any x hx hn hp w f3 h.bs).mono fun r w' ⟨k3, k4⟩ => ?_
    have k5 : r = .returned (.int .i64 92) ∧ MP Fo w' B a.hb a.wb a.bb n room cmp a.R a.ph a.fl a.H := by
      rcases k4 with ⟨k5, _⟩ | ⟨_, _, k5, k6⟩ | ⟨_, k5, _⟩
      · exact absurd hf k5
      · exact ⟨k5, k6⟩
      · exact absurd hP k5
    refine ⟨k5.1, k3, _, (h.pcall hX f1 _ _ _ k5.2 k3.size).1, (h.pcall hX f1 _ _ _ k5.2 k3.size).2, fun w2 h2 => ?_⟩
    obtain ⟨Fq, g1, g3⟩ := h2.rx.full
    refine (rflip_any x hx hn (Nat.le_trans hll (by omega)) hp2 w2 g3 h2.bs).mono fun r w3 ⟨j3, j4⟩ => ?_
    have j5 : r = .returned (.int .i64 92) ∧ RX Fq w3 B a.qb a.pb a.fb n room srt a.ph2 a.fl2 a.v a.L := by
      rcases j4 with ⟨j5, _⟩ | ⟨_, _, j5, j6⟩ | ⟨_, j5, _⟩
      · exact absurd hf2 j5
      · exact ⟨j5, j6⟩
      · exact absurd (hfp2.2 (hfp.1 hP)) j5
    exact ⟨j5.1, j3, _, (h2.qcall (X := X) g1 _ _ _ _ j5.2 j3.size).1, (h2.qcall g1 _ _ _ _ j5.2 j3.size).2, hre.up, hr.e1, hr.e2⟩
  · refine ⟨0, fun w h => ?_⟩
    obtain ⟨Fo, f1, _, f3⟩ := h.mp.full X
    refine (flip_any x hx hn hp w f3 h.bs).mono fun r w' ⟨k3, k4⟩ => ?_
    have k5 : r = .returned (.int .i64 0) ∧ MP Fo w' B a.hb a.wb a.bb n room cmp a.R (fun i => if i = x then a.ph x + 1 else a.ph i) a.fl a.H := by
      rcases k4 with ⟨k5, _⟩ | ⟨_, k5, _⟩ | ⟨_, _, k5, k6⟩
      · exact absurd hf k5
      · exact absurd k5 hP
      · exact ⟨k5, k6⟩
    refine ⟨k5.1, k3, _, (h.pcall hX f1 _ _ _ k5.2 k3.size).1, (h.pcall hX f1 _ _ _ k5.2 k3.size).2, fun w2 h2 => ?_⟩
    obtain ⟨Fq, g1, g3⟩ := h2.rx.full
    refine (rflip_any x hx hn (Nat.le_trans hll (by omega)) hp2 w2 g3 h2.bs).mono fun r w3 ⟨j3, j4⟩ => ?_
    have j5 : r = .returned (.int .i64 0) ∧ RX Fq w3 B a.qb a.pb a.fb n room srt (fun i => if i = x then a.ph2 x + 1 else a.ph2 i) a.fl2 a.v a.L := by
      rcases j4 with ⟨j5, _⟩ | ⟨_, j5, _⟩ | ⟨_, _, j5, j6⟩
      · exact absurd hf2 j5
      · exact absurd (hfp.2 (hfp2.1 j5)) hP
      · exact ⟨j5, j6⟩
    exact ⟨j5.1, j3, _, (h2.qcall (X := X) g1 _ _ _ _ j5.2 j3.size).1, (h2.qcall g1 _ _ _ _ j5.2 j3.size).2, hre.flip hx hP, by show (fun i => if i = x then a.ph2 x + 1 else a.ph2 i) = fun i => if i = x then a.ph x + 1 else a.ph i; rw [hr.e1], hr.e2⟩
theorem drop_both (a : AP) (t : Nat) (hn : n ≤ 64) (ht : t ≤ 1000) (hX : ∀ k, X k → k < B) (hr : RA n room a t) (x : Int) : ∃ z1 z2 : Int, Both (.tuple #[.int .i64 z1, .int .i64 z2]) n room cmp srt B X 18 48 #[.pointer (some ⟨a.hb, 0, none⟩), .int .i64 x] #[.pointer (some ⟨a.qb, 0, none⟩), .int .i64 x] a t := by
  have hre := hr.re
  have hll := hre.len
  rcases who x n with hx | ⟨x, hx, rfl⟩
  · refine ⟨0, 91, fun w h => ?_⟩
    refine (drop_no x hx w h.mp).mono fun r w' ⟨k1, k2⟩ => ⟨k1, by rw [k2]; exact Below.refl _ _, a, by rw [k2]; exact h, by rw [k2]; exact St.refl _ _, fun w2 h2 => ?_⟩
    exact (rdrop_no x hx w2 h2.rx).mono fun r w3 ⟨j1, j2⟩ => ⟨j1, by rw [j2]; exact Below.refl _ _, a, by rw [j2]; exact h2, by rw [j2]; exact St.refl _ _, hre.up, hr.e1, hr.e2⟩
  have hp : 0 ≤ a.ph x ∧ a.ph x < 4611686018427387904 := ⟨hre.lo x hx, by have := hre.hi x hx; omega⟩
  refine ⟨(sm (fun j => (a.H x j (par (a.ph x))).l) n : Nat), 0, fun w h => ?_⟩
  obtain ⟨Fo, f1, _, f3⟩ := h.mp.full X
  refine (drop_any x hx hn hp w f3 h.bs).mono fun r w' ⟨k3, k4, k5⟩ => ⟨k4, k3, _, (h.pcall hX f1 _ _ _ k5 k3.size).1, (h.pcall hX f1 _ _ _ k5 k3.size).2, fun w2 h2 => ?_⟩
  obtain ⟨Fq, g1, g3⟩ := h2.rx.full
  refine (rdrop_any x hx (Nat.le_trans hll (by omega)) w2 g3 h2.bs).mono fun r w3 ⟨j3, j4, v', j5⟩ => ⟨?_, j3, _, (h2.qcall (X := X) g1 _ _ _ _ j5 j3.size).1, (h2.qcall g1 _ _ _ _ j5 j3.size).2, ?_, hr.e1, ?_⟩
  · rw [j4]
    show Ending.returned (.tuple #[.int .i64 ((a.L.countP (dq x (a.ph2 x)) : Nat) : Int), .int .i64 0]) = _
    rw [hr.e1, ← hre.dropN hx]
  · show RE n room a.ph _ (a.L.filter fun l => !dq x (a.ph2 x) l) (t + 1)
    rw [hr.e1]
    exact hre.drop hx
  · show (fun i => if i = x then (0 : Int) else a.fl2 i) = fun i => if i = x then (0 : Int) else a.fl i
    rw [hr.e2]
theorem phase_both (a : AP) (t : Nat) (hr : RA n room a t) (x : Int) : ∃ z : Int, Both (.int .i64 z) n room cmp srt B X 19 45 #[.pointer (some ⟨a.hb, 0, none⟩), .int .i64 x] #[.pointer (some ⟨a.qb, 0, none⟩), .int .i64 x] a t := by
  have hre := hr.re
  rcases who x n with hx | ⟨x, hx, rfl⟩
  · refine ⟨(-1), fun w h => ?_⟩
    refine (phase_no _ _ _ _ _ x hx _ w h.mp.p).mono fun r w' ⟨k1, k2⟩ => ⟨k1, by rw [k2]; exact Below.refl _ _, a, by rw [k2]; exact h, by rw [k2]; exact St.refl _ _, fun w2 h2 => ?_⟩
    exact (rph_no x hx w2 h2.rx).mono fun r w3 ⟨j1, j2⟩ => ⟨j1, by rw [j2]; exact Below.refl _ _, a, by rw [j2]; exact h2, by rw [j2]; exact St.refl _ _, hre.up, hr.e1, hr.e2⟩
  · refine ⟨(a.ph x), fun w h => ?_⟩
    refine (phase_yes _ _ _ _ _ x hx _ _ _ w h.mp.p h.mp.wk).mono fun r w' ⟨k1, k2⟩ => ⟨k1, by rw [k2]; exact Below.refl _ _, a, by rw [k2]; exact h, by rw [k2]; exact St.refl _ _, fun w2 h2 => ?_⟩
    exact (rph_yes x hx w2 h2.rx).mono fun r w3 ⟨j1, j2⟩ => ⟨by rw [j1, hr.e1], by rw [j2]; exact Below.refl _ _, a, by rw [j2]; exact h2, by rw [j2]; exact St.refl _ _, hre.up, hr.e1, hr.e2⟩
theorem err_both (a : AP) (t : Nat) (hr : RA n room a t) (x : Int) : ∃ z : Int, Both (.int .i64 z) n room cmp srt B X 20 50 #[.pointer (some ⟨a.hb, 0, none⟩), .int .i64 x] #[.pointer (some ⟨a.qb, 0, none⟩), .int .i64 x] a t := by
  have hre := hr.re
  rcases who x n with hx | ⟨x, hx, rfl⟩
  · refine ⟨91, fun w h => ?_⟩
    refine (err_no _ _ _ _ _ x hx _ w h.mp.p).mono fun r w' ⟨k1, k2⟩ => ⟨k1, by rw [k2]; exact Below.refl _ _, a, by rw [k2]; exact h, by rw [k2]; exact St.refl _ _, fun w2 h2 => ?_⟩
    exact (rer_no x hx w2 h2.rx).mono fun r w3 ⟨j1, j2⟩ => ⟨j1, by rw [j2]; exact Below.refl _ _, a, by rw [j2]; exact h2, by rw [j2]; exact St.refl _ _, hre.up, hr.e1, hr.e2⟩
  · refine ⟨(a.fl x), fun w h => ?_⟩
    refine (err_yes _ _ _ _ _ x hx _ _ _ w h.mp.p h.mp.wk).mono fun r w' ⟨k1, k2⟩ => ⟨k1, by rw [k2]; exact Below.refl _ _, a, by rw [k2]; exact h, by rw [k2]; exact St.refl _ _, fun w2 h2 => ?_⟩
    exact (rer_yes x hx w2 h2.rx).mono fun r w3 ⟨j1, j2⟩ => ⟨by rw [j1, hr.e2], by rw [j2]; exact Below.refl _ _, a, by rw [j2]; exact h2, by rw [j2]; exact St.refl _ _, hre.up, hr.e1, hr.e2⟩
theorem wait_both (a : AP) (t : Nat) (hn : n ≤ 64) (ht : t ≤ 1000) (hr : RA n room a t) (x : Int) : ∃ z1 z2 : Int, Both (.tuple #[.int .i64 z1, .int .i64 z2]) n room cmp srt B X 25 49 #[.pointer (some ⟨a.hb, 0, none⟩), .int .i64 x] #[.pointer (some ⟨a.qb, 0, none⟩), .int .i64 x] a t := by
  have hre := hr.re
  have hll := hre.len
  rcases who x n with hx | ⟨x, hx, rfl⟩
  · refine ⟨0, 91, fun w h => ?_⟩
    refine (waiting_no _ _ _ _ _ x hx _ w h.mp.p).mono fun r w' ⟨k1, k2⟩ => ⟨k1, by rw [k2]; exact Below.refl _ _, a, by rw [k2]; exact h, by rw [k2]; exact St.refl _ _, fun w2 h2 => ?_⟩
    exact (rwt_no x hx w2 h2.rx).mono fun r w3 ⟨j1, j2⟩ => ⟨j1, by rw [j2]; exact Below.refl _ _, a, by rw [j2]; exact h2, by rw [j2]; exact St.refl _ _, hre.up, hr.e1, hr.e2⟩
  · refine ⟨(sm (fun i => (a.H i x 0).l + (a.H i x 1).l) n : Nat), 0, fun w h => ?_⟩
    refine (waiting_yes _ _ _ _ _ x hx hn _ _ _ w h.mp.bx).mono fun r w' ⟨k1, k2⟩ => ⟨k1, by rw [k2]; exact Below.refl _ _, a, by rw [k2]; exact h, by rw [k2]; exact St.refl _ _, fun w2 h2 => ?_⟩
    exact (rwt_yes x hx (Nat.le_trans hll (by omega)) w2 h2.rx).mono fun r w3 ⟨j1, j2⟩ => ⟨by rw [j1, hre.waitN hx], j2.mono h2.bs, a, h2.below j2, St.below j2, hre.up, hr.e1, hr.e2⟩
end Go.Proofs.Ytkfjcbnhohipgaa
