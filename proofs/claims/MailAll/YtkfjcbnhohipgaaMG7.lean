import Derived.Test.YtkfjcbnhohipgaaMG6
import Derived.BigQuiet
import Derived.Deep.RegionLaw
import Derived.Deep.RegionHeld3
import Derived.Deep.Cut
import Derived.Deep.DeepCutAuto
import Derived.Deep.CutBlock
import Derived.Deep.CutRange
import Derived.Deep.AppendLies
import Derived.Handy
import Derived.Lib.RabinKarpLaws
namespace Go.Proofs.Ytkfjcbnhohipgaa
open Go.ChangeShapes Go.WideShapes Go.ChangeAt Go.RowKit
set_option linter.unusedVariables false
set_option linter.unusedSimpArgs false


variable {n : Nat} {room : Int} {cmp : Value} {srt : Bool} {B : Nat} {X : Nat → Prop}
theorem BlA.refl (b : Nat) (w : World) : BlA X b w w := ⟨rfl, rfl, rfl, Nat.le_refl _, fun _ _ _ => rfl⟩
theorem BlA.trans {b : Nat} {w1 w2 w3 : World} (h : BlA X b w1 w2) (h' : BlA X b w2 w3) : BlA X b w1 w3 := ⟨h'.os.trans h.os, h'.tape.trans h.tape, h'.output.trans h.output, Nat.le_trans h.size h'.size, fun k hk hx => (h'.block k hk hx).trans (h.block k hk hx)⟩
theorem BlA.of {b : Nat} {w1 w2 : World} (h : Below b w1 w2) : BlA X b w1 w2 := ⟨h.os, h.tape, h.output, h.size, fun k hk _ => h.block k hk⟩
theorem TAt.keep {W W' : World} {v : Value} {m : Nat} {k : Nat → Int × Int} (h : TAt W v m k) (hk : ∀ j, v.ownBlock = some j → W'.heap[j]? = W.heap[j]?) : TAt W' v m k := by
  obtain ⟨q, c, rfl, h1⟩ := h
  refine ⟨q, c, rfl, ?_⟩
  rcases h1 with h1 | ⟨g, rfl, h2⟩
  · exact .inl h1
  · refine .inr ⟨g, rfl, fun j hj => ?_⟩
    have hg := hk g rfl
    obtain ⟨k1, k2⟩ := h2 j hj
    exact ⟨(World.cell?_of_block (a := ⟨g, j * 2, none⟩) hg).trans k1, (World.cell?_of_block (a := ⟨g, j * 2 + 1, none⟩) hg).trans k2⟩
theorem FP_g {hb wb bb n : Nat} {R : Nat → Nat} {H : Nat → Nat → Nat → Hf} {x e : Nat} {jf : Nat → Nat} {m k : Nat} : FP hb wb bb n R (gHn H x e jf m) k ↔ FP hb wb bb n R H k := by
  unfold FP PBm
  simp only [gHn_block]
/-- a Drain on both: one code, and the same things -/
theorem drain_both (a : AP) (t : Nat) (hn : n ≤ 64) (ht : t ≤ 1000) (hX : ∀ k, X k → k < B) (hr : RA n room a t) {lt : Int × Int → Int × Int → Bool} {J : World → Prop} (hlt : ∀ a b, lt a b = (srt && decide (a.1 < b.1))) (hso : Sorts cmp lt X J) (hJ : ∀ w w', J w → Below B w w' → J w') (x : Int) :
    ∃ z : Int, ∀ w, O3 n room cmp srt B w a → J w → Calls Try.prog 17 #[.pointer (some ⟨a.hb, 0, none⟩), .int .i64 x] w fun r w' => ∃ q S c k, r = .returned (.tuple #[.slice q S c, .int .i64 z]) ∧ Own w' B 31 2 (.slice q S c) S (thF k) ∧ S ≤ 65536 ∧ (∀ j, (Value.slice q S c).ownBlock = some j → w.heap.size ≤ j) ∧ BlA X B w w' ∧ J w' ∧ ∃ a1, O3 n room cmp srt B w' a1 ∧ St n X 0 w w' a a1 ∧ (∀ j, FA n a1 j → FA n a j) ∧ ∀ w2, O3 n room cmp srt B w2 a1 → Calls Try.prog 46 #[.pointer (some ⟨a.qb, 0, none⟩), .int .i64 x] w2 fun r w3 => ∃ q2 c2 k2, r = .returned (.tuple #[.slice q2 S c2, .int .i64 z]) ∧ TAt w3 (.slice q2 S c2) S k2 ∧ (∀ i, i < S → k i = k2 i) ∧ Below B w2 w3 ∧ ∃ a2, O3 n room cmp srt B w3 a2 ∧ St n X 0 w2 w3 a1 a2 ∧ RA n room a2 (t + 1) := by
  have hre := hr.re
  have hll := hre.len
  have nil0 : ∀ w : World, Own w B 31 2 (.slice none 0 0) 0 (thF fun _ => (0, 0)) := fun w => ⟨rfl, .inl ⟨rfl, rfl⟩⟩
  rcases who x n with hx | ⟨x, hx, rfl⟩
  · refine ⟨91, fun w h hj => ?_⟩
    refine (drain_no x hx w h.mp).mono fun r w' ⟨k1, k2⟩ => ⟨none, 0, 0, fun _ => (0, 0), k1, nil0 _, by omega, fun j hj => by simp [Value.ownBlock] at hj, by rw [k2]; exact BlA.refl _ _, by rw [k2]; exact hj, a, by rw [k2]; exact h, by rw [k2]; exact St.refl _ _, fun j hj => hj, fun w2 h2 => ?_⟩
    exact (rdrain_no x hx w2 h2.rx).mono fun r w3 ⟨j1, j2⟩ => ⟨none, 0, fun _ => (0, 0), j1, ⟨none, 0, rfl, .inl rfl⟩, fun i hi => by omega, by rw [j2]; exact Below.refl _ _, a, by rw [j2]; exact h2, by rw [j2]; exact St.refl _ _, hre.up, hr.e1, hr.e2⟩
  have hp : 0 ≤ a.ph x ∧ a.ph x < 4611686018427387904 := ⟨hre.lo x hx, by have := hre.hi x hx; omega⟩
  have hp2 : 0 ≤ a.ph2 x ∧ a.ph2 x < 4611686018427387904 := by rw [hr.e1]; exact hp
  by_cases hl : Low a.ph n x
  · refine ⟨92, fun w h hj => ?_⟩
    obtain ⟨Fo, f1, _, f3⟩ := h.mp.full X
    refine (drain_low x hx hn hl w f3).mono fun r w' ⟨k1, k2, k3⟩ => ⟨none, 0, 0, fun _ => (0, 0), k1, nil0 _, by omega, fun j hj => by simp [Value.ownBlock] at hj, BlA.of (k3.mono h.bs), hJ _ _ hj (k3.mono h.bs), a, h.below k3, St.below k3, fun j hj => hj, fun w2 h2 => ?_⟩
    exact (rdrain_low x hx hn (by rw [hr.e1]; exact hl) w2 h2.rx).mono fun r w3 ⟨j1, j2, j3⟩ => ⟨none, 0, fun _ => (0, 0), j1, ⟨none, 0, rfl, .inl rfl⟩, fun i hi => by omega, j3.mono h2.bs, a, h2.below j3, St.below j3, hre.up, hr.e1, hr.e2⟩
  · have hl2 : ¬ Low a.ph2 n x := by rw [hr.e1]; exact hl
    refine ⟨0, fun w h hj => ?_⟩
    obtain ⟨Fo, f1, f2, f3⟩ := h.mp.full X
    obtain ⟨S, hS⟩ : ∃ S, sm (gln a.H x (par (a.ph x - 1)) (dueJ a.ph n x)) (dueN a.ph n x) = S := ⟨_, rfl⟩
    obtain ⟨S', hS'⟩ : ∃ S', (a.L.filter (mq x (a.ph x - 1))).length = S' := ⟨_, rfl⟩
    have hS6 : S ≤ 65536 := by
      have h1 := sm_le (gln a.H x (par (a.ph x - 1)) (dueJ a.ph n x)) 1024 (fun j => h.mp.s _ _ _) (dueN a.ph n x)
      have h2 := dueI_len a.ph x n
      unfold dueN at h1 hS
      omega
    refine (drain_ok x hx hn hp hl w f3 h.bs hso (fun k hk => ⟨hX k hk, f2 k hk⟩) (fun w' hw' => hJ w w' hj hw') _ _ _ _ rfl rfl rfl hS).mono fun r w' ⟨g, d, k1, k2, k3, k4, k5, k6, k7, k8⟩ => ?_
    refine ⟨_, S, S, d, k1, k3, hS6, fun j hj => by simp [Value.ownBlock] at hj; omega, k7, k8, _, (h.pcall hX f1 _ _ _ k6 k7.size).1, (h.pcall hX f1 _ _ _ k6 k7.size).2, fun j hj => ?_, fun w2 h2 => ?_⟩
    · rcases hj with hj | hj | hj
      · exact .inl (FP_g.1 hj)
      · exact .inr (.inl hj)
      · exact .inr (.inr hj)
    · obtain ⟨Fq, g1, g3⟩ := h2.rx.full
      have hS2 : (a.L.filter (mq x (a.ph2 x - 1))).length = S' := by rw [hr.e1]; exact hS'
      refine (rdrain_ok x hx hn (Nat.le_trans hll (by omega)) hp2 hl2 hre.inc w2 g3 h2.bs S' hS2).mono fun r w3 ⟨j1, vo, c, v', j2, j3, j4, j5, j6⟩ => ?_
      have j5' : ∀ l, (∃ p, p < S' ∧ c p = l) ↔ l ∈ a.L.filter (mq x (a.ph x - 1)) := by rw [← hr.e1]; exact j5
      obtain ⟨e1, e2⟩ := hre.same hx hl hlt hS hS' k4 k5 j4 j5'
      subst e1
      have jt := j3.tat
      obtain ⟨q2, c2, rfl, _⟩ := jt
      refine ⟨q2, c2, _, j2, j3.tat, fun i hi => e2 i hi, j1, _, (h2.qcall (X := X) g1 _ _ _ _ j6 j1.size).1, (h2.qcall g1 _ _ _ _ j6 j1.size).2, ?_, hr.e1, hr.e2⟩
      show RE n room a.ph _ (a.L.filter fun l => !mq x (a.ph2 x - 1) l) (t + 1)
      rw [hr.e1]
      exact hre.drain hl
/-- the shelf has taken a list -/
theorem O3.scall {W W' : World} {a : AP} {Fo : Nat → Option Obj} {Z : Nat → Prop} (h : O3 n room cmp srt B W a) (hZ : ∀ k, Z k → ¬ FA n a k) (hF : ∀ k, ¬ FS a.sb a.V k → ¬ Z k → Fo k = W.heap[k]?) (V' : Nat → Value) (h' : SH Fo W' B a.sb V' (a.m + 4)) (hsz : W.heap.size ≤ W'.heap.size) : O3 n room cmp srt B W' { a with V := V', m := a.m + 4 } ∧ (∀ k, k < W.heap.size → ¬ FA n a k → ¬ Z k → W'.heap[k]? = W.heap[k]?) ∧ (∀ k, FA n { a with V := V', m := a.m + 4 } k → FA n a k ∨ Z k ∨ W.heap.size ≤ k) := by
  obtain ⟨m1, m2, m3⟩ := SH.after hF h'
  have kp : ∀ k, fP n a k → W'.heap[k]? = W.heap[k]? := fun k hk => m2 k (h.mp.foot hk).2 (h.ps k hk) (fun h1 => hZ k h1 (.inl hk))
  have kq : ∀ k, fQ a k → W'.heap[k]? = W.heap[k]? := fun k hk => m2 k (h.rx.foot hk).2 (h.qs k hk) (fun h1 => hZ k h1 (.inr (.inl hk)))
  refine ⟨⟨h.mp.keep kp, h.rx.keep kq, m1, h.pq, fun k h1 h2 => ?_, fun k h1 h2 => ?_, Nat.le_trans h.bs hsz⟩, fun k h1 h2 h3 => m2 k h1 (fun h4 => h2 (.inr (.inr h4))) h3, fun k hk => ?_⟩
  · rcases m3 k h2 with h3 | h3 | h3
    · exact h.ps k h1 h3
    · exact hZ k h3 (.inl h1)
    · have := (h.mp.foot h1).2; omega
  · rcases m3 k h2 with h3 | h3 | h3
    · exact h.qs k h1 h3
    · exact hZ k h3 (.inr (.inl h1))
    · have := (h.rx.foot h1).2; omega
  · rcases hk with hk | hk | hk
    · exact .inl (.inl hk)
    · exact .inl (.inr (.inl hk))
    · rcases m3 k hk with h3 | h3 | h3
      · exact .inl (.inr (.inr h3))
      · exact .inr (.inl h3)
      · exact .inr (.inr h3)
/-- take, with all that stands beside -/
theorem take_both (a : AP) (st : Nat) (hst : st ≤ 100000) (hm : a.m ≤ 100000) (q : Option Addr) (S c : Nat) (k : Nat → Int × Int) (w0 w : World) (h : O3 n room cmp srt B w a) (ho : Own w B 31 2 (.slice q S c) S (thF k)) (hS : S ≤ 65536) (hZ : ∀ j, (Value.slice q S c).ownBlock = some j → ¬ FA n a j ∧ w0.heap.size ≤ j) {a0 : AP} (h0 : St n X 0 w0 w a0 a) (hX : ∀ k, X k → k < B) : Calls Try.prog 47 #[.pointer (some ⟨a.sb, 0, none⟩), .slice q S c, .int .i64 (st : Int)] w fun e w' => e = .returned (.tuple #[]) ∧ Below B w w' ∧ ∃ a', O3 n room cmp srt B w' a' ∧ St n X 4 w0 w' a0 a' ∧ a'.ph = a.ph ∧ a'.fl = a.fl ∧ a'.H = a.H ∧ a'.ph2 = a.ph2 ∧ a'.fl2 = a.fl2 ∧ a'.L = a.L := by
  obtain ⟨Fo, f1, f2, f3⟩ := h.sh.full (fun j => (Value.slice q S c).ownBlock = some j)
  refine (take_any st hst hm (.slice q S c) S k w f3 h.bs ho hS (fun j hj => f2 j hj) (fun i b _ hb e => (hZ b hb).1 (.inr (.inr (.inr ⟨i, trivial, e⟩))))).mono fun e w' ⟨k1, ⟨V', k2⟩, k3⟩ => ?_
  obtain ⟨m1, m2, m3⟩ := h.scall (Z := fun j => (Value.slice q S c).ownBlock = some j) (fun j hj => (hZ j hj).1) f1 V' k2 k3.size
  refine ⟨k1, k3, _, m1, ⟨fun j h1 h2 h3 => ?_, fun j hj => ?_, Nat.le_trans h0.sz k3.size, h0.i1, h0.i2, h0.i3, ?_⟩, rfl, rfl, rfl, rfl, rfl, rfl⟩
  · refine (m2 j (Nat.lt_of_lt_of_le h1 h0.sz) (fun h4 => ?_) (fun h4 => ?_)).trans (h0.kk j h1 h2 h3)
    · rcases h0.gr j h4 with h5 | h5
      · exact h2 h5
      · omega
    · have := (hZ j h4).2; omega
  · rcases m3 j hj with h4 | h4 | h4
    · exact h0.gr j h4
    · exact .inr (hZ j h4).2
    · exact .inr (Nat.le_trans h0.sz h4)
  · have e4 := h0.i4
    show a.m + 4 ≤ a0.m + 4
    omega
end Go.Proofs.Ytkfjcbnhohipgaa
