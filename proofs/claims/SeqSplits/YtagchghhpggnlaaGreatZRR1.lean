import Derived.Test.YtagchghhpggnlaaGreatZRN16
import Derived.Test.YtagchghhpggnlaaGreatZRN13
import Derived.Test.YtagchghhpggnlaaGreatZRN24a
namespace Go.Proofs.YtagchghhpggnlaaGreat
open Go.ChangeShapes Go.WideShapes Go.ChangeAt Go.RowKit
set_option linter.unusedVariables false
set_option linter.unusedSimpArgs false

/-! ### what is true on the way -/
theorem StepR.zero {p : Pl} {A B : Ab} {x : Se} (h : StepR p A x 0 B) : ¬ Over p A ∧ Lst A.M x ∧ (effA p A x).code = 0 ∧ B = nextA p A x := by
  rcases h with ⟨_, e, _⟩ | ⟨ho, y, hy, ⟨e, e', _⟩ | ⟨e1, _, rfl, rfl⟩⟩
  · cases e
  · exact absurd e'.symm e
  · exact ⟨ho, hy, e1, rfl⟩
theorem steps_ok {p : Pl} (hp : PlOk p) {A : Ab} (ha : AOk2 p A) {n : Nat} {B : Ab} (h : StepsR p A n B) : AOk2 p B := by
  induction h with
  | zero => exact ha
  | more h1 h2 ih =>
    obtain ⟨ho, hl, _, rfl⟩ := h2.zero
    exact ih.next hp hl.1 fun e => ho (.inr (.inr e))
theorem nextA_at (p : Pl) (A : Ab) (x : Se) : (nextA p A x).Z A.m = x := by
  show setS A.Z A.m x A.m = x
  unfold setS
  rw [if_pos rfl]
/-- each event of the trace, where it was executed -/
theorem StepsR.at {p : Pl} (hp : PlOk p) {n : Nat} {B : Ab} (h : StepsR p (fstA p) n B) {i : Nat} (hi : i < n) : ∃ A, StepsR p (fstA p) i A ∧ AOk2 p A ∧ A.m = i ∧ (∀ j, j < i → A.Z j = B.Z j) ∧ ¬ Over p A ∧ Lst A.M (B.Z i) ∧ (effA p A (B.Z i)).code = 0 ∧ StepsR p (fstA p) (i + 1) (nextA p A (B.Z i)) := by
  obtain ⟨A, x, C, j1, j2, j3⟩ := h.pre i hi
  obtain ⟨B', hB, hz⟩ := h.cut (i + 1) (by omega)
  obtain rfl := j3.one hB
  have hm0 : (fstA p).m = 0 := rfl
  have hm := j1.m
  obtain ⟨ho, hl, hc, rfl⟩ := j2.zero
  have hx : B.Z i = x := by
    rw [hz i (by omega)]
    have := nextA_at p A x
    rw [show A.m = i by omega] at this
    exact this
  have hzA : ∀ j, j < i → A.Z j = B.Z j := fun j hj => by
    rw [hz j (by omega)]
    show A.Z j = setS A.Z A.m x j
    unfold setS
    rw [if_neg (by omega)]
  rw [hx]
  exact ⟨A, j1, steps_ok hp (fst_ok hp) j1, by omega, hzA, ho, hl, hc, j3⟩
/-- a run's end: the steps that lead there -/
theorem EndR.steps {p : Pl} {C : Ab} (h : EndR p (fstA p) C) : ∃ B, StepsR p (fstA p) C.m B ∧ C.Z = B.Z ∧ C.K = B.K ∧ C.d = B.d ∧ C.s = B.s ∧ C.M = B.M := by
  obtain ⟨n, B, y, c, h1, h2, h3⟩ := h
  have hm := h1.m
  have hm0 : (fstA p).m = 0 := rfl
  rcases h2 with ⟨_, _, _, rfl⟩ | ⟨_, z, _, ⟨_, _, _, rfl⟩ | ⟨_, e9, _⟩⟩
  · exact ⟨_, by rw [show C.m = n by omega]; exact h1, rfl, rfl, rfl, rfl, rfl⟩
  · exact ⟨B, by show StepsR p (fstA p) B.m B; rw [show B.m = n by omega]; exact h1, rfl, rfl, rfl, rfl, rfl⟩
  · exact absurd e9 h3
/-! ### a part's state, by its own events alone -/
noncomputable def efS (p : Pl) (x : Se) (σ : (Nat → Int) × Int × Int) : Ef := effP (pgA p x) (clA p x) (p.nw x.d.toNat) σ.1 σ.2.1 σ.2.2
noncomputable def stP (p : Pl) (Z : Nat → Se) (k : Nat) : Nat → (Nat → Int) × Int × Int
  | 0 => (p.K k, (fstA p).d k, (fstA p).s k)
  | n + 1 => if (Z n).d.toNat = k then ((efS p (Z n) (stP p Z k n)).wd, (efS p (Z n) (stP p Z k n)).dice, (efS p (Z n) (stP p Z k n)).sent) else stP p Z k n
theorem stP_congr (p : Pl) {Z Y : Nat → Se} (k : Nat) : ∀ n, (∀ i, i < n → Z i = Y i) → stP p Z k n = stP p Y k n
  | 0, _ => rfl
  | n + 1, h => by
    show (if (Z n).d.toNat = k then _ else _) = (if (Y n).d.toNat = k then _ else _)
    rw [h n (by omega), stP_congr p k n fun i hi => h i (by omega)]
theorem steps_stP {p : Pl} {n : Nat} {B : Ab} (h : StepsR p (fstA p) n B) : ∀ k, stP p B.Z k n = (B.K k, B.d k, B.s k) := by
  induction h with
  | zero => exact fun k => rfl
  | more h1 h2 ih =>
    rename_i n A C x
    intro k
    obtain ⟨ho, hl, hc, rfl⟩ := h2.zero
    have hm := h1.m
    have hm0 : (fstA p).m = 0 := rfl
    have hz : (nextA p A x).Z n = x := by
      have := nextA_at p A x
      rw [show A.m = n by omega] at this
      exact this
    have hco : stP p (nextA p A x).Z k n = (A.K k, A.d k, A.s k) := by
      rw [← ih k]
      refine stP_congr p k n fun i hi => ?_
      show setS A.Z A.m x i = _
      unfold setS
      rw [if_neg (by omega)]
    show (if ((nextA p A x).Z n).d.toNat = k then _ else _) = _
    rw [hco, hz]
    by_cases e : x.d.toNat = k
    · subst e
      rw [if_pos rfl]
      show _ = ((if x.d.toNat = x.d.toNat then (effA p A x).wd else A.K x.d.toNat), (if x.d.toNat = x.d.toNat then (effA p A x).dice else A.d x.d.toNat), (if x.d.toNat = x.d.toNat then (effA p A x).sent else A.s x.d.toNat))
      rw [if_pos rfl, if_pos rfl, if_pos rfl]
      rfl
    · rw [if_neg e]
      show _ = ((if k = x.d.toNat then (effA p A x).wd else A.K k), (if k = x.d.toNat then (effA p A x).dice else A.d k), (if k = x.d.toNat then (effA p A x).sent else A.s k))
      rw [if_neg (fun e9 => e e9.symm), if_neg (fun e9 => e e9.symm), if_neg (fun e9 => e e9.symm)]
/-- an event of the trace and its part's state there: the call fits, nothing fails -/
structure AtE (p : Pl) (C : Ab) (i : Nat) : Prop where
  dn : (C.Z i).d.toNat < p.nq ∧ (C.Z i).d = ((C.Z i).d.toNat : Int)
  pr : (p.pr (C.Z i).d.toNat).toNat < p.np ∧ 0 ≤ p.pr (C.Z i).d.toNat ∧ p.pr (C.Z i).d.toNat < (p.np : Int)
  ok : OkC (clA p (C.Z i))
  a64 : ∀ j, j < (pgA p (C.Z i)).n → In64 ((pgA p (C.Z i)).a j)
  wd : ∀ j, In64 ((stP p C.Z (C.Z i).d.toNat i).1 j)
  dc : u64ok (stP p C.Z (C.Z i).d.toNat i).2.1
  sn : u64ok (stP p C.Z (C.Z i).d.toNat i).2.2
  eo : EOk (pgA p (C.Z i)) (clA p (C.Z i)) (stP p C.Z (C.Z i).d.toNat i).2.2 (p.nw (C.Z i).d.toNat) (efS p (C.Z i) (stP p C.Z (C.Z i).d.toNat i))
  code : (efS p (C.Z i) (stP p C.Z (C.Z i).d.toNat i)).code = 0
theorem EndR.atE {p : Pl} (hp : PlOk p) {C : Ab} (h : EndR p (fstA p) C) {i : Nat} (hi : i < C.m) : AtE p C i := by
  obtain ⟨B, hB, hZ, _⟩ := h.steps
  obtain ⟨A, k1, k2, k3, k4, k5, k6, k7, _⟩ := hB.at hp hi
  have hF := fitE hp k2 k6.1
  have hst : stP p C.Z (C.Z i).d.toNat i = (A.K (C.Z i).d.toNat, A.d (C.Z i).d.toNat, A.s (C.Z i).d.toNat) := by
    rw [← steps_stP k1]
    exact stP_congr p _ i fun j hj => by rw [hZ]; exact (k4 j hj).symm
  rw [← hZ] at hF k7
  obtain ⟨g1, g2, g3⟩ := hp.gt.2 _ hF.dn.1
  have hs := hF.s0
  have hm := k2.m
  refine ⟨hF.dn, ⟨hF.pr, g1, g2⟩, hF.ok, hF.a64, ?_, ?_, ?_, ?_, ?_⟩
  · rw [hst]; exact k2.wd _ hF.dn.1
  · rw [hst]; exact k2.dc _ hF.dn.1
  · rw [hst]
    show 0 ≤ A.s (C.Z i).d.toNat ∧ A.s (C.Z i).d.toNat ≤ 18446744073709551615
    omega
  · rw [hst]; exact hF.eo
  · rw [hst]; exact k7
theorem EndR.stEnd {p : Pl} {C : Ab} (h : EndR p (fstA p) C) (k : Nat) : stP p C.Z k C.m = (C.K k, C.d k, C.s k) := by
  obtain ⟨B, hB, hZ, hK, hd, hs, _⟩ := h.steps
  rw [hZ, hK, hd, hs]
  exact steps_stP hB k
end Go.Proofs.YtagchghhpggnlaaGreat
namespace Go.Proofs.YtagchghhpggnlaaGreat
open Go.ChangeShapes Go.WideShapes Go.ChangeAt Go.RowKit
set_option linter.unusedVariables false
set_option linter.unusedSimpArgs false

/-! ### what the handlers have sent -/
noncomputable def efN (p : Pl) (Z : Nat → Se) (n : Nat) : Ef := efS p (Z n) (stP p Z (Z n).d.toNat n)
noncomputable def outN (p : Pl) (Z : Nat → Se) : Nat → Nat
  | 0 => 0
  | n + 1 => outN p Z n + (efN p Z n).on
noncomputable def outZ (p : Pl) (Z : Nat → Se) : Nat → Nat → Se
  | 0 => fun _ => zeroE
  | n + 1 => fun j => if j < outN p Z n then outZ p Z n j else outS (efN p Z n) (j - outN p Z n)
theorem efN_congr (p : Pl) {Z Y : Nat → Se} {n : Nat} (h : ∀ i, i < n + 1 → Z i = Y i) : efN p Z n = efN p Y n := by
  unfold efN
  rw [h n (by omega), stP_congr p _ n fun i hi => h i (by omega)]
theorem outN_congr (p : Pl) {Z Y : Nat → Se} : ∀ n, (∀ i, i < n → Z i = Y i) → outN p Z n = outN p Y n
  | 0, _ => rfl
  | n + 1, h => by
    show outN p Z n + (efN p Z n).on = outN p Y n + (efN p Y n).on
    rw [outN_congr p n fun i hi => h i (by omega), efN_congr p h]
theorem outZ_congr (p : Pl) {Z Y : Nat → Se} : ∀ n, (∀ i, i < n → Z i = Y i) → outZ p Z n = outZ p Y n
  | 0, _ => rfl
  | n + 1, h => by
    show (fun j => if j < outN p Z n then outZ p Z n j else outS (efN p Z n) (j - outN p Z n)) = fun j => if j < outN p Y n then outZ p Y n j else outS (efN p Y n) (j - outN p Y n)
    rw [outN_congr p n fun i hi => h i (by omega), outZ_congr p n fun i hi => h i (by omega), efN_congr p h]
theorem out_old {p : Pl} {Z : Nat → Se} {n : Nat} {x : Se} (h : InX (outN p Z n) (outZ p Z n) x) : InX (outN p Z (n + 1)) (outZ p Z (n + 1)) x := by
  obtain ⟨j, hj, rfl⟩ := h
  refine ⟨j, by show j < outN p Z n + _; omega, ?_⟩
  show (if j < outN p Z n then outZ p Z n j else _) = _
  rw [if_pos hj]
theorem out_new {p : Pl} {Z : Nat → Se} {n : Nat} {x : Se} (h : InX (efN p Z n).on (outS (efN p Z n)) x) : InX (outN p Z (n + 1)) (outZ p Z (n + 1)) x := by
  obtain ⟨j, hj, rfl⟩ := h
  refine ⟨outN p Z n + j, by show outN p Z n + j < outN p Z n + (efN p Z n).on; omega, ?_⟩
  show (if outN p Z n + j < outN p Z n then _ else outS (efN p Z n) (outN p Z n + j - outN p Z n)) = _
  rw [if_neg (by omega), show outN p Z n + j - outN p Z n = j by omega]
theorem steps_next_z {p : Pl} {n : Nat} {A : Ab} (h : StepsR p (fstA p) n A) (x : Se) : (nextA p A x).Z n = x ∧ ∀ i, i < n → (nextA p A x).Z i = A.Z i := by
  have hm := h.m
  have hm0 : (fstA p).m = 0 := rfl
  refine ⟨?_, fun i hi => ?_⟩
  · have := nextA_at p A x
    rw [show A.m = n by omega] at this
    exact this
  · show setS A.Z A.m x i = _
    unfold setS
    rw [if_neg (by omega)]
theorem steps_efN {p : Pl} {n : Nat} {A : Ab} (h : StepsR p (fstA p) n A) (x : Se) : efN p (nextA p A x).Z n = effA p A x := by
  obtain ⟨hz, hl⟩ := steps_next_z h x
  unfold efN
  rw [hz, stP_congr p _ n hl, steps_stP h]
  rfl
/-- what is pending was there at the start or was sent -/
theorem steps_pend {p : Pl} {n : Nat} {A : Ab} (h : StepsR p (fstA p) n A) : ∀ x, A.M x → InX p.ns (evS p.S) x ∨ InX (outN p A.Z n) (outZ p A.Z n) x := by
  induction h with
  | zero => exact fun x hx => .inl hx
  | more h1 h2 ih =>
    rename_i n A C e
    obtain ⟨ho, hl, hc, rfl⟩ := h2.zero
    obtain ⟨hz, hlt⟩ := steps_next_z h1 e
    intro x hx
    have hN := outN_congr p (Z := (nextA p A e).Z) (Y := A.Z) n hlt
    have hZ := outZ_congr p (Z := (nextA p A e).Z) (Y := A.Z) n hlt
    rcases hx with ⟨hx, _⟩ | hx
    · rcases ih x hx with h9 | h9
      · exact .inl h9
      · exact .inr (out_old (by rw [hN, hZ]; exact h9))
    · exact .inr (out_new (by rw [steps_efN h1]; exact hx))
theorem klt_lt {a b : Se} (h : a.t < b.t) : klt a b = true := (klt_iff a b).2 (by omega)
structure Cause (p : Pl) (C : Ab) (i : Nat) : Prop where
  en : (C.Z i).t < p.en
  up : 0 < i → klt (C.Z (i - 1)) (C.Z i) = true
  src : InX p.ns (evS p.S) (C.Z i) ∨ InX (outN p C.Z i) (outZ p C.Z i) (C.Z i)
  out : ∀ k, k < (efN p C.Z i).on → (outS (efN p C.Z i) k).s = (C.Z i).d ∧ (C.Z i).t + p.lk ≤ (outS (efN p C.Z i) k).t
theorem EndR.cause {p : Pl} (hp : PlOk p) {C : Ab} (h : EndR p (fstA p) C) {i : Nat} (hi : i < C.m) : Cause p C i := by
  obtain ⟨B, hB, hZ, _⟩ := h.steps
  obtain ⟨A, k1, k2, k3, k4, k5, k6, k7, k8⟩ := hB.at hp hi
  rw [← hZ] at k6 k7 k8 k4
  have hF := fitE hp k2 k6.1
  have hmm := k2.m
  have hef : efN p C.Z i = effA p A (C.Z i) := by
    unfold efN
    rw [stP_congr p (Y := A.Z) _ i fun j hj => (k4 j hj).symm, steps_stP k1]
    rfl
  refine ⟨?_, fun h0 => ?_, ?_, fun k hk => ?_⟩
  · apply Classical.byContradiction
    intro hc
    refine k5 (.inr (.inl fun y hy => ?_))
    by_cases e : y = C.Z i
    · rw [e]; omega
    · have := (klt_iff _ _).1 (k6.2 y hy e)
      omega
  · obtain ⟨A', j1, j2, j3, j4, j5, j6, j7, j8⟩ := hB.at hp (show i - 1 < C.m by omega)
    rw [← hZ] at j6 j7 j8
    rw [show i - 1 + 1 = i by omega] at j8
    have hAA := j8.one k1
    have hy := k6.1
    rw [← hAA] at hy
    have hF' := fitE hp j2 j6.1
    rcases hy with ⟨hy, hne⟩ | ⟨k, hk, he⟩
    · exact j6.2 _ hy hne
    · have := (hF'.outq j2.m hk).2.2
      have hlk := hp.lk
      rw [he] at this
      exact klt_lt (by omega)
  · have := steps_pend k1 (C.Z i) k6.1
    rw [outN_congr p (Z := C.Z) (Y := A.Z) i fun j hj => (k4 j hj).symm, outZ_congr p (Z := C.Z) (Y := A.Z) i fun j hj => (k4 j hj).symm]
    exact this
  · rw [hef] at hk ⊢
    have := hF.outq hmm hk
    exact ⟨this.1, this.2.2⟩
theorem outN_le {p : Pl} (hp : PlOk p) {C : Ab} (h : EndR p (fstA p) C) : ∀ {i : Nat}, i ≤ C.m → outN p C.Z i ≤ 16 * i
  | 0, _ => Nat.zero_le _
  | i + 1, hi => by
    have h1 := outN_le hp h (show i ≤ C.m by omega)
    have h2 := (h.atE hp (show i < C.m by omega)).eo.on
    have h3 : (efN p C.Z i).on ≤ 16 := h2
    show outN p C.Z i + (efN p C.Z i).on ≤ 16 * (i + 1)
    omega
end Go.Proofs.YtagchghhpggnlaaGreat
