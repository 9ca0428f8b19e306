import Derived.Test.YtagchghhpggnlaaGreatYRN16
import Derived.Test.YtagchghhpggnlaaGreatYRN13
import Derived.Test.YtagchghhpggnlaaGreatYRN24a
import Derived.Test.YtagchghhpggnlaaGreatYRN12
namespace Go.Proofs.YtagchghhpggnlaaGreat
open Go.ChangeShapes Go.WideShapes Go.ChangeAt Go.RowKit
set_option linter.unusedVariables false
set_option linter.unusedSimpArgs false

/-! ### what is true on the way -/
theorem StepR.zero {p : Pl} {A B : Ab} {x : Se} (h : StepR p A x 0 B) : ¬ Over p A ∧ Lst A.M x ∧ (effA p A x).code = 0 ∧ B = nextA p A x := by
  rcases h with ⟨_, e, _⟩ | ⟨ho, y, hy, ⟨e, e', _⟩ | ⟨e1, _, rfl, rfl⟩⟩
  · cases e
  · exact absurd e'.symm e
  · exact ⟨ho, hy, e1, rfl⟩
theorem steps_ok {p : Pl} (hp : PlOk p) {A : Ab} (ha : AOk2 p A) {n : Nat} {B : Ab} (h : StepsR p A n B) : AOk2 p B := by
  induction h with
  | zero => exact ha
  | more h1 h2 ih =>
    obtain ⟨ho, hl, _, rfl⟩ := h2.zero
    exact ih.next hp hl.1 fun e => ho (.inr (.inr e))
theorem nextA_at (p : Pl) (A : Ab) (x : Se) : (nextA p A x).Z A.m = x := by
  show setS A.Z A.m x A.m = x
  unfold setS
  rw [if_pos rfl]
/-- each event of the trace, where it was executed -/
theorem StepsR.at {p : Pl} (hp : PlOk p) {n : Nat} {B : Ab} (h : StepsR p (fstA p) n B) {i : Nat} (hi : i < n) : ∃ A, StepsR p (fstA p) i A ∧ AOk2 p A ∧ A.m = i ∧ (∀ j, j < i → A.Z j = B.Z j) ∧ ¬ Over p A ∧ Lst A.M (B.Z i) ∧ (effA p A (B.Z i)).code = 0 ∧ StepsR p (fstA p) (i + 1) (nextA p A (B.Z i)) := by
  obtain ⟨A, x, C, j1, j2, j3⟩ := h.pre i hi
  obtain ⟨B', hB, hz⟩ := h.cut (i + 1) (by omega)
  obtain rfl := j3.one hB
  have hm0 : (fstA p).m = 0 := rfl
  have hm := j1.m
  obtain ⟨ho, hl, hc, rfl⟩ := j2.zero
  have hx : B.Z i = x := by
    rw [hz i (by omega)]
    have := nextA_at p A x
    rw [show A.m = i by omega] at this
    exact this
  have hzA : ∀ j, j < i → A.Z j = B.Z j := fun j hj => by
    rw [hz j (by omega)]
    show A.Z j = setS A.Z A.m x j
    unfold setS
    rw [if_neg (by omega)]
  rw [hx]
  exact ⟨A, j1, steps_ok hp (fst_ok hp) j1, by omega, hzA, ho, hl, hc, j3⟩
/-- a run's end: the steps that lead there -/
theorem EndR.steps {p : Pl} {C : Ab} (h : EndR p (fstA p) C) : ∃ B, StepsR p (fstA p) C.m B ∧ C.Z = B.Z ∧ C.K = B.K ∧ C.d = B.d ∧ C.s = B.s ∧ C.M = B.M := by
  obtain ⟨n, B, y, c, h1, h2, h3⟩ := h
  have hm := h1.m
  have hm0 : (fstA p).m = 0 := rfl
  rcases h2 with ⟨_, _, _, rfl⟩ | ⟨_, z, _, ⟨_, _, _, rfl⟩ | ⟨_, e9, _⟩⟩
  · exact ⟨_, by rw [show C.m = n by omega]; exact h1, rfl, rfl, rfl, rfl, rfl⟩
  · exact ⟨B, by show StepsR p (fstA p) B.m B; rw [show B.m = n by omega]; exact h1, rfl, rfl, rfl, rfl, rfl⟩
  · exact absurd e9 h3
/-! ### a part's state, by its own events alone -/
noncomputable def efS (p : Pl) (x : Se) (σ : (Nat → Int) × Int × Int) : Ef := effP (pgA p x) (clA p x) (p.nw x.d.toNat) σ.1 σ.2.1 σ.2.2
noncomputable def stP (p : Pl) (Z : Nat → Se) (k : Nat) : Nat → (Nat → Int) × Int × Int
  | 0 => (p.K k, (fstA p).d k, (fstA p).s k)
  | n + 1 => if (Z n).d.toNat = k then ((efS p (Z n) (stP p Z k n)).wd, (efS p (Z n) (stP p Z k n)).dice, (efS p (Z n) (stP p Z k n)).sent) else stP p Z k n
theorem stP_congr (p : Pl) {Z Y : Nat → Se} (k : Nat) : ∀ n, (∀ i, i < n → Z i = Y i) → stP p Z k n = stP p Y k n
  | 0, _ => rfl
  | n + 1, h => by
    show (if (Z n).d.toNat = k then _ else _) = (if (Y n).d.toNat = k then _ else _)
    rw [h n (by omega), stP_congr p k n fun i hi => h i (by omega)]
theorem steps_stP {p : Pl} {n : Nat} {B : Ab} (h : StepsR p (fstA p) n B) : ∀ k, stP p B.Z k n = (B.K k, B.d k, B.s k) := by
  induction h with
  | zero => exact fun k => rfl
  | more h1 h2 ih =>
    rename_i n A C x
    intro k
    obtain ⟨ho, hl, hc, rfl⟩ := h2.zero
    have hm := h1.m
    have hm0 : (fstA p).m = 0 := rfl
    have hz : (nextA p A x).Z n = x := by
      have := nextA_at p A x
      rw [show A.m = n by omega] at this
      exact this
    have hco : stP p (nextA p A x).Z k n = (A.K k, A.d k, A.s k) := by
      rw [← ih k]
      refine stP_congr p k n fun i hi => ?_
      show setS A.Z A.m x i = _
      unfold setS
      rw [if_neg (by omega)]
    show (if ((nextA p A x).Z n).d.toNat = k then _ else _) = _
    rw [hco, hz]
    by_cases e : x.d.toNat = k
    · subst e
      rw [if_pos rfl]
      show _ = ((if x.d.toNat = x.d.toNat then (effA p A x).wd else A.K x.d.toNat), (if x.d.toNat = x.d.toNat then (effA p A x).dice else A.d x.d.toNat), (if x.d.toNat = x.d.toNat then (effA p A x).sent else A.s x.d.toNat))
      rw [if_pos rfl, if_pos rfl, if_pos rfl]
      rfl
    · rw [if_neg e]
      show _ = ((if k = x.d.toNat then (effA p A x).wd else A.K k), (if k = x.d.toNat then (effA p A x).dice else A.d k), (if k = x.d.toNat then (effA p A x).sent else A.s k))
      rw [if_neg (fun e9 => e e9.symm), if_neg (fun e9 => e e9.symm), if_neg (fun e9 => e e9.symm)]
/-- an event of the trace and its part's state there: the call fits, nothing fails -/
structure AtE (p : Pl) (C : Ab) (i : Nat) : Prop where
  dn : (C.Z i).d.toNat < p.nq ∧ (C.Z i).d = ((C.Z i).d.toNat : Int)
  pr : (p.pr (C.Z i).d.toNat).toNat < p.np ∧ 0 ≤ p.pr (C.Z i).d.toNat ∧ p.pr (C.Z i).d.toNat < (p.np : Int)
  ok : OkC (clA p (C.Z i))
  a64 : ∀ j, j < (pgA p (C.Z i)).n → In64 ((pgA p (C.Z i)).a j)
  wd : ∀ j, In64 ((stP p C.Z (C.Z i).d.toNat i).1 j)
  dc : u64ok (stP p C.Z (C.Z i).d.toNat i).2.1
  sn : u64ok (stP p C.Z (C.Z i).d.toNat i).2.2
  eo : EOk (pgA p (C.Z i)) (clA p (C.Z i)) (stP p C.Z (C.Z i).d.toNat i).2.2 (p.nw (C.Z i).d.toNat) (efS p (C.Z i) (stP p C.Z (C.Z i).d.toNat i))
  code : (efS p (C.Z i) (stP p C.Z (C.Z i).d.toNat i)).code = 0
theorem EndR.atE {p : Pl} (hp : PlOk p) {C : Ab} (h : EndR p (fstA p) C) {i : Nat} (hi : i < C.m) : AtE p C i := by
  obtain ⟨B, hB, hZ, _⟩ := h.steps
  obtain ⟨A, k1, k2, k3, k4, k5, k6, k7, _⟩ := hB.at hp hi
  have hF := fitE hp k2 k6.1
  have hst : stP p C.Z (C.Z i).d.toNat i = (A.K (C.Z i).d.toNat, A.d (C.Z i).d.toNat, A.s (C.Z i).d.toNat) := by
    rw [← steps_stP k1]
    exact stP_congr p _ i fun j hj => by rw [hZ]; exact (k4 j hj).symm
  rw [← hZ] at hF k7
  obtain ⟨g1, g2, g3⟩ := hp.gt.2 _ hF.dn.1
  have hs := hF.s0
  have hm := k2.m
  refine ⟨hF.dn, ⟨hF.pr, g1, g2⟩, hF.ok, hF.a64, ?_, ?_, ?_, ?_, ?_⟩
  · rw [hst]; exact k2.wd _ hF.dn.1
  · rw [hst]; exact k2.dc _ hF.dn.1
  · rw [hst]
    show 0 ≤ A.s (C.Z i).d.toNat ∧ A.s (C.Z i).d.toNat ≤ 18446744073709551615
    omega
  · rw [hst]; exact hF.eo
  · rw [hst]; exact k7
theorem EndR.stEnd {p : Pl} {C : Ab} (h : EndR p (fstA p) C) (k : Nat) : stP p C.Z k C.m = (C.K k, C.d k, C.s k) := by
  obtain ⟨B, hB, hZ, hK, hd, hs, _⟩ := h.steps
  rw [hZ, hK, hd, hs]
  exact steps_stP hB k
end Go.Proofs.YtagchghhpggnlaaGreat
namespace Go.Proofs.YtagchghhpggnlaaGreat
open Go.ChangeShapes Go.WideShapes Go.ChangeAt Go.RowKit
set_option linter.unusedVariables false
set_option linter.unusedSimpArgs false

/-! ### what the handlers have sent -/
noncomputable def efN (p : Pl) (Z : Nat → Se) (n : Nat) : Ef := efS p (Z n) (stP p Z (Z n).d.toNat n)
noncomputable def outN (p : Pl) (Z : Nat → Se) : Nat → Nat
  | 0 => 0
  | n + 1 => outN p Z n + (efN p Z n).on
noncomputable def outZ (p : Pl) (Z : Nat → Se) : Nat → Nat → Se
  | 0 => fun _ => zeroE
  | n + 1 => fun j => if j < outN p Z n then outZ p Z n j else outS (efN p Z n) (j - outN p Z n)
theorem efN_congr (p : Pl) {Z Y : Nat → Se} {n : Nat} (h : ∀ i, i < n + 1 → Z i = Y i) : efN p Z n = efN p Y n := by
  unfold efN
  rw [h n (by omega), stP_congr p _ n fun i hi => h i (by omega)]
theorem outN_congr (p : Pl) {Z Y : Nat → Se} : ∀ n, (∀ i, i < n → Z i = Y i) → outN p Z n = outN p Y n
  | 0, _ => rfl
  | n + 1, h => by
    show outN p Z n + (efN p Z n).on = outN p Y n + (efN p Y n).on
    rw [outN_congr p n fun i hi => h i (by omega), efN_congr p h]
theorem outZ_congr (p : Pl) {Z Y : Nat → Se} : ∀ n, (∀ i, i < n → Z i = Y i) → outZ p Z n = outZ p Y n
  | 0, _ => rfl
  | n + 1, h => by
    show (fun j => if j < outN p Z n then outZ p Z n j else outS (efN p Z n) (j - outN p Z n)) = fun j => if j < outN p Y n then outZ p Y n j else outS (efN p Y n) (j - outN p Y n)
    rw [outN_congr p n fun i hi => h i (by omega), outZ_congr p n fun i hi => h i (by omega), efN_congr p h]
theorem out_old {p : Pl} {Z : Nat → Se} {n : Nat} {x : Se} (h : InX (outN p Z n) (outZ p Z n) x) : InX (outN p Z (n + 1)) (outZ p Z (n + 1)) x := by
  obtain ⟨j, hj, rfl⟩ := h
  refine ⟨j, by show j < outN p Z n + _; omega, ?_⟩
  show (if j < outN p Z n then outZ p Z n j else _) = _
  rw [if_pos hj]
theorem out_new {p : Pl} {Z : Nat → Se} {n : Nat} {x : Se} (h : InX (efN p Z n).on (outS (efN p Z n)) x) : InX (outN p Z (n + 1)) (outZ p Z (n + 1)) x := by
  obtain ⟨j, hj, rfl⟩ := h
  refine ⟨outN p Z n + j, by show outN p Z n + j < outN p Z n + (efN p Z n).on; omega, ?_⟩
  show (if outN p Z n + j < outN p Z n then _ else outS (efN p Z n) (outN p Z n + j - outN p Z n)) = _
  rw [if_neg (by omega), show outN p Z n + j - outN p Z n = j by omega]
theorem steps_next_z {p : Pl} {n : Nat} {A : Ab} (h : StepsR p (fstA p) n A) (x : Se) : (nextA p A x).Z n = x ∧ ∀ i, i < n → (nextA p A x).Z i = A.Z i := by
  have hm := h.m
  have hm0 : (fstA p).m = 0 := rfl
  refine ⟨?_, fun i hi => ?_⟩
  · have := nextA_at p A x
    rw [show A.m = n by omega] at this
    exact this
  · show setS A.Z A.m x i = _
    unfold setS
    rw [if_neg (by omega)]
theorem steps_efN {p : Pl} {n : Nat} {A : Ab} (h : StepsR p (fstA p) n A) (x : Se) : efN p (nextA p A x).Z n = effA p A x := by
  obtain ⟨hz, hl⟩ := steps_next_z h x
  unfold efN
  rw [hz, stP_congr p _ n hl, steps_stP h]
  rfl
/-- what is pending was there at the start or was sent -/
theorem steps_pend {p : Pl} {n : Nat} {A : Ab} (h : StepsR p (fstA p) n A) : ∀ x, A.M x → InX p.ns (evS p.S) x ∨ InX (outN p A.Z n) (outZ p A.Z n) x := by
  induction h with
  | zero => exact fun x hx => .inl hx
  | more h1 h2 ih =>
    rename_i n A C e
    obtain ⟨ho, hl, hc, rfl⟩ := h2.zero
    obtain ⟨hz, hlt⟩ := steps_next_z h1 e
    intro x hx
    have hN := outN_congr p (Z := (nextA p A e).Z) (Y := A.Z) n hlt
    have hZ := outZ_congr p (Z := (nextA p A e).Z) (Y := A.Z) n hlt
    rcases hx with ⟨hx, _⟩ | hx
    · rcases ih x hx with h9 | h9
      · exact .inl h9
      · exact .inr (out_old (by rw [hN, hZ]; exact h9))
    · exact .inr (out_new (by rw [steps_efN h1]; exact hx))
theorem klt_lt {a b : Se} (h : a.t < b.t) : klt a b = true := (klt_iff a b).2 (by omega)
structure Cause (p : Pl) (C : Ab) (i : Nat) : Prop where
  en : (C.Z i).t < p.en
  up : 0 < i → klt (C.Z (i - 1)) (C.Z i) = true
  src : InX p.ns (evS p.S) (C.Z i) ∨ InX (outN p C.Z i) (outZ p C.Z i) (C.Z i)
  out : ∀ k, k < (efN p C.Z i).on → (outS (efN p C.Z i) k).s = (C.Z i).d ∧ (C.Z i).t + p.lk ≤ (outS (efN p C.Z i) k).t
theorem EndR.cause {p : Pl} (hp : PlOk p) {C : Ab} (h : EndR p (fstA p) C) {i : Nat} (hi : i < C.m) : Cause p C i := by
  obtain ⟨B, hB, hZ, _⟩ := h.steps
  obtain ⟨A, k1, k2, k3, k4, k5, k6, k7, k8⟩ := hB.at hp hi
  rw [← hZ] at k6 k7 k8 k4
  have hF := fitE hp k2 k6.1
  have hmm := k2.m
  have hef : efN p C.Z i = effA p A (C.Z i) := by
    unfold efN
    rw [stP_congr p (Y := A.Z) _ i fun j hj => (k4 j hj).symm, steps_stP k1]
    rfl
  refine ⟨?_, fun h0 => ?_, ?_, fun k hk => ?_⟩
  · apply Classical.byContradiction
    intro hc
    refine k5 (.inr (.inl fun y hy => ?_))
    by_cases e : y = C.Z i
    · rw [e]; omega
    · have := (klt_iff _ _).1 (k6.2 y hy e)
      omega
  · obtain ⟨A', j1, j2, j3, j4, j5, j6, j7, j8⟩ := hB.at hp (show i - 1 < C.m by omega)
    rw [← hZ] at j6 j7 j8
    rw [show i - 1 + 1 = i by omega] at j8
    have hAA := j8.one k1
    have hy := k6.1
    rw [← hAA] at hy
    have hF' := fitE hp j2 j6.1
    rcases hy with ⟨hy, hne⟩ | ⟨k, hk, he⟩
    · exact j6.2 _ hy hne
    · have := (hF'.outq j2.m hk).2.2
      have hlk := hp.lk
      rw [he] at this
      exact klt_lt (by omega)
  · have := steps_pend k1 (C.Z i) k6.1
    rw [outN_congr p (Z := C.Z) (Y := A.Z) i fun j hj => (k4 j hj).symm, outZ_congr p (Z := C.Z) (Y := A.Z) i fun j hj => (k4 j hj).symm]
    exact this
  · rw [hef] at hk ⊢
    have := hF.outq hmm hk
    exact ⟨this.1, this.2.2⟩
theorem outN_le {p : Pl} (hp : PlOk p) {C : Ab} (h : EndR p (fstA p) C) : ∀ {i : Nat}, i ≤ C.m → outN p C.Z i ≤ 16 * i
  | 0, _ => Nat.zero_le _
  | i + 1, hi => by
    have h1 := outN_le hp h (show i ≤ C.m by omega)
    have h2 := (h.atE hp (show i < C.m by omega)).eo.on
    have h3 : (efN p C.Z i).on ≤ 16 := h2
    show outN p C.Z i + (efN p C.Z i).on ≤ 16 * (i + 1)
    omega
end Go.Proofs.YtagchghhpggnlaaGreat
namespace Go.Proofs.YtagchghhpggnlaaGreat
open Go.ChangeShapes Go.WideShapes Go.ChangeAt Go.RowKit
set_option linter.unusedVariables false
set_option linter.unusedSimpArgs false

theorem four_new (w : World) (a b c d : Array Value) (t u s r : TypeId) : ∃ wb, (((w.alloc (.cells a t)).alloc (.cells b u)).alloc (.cells c s)).alloc (.cells d r) = wb ∧ Below w.heap.size w wb ∧ wb.heap[w.heap.size]? = some (.cells a t (0, 0)) ∧ wb.heap[w.heap.size + 1]? = some (.cells b u (0, 0)) ∧ wb.heap[w.heap.size + 2]? = some (.cells c s (0, 0)) ∧ wb.heap[w.heap.size + 3]? = some (.cells d r (0, 0)) ∧ wb.heap.size = w.heap.size + 4 := by
  obtain ⟨w2, h1, h2, h3, h4, h5⟩ := two_new w a b t u
  obtain ⟨w4, k1, k2, k3, k4, k5⟩ := two_new w2 c d s r
  rw [h5] at k3 k4
  refine ⟨w4, by rw [h1, k1], h2.trans (k2.mono h2.size), (k2.block _ (by omega)).trans h3, (k2.block _ (by omega)).trans h4, k3, k4, by omega⟩
set_option maxRecDepth 100000 in
set_option maxHeartbeats 4000000 in
theorem hrun_any (p : Pl) (v : PlV) (w : World) (h : PlAt w p v) (x : Se) (dn pn : Nat) (hd : x.d = (dn : Int)) (hdq : dn < p.nq) (hpr : p.pr dn = (pn : Int)) (hpn : pn < p.np) (sp : Option Addr) (sn sc : Nat) (K : Nat → Int) (d s : Int) (hca : CallAt w (clA p x) sp sn sc K d s) (ha : ∀ i, i < (p.P pn).n → In64 ((p.P pn).a i)) (E : Ef) (hE : effP (p.P pn) (clA p x) sn K d s = E) :
    Calls Tryz.prog 19 #[.agg #[.int .i64 p.ki, .slice v.pp p.np v.pc, .slice v.tp p.nq v.tc, .slice v.sp p.ns v.sc, .int .u64 p.sd, .int .u64 p.lk, .int .u64 p.en, .int .i64 p.bu, .int .i64 p.fu], .agg #[.int .u64 x.t, .int .i64 x.s, .int .u64 x.q, .int .i64 (dn : Int), .int .i64 x.k, .int .i64 x.v], .agg #[.slice sp sn sc, .int .u64 d, .int .u64 s]] w fun r w' => ∃ (wp : Option Addr) (wc : Nat) (ou : Option Addr) (oc : Nat), r = .returned (.agg #[.int .i64 E.code, .slice wp E.nw wc, .int .u64 E.dice, .int .u64 E.sent, .slice ou E.on oc, .int .i64 E.used]) ∧ Own w' w.heap.size 2 1 (.slice wp E.nw wc) E.nw (iv E.wd) ∧ Own w' w.heap.size 39 6 (.slice ou E.on oc) E.on E.oF ∧ Below w.heap.size w w' := by
  obtain ⟨wb, hwb, hb0, hx0, hx1, hx2, hx3, hsz⟩ := four_new w #[.int .i64 p.ki, .slice v.pp p.np v.pc, .slice v.tp p.nq v.tc, .slice v.sp p.ns v.sc, .int .u64 p.sd, .int .u64 p.lk, .int .u64 p.en, .int .i64 p.bu, .int .i64 p.fu] #[.int .u64 x.t, .int .i64 x.s, .int .u64 x.q, .int .i64 (dn : Int), .int .i64 x.k, .int .i64 x.v] #[.slice sp sn sc, .int .u64 d, .int .u64 s] #[.int .i64 0, .slice none 0 0, .int .u64 0, .int .u64 0, .slice none 0 0, .int .i64 0] 27 39 46 48
  have HW : Hid ((((w.alloc (.cells #[.int .i64 p.ki, .slice v.pp p.np v.pc, .slice v.tp p.nq v.tc, .slice v.sp p.ns v.sc, .int .u64 p.sd, .int .u64 p.lk, .int .u64 p.en, .int .i64 p.bu, .int .i64 p.fu] 27)).alloc (.cells #[.int .u64 x.t, .int .i64 x.s, .int .u64 x.q, .int .i64 (dn : Int), .int .i64 x.k, .int .i64 x.v] 39)).alloc (.cells #[.slice sp sn sc, .int .u64 d, .int .u64 s] 46)).alloc (.cells #[.int .i64 0, .slice none 0 0, .int .u64 0, .int .u64 0, .slice none 0 0, .int .i64 0] 48) = wb) := hwb
  obtain hz | ⟨gt, ot, hpt, hlt, hct, hkt⟩ := h.ts
  · omega
  obtain hz | ⟨gp, op, hpp, hlp, hcp, hpa⟩ := h.ps
  · omega
  have hc1 := (hct dn hdq).1
  rw [hpr] at hc1
  obtain ⟨y0, y1, y2, y3⟩ := hcp pn hpn
  have KK : ∀ W, Kq (fun k => k = w.heap.size + 3) wb W → Hid ((W.cell? ⟨w.heap.size, 1, none⟩ = some (.slice (some ⟨gp, op, none⟩) p.np v.pc) ∧ W.cell? ⟨w.heap.size, 2, none⟩ = some (.slice (some ⟨gt, ot, none⟩) p.nq v.tc) ∧ W.cell? ⟨w.heap.size, 5, none⟩ = some (.int .u64 p.lk) ∧ W.cell? ⟨w.heap.size, 8, none⟩ = some (.int .i64 p.fu)) ∧ (W.cell? ⟨w.heap.size + 1, 0, none⟩ = some (.int .u64 x.t) ∧ W.cell? ⟨w.heap.size + 1, 1, none⟩ = some (.int .i64 x.s) ∧ W.cell? ⟨w.heap.size + 1, 2, none⟩ = some (.int .u64 x.q) ∧ W.cell? ⟨w.heap.size + 1, 3, none⟩ = some (.int .i64 (dn : Int)) ∧ W.cell? ⟨w.heap.size + 1, 4, none⟩ = some (.int .i64 x.k) ∧ W.cell? ⟨w.heap.size + 1, 5, none⟩ = some (.int .i64 x.v)) ∧ (W.cell? ⟨w.heap.size + 2, 0, none⟩ = some (.slice sp sn sc) ∧ W.cell? ⟨w.heap.size + 2, 1, none⟩ = some (.int .u64 d) ∧ W.cell? ⟨w.heap.size + 2, 2, none⟩ = some (.int .u64 s)) ∧ W.cell? ⟨gt, ot + dn * 2, none⟩ = some (.int .i64 (pn : Int)) ∧ W.cell? ⟨gp, op + pn * 4, none⟩ = some (.int .i64 (p.P pn).words) ∧ W.cell? ⟨gp, op + pn * 4 + 1, none⟩ = some (.int .i64 (p.P pn).locals) ∧ W.cell? ⟨gp, op + pn * 4 + 2, none⟩ = some (.slice (v.V pn).cp (p.P pn).n (v.V pn).cc) ∧ W.cell? ⟨gp, op + pn * 4 + 3, none⟩ = some (.slice (v.V pn).ep (p.P pn).m (v.V pn).ec)) := fun W hk => by
    have e0 := (hk.block w.heap.size (by omega) (by omega)).trans hx0
    have e1 := (hk.block (w.heap.size + 1) (by omega) (by omega)).trans hx1
    have e2 := (hk.block (w.heap.size + 2) (by omega) (by omega)).trans hx2
    have e3 := (hk.block gt (by omega) (by omega)).trans (hb0.block gt hlt)
    have e4 := (hk.block gp (by omega) (by omega)).trans (hb0.block gp hlp)
    rw [hpp, hpt] at e0
    exact ⟨⟨cell_in e0 rfl, cell_in e0 rfl, cell_in e0 rfl, cell_in e0 rfl⟩, ⟨cell_in e1 rfl, cell_in e1 rfl, cell_in e1 rfl, cell_in e1 rfl, cell_in e1 rfl, cell_in e1 rfl⟩, ⟨cell_in e2 rfl, cell_in e2 rfl, cell_in e2 rfl⟩, (World.cell?_of_block e3).trans hc1, (World.cell?_of_block e4).trans y0, (World.cell?_of_block e4).trans y1, (World.cell?_of_block e4).trans y2, (World.cell?_of_block e4).trans y3⟩
  have HV : ∀ w1, Below w.heap.size w w1 → Hid (Calls Tryz.prog 47 #[.agg #[.int .i64 (p.P pn).words, .int .i64 (p.P pn).locals, .slice (v.V pn).cp (p.P pn).n (v.V pn).cc, .slice (v.V pn).ep (p.P pn).m (v.V pn).ec], .agg #[.int .u64 x.t, .int .i64 x.s, .int .u64 x.q, .int .i64 (dn : Int), .int .i64 x.k, .int .i64 x.v, .slice sp sn sc, .int .u64 d, .int .u64 s, .int .u64 p.lk, .int .i64 (p.nq : Int), .int .i64 p.fu]] w1 fun r w' => ∃ (wp : Option Addr) (wc : Nat) (ou : Option Addr) (oc : Nat), r = .returned (.agg #[.int .i64 E.code, .slice wp E.nw wc, .int .u64 E.dice, .int .u64 E.sent, .slice ou E.on oc, .int .i64 E.used]) ∧ Own w' w1.heap.size 2 1 (.slice wp E.nw wc) E.nw (iv E.wd) ∧ Own w' w1.heap.size 39 6 (.slice ou E.on oc) E.on E.oF ∧ Below w1.heap.size w1 w') := fun w1 hb => by
    have h9 := vmRun (p.P pn) (v.V pn) (clA p x) sp sn sc K d s w1 ((hpa pn hpn).below hb) (hca.below hb) ha
    rw [hE] at h9
    have e9 : (clA p x).dst = (dn : Int) := hd
    rw [e9] at h9
    refine Calls.mono h9 ?_
    rintro r w' ⟨v9, rfl, ⟨wp, wc, ou, oc, rfl, o1, o2⟩, b1⟩
    exact ⟨wp, wc, ou, oc, rfl, o1, o2, b1⟩
  have hkd : Kq (fun k => k = w.heap.size + 3) wb wb.drew := Kq.below (drewS wb)
  have hbd : Below w.heap.size w wb.drew := hb0.trans ((Below.refl _ wb).drew.mono hb0.size)
  have j0 : (0 : Int) ≤ (dn : Int) := by omega
  have j1 : (dn : Int) < (p.nq : Int) := by omega
  have j2 : (0 : Int) ≤ (pn : Int) := by omega
  have j3 : (pn : Int) < (p.np : Int) := by omega
  have HX3 : Hid (wb.heap[w.heap.size + 3]? = some (.cells #[.int .i64 0, .slice none 0 0, .int .u64 0, .int .u64 0, .slice none 0 0, .int .i64 0] 48 (0, 0)) ∧ Below w.heap.size w wb ∧ wb.heap.size = w.heap.size + 4) := ⟨hx3, hb0, hsz⟩
  rw [hpp, hpt] at HW ⊢
  clear hwb hb0 hx0 hx1 hx2 hx3 hsz h hca hkt hpa hct hcp hc1 y0 y1 y2 y3 hpp hpt hlt hlp
  go_enter Tryz.func19, Tryz.ntmps19
  go_upto_region 1 with fail
  rw [HW.out]
  refine wp_region_held_drew (S := fun W9 => Kq (fun k => k = w.heap.size + 3) wb W9) (by kernel_rfl) hkd (fun hHeld => ?_)
  have hS0 : Kq (fun k => k = w.heap.size + 3) wb wb.drew := hHeld
  refine wpAnyH_take (i := 0) (v := ?hv0a) rfl (by kernel_rfl) (by kernel_rfl) (by kernel_rfl) (fun _ _ _ h => h) (Or.inl ⟨by rfl, ?hy0a⟩) (by assumption) ?hr0a
  case hy0a => ((intro W9 hSw; obtain ⟨⟨s1, s2, s5, s8⟩, ⟨q0, q1, q2, q3, q4, q5⟩, ⟨r0, r1, r2⟩, t0, u0, u1, u2, u3⟩ := (KK W9 hSw).out; go_simp); try with_reducible rfl)
  simp only [List.getElem_toArray, List.getElem_cons_zero, List.getElem_cons_succ, Act.put, List.setIfInBounds_toArray, List.set_cons_zero, List.set_cons_succ]
  refine wpAnyH_take (i := 1) (v := ?hv1a) rfl (by kernel_rfl) (by kernel_rfl) (by kernel_rfl) (fun _ _ _ h => h) (Or.inl ⟨by rfl, ?hy1a⟩) (by assumption) ?hr1a
  case hy1a => ((intro W9 hSw; obtain ⟨⟨s1, s2, s5, s8⟩, ⟨q0, q1, q2, q3, q4, q5⟩, ⟨r0, r1, r2⟩, t0, u0, u1, u2, u3⟩ := (KK W9 hSw).out; go_simp); try with_reducible rfl)
  simp only [List.getElem_toArray, List.getElem_cons_zero, List.getElem_cons_succ, Act.put, List.setIfInBounds_toArray, List.set_cons_zero, List.set_cons_succ]
  refine wpAnyH_take (i := 2) (v := ?hv2a) rfl (by kernel_rfl) (by kernel_rfl) (by kernel_rfl) (fun _ _ _ h => h) (Or.inl ⟨by rfl, ?hy2a⟩) (by assumption) ?hr2a
  case hy2a => ((intro W9 hSw; obtain ⟨⟨s1, s2, s5, s8⟩, ⟨q0, q1, q2, q3, q4, q5⟩, ⟨r0, r1, r2⟩, t0, u0, u1, u2, u3⟩ := (KK W9 hSw).out; go_simp); try with_reducible rfl)
  simp only [List.getElem_toArray, List.getElem_cons_zero, List.getElem_cons_succ, Act.put, List.setIfInBounds_toArray, List.set_cons_zero, List.set_cons_succ]
  refine wpAnyH_take (i := 3) (v := ?hv3a) rfl (by kernel_rfl) (by kernel_rfl) (by kernel_rfl) (fun _ _ _ h => h) (Or.inl ⟨by rfl, ?hy3a⟩) (by assumption) ?hr3a
  case hy3a => ((intro W9 hSw; obtain ⟨⟨s1, s2, s5, s8⟩, ⟨q0, q1, q2, q3, q4, q5⟩, ⟨r0, r1, r2⟩, t0, u0, u1, u2, u3⟩ := (KK W9 hSw).out; go_simp); try with_reducible rfl)
  simp only [List.getElem_toArray, List.getElem_cons_zero, List.getElem_cons_succ, Act.put, List.setIfInBounds_toArray, List.set_cons_zero, List.set_cons_succ]
  refine wpAnyH_take (i := 4) (v := ?hv4a) rfl (by kernel_rfl) (by kernel_rfl) (by kernel_rfl) (fun _ _ _ h => h) (Or.inl ⟨by rfl, ?hy4a⟩) (by assumption) ?hr4a
  case hy4a => ((intro W9 hSw; obtain ⟨⟨s1, s2, s5, s8⟩, ⟨q0, q1, q2, q3, q4, q5⟩, ⟨r0, r1, r2⟩, t0, u0, u1, u2, u3⟩ := (KK W9 hSw).out; go_simp); try with_reducible rfl)
  simp only [List.getElem_toArray, List.getElem_cons_zero, List.getElem_cons_succ, Act.put, List.setIfInBounds_toArray, List.set_cons_zero, List.set_cons_succ]
  refine wpAnyH_take (i := 5) (v := ?hv5a) rfl (by kernel_rfl) (by kernel_rfl) (by kernel_rfl) (fun _ _ _ h => h) (Or.inl ⟨by rfl, ?hy5a⟩) (by assumption) ?hr5a
  case hy5a => ((intro W9 hSw; obtain ⟨⟨s1, s2, s5, s8⟩, ⟨q0, q1, q2, q3, q4, q5⟩, ⟨r0, r1, r2⟩, t0, u0, u1, u2, u3⟩ := (KK W9 hSw).out; go_simp); try with_reducible rfl)
  simp only [List.getElem_toArray, List.getElem_cons_zero, List.getElem_cons_succ, Act.put, List.setIfInBounds_toArray, List.set_cons_zero, List.set_cons_succ]
  refine wpAnyH_take (i := 6) (v := ?hv6a) rfl (by kernel_rfl) (by kernel_rfl) (by kernel_rfl) (fun _ _ _ h => h) (Or.inl ⟨by rfl, ?hy6a⟩) (by assumption) ?hr6a
  case hy6a => ((intro W9 hSw; obtain ⟨⟨s1, s2, s5, s8⟩, ⟨q0, q1, q2, q3, q4, q5⟩, ⟨r0, r1, r2⟩, t0, u0, u1, u2, u3⟩ := (KK W9 hSw).out; go_simp); try with_reducible rfl)
  simp only [List.getElem_toArray, List.getElem_cons_zero, List.getElem_cons_succ, Act.put, List.setIfInBounds_toArray, List.set_cons_zero, List.set_cons_succ]
  refine wpAnyH_take (i := 7) (v := ?hv7a) rfl (by kernel_rfl) (by kernel_rfl) (by kernel_rfl) (fun _ _ _ h => h) (Or.inl ⟨by rfl, ?hy7a⟩) (by assumption) ?hr7a
  case hy7a => ((intro W9 hSw; obtain ⟨⟨s1, s2, s5, s8⟩, ⟨q0, q1, q2, q3, q4, q5⟩, ⟨r0, r1, r2⟩, t0, u0, u1, u2, u3⟩ := (KK W9 hSw).out; go_simp); try with_reducible rfl)
  simp only [List.getElem_toArray, List.getElem_cons_zero, List.getElem_cons_succ, Act.put, List.setIfInBounds_toArray, List.set_cons_zero, List.set_cons_succ]
  refine wpAnyH_take (i := 8) (v := ?hv8a) rfl (by kernel_rfl) (by kernel_rfl) (by kernel_rfl) (fun _ _ _ h => h) (Or.inl ⟨by rfl, ?hy8a⟩) (by assumption) ?hr8a
  case hy8a => ((intro W9 hSw; obtain ⟨⟨s1, s2, s5, s8⟩, ⟨q0, q1, q2, q3, q4, q5⟩, ⟨r0, r1, r2⟩, t0, u0, u1, u2, u3⟩ := (KK W9 hSw).out; go_simp); try with_reducible rfl)
  simp only [List.getElem_toArray, List.getElem_cons_zero, List.getElem_cons_succ, Act.put, List.setIfInBounds_toArray, List.set_cons_zero, List.set_cons_succ]
  refine wpAnyH_take (i := 9) (v := ?hv9a) rfl (by kernel_rfl) (by kernel_rfl) (by kernel_rfl) (fun _ _ _ h => h) (Or.inl ⟨by rfl, ?hy9a⟩) (by assumption) ?hr9a
  case hy9a => ((intro W9 hSw; obtain ⟨⟨s1, s2, s5, s8⟩, ⟨q0, q1, q2, q3, q4, q5⟩, ⟨r0, r1, r2⟩, t0, u0, u1, u2, u3⟩ := (KK W9 hSw).out; go_simp); try with_reducible rfl)
  simp only [List.getElem_toArray, List.getElem_cons_zero, List.getElem_cons_succ, Act.put, List.setIfInBounds_toArray, List.set_cons_zero, List.set_cons_succ]
  refine wpAnyH_take (i := 10) (v := ?hv10a) rfl (by kernel_rfl) (by kernel_rfl) (by kernel_rfl) (fun _ _ _ h => h) (Or.inl ⟨by rfl, ?hy10a⟩) (by assumption) ?hr10a
  case hy10a => ((intro W9 hSw; obtain ⟨⟨s1, s2, s5, s8⟩, ⟨q0, q1, q2, q3, q4, q5⟩, ⟨r0, r1, r2⟩, t0, u0, u1, u2, u3⟩ := (KK W9 hSw).out; go_simp); try with_reducible rfl)
  simp only [List.getElem_toArray, List.getElem_cons_zero, List.getElem_cons_succ, Act.put, List.setIfInBounds_toArray, List.set_cons_zero, List.set_cons_succ]
  refine wpAnyH_take (i := 11) (v := ?hv11a) rfl (by kernel_rfl) (by kernel_rfl) (by kernel_rfl) (fun _ _ _ h => h) (Or.inl ⟨by rfl, ?hy11a⟩) (by assumption) ?hr11a
  case hy11a => ((intro W9 hSw; obtain ⟨⟨s1, s2, s5, s8⟩, ⟨q0, q1, q2, q3, q4, q5⟩, ⟨r0, r1, r2⟩, t0, u0, u1, u2, u3⟩ := (KK W9 hSw).out; go_simp); try with_reducible rfl)
  simp only [List.getElem_toArray, List.getElem_cons_zero, List.getElem_cons_succ, Act.put, List.setIfInBounds_toArray, List.set_cons_zero, List.set_cons_succ]
  refine wpAnyH_take (i := 12) (v := ?hv12a) rfl (by kernel_rfl) (by kernel_rfl) (by kernel_rfl) (fun _ _ _ h => h) (Or.inl ⟨by rfl, ?hy12a⟩) (by assumption) ?hr12a
  case hy12a => ((intro W9 hSw; obtain ⟨⟨s1, s2, s5, s8⟩, ⟨q0, q1, q2, q3, q4, q5⟩, ⟨r0, r1, r2⟩, t0, u0, u1, u2, u3⟩ := (KK W9 hSw).out; go_simp); try with_reducible rfl)
  simp only [List.getElem_toArray, List.getElem_cons_zero, List.getElem_cons_succ, Act.put, List.setIfInBounds_toArray, List.set_cons_zero, List.set_cons_succ]
  refine wpAnyH_take (i := 13) (v := ?hv13a) rfl (by kernel_rfl) (by kernel_rfl) (by kernel_rfl) (fun _ _ _ h => h) (Or.inl ⟨by rfl, ?hy13a⟩) (by assumption) ?hr13a
  case hy13a => ((intro W9 hSw; obtain ⟨⟨s1, s2, s5, s8⟩, ⟨q0, q1, q2, q3, q4, q5⟩, ⟨r0, r1, r2⟩, t0, u0, u1, u2, u3⟩ := (KK W9 hSw).out; go_simp); try with_reducible rfl)
  simp only [List.getElem_toArray, List.getElem_cons_zero, List.getElem_cons_succ, Act.put, List.setIfInBounds_toArray, List.set_cons_zero, List.set_cons_succ]
  refine wpAnyH_take (i := 14) (v := ?hv14a) rfl (by kernel_rfl) (by kernel_rfl) (by kernel_rfl) (fun _ _ _ h => h) (Or.inl ⟨by rfl, ?hy14a⟩) (by assumption) ?hr14a
  case hy14a => ((intro W9 hSw; obtain ⟨⟨s1, s2, s5, s8⟩, ⟨q0, q1, q2, q3, q4, q5⟩, ⟨r0, r1, r2⟩, t0, u0, u1, u2, u3⟩ := (KK W9 hSw).out; go_simp); try with_reducible rfl)
  simp only [List.getElem_toArray, List.getElem_cons_zero, List.getElem_cons_succ, Act.put, List.setIfInBounds_toArray, List.set_cons_zero, List.set_cons_succ]
  refine wpAnyH_take (i := 15) (v := ?hv15a) rfl (by kernel_rfl) (by kernel_rfl) (by kernel_rfl) (fun _ _ _ h => h) (Or.inl ⟨by rfl, ?hy15a⟩) (by assumption) ?hr15a
  case hy15a => ((intro W9 hSw; obtain ⟨⟨s1, s2, s5, s8⟩, ⟨q0, q1, q2, q3, q4, q5⟩, ⟨r0, r1, r2⟩, t0, u0, u1, u2, u3⟩ := (KK W9 hSw).out; go_simp); try with_reducible rfl)
  simp only [List.getElem_toArray, List.getElem_cons_zero, List.getElem_cons_succ, Act.put, List.setIfInBounds_toArray, List.set_cons_zero, List.set_cons_succ]
  refine wpAnyH_take (i := 16) (v := ?hv16a) rfl (by kernel_rfl) (by kernel_rfl) (by kernel_rfl) (fun _ _ _ h => h) (Or.inl ⟨by rfl, ?hy16a⟩) (by assumption) ?hr16a
  case hy16a => ((intro W9 hSw; obtain ⟨⟨s1, s2, s5, s8⟩, ⟨q0, q1, q2, q3, q4, q5⟩, ⟨r0, r1, r2⟩, t0, u0, u1, u2, u3⟩ := (KK W9 hSw).out; go_simp); try with_reducible rfl)
  simp only [List.getElem_toArray, List.getElem_cons_zero, List.getElem_cons_succ, Act.put, List.setIfInBounds_toArray, List.set_cons_zero, List.set_cons_succ]
  refine wpAnyH_take (i := 17) (v := ?hv17a) rfl (by kernel_rfl) (by kernel_rfl) (by kernel_rfl) (fun _ _ _ h => h) (Or.inl ⟨by rfl, ?hy17a⟩) (by assumption) ?hr17a
  case hy17a => ((intro W9 hSw; obtain ⟨⟨s1, s2, s5, s8⟩, ⟨q0, q1, q2, q3, q4, q5⟩, ⟨r0, r1, r2⟩, t0, u0, u1, u2, u3⟩ := (KK W9 hSw).out; go_simp); try with_reducible rfl)
  simp only [List.getElem_toArray, List.getElem_cons_zero, List.getElem_cons_succ, Act.put, List.setIfInBounds_toArray, List.set_cons_zero, List.set_cons_succ]
  refine wpAnyH_take (i := 18) (v := ?hv18a) rfl (by kernel_rfl) (by kernel_rfl) (by kernel_rfl) (fun _ _ _ h => h) (Or.inl ⟨by rfl, ?hy18a⟩) (by assumption) ?hr18a
  case hy18a => ((intro W9 hSw; obtain ⟨⟨s1, s2, s5, s8⟩, ⟨q0, q1, q2, q3, q4, q5⟩, ⟨r0, r1, r2⟩, t0, u0, u1, u2, u3⟩ := (KK W9 hSw).out; go_simp); try with_reducible rfl)
  simp only [List.getElem_toArray, List.getElem_cons_zero, List.getElem_cons_succ, Act.put, List.setIfInBounds_toArray, List.set_cons_zero, List.set_cons_succ]
  refine wpAnyH_take (i := 19) (v := ?hv19a) rfl (by kernel_rfl) (by kernel_rfl) (by kernel_rfl) (fun _ _ _ h => h) (Or.inl ⟨by rfl, ?hy19a⟩) (by assumption) ?hr19a
  case hy19a => ((intro W9 hSw; obtain ⟨⟨s1, s2, s5, s8⟩, ⟨q0, q1, q2, q3, q4, q5⟩, ⟨r0, r1, r2⟩, t0, u0, u1, u2, u3⟩ := (KK W9 hSw).out; go_simp); try with_reducible rfl)
  simp only [List.getElem_toArray, List.getElem_cons_zero, List.getElem_cons_succ, Act.put, List.setIfInBounds_toArray, List.set_cons_zero, List.set_cons_succ]
  refine wpAnyH_take (i := 20) (v := ?hv20a) rfl (by kernel_rfl) (by kernel_rfl) (by kernel_rfl) (fun _ _ _ h => h) (Or.inl ⟨by rfl, ?hy20a⟩) (by assumption) ?hr20a
  case hy20a => ((intro W9 hSw; obtain ⟨⟨s1, s2, s5, s8⟩, ⟨q0, q1, q2, q3, q4, q5⟩, ⟨r0, r1, r2⟩, t0, u0, u1, u2, u3⟩ := (KK W9 hSw).out; go_simp); try with_reducible rfl)
  simp only [List.getElem_toArray, List.getElem_cons_zero, List.getElem_cons_succ, Act.put, List.setIfInBounds_toArray, List.set_cons_zero, List.set_cons_succ]
  refine wpAnyH_ready (rs := [21]) (by kernel_rfl) (by simp) (AllReadyH.cons rfl (fun KK9 hK => ?_) AllReadyH.nil)
  all_goals dsimp -proj only [List.getElem_toArray, List.getElem_cons_zero, List.getElem_cons_succ]
  go_simp
  go_at_call 47
  refine (HV wb.drew hbd).out.mono ?_
  rintro e x1 ⟨wp, wc, ou, oc, rfl, o1, o2, hb1⟩
  try go_wp2_with fail
  have hs1 : Kq (fun k => k = w.heap.size + 3) wb x1 := hS0.trans (Kq.below hb1)
  have hm1 : x1.heap[w.heap.size + 3]? = some (.cells #[.int .i64 0, .slice none 0 0, .int .u64 0, .int .u64 0, .slice none 0 0, .int .i64 0] 48 (0, 0)) := (hb1.block _ (by have := HX3.out.2.2; show w.heap.size + 3 < wb.heap.size; omega)).trans HX3.out.1
  refine hK.out _ _ hs1 (fun hHeld => ?_)
  clear hK KK9
  try simp only [Act.put, List.setIfInBounds_toArray, List.set_cons_zero, List.set_cons_succ]
  refine wpAnyH_ready (rs := [22]) (by kernel_rfl) (by simp) (AllReadyH.cons rfl (fun KK9 hK => ?_) AllReadyH.nil)
  all_goals dsimp -proj only [List.getElem_toArray, List.getElem_cons_zero, List.getElem_cons_succ]
  refine step_store_row rfl 48 _ _ rfl (w.heap.size + 3) _ rfl rfl 48 _ hm1 (by kernel_rfl) rfl (by kernel_rfl) ?_
  obtain ⟨x2, hx2⟩ : ∃ x2, x1.setRow (w.heap.size + 3) #[.int .i64 E.code, .slice wp E.nw wc, .int .u64 E.dice, .int .u64 E.sent, .slice ou E.on oc, .int .i64 E.used] = x2 := ⟨_, rfl⟩
  have hm2 : x2.heap[w.heap.size + 3]? = some (.cells #[.int .i64 E.code, .slice wp E.nw wc, .int .u64 E.dice, .int .u64 E.sent, .slice ou E.on oc, .int .i64 E.used] 48 (0, 0)) := by
    rw [← hx2]
    exact setRow_heap _ _ _ _ _ _ hm1
  have hs2 : Kq (fun k => k = w.heap.size + 3) x1 x2 := by
    rw [← hx2]
    exact Kq.row _ _ _ rfl
  have hbw1 : Below w.heap.size w x1 := hbd.trans (hb1.mono hbd.size)
  have hbw : Below w.heap.size w x2 := by
    rw [← hx2]
    exact setRow_below _ hbw1 (Nat.le_add_right _ _)
  have hz4 : wb.drew.heap.size = w.heap.size + 4 := HX3.out.2.2
  have p1 : Own x2 w.heap.size 2 1 (.slice wp E.nw wc) E.nw (iv E.wd) := (Kq.own o1 hs2 fun k e e9 => by have := (Own.lt o1 k e).1; have e8 : k = w.heap.size + 3 := e9; omega).lower (by omega)
  have p2 : Own x2 w.heap.size 39 6 (.slice ou E.on oc) E.on E.oF := (Kq.own o2 hs2 fun k e e9 => by have := (Own.lt o2 k e).1; have e8 : k = w.heap.size + 3 := e9; omega).lower (by omega)
  rw [hx2]
  clear hx2
  refine hK.out _ _ (hs1.trans hs2) (fun hHeld => ?_)
  clear hK KK9
  try simp only [Act.put, List.setIfInBounds_toArray, List.set_cons_zero, List.set_cons_succ]
  refine wpAnyH_done (by kernel_rfl) ?_ _
  clear o1 o2 hb1 hm1 hs1 hs2
  go_wp2_with fail
  refine bodyPost_ret_by (v := .agg #[.int .i64 E.code, .slice wp E.nw wc, .int .u64 E.dice, .int .u64 E.sent, .slice ou E.on oc, .int .i64 E.used]) (results_cell_row (p := 6) (ty := 48) rfl _ _ (w.heap.size + 3) 48 _ (0, 0) _ rfl hm2 Tryz.underlying48 rfl (by kernel_rfl)) rfl ?_
  exact ⟨wp, wc, ou, oc, rfl, p1, p2, hbw⟩
end Go.Proofs.YtagchghhpggnlaaGreat
