import Derived.Test.YtklaaapajdmhfaaGreatRN16
import Derived.Test.YtklaaapajdmhfaaGreatRN13
import Derived.Test.YtklaaapajdmhfaaGreatRN17
namespace Go.Proofs.YtklaaapajdmhfaaGreat
open Go.ChangeShapes Go.WideShapes Go.ChangeAt Go.RowKit
set_option linter.unusedVariables false
set_option linter.unusedSimpArgs false

/-! ### a smaller budget -/
def budA (p : Pl) (b : Int) : Pl := { p with bu := b }
theorem StepsR.bud {p : Pl} {b : Int} {A : Ab} {n : Nat} {B : Ab} (h : StepsR p A n B) (hb : (A.m : Int) + n ≤ b) : StepsR (budA p b) A n B := by
  induction h with
  | zero => exact .zero
  | more h1 h2 ih =>
    rename_i n B C x
    refine (ih (by omega)).more (x := x) ?_
    rcases h2 with ⟨_, e, _⟩ | ⟨ho, y, hy, ⟨e, e', _⟩ | ⟨e1, _, rfl, rfl⟩⟩
    · cases e
    · exact absurd e'.symm e
    · refine .inr ⟨?_, x, hy, .inr ⟨e1, rfl, rfl, rfl⟩⟩
      have hm := h1.m
      rintro (e | e | e)
      · exact ho (.inl e)
      · exact ho (.inr (.inl e))
      · have e9 : b ≤ (B.m : Int) := e
        omega
theorem StepsR.zs {p : Pl} {A : Ab} {n : Nat} {B : Ab} (h : StepsR p A n B) : ∀ i, i < A.m → B.Z i = A.Z i := by
  induction h with
  | zero => exact fun _ _ => rfl
  | more h1 h2 ih =>
    intro i hi
    have hm := h1.m
    rcases h2 with ⟨_, e, _⟩ | ⟨_, y, _, ⟨e, e', _⟩ | ⟨_, _, rfl, rfl⟩⟩
    · cases e
    · exact absurd e'.symm e
    · show setS _ _ _ i = _
      unfold setS
      rw [if_neg (by omega)]
      exact ih i hi
theorem StepsR.cut {p : Pl} {A : Ab} {n : Nat} {B : Ab} (h : StepsR p A n B) : ∀ m, m ≤ n → ∃ B', StepsR p A m B' ∧ ∀ i, i < A.m + m → B.Z i = B'.Z i := by
  induction h with
  | zero =>
    intro m hm
    obtain rfl : m = 0 := by omega
    exact ⟨A, .zero, fun _ _ => rfl⟩
  | more h1 h2 ih =>
    rename_i n B C x
    intro m hm
    by_cases e : m = n + 1
    · subst e
      exact ⟨C, h1.more h2, fun _ _ => rfl⟩
    · obtain ⟨B', hB', hz⟩ := ih m (by omega)
      refine ⟨B', hB', fun i hi => ?_⟩
      have hm1 := h1.m
      have hm2 := hB'.m
      rcases h2 with ⟨_, e, _⟩ | ⟨_, y, _, ⟨e, e', _⟩ | ⟨_, _, rfl, rfl⟩⟩
      · cases e
      · exact absurd e'.symm e
      · show setS _ _ _ i = _
        unfold setS
        rw [if_neg (by omega)]
        exact hz i hi
theorem steps_f {p : Pl} {A : Ab} (ha : A.f = 0) {n : Nat} {B : Ab} (h : StepsR p A n B) : B.f = 0 := by
  induction h with
  | zero => exact ha
  | more k1 k2 ih =>
    rcases k2 with ⟨_, e, _⟩ | ⟨_, y, _, ⟨e, e', _⟩ | ⟨_, _, _, rfl⟩⟩
    · cases e
    · exact absurd e'.symm e
    · exact ih
/-- what a smaller budget comes to -/
theorem bud_end {p : Pl} (hbu : 0 ≤ p.bu) {C C' : Ab} {N : Nat} (h : EndR p (fstA p) C) (h' : EndR (budA p (min p.bu (N : Int))) (fstA p) C') {k cd k' cd' : Int} {x x' : Se} (hr : ResK p C k cd x) (hr' : ResK (budA p (min p.bu (N : Int))) C' k' cd' x') :
    (N < C.m → k' = 2 ∧ C'.m = N ∧ ∀ i, i < N → C'.Z i = C.Z i) ∧
    (N = C.m → k = 3 → k' = 2 ∧ C'.m = C.m ∧ (∀ i, i < C.m → C'.Z i = C.Z i) ∧ C'.K = C.K ∧ C'.d = C.d ∧ C'.s = C.s) ∧
    (C.m ≤ N → (N = C.m → k ≠ 3) → C' = C ∧ k' = k ∧ cd' = cd ∧ x' = x) := by
  obtain ⟨n, B, y, c, h1, h2, h3⟩ := h
  have hm := h1.m
  have hm0 : (fstA p).m = 0 := rfl
  have hf := steps_f (show (fstA p).f = 0 from rfl) h1
  -- C's own place
  have hCm : C.m = n := by
    rcases h2 with ⟨_, _, _, rfl⟩ | ⟨_, z, _, ⟨_, _, _, rfl⟩ | ⟨_, e, _⟩⟩
    · omega
    · show B.m = n; omega
    · exact absurd e h3
  -- a run that the budget cuts at a point that was not over
  have key : ∀ (B' : Ab), StepsR p (fstA p) N B' → N ≤ n → ¬ Over p B' → C' = B' ∧ k' = 2 := fun B' hB hN ho => by
    have hm' := hB.m
    have hf' := steps_f (show (fstA p).f = 0 from rfl) hB
    have hns : ¬ p.bu ≤ (B'.m : Int) := fun e => ho (.inr (.inr e))
    have hmin : min p.bu (N : Int) = N := by omega
    rw [hmin] at h' hr'
    have hsp : Spent (budA p N) B' := (by omega : (N : Int) ≤ (B'.m : Int))
    have he : EndR (budA p N) (fstA p) B' := ⟨N, B', zeroE, 128, hB.bud (by rw [hm0]; omega), .inl ⟨.inr (.inr hsp), rfl, rfl, rfl⟩, by decide⟩
    obtain rfl := h'.one he
    refine ⟨rfl, ?_⟩
    have hni : ¬ Idle (budA p N) C' := fun e => ho (.inr (.inl e))
    exact (hr'.one (.inr ⟨hf', rfl, .inr ⟨hni, .inl ⟨hsp, rfl, rfl⟩⟩⟩)).1
  have pre : ∀ (B' : Ab), StepsR p (fstA p) N B' → N < n → ¬ Over p B' := fun B' hB hN ho => by
    obtain ⟨B1, x1, C1, j1, j2, _⟩ := h1.pre N hN
    obtain rfl := j1.one hB
    rcases j2 with ⟨_, e, _⟩ | ⟨e, _⟩
    · cases e
    · exact e ho
  refine ⟨fun hN => ?_, fun hN hk => ?_, fun hN hk => ?_⟩
  · obtain ⟨B', hB, hz⟩ := h1.cut N (by omega)
    obtain ⟨rfl, hk'⟩ := key B' hB (by omega) (pre B' hB (by omega))
    refine ⟨hk', by have := hB.m; omega, fun i hi => ?_⟩
    have hzz := (hz i (by omega)).symm
    rcases h2 with ⟨_, _, _, rfl⟩ | ⟨_, z, _, ⟨_, _, _, rfl⟩ | ⟨_, e, _⟩⟩
    · exact hzz
    · exact hzz
    · exact absurd e h3
  · have hfa : C.f ≠ 0 := fun e => by
      rcases hr with ⟨a, _⟩ | ⟨_, _, ⟨_, e9, _⟩ | ⟨_, ⟨_, e9, _⟩ | ⟨_, e9, _⟩⟩⟩
      · exact a e
      all_goals (rw [hk] at e9; cases e9)
    rcases h2 with ⟨_, _, _, rfl⟩ | ⟨ho, z, _, ⟨_, _, _, rfl⟩ | ⟨_, e, _⟩⟩
    · exact absurd hf hfa
    · have hNn : N = n := by omega
      subst hNn
      obtain ⟨rfl, hk'⟩ := key B h1 (Nat.le_refl _) ho
      exact ⟨hk', rfl, fun _ _ => rfl, rfl, rfl, rfl⟩
    · exact absurd e h3
  · have hbn : (n : Int) ≤ p.bu := by
      rcases Nat.eq_zero_or_pos n with e | e
      · omega
      · obtain ⟨B1, x1, C1, j1, j2, _⟩ := h1.pre (n - 1) (by omega)
        have := j1.m
        rcases j2 with ⟨_, e, _⟩ | ⟨e, _⟩
        · cases e
        · have : ¬ p.bu ≤ (B1.m : Int) := fun e9 => e (.inr (.inr e9))
          omega
    have hst := h1.bud (b := min p.bu (N : Int)) (by rw [hm0]; omega)
    rcases h2 with ⟨ho, _, _, rfl⟩ | ⟨ho, z, hz, ⟨e1, e2, _, rfl⟩ | ⟨_, e, _⟩⟩
    · have ho' : Over (budA p (min p.bu (N : Int))) C := by
        rcases ho with e | e | e
        · exact .inl e
        · exact .inr (.inl e)
        · exact .inr (.inr (by have e9 : p.bu ≤ (C.m : Int) := e; show min p.bu (N : Int) ≤ (C.m : Int); omega))
      have he : EndR (budA p (min p.bu (N : Int))) (fstA p) C := ⟨n, C, zeroE, 128, hst, .inl ⟨ho', rfl, rfl, rfl⟩, by decide⟩
      obtain rfl := h'.one he
      refine ⟨rfl, ?_⟩
      refine hr'.one ?_
      rcases hr with ⟨a, _⟩ | ⟨a, a2, ⟨a3, a4⟩ | ⟨a3, ⟨a4, a5⟩ | ⟨a4, _⟩⟩⟩
      · exact absurd hf a
      · exact .inr ⟨a, a2, .inl ⟨a3, a4⟩⟩
      · exact .inr ⟨a, a2, .inr ⟨a3, .inl ⟨by have e9 : p.bu ≤ (C'.m : Int) := a4; show min p.bu (N : Int) ≤ (C'.m : Int); omega, a5⟩⟩⟩
      · rcases ho with e | e | e
        · exact absurd hf e
        · exact absurd e a3
        · exact absurd e a4
    · have hkk : k = 3 := by
        rcases hr with ⟨_, e, _⟩ | ⟨a, _⟩
        · exact e
        · exact absurd a e1
      have hNm : n < N := by
        rcases Nat.lt_or_ge n N with e | e
        · exact e
        · exact absurd hkk (hk (by omega))
      have hns : ¬ p.bu ≤ (B.m : Int) := fun e => ho (.inr (.inr e))
      have ho' : ¬ Over (budA p (min p.bu (N : Int))) B := by
        rintro (e | e | e)
        · exact ho (.inl e)
        · exact ho (.inr (.inl e))
        · have e9 : min p.bu (N : Int) ≤ (B.m : Int) := e
          omega
      have he : EndR (budA p (min p.bu (N : Int))) (fstA p) { B with f := (effA p B z).code } := ⟨n, B, zeroE, (effA p B z).code, hst, .inr ⟨ho', z, hz, .inl ⟨e1, rfl, rfl, rfl⟩⟩, e1⟩
      obtain rfl := h'.one he
      refine ⟨rfl, ?_⟩
      refine hr'.one ?_
      rcases hr with ⟨a, a2⟩ | ⟨a, _⟩
      · exact .inl ⟨a, a2⟩
      · exact absurd a e1
    · exact absurd e h3
end Go.Proofs.YtklaaapajdmhfaaGreat
namespace Go.Proofs.YtklaaapajdmhfaaGreat
open Go.ChangeShapes Go.WideShapes Go.ChangeAt Go.RowKit
set_option linter.unusedVariables false
set_option linter.unusedSimpArgs false

theorem budA_ok {p : Pl} (h : PlOk p) {b : Int} (hb : 0 ≤ b ∧ b ≤ 4096) : PlOk (budA p b) := ⟨h.ki, h.gp, h.gt, h.gs, h.lk, hb, h.fu, h.a64, h.k64, h.s64⟩
theorem ok_vc {p : Pl} (h : PlOk p) : VC p 0 := .inr ⟨by have := h.ki; omega, .inr ⟨h.gp, .inr ⟨h.gt, .inr ⟨h.gs, .inr ⟨by have := h.lk; omega, .inr ⟨by have := h.bu; omega, .inr ⟨by have := h.fu; omega, rfl⟩⟩⟩⟩⟩⟩⟩
set_option maxRecDepth 100000 in
set_option maxHeartbeats 2000000 in
theorem prefix_good (p : Pl) (v : PlV) (w : World) (h : PlAt w p v) (hr : RoomyL p) (hpl : PlOk p) (n : Int) (hn : In64 n) : Calls Tryz.prog 16 #[.agg #[.int .i64 p.ki, .slice v.pp p.np v.pc, .slice v.tp p.nq v.tc, .slice v.sp p.ns v.sc, .int .u64 p.sd, .int .u64 p.lk, .int .u64 p.en, .int .i64 p.bu, .int .i64 p.fu], .int .i64 n] w fun r w' => ∃ (C : Ab) (k cd : Int) (x : Se) (q1 : Option Addr) (c1 : Nat) (CC : Nat → Sa) (q3 : Option Addr) (c3 : Nat), EndR (budA p (min p.bu (max n 0))) (fstA p) C ∧ AOk2 (budA p (min p.bu (max n 0))) C ∧ ResK (budA p (min p.bu (max n 0))) C k cd x ∧ r = .returned (.agg #[.int .i64 k, .int .i64 cd, .int .u64 x.t, .int .i64 x.s, .int .u64 x.q, .int .i64 0, .slice q1 p.nq c1, .slice q3 C.m c3]) ∧ (∃ b rb, w.heap.size < b ∧ RsA w' b rb (budA p (min p.bu (max n 0))) C q1 CC q3 c3) ∧ Below w.heap.size w w' := by
  obtain ⟨wa, hwa⟩ : ∃ wa, w.alloc (.cells #[.int .i64 p.ki, .slice v.pp p.np v.pc, .slice v.tp p.nq v.tc, .slice v.sp p.ns v.sc, .int .u64 p.sd, .int .u64 p.lk, .int .u64 p.en, .int .i64 p.bu, .int .i64 p.fu] 27) = wa := ⟨_, rfl⟩
  obtain ⟨ha0, haox, hasz⟩ := boxed _ _ _ hwa
  obtain ⟨wb, hwb⟩ : ∃ wb, wa.alloc (.cells #[.int .i64 0, .int .i64 0, .int .u64 0, .int .i64 0, .int .u64 0, .int .i64 0, .slice none 0 0, .slice none 0 0] 36) = wb := ⟨_, rfl⟩
  obtain ⟨hb0', hbox, hsz⟩ := boxed _ _ _ hwb
  have hb0 : Below w.heap.size w wb := ha0.trans (hb0'.mono ha0.size)
  have hao := (hb0'.block _ (lt_of_block haox)).trans haox
  rw [hasz] at hbox
  have HH : Hid ((w.alloc (.cells #[.int .i64 p.ki, .slice v.pp p.np v.pc, .slice v.tp p.nq v.tc, .slice v.sp p.ns v.sc, .int .u64 p.sd, .int .u64 p.lk, .int .u64 p.en, .int .i64 p.bu, .int .i64 p.fu] 27)).alloc (.cells #[.int .i64 0, .int .i64 0, .int .u64 0, .int .i64 0, .int .u64 0, .int .i64 0, .slice none 0 0, .slice none 0 0] 36) = wb) := (by rw [hwa, hwb] : (w.alloc (.cells #[.int .i64 p.ki, .slice v.pp p.np v.pc, .slice v.tp p.nq v.tc, .slice v.sp p.ns v.sc, .int .u64 p.sd, .int .u64 p.lk, .int .u64 p.en, .int .i64 p.bu, .int .i64 p.fu] 27)).alloc (.cells #[.int .i64 0, .int .i64 0, .int .u64 0, .int .i64 0, .int .u64 0, .int .i64 0, .slice none 0 0, .slice none 0 0] 36) = wb)
  have HV : Calls Tryz.prog 9 #[.agg #[.int .i64 p.ki, .slice v.pp p.np v.pc, .slice v.tp p.nq v.tc, .slice v.sp p.ns v.sc, .int .u64 p.sd, .int .u64 p.lk, .int .u64 p.en, .int .i64 p.bu, .int .i64 p.fu]] wb fun e w' => e = .returned (.int .i64 0) ∧ Below wb.heap.size wb w' := by
    refine (valid_any p v wb (h.below hb0)).mono ?_
    rintro e w' ⟨c, rfl, k1, k2⟩
    rw [k1.one (ok_vc hpl)]
    exact ⟨rfl, k2⟩
  obtain ⟨nb, hnb⟩ : ∃ nb, (min p.bu (max n 0)) = nb := ⟨_, rfl⟩
  have hbb : 0 ≤ nb ∧ nb ≤ 4096 := by have := hpl.bu; omega
  rw [hnb]
  have HRN : ∀ W, PlAt W p v → Hid (Calls Tryz.prog 10 #[.agg #[.int .i64 p.ki, .slice v.pp p.np v.pc, .slice v.tp p.nq v.tc, .slice v.sp p.ns v.sc, .int .u64 p.sd, .int .u64 p.lk, .int .u64 p.en, .int .i64 nb, .int .i64 p.fu]] W fun r w' => ∃ (C : Ab) (k cd : Int) (x : Se) (q1 : Option Addr) (c1 : Nat) (CC : Nat → Sa) (q3 : Option Addr) (c3 : Nat), EndR (budA p nb) (fstA p) C ∧ AOk2 (budA p nb) C ∧ ResK (budA p nb) C k cd x ∧ r = .returned (.agg #[.int .i64 k, .int .i64 cd, .int .u64 x.t, .int .i64 x.s, .int .u64 x.q, .int .i64 0, .slice q1 p.nq c1, .slice q3 C.m c3]) ∧ (∃ b rb, W.heap.size < b ∧ RsA w' b rb (budA p nb) C q1 CC q3 c3) ∧ Below W.heap.size W w') := fun W hp => sqRun_good (budA p nb) v W ⟨hp.ps, hp.ts, hp.st⟩ ⟨hr.np, hr.pg, hr.nq, hr.nw, hr.ns⟩ (ok_vc (budA_ok hpl hbb)) (budA_ok hpl hbb)
  have HB : Hid (Below w.heap.size w wb ∧ wb.heap[w.heap.size + 1]? = some (.cells #[.int .i64 0, .int .i64 0, .int .u64 0, .int .i64 0, .int .u64 0, .int .i64 0, .slice none 0 0, .slice none 0 0] 36 (0, 0)) ∧ wb.heap[w.heap.size]? = some (.cells #[.int .i64 p.ki, .slice v.pp p.np v.pc, .slice v.tp p.nq v.tc, .slice v.sp p.ns v.sc, .int .u64 p.sd, .int .u64 p.lk, .int .u64 p.en, .int .i64 p.bu, .int .i64 p.fu] 27 (0, 0)) ∧ wb.heap.size = w.heap.size + 2 ∧ PlAt w p v) := ⟨hb0, hbox, hao, by omega, h⟩
  have KK : ∀ W, Below wb.heap.size wb W → Hid ((W.cell? ⟨w.heap.size, 0, none⟩ = some (.int .i64 p.ki) ∧ W.cell? ⟨w.heap.size, 1, none⟩ = some (.slice v.pp p.np v.pc) ∧ W.cell? ⟨w.heap.size, 2, none⟩ = some (.slice v.tp p.nq v.tc) ∧ W.cell? ⟨w.heap.size, 3, none⟩ = some (.slice v.sp p.ns v.sc) ∧ W.cell? ⟨w.heap.size, 4, none⟩ = some (.int .u64 p.sd) ∧ W.cell? ⟨w.heap.size, 5, none⟩ = some (.int .u64 p.lk) ∧ W.cell? ⟨w.heap.size, 6, none⟩ = some (.int .u64 p.en) ∧ W.cell? ⟨w.heap.size, 7, none⟩ = some (.int .i64 p.bu) ∧ W.cell? ⟨w.heap.size, 8, none⟩ = some (.int .i64 p.fu)) ∧ (∀ k9, W.frozen? ⟨w.heap.size, k9, none⟩ = false) ∧ W.heap[w.heap.size]? = some (.cells #[.int .i64 p.ki, .slice v.pp p.np v.pc, .slice v.tp p.nq v.tc, .slice v.sp p.ns v.sc, .int .u64 p.sd, .int .u64 p.lk, .int .u64 p.en, .int .i64 p.bu, .int .i64 p.fu] 27 (0, 0))) := fun W hb => by
    have hx := (hb.block _ (lt_of_block hao)).trans hao
    exact ⟨⟨cell_in hx rfl, cell_in hx rfl, cell_in hx rfl, cell_in hx rfl, cell_in hx rfl, cell_in hx rfl, cell_in hx rfl, cell_in hx rfl, cell_in hx rfl⟩, fun k9 => frz hx k9, hx⟩
  obtain ⟨⟨e0, e1, e2, e3, e4, e5, e6, e7, e8⟩, hfz, _⟩ := (KK wb (Below.refl _ _)).out
  have HMM : Hid (min p.bu (max n 0) = nb) := hnb
  rw [← HH.out] at e0 e1 e2 e3 e4 e5 e6 e7 e8
  clear hwa ha0 haox hasz hwb hb0' hbox hsz hb0 hao h hr hnb hfz
  go_enter Tryz.func16, Tryz.ntmps16
  go_upto_region 2 with (go_at_call 9; rw [HH.out]; (with_reducible refine HV.mono ?_); rintro e w1 ⟨rfl, hb1⟩)
  clear e0 e1 e2 e3 e4 e5 e6 e7 e8
  obtain ⟨⟨f0, f1, f2, f3, f4, f5, f6, f7, f8⟩, hfz, hpx⟩ := (KK w1 hb1).out
  have HPX : Hid (w1.heap[w.heap.size]? = some (.cells #[.int .i64 p.ki, .slice v.pp p.np v.pc, .slice v.tp p.nq v.tc, .slice v.sp p.ns v.sc, .int .u64 p.sd, .int .u64 p.lk, .int .u64 p.en, .int .i64 p.bu, .int .i64 p.fu] 27 (0, 0))) := hpx
  clear hpx
  go_upto_region 3 with fail
  rw [HMM.out]
  obtain ⟨w2, hw2⟩ : ∃ w2, w1.setCell ⟨w.heap.size, 7, none⟩ (.int .i64 nb) = w2 := ⟨_, rfl⟩
  rw [hw2]
  have hp2 : w2.heap[w.heap.size]? = some (.cells #[.int .i64 p.ki, .slice v.pp p.np v.pc, .slice v.tp p.nq v.tc, .slice v.sp p.ns v.sc, .int .u64 p.sd, .int .u64 p.lk, .int .u64 p.en, .int .i64 nb, .int .i64 p.fu] 27 (0, 0)) := by
    rw [← hw2, setCell_block _ _ _ _ HPX.out]
    rfl
  have hbw1 : Below w.heap.size w w1 := HB.out.1.trans (hb1.mono HB.out.1.size)
  have hbw2 : Below w.heap.size w w2 := by
    rw [← hw2]
    exact hbw1.setCell (p := ⟨w.heap.size, 7, none⟩) (Nat.le_refl _) _
  have hr1 := (hb1.block _ (lt_of_block HB.out.2.1)).trans HB.out.2.1
  have hr2 : w2.heap[w.heap.size + 1]? = some (.cells #[.int .i64 0, .int .i64 0, .int .u64 0, .int .i64 0, .int .u64 0, .int .i64 0, .slice none 0 0, .slice none 0 0] 36 (0, 0)) := by
    rw [← hw2]
    exact (Below.heap_setCell _ _ _ _ (show w.heap.size + 1 ≠ w.heap.size by omega)).trans hr1
  have HRR := (HRN w2 (HB.out.2.2.2.2.below hbw2)).out
  have j0 : w2.cell? ⟨w.heap.size, 0, none⟩ = some (.int .i64 p.ki) := cell_in hp2 rfl
  have j1 : w2.cell? ⟨w.heap.size, 1, none⟩ = some (.slice v.pp p.np v.pc) := cell_in hp2 rfl
  have j2 : w2.cell? ⟨w.heap.size, 2, none⟩ = some (.slice v.tp p.nq v.tc) := cell_in hp2 rfl
  have j3 : w2.cell? ⟨w.heap.size, 3, none⟩ = some (.slice v.sp p.ns v.sc) := cell_in hp2 rfl
  have j4 : w2.cell? ⟨w.heap.size, 4, none⟩ = some (.int .u64 p.sd) := cell_in hp2 rfl
  have j5 : w2.cell? ⟨w.heap.size, 5, none⟩ = some (.int .u64 p.lk) := cell_in hp2 rfl
  have j6 : w2.cell? ⟨w.heap.size, 6, none⟩ = some (.int .u64 p.en) := cell_in hp2 rfl
  have j7 : w2.cell? ⟨w.heap.size, 7, none⟩ = some (.int .i64 nb) := cell_in hp2 rfl
  have j8 : w2.cell? ⟨w.heap.size, 8, none⟩ = some (.int .i64 p.fu) := cell_in hp2 rfl
  have HE : Hid (Below w.heap.size w w2 ∧ w2.heap[w.heap.size + 1]? = some (.cells #[.int .i64 0, .int .i64 0, .int .u64 0, .int .i64 0, .int .u64 0, .int .i64 0, .slice none 0 0, .slice none 0 0] 36 (0, 0))) := ⟨hbw2, hr2⟩
  clear f0 f1 f2 f3 f4 f5 f6 f7 f8 hfz hw2 hp2 hbw1 hbw2 hr1 hr2 hb1 KK HRN HB HPX HMM HV hbb hpl HH
  go_wp2_with (go_at_call 10; (with_reducible refine HRR.mono ?_); rintro e w5 ⟨C, k, cd, x, q1, c1, CC, q3, c3, y1, y2, y3, rfl, y4, hb5⟩; have hr1 := (hb5.block _ (lt_of_block HE.out.2)).trans HE.out.2; have hfr := (fun k9 => frz hr1 k9); have l0 : w5.cell? ⟨w.heap.size + 1, 0, none⟩ = some (.int .i64 0) := cell_in hr1 rfl; have l1 : w5.cell? ⟨w.heap.size + 1, 1, none⟩ = some (.int .i64 0) := cell_in hr1 rfl; have l2 : w5.cell? ⟨w.heap.size + 1, 2, none⟩ = some (.int .u64 0) := cell_in hr1 rfl; have l3 : w5.cell? ⟨w.heap.size + 1, 3, none⟩ = some (.int .i64 0) := cell_in hr1 rfl; have l4 : w5.cell? ⟨w.heap.size + 1, 4, none⟩ = some (.int .u64 0) := cell_in hr1 rfl; have l5 : w5.cell? ⟨w.heap.size + 1, 5, none⟩ = some (.int .i64 0) := cell_in hr1 rfl; have l6 : w5.cell? ⟨w.heap.size + 1, 6, none⟩ = some (.slice none 0 0) := cell_in hr1 rfl; have l7 : w5.cell? ⟨w.heap.size + 1, 7, none⟩ = some (.slice none 0 0) := cell_in hr1 rfl)
  generalize hWF : (World.setCell (World.setCell (World.setCell (World.setCell (World.setCell (World.setCell (World.setCell (World.setCell w5 _ _) _ _) _ _) _ _) _ _) _ _) _ _) _ _) = wF
  have hres : wF.heap[w.heap.size + 1]? = some (.cells #[.int .i64 k, .int .i64 cd, .int .u64 x.t, .int .i64 x.s, .int .u64 x.q, .int .i64 0, .slice q1 p.nq c1, .slice q3 C.m c3] 36 (0, 0)) := by
    rw [← hWF, setCell_block _ _ _ _ (setCell_block _ _ _ _ (setCell_block _ _ _ _ (setCell_block _ _ _ _ (setCell_block _ _ _ _ (setCell_block _ _ _ _ (setCell_block _ _ _ _ (setCell_block _ _ _ _ hr1)))))))]
    rfl
  have hkF : Kb (fun k9 => k9 = w.heap.size + 1) w5 wF := by
    rw [← hWF]
    exact ((((((((Kb.set (S := fun k9 => k9 = w.heap.size + 1) _ _ _ _ rfl).trans (Kb.set _ _ _ _ rfl)).trans (Kb.set _ _ _ _ rfl)).trans (Kb.set _ _ _ _ rfl)).trans (Kb.set _ _ _ _ rfl)).trans (Kb.set _ _ _ _ rfl)).trans (Kb.set _ _ _ _ rfl)).trans (Kb.set _ _ _ _ rfl))
  have hbw := HE.out.1.trans (hb5.mono HE.out.1.size)
  have hbF : Below w.heap.size w wF := by
    rw [← hWF]
    exact ((((((((hbw.setCell (p := ⟨w.heap.size + 1, 0, none⟩) (Nat.le_succ _) _).setCell (p := ⟨w.heap.size + 1, 1, none⟩) (Nat.le_succ _) _).setCell (p := ⟨w.heap.size + 1, 2, none⟩) (Nat.le_succ _) _).setCell (p := ⟨w.heap.size + 1, 3, none⟩) (Nat.le_succ _) _).setCell (p := ⟨w.heap.size + 1, 4, none⟩) (Nat.le_succ _) _).setCell (p := ⟨w.heap.size + 1, 5, none⟩) (Nat.le_succ _) _).setCell (p := ⟨w.heap.size + 1, 6, none⟩) (Nat.le_succ _) _).setCell (p := ⟨w.heap.size + 1, 7, none⟩) (Nat.le_succ _) _)
  have z0 : wF.cell? ⟨w.heap.size + 1, 0, none⟩ = some (.int .i64 k) := cell_in hres rfl
  have z1 : wF.cell? ⟨w.heap.size + 1, 1, none⟩ = some (.int .i64 cd) := cell_in hres rfl
  have z2 : wF.cell? ⟨w.heap.size + 1, 2, none⟩ = some (.int .u64 x.t) := cell_in hres rfl
  have z3 : wF.cell? ⟨w.heap.size + 1, 3, none⟩ = some (.int .i64 x.s) := cell_in hres rfl
  have z4 : wF.cell? ⟨w.heap.size + 1, 4, none⟩ = some (.int .u64 x.q) := cell_in hres rfl
  have z5 : wF.cell? ⟨w.heap.size + 1, 5, none⟩ = some (.int .i64 0) := cell_in hres rfl
  have z6 : wF.cell? ⟨w.heap.size + 1, 6, none⟩ = some (.slice q1 p.nq c1) := cell_in hres rfl
  have z7 : wF.cell? ⟨w.heap.size + 1, 7, none⟩ = some (.slice q3 C.m c3) := cell_in hres rfl
  refine bodyPost_ret (v := .agg #[.int .i64 k, .int .i64 cd, .int .u64 x.t, .int .i64 x.s, .int .u64 x.q, .int .i64 0, .slice q1 p.nq c1, .slice q3 C.m c3]) (by simp [results, Tryz.results16, go_sem, z0, z1, z2, z3, z4, z5, z6, z7]; try rfl) rfl ?_
  obtain ⟨b, rb, hlt, hrs⟩ := y4
  have hwlt := lt_of_block HE.out.2
  exact ⟨C, k, cd, x, q1, c1, CC, q3, c3, y1, y2, y3, rfl, ⟨b, rb, by have := HE.out.1.size; omega, hrs.kb (hkF.wide fun k9 e9 => .inl (by omega))⟩, hbF⟩
end Go.Proofs.YtklaaapajdmhfaaGreat
