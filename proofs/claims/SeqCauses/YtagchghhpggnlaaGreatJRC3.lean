import Derived.Test.YtagchghhpggnlaaGreatJRO2
import Derived.Test.YtagchghhpggnlaaGreatJOP5
import Derived.Deep.Upon
import Derived.Test.YtagchghhpggnlaaGreatJRN20
import Derived.Test.YtagchghhpggnlaaGreatJRN24a
import Derived.Test.YtagchghhpggnlaaGreatJRR1
import Derived.Test.YtagchghhpggnlaaGreatJRB1
import Derived.Test.YtagchghhpggnlaaGreatJRC2
import Derived.BigQuiet
import Derived.Lib.AppendZeros
namespace Go.Proofs.YtagchghhpggnlaaGreat
open Go.ChangeShapes Go.WideShapes Go.ChangeAt Go.RowKit
set_option linter.unusedVariables false
set_option linter.unusedSimpArgs false

theorem seF_onesX (c : Nat → Se) (n : Nat) : ∀ u ∈ cellsF (seF c) n, u.oneCell' = true := fun u hu => by
  obtain ⟨k, hk, rfl⟩ := List.getElem_of_mem hu
  rw [cellsF_len] at hk
  have h1 := cellsF_at (seF c) hk
  rw [List.getElem?_eq_getElem (by rw [cellsF_len]; exact hk)] at h1
  rw [Option.some.inj h1]
  exact seF_one c k
/-! ### events that lie somewhere, appended to a row of the call's own -/
def catS (O X : Nat → Se) (n : Nat) : Nat → Se := fun t => if t < n then O t else X (t - n)
theorem catS_cells (O X : Nat → Se) (n m : Nat) : cellsF (seF O) (n * 6) ++ cellsF (seF X) (m * 6) = cellsF (seF (catS O X n)) ((n + m) * 6) := by
  rw [cellsF_append, Nat.add_mul]
  refine cellsF_congr fun j hj => ?_
  by_cases h : j < n * 6
  · rw [if_pos h]
    unfold seF catS
    rw [if_pos (by omega)]
  · rw [if_neg h]
    unfold seF catS
    rw [if_neg (by omega), show (j - n * 6) / 6 = j / 6 - n by omega, show (j - n * 6) % 6 = j % 6 by omega]
theorem grown_refl (w : World) (r : Option Nat) : w.grownBy w r := ⟨rfl, rfl, rfl, Nat.le_refl _, fun _ _ _ => rfl⟩
theorem app_in (w : World) (base : Nat) (ty : TypeId) (v : Value) (n : Nat) (O : Nat → Se) (p : Option Addr) (m c : Nat) (X : Nat → Se) (ho : Own w base 39 6 v n (seF O)) (hs : SIn w p m X) (hnm : n + m ≤ 1000000000000) (hb : base ≤ w.heap.size) :
    ∃ v' w', (Builtin.append_ #[34, 34] ty #[v, .slice p m c]).run Tryz.prog w = .ok v' w' ∧ Own w' base 39 6 v' (n + m) (seF (catS O X n)) ∧ w.grownBy w' v.ownBlock ∧ (v'.ownBlock = v.ownBlock ∨ v'.ownBlock = some w.heap.size) := by
  obtain ⟨iE, hE1, hE2, hE3, hE4⟩ := sinfo infoSE
  by_cases h0 : m = 0
  · subst h0
    obtain ⟨vp, vc, rfl⟩ := own_slice ho
    have hle : n ≤ vc := by
      rcases ho.form with ⟨h1, h2⟩ | ⟨g, c', h1, _, _⟩
      · omega
      · rw [h1] at ho
        obtain ⟨_, _, _, h5, _⟩ := Own.block ho
        injection h1 with e1 e2 e3
        omega
    refine ⟨.slice vp n vc, w, ?_, ?_, grown_refl _ _, .inl rfl⟩
    · refine run_append_nothing w 34 34 ty 39 iE Tryz.underlying34 hE1 vp n vc hle (.slice p 0 c) ?_
      cases p with
      | none => exact Src.ofNil w Tryz.underlying34 c
      | some a => exact Src.ofSlice w Tryz.underlying34 a 0 c [] (by simp) (fun j u h => by simp at h) (fun u h => by cases h)
    · refine ho.congr fun j hj => ?_
      unfold seF catS
      rw [if_pos (by omega)]
  · rcases hs with h | ⟨b, o, rfl, hlt, hc⟩
    · exact absurd h h0
    have hnews : ∀ j u, (cellsF (seF X) (m * 6))[j]? = some u → w.cell? ((⟨b, o, none⟩ : Addr).add j) = some u := fun j u hu => by
      have hj : j < m * 6 := by
        have := (List.getElem?_eq_some_iff.1 hu).1
        rwa [cellsF_len] at this
      rw [cellsF_at _ hj] at hu
      cases hu
      rw [addr_add0]
      exact hc j hj
    obtain ⟨v', w', hr, h2, h3, h4, h5⟩ := run_append_own_at (P := Tryz.prog) w base 34 ty 39 iE _ 6 48 Tryz.underlying34 hE1 hE2 hE3 hE4 rfl (by decide) v n _ ho ⟨b, o, none⟩ m c (cellsF (seF X) (m * 6)) (cellsF_len _ _) hnews (seF_onesX X _) (by unfold maxLen; omega) (by omega) hb
    refine ⟨v', w', hr, ?_, h3, h5⟩
    unfold Own
    rw [← catS_cells]
    exact h2
end Go.Proofs.YtagchghhpggnlaaGreat
namespace Go.Proofs.YtagchghhpggnlaaGreat
open Go.ChangeShapes Go.WideShapes Go.ChangeAt Go.RowKit
set_option linter.unusedVariables false
set_option linter.unusedSimpArgs false

theorem klt_cmp {a b : Se} (h : klt a b = true) : keyCmp a.t a.s a.q b.t b.s b.q = -1 := by
  have h1 := (klt_iff a b).1 h
  unfold keyCmp
  by_cases e1 : a.t < b.t
  · rw [cmp_lt e1]; rfl
  · have e2 : a.t = b.t := by omega
    rw [e2, cmp_eq]
    by_cases e3 : a.s < b.s
    · rw [cmp_lt e3]; rfl
    · have e4 : a.s = b.s := by omega
      rw [e4, cmp_eq, cmp_lt (by omega)]; rfl
set_option maxRecDepth 100000 in
set_option maxHeartbeats 4000000 in
theorem causes_bad (p : Pl) (v : PlV) (w : World) (h : PlAt w p v) (c0 : Int) (hc0 : VC p c0) (hz : c0 ≠ 0) : Calls Tryz.prog 5 #[.agg #[.int .i64 p.ki, .slice v.pp p.np v.pc, .slice v.tp p.nq v.tc, .slice v.sp p.ns v.sc, .int .u64 p.sd, .int .u64 p.lk, .int .u64 p.en, .int .i64 p.bu, .int .i64 p.fu]] w fun e w' => e = .returned (.bool true) ∧ Below w.heap.size w w' := by
  obtain ⟨wb, hwb⟩ : ∃ wb, w.alloc (.cells #[.int .i64 p.ki, .slice v.pp p.np v.pc, .slice v.tp p.nq v.tc, .slice v.sp p.ns v.sc, .int .u64 p.sd, .int .u64 p.lk, .int .u64 p.en, .int .i64 p.bu, .int .i64 p.fu] 27) = wb := ⟨_, rfl⟩
  obtain ⟨hb0, hbox, hsz⟩ := boxed _ _ _ hwb
  have HH : Hid (w.alloc (.cells #[.int .i64 p.ki, .slice v.pp p.np v.pc, .slice v.tp p.nq v.tc, .slice v.sp p.ns v.sc, .int .u64 p.sd, .int .u64 p.lk, .int .u64 p.en, .int .i64 p.bu, .int .i64 p.fu] 27) = wb) := hwb
  have HA := awake_any wb
  have HV : ∀ W, Below wb.heap.size wb W → Hid (Calls Tryz.prog 14 #[.agg #[.int .i64 p.ki, .slice v.pp p.np v.pc, .slice v.tp p.nq v.tc, .slice v.sp p.ns v.sc, .int .u64 p.sd, .int .u64 p.lk, .int .u64 p.en, .int .i64 p.bu, .int .i64 p.fu]] W fun e w' => e = .returned (.int .i64 c0) ∧ Below W.heap.size W w') := fun W hb => by
    refine (valid_any p v W ((h.below hb0).below hb)).mono ?_
    rintro e w' ⟨c, rfl, k1, k2⟩
    rw [k1.one hc0]
    exact ⟨rfl, k2⟩
  have KK : ∀ W, Below wb.heap.size wb W → Hid (W.cell? ⟨w.heap.size, 0, none⟩ = some (.int .i64 p.ki) ∧ W.cell? ⟨w.heap.size, 1, none⟩ = some (.slice v.pp p.np v.pc) ∧ W.cell? ⟨w.heap.size, 2, none⟩ = some (.slice v.tp p.nq v.tc) ∧ W.cell? ⟨w.heap.size, 3, none⟩ = some (.slice v.sp p.ns v.sc) ∧ W.cell? ⟨w.heap.size, 4, none⟩ = some (.int .u64 p.sd) ∧ W.cell? ⟨w.heap.size, 5, none⟩ = some (.int .u64 p.lk) ∧ W.cell? ⟨w.heap.size, 6, none⟩ = some (.int .u64 p.en) ∧ W.cell? ⟨w.heap.size, 7, none⟩ = some (.int .i64 p.bu) ∧ W.cell? ⟨w.heap.size, 8, none⟩ = some (.int .i64 p.fu)) := fun W hb => by
    have hx := (hb.block _ (lt_of_block hbox)).trans hbox
    exact ⟨cell_in hx rfl, cell_in hx rfl, cell_in hx rfl, cell_in hx rfl, cell_in hx rfl, cell_in hx rfl, cell_in hx rfl, cell_in hx rfl, cell_in hx rfl⟩
  have HB : Hid (Below w.heap.size w wb ∧ wb.heap[w.heap.size]? = some (.cells #[.int .i64 p.ki, .slice v.pp p.np v.pc, .slice v.tp p.nq v.tc, .slice v.sp p.ns v.sc, .int .u64 p.sd, .int .u64 p.lk, .int .u64 p.en, .int .i64 p.bu, .int .i64 p.fu] 27 (0, 0))) := ⟨hb0, hbox⟩
  have q0 : (c0 != 0) = true := by simpa using hz
  have q1 : (c0 == 0) = false := by simpa using hz
  clear hwb hb0 hbox hsz h hc0 hz
  go_enter Tryz.func5, Tryz.ntmps5
  go_wp2_with (first | (go_at_call 13; rw [HH.out]; (with_reducible refine HA.mono ?_); rintro e w1 ⟨rfl, hb1⟩; obtain ⟨f0, f1, f2, f3, f4, f5, f6, f7, f8⟩ := (KK w1 hb1).out) | (go_at_call 14; (with_reducible refine (HV w1 hb1).out.mono ?_); rintro e w2 ⟨rfl, hb2⟩))
  go_ret
  exact ⟨rfl, HB.out.1.trans ((hb1.trans (hb2.mono hb1.size)).mono HB.out.1.size)⟩
set_option maxRecDepth 100000 in
set_option maxHeartbeats 4000000 in
theorem causes_far (p : Pl) (v : PlV) (w : World) (h : PlAt w p v) (c0 : Int) (hc0 : VC p c0) (hz : c0 = 0) (hbu : 150 < p.bu) : Calls Tryz.prog 5 #[.agg #[.int .i64 p.ki, .slice v.pp p.np v.pc, .slice v.tp p.nq v.tc, .slice v.sp p.ns v.sc, .int .u64 p.sd, .int .u64 p.lk, .int .u64 p.en, .int .i64 p.bu, .int .i64 p.fu]] w fun e w' => e = .returned (.bool true) ∧ Below w.heap.size w w' := by
  subst hz
  obtain ⟨c0, hcc⟩ : ∃ c0 : Int, c0 = 0 := ⟨_, rfl⟩
  rw [← hcc] at hc0
  obtain ⟨wb, hwb⟩ : ∃ wb, w.alloc (.cells #[.int .i64 p.ki, .slice v.pp p.np v.pc, .slice v.tp p.nq v.tc, .slice v.sp p.ns v.sc, .int .u64 p.sd, .int .u64 p.lk, .int .u64 p.en, .int .i64 p.bu, .int .i64 p.fu] 27) = wb := ⟨_, rfl⟩
  obtain ⟨hb0, hbox, hsz⟩ := boxed _ _ _ hwb
  have HH : Hid (w.alloc (.cells #[.int .i64 p.ki, .slice v.pp p.np v.pc, .slice v.tp p.nq v.tc, .slice v.sp p.ns v.sc, .int .u64 p.sd, .int .u64 p.lk, .int .u64 p.en, .int .i64 p.bu, .int .i64 p.fu] 27) = wb) := hwb
  have HA := awake_any wb
  have HV : ∀ W, Below wb.heap.size wb W → Hid (Calls Tryz.prog 14 #[.agg #[.int .i64 p.ki, .slice v.pp p.np v.pc, .slice v.tp p.nq v.tc, .slice v.sp p.ns v.sc, .int .u64 p.sd, .int .u64 p.lk, .int .u64 p.en, .int .i64 p.bu, .int .i64 p.fu]] W fun e w' => e = .returned (.int .i64 c0) ∧ Below W.heap.size W w') := fun W hb => by
    refine (valid_any p v W ((h.below hb0).below hb)).mono ?_
    rintro e w' ⟨c, rfl, k1, k2⟩
    rw [k1.one hc0]
    exact ⟨rfl, k2⟩
  have KK : ∀ W, Below wb.heap.size wb W → Hid (W.cell? ⟨w.heap.size, 0, none⟩ = some (.int .i64 p.ki) ∧ W.cell? ⟨w.heap.size, 1, none⟩ = some (.slice v.pp p.np v.pc) ∧ W.cell? ⟨w.heap.size, 2, none⟩ = some (.slice v.tp p.nq v.tc) ∧ W.cell? ⟨w.heap.size, 3, none⟩ = some (.slice v.sp p.ns v.sc) ∧ W.cell? ⟨w.heap.size, 4, none⟩ = some (.int .u64 p.sd) ∧ W.cell? ⟨w.heap.size, 5, none⟩ = some (.int .u64 p.lk) ∧ W.cell? ⟨w.heap.size, 6, none⟩ = some (.int .u64 p.en) ∧ W.cell? ⟨w.heap.size, 7, none⟩ = some (.int .i64 p.bu) ∧ W.cell? ⟨w.heap.size, 8, none⟩ = some (.int .i64 p.fu)) := fun W hb => by
    have hx := (hb.block _ (lt_of_block hbox)).trans hbox
    exact ⟨cell_in hx rfl, cell_in hx rfl, cell_in hx rfl, cell_in hx rfl, cell_in hx rfl, cell_in hx rfl, cell_in hx rfl, cell_in hx rfl, cell_in hx rfl⟩
  have HB : Hid (Below w.heap.size w wb ∧ wb.heap[w.heap.size]? = some (.cells #[.int .i64 p.ki, .slice v.pp p.np v.pc, .slice v.tp p.nq v.tc, .slice v.sp p.ns v.sc, .int .u64 p.sd, .int .u64 p.lk, .int .u64 p.en, .int .i64 p.bu, .int .i64 p.fu] 27 (0, 0))) := ⟨hb0, hbox⟩
  subst hcc
  have d0 : decide (p.bu > 150) = true := decide_eq_true hbu
  have d1 : decide (150 < p.bu) = true := decide_eq_true hbu
  clear hwb hb0 hbox hsz h hc0 hbu
  go_enter Tryz.func5, Tryz.ntmps5
  go_wp2_with (first | (go_at_call 13; rw [HH.out]; (with_reducible refine HA.mono ?_); rintro e w1 ⟨rfl, hb1⟩; obtain ⟨f0, f1, f2, f3, f4, f5, f6, f7, f8⟩ := (KK w1 hb1).out) | (go_at_call 14; (with_reducible refine (HV w1 hb1).out.mono ?_); rintro e w2 ⟨rfl, hb2⟩; have hb2' : Below wb.heap.size wb w2 := hb1.trans (hb2.mono hb1.size); clear f0 f1 f2 f3 f4 f5 f6 f7 f8; obtain ⟨f0, f1, f2, f3, f4, f5, f6, f7, f8⟩ := (KK w2 hb2').out))
  go_ret
  exact ⟨rfl, HB.out.1.trans (hb2'.mono HB.out.1.size)⟩
set_option maxRecDepth 100000 in
set_option maxHeartbeats 16000000 in
theorem causes_good (p : Pl) (v : PlV) (w : World) (h : PlAt w p v) (hr : RoomyL p) (hpl : PlOk p) (hbu : ¬ 150 < p.bu) : Calls Tryz.prog 5 #[.agg #[.int .i64 p.ki, .slice v.pp p.np v.pc, .slice v.tp p.nq v.tc, .slice v.sp p.ns v.sc, .int .u64 p.sd, .int .u64 p.lk, .int .u64 p.en, .int .i64 p.bu, .int .i64 p.fu]] w fun e w' => e = .returned (.bool true) ∧ Below w.heap.size w w' := by
  obtain ⟨c0, hcc⟩ : ∃ c0 : Int, c0 = 0 := ⟨_, rfl⟩
  have hc0 : VC p c0 := by rw [hcc]; exact okVC hpl
  obtain ⟨wb, hwb⟩ : ∃ wb, w.alloc (.cells #[.int .i64 p.ki, .slice v.pp p.np v.pc, .slice v.tp p.nq v.tc, .slice v.sp p.ns v.sc, .int .u64 p.sd, .int .u64 p.lk, .int .u64 p.en, .int .i64 p.bu, .int .i64 p.fu] 27) = wb := ⟨_, rfl⟩
  obtain ⟨hb0, hbox, hsz⟩ := boxed _ _ _ hwb
  have HH : Hid (w.alloc (.cells #[.int .i64 p.ki, .slice v.pp p.np v.pc, .slice v.tp p.nq v.tc, .slice v.sp p.ns v.sc, .int .u64 p.sd, .int .u64 p.lk, .int .u64 p.en, .int .i64 p.bu, .int .i64 p.fu] 27) = wb) := hwb
  have HA := awake_any wb
  have HV : ∀ W, Below wb.heap.size wb W → Hid (Calls Tryz.prog 14 #[.agg #[.int .i64 p.ki, .slice v.pp p.np v.pc, .slice v.tp p.nq v.tc, .slice v.sp p.ns v.sc, .int .u64 p.sd, .int .u64 p.lk, .int .u64 p.en, .int .i64 p.bu, .int .i64 p.fu]] W fun e w' => e = .returned (.int .i64 c0) ∧ Below W.heap.size W w') := fun W hb => by
    refine (valid_any p v W ((h.below hb0).below hb)).mono ?_
    rintro e w' ⟨c, rfl, k1, k2⟩
    rw [k1.one hc0]
    exact ⟨rfl, k2⟩
  have KK : ∀ W, Below wb.heap.size wb W → Hid (W.cell? ⟨w.heap.size, 0, none⟩ = some (.int .i64 p.ki) ∧ W.cell? ⟨w.heap.size, 1, none⟩ = some (.slice v.pp p.np v.pc) ∧ W.cell? ⟨w.heap.size, 2, none⟩ = some (.slice v.tp p.nq v.tc) ∧ W.cell? ⟨w.heap.size, 3, none⟩ = some (.slice v.sp p.ns v.sc) ∧ W.cell? ⟨w.heap.size, 4, none⟩ = some (.int .u64 p.sd) ∧ W.cell? ⟨w.heap.size, 5, none⟩ = some (.int .u64 p.lk) ∧ W.cell? ⟨w.heap.size, 6, none⟩ = some (.int .u64 p.en) ∧ W.cell? ⟨w.heap.size, 7, none⟩ = some (.int .i64 p.bu) ∧ W.cell? ⟨w.heap.size, 8, none⟩ = some (.int .i64 p.fu)) := fun W hb => by
    have hx := (hb.block _ (lt_of_block hbox)).trans hbox
    exact ⟨cell_in hx rfl, cell_in hx rfl, cell_in hx rfl, cell_in hx rfl, cell_in hx rfl, cell_in hx rfl, cell_in hx rfl, cell_in hx rfl, cell_in hx rfl⟩
  have HB : Hid (Below w.heap.size w wb ∧ wb.heap[w.heap.size]? = some (.cells #[.int .i64 p.ki, .slice v.pp p.np v.pc, .slice v.tp p.nq v.tc, .slice v.sp p.ns v.sc, .int .u64 p.sd, .int .u64 p.lk, .int .u64 p.en, .int .i64 p.bu, .int .i64 p.fu] 27 (0, 0))) := ⟨hb0, hbox⟩
  subst hcc
  have HR : ∀ W, Below wb.heap.size wb W → Hid (Calls Tryz.prog 15 #[.agg #[.int .i64 p.ki, .slice v.pp p.np v.pc, .slice v.tp p.nq v.tc, .slice v.sp p.ns v.sc, .int .u64 p.sd, .int .u64 p.lk, .int .u64 p.en, .int .i64 p.bu, .int .i64 p.fu]] W fun r w' => ∃ (C : Ab) (kd cd : Int) (x : Se) (q1 : Option Addr) (c1 : Nat) (CC : Nat → Sa) (q3 : Option Addr) (c3 : Nat), EndR p (fstA p) C ∧ AOk2 p C ∧ ResK p C kd cd x ∧ r = .returned (.agg #[.int .i64 kd, .int .i64 cd, .int .u64 x.t, .int .i64 x.s, .int .u64 x.q, .int .i64 0, .slice q1 p.nq c1, .slice q3 C.m c3]) ∧ (∃ b rb, W.heap.size < b ∧ RsA w' b rb p C q1 CC q3 c3) ∧ Below W.heap.size W w') := fun W hb => sqRun_good p v W ((h.below hb0).below hb) hr (okVC hpl) hpl
  have HT : ∀ W, Below wb.heap.size wb W → Hid (Calls Tryz.prog 21 #[.agg #[.int .i64 p.ki, .slice v.pp p.np v.pc, .slice v.tp p.nq v.tc, .slice v.sp p.ns v.sc, .int .u64 p.sd, .int .u64 p.lk, .int .u64 p.en, .int .i64 p.bu, .int .i64 p.fu]] W fun e w' => ∃ (q : Option Addr) (c : Nat), e = .returned (.slice q p.ns c) ∧ Own w' W.heap.size 39 6 (.slice q p.ns c) p.ns (seF (evS p.S)) ∧ Below W.heap.size W w') := fun W hb => there_any p v W ((h.below hb0).below hb) hpl.gt hpl.gs
  have HG : ∀ W, Below wb.heap.size wb W → Hid (Calls Tryz.prog 18 #[.agg #[.int .i64 p.ki, .slice v.pp p.np v.pc, .slice v.tp p.nq v.tc, .slice v.sp p.ns v.sc, .int .u64 p.sd, .int .u64 p.lk, .int .u64 p.en, .int .i64 p.bu, .int .i64 p.fu]] W fun e w' => ∃ (q : Option Addr) (c : Nat) (A : Nat → Sa), e = .returned (.slice q p.nq c) ∧ Own w' W.heap.size 46 3 (.slice q p.nq c) p.nq (saF A) ∧ (∀ j, j < p.nq → (A j).n = p.nw j ∧ (A j).d = dz p.sd j ∧ (A j).s = (cntS p.S p.ns (j : Int) : Nat) ∧ KAt w' (A j).p (p.nw j) (p.K j) ∧ EA w' (.slice q p.nq c) W.heap.size (A j).p ∧ (A j).p ≠ none) ∧ Below W.heap.size W w') := fun W hb => begun_any p v W ((h.below hb0).below hb) hr hpl.gt hpl.gs
  have HPL : Hid (PlAt w p v ∧ RoomyL p ∧ PlOk p) := ⟨h, hr, hpl⟩
  have hnq := hpl.gt.1
  have hns := hpl.gs.1
  have hlk := hpl.lk
  have d0 : decide (p.bu > 150) = false := decide_eq_false hbu
  have d1 : decide (150 < p.bu) = false := decide_eq_false hbu
  clear hwb hb0 hbox hsz h hr hpl hc0 hbu
  go_enter Tryz.func5, Tryz.ntmps5
  go_upto_region 6 with (first | (go_at_call 13; rw [HH.out]; (with_reducible refine HA.mono ?_); rintro e w1 ⟨rfl, hb1⟩; obtain ⟨f0, f1, f2, f3, f4, f5, f6, f7, f8⟩ := (KK w1 hb1).out) | (go_at_call 14; (with_reducible refine (HV w1 hb1).out.mono ?_); rintro e w2 ⟨rfl, hb2'⟩; have hb2 : Below wb.heap.size wb w2 := hb1.trans (hb2'.mono hb1.size); clear f0 f1 f2 f3 f4 f5 f6 f7 f8; obtain ⟨f0, f1, f2, f3, f4, f5, f6, f7, f8⟩ := (KK w2 hb2).out) | (go_at_call 15; (with_reducible refine (HR w2 hb2).out.mono ?_); rintro e w3 ⟨C, kd, cd, x, q1, c1, CC, q3, c3, he1, ho1, hk1, rfl, ⟨b, rb, hlb, hrs⟩, hb3'⟩; have hb3 : Below wb.heap.size wb w3 := hb2.trans (hb3'.mono hb2.size); clear f0 f1 f2 f3 f4 f5 f6 f7 f8))
  obtain ⟨w4, hw4⟩ : ∃ w4, w3.alloc (.cells #[.int .i64 kd, .int .i64 cd, .int .u64 x.t, .int .i64 x.s, .int .u64 x.q, .int .i64 0, .slice q1 p.nq c1, .slice q3 C.m c3] 36) = w4 := ⟨_, rfl⟩
  obtain ⟨hb4', hx4, hsz4⟩ := boxed _ _ _ hw4
  rw [hw4]
  obtain ⟨g4, hg4⟩ : ∃ g4, w3.heap.size = g4 := ⟨_, rfl⟩
  rw [hg4] at hx4 ⊢
  have hb4 : Below wb.heap.size wb w4 := hb3.trans (hb4'.mono hb3.size)
  have hT4 := hrs.tr.below hb4'
  have H4 : Hid (EndR p (fstA p) C ∧ w4.heap[g4]? = some (.cells #[.int .i64 kd, .int .i64 cd, .int .u64 x.t, .int .i64 x.s, .int .u64 x.q, .int .i64 0, .slice q1 p.nq c1, .slice q3 C.m c3] 36 (0, 0)) ∧ SIn w4 q3 C.m C.Z ∧ (C.m : Int) ≤ 4096 ∧ g4 < w4.heap.size ∧ Below wb.heap.size wb w4) := ⟨he1, hx4, hT4, ho1.m, lt_of_block hx4, hb4⟩
  obtain ⟨f0, f1, f2, f3, f4, f5, f6, f7, f8⟩ := (KK w4 hb4).out
  clear hw4 hb4' hx4 hsz4 hg4 hrs hlb he1 hk1 ho1 hT4 hb3' hb3 hb2 hb2' hb1 HA HV HR d0 d1
  go_upto_region 7 with (go_at_call 21; (with_reducible refine (HT w4 hb4).out.mono ?_); rintro e w5 ⟨fq, fc, rfl, hfr, hb5'⟩)
  have hb5 : Below wb.heap.size wb w5 := hb4.trans (hb5'.mono hb4.size)
  clear f0 f1 f2 f3 f4 f5 f6 f7 f8
  obtain ⟨f0, f1, f2, f3, f4, f5, f6, f7, f8⟩ := (KK w5 hb5).out
  go_upto_region 8 with (go_at_call 18; (with_reducible refine (HG w5 hb5).out.mono ?_); rintro e w6 ⟨sq, sc, A, rfl, hrow, hA, hb6'⟩)
  clear f0 f1 f2 f3 f4 f5 f6 f7 f8
  have hb6 : Below wb.heap.size wb w6 := hb5.trans (hb6'.mono hb5.size)
  have hb46 : Below w4.heap.size w4 w6 := hb5'.trans (hb6'.mono hb5'.size)
  obtain ⟨z1, z2, z3, z4, z5, z6⟩ := H4.out
  have H6 : Hid (EndR p (fstA p) C ∧ (w6.heap[g4]? = some (.cells #[.int .i64 kd, .int .i64 cd, .int .u64 x.t, .int .i64 x.s, .int .u64 x.q, .int .i64 0, .slice q1 p.nq c1, .slice q3 C.m c3] 36 (0, 0)) ∧ g4 < w5.heap.size) ∧ SIn w6 q3 C.m C.Z ∧ (C.m : Int) ≤ 4096 ∧ (w6.heap[w.heap.size]? = some (.cells #[.int .i64 p.ki, .slice v.pp p.np v.pc, .slice v.tp p.nq v.tc, .slice v.sp p.ns v.sc, .int .u64 p.sd, .int .u64 p.lk, .int .u64 p.en, .int .i64 p.bu, .int .i64 p.fu] 27 (0, 0)) ∧ w.heap.size < w5.heap.size) ∧ Below w.heap.size w w6 ∧ SIn w6 fq p.ns (evS p.S) ∧ (∀ g o, fq = some ⟨g, o, none⟩ → 0 < p.ns → g < w5.heap.size) ∧ (∀ g o, q3 = some ⟨g, o, none⟩ → 0 < C.m → g < w5.heap.size)) := ⟨z1, ⟨(hb46.block _ z5).trans z2, Nat.lt_of_lt_of_le z5 hb5'.size⟩, z3.below hb46, z4, ⟨(hb6.block _ (lt_of_block HB.out.2)).trans HB.out.2, Nat.lt_of_lt_of_le (lt_of_block HB.out.2) hb5.size⟩, HB.out.1.trans (hb6.mono HB.out.1.size), (own_sin0 hfr).below hb6', fun g o e hn => by
    rcases own_sin0 hfr with h9 | ⟨b, o', e', hl, _⟩
    · omega
    · rw [e'] at e; injection e with e; injection e with e1 e2 e3; omega, fun g o e hn => by
    rcases z3 with h9 | ⟨b, o', e', hl, _⟩
    · omega
    · rw [e'] at e; injection e with e; injection e with e1 e2 e3; have := hb5'.size; omega⟩
  have H7 : Hid (Own w6 w5.heap.size 46 3 (.slice sq p.nq sc) p.nq (saF A) ∧ (∀ j, j < p.nq → (A j).n = p.nw j ∧ (A j).d = dz p.sd j ∧ (A j).s = (cntS p.S p.ns (j : Int) : Nat) ∧ KAt w6 (A j).p (p.nw j) (p.K j) ∧ EA w6 (.slice sq p.nq sc) w5.heap.size (A j).p ∧ (A j).p ≠ none) ∧ w5.heap.size ≤ w6.heap.size) := ⟨hrow, hA, hb6'.size⟩
  clear z1 z2 z3 z4 z5 z6 hb6' hb6 hb5 hb5' hb46 hfr hrow hA hb4 HG HT H4 KK HB HH
  go_wp2_with fail
  go_loopw [6, 7] (fun u6 v7 wr => ∃ (i : Nat) (B : Nat → Sa), v7 = .int .i64 (i : Int) ∧ i ≤ C.m ∧ Own wr w6.heap.size 39 6 u6 (outN p C.Z i) (seF (outZ p C.Z i)) ∧ Own wr w5.heap.size 46 3 (.slice sq p.nq sc) p.nq (saF B) ∧ (∀ j, j < p.nq → (B j).n = p.nw j ∧ (B j).d = (stP p C.Z j i).2.1 ∧ (B j).s = (stP p C.Z j i).2.2 ∧ KAt wr (B j).p (p.nw j) (stP p C.Z j i).1 ∧ ((B j).p = none → p.nw j = 0 ∧ True) ∧ ∀ g o, (B j).p = some ⟨g, o, none⟩ → some g ≠ (Value.slice sq p.nq sc).ownBlock ∧ some g ≠ u6.ownBlock ∧ g < wr.heap.size) ∧ Kb (fun k => some k = (Value.slice sq p.nq sc).ownBlock) w6 wr ∧ Below w5.heap.size w6 wr) (fun _ v7 _ => C.m - (intOf v7).toNat)
  case atStart =>
    refine ⟨0, A, rfl, Nat.zero_le _, World.ownsRow_nil _ _ _ _, H7.out.1, fun j hj => ?_, ⟨Nat.le_refl _, fun _ _ _ => rfl⟩, Below.refl _ _⟩
    obtain ⟨a1, a2, a3, a4, a5, a6⟩ := H7.out.2.1 j hj
    exact ⟨a1, a2, a3, a4, fun e => absurd e a6, fun g o e => ⟨(a5 g o e).2.2, fun e9 => (by cases e9), (a5 g o e).2.1⟩⟩
  case round =>
    obtain ⟨i, B, rfl, hi, hout, hrow, hst, hkb, hbr⟩ := hrel
    have m63 : (C.m : Int) ≤ 4096 := H6.out.2.2.2.1
    have hgq : ∀ g, g < w5.heap.size → ¬ (some g = (Value.slice sq p.nq sc).ownBlock) := fun g hg e => by have := (Own.lt H7.out.1 g e.symm).1; omega
    have hxp := (hkb.block w.heap.size (lt_of_block H6.out.2.2.2.2.1.1) (hgq _ H6.out.2.2.2.2.1.2)).trans H6.out.2.2.2.2.1.1
    have hxr := (hkb.block g4 (lt_of_block H6.out.2.1.1) (hgq _ H6.out.2.1.2)).trans H6.out.2.1.1
    have a7 : wr.cell? ⟨g4, 7, none⟩ = some (.slice q3 C.m c3) := cell_in hxr rfl
    have hT := H6.out.2.2.1.kb0 hkb (fun g o e hn => hgq g (H6.out.2.2.2.2.2.2.2.2 g o e hn))
    have hF := H6.out.2.2.2.2.2.2.1.kb0 hkb (fun g o e hn => hgq g (H6.out.2.2.2.2.2.2.2.1 g o e hn))
    have hbw : Below w.heap.size w wr := H6.out.2.2.2.2.2.1.trans (hbr.mono (by have := H6.out.2.2.2.2.1.2; omega))
    by_cases hlm : i < C.m
    case pos =>
      obtain ⟨up, uc, rfl⟩ := own_slice hout
      have dl1 : decide ((i : Int) < (C.m : Int)) = true := decide_eq_true (by omega)
      have dl2 : decide (i < C.m) = true := decide_eq_true hlm
      have i0 : (0 : Int) ≤ (i : Int) := by omega
      have i1 : (i : Int) < (C.m : Int) := by omega
      have ei : IntKind.i64.wrap ((i : Int) + 1) = (i : Int) + 1 := by rw [IntKind.wrap_i64]; omega
      have HMi := meas hlm
      have hat := H6.out.1.atE HPL.out.2.2 hlm
      have hca := H6.out.1.cause HPL.out.2.2 hlm
      obtain ⟨dn, hdn⟩ : ∃ dn, (C.Z i).d.toNat = dn := ⟨_, rfl⟩
      have hd0 : (C.Z i).d = (dn : Int) := by have := hat.dn.2; omega
      have hdq : dn < p.nq := by have := hat.dn.1; omega
      obtain hz | ⟨bq, oq, hq3, hlq, hcq⟩ := hT
      · omega
      obtain ⟨y0, y1, y2, y3, y4, y5⟩ := SIn.six hcq hlm
      rw [hd0] at y3
      obtain ⟨gst, hsq⟩ : ∃ gst, sq = some ⟨gst, 0, none⟩ := by
        rcases Own.form H7.out.1 with ⟨_, h2⟩ | ⟨g', c', h1, h2, h3⟩
        · omega
        · injection h1 with e1 e2 e3
          exact ⟨g', e1⟩
      subst hsq
      obtain ⟨w7, hw7⟩ : ∃ w7, wr.alloc (.cells #[.int .u64 (C.Z i).t, .int .i64 (C.Z i).s, .int .u64 (C.Z i).q, .int .i64 (dn : Int), .int .i64 (C.Z i).k, .int .i64 (C.Z i).v] 39) = w7 := ⟨_, rfl⟩
      obtain ⟨hb7, hx7, hsz7⟩ := boxed _ _ _ hw7
      have HW7 : Hid (wr.alloc (.cells #[.int .u64 (C.Z i).t, .int .i64 (C.Z i).s, .int .u64 (C.Z i).q, .int .i64 (dn : Int), .int .i64 (C.Z i).k, .int .i64 (C.Z i).v] 39) = w7) := hw7
      obtain ⟨g8, hg8⟩ : ∃ g8, wr.heap.size = g8 := ⟨_, rfl⟩
      have HG8 : Hid (wr.heap.size = g8) := hg8
      rw [hg8] at hx7
      have HI : Hid (Own wr w6.heap.size 39 6 (.slice up (outN p C.Z i) uc) (outN p C.Z i) (seF (outZ p C.Z i)) ∧ Own wr w5.heap.size 46 3 (.slice (some ⟨gst, 0, none⟩) p.nq sc) p.nq (saF B) ∧ (∀ j, j < p.nq → (B j).n = p.nw j ∧ (B j).d = (stP p C.Z j i).2.1 ∧ (B j).s = (stP p C.Z j i).2.2 ∧ KAt wr (B j).p (p.nw j) (stP p C.Z j i).1 ∧ ((B j).p = none → p.nw j = 0 ∧ True) ∧ ∀ g o, (B j).p = some ⟨g, o, none⟩ → some g ≠ (Value.slice (some ⟨gst, 0, none⟩) p.nq sc).ownBlock ∧ some g ≠ (Value.slice up (outN p C.Z i) uc).ownBlock ∧ g < wr.heap.size) ∧ Kb (fun k => some k = (Value.slice (some ⟨gst, 0, none⟩) p.nq sc).ownBlock) w6 wr ∧ Below w5.heap.size w6 wr) := ⟨hout, hrow, hst, hkb, hbr⟩
      have H8 : Hid (w7.heap[g8]? = some (.cells #[.int .u64 (C.Z i).t, .int .i64 (C.Z i).s, .int .u64 (C.Z i).q, .int .i64 (dn : Int), .int .i64 (C.Z i).k, .int .i64 (C.Z i).v] 39 (0, 0)) ∧ Below wr.heap.size wr w7 ∧ wr.heap[w.heap.size]? = some (.cells #[.int .i64 p.ki, .slice v.pp p.np v.pc, .slice v.tp p.nq v.tc, .slice v.sp p.ns v.sc, .int .u64 p.sd, .int .u64 p.lk, .int .u64 p.en, .int .i64 p.bu, .int .i64 p.fu] 27 (0, 0)) ∧ wr.heap[g4]? = some (.cells #[.int .i64 kd, .int .i64 cd, .int .u64 x.t, .int .i64 x.s, .int .u64 x.q, .int .i64 0, .slice q1 p.nq c1, .slice q3 C.m c3] 36 (0, 0)) ∧ SIn wr fq p.ns (evS p.S) ∧ Below w.heap.size w wr ∧ (C.Z i).d = (dn : Int) ∧ (C.Z i).d.toNat = dn) := ⟨hx7, hb7, hxp, hxr, hF, hbw, hd0, hdn⟩
      have KC : ∀ W, Below w7.heap.size w7 W → Hid ((W.cell? ⟨w.heap.size, 0, none⟩ = some (.int .i64 p.ki) ∧ W.cell? ⟨w.heap.size, 1, none⟩ = some (.slice v.pp p.np v.pc) ∧ W.cell? ⟨w.heap.size, 2, none⟩ = some (.slice v.tp p.nq v.tc) ∧ W.cell? ⟨w.heap.size, 3, none⟩ = some (.slice v.sp p.ns v.sc) ∧ W.cell? ⟨w.heap.size, 4, none⟩ = some (.int .u64 p.sd) ∧ W.cell? ⟨w.heap.size, 5, none⟩ = some (.int .u64 p.lk) ∧ W.cell? ⟨w.heap.size, 6, none⟩ = some (.int .u64 p.en) ∧ W.cell? ⟨w.heap.size, 7, none⟩ = some (.int .i64 p.bu) ∧ W.cell? ⟨w.heap.size, 8, none⟩ = some (.int .i64 p.fu)) ∧ W.cell? ⟨g4, 7, none⟩ = some (.slice (some ⟨bq, oq, none⟩) C.m c3) ∧ (W.cell? ⟨g8, 0, none⟩ = some (.int .u64 (C.Z i).t) ∧ W.cell? ⟨g8, 1, none⟩ = some (.int .i64 (C.Z i).s) ∧ W.cell? ⟨g8, 2, none⟩ = some (.int .u64 (C.Z i).q) ∧ W.cell? ⟨g8, 3, none⟩ = some (.int .i64 (dn : Int)) ∧ W.cell? ⟨g8, 4, none⟩ = some (.int .i64 (C.Z i).k) ∧ W.cell? ⟨g8, 5, none⟩ = some (.int .i64 (C.Z i).v))) := fun W hb => by
        have hbr7 : Below wr.heap.size wr W := H8.out.2.1.trans (hb.mono H8.out.2.1.size)
        have e1 := (hbr7.block _ (lt_of_block H8.out.2.2.1)).trans H8.out.2.2.1
        have e2 := (hbr7.block _ (lt_of_block H8.out.2.2.2.1)).trans H8.out.2.2.2.1
        have e3 := (hb.block _ (lt_of_block H8.out.1)).trans H8.out.1
        have e4 : W.cell? ⟨g4, 7, none⟩ = some (.slice q3 C.m c3) := cell_in e2 rfl
        rw [hq3] at e4
        exact ⟨⟨cell_in e1 rfl, cell_in e1 rfl, cell_in e1 rfl, cell_in e1 rfl, cell_in e1 rfl, cell_in e1 rfl, cell_in e1 rfl, cell_in e1 rfl, cell_in e1 rfl⟩, e4, cell_in e3 rfl, cell_in e3 rfl, cell_in e3 rfl, cell_in e3 rfl, cell_in e3 rfl, cell_in e3 rfl⟩
      have HTR : Hid (∀ W, Below wr.heap.size wr W → ∀ j, j < C.m → W.cell? ⟨bq, oq + j * 6, none⟩ = some (.int .u64 (C.Z j).t) ∧ W.cell? ⟨bq, oq + j * 6 + 1, none⟩ = some (.int .i64 (C.Z j).s) ∧ W.cell? ⟨bq, oq + j * 6 + 2, none⟩ = some (.int .u64 (C.Z j).q)) := fun W hb j hj => by
        have h9 := SIn.six (fun j hj => (cell_below (a := ⟨bq, oq + j, none⟩) hb hlq).trans (hcq j hj)) hj
        exact ⟨h9.1, h9.2.1, h9.2.2.1⟩
      rw [hq3] at a7
      have HCA : Hid (Cause p C i ∧ AtE p C i) := ⟨hca, hat⟩
      clear hw7 hb7 hx7 hsz7 hg8 hout hrow hst hkb hbr hxp hxr hF hbw hcq hlq hq3 hca hat hdn hd0 m63 hgq
      go_upto_region 13 with fail
      rw [HW7.out, HG8.out]
      clear y0 y1 y2 y3 y4 y5 a7
      have hbd7 : Below w7.heap.size w7 w7.drew := (Below.refl _ w7).drew
      go_cut [74] from 39 to 74 (fun b wx => b = .bool false ∧ Below w7.heap.size w7 wx)
      case first =>
        have c1 : decide ((C.Z i).t ≥ p.en) = false := decide_eq_false (by have := HCA.out.1.en; omega)
        have c2 : decide (p.en ≤ (C.Z i).t) = false := decide_eq_false (by have := HCA.out.1.en; omega)
        have c3' : decide ((dn : Int) < 0) = false := decide_eq_false (by omega)
        have c4 : decide ((dn : Int) ≥ (p.nq : Int)) = false := decide_eq_false (by omega)
        have c5 : decide ((p.nq : Int) ≤ (dn : Int)) = false := decide_eq_false (by omega)
        have c6 : decide (p.nq ≤ dn) = false := decide_eq_false (by omega)
        by_cases hi0 : i = 0
        case pos =>
          have c7 : decide ((i : Int) > 0) = false := decide_eq_false (by omega)
          have c8 : decide ((0 : Int) < (i : Int)) = false := decide_eq_false (by omega)
          have c9 : decide (0 < i) = false := decide_eq_false (by omega)
          obtain ⟨⟨f0, f1, f2, f3, f4, f5, f6, f7, f8⟩, m7, b0, b1, b2, b3, b4, b5⟩ := (KC w7 (Below.refl _ _)).out
          clear hi0
          go_quiet (fail)
          go_wp2_with fail
          go_meet
          exact ⟨rfl, below_drewNq _ _ _⟩
        have c7 : decide ((i : Int) > 0) = true := decide_eq_true (by omega)
        have c8 : decide ((0 : Int) < (i : Int)) = true := decide_eq_true (by omega)
        have c9 : decide (0 < i) = true := decide_eq_true (by omega)
        obtain ⟨I, hI⟩ : ∃ I, i - 1 = I := ⟨_, rfl⟩
        have ew : IntKind.i64.wrap ((i : Int) - 1) = (I : Int) := by have := H6.out.2.2.2.1; rw [IntKind.wrap_i64]; omega
        have j0 : (0 : Int) ≤ (I : Int) := by omega
        have j1 : (I : Int) < (C.m : Int) := by omega
        have hup := HCA.out.1.up (by omega)
        rw [hI] at hup
        have hcmp := klt_cmp hup
        have HCM : ∀ W, Hid (Calls Tryz.prog 22 #[.agg #[.int .u64 (C.Z I).t, .int .i64 (C.Z I).s, .int .u64 (C.Z I).q], .agg #[.int .u64 (C.Z i).t, .int .i64 (C.Z i).s, .int .u64 (C.Z i).q]] W fun e w' => e = .returned (.int .i64 (-1)) ∧ Below W.heap.size W w') := fun W => by
          have h9 := compare_any (C.Z I).t (C.Z I).s (C.Z I).q (C.Z i).t (C.Z i).s (C.Z i).q W
          rw [hcmp] at h9
          exact h9
        have KS : ∀ W, Below w7.heap.size w7 W → ((W.cell? ⟨w.heap.size, 6, none⟩ = some (.int .u64 p.en) ∧ W.cell? ⟨w.heap.size, 2, none⟩ = some (.slice v.tp p.nq v.tc)) ∧ W.cell? ⟨g4, 7, none⟩ = some (.slice (some ⟨bq, oq, none⟩) C.m c3) ∧ (W.cell? ⟨g8, 0, none⟩ = some (.int .u64 (C.Z i).t) ∧ W.cell? ⟨g8, 1, none⟩ = some (.int .i64 (C.Z i).s) ∧ W.cell? ⟨g8, 2, none⟩ = some (.int .u64 (C.Z i).q) ∧ W.cell? ⟨g8, 3, none⟩ = some (.int .i64 (dn : Int))) ∧ W.cell? ⟨bq, oq + I * 6, none⟩ = some (.int .u64 (C.Z I).t) ∧ W.cell? ⟨bq, oq + I * 6 + 1, none⟩ = some (.int .i64 (C.Z I).s) ∧ W.cell? ⟨bq, oq + I * 6 + 2, none⟩ = some (.int .u64 (C.Z I).q)) := fun W hb => by
          obtain ⟨⟨f0, f1, f2, f3, f4, f5, f6, f7, f8⟩, m7, b0, b1, b2, b3, b4, b5⟩ := (KC W hb).out
          exact ⟨⟨f6, f2⟩, m7, ⟨b0, b1, b2, b3⟩, HTR.out W (H8.out.2.1.trans (hb.mono H8.out.2.1.size)) I (by omega)⟩
        have KP0 := KS _ hbd7
        have HCD := (HCM w7.drew).out
        clear hup hcmp hI HCM hi0
        go_region_held3 (fun W => ((W.cell? ⟨w.heap.size, 6, none⟩ = some (.int .u64 p.en) ∧ W.cell? ⟨w.heap.size, 2, none⟩ = some (.slice v.tp p.nq v.tc)) ∧ W.cell? ⟨g4, 7, none⟩ = some (.slice (some ⟨bq, oq, none⟩) C.m c3) ∧ (W.cell? ⟨g8, 0, none⟩ = some (.int .u64 (C.Z i).t) ∧ W.cell? ⟨g8, 1, none⟩ = some (.int .i64 (C.Z i).s) ∧ W.cell? ⟨g8, 2, none⟩ = some (.int .u64 (C.Z i).q) ∧ W.cell? ⟨g8, 3, none⟩ = some (.int .i64 (dn : Int))) ∧ W.cell? ⟨bq, oq + I * 6, none⟩ = some (.int .u64 (C.Z I).t) ∧ W.cell? ⟨bq, oq + I * 6 + 1, none⟩ = some (.int .i64 (C.Z I).s) ∧ W.cell? ⟨bq, oq + I * 6 + 2, none⟩ = some (.int .u64 (C.Z I).q))) (first | with_reducible exact KP0 | with_reducible exact KP1 | go_keep) (first | (go_at_call 22; (with_reducible refine HCD.mono ?_); rintro e w8 ⟨rfl, hb8'⟩; have hb8 : Below w7.heap.size w7 w8 := hbd7.trans (hb8'.mono hbd7.size); have KP1 := KS w8 hb8))
        all_goals (
          go_wp2_with fail
          go_meet
          case rel => exact ⟨rfl, hb8⟩)
      case rest =>
        obtain ⟨rfl, hb8⟩ := hcut
        obtain ⟨w8, rfl⟩ : ∃ w8, w8 = wc := ⟨_, rfl⟩
        have HB8 : Hid (Below w7.heap.size w7 w8) := hb8
        clear hb8
        go_upto_region 15 with fail
        go_cut [84] from 75 to 84 (fun b wx => b = .bool false ∧ Below w8.heap.size w8 wx)
        case first =>
          have hb78 : Below wr.heap.size wr w8 := H8.out.2.1.trans (HB8.out.mono H8.out.2.1.size)
          have hF8 := H8.out.2.2.2.2.1.below hb78
          have hO8 : SIn w8 up (outN p C.Z i) (outZ p C.Z i) := by
            exact own_sin0 (Own.later HI.out.1 hb78)
          have hon : outN p C.Z i ≤ 1000000 := by have := outN_le (p := p) HPL.out.2.2 H6.out.1 (show i ≤ C.m by omega); have := H6.out.2.2.2.1; omega
          have HA1 := at_any fq p.ns fc (evS p.S) (C.Z i) (by omega) w8 hF8
          have HA2 : ∀ W, Below w8.heap.size w8 W → Hid (Calls Tryz.prog 23 #[.slice up (outN p C.Z i) uc, .agg #[.int .u64 (C.Z i).t, .int .i64 (C.Z i).s, .int .u64 (C.Z i).q, .int .i64 (C.Z i).d, .int .i64 (C.Z i).k, .int .i64 (C.Z i).v]] W fun r w' => (∃ n : Int, r = .returned (.int .i64 n) ∧ ((∃ j, j < outN p C.Z i ∧ outZ p C.Z i j = (C.Z i)) → 0 ≤ n) ∧ (n < 0 → ∀ j, j < outN p C.Z i → outZ p C.Z i j ≠ (C.Z i))) ∧ Below W.heap.size W w') := fun W hb => at_any up (outN p C.Z i) uc (outZ p C.Z i) (C.Z i) (by omega) W (hO8.below hb)
          rw [H8.out.2.2.2.2.2.2.1] at HA1 HA2
          obtain ⟨⟨f0, f1, f2, f3, f4, f5, f6, f7, f8⟩, m7, b0, b1, b2, b3, b4, b5⟩ := (KC w8 HB8.out).out
          have KE : ∀ W, Below w8.heap.size w8 W → Hid (W.cell? ⟨g8, 0, none⟩ = some (.int .u64 (C.Z i).t) ∧ W.cell? ⟨g8, 1, none⟩ = some (.int .i64 (C.Z i).s) ∧ W.cell? ⟨g8, 2, none⟩ = some (.int .u64 (C.Z i).q) ∧ W.cell? ⟨g8, 3, none⟩ = some (.int .i64 (dn : Int)) ∧ W.cell? ⟨g8, 4, none⟩ = some (.int .i64 (C.Z i).k) ∧ W.cell? ⟨g8, 5, none⟩ = some (.int .i64 (C.Z i).v)) := fun W hb => (KC W (HB8.out.trans (hb.mono HB8.out.size))).out.2.2
          clear hO8 hF8 hb78 f0 f1 f2 f3 f4 f5 f6 f7 f8 m7
          go_wp2_with (first | (go_at_call 23; (with_reducible refine HA1.mono ?_); rintro e y1 ⟨⟨n1, rfl, hn1, hn1'⟩, hby1⟩; clear b0 b1 b2 b3 b4 b5; obtain ⟨b0, b1, b2, b3, b4, b5⟩ := (KE y1 hby1).out; obtain ⟨bb1, hbb1⟩ : ∃ bb, decide (n1 < 0) = bb := ⟨_, rfl⟩; cases bb1) | (go_at_call 23; (with_reducible refine (HA2 y1 hby1).out.mono ?_); rintro e y2 ⟨⟨n2, rfl, hn2, hn2'⟩, hby2⟩; have hbb2 : decide (n2 < 0) = false := (by refine decide_eq_false ?_; have hlt1 : n1 < 0 := of_decide_eq_true hbb1; rcases HCA.out.1.src with ⟨j, hj, he⟩ | ⟨j, hj, he⟩; exact absurd he.symm (fun e9 => hn1' hlt1 j hj e9.symm); have := hn2 ⟨j, hj, he⟩; omega)))
          all_goals (
            go_meet
            case rel => exact ⟨rfl, by first | exact hby1.trans (hby2.mono hby1.size) | exact hby1⟩)
        case rest =>
          obtain ⟨rfl, hb9⟩ := hcut
          obtain ⟨wq, rfl⟩ : ∃ wq, wq = wc := ⟨_, rfl⟩
          have hb7q : Below w7.heap.size w7 wq := HB8.out.trans (hb9.mono HB8.out.size)
          have hbrq : Below wr.heap.size wr wq := H8.out.2.1.trans (hb7q.mono H8.out.2.1.size)
          obtain ⟨i1', i2, i3, i4, i5⟩ := HI.out
          obtain ⟨s1, s2, s3, s4, s5, s6⟩ := i3 dn hdq
          have hat := HCA.out.2
          have hdn := H8.out.2.2.2.2.2.2.2
          have hd0 := H8.out.2.2.2.2.2.2.1
          obtain ⟨E, hE⟩ : ∃ E, efN p C.Z i = E := ⟨_, rfl⟩
          have hpr := hat.pr
          have hokc := hat.ok
          have ha64 := hat.a64
          have hwd := hat.wd
          have hdc := hat.dc
          have hsn := hat.sn
          have heo := hat.eo
          have hpg : pgA p (C.Z i) = p.P (p.pr dn).toNat := by unfold pgA; rw [hdn]
          have hE1 : efS p (C.Z i) (stP p C.Z (C.Z i).d.toNat i) = E := hE
          rw [hE1] at heo
          rw [hdn] at hpr hwd hdc hsn heo
          rw [hpg] at ha64 heo
          obtain ⟨pn, hpn⟩ : ∃ pn : Nat, p.pr dn = (pn : Int) := ⟨(p.pr dn).toNat, by omega⟩
          have hpn2 : (p.pr dn).toNat = pn := by omega
          rw [hpn2] at ha64 heo hpr hpg
          have hE2 : effP (p.P pn) (clA p (C.Z i)) (p.nw dn) (stP p C.Z dn i).1 (stP p C.Z dn i).2.1 (stP p C.Z dn i).2.2 = E := by
            rw [← hE1]
            unfold efS
            rw [hpg, hdn]
          have HRUN : ∀ W, Below wq.heap.size wq W → Hid (Calls Tryz.prog 19 #[.agg #[.int .i64 p.ki, .slice v.pp p.np v.pc, .slice v.tp p.nq v.tc, .slice v.sp p.ns v.sc, .int .u64 p.sd, .int .u64 p.lk, .int .u64 p.en, .int .i64 p.bu, .int .i64 p.fu], .agg #[.int .u64 (C.Z i).t, .int .i64 (C.Z i).s, .int .u64 (C.Z i).q, .int .i64 (dn : Int), .int .i64 (C.Z i).k, .int .i64 (C.Z i).v], .agg #[.slice (B dn).p (p.nw dn) (B dn).c, .int .u64 (stP p C.Z dn i).2.1, .int .u64 (stP p C.Z dn i).2.2]] W fun r w' => ∃ (wp : Option Addr) (wc : Nat) (ou : Option Addr) (oc : Nat), r = .returned (.agg #[.int .i64 E.code, .slice wp E.nw wc, .int .u64 E.dice, .int .u64 E.sent, .slice ou E.on oc, .int .i64 E.used]) ∧ Own w' W.heap.size 2 1 (.slice wp E.nw wc) E.nw (iv E.wd) ∧ Own w' W.heap.size 39 6 (.slice ou E.on oc) E.on E.oF ∧ Below W.heap.size W w') := fun W hb => by
            have hbW : Below wr.heap.size wr W := hbrq.trans (hb.mono hbrq.size)
            have hb9' : Below w.heap.size w W := H8.out.2.2.2.2.2.1.trans (hbW.mono H8.out.2.2.2.2.2.1.size)
            exact hrun_any p v W (HPL.out.1.below hb9') (C.Z i) dn pn hd0 hdq hpn hpr.1 (B dn).p (p.nw dn) (B dn).c (stP p C.Z dn i).1 (stP p C.Z dn i).2.1 (stP p C.Z dn i).2.2 ⟨s4.below hbW, s5, HPL.out.2.1.nw dn hdq, hokc, hwd, hdc, hsn⟩ ha64 E hE2
          have hrq : ARow wq w5.heap.size gst p.nq sc B := Own.later i2 hbrq
          have KS : ∀ W, Below wq.heap.size wq W → ((W.cell? ⟨w.heap.size, 0, none⟩ = some (.int .i64 p.ki) ∧ W.cell? ⟨w.heap.size, 1, none⟩ = some (.slice v.pp p.np v.pc) ∧ W.cell? ⟨w.heap.size, 2, none⟩ = some (.slice v.tp p.nq v.tc) ∧ W.cell? ⟨w.heap.size, 3, none⟩ = some (.slice v.sp p.ns v.sc) ∧ W.cell? ⟨w.heap.size, 4, none⟩ = some (.int .u64 p.sd) ∧ W.cell? ⟨w.heap.size, 5, none⟩ = some (.int .u64 p.lk) ∧ W.cell? ⟨w.heap.size, 6, none⟩ = some (.int .u64 p.en) ∧ W.cell? ⟨w.heap.size, 7, none⟩ = some (.int .i64 p.bu) ∧ W.cell? ⟨w.heap.size, 8, none⟩ = some (.int .i64 p.fu)) ∧ (W.cell? ⟨g8, 0, none⟩ = some (.int .u64 (C.Z i).t) ∧ W.cell? ⟨g8, 1, none⟩ = some (.int .i64 (C.Z i).s) ∧ W.cell? ⟨g8, 2, none⟩ = some (.int .u64 (C.Z i).q) ∧ W.cell? ⟨g8, 3, none⟩ = some (.int .i64 (dn : Int)) ∧ W.cell? ⟨g8, 4, none⟩ = some (.int .i64 (C.Z i).k) ∧ W.cell? ⟨g8, 5, none⟩ = some (.int .i64 (C.Z i).v)) ∧ W.cell? ⟨gst, dn * 3, none⟩ = some (.slice (B dn).p (p.nw dn) (B dn).c) ∧ W.cell? ⟨gst, dn * 3 + 1, none⟩ = some (.int .u64 (stP p C.Z dn i).2.1) ∧ W.cell? ⟨gst, dn * 3 + 2, none⟩ = some (.int .u64 (stP p C.Z dn i).2.2)) := fun W hb => by
            have h9 := (KC W (hb7q.trans (hb.mono hb7q.size))).out
            obtain ⟨t0, t1, t2⟩ := ARow.cells (Own.later hrq hb) hdq
            rw [s1] at t0
            rw [s2] at t1
            rw [s3] at t2
            exact ⟨h9.1, h9.2.2, t0, t1, t2⟩
          have j0 : (0 : Int) ≤ (dn : Int) := by omega
          have j1 : (dn : Int) < (p.nq : Int) := by omega
          have HEO : Hid (E.nw = p.nw dn ∧ efN p C.Z i = E ∧ EOk (p.P pn) (clA p (C.Z i)) (stP p C.Z dn i).2.2 (p.nw dn) E) := ⟨heo.nw, hE, heo⟩
          have HQ : Hid (Below wr.heap.size wr wq ∧ Below w7.heap.size w7 wq) := ⟨hbrq, hb7q⟩
          clear hat hokc ha64 hwd hdc hsn heo hpg hpr hE hE1 hE2 hpn hpn2 hdn hd0 hb9 hb7q hbrq i1' i2 i3 i4 i5 s1 s2 s3 s4 s5 s6 hrq
          obtain ⟨iF, hF1, hF2, hF3, hF4⟩ := sinfo infoEF
          have hbdq : Below wq.heap.size wq wq.drew := (Below.refl _ wq).drew
          go_upto_region 17 with fail
          go_cut [9] from 85 to 92 (fun x8 wx => ∃ (fb : Nat) (wp : Option Addr) (wc : Nat) (ou : Option Addr) (oc bw : Nat), x8 = .pointer (some ⟨fb, 0, none⟩) ∧ wx.heap[fb]? = some (.cells #[.int .i64 E.code, .slice wp E.nw wc, .int .u64 E.dice, .int .u64 E.sent, .slice ou E.on oc, .int .i64 E.used] 48 (0, 0)) ∧ Own wx bw 2 1 (.slice wp E.nw wc) E.nw (iv E.wd) ∧ Own wx bw 39 6 (.slice ou E.on oc) E.on E.oF ∧ Below wq.heap.size wq wx ∧ wq.heap.size ≤ bw ∧ wq.heap.size ≤ fb)
          case first =>
            refine wp_region_held_drew (S := fun W9 => Below wq.heap.size wq W9) (by kernel_rfl) hbdq (fun hHeld => ?_)
            have hS0 : Below wq.heap.size wq wq.drew := hHeld
            refine wpAnyH_take (i := 0) (v := ?hv0a) rfl (by kernel_rfl) (by kernel_rfl) (by kernel_rfl) (fun _ _ _ h => h) (Or.inl ⟨by rfl, ?hy0a⟩) (by assumption) ?hr0a
            case hy0a => ((intro W9 hSw; obtain ⟨⟨f0, f1, f2, f3, f4, f5, f6, f7, f8⟩, ⟨y0, y1, y2, y3, y4, y5⟩, b0, b1, b2⟩ := KS W9 hSw; go_simp); try with_reducible rfl)
            simp only [List.getElem_toArray, List.getElem_cons_zero, List.getElem_cons_succ, Act.put, List.setIfInBounds_toArray, List.set_cons_zero, List.set_cons_succ]
            refine wpAnyH_take (i := 1) (v := ?hv1a) rfl (by kernel_rfl) (by kernel_rfl) (by kernel_rfl) (fun _ _ _ h => h) (Or.inl ⟨by rfl, ?hy1a⟩) (by assumption) ?hr1a
            case hy1a => ((intro W9 hSw; obtain ⟨⟨f0, f1, f2, f3, f4, f5, f6, f7, f8⟩, ⟨y0, y1, y2, y3, y4, y5⟩, b0, b1, b2⟩ := KS W9 hSw; go_simp); try with_reducible rfl)
            simp only [List.getElem_toArray, List.getElem_cons_zero, List.getElem_cons_succ, Act.put, List.setIfInBounds_toArray, List.set_cons_zero, List.set_cons_succ]
            refine wpAnyH_take (i := 2) (v := ?hv2a) rfl (by kernel_rfl) (by kernel_rfl) (by kernel_rfl) (fun _ _ _ h => h) (Or.inl ⟨by rfl, ?hy2a⟩) (by assumption) ?hr2a
            case hy2a => ((intro W9 hSw; obtain ⟨⟨f0, f1, f2, f3, f4, f5, f6, f7, f8⟩, ⟨y0, y1, y2, y3, y4, y5⟩, b0, b1, b2⟩ := KS W9 hSw; go_simp); try with_reducible rfl)
            simp only [List.getElem_toArray, List.getElem_cons_zero, List.getElem_cons_succ, Act.put, List.setIfInBounds_toArray, List.set_cons_zero, List.set_cons_succ]
            refine wpAnyH_take (i := 3) (v := ?hv3a) rfl (by kernel_rfl) (by kernel_rfl) (by kernel_rfl) (fun _ _ _ h => h) (Or.inl ⟨by rfl, ?hy3a⟩) (by assumption) ?hr3a
            case hy3a => ((intro W9 hSw; obtain ⟨⟨f0, f1, f2, f3, f4, f5, f6, f7, f8⟩, ⟨y0, y1, y2, y3, y4, y5⟩, b0, b1, b2⟩ := KS W9 hSw; go_simp); try with_reducible rfl)
            simp only [List.getElem_toArray, List.getElem_cons_zero, List.getElem_cons_succ, Act.put, List.setIfInBounds_toArray, List.set_cons_zero, List.set_cons_succ]
            refine wpAnyH_take (i := 4) (v := ?hv4a) rfl (by kernel_rfl) (by kernel_rfl) (by kernel_rfl) (fun _ _ _ h => h) (Or.inl ⟨by rfl, ?hy4a⟩) (by assumption) ?hr4a
            case hy4a => ((intro W9 hSw; obtain ⟨⟨f0, f1, f2, f3, f4, f5, f6, f7, f8⟩, ⟨y0, y1, y2, y3, y4, y5⟩, b0, b1, b2⟩ := KS W9 hSw; go_simp); try with_reducible rfl)
            simp only [List.getElem_toArray, List.getElem_cons_zero, List.getElem_cons_succ, Act.put, List.setIfInBounds_toArray, List.set_cons_zero, List.set_cons_succ]
            refine wpAnyH_take (i := 5) (v := ?hv5a) rfl (by kernel_rfl) (by kernel_rfl) (by kernel_rfl) (fun _ _ _ h => h) (Or.inl ⟨by rfl, ?hy5a⟩) (by assumption) ?hr5a
            case hy5a => ((intro W9 hSw; obtain ⟨⟨f0, f1, f2, f3, f4, f5, f6, f7, f8⟩, ⟨y0, y1, y2, y3, y4, y5⟩, b0, b1, b2⟩ := KS W9 hSw; go_simp); try with_reducible rfl)
            simp only [List.getElem_toArray, List.getElem_cons_zero, List.getElem_cons_succ, Act.put, List.setIfInBounds_toArray, List.set_cons_zero, List.set_cons_succ]
            refine wpAnyH_take (i := 6) (v := ?hv6a) rfl (by kernel_rfl) (by kernel_rfl) (by kernel_rfl) (fun _ _ _ h => h) (Or.inl ⟨by rfl, ?hy6a⟩) (by assumption) ?hr6a
            case hy6a => ((intro W9 hSw; obtain ⟨⟨f0, f1, f2, f3, f4, f5, f6, f7, f8⟩, ⟨y0, y1, y2, y3, y4, y5⟩, b0, b1, b2⟩ := KS W9 hSw; go_simp); try with_reducible rfl)
            simp only [List.getElem_toArray, List.getElem_cons_zero, List.getElem_cons_succ, Act.put, List.setIfInBounds_toArray, List.set_cons_zero, List.set_cons_succ]
            refine wpAnyH_ready (rs := [7, 8]) (by kernel_rfl) (by simp) (AllReadyH.cons rfl (fun KK9 hK => ?_) (AllReadyH.cons rfl (fun KK9 hK => ?_) AllReadyH.nil))
            all_goals dsimp -proj only [List.getElem_toArray, List.getElem_cons_zero, List.getElem_cons_succ]
            · go_simp
              go_at_call 19
              refine (HRUN wq.drew hS0).out.mono ?_
              rintro e x7 ⟨wp, wc, ou, oc, rfl, o17, o27, hb7⟩
              try go_wp2_with fail
              have hs7 : Below wq.heap.size wq x7 := hS0.trans (hb7.mono hS0.size)
              refine hK.out _ _ hs7 (fun hHeld => ?_)
              clear hK KK9
              try simp only [Act.put, List.setIfInBounds_toArray, List.set_cons_zero, List.set_cons_succ]
              refine wpAnyH_ready (rs := [8]) (by kernel_rfl) (by simp) (AllReadyH.cons rfl (fun KK9 hK => ?_) AllReadyH.nil)
              all_goals dsimp -proj only [List.getElem_toArray, List.getElem_cons_zero, List.getElem_cons_succ]
              · refine step_alloc_row rfl 48 rfl iF _ hF1 hF2 ?_
                obtain ⟨x8, hw8⟩ : ∃ x, (x7).alloc (.cells #[.int .i64 0, .slice none 0 0, .int .u64 0, .int .u64 0, .slice none 0 0, .int .i64 0] 48) = x := ⟨_, rfl⟩
                obtain ⟨hb8, hm8, hz8⟩ := boxed _ _ _ hw8
                have hs8 : Below wq.heap.size wq x8 := hs7.trans (hb8.mono hs7.size)
                have hfl8 : wq.heap.size ≤ (x7).heap.size := hs7.size
                have p18 := Own.later o17 hb8
                have p28 := Own.later o27 hb8
                show KK9 _ ((x7).alloc (.cells #[.int .i64 0, .slice none 0 0, .int .u64 0, .int .u64 0, .slice none 0 0, .int .i64 0] 48))
                rw [hw8]
                clear hw8
                refine hK.out _ _ hs8 (fun hHeld => ?_)
                clear hK KK9
                try simp only [Act.put, List.setIfInBounds_toArray, List.set_cons_zero, List.set_cons_succ]
                refine wpAnyH_ready (rs := [9]) (by kernel_rfl) (by simp) (AllReadyH.cons rfl (fun KK9 hK => ?_) AllReadyH.nil)
                all_goals dsimp -proj only [List.getElem_toArray, List.getElem_cons_zero, List.getElem_cons_succ]
                · refine step_store_row rfl 48 _ _ rfl (x7).heap.size _ rfl rfl 48 _ hm8 (by kernel_rfl) rfl (by kernel_rfl) ?_
                  obtain ⟨x9, hw9⟩ : ∃ x, (x8).setRow (x7).heap.size #[.int .i64 E.code, .slice wp E.nw wc, .int .u64 E.dice, .int .u64 E.sent, .slice ou E.on oc, .int .i64 E.used] = x := ⟨_, rfl⟩
                  have hm9 : x9.heap[(x7).heap.size]? = some (.cells #[.int .i64 E.code, .slice wp E.nw wc, .int .u64 E.dice, .int .u64 E.sent, .slice ou E.on oc, .int .i64 E.used] 48 (0, 0)) := by
                    rw [← hw9]
                    exact setRow_heap _ _ _ _ _ _ hm8
                  have hs9 : Below wq.heap.size wq x9 := by
                    rw [← hw9]
                    exact setRow_below _ hs8 hfl8
                  have r19 := Own.far (W' := x9) p18 fun k9 e9 => by
                    rw [← hw9]
                    refine setRow_far _ _ _ _ fun e8 => ?_
                    subst e8
                    have h1 := (Own.lt o17 _ e9).2
                    omega
                  have r29 := Own.far (W' := x9) p28 fun k9 e9 => by
                    rw [← hw9]
                    refine setRow_far _ _ _ _ fun e8 => ?_
                    subst e8
                    have h1 := (Own.lt o27 _ e9).2
                    omega
                  rw [hw9]
                  clear hw9
                  refine hK.out _ _ hs9 (fun hHeld => ?_)
                  clear hK KK9
                  try simp only [Act.put, List.setIfInBounds_toArray, List.set_cons_zero, List.set_cons_succ]
                  refine wpAnyH_done (by kernel_rfl) ?_ _
                  go_wp2_with fail
                  go_meet
                  case rel =>
                    exact ⟨(x7).heap.size, wp, wc, ou, oc, wq.drew.heap.size, rfl, hm9, r19, r29, hs9, hS0.size, hfl8⟩
            · refine step_alloc_row rfl 48 rfl iF _ hF1 hF2 ?_
              obtain ⟨x10, hw10⟩ : ∃ x, (wq.drew).alloc (.cells #[.int .i64 0, .slice none 0 0, .int .u64 0, .int .u64 0, .slice none 0 0, .int .i64 0] 48) = x := ⟨_, rfl⟩
              obtain ⟨hb10, hm10, hz10⟩ := boxed _ _ _ hw10
              have hs10 : Below wq.heap.size wq x10 := hS0.trans (hb10.mono hS0.size)
              have hfl10 : wq.heap.size ≤ (wq.drew).heap.size := hS0.size
              show KK9 _ ((wq.drew).alloc (.cells #[.int .i64 0, .slice none 0 0, .int .u64 0, .int .u64 0, .slice none 0 0, .int .i64 0] 48))
              rw [hw10]
              clear hw10
              refine hK.out _ _ hs10 (fun hHeld => ?_)
              clear hK KK9
              try simp only [Act.put, List.setIfInBounds_toArray, List.set_cons_zero, List.set_cons_succ]
              refine wpAnyH_ready (rs := [7]) (by kernel_rfl) (by simp) (AllReadyH.cons rfl (fun KK9 hK => ?_) AllReadyH.nil)
              all_goals dsimp -proj only [List.getElem_toArray, List.getElem_cons_zero, List.getElem_cons_succ]
              · go_simp
                go_at_call 19
                refine (HRUN x10 hs10).out.mono ?_
                rintro e x11 ⟨wp, wc, ou, oc, rfl, o111, o211, hb11⟩
                try go_wp2_with fail
                have hs11 : Below wq.heap.size wq x11 := hs10.trans (hb11.mono hs10.size)
                have hm11 := (hb11.block _ (lt_of_block hm10)).trans hm10
                have hno11 : (wq.drew).heap.size < x10.heap.size := lt_of_block hm10
                refine hK.out _ _ hs11 (fun hHeld => ?_)
                clear hK KK9
                try simp only [Act.put, List.setIfInBounds_toArray, List.set_cons_zero, List.set_cons_succ]
                refine wpAnyH_ready (rs := [9]) (by kernel_rfl) (by simp) (AllReadyH.cons rfl (fun KK9 hK => ?_) AllReadyH.nil)
                all_goals dsimp -proj only [List.getElem_toArray, List.getElem_cons_zero, List.getElem_cons_succ]
                · refine step_store_row rfl 48 _ _ rfl (wq.drew).heap.size _ rfl rfl 48 _ hm11 (by kernel_rfl) rfl (by kernel_rfl) ?_
                  obtain ⟨x12, hw12⟩ : ∃ x, (x11).setRow (wq.drew).heap.size #[.int .i64 E.code, .slice wp E.nw wc, .int .u64 E.dice, .int .u64 E.sent, .slice ou E.on oc, .int .i64 E.used] = x := ⟨_, rfl⟩
                  have hm12 : x12.heap[(wq.drew).heap.size]? = some (.cells #[.int .i64 E.code, .slice wp E.nw wc, .int .u64 E.dice, .int .u64 E.sent, .slice ou E.on oc, .int .i64 E.used] 48 (0, 0)) := by
                    rw [← hw12]
                    exact setRow_heap _ _ _ _ _ _ hm11
                  have hs12 : Below wq.heap.size wq x12 := by
                    rw [← hw12]
                    exact setRow_below _ hs11 hfl10
                  have r112 := Own.far (W' := x12) o111 fun k9 e9 => by
                    rw [← hw12]
                    refine setRow_far _ _ _ _ fun e8 => ?_
                    subst e8
                    have h1 := (Own.lt o111 _ e9).1
                    have h2 := hno11
                    omega
                  have r212 := Own.far (W' := x12) o211 fun k9 e9 => by
                    rw [← hw12]
                    refine setRow_far _ _ _ _ fun e8 => ?_
                    subst e8
                    have h1 := (Own.lt o211 _ e9).1
                    have h2 := hno11
                    omega
                  rw [hw12]
                  clear hw12
                  refine hK.out _ _ hs12 (fun hHeld => ?_)
                  clear hK KK9
                  try simp only [Act.put, List.setIfInBounds_toArray, List.set_cons_zero, List.set_cons_succ]
                  refine wpAnyH_done (by kernel_rfl) ?_ _
                  go_wp2_with fail
                  go_meet
                  case rel =>
                    exact ⟨(wq.drew).heap.size, wp, wc, ou, oc, x10.heap.size, rfl, hm12, r112, r212, hs12, hs10.size, hfl10⟩
          case rest =>
            obtain ⟨fb, wp, wc', ou, oc, bw, rfl, hfx, ho1, ho2, hbc, hbw, hfb⟩ := hcut
            obtain ⟨wx, rfl⟩ : ∃ wx, wx = wc := ⟨_, rfl⟩
            obtain ⟨g1, g2, g3⟩ := HEO.out
            obtain ⟨i1', i2, i3, i4, i5⟩ := HI.out
            rw [g1] at hfx ho1
            have hbrx : Below wr.heap.size wr wx := HQ.out.1.trans (hbc.mono HQ.out.1.size)
            have hb7x : Below w7.heap.size w7 wx := HQ.out.2.trans (hbc.mono HQ.out.2.size)
            have hrx : ARow wx w5.heap.size gst p.nq sc B := Own.later i2 hbrx
            obtain ⟨t0, t1, t2⟩ := hrx.cells hdq
            have l0 := hrx.fz (dn * 3)
            have l1 := hrx.fz (dn * 3 + 1)
            have l2 := hrx.fz (dn * 3 + 2)
            have v1 : wx.cell? ⟨fb, 1, none⟩ = some (.slice wp (p.nw dn) wc') := cell_in hfx rfl
            have v2 : wx.cell? ⟨fb, 2, none⟩ = some (.int .u64 E.dice) := cell_in hfx rfl
            have v3 : wx.cell? ⟨fb, 3, none⟩ = some (.int .u64 E.sent) := cell_in hfx rfl
            obtain ⟨f0, f1, f2, f3, f4, f5, f6, f7, f8⟩ := (KC wx hb7x).out.1
            obtain ⟨b0, b1, b2, b3, b4, b5⟩ := (KC wx hb7x).out.2.2
            have hgl := Own.lt i2 gst rfl
            obtain ⟨w10, hw10⟩ : ∃ w10, wx.setCells gst (dn * 3) (saL ⟨wp, p.nw dn, wc', E.dice, E.sent⟩) = w10 := ⟨_, rfl⟩
            have HW10 : Hid (((wx.setCell ⟨gst, dn * 3, none⟩ (.slice wp (p.nw dn) wc')).setCell ⟨gst, dn * 3 + 1, none⟩ (.int .u64 E.dice)).setCell ⟨gst, dn * 3 + 2, none⟩ (.int .u64 E.sent) = w10) := hw10
            have hk10 : Kb (fun k => k = gst) wx w10 := by rw [← hw10]; exact kb_sets _ _ _ _ _ rfl
            have hr10 : ARow w10 w5.heap.size gst p.nq sc (setS B dn ⟨wp, p.nw dn, wc', E.dice, E.sent⟩) := by rw [← hw10]; exact hrx.put dn _
            have hb10 : ∀ b w0, Below b w0 wx → b ≤ gst → Below b w0 w10 := fun b w0 h9 hle => by
              rw [← hw10]
              exact ((h9.setCell (p := ⟨gst, dn * 3, none⟩) hle _).setCell (p := ⟨gst, dn * 3 + 1, none⟩) hle _).setCell (p := ⟨gst, dn * 3 + 2, none⟩) hle _
            have hzx := hbrx.size
            have hzq := hbc.size
            have hzr := HQ.out.1.size
            have hs10 : wx.heap.size ≤ w10.heap.size := hk10.size
            have hx10 := (hk10.block fb (lt_of_block hfx) (by omega)).trans hfx
            have hev10 : Own w10 bw 39 6 (.slice ou E.on oc) E.on (seF (outS E)) := Own.congr (Own.far ho2 fun k hk => hk10.block k (Own.lt ho2 k hk).2 (by have := (Own.lt ho2 k hk).1; show ¬ k = gst; omega)) fun j hj => g3.outF j hj
            have hwd10 : Own w10 bw 2 1 (.slice wp (p.nw dn) wc') (p.nw dn) (iv E.wd) := Own.far ho1 fun k hk => hk10.block k (Own.lt ho1 k hk).2 (by have := (Own.lt ho1 k hk).1; show ¬ k = gst; omega)
            have hout10 : Own w10 w6.heap.size 39 6 (.slice up (outN p C.Z i) uc) (outN p C.Z i) (seF (outZ p C.Z i)) := Own.far (Own.later i1' hbrx) fun k hk => hk10.block k (Nat.lt_of_lt_of_le (Own.lt i1' k hk).2 hzx) (by have h1 := (Own.lt i1' k hk).1; have h2 := Own.lt H7.out.1 gst rfl; show ¬ k = gst; omega)
            have hst : ∀ j, stP p C.Z j (i + 1) = if j = dn then (E.wd, E.dice, E.sent) else stP p C.Z j i := fun j => by
              have h9 := H8.out.2.2.2.2.2.2.2
              show (if (C.Z i).d.toNat = j then ((efS p (C.Z i) (stP p C.Z j i)).wd, (efS p (C.Z i) (stP p C.Z j i)).dice, (efS p (C.Z i) (stP p C.Z j i)).sent) else stP p C.Z j i) = _
              rw [h9]
              by_cases e : j = dn
              · have e8 : efS p (C.Z i) (stP p C.Z j i) = E := by rw [e, ← g2]; unfold efN; rw [h9]
                rw [if_pos e.symm, if_pos e, e8]
              · rw [if_neg (fun e9 => e e9.symm), if_neg e]
            have H10 : Hid (ARow w10 w5.heap.size gst p.nq sc (setS B dn ⟨wp, p.nw dn, wc', E.dice, E.sent⟩) ∧ Own w10 bw 39 6 (.slice ou E.on oc) E.on (seF (outS E)) ∧ Own w10 bw 2 1 (.slice wp (p.nw dn) wc') (p.nw dn) (iv E.wd) ∧ Own w10 w6.heap.size 39 6 (.slice up (outN p C.Z i) uc) (outN p C.Z i) (seF (outZ p C.Z i)) ∧ w10.heap[fb]? = some (.cells #[.int .i64 E.code, .slice wp (p.nw dn) wc', .int .u64 E.dice, .int .u64 E.sent, .slice ou E.on oc, .int .i64 E.used] 48 (0, 0)) ∧ Kb (fun k => k = gst) wx w10 ∧ Below w5.heap.size w6 w10 ∧ Below wr.heap.size wr wx ∧ wr.heap.size < bw ∧ w5.heap.size ≤ gst) := ⟨hr10, hev10, hwd10, hout10, hx10, hk10, hb10 _ _ (i5.trans (hbrx.mono (by have := i5.size; have := H7.out.2.2; omega))) hgl.1, hbrx, by have := (lt_of_block H8.out.1); have := HG8.out; have := HQ.out.2.size; omega, hgl.1⟩
            have HST : Hid (∀ j, stP p C.Z j (i + 1) = if j = dn then (E.wd, E.dice, E.sent) else stP p C.Z j i) := hst
            have KC10 : ∀ W, Below w10.heap.size w10 W → Hid (W.cell? ⟨w.heap.size, 5, none⟩ = some (.int .u64 p.lk) ∧ (W.cell? ⟨g8, 0, none⟩ = some (.int .u64 (C.Z i).t) ∧ W.cell? ⟨g8, 3, none⟩ = some (.int .i64 (dn : Int))) ∧ W.cell? ⟨fb, 4, none⟩ = some (.slice ou E.on oc)) := fun W hb => by
              have n1 : w.heap.size ≠ gst := by have := H6.out.2.2.2.2.1.2; omega
              have n2 : g8 ≠ gst := by have := HG8.out; omega
              have e1 := (hb.block w.heap.size (by have := H6.out.2.2.2.2.1.2; have := H7.out.2.2; have := i4.size; omega)).trans (hk10.block w.heap.size (by have := H6.out.2.2.2.2.1.2; have := H7.out.2.2; have := i4.size; omega) n1)
              have hg8x : g8 < wx.heap.size := Nat.lt_of_lt_of_le (lt_of_block H8.out.1) hb7x.size
              have e2 := (hb.block g8 (by omega)).trans (hk10.block g8 hg8x n2)
              have e3 := (hb.block fb (lt_of_block hx10)).trans hx10
              exact ⟨(World.cell?_of_block e1).trans f5, ⟨(World.cell?_of_block e2).trans b0, (World.cell?_of_block e2).trans b3⟩, cell_in e3 rfl⟩
            clear g1 g2 g3 i1' i2 i3 i4 i5 hfx ho1 ho2 hbc hbw hfb hbrx hb7x hrx hgl hw10 hk10 hr10 hb10 hzx hzq hzr hs10 hx10 hev10 hwd10 hout10 hst f0 f1 f2 f3 f4 f5 f6 f7 f8 b0 b1 b2 b4 b5 KS
            go_upto_region 19 with fail
            rw [HW10.out]
            clear v1 v2 v3 t0 t1 t2 l0 l1 l2 b3
            go_wp2_with fail
            obtain ⟨wo, rfl⟩ : ∃ wo, wo = wr := ⟨_, rfl⟩
            go_loopw [10] (fun v10 wr => ∃ k : Nat, v10 = .int .i64 (k : Int) ∧ k ≤ E.on ∧ Below w10.heap.size w10 wr) (fun v10 _ => E.on - (intOf v10).toNat)
            case atStart => exact ⟨0, rfl, Nat.zero_le _, Below.refl _ _⟩
            case round =>
              obtain ⟨k, rfl, hk, hbk⟩ := hrel
              obtain ⟨kf5, ⟨kb0, kb3⟩, kv4⟩ := (KC10 wr hbk).out
              have hon16 := HEO.out.2.2.on
              by_cases hlk2 : k < E.on
              case pos =>
                have dk1 : decide ((k : Int) < (E.on : Int)) = true := decide_eq_true (by omega)
                have dk2 : decide (k < E.on) = true := decide_eq_true hlk2
                have k0 : (0 : Int) ≤ (k : Int) := by omega
                have k1 : (k : Int) < (E.on : Int) := by omega
                have ek : IntKind.i64.wrap ((k : Int) + 1) = (k : Int) + 1 := by rw [IntKind.wrap_i64]; omega
                have HMk := meas hlk2
                obtain hz | ⟨bo, oo, hou, hlo, hco⟩ := own_sin0 (Own.later H10.out.2.1 hbk)
                · omega
                obtain ⟨o0, o1, o2, o3, o4, o5⟩ := SIn.six hco hlk2
                rw [hou] at kv4
                have hcs := HCA.out.1.out k (by rw [HEO.out.2.1]; exact hlk2)
                rw [HEO.out.2.1, H8.out.2.2.2.2.2.2.1] at hcs
                rw [hcs.1] at o1
                obtain ⟨D9, _, _, _, r0, _, _, _, _, _, _, _, _, _, r11, r12⟩ := HEO.out.2.2.ev k hlk2
                have ht0 : 0 ≤ (C.Z i).t := HCA.out.2.ok.time.1
                have ht1 : (outS E k).t ≤ 18446744073709551615 := by
                  have e9 : (outS E k).t = (C.Z i).t + D9 := by unfold outS; rw [r0]; rfl
                  rw [e9]; exact r12
                have eu : IntKind.u64.wrap ((outS E k).t - (C.Z i).t) = (outS E k).t - (C.Z i).t := by simp only [IntKind.wrap, IntKind.bits, IntKind.signed]; simp; omega
                have x1 : ((dn : Int) != (dn : Int)) = false := by simp
                have x2 : decide ((outS E k).t < (C.Z i).t) = false := decide_eq_false (by omega)
                have x3 : decide ((outS E k).t - (C.Z i).t < p.lk) = false := decide_eq_false (by omega)
                have HBK : Hid (Below w10.heap.size w10 wr) := hbk
                clear hou hlo hco hcs r0 r11 r12 ht0 ht1 hbk o2 o3 o4 o5 hon16
                go_upto_region 22 with fail
                go_quiet (fail)
                go_wp2_with fail
                exact ⟨⟨k + 1, rfl, hlk2, HBK.out.trans ((below_drewNq _ wr _).mono HBK.out.size)⟩, HMk⟩
              have dk1 : decide ((k : Int) < (E.on : Int)) = false := decide_eq_false (by omega)
              have dk2 : decide (k < E.on) = false := decide_eq_false hlk2
              have hout' := Own.later H10.out.2.2.2.1 hbk
              have hons := outN_le (p := p) HPL.out.2.2 H6.out.1 (show i ≤ C.m by omega)
              have hz6 : w6.heap.size ≤ wr.heap.size := by have := H10.out.2.2.2.2.2.2.1.size; have := hbk.size; omega
              obtain ⟨v', w', hrn, a1, a2, a3⟩ := app_in wr w6.heap.size 34 (.slice up (outN p C.Z i) uc) (outN p C.Z i) (outZ p C.Z i) ou E.on oc (outS E) hout' (own_sin0 (Own.later H10.out.2.1 hbk)) (by have := H6.out.2.2.2.1; omega) hz6
              have HAP : Hid (Own w' w6.heap.size 39 6 v' (outN p C.Z i + E.on) (seF (catS (outZ p C.Z i) (outS E) (outN p C.Z i))) ∧ wr.grownBy w' (Value.slice up (outN p C.Z i) uc).ownBlock ∧ (v'.ownBlock = (Value.slice up (outN p C.Z i) uc).ownBlock ∨ v'.ownBlock = some wr.heap.size) ∧ Below w10.heap.size w10 wr) := ⟨a1, a2, a3, hbk⟩
              clear a1 a2 a3 hbk hout' hons hz6 kf5 kb0 kb3 hon16
              go_wp2_with (at_builtin; refine Lib.wpList_append_run _ rfl _ _ 34 34 rfl _ _ rfl rfl _ _ hrn ?_)
              obtain ⟨a1, a2, a3, a4⟩ := HAP.out
              obtain ⟨h1, h2, h3, h4, h5, h6, h7, h8, h9, h10⟩ := H10.out
              obtain ⟨i1', i2, i3, i4, i5⟩ := HI.out
              obtain ⟨g1, g2, g3⟩ := HEO.out
              have hst := HST.out
              have hz10 := a4.size
              have hzx := h6.size
              have hzr := h8.size
              have hu6l := Own.lt i1'
              have hkg : Kb (fun k => some k = (Value.slice up (outN p C.Z i) uc).ownBlock) wr w' := Kb.grown a2
              have hzg := hkg.size
              have hgs6 := Own.lt H7.out.1 gst rfl
              have hgw := (Own.lt i2 gst rfl).2
              have hi4 := i4.size
              have hw56 := H7.out.2.2
              have e2 : (efN p C.Z i).on = E.on := by rw [g2]
              have hN : outN p C.Z (i + 1) = outN p C.Z i + E.on := by show outN p C.Z i + (efN p C.Z i).on = _; rw [e2]
              have hZ : outZ p C.Z (i + 1) = catS (outZ p C.Z i) (outS E) (outN p C.Z i) := by
                show (fun j => if j < outN p C.Z i then outZ p C.Z i j else outS (efN p C.Z i) (j - outN p C.Z i)) = _
                rw [g2]
                rfl
              refine ⟨⟨i + 1, setS B dn ⟨wp, p.nw dn, wc', E.dice, E.sent⟩, rfl, hlm, by rw [hN, hZ]; exact a1, ?_, fun j hj => ?_, ?_, ?_⟩, HMi⟩
              · refine Own.far (Own.later h1 a4) fun k hk => hkg.block k (by have := (Own.lt h1 k hk).2; omega) fun e => ?_
                have e9 : gst = k := by injection hk
                have := (hu6l k e.symm).1
                omega
              · have kbw : ∀ g, g < w10.heap.size → some g ≠ (Value.slice up (outN p C.Z i) uc).ownBlock → w'.heap[g]? = w10.heap[g]? := fun g hg hne => (hkg.block g (by omega) hne).trans (a4.block g hg)
                rw [hst j]
                unfold setS
                by_cases e : j = dn
                · rw [if_pos e, if_pos e, e]
                  have hk9 := own_kat h3
                  refine ⟨rfl, rfl, rfl, ?_, ?_, ?_⟩
                  · rcases hk9 with q | ⟨bb, oo, e1, hl, hc⟩
                    · exact .inl q
                    · have hbb : bw ≤ bb := (Own.lt h3 bb (by rw [e1]; rfl)).1
                      refine .inr ⟨bb, oo, e1, by omega, fun j9 hj9 => (World.cell?_of_block (kbw bb hl fun e9 => ?_)).trans (hc j9 hj9)⟩
                      have := (hu6l bb e9.symm).2
                      omega
                  · intro e1
                    have e1 : wp = none := e1
                    rcases Own.form h3 with ⟨_, q2⟩ | ⟨g', c', q1, q2, q3⟩
                    · exact ⟨q2, trivial⟩
                    · injection q1 with q4 q5 q6
                      rw [e1] at q4
                      cases q4
                  · intro g o e1
                    have e1 : wp = some ⟨g, o, none⟩ := e1
                    have hbb := Own.lt h3 g (by rw [e1]; rfl)
                    refine ⟨fun e9 => ?_, fun e9 => ?_, by omega⟩
                    · have e8 : gst = g := by injection e9.symm
                      omega
                    · rcases a3 with a3 | a3
                      · rw [a3] at e9
                        have := (hu6l g e9.symm).2
                        omega
                      · rw [a3] at e9
                        injection e9 with e9
                        omega
                · rw [if_neg e, if_neg e]
                  obtain ⟨s1, s2, s3, s4, s5, s6⟩ := i3 j hj
                  refine ⟨s1, s2, s3, ?_, s5, fun g o e1 => ?_⟩
                  · rcases s4 with q | ⟨bb, oo, e1, hl, hc⟩
                    · exact .inl q
                    · obtain ⟨q1, q2, q3⟩ := s6 bb oo e1
                      refine .inr ⟨bb, oo, e1, by omega, fun j9 hj9 => (World.cell?_of_block ((kbw bb (by omega) q2).trans ((h6.block bb (by omega) fun e9 => q1 (by rw [show bb = gst from e9]; rfl)).trans (h8.block bb hl)))).trans (hc j9 hj9)⟩
                  · obtain ⟨q1, q2, q3⟩ := s6 g o e1
                    refine ⟨q1, fun e9 => ?_, by omega⟩
                    rcases a3 with a3 | a3
                    · rw [a3] at e9
                      exact q2 e9
                    · rw [a3] at e9
                      injection e9 with e9
                      omega
              · refine ⟨by omega, fun k hk hs => ?_⟩
                have hks : k < w10.heap.size := by have := i4.size; omega
                refine (hkg.block k (by omega) fun e => ?_).trans ((a4.block k hks).trans ((h6.block k (by have := i4.size; omega) fun e9 => hs (by rw [show k = gst from e9]; rfl)).trans ((h8.block k (by have := i4.size; omega)).trans (i4.block k hk hs))))
                have := (hu6l k e.symm).1
                omega
              · exact (h7.trans (a4.mono (by have := h7.size; omega))).grown a2 (by omega) (fun k hk => by have := (hu6l k hk).1; have := H7.out.2.2; omega)
    have dl1 : decide ((i : Int) < (C.m : Int)) = false := decide_eq_false (by omega)
    have dl2 : decide (i < C.m) = false := decide_eq_false hlm
    have HBW : Hid (Below w.heap.size w wr) := hbw
    clear hout hrow hst hkb hbr hxp hxr hT hF hbw
    go_wp2_with fail
    go_ret
    exact ⟨rfl, HBW.out⟩
theorem causes_law (p : Pl) (v : PlV) (w : World) (h : PlAt w p v) (hr : RoomyL p) (hok : VC p 0 → PlOk p) : Calls Tryz.prog 5 #[.agg #[.int .i64 p.ki, .slice v.pp p.np v.pc, .slice v.tp p.nq v.tc, .slice v.sp p.ns v.sc, .int .u64 p.sd, .int .u64 p.lk, .int .u64 p.en, .int .i64 p.bu, .int .i64 p.fu]] w fun e w' => e = .returned (.bool true) ∧ Below w.heap.size w w' := by
  obtain ⟨c0, hc0⟩ := VC.some p
  by_cases hz : c0 = 0
  · by_cases hbu : 150 < p.bu
    · exact causes_far p v w h c0 hc0 hz hbu
    · subst hz
      exact causes_good p v w h hr (hok hc0) hbu
  · exact causes_bad p v w h c0 hc0 hz
end Go.Proofs.YtagchghhpggnlaaGreat
