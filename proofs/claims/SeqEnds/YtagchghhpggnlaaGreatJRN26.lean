import Derived.Test.YtagchghhpggnlaaGreatJRN16
import Derived.Test.YtagchghhpggnlaaGreatJRN13
import Derived.Test.YtagchghhpggnlaaGreatJRN24a
import Derived.Test.YtagchghhpggnlaaGreatJRN20
namespace Go.Proofs.YtagchghhpggnlaaGreat
open Go.ChangeShapes Go.WideShapes Go.ChangeAt Go.RowKit
set_option linter.unusedVariables false
set_option linter.unusedSimpArgs false

/-! ### a smaller end -/
def endA (p : Pl) (e : Int) : Pl := { p with en := e }
/-- the steps whose events lie ahead of the end are steps under it too -/
theorem StepsR.ends {p : Pl} {e : Int} (hle : e ≤ p.en) {A : Ab} {n : Nat} {B : Ab} (h : StepsR p A n B) : (∀ i, A.m ≤ i → i < A.m + n → (B.Z i).t < e) → StepsR (endA p e) A n B := by
  induction h with
  | zero => exact fun _ => .zero
  | more h1 h2 ih =>
    rename_i n B C x
    intro hz
    have hm := h1.m
    rcases h2 with ⟨_, e9, _⟩ | ⟨ho, y, hy, ⟨e9, e', _⟩ | ⟨e1, _, rfl, rfl⟩⟩
    · cases e9
    · exact absurd e'.symm e9
    · refine (ih fun i h0 hi => ?_).more (x := x) (.inr ⟨?_, x, hy, .inr ⟨e1, rfl, rfl, rfl⟩⟩)
      · have := hz i h0 (by omega)
        have e2 : (nextA p B x).Z i = B.Z i := by
          show setS B.Z B.m x i = _
          unfold setS
          rw [if_neg (by omega)]
        rw [e2] at this
        exact this
      · have hx : ((nextA p B x).Z B.m).t < e := hz B.m (by omega) (by omega)
        have e2 : (nextA p B x).Z B.m = x := by
          show setS B.Z B.m x B.m = _
          unfold setS
          rw [if_pos rfl]
        rw [e2] at hx
        rintro (e3 | e3 | e3)
        · exact ho (.inl e3)
        · have h9 : e ≤ x.t := e3 x hy.1
          omega
        · exact ho (.inr (.inr e3))
theorem lst_le {M : Se → Prop} {x y : Se} (h : Lst M x) (hy : M y) : x.t ≤ y.t := by
  by_cases e : y = x
  · rw [e]; exact Int.le_refl _
  · have := (klt_iff x y).1 (h.2 y hy e)
    omega
/-- what a smaller end comes to -/
theorem end_end {p : Pl} {e : Int} (hle : e ≤ p.en) {C C' : Ab} {n : Nat} (h : EndR p (fstA p) C) (h' : EndR (endA p e) (fstA p) C') {k cd k' cd' : Int} {x x' : Se} (hr : ResK p C k cd x) (hr' : ResK (endA p e) C' k' cd' x')
    (hn : n ≤ C.m) (hlt : ∀ i, i < n → (C.Z i).t < e) (hge : n < C.m → e ≤ (C.Z n).t) :
    (C'.m = n ∧ ∀ i, i < n → C'.Z i = C.Z i) ∧
    (n < C.m ∨ k = 1 ∨ (k = 3 ∧ e ≤ x.t) → k' = 1) ∧
    (n = C.m → k = 2 → k' = 2 ∨ k' = 1) ∧
    (n = C.m → k = 3 → x.t < e → C' = C ∧ k' = k ∧ cd' = cd ∧ x' = x) ∧ (k = 1 ∨ k = 2 ∨ k = 3) := by
  obtain ⟨N, B, y, c, h1, h2, h3⟩ := h
  have hm := h1.m
  have hm0 : (fstA p).m = 0 := rfl
  have hf := steps_f (show (fstA p).f = 0 from rfl) h1
  have hC : C.m = N ∧ C.Z = B.Z := by
    rcases h2 with ⟨_, _, _, rfl⟩ | ⟨_, z, _, ⟨_, _, _, rfl⟩ | ⟨_, e9, _⟩⟩
    · exact ⟨by omega, rfl⟩
    · exact ⟨by show B.m = N; omega, rfl⟩
    · exact absurd e9 h3
  -- a point at which nothing is pending ahead of the smaller end
  have idle : ∀ (B' : Ab), StepsR p (fstA p) n B' → (∀ i, i < n → B'.Z i = C.Z i) → Idle (endA p e) B' → C' = B' ∧ k' = 1 := fun B' hB hz hi => by
    have hf' := steps_f (show (fstA p).f = 0 from rfl) hB
    have hst := hB.ends hle (fun i _ hi' => by rw [hz i (by omega)]; exact hlt i (by omega))
    have he : EndR (endA p e) (fstA p) B' := ⟨n, B', zeroE, 128, hst, .inl ⟨.inr (.inl hi), rfl, rfl, rfl⟩, by decide⟩
    obtain rfl := h'.one he
    exact ⟨rfl, (hr'.one (.inr ⟨hf', rfl, .inl ⟨hi, rfl, rfl⟩⟩)).1⟩
  by_cases hnC : n < C.m
  · obtain ⟨B', hB, hz⟩ := h1.cut n (by omega)
    obtain ⟨B1, x1, C1, j1, j2, j3⟩ := h1.pre n (by omega)
    obtain rfl := j1.one hB
    obtain ⟨B2, hB2, hz2⟩ := h1.cut (n + 1) (by omega)
    obtain rfl := j3.one hB2
    have hmB := j1.m
    have hzz : ∀ i, i < n → B1.Z i = C.Z i := fun i hi => by rw [hC.2]; exact (hz i (by omega)).symm
    have hid : Idle (endA p e) B1 := fun y9 hy9 => by
      rcases j2 with ⟨_, e9, _⟩ | ⟨_, w9, hw9, ⟨e9, e', _⟩ | ⟨_, _, rfl, rfl⟩⟩
      · cases e9
      · exact absurd e'.symm e9
      · have hZ : C.Z n = x1 := by
          rw [hC.2, hz2 n (by omega)]
          show setS B1.Z B1.m x1 n = _
          unfold setS
          rw [if_pos (by omega)]
        have := hge hnC
        rw [hZ] at this
        have := lst_le hw9 hy9
        show e ≤ y9.t
        omega
    obtain ⟨rfl, hk'⟩ := idle B1 j1 hzz hid
    refine ⟨⟨by omega, hzz⟩, fun _ => hk', (fun e9 => (by omega)), (fun e9 => (by omega)), ?_⟩
    rcases hr with ⟨_, e9, _⟩ | ⟨a9, _, ⟨_, e9, _⟩ | ⟨i9, ⟨_, e9, _⟩ | ⟨s9, _, _⟩⟩⟩
    · exact .inr (.inr e9)
    · exact .inl e9
    · exact .inr (.inl e9)
    · exfalso
      rcases h2 with ⟨ho, _, _, rfl⟩ | ⟨_, z, _, ⟨e1, _, _, rfl⟩ | ⟨_, e9, _⟩⟩
      · rcases ho with o | o | o
        · exact o hf
        · exact i9 o
        · exact s9 o
      · exact e1 a9
      · exact h3 e9
  · obtain rfl : n = N := by omega
    have hst := h1.ends hle (fun i _ hi' => by rw [← hC.2]; exact hlt i (by omega))
    have hzB : ∀ i, i < n → B.Z i = C.Z i := fun i _ => by rw [hC.2]
    rcases h2 with ⟨ho, _, _, rfl⟩ | ⟨ho, z, hz, ⟨e1, e2, _, rfl⟩ | ⟨_, e9, _⟩⟩
    · -- the whole run was over
      by_cases hid : Idle (endA p e) C
      · obtain ⟨rfl, hk'⟩ := idle C h1 (fun _ _ => rfl) hid
        refine ⟨⟨by omega, fun _ _ => rfl⟩, fun _ => hk', fun _ _ => .inr hk', fun _ e9 => ?_, ?_⟩
        · rcases hr with ⟨a9, _⟩ | ⟨_, _, ⟨_, e8, _⟩ | ⟨_, ⟨_, e8, _⟩ | ⟨_, e8, _⟩⟩⟩
          · exact absurd hf a9
          all_goals (rw [e8] at e9; cases e9)
        · rcases hr with ⟨a9, _⟩ | ⟨_, _, ⟨_, e8, _⟩ | ⟨i9, ⟨_, e8, _⟩ | ⟨s9, _⟩⟩⟩
          · exact absurd hf a9
          · exact .inl e8
          · exact .inr (.inl e8)
          · rcases ho with o | o | o
            · exact absurd hf o
            · exact absurd o i9
            · exact absurd o s9
      · have hni : ¬ Idle p C := fun hi => hid fun y9 hy9 => by have : p.en ≤ y9.t := hi y9 hy9; show e ≤ y9.t; omega
        have hsp : Spent p C := by
          rcases ho with o | o | o
          · exact absurd hf o
          · exact absurd o hni
          · exact o
        have he : EndR (endA p e) (fstA p) C := ⟨n, C, zeroE, 128, hst, .inl ⟨.inr (.inr hsp), rfl, rfl, rfl⟩, by decide⟩
        obtain rfl := h'.one he
        have hk' : k' = 2 := (hr'.one (.inr ⟨hf, rfl, .inr ⟨hid, .inl ⟨hsp, rfl, rfl⟩⟩⟩)).1
        have hk : k = 2 := (hr.one (.inr ⟨hf, rfl, .inr ⟨hni, .inl ⟨hsp, rfl, rfl⟩⟩⟩)).1
        refine ⟨⟨by omega, fun _ _ => rfl⟩, fun e9 => ?_, fun _ _ => .inl hk', (fun _ e9 => (by rw [hk] at e9; cases e9)), .inr (.inl hk)⟩
        rcases e9 with e9 | e9 | ⟨e9, _⟩
        · omega
        · rw [hk] at e9; cases e9
        · rw [hk] at e9; cases e9
    · -- a fault
      have hk : k = 3 ∧ cd = (effA p B z).code ∧ x = z := hr.one (.inl ⟨e1, rfl, rfl, hz⟩)
      obtain ⟨rfl, rfl, rfl⟩ := hk
      by_cases hxe : e ≤ x.t
      · have hid : Idle (endA p e) B := fun y9 hy9 => by have := lst_le hz hy9; show e ≤ y9.t; omega
        obtain ⟨rfl, hk'⟩ := idle B h1 (fun _ _ => rfl) hid
        exact ⟨⟨by omega, fun _ _ => rfl⟩, fun _ => hk', (fun _ e9 => (by cases e9)), (fun _ _ e9 => (by omega)), .inr (.inr rfl)⟩
      · have ho' : ¬ Over (endA p e) B := by
          rintro (o | o | o)
          · exact ho (.inl o)
          · have h9 : e ≤ x.t := o x hz.1
            omega
          · exact ho (.inr (.inr o))
        have he : EndR (endA p e) (fstA p) { B with f := (effA p B x).code } := ⟨n, B, zeroE, (effA p B x).code, hst, .inr ⟨ho', x, hz, .inl ⟨e1, rfl, rfl, rfl⟩⟩, e1⟩
        obtain rfl := h'.one he
        have hk' := hr'.one (.inl ⟨e1, rfl, rfl, hz⟩)
        obtain ⟨rfl, rfl, rfl⟩ := hk'
        exact ⟨⟨by show B.m = n; omega, fun _ _ => rfl⟩, (fun e9 => (by rcases e9 with e9 | e9 | ⟨_, e9⟩ <;> first | (have e8 : n < B.m := e9; omega) | cases e9 | omega)), (fun _ e9 => (by cases e9)), fun _ _ _ => ⟨rfl, rfl, rfl, rfl⟩, .inr (.inr rfl)⟩
    · exact absurd e9 h3
end Go.Proofs.YtagchghhpggnlaaGreat
namespace Go.Proofs.YtagchghhpggnlaaGreat
open Go.ChangeShapes Go.WideShapes Go.ChangeAt Go.RowKit
set_option linter.unusedVariables false
set_option linter.unusedSimpArgs false

theorem SIn.time {W : World} {q : Option Addr} {m : Nat} {X : Nat → Se} (h : SIn W q m X) {i : Nat} (hi : i < m) : ∃ b o, q = some ⟨b, o, none⟩ ∧ W.cell? ⟨b, o + i * 6, none⟩ = some (.int .u64 (X i).t) := by
  rcases h with h | ⟨b, o, rfl, hl, hc⟩
  · omega
  · refine ⟨b, o, rfl, ?_⟩
    have := hc (i * 6 + 0) (by omega)
    rw [seF_at _ _ _ (by decide)] at this
    exact this
set_option maxRecDepth 100000 in
set_option maxHeartbeats 4000000 in
theorem ends_bad (p : Pl) (v : PlV) (w : World) (h : PlAt w p v) (c0 : Int) (hc0 : VC p c0) (hz : c0 ≠ 0) (ed : Int) : Calls Tryz.prog 3 #[.agg #[.int .i64 p.ki, .slice v.pp p.np v.pc, .slice v.tp p.nq v.tc, .slice v.sp p.ns v.sc, .int .u64 p.sd, .int .u64 p.lk, .int .u64 p.en, .int .i64 p.bu, .int .i64 p.fu], .int .u64 ed] w fun e w' => e = .returned (.bool true) ∧ Below w.heap.size w w' := by
  obtain ⟨wb, hwb⟩ : ∃ wb, w.alloc (.cells #[.int .i64 p.ki, .slice v.pp p.np v.pc, .slice v.tp p.nq v.tc, .slice v.sp p.ns v.sc, .int .u64 p.sd, .int .u64 p.lk, .int .u64 p.en, .int .i64 p.bu, .int .i64 p.fu] 27) = wb := ⟨_, rfl⟩
  obtain ⟨hb0, hbox, hsz⟩ := boxed _ _ _ hwb
  have HH : Hid (w.alloc (.cells #[.int .i64 p.ki, .slice v.pp p.np v.pc, .slice v.tp p.nq v.tc, .slice v.sp p.ns v.sc, .int .u64 p.sd, .int .u64 p.lk, .int .u64 p.en, .int .i64 p.bu, .int .i64 p.fu] 27) = wb) := hwb
  have HA := awake_any wb
  have HV : ∀ W, Below wb.heap.size wb W → Hid (Calls Tryz.prog 14 #[.agg #[.int .i64 p.ki, .slice v.pp p.np v.pc, .slice v.tp p.nq v.tc, .slice v.sp p.ns v.sc, .int .u64 p.sd, .int .u64 p.lk, .int .u64 p.en, .int .i64 p.bu, .int .i64 p.fu]] W fun e w' => e = .returned (.int .i64 c0) ∧ Below W.heap.size W w') := fun W hb => by
    refine (valid_any p v W ((h.below hb0).below hb)).mono ?_
    rintro e w' ⟨c, rfl, k1, k2⟩
    rw [k1.one hc0]
    exact ⟨rfl, k2⟩
  have KK : ∀ W, Below wb.heap.size wb W → Hid (W.cell? ⟨w.heap.size, 0, none⟩ = some (.int .i64 p.ki) ∧ W.cell? ⟨w.heap.size, 1, none⟩ = some (.slice v.pp p.np v.pc) ∧ W.cell? ⟨w.heap.size, 2, none⟩ = some (.slice v.tp p.nq v.tc) ∧ W.cell? ⟨w.heap.size, 3, none⟩ = some (.slice v.sp p.ns v.sc) ∧ W.cell? ⟨w.heap.size, 4, none⟩ = some (.int .u64 p.sd) ∧ W.cell? ⟨w.heap.size, 5, none⟩ = some (.int .u64 p.lk) ∧ W.cell? ⟨w.heap.size, 6, none⟩ = some (.int .u64 p.en) ∧ W.cell? ⟨w.heap.size, 7, none⟩ = some (.int .i64 p.bu) ∧ W.cell? ⟨w.heap.size, 8, none⟩ = some (.int .i64 p.fu)) := fun W hb => by
    have hx := (hb.block _ (lt_of_block hbox)).trans hbox
    exact ⟨cell_in hx rfl, cell_in hx rfl, cell_in hx rfl, cell_in hx rfl, cell_in hx rfl, cell_in hx rfl, cell_in hx rfl, cell_in hx rfl, cell_in hx rfl⟩
  have HB : Hid (Below w.heap.size w wb) := hb0
  have q0 : (c0 != 0) = true := by simpa using hz
  have q1 : (c0 == 0) = false := by simpa using hz
  clear hwb hb0 hbox hsz h hc0 hz
  go_enter Tryz.func3, Tryz.ntmps3
  go_wp2_with (first | (go_at_call 13; rw [HH.out]; (with_reducible refine HA.mono ?_); rintro e w1 ⟨rfl, hb1⟩; obtain ⟨f0, f1, f2, f3, f4, f5, f6, f7, f8⟩ := (KK w1 hb1).out) | (go_at_call 14; (with_reducible refine (HV w1 hb1).out.mono ?_); rintro e w2 ⟨rfl, hb2⟩))
  go_ret
  exact ⟨rfl, HB.out.trans ((hb1.trans (hb2.mono hb1.size)).mono HB.out.size)⟩
set_option maxRecDepth 100000 in
set_option maxHeartbeats 4000000 in
theorem ends_far (p : Pl) (v : PlV) (w : World) (h : PlAt w p v) (c0 : Int) (hc0 : VC p c0) (hz : c0 = 0) (ed : Int) (hed : p.en < ed) : Calls Tryz.prog 3 #[.agg #[.int .i64 p.ki, .slice v.pp p.np v.pc, .slice v.tp p.nq v.tc, .slice v.sp p.ns v.sc, .int .u64 p.sd, .int .u64 p.lk, .int .u64 p.en, .int .i64 p.bu, .int .i64 p.fu], .int .u64 ed] w fun e w' => e = .returned (.bool true) ∧ Below w.heap.size w w' := by
  subst hz
  obtain ⟨c0, hcc⟩ : ∃ c0 : Int, c0 = 0 := ⟨_, rfl⟩
  rw [← hcc] at hc0
  obtain ⟨wb, hwb⟩ : ∃ wb, w.alloc (.cells #[.int .i64 p.ki, .slice v.pp p.np v.pc, .slice v.tp p.nq v.tc, .slice v.sp p.ns v.sc, .int .u64 p.sd, .int .u64 p.lk, .int .u64 p.en, .int .i64 p.bu, .int .i64 p.fu] 27) = wb := ⟨_, rfl⟩
  obtain ⟨hb0, hbox, hsz⟩ := boxed _ _ _ hwb
  have HH : Hid (w.alloc (.cells #[.int .i64 p.ki, .slice v.pp p.np v.pc, .slice v.tp p.nq v.tc, .slice v.sp p.ns v.sc, .int .u64 p.sd, .int .u64 p.lk, .int .u64 p.en, .int .i64 p.bu, .int .i64 p.fu] 27) = wb) := hwb
  have HA := awake_any wb
  have HV : ∀ W, Below wb.heap.size wb W → Hid (Calls Tryz.prog 14 #[.agg #[.int .i64 p.ki, .slice v.pp p.np v.pc, .slice v.tp p.nq v.tc, .slice v.sp p.ns v.sc, .int .u64 p.sd, .int .u64 p.lk, .int .u64 p.en, .int .i64 p.bu, .int .i64 p.fu]] W fun e w' => e = .returned (.int .i64 c0) ∧ Below W.heap.size W w') := fun W hb => by
    refine (valid_any p v W ((h.below hb0).below hb)).mono ?_
    rintro e w' ⟨c, rfl, k1, k2⟩
    rw [k1.one hc0]
    exact ⟨rfl, k2⟩
  have KK : ∀ W, Below wb.heap.size wb W → Hid (W.cell? ⟨w.heap.size, 0, none⟩ = some (.int .i64 p.ki) ∧ W.cell? ⟨w.heap.size, 1, none⟩ = some (.slice v.pp p.np v.pc) ∧ W.cell? ⟨w.heap.size, 2, none⟩ = some (.slice v.tp p.nq v.tc) ∧ W.cell? ⟨w.heap.size, 3, none⟩ = some (.slice v.sp p.ns v.sc) ∧ W.cell? ⟨w.heap.size, 4, none⟩ = some (.int .u64 p.sd) ∧ W.cell? ⟨w.heap.size, 5, none⟩ = some (.int .u64 p.lk) ∧ W.cell? ⟨w.heap.size, 6, none⟩ = some (.int .u64 p.en) ∧ W.cell? ⟨w.heap.size, 7, none⟩ = some (.int .i64 p.bu) ∧ W.cell? ⟨w.heap.size, 8, none⟩ = some (.int .i64 p.fu)) := fun W hb => by
    have hx := (hb.block _ (lt_of_block hbox)).trans hbox
    exact ⟨cell_in hx rfl, cell_in hx rfl, cell_in hx rfl, cell_in hx rfl, cell_in hx rfl, cell_in hx rfl, cell_in hx rfl, cell_in hx rfl, cell_in hx rfl⟩
  have HB : Hid (Below w.heap.size w wb) := hb0
  subst hcc
  have d0 : decide (ed > p.en) = true := decide_eq_true hed
  have d1 : decide (p.en < ed) = true := decide_eq_true hed
  clear hwb hb0 hbox hsz h hc0 hed
  go_enter Tryz.func3, Tryz.ntmps3
  go_wp2_with (first | (go_at_call 13; rw [HH.out]; (with_reducible refine HA.mono ?_); rintro e w1 ⟨rfl, hb1⟩; obtain ⟨f0, f1, f2, f3, f4, f5, f6, f7, f8⟩ := (KK w1 hb1).out) | (go_at_call 14; (with_reducible refine (HV w1 hb1).out.mono ?_); rintro e w2 ⟨rfl, hb2⟩; have hb2' : Below wb.heap.size wb w2 := hb1.trans (hb2.mono hb1.size); clear f0 f1 f2 f3 f4 f5 f6 f7 f8; obtain ⟨f0, f1, f2, f3, f4, f5, f6, f7, f8⟩ := (KK w2 hb2').out))
  go_ret
  exact ⟨rfl, HB.out.trans (hb2'.mono HB.out.size)⟩
set_option maxRecDepth 100000 in
set_option maxHeartbeats 8000000 in
theorem ends_good (p : Pl) (v : PlV) (w : World) (h : PlAt w p v) (hr : RoomyL p) (hpl : PlOk p) (ed : Int) (hle : ed ≤ p.en) : Calls Tryz.prog 3 #[.agg #[.int .i64 p.ki, .slice v.pp p.np v.pc, .slice v.tp p.nq v.tc, .slice v.sp p.ns v.sc, .int .u64 p.sd, .int .u64 p.lk, .int .u64 p.en, .int .i64 p.bu, .int .i64 p.fu], .int .u64 ed] w fun e w' => e = .returned (.bool true) ∧ Below w.heap.size w w' := by
  obtain ⟨c0, hcc⟩ : ∃ c0 : Int, c0 = 0 := ⟨_, rfl⟩
  have hc0 : VC p c0 := by rw [hcc]; exact okVC hpl
  obtain ⟨wb, hwb⟩ : ∃ wb, w.alloc (.cells #[.int .i64 p.ki, .slice v.pp p.np v.pc, .slice v.tp p.nq v.tc, .slice v.sp p.ns v.sc, .int .u64 p.sd, .int .u64 p.lk, .int .u64 p.en, .int .i64 p.bu, .int .i64 p.fu] 27) = wb := ⟨_, rfl⟩
  obtain ⟨hb0, hbox, hsz⟩ := boxed _ _ _ hwb
  have HH : Hid (w.alloc (.cells #[.int .i64 p.ki, .slice v.pp p.np v.pc, .slice v.tp p.nq v.tc, .slice v.sp p.ns v.sc, .int .u64 p.sd, .int .u64 p.lk, .int .u64 p.en, .int .i64 p.bu, .int .i64 p.fu] 27) = wb) := hwb
  have HA := awake_any wb
  have HV : ∀ W, Below wb.heap.size wb W → Hid (Calls Tryz.prog 14 #[.agg #[.int .i64 p.ki, .slice v.pp p.np v.pc, .slice v.tp p.nq v.tc, .slice v.sp p.ns v.sc, .int .u64 p.sd, .int .u64 p.lk, .int .u64 p.en, .int .i64 p.bu, .int .i64 p.fu]] W fun e w' => e = .returned (.int .i64 c0) ∧ Below W.heap.size W w') := fun W hb => by
    refine (valid_any p v W ((h.below hb0).below hb)).mono ?_
    rintro e w' ⟨c, rfl, k1, k2⟩
    rw [k1.one hc0]
    exact ⟨rfl, k2⟩
  have KK : ∀ W, Below wb.heap.size wb W → Hid (W.cell? ⟨w.heap.size, 0, none⟩ = some (.int .i64 p.ki) ∧ W.cell? ⟨w.heap.size, 1, none⟩ = some (.slice v.pp p.np v.pc) ∧ W.cell? ⟨w.heap.size, 2, none⟩ = some (.slice v.tp p.nq v.tc) ∧ W.cell? ⟨w.heap.size, 3, none⟩ = some (.slice v.sp p.ns v.sc) ∧ W.cell? ⟨w.heap.size, 4, none⟩ = some (.int .u64 p.sd) ∧ W.cell? ⟨w.heap.size, 5, none⟩ = some (.int .u64 p.lk) ∧ W.cell? ⟨w.heap.size, 6, none⟩ = some (.int .u64 p.en) ∧ W.cell? ⟨w.heap.size, 7, none⟩ = some (.int .i64 p.bu) ∧ W.cell? ⟨w.heap.size, 8, none⟩ = some (.int .i64 p.fu)) := fun W hb => by
    have hx := (hb.block _ (lt_of_block hbox)).trans hbox
    exact ⟨cell_in hx rfl, cell_in hx rfl, cell_in hx rfl, cell_in hx rfl, cell_in hx rfl, cell_in hx rfl, cell_in hx rfl, cell_in hx rfl, cell_in hx rfl⟩
  have HB : Hid (Below w.heap.size w wb) := hb0
  subst hcc
  have HR : ∀ W, Below wb.heap.size wb W → Hid (Calls Tryz.prog 15 #[.agg #[.int .i64 p.ki, .slice v.pp p.np v.pc, .slice v.tp p.nq v.tc, .slice v.sp p.ns v.sc, .int .u64 p.sd, .int .u64 p.lk, .int .u64 p.en, .int .i64 p.bu, .int .i64 p.fu]] W fun r w' => ∃ (C : Ab) (k cd : Int) (x : Se) (q1 : Option Addr) (c1 : Nat) (CC : Nat → Sa) (q3 : Option Addr) (c3 : Nat), EndR p (fstA p) C ∧ AOk2 p C ∧ ResK p C k cd x ∧ r = .returned (.agg #[.int .i64 k, .int .i64 cd, .int .u64 x.t, .int .i64 x.s, .int .u64 x.q, .int .i64 0, .slice q1 p.nq c1, .slice q3 C.m c3]) ∧ (∃ b rb, W.heap.size < b ∧ RsA w' b rb p C q1 CC q3 c3) ∧ Below W.heap.size W w') := fun W hb => sqRun_good p v W ((h.below hb0).below hb) hr (okVC hpl) hpl
  have hplE : PlOk (endA p ed) := ⟨hpl.ki, hpl.gp, hpl.gt, hpl.gs, hpl.lk, hpl.bu, hpl.fu, hpl.a64, hpl.k64, hpl.s64⟩
  have hrE : RoomyL (endA p ed) := ⟨hr.np, hr.pg, hr.nq, hr.nw, hr.ns⟩
  have HQ : ∀ W, Below wb.heap.size wb W → Hid (Calls Tryz.prog 15 #[.agg #[.int .i64 p.ki, .slice v.pp p.np v.pc, .slice v.tp p.nq v.tc, .slice v.sp p.ns v.sc, .int .u64 p.sd, .int .u64 p.lk, .int .u64 ed, .int .i64 p.bu, .int .i64 p.fu]] W fun r w' => ∃ (C' : Ab) (k' cd' : Int) (x' : Se) (q1' : Option Addr) (c1' : Nat) (CC' : Nat → Sa) (q3' : Option Addr) (c3' : Nat), EndR (endA p ed) (fstA p) C' ∧ AOk2 (endA p ed) C' ∧ ResK (endA p ed) C' k' cd' x' ∧ r = .returned (.agg #[.int .i64 k', .int .i64 cd', .int .u64 x'.t, .int .i64 x'.s, .int .u64 x'.q, .int .i64 0, .slice q1' p.nq c1', .slice q3' C'.m c3']) ∧ (∃ b rb, W.heap.size < b ∧ RsA w' b rb (endA p ed) C' q1' CC' q3' c3') ∧ Below W.heap.size W w') := fun W hb => sqRun_good (endA p ed) v W (have h9 := (h.below hb0).below hb; ⟨h9.ps, h9.ts, h9.st⟩) hrE (okVC hplE) hplE
  have HBU : Hid (p.nq ≤ 64 ∧ ∀ j, j < p.nq → p.nw j ≤ 17592186044416) := ⟨hpl.gt.1, hr.nw⟩
  have HLE : Hid (ed ≤ p.en) := hle
  have d0 : decide (ed > p.en) = false := decide_eq_false (by omega)
  have d1 : decide (p.en < ed) = false := decide_eq_false (by omega)
  clear hwb hb0 hbox hsz h hr hpl hplE hrE hc0 hle
  go_enter Tryz.func3, Tryz.ntmps3
  go_upto_region 6 with (first | (go_at_call 13; rw [HH.out]; (with_reducible refine HA.mono ?_); rintro e w1 ⟨rfl, hb1⟩; obtain ⟨f0, f1, f2, f3, f4, f5, f6, f7, f8⟩ := (KK w1 hb1).out) | (go_at_call 14; (with_reducible refine (HV w1 hb1).out.mono ?_); rintro e w2 ⟨rfl, hb2'⟩; have hb2 : Below wb.heap.size wb w2 := hb1.trans (hb2'.mono hb1.size); clear f0 f1 f2 f3 f4 f5 f6 f7 f8; obtain ⟨f0, f1, f2, f3, f4, f5, f6, f7, f8⟩ := (KK w2 hb2).out) | (go_at_call 15; (with_reducible refine (HR w2 hb2).out.mono ?_); rintro e w3 ⟨C, k, cd, x, q1, c1, CC, q3, c3, he1, ho1, hk1, rfl, ⟨b, rb, hlb, hrs⟩, hb3'⟩; have hb3 : Below wb.heap.size wb w3 := hb2.trans (hb3'.mono hb2.size); clear f0 f1 f2 f3 f4 f5 f6 f7 f8))
  obtain ⟨w4, hw4⟩ : ∃ w4, w3.alloc (.cells #[.int .i64 k, .int .i64 cd, .int .u64 x.t, .int .i64 x.s, .int .u64 x.q, .int .i64 0, .slice q1 p.nq c1, .slice q3 C.m c3] 36) = w4 := ⟨_, rfl⟩
  obtain ⟨hb4', hx4, hsz4⟩ := boxed _ _ _ hw4
  rw [hw4]
  obtain ⟨g4, hg4⟩ : ∃ g4, w3.heap.size = g4 := ⟨_, rfl⟩
  rw [hg4] at hx4 ⊢
  have hb4 : Below wb.heap.size wb w4 := hb3.trans (hb4'.mono hb3.size)
  have hS4 := hrs.ss.below hb4'
  have hT4 := hrs.tr.below hb4'
  have H4 : Hid (EndR p (fstA p) C ∧ ResK p C k cd x ∧ w4.heap[g4]? = some (.cells #[.int .i64 k, .int .i64 cd, .int .u64 x.t, .int .i64 x.s, .int .u64 x.q, .int .i64 0, .slice q1 p.nq c1, .slice q3 C.m c3] 36 (0, 0)) ∧ SsAt w4 q1 p.nq CC C.K ∧ (∀ j, j < p.nq → (CC j).n = p.nw j ∧ (CC j).d = C.d j ∧ (CC j).s = C.s j) ∧ SIn w4 q3 C.m C.Z ∧ C.m ≤ c3 ∧ (C.m : Int) ≤ 4096 ∧ g4 < w4.heap.size ∧ Below wb.heap.size wb w4) := ⟨he1, hk1, hx4, hS4, hrs.eq, hT4, hrs.cp, ho1.m, lt_of_block hx4, hb4⟩
  clear hw4 hb4' hx4 hsz4 hg4 hrs hlb he1 hk1 ho1 hS4 hT4 hb3' hb3 hb2 hb2' hb1 HA HV HR d0 d1 hb4
  go_wp2_with fail
  go_loopw [6] (fun v6 wr => ∃ n : Nat, v6 = .int .i64 (n : Int) ∧ n ≤ C.m ∧ (∀ j, j < n → (C.Z j).t < ed) ∧ wr = w4) (fun v6 _ => C.m - (intOf v6).toNat)
  case atStart => exact ⟨0, rfl, Nat.zero_le _, fun j hj => absurd hj (Nat.not_lt_zero _), rfl⟩
  case round =>
    obtain ⟨n, rfl, hn, hlt, hwr⟩ := hrel
    subst wr
    have a0 : w4.cell? ⟨g4, 0, none⟩ = some (.int .i64 k) := cell_in H4.out.2.2.1 rfl
    have a2 : w4.cell? ⟨g4, 2, none⟩ = some (.int .u64 x.t) := cell_in H4.out.2.2.1 rfl
    have a7 : w4.cell? ⟨g4, 7, none⟩ = some (.slice q3 C.m c3) := cell_in H4.out.2.2.1 rfl
    obtain ⟨f0, f1, f2, f3, f4, f5, f6, f7, f8⟩ := (KK w4 H4.out.2.2.2.2.2.2.2.2.2).out
    have m63 : (C.m : Int) ≤ 4096 := H4.out.2.2.2.2.2.2.2.1
    by_cases hnm : n < C.m
    case pos =>
      have dc1 : decide ((n : Int) < (C.m : Int)) = true := decide_eq_true (by omega)
      have dc2 : decide (n < C.m) = true := decide_eq_true hnm
      have n0 : (0 : Int) ≤ (n : Int) := by omega
      have n1 : (n : Int) < (C.m : Int) := by omega
      have HLT : Hid (∀ j, j < n → (C.Z j).t < ed) := hlt
      by_cases htt : (C.Z n).t < ed
      case pos =>
        obtain ⟨b, o, hq, hcell⟩ := H4.out.2.2.2.2.2.1.time hnm
        have dt : decide ((C.Z n).t < ed) = true := decide_eq_true htt
        have ei : IntKind.i64.wrap ((n : Int) + 1) = (n : Int) + 1 := by rw [IntKind.wrap_i64]; omega
        have HM : Hid (C.m - (n + 1) < C.m - n) := (by omega : C.m - (n + 1) < C.m - n)
        rw [hq] at a7
        have HTT : Hid ((C.Z n).t < ed) := htt
        clear hq hlt htt m63 f0 f1 f2 f3 f4 f5 f6 f7 f8 a0 a2 HQ KK
        go_wp2_with fail
        refine ⟨⟨n + 1, rfl, hnm, fun j hj => ?_, (by first | trivial | rfl)⟩, ?_⟩
        · by_cases e : j = n
          · rw [e]; exact HTT.out
          · exact HLT.out j (by omega)
        · have := HM.out
          simp [intOf]
          omega
      case neg =>
        obtain ⟨b, o, hq, hcell⟩ := H4.out.2.2.2.2.2.1.time hnm
        have dt : decide ((C.Z n).t < ed) = false := decide_eq_false htt
        have HTT : Hid (n < C.m → ed ≤ (C.Z n).t) := fun _ => by omega
        have HNM : Hid (n ≤ C.m) := hn
        subst hq
        clear hlt htt m63 hnm hn n1
        have HNC : Hid (n < C.m) := (of_decide_eq_true dc2 : n < C.m)
        obtain ⟨w5, hw5⟩ : ∃ w5, w4.alloc (.cells #[.int .i64 p.ki, .slice v.pp p.np v.pc, .slice v.tp p.nq v.tc, .slice v.sp p.ns v.sc, .int .u64 p.sd, .int .u64 p.lk, .int .u64 ed, .int .i64 p.bu, .int .i64 p.fu] 27) = w5 := ⟨_, rfl⟩
        obtain ⟨hb5', hx5, hsz5⟩ := boxed _ _ _ hw5
        have hb5 : Below wb.heap.size wb w5 := H4.out.2.2.2.2.2.2.2.2.2.trans (hb5'.mono H4.out.2.2.2.2.2.2.2.2.2.size)
        have HW5 : Hid (w4.alloc (.cells #[.int .i64 p.ki, .slice v.pp p.np v.pc, .slice v.tp p.nq v.tc, .slice v.sp p.ns v.sc, .int .u64 p.sd, .int .u64 p.lk, .int .u64 ed, .int .i64 p.bu, .int .i64 p.fu] 27) = w5) := hw5
        have e0 : w5.cell? ⟨w4.heap.size, 0, none⟩ = some (.int .i64 p.ki) := cell_in hx5 rfl
        have e1 : w5.cell? ⟨w4.heap.size, 1, none⟩ = some (.slice v.pp p.np v.pc) := cell_in hx5 rfl
        have e2 : w5.cell? ⟨w4.heap.size, 2, none⟩ = some (.slice v.tp p.nq v.tc) := cell_in hx5 rfl
        have e3 : w5.cell? ⟨w4.heap.size, 3, none⟩ = some (.slice v.sp p.ns v.sc) := cell_in hx5 rfl
        have e4 : w5.cell? ⟨w4.heap.size, 4, none⟩ = some (.int .u64 p.sd) := cell_in hx5 rfl
        have e5 : w5.cell? ⟨w4.heap.size, 5, none⟩ = some (.int .u64 p.lk) := cell_in hx5 rfl
        have e6 : w5.cell? ⟨w4.heap.size, 6, none⟩ = some (.int .u64 ed) := cell_in hx5 rfl
        have e7 : w5.cell? ⟨w4.heap.size, 7, none⟩ = some (.int .i64 p.bu) := cell_in hx5 rfl
        have e8 : w5.cell? ⟨w4.heap.size, 8, none⟩ = some (.int .i64 p.fu) := cell_in hx5 rfl
        clear hw5 hsz5
        go_upto_region 11 with fail
        rw [HW5.out]
        clear f0 f1 f2 f3 f4 f5 f6 f7 f8 a0 a2 a7 hcell
        go_upto_region 12 with (go_at_call 15; (with_reducible refine (HQ w5 hb5).out.mono ?_); rintro e w7 ⟨C', k', cd', x', q1', c1', CC', q3', c3', he1, ho1, hk1, rfl, ⟨b', rb', hlb, hrs⟩, hb7'⟩)
        obtain ⟨w6, hw6⟩ : ∃ w6, w7.alloc (.cells #[.int .i64 k', .int .i64 cd', .int .u64 x'.t, .int .i64 x'.s, .int .u64 x'.q, .int .i64 0, .slice q1' p.nq c1', .slice q3' C'.m c3'] 36) = w6 := ⟨_, rfl⟩
        obtain ⟨hb6', hx6, hsz6⟩ := boxed _ _ _ hw6
        rw [hw6]
        obtain ⟨g6, hg6⟩ : ∃ g6, w7.heap.size = g6 := ⟨_, rfl⟩
        rw [hg6] at hx6 ⊢
        have hb47 : Below w4.heap.size w4 w7 := hb5'.trans (hb7'.mono hb5'.size)
        have hb46 : Below w4.heap.size w4 w6 := hb47.trans (hb6'.mono hb47.size)
        obtain ⟨z1, z2, z3, z4, z5, z6, z7, z8, z9, z10⟩ := H4.out
        have hbw : Below w.heap.size w w6 := HB.out.trans ((z10.trans (hb46.mono z10.size)).mono HB.out.size)
        have hx46 := (hb46.block g4 z9).trans z3
        have hS := z4.below hb46
        have hT := z6.below hb46
        have hS' : SsAt w6 q1' p.nq CC' C'.K := hrs.ss.below hb6'
        have hT' : SIn w6 q3' C'.m C'.Z := hrs.tr.below hb6'
        have hE' : ∀ j, j < p.nq → (CC' j).n = p.nw j ∧ (CC' j).d = C'.d j ∧ (CC' j).s = C'.s j := hrs.eq
        obtain ⟨⟨hm', hz'⟩, he2, he3, he4, he5⟩ := end_end HLE.out z1 he1 z2 hk1 HNM.out HLT.out HTT.out
        have HBW : Hid (Below w.heap.size w w6) := hbw
        rw [hm'] at hT' hx6
        have HG : Hid (∀ W, Below w6.heap.size w6 W → W.cell? ⟨g4, 0, none⟩ = some (.int .i64 k) ∧ W.cell? ⟨g4, 1, none⟩ = some (.int .i64 cd) ∧ W.cell? ⟨g4, 2, none⟩ = some (.int .u64 x.t) ∧ W.cell? ⟨g4, 3, none⟩ = some (.int .i64 x.s) ∧ W.cell? ⟨g4, 4, none⟩ = some (.int .u64 x.q) ∧ W.cell? ⟨g4, 5, none⟩ = some (.int .i64 0) ∧ W.cell? ⟨g4, 6, none⟩ = some (.slice q1 p.nq c1) ∧ W.cell? ⟨g4, 7, none⟩ = some (.slice (some ⟨b, o, none⟩) C.m c3) ∧ W.cell? ⟨g6, 0, none⟩ = some (.int .i64 k') ∧ W.cell? ⟨g6, 1, none⟩ = some (.int .i64 cd') ∧ W.cell? ⟨g6, 2, none⟩ = some (.int .u64 x'.t) ∧ W.cell? ⟨g6, 3, none⟩ = some (.int .i64 x'.s) ∧ W.cell? ⟨g6, 4, none⟩ = some (.int .u64 x'.q) ∧ W.cell? ⟨g6, 5, none⟩ = some (.int .i64 0) ∧ W.cell? ⟨g6, 6, none⟩ = some (.slice q1' p.nq c1') ∧ W.cell? ⟨g6, 7, none⟩ = some (.slice q3' n c3')) := fun W hb => by
          have e4 := (hb.block _ (lt_of_block hx46)).trans hx46
          have e6 := (hb.block _ (lt_of_block hx6)).trans hx6
          exact ⟨cell_in e4 rfl, cell_in e4 rfl, cell_in e4 rfl, cell_in e4 rfl, cell_in e4 rfl, cell_in e4 rfl, cell_in e4 rfl, cell_in e4 rfl, cell_in e6 rfl, cell_in e6 rfl, cell_in e6 rfl, cell_in e6 rfl, cell_in e6 rfl, cell_in e6 rfl, cell_in e6 rfl, cell_in e6 rfl⟩
        have HSE : ∀ W, Below w6.heap.size w6 W → Hid (Calls Tryz.prog 16 #[.slice q3' n c3', .slice (some ⟨b, o, none⟩) n c3] W fun e w' => e = .returned (.bool true) ∧ Below W.heap.size W w') := fun W hb => sEvents_yes n C.Z q3' (some ⟨b, o, none⟩) c3' c3 (by have := HNM.out; omega) W ((hT'.congr fun j hj => hz' j hj).below hb) ((hT.take HNM.out).below hb)
        have HLL : Hid ((∀ j, j < p.nq → (CC j).n = p.nw j ∧ (CC j).d = C.d j ∧ (CC j).s = C.s j) ∧ SsAt w6 q1 p.nq CC C.K ∧ SIn w6 (some ⟨b, o, none⟩) C.m C.Z ∧ SsAt w6 q1' p.nq CC' C'.K ∧ SIn w6 q3' n C'.Z ∧ (∀ j, j < p.nq → (CC' j).n = p.nw j ∧ (CC' j).d = C'.d j ∧ (CC' j).s = C'.s j) ∧ (C.m : Int) ≤ 4096) := ⟨z5, hS, hT, hS', hT', hE', z8⟩
        have hcp : C.m ≤ c3 := z7
        clear hw6 hb6' hx6 hsz6 hg6 hb46 hb47 hbw z1 z2 z3 z4 z5 z6 z7 z8 z9 z10 hx46 hS hT hS' hT' hE' hrs hlb he1 hk1 ho1 hb7' hb5' hb5 hx5 H4 HQ KK HW5 HLE e0 e1 e2 e3 e4 e5 e6 e7 e8
        obtain rfl : k' = 1 := he2 (.inl HNC.out)
        clear he2 he3 he4 he5 hz' hm'
        have n1 : (n : Int) ≤ (c3 : Int) := by have := HNM.out; omega
        have n2 : n ≤ c3 := by have := HNM.out; omega
        have n3 : ¬ c3 = 0 := by have := HNC.out; omega
        clear hcp
        have hbd : Below w6.heap.size w6 w6.drew := (Below.refl _ w6).drew
        have KS : ∀ W, Below w6.heap.size w6 W → (W.cell? ⟨g6, 7, none⟩ = some (.slice q3' n c3') ∧ W.cell? ⟨g4, 7, none⟩ = some (.slice (some ⟨b, o, none⟩) C.m c3)) := fun W hb => by
          have h9 := HG.out W hb
          exact ⟨h9.2.2.2.2.2.2.2.2.2.2.2.2.2.2.2, h9.2.2.2.2.2.2.2.1⟩
        have KP0 := KS _ hbd
        have HSD := (HSE _ hbd).out
        go_region_held3 (fun w9 => (w9.cell? ⟨g6, 7, none⟩ = some (.slice q3' n c3') ∧ w9.cell? ⟨g4, 7, none⟩ = some (.slice (some ⟨b, o, none⟩) C.m c3))) (first | with_reducible exact KP0 | with_reducible exact KP1 | go_keep) (first | (go_at_call 16; (with_reducible refine HSD.mono ?_); rintro e w8 ⟨rfl, hb8'⟩; have hb8 : Below w6.heap.size w6 w8 := hbd.trans (hb8'.mono hbd.size); have KP1 := KS w8 hb8; obtain ⟨a0, a1, a2, a3, a4, a5, a6, a7, b0, b1, b2, b3, b4, b5, b6, b7⟩ := HG.out w8 hb8))
        all_goals (
          go_wp2_with fail
          go_ret
          exact ⟨rfl, HBW.out.trans (hb8.mono HBW.out.size)⟩)
    case neg =>
      have dc1 : decide ((n : Int) < (C.m : Int)) = false := decide_eq_false (by omega)
      have dc2 : decide (n < C.m) = false := decide_eq_false hnm
      obtain rfl : n = C.m := by omega
      have HLT : Hid (∀ j, j < C.m → (C.Z j).t < ed) := hlt
      have HTT : Hid (C.m < C.m → ed ≤ (C.Z C.m).t) := fun e => absurd e (Nat.lt_irrefl _)
      have HNM : Hid (C.m ≤ C.m) := hn
      clear hlt m63 hn hnm
      obtain ⟨w5, hw5⟩ : ∃ w5, w4.alloc (.cells #[.int .i64 p.ki, .slice v.pp p.np v.pc, .slice v.tp p.nq v.tc, .slice v.sp p.ns v.sc, .int .u64 p.sd, .int .u64 p.lk, .int .u64 ed, .int .i64 p.bu, .int .i64 p.fu] 27) = w5 := ⟨_, rfl⟩
      obtain ⟨hb5', hx5, hsz5⟩ := boxed _ _ _ hw5
      have hb5 : Below wb.heap.size wb w5 := H4.out.2.2.2.2.2.2.2.2.2.trans (hb5'.mono H4.out.2.2.2.2.2.2.2.2.2.size)
      have HW5 : Hid (w4.alloc (.cells #[.int .i64 p.ki, .slice v.pp p.np v.pc, .slice v.tp p.nq v.tc, .slice v.sp p.ns v.sc, .int .u64 p.sd, .int .u64 p.lk, .int .u64 ed, .int .i64 p.bu, .int .i64 p.fu] 27) = w5) := hw5
      have e0 : w5.cell? ⟨w4.heap.size, 0, none⟩ = some (.int .i64 p.ki) := cell_in hx5 rfl
      have e1 : w5.cell? ⟨w4.heap.size, 1, none⟩ = some (.slice v.pp p.np v.pc) := cell_in hx5 rfl
      have e2 : w5.cell? ⟨w4.heap.size, 2, none⟩ = some (.slice v.tp p.nq v.tc) := cell_in hx5 rfl
      have e3 : w5.cell? ⟨w4.heap.size, 3, none⟩ = some (.slice v.sp p.ns v.sc) := cell_in hx5 rfl
      have e4 : w5.cell? ⟨w4.heap.size, 4, none⟩ = some (.int .u64 p.sd) := cell_in hx5 rfl
      have e5 : w5.cell? ⟨w4.heap.size, 5, none⟩ = some (.int .u64 p.lk) := cell_in hx5 rfl
      have e6 : w5.cell? ⟨w4.heap.size, 6, none⟩ = some (.int .u64 ed) := cell_in hx5 rfl
      have e7 : w5.cell? ⟨w4.heap.size, 7, none⟩ = some (.int .i64 p.bu) := cell_in hx5 rfl
      have e8 : w5.cell? ⟨w4.heap.size, 8, none⟩ = some (.int .i64 p.fu) := cell_in hx5 rfl
      clear hw5 hsz5
      go_upto_region 11 with fail
      rw [HW5.out]
      clear f0 f1 f2 f3 f4 f5 f6 f7 f8 a0 a2 a7
      go_upto_region 12 with (go_at_call 15; (with_reducible refine (HQ w5 hb5).out.mono ?_); rintro e w7 ⟨C', k', cd', x', q1', c1', CC', q3', c3', he1, ho1, hk1, rfl, ⟨b', rb', hlb, hrs⟩, hb7'⟩)
      obtain ⟨w6, hw6⟩ : ∃ w6, w7.alloc (.cells #[.int .i64 k', .int .i64 cd', .int .u64 x'.t, .int .i64 x'.s, .int .u64 x'.q, .int .i64 0, .slice q1' p.nq c1', .slice q3' C'.m c3'] 36) = w6 := ⟨_, rfl⟩
      obtain ⟨hb6', hx6, hsz6⟩ := boxed _ _ _ hw6
      rw [hw6]
      obtain ⟨g6, hg6⟩ : ∃ g6, w7.heap.size = g6 := ⟨_, rfl⟩
      rw [hg6] at hx6 ⊢
      have hb47 : Below w4.heap.size w4 w7 := hb5'.trans (hb7'.mono hb5'.size)
      have hb46 : Below w4.heap.size w4 w6 := hb47.trans (hb6'.mono hb47.size)
      obtain ⟨z1, z2, z3, z4, z5, z6, z7, z8, z9, z10⟩ := H4.out
      have hbw : Below w.heap.size w w6 := HB.out.trans ((z10.trans (hb46.mono z10.size)).mono HB.out.size)
      have hx46 := (hb46.block g4 z9).trans z3
      have hS := z4.below hb46
      have hT := z6.below hb46
      have hS' : SsAt w6 q1' p.nq CC' C'.K := hrs.ss.below hb6'
      have hT' : SIn w6 q3' C'.m C'.Z := hrs.tr.below hb6'
      have hE' : ∀ j, j < p.nq → (CC' j).n = p.nw j ∧ (CC' j).d = C'.d j ∧ (CC' j).s = C'.s j := hrs.eq
      obtain ⟨⟨hm', hz'⟩, he2, he3, he4, he5⟩ := end_end HLE.out z1 he1 z2 hk1 HNM.out HLT.out HTT.out
      have HBW : Hid (Below w.heap.size w w6) := hbw
      rw [hm'] at hT' hx6
      have HG : Hid (∀ W, Below w6.heap.size w6 W → W.cell? ⟨g4, 0, none⟩ = some (.int .i64 k) ∧ W.cell? ⟨g4, 1, none⟩ = some (.int .i64 cd) ∧ W.cell? ⟨g4, 2, none⟩ = some (.int .u64 x.t) ∧ W.cell? ⟨g4, 3, none⟩ = some (.int .i64 x.s) ∧ W.cell? ⟨g4, 4, none⟩ = some (.int .u64 x.q) ∧ W.cell? ⟨g4, 5, none⟩ = some (.int .i64 0) ∧ W.cell? ⟨g4, 6, none⟩ = some (.slice q1 p.nq c1) ∧ W.cell? ⟨g4, 7, none⟩ = some (.slice q3 C.m c3) ∧ W.cell? ⟨g6, 0, none⟩ = some (.int .i64 k') ∧ W.cell? ⟨g6, 1, none⟩ = some (.int .i64 cd') ∧ W.cell? ⟨g6, 2, none⟩ = some (.int .u64 x'.t) ∧ W.cell? ⟨g6, 3, none⟩ = some (.int .i64 x'.s) ∧ W.cell? ⟨g6, 4, none⟩ = some (.int .u64 x'.q) ∧ W.cell? ⟨g6, 5, none⟩ = some (.int .i64 0) ∧ W.cell? ⟨g6, 6, none⟩ = some (.slice q1' p.nq c1') ∧ W.cell? ⟨g6, 7, none⟩ = some (.slice q3' C.m c3')) := fun W hb => by
        have e4 := (hb.block _ (lt_of_block hx46)).trans hx46
        have e6 := (hb.block _ (lt_of_block hx6)).trans hx6
        exact ⟨cell_in e4 rfl, cell_in e4 rfl, cell_in e4 rfl, cell_in e4 rfl, cell_in e4 rfl, cell_in e4 rfl, cell_in e4 rfl, cell_in e4 rfl, cell_in e6 rfl, cell_in e6 rfl, cell_in e6 rfl, cell_in e6 rfl, cell_in e6 rfl, cell_in e6 rfl, cell_in e6 rfl, cell_in e6 rfl⟩
      have HSE : ∀ W, Below w6.heap.size w6 W → Hid (Calls Tryz.prog 16 #[.slice q3' C.m c3', .slice q3 C.m c3] W fun e w' => e = .returned (.bool true) ∧ Below W.heap.size W w') := fun W hb => sEvents_yes C.m C.Z q3' q3 c3' c3 (by have := HNM.out; omega) W ((hT'.congr fun j hj => hz' j hj).below hb) ((hT.take HNM.out).below hb)
      have HLL : Hid ((∀ j, j < p.nq → (CC j).n = p.nw j ∧ (CC j).d = C.d j ∧ (CC j).s = C.s j) ∧ SsAt w6 q1 p.nq CC C.K ∧ SIn w6 q3 C.m C.Z ∧ SsAt w6 q1' p.nq CC' C'.K ∧ SIn w6 q3' C.m C'.Z ∧ (∀ j, j < p.nq → (CC' j).n = p.nw j ∧ (CC' j).d = C'.d j ∧ (CC' j).s = C'.s j) ∧ (C.m : Int) ≤ 4096) := ⟨z5, hS, hT, hS', hT', hE', z8⟩
      have hcp : C.m ≤ c3 := z7
      clear hw6 hb6' hx6 hsz6 hg6 hb46 hb47 hbw z1 z2 z3 z4 z5 z6 z7 z8 z9 z10 hx46 hS hT hS' hT' hE' hrs hlb he1 hk1 ho1 hb7' hb5' hb5 hx5 H4 HQ KK HW5 HLE e0 e1 e2 e3 e4 e5 e6 e7 e8
      have n0 : (0 : Int) ≤ (C.m : Int) := by omega
      have n1 : (C.m : Int) ≤ (c3 : Int) := by omega
      have HNQ : Hid (c3 = 0 ∨ ¬ c3 = 0) := Classical.em _
      clear hcp
      by_cases hk1 : k = 1
      case pos =>
        subst hk1
        obtain rfl : k' = 1 := he2 (.inr (.inl rfl))
        clear he2 he3 he4 he5 hz' hm'
        have hbd : Below w6.heap.size w6 w6.drew := (Below.refl _ w6).drew
        have KS : ∀ W, Below w6.heap.size w6 W → (W.cell? ⟨g6, 7, none⟩ = some (.slice q3' C.m c3') ∧ W.cell? ⟨g4, 7, none⟩ = some (.slice q3 C.m c3)) := fun W hb => by
          have h9 := HG.out W hb
          exact ⟨h9.2.2.2.2.2.2.2.2.2.2.2.2.2.2.2, h9.2.2.2.2.2.2.2.1⟩
        have KP0 := KS _ hbd
        have HSD := (HSE _ hbd).out
        go_region_held3 (fun w9 => (w9.cell? ⟨g6, 7, none⟩ = some (.slice q3' C.m c3') ∧ w9.cell? ⟨g4, 7, none⟩ = some (.slice q3 C.m c3))) (first | with_reducible exact KP0 | with_reducible exact KP1 | go_keep) (first | (go_at_call 16; (with_reducible refine HSD.mono ?_); rintro e w8 ⟨rfl, hb8'⟩; have hb8 : Below w6.heap.size w6 w8 := hbd.trans (hb8'.mono hbd.size); have KP1 := KS w8 hb8; obtain ⟨a0, a1, a2, a3, a4, a5, a6, a7, b0, b1, b2, b3, b4, b5, b6, b7⟩ := HG.out w8 hb8))
        all_goals (
          go_wp2_with fail
          go_ret
          exact ⟨rfl, HBW.out.trans (hb8.mono HBW.out.size)⟩)
      by_cases hk2 : k = 2
      case pos =>
        subst hk2
        have h9 := he3 rfl rfl
        clear he2 he3 he4 he5 hz' hm'
        by_cases hk3 : k' = 2
        case pos =>
          subst hk3
          have hbd : Below w6.heap.size w6 w6.drew := (Below.refl _ w6).drew
          have KS : ∀ W, Below w6.heap.size w6 W → (W.cell? ⟨g6, 7, none⟩ = some (.slice q3' C.m c3') ∧ W.cell? ⟨g4, 7, none⟩ = some (.slice q3 C.m c3)) := fun W hb => by
            have h9 := HG.out W hb
            exact ⟨h9.2.2.2.2.2.2.2.2.2.2.2.2.2.2.2, h9.2.2.2.2.2.2.2.1⟩
          have KP0 := KS _ hbd
          have HSD := (HSE _ hbd).out
          go_region_held3 (fun w9 => (w9.cell? ⟨g6, 7, none⟩ = some (.slice q3' C.m c3') ∧ w9.cell? ⟨g4, 7, none⟩ = some (.slice q3 C.m c3))) (first | with_reducible exact KP0 | with_reducible exact KP1 | go_keep) (first | (go_at_call 16; (with_reducible refine HSD.mono ?_); rintro e w8 ⟨rfl, hb8'⟩; have hb8 : Below w6.heap.size w6 w8 := hbd.trans (hb8'.mono hbd.size); have KP1 := KS w8 hb8; obtain ⟨a0, a1, a2, a3, a4, a5, a6, a7, b0, b1, b2, b3, b4, b5, b6, b7⟩ := HG.out w8 hb8))
          all_goals (
            go_wp2_with fail
            go_ret
            exact ⟨rfl, HBW.out.trans (hb8.mono HBW.out.size)⟩)
        obtain rfl : k' = 1 := h9.resolve_left hk3
        clear h9 hk3
        have hbd : Below w6.heap.size w6 w6.drew := (Below.refl _ w6).drew
        have KS : ∀ W, Below w6.heap.size w6 W → (W.cell? ⟨g6, 7, none⟩ = some (.slice q3' C.m c3') ∧ W.cell? ⟨g4, 7, none⟩ = some (.slice q3 C.m c3)) := fun W hb => by
          have h9 := HG.out W hb
          exact ⟨h9.2.2.2.2.2.2.2.2.2.2.2.2.2.2.2, h9.2.2.2.2.2.2.2.1⟩
        have KP0 := KS _ hbd
        have HSD := (HSE _ hbd).out
        go_region_held3 (fun w9 => (w9.cell? ⟨g6, 7, none⟩ = some (.slice q3' C.m c3') ∧ w9.cell? ⟨g4, 7, none⟩ = some (.slice q3 C.m c3))) (first | with_reducible exact KP0 | with_reducible exact KP1 | go_keep) (first | (go_at_call 16; (with_reducible refine HSD.mono ?_); rintro e w8 ⟨rfl, hb8'⟩; have hb8 : Below w6.heap.size w6 w8 := hbd.trans (hb8'.mono hbd.size); have KP1 := KS w8 hb8; obtain ⟨a0, a1, a2, a3, a4, a5, a6, a7, b0, b1, b2, b3, b4, b5, b6, b7⟩ := HG.out w8 hb8))
        all_goals (
          go_wp2_with fail
          go_ret
          exact ⟨rfl, HBW.out.trans (hb8.mono HBW.out.size)⟩)
      obtain rfl : k = 3 := (he5.resolve_left hk1).resolve_left hk2
      clear hk1 hk2
      by_cases hxe : ed ≤ x.t
      case pos =>
        have d2 : decide (x.t ≥ ed) = true := decide_eq_true hxe
        have d3 : decide (ed ≤ x.t) = true := decide_eq_true hxe
        obtain rfl : k' = 1 := he2 (.inr (.inr ⟨rfl, hxe⟩))
        clear he2 he3 he4 he5 hz' hm'
        clear hxe
        have hbd : Below w6.heap.size w6 w6.drew := (Below.refl _ w6).drew
        have KS : ∀ W, Below w6.heap.size w6 W → (W.cell? ⟨g6, 7, none⟩ = some (.slice q3' C.m c3') ∧ W.cell? ⟨g4, 7, none⟩ = some (.slice q3 C.m c3)) := fun W hb => by
          have h9 := HG.out W hb
          exact ⟨h9.2.2.2.2.2.2.2.2.2.2.2.2.2.2.2, h9.2.2.2.2.2.2.2.1⟩
        have KP0 := KS _ hbd
        have HSD := (HSE _ hbd).out
        go_region_held3 (fun w9 => (w9.cell? ⟨g6, 7, none⟩ = some (.slice q3' C.m c3') ∧ w9.cell? ⟨g4, 7, none⟩ = some (.slice q3 C.m c3))) (first | with_reducible exact KP0 | with_reducible exact KP1 | go_keep) (first | (go_at_call 16; (with_reducible refine HSD.mono ?_); rintro e w8 ⟨rfl, hb8'⟩; have hb8 : Below w6.heap.size w6 w8 := hbd.trans (hb8'.mono hbd.size); have KP1 := KS w8 hb8; obtain ⟨a0, a1, a2, a3, a4, a5, a6, a7, b0, b1, b2, b3, b4, b5, b6, b7⟩ := HG.out w8 hb8))
        all_goals (
          go_wp2_with fail
          go_ret
          exact ⟨rfl, HBW.out.trans (hb8.mono HBW.out.size)⟩)
      have d2 : decide (x.t ≥ ed) = false := decide_eq_false hxe
      have d3 : decide (ed ≤ x.t) = false := decide_eq_false hxe
      obtain ⟨hC, hk2, hc2, hx2⟩ := he4 rfl rfl (by omega)
      subst hC
      subst hc2
      subst hx2
      subst hk2
      obtain ⟨y1, y2, y3, y4, y5, y6, y7⟩ := HLL.out
      have HSR : ∀ W, Below w6.heap.size w6 W → Hid (Calls Tryz.prog 17 #[.agg #[.int .i64 3, .int .i64 cd', .int .u64 x'.t, .int .i64 x'.s, .int .u64 x'.q, .int .i64 0, .slice q1' p.nq c1', .slice q3' C'.m c3'], .agg #[.int .i64 3, .int .i64 cd', .int .u64 x'.t, .int .i64 x'.s, .int .u64 x'.q, .int .i64 0, .slice q1 p.nq c1, .slice q3 C'.m c3]] W fun e w' => e = .returned (.bool true) ∧ Below W.heap.size W w') := fun W hb => sameResult_yes 3 cd' x'.t x'.s x'.q p.nq C'.m CC' CC C'.K C'.Z q1' q3' q1 q3 c1' c3' c1 c3 (by have := HBU.out.1; omega) (fun j hj => by rw [(y6 j hj).1]; exact HBU.out.2 j hj) (fun j hj => by obtain ⟨u1, u2, u3⟩ := y1 j hj; obtain ⟨v1, v2, v3⟩ := y6 j hj; exact ⟨u1.trans v1.symm, u2.trans v2.symm, u3.trans v3.symm⟩) (by omega) W (y4.below hb) (y2.below hb) (y5.below hb) (y3.below hb)
      clear y1 y2 y3 y4 y5 y6 y7 he2 he3 he4 he5 hz' hm' hxe HLL
      have hbd : Below w6.heap.size w6 w6.drew := (Below.refl _ w6).drew
      have KS : ∀ W, Below w6.heap.size w6 W → (W.cell? ⟨g6, 7, none⟩ = some (.slice q3' C'.m c3') ∧ W.cell? ⟨g4, 7, none⟩ = some (.slice q3 C'.m c3)) := fun W hb => by
        have h9 := HG.out W hb
        exact ⟨h9.2.2.2.2.2.2.2.2.2.2.2.2.2.2.2, h9.2.2.2.2.2.2.2.1⟩
      have KP0 := KS _ hbd
      have HSD := (HSE _ hbd).out
      go_region_held3 (fun w9 => (w9.cell? ⟨g6, 7, none⟩ = some (.slice q3' C'.m c3') ∧ w9.cell? ⟨g4, 7, none⟩ = some (.slice q3 C'.m c3))) (first | with_reducible exact KP0 | with_reducible exact KP1 | go_keep) (first | (go_at_call 16; (with_reducible refine HSD.mono ?_); rintro e w8 ⟨rfl, hb8'⟩; have hb8 : Below w6.heap.size w6 w8 := hbd.trans (hb8'.mono hbd.size); have KP1 := KS w8 hb8; obtain ⟨a0, a1, a2, a3, a4, a5, a6, a7, b0, b1, b2, b3, b4, b5, b6, b7⟩ := HG.out w8 hb8))
      all_goals (
        go_wp2_with (go_at_call 17; (with_reducible refine (HSR w8 hb8).out.mono ?_); rintro e w9 ⟨rfl, hb9⟩)
        go_ret
        exact ⟨rfl, HBW.out.trans ((hb8.trans (hb9.mono hb8.size)).mono HBW.out.size)⟩)
theorem ends_law (p : Pl) (v : PlV) (w : World) (h : PlAt w p v) (hr : RoomyL p) (hok : VC p 0 → PlOk p) (ed : Int) : Calls Tryz.prog 3 #[.agg #[.int .i64 p.ki, .slice v.pp p.np v.pc, .slice v.tp p.nq v.tc, .slice v.sp p.ns v.sc, .int .u64 p.sd, .int .u64 p.lk, .int .u64 p.en, .int .i64 p.bu, .int .i64 p.fu], .int .u64 ed] w fun e w' => e = .returned (.bool true) ∧ Below w.heap.size w w' := by
  obtain ⟨c0, hc0⟩ := VC.some p
  by_cases hz : c0 = 0
  · by_cases hed : ed ≤ p.en
    · subst hz
      exact ends_good p v w h hr (hok hc0) ed hed
    · exact ends_far p v w h c0 hc0 hz ed (by omega)
  · exact ends_bad p v w h c0 hc0 hz ed
end Go.Proofs.YtagchghhpggnlaaGreat
